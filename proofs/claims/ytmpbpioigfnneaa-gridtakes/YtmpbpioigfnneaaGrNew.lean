/- grid's New: a grid of which nothing is used, in a block of its own. -/
import Derived.Test.YtmpbpioigfnneaaGrPut
import Derived.Laws.Tables
namespace Go.Proofs.Ytmpbpioigfnneaa
set_option maxRecDepth 20000
open Go.RowKit

def gridZ (n : Int) : Array Value := (.int .i64 n :: rowF 448 fun _ => .int .u8 0).toArray
theorem info_grid : (Try.prog.info? 58).bind (fun i => i.zero) = some (.agg (gridZ 0)) := by kernel_rfl
theorem zero_grid (w : World) : (zeroValue 58).run Try.prog w = .ok (.agg (gridZ 0)) w := by
  have h := info_grid
  obtain ⟨i0, hi, hz⟩ := Option.bind_eq_some_iff.1 h
  simp [zeroValue, typeInfo, hi, hz]
theorem gridZ_ne : ¬ gridZ 0 = #[] := by simp [gridZ]
theorem gridZ_set (n : Int) : (gridZ 0).setIfInBounds 0 (.int .i64 n) = gridZ n := by simp [gridZ]
def noneU : Nat → Bool := fun _ => false
theorem gByte_none (k : Nat) : gByte noneU k = 0 := rfl
set_option maxHeartbeats 400000 in
theorem gnew_bad (n : Int) (hn : n < 0 ∨ 3584 < n) (w : World) :
    Calls Try.prog 9 #[.int .i64 n] w fun e w' => e = .returned (.tuple #[.pointer none, .int .i64 1]) ∧ w' = w := by
  rcases hn with h | h
  · go_enter Try.func9, Try.ntmps9
    go_wp2
    go_ret2
    exact ⟨rfl, rfl⟩
  · have h0 : ¬ n < 0 := by omega
    go_enter Try.func9, Try.ntmps9
    go_wp2
    go_ret2
    exact ⟨rfl, rfl⟩
set_option maxHeartbeats 1000000 in
theorem gnew_any (n : Nat) (hn : n ≤ 3584) (w : World) :
    Calls Try.prog 9 #[.int .i64 (n : Int)] w fun e w' => e = .returned (.tuple #[.pointer (some ⟨w.heap.size, 0, none⟩), .int .i64 0]) ∧ GridAt w' w.heap.size n noneU ∧ Below w.heap.size w w' ∧ w'.heap.size = w.heap.size + 1 := by
  have hz := zero_grid
  have hne := gridZ_ne
  have HZ : Hid (∀ w : World, GridAt (w.alloc (.cells ((gridZ 0).setIfInBounds 0 (.int .i64 (n : Int))) 58)) w.heap.size n noneU) := fun w => by rw [gridZ_set]; exact heap_alloc_new w _
  generalize gridZ 0 = zs at *
  have i0 : ¬ (n : Int) < 0 := by omega
  have i1 : ¬ (3584 : Int) < n := by omega
  go_enter Try.func9, Try.ntmps9
  go_wp2
  go_ret2
  exact ⟨rfl, HZ.out w, (Below.refl _ _).alloc (Nat.le_refl _) _, by simp⟩
end Go.Proofs.Ytmpbpioigfnneaa
