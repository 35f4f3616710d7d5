/- The document's grid: New, Count, Free, Body, over a row of bools. -/
import Derived.Test.YtmpbpioigfnneaaGrTake
namespace Go.Proofs.Ytmpbpioigfnneaa
set_option maxRecDepth 20000
open Go.RowKit

/-- A row of n bools in block b. -/
def BoolsAt (w : World) (b n : Nat) (u : Nat → Bool) : Prop := Row w b 4 (rowF n fun i => .bool (u i))
theorem BoolsAt.lt {w : World} {b n : Nat} {u : Nat → Bool} (h : BoolsAt w b n u) : b < w.heap.size := Row.lt h
theorem BoolsAt.keep {w w' : World} {b n : Nat} {u : Nat → Bool} (h : BoolsAt w b n u) (k : w'.heap[b]? = w.heap[b]?) : BoolsAt w' b n u := k.trans h
theorem BoolsAt.cell {w : World} {b n : Nat} {u : Nat → Bool} (h : BoolsAt w b n u) (i : Nat) (hi : i < n) : w.cell? ⟨b, i, none⟩ = some (.bool (u i)) := Row.cellF h i hi
theorem BoolsAt.frozen {w : World} {b n : Nat} {u : Nat → Bool} (h : BoolsAt w b n u) (i : Nat) : w.frozen? ⟨b, i, none⟩ = false := Row.frozen h i
theorem BoolsAt.set {w : World} {b n : Nat} {u : Nat → Bool} (h : BoolsAt w b n u) (i : Nat) (x : Bool) : BoolsAt (w.setCell ⟨b, i, none⟩ (.bool x)) b n (putU u i x) := by
  refine Row.congr (Row.setF h i (.bool x)) (rowF_congr fun k _ => ?_)
  unfold putU
  by_cases e : k = i
  · rw [if_pos e, if_pos e]
  · rw [if_neg e, if_neg e]
theorem gr_info_bool : (Try.prog.info? 4).map (fun i => (i.zero, i.size, i.bytes)) = some (some (.bool false), 1, 1) := by kernel_rfl
theorem run_make_bools (n : Nat) (hn : n ≤ 3584) (w : World) : (Instr.makeSlice 26 (.int .i64 (n : Int)) (.int .i64 (n : Int))).run Try.prog w = .ok (.slice (some ⟨w.heap.size, 0, none⟩) n n) (w.alloc (.cells (madeCells #[.bool false] n) 4)) :=
  run_make_row' (P := Try.prog) 26 4 (.bool false) 1 Try.underlying26 gr_info_bool rfl .i64 .i64 n (by omega) (by omega) w
theorem made_bools (w : World) (n : Nat) : BoolsAt (w.alloc (.cells (madeCells #[.bool false] n) 4)) w.heap.size n noneU := by
  have e : (rowF n fun i => Value.bool (noneU i)) = List.replicate n (.bool false) := by
    rw [rowF]
    simp only [noneU]
    rw [List.map_const', List.length_range]
  unfold BoolsAt
  rw [e, Row, ← toList_madeCells_one]
  exact heap_alloc_new w _
theorem rnew_bad (n : Int) (hn : n < 0 ∨ 3584 < n) (w : World) :
    Calls Try.prog 10 #[.int .i64 n] w fun e w' => e = .returned (.tuple #[.slice none 0 0, .bool false]) ∧ w' = w := by
  rcases hn with h | h
  · go_enter Try.func10, Try.ntmps10
    go_wp2
    go_ret2
    exact ⟨rfl, rfl⟩
  · have h0 : ¬ n < 0 := by omega
    go_enter Try.func10, Try.ntmps10
    go_wp2
    go_ret2
    exact ⟨rfl, rfl⟩
theorem rnew_any (n : Nat) (hn : n ≤ 3584) (w : World) :
    Calls Try.prog 10 #[.int .i64 (n : Int)] w fun e w' => e = .returned (.tuple #[.slice (some ⟨w.heap.size, 0, none⟩) n n, .bool true]) ∧ BoolsAt w' w.heap.size n noneU ∧ Below w.heap.size w w' ∧ w'.heap.size = w.heap.size + 1 := by
  have hm := run_make_bools n hn
  have HM : Hid (BoolsAt (w.alloc (.cells (madeCells #[.bool false] n) 4)) w.heap.size n noneU) := made_bools w n
  have i0 : ¬ (n : Int) < 0 := by omega
  have i1 : ¬ (3584 : Int) < n := by omega
  go_enter Try.func10, Try.ntmps10
  go_wp2
  go_ret2
  exact ⟨rfl, HM.out, (Below.refl _ _).alloc (Nat.le_refl _) _, by simp⟩
set_option maxHeartbeats 1000000 in
theorem rcount_any (w : World) (b n : Nat) (u : Nat → Bool) (h : BoolsAt w b n u) (hn : n ≤ 3584) :
    Calls Try.prog 18 #[.slice (some ⟨b, 0, none⟩) n n] w fun e w' => e = .returned (.int .i64 ((cntU u n : Nat) : Int)) ∧ w' = w := by
  have HC : Hid (∀ i, i < n → w.cell? ⟨b, i, none⟩ = some (.bool (u i))) := fun i hi => h.cell i hi
  clear h
  go_enter Try.func18, Try.ntmps18
  go_wp2_with fail
  go_loopw [3, 4] (fun c v wr => ∃ j : Nat, j ≤ n ∧ v = .int .i64 (j : Int) ∧ c = .int .i64 ((cntU u j : Nat) : Int) ∧ wr = w) (fun _ v _ => n - (intOf v).toNat)
  case atStart => exact ⟨0, Nat.zero_le _, rfl, rfl, rfl⟩
  case round =>
    obtain ⟨j, hj, rfl, rfl, rfl⟩ := hrel
    by_cases hlt : j < n
    · have j1 : (j : Int) < (n : Nat) := by omega
      have hc := HC.out j hlt
      have hl := cntU_le u j
      have hs : cntU u (j + 1) = cntU u j + (u j).toNat := rfl
      have HS : Hid (cntU u (j + 1) = cntU u j + (u j).toNat) := hs
      clear hs
      generalize cntU u j = c at *
      generalize u j = y at *
      cases y
      · go_wp2
        go_roundw
        case rel => exact ⟨j + 1, by omega, by go_num, by rw [HS.out]; rfl, trivial⟩
        case measure => simp [intOf]; omega
      · go_wp2
        go_roundw
        case rel => exact ⟨j + 1, by omega, by go_num, by rw [HS.out]; go_num, trivial⟩
        case measure => simp [intOf]; omega
    · obtain rfl : j = n := by omega
      have j1 : ¬ (j : Int) < j := by omega
      go_wp2
      go_ret
      exact ⟨rfl, rfl⟩
end Go.Proofs.Ytmpbpioigfnneaa
