/- A new ideal vault has numbered nothing; and chapter 5's example. -/
import Derived.Test.YtkopbpbmfdogfaaDoorVtVault
namespace Go.Proofs.YtkopbpbmfdogfaaDoor
set_option maxRecDepth 20000
open Go.RowKit Go.Maps

def newV : VS := ⟨[], [], []⟩
theorem heap_map_new (w : World) (o : Obj) : (w.alloc o).heap[w.heap.size]? = some o := (MapKept.heap_alloc w o).1
set_option maxHeartbeats 1000000 in
theorem newN_any (w : World) : Calls Tryd.prog 10 #[] w fun e w' => e = .returned (.pointer (some ⟨w.heap.size + 3, 0, none⟩)) ∧ w' = (((w.alloc (.map #[] 0)).alloc (.map #[] 0)).alloc (.map #[] 0)).alloc (.cells #[.map (some w.heap.size), .map (some (w.heap.size + 1)), .map (some (w.heap.size + 2))] 59) := by
  have hmm := @run_makeMap Tryd.prog
  go_enter Tryd.func10, Tryd.ntmps10
  go_wp2
  go_ret
  exact ⟨rfl, rfl⟩

theorem nums_alloc {α : Type} [DecidableEq α] {key : α → Value} {K : TypeId} {w : World} {b : Nat} {l : List α} (h : Nums key K w b l) (o : Obj) : Nums key K (w.alloc o) b l := h.keep (Below.heap_alloc w o b h.lt)
theorem ideal_lies (w : World) : Ideal (((((w.alloc (.map #[] 0)).alloc (.map #[] 0)).alloc (.map #[] 0)).alloc (.cells #[.map (some w.heap.size), .map (some (w.heap.size + 1)), .map (some (w.heap.size + 2))] 59)).alloc (.cells #[.iface 41 (.pointer (some ⟨w.heap.size + 3, 0, none⟩))] 46)) (fun k => w.heap.size ≤ k ∧ k < w.heap.size + 5) (w.heap.size + 4) newV := by
  have s1 : (w.alloc (.map #[] 0)).heap.size = w.heap.size + 1 := by simp
  have s2 : ((w.alloc (.map #[] 0)).alloc (.map #[] 0)).heap.size = w.heap.size + 2 := by simp
  have s3 : (((w.alloc (.map #[] 0)).alloc (.map #[] 0)).alloc (.map #[] 0)).heap.size = w.heap.size + 3 := by simp
  have s4 : ((((w.alloc (.map #[] 0)).alloc (.map #[] 0)).alloc (.map #[] 0)).alloc (.cells #[.map (some w.heap.size), .map (some (w.heap.size + 1)), .map (some (w.heap.size + 2))] 59)).heap.size = w.heap.size + 4 := by simp
  have n1 := Nums.made keyT 153 w
  have n2 := Nums.made keyM 155 (w.alloc (.map #[] 0))
  have n3 := Nums.made keyS 146 ((w.alloc (.map #[] 0)).alloc (.map #[] 0))
  rw [s1] at n2
  rw [s2] at n3
  refine ⟨w.heap.size + 3, w.heap.size, w.heap.size + 1, w.heap.size + 2, ?_, ?_, nums_alloc (nums_alloc (nums_alloc (nums_alloc n1 _) _) _) _, nums_alloc (nums_alloc (nums_alloc n2 _) _) _, nums_alloc (nums_alloc n3 _) _, by omega, by omega, by omega, by omega, by omega, by omega, by omega, by omega⟩
  · have := heap_map_new ((((w.alloc (.map #[] 0)).alloc (.map #[] 0)).alloc (.map #[] 0)).alloc (.cells #[.map (some w.heap.size), .map (some (w.heap.size + 1)), .map (some (w.heap.size + 2))] 59)) (.cells #[.iface 41 (.pointer (some ⟨w.heap.size + 3, 0, none⟩))] 46)
    rw [s4] at this
    exact this
  · have := heap_map_new (((w.alloc (.map #[] 0)).alloc (.map #[] 0)).alloc (.map #[] 0)) (.cells #[.map (some w.heap.size), .map (some (w.heap.size + 1)), .map (some (w.heap.size + 2))] 59)
    rw [s3] at this
    exact (Below.heap_alloc _ _ _ (by omega)).trans this
theorem ideal_any (w : World) : Calls Tryd.prog 4 #[] w fun e w' => ∃ B, e = .returned (.pointer (some ⟨B, 0, none⟩)) ∧ Ideal w' (fun k => w.heap.size ≤ k ∧ k < w'.heap.size) B newV ∧ Below w.heap.size w w' := by
  have HI : Hid _ := ideal_lies w
  have HB : Hid (Below w.heap.size w (((((w.alloc (.map #[] 0)).alloc (.map #[] 0)).alloc (.map #[] 0)).alloc (.cells #[.map (some w.heap.size), .map (some (w.heap.size + 1)), .map (some (w.heap.size + 2))] 59)).alloc (.cells #[.iface 41 (.pointer (some ⟨w.heap.size + 3, 0, none⟩))] 46))) :=
    (((((Below.refl w.heap.size w).alloc (Nat.le_refl _) _).alloc (by simp) _).alloc (by simp; omega) _).alloc (by simp; omega) _).alloc (by simp; omega) _
  go_enter Tryd.func4, Tryd.ntmps4
  go_wp2_with fail
  refine (newN_any w).mono ?_
  rintro e w1 ⟨rfl, rfl⟩
  go_wp2
  go_ret
  refine ⟨w.heap.size + 4, rfl, ?_, HB.out⟩
  refine Ideal.mono HI.out fun k _ h => ⟨h.1, ?_⟩
  have := h.2
  simp
  omega
theorem awake_1 : hashS newV ⟨#[120]⟩ = ⟨#[1, 0, 0, 0, 0, 0, 0, 0, 0, 0, 0, 0, 0, 0, 0, 0, 0, 0, 0, 0, 0, 0, 0, 0, 0, 0, 0, 0, 0, 0, 0, 0]⟩ := by decide
theorem awake_2 : hashS (hashP newV ⟨#[120]⟩) ⟨#[121]⟩ = ⟨#[2, 0, 0, 0, 0, 0, 0, 0, 0, 0, 0, 0, 0, 0, 0, 0, 0, 0, 0, 0, 0, 0, 0, 0, 0, 0, 0, 0, 0, 0, 0, 0]⟩ := by decide
theorem awake_3 : hashS (hashP (hashP newV ⟨#[120]⟩) ⟨#[121]⟩) ⟨#[120]⟩ = ⟨#[1, 0, 0, 0, 0, 0, 0, 0, 0, 0, 0, 0, 0, 0, 0, 0, 0, 0, 0, 0, 0, 0, 0, 0, 0, 0, 0, 0, 0, 0, 0, 0]⟩ := by decide
theorem awake_l : (hashP newV ⟨#[120]⟩).texts.length ≤ 1000000 ∧ (hashP (hashP newV ⟨#[120]⟩) ⟨#[121]⟩).texts.length ≤ 1000000 := by decide
end Go.Proofs.YtkopbpbmfdogfaaDoor
