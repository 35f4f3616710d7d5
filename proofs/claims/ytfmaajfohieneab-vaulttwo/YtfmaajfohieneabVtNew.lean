/- A new ideal vault has numbered nothing; and chapter 5's example. -/
import Derived.Test.YtfmaajfohieneabVtVault
namespace Go.Proofs.Ytfmaajfohieneab
open Go.RowKit Go.Maps

def newV : VS := ⟨[], [], []⟩
theorem heap_map_new (w : World) (o : Obj) : (w.alloc o).heap[w.heap.size]? = some o := (MapKept.heap_alloc w o).1
set_option maxHeartbeats 1000000 in
theorem newN_any (w : World) : Calls Try.prog 13 #[] w fun e w' => e = .returned (.pointer (some ⟨w.heap.size + 3, 0, none⟩)) ∧ w' = (((w.alloc (.map #[] 0)).alloc (.map #[] 0)).alloc (.map #[] 0)).alloc (.cells #[.map (some w.heap.size), .map (some (w.heap.size + 1)), .map (some (w.heap.size + 2))] 55) := by
  have hmm := @run_makeMap Try.prog
  go_enter Try.func13, Try.ntmps13
  go_wp2
  go_ret
  exact ⟨rfl, rfl⟩

theorem nums_alloc {α : Type} [DecidableEq α] {key : α → Value} {K : TypeId} {w : World} {b : Nat} {l : List α} (h : Nums key K w b l) (o : Obj) : Nums key K (w.alloc o) b l := h.keep (Below.heap_alloc w o b h.lt)
theorem ideal_lies (w : World) : Ideal (((((w.alloc (.map #[] 0)).alloc (.map #[] 0)).alloc (.map #[] 0)).alloc (.cells #[.map (some w.heap.size), .map (some (w.heap.size + 1)), .map (some (w.heap.size + 2))] 55)).alloc (.cells #[.iface 47 (.pointer (some ⟨w.heap.size + 3, 0, none⟩))] 39)) (fun k => w.heap.size ≤ k ∧ k < w.heap.size + 5) (w.heap.size + 4) newV := by
  have s1 : (w.alloc (.map #[] 0)).heap.size = w.heap.size + 1 := by simp
  have s2 : ((w.alloc (.map #[] 0)).alloc (.map #[] 0)).heap.size = w.heap.size + 2 := by simp
  have s3 : (((w.alloc (.map #[] 0)).alloc (.map #[] 0)).alloc (.map #[] 0)).heap.size = w.heap.size + 3 := by simp
  have s4 : ((((w.alloc (.map #[] 0)).alloc (.map #[] 0)).alloc (.map #[] 0)).alloc (.cells #[.map (some w.heap.size), .map (some (w.heap.size + 1)), .map (some (w.heap.size + 2))] 55)).heap.size = w.heap.size + 4 := by simp
  have n1 := Nums.made keyT 103 w
  have n2 := Nums.made keyM 106 (w.alloc (.map #[] 0))
  have n3 := Nums.made keyS 110 ((w.alloc (.map #[] 0)).alloc (.map #[] 0))
  rw [s1] at n2
  rw [s2] at n3
  refine ⟨w.heap.size + 3, w.heap.size, w.heap.size + 1, w.heap.size + 2, ?_, ?_, nums_alloc (nums_alloc (nums_alloc (nums_alloc n1 _) _) _) _, nums_alloc (nums_alloc (nums_alloc n2 _) _) _, nums_alloc (nums_alloc n3 _) _, by omega, by omega, by omega, by omega, by omega, by omega, by omega, by omega⟩
  · have := heap_map_new ((((w.alloc (.map #[] 0)).alloc (.map #[] 0)).alloc (.map #[] 0)).alloc (.cells #[.map (some w.heap.size), .map (some (w.heap.size + 1)), .map (some (w.heap.size + 2))] 55)) (.cells #[.iface 47 (.pointer (some ⟨w.heap.size + 3, 0, none⟩))] 39)
    rw [s4] at this
    exact this
  · have := heap_map_new (((w.alloc (.map #[] 0)).alloc (.map #[] 0)).alloc (.map #[] 0)) (.cells #[.map (some w.heap.size), .map (some (w.heap.size + 1)), .map (some (w.heap.size + 2))] 55)
    rw [s3] at this
    exact (Below.heap_alloc _ _ _ (by omega)).trans this
theorem ideal_any (w : World) : Calls Try.prog 5 #[] w fun e w' => ∃ B, e = .returned (.pointer (some ⟨B, 0, none⟩)) ∧ Ideal w' (fun k => w.heap.size ≤ k ∧ k < w'.heap.size) B newV ∧ Below w.heap.size w w' := by
  have HI : Hid _ := ideal_lies w
  have HB : Hid (Below w.heap.size w (((((w.alloc (.map #[] 0)).alloc (.map #[] 0)).alloc (.map #[] 0)).alloc (.cells #[.map (some w.heap.size), .map (some (w.heap.size + 1)), .map (some (w.heap.size + 2))] 55)).alloc (.cells #[.iface 47 (.pointer (some ⟨w.heap.size + 3, 0, none⟩))] 39))) :=
    (((((Below.refl w.heap.size w).alloc (Nat.le_refl _) _).alloc (by simp) _).alloc (by simp; omega) _).alloc (by simp; omega) _).alloc (by simp; omega) _
  go_enter Try.func5, Try.ntmps5
  go_wp2_with fail
  refine (newN_any w).mono ?_
  rintro e w1 ⟨rfl, rfl⟩
  go_wp2
  go_ret
  refine ⟨w.heap.size + 4, rfl, ?_, HB.out⟩
  refine Ideal.mono HI.out fun k _ h => ⟨h.1, ?_⟩
  have := h.2
  simp
  omega
theorem awake_1 : hashS newV ⟨#[120]⟩ = ⟨#[1, 0, 0, 0, 0, 0, 0, 0, 0, 0, 0, 0, 0, 0, 0, 0, 0, 0, 0, 0, 0, 0, 0, 0, 0, 0, 0, 0, 0, 0, 0, 0]⟩ := by decide
theorem awake_2 : hashS (hashP newV ⟨#[120]⟩) ⟨#[121]⟩ = ⟨#[2, 0, 0, 0, 0, 0, 0, 0, 0, 0, 0, 0, 0, 0, 0, 0, 0, 0, 0, 0, 0, 0, 0, 0, 0, 0, 0, 0, 0, 0, 0, 0]⟩ := by decide
theorem awake_3 : hashS (hashP (hashP newV ⟨#[120]⟩) ⟨#[121]⟩) ⟨#[120]⟩ = ⟨#[1, 0, 0, 0, 0, 0, 0, 0, 0, 0, 0, 0, 0, 0, 0, 0, 0, 0, 0, 0, 0, 0, 0, 0, 0, 0, 0, 0, 0, 0, 0, 0]⟩ := by decide
theorem awake_l : (hashP newV ⟨#[120]⟩).texts.length ≤ 1000000 ∧ (hashP (hashP newV ⟨#[120]⟩) ⟨#[121]⟩).texts.length ≤ 1000000 := by decide
set_option maxHeartbeats 2000000 in
theorem awake_any (w : World) : Calls Try.prog 7 #[] w fun e w' => e = .returned (.bool true) ∧ Below w.heap.size w w' := by
  have h1 := fun B F w => vhash_any B F newV ⟨#[120]⟩ (by unfold fitT; decide) (by decide) w
  have h2 := fun B F w => vhash_any B F (hashP newV ⟨#[120]⟩) ⟨#[121]⟩ (by unfold fitT; decide) awake_l.1 w
  have h3 := fun B F w => vhash_any B F (hashP (hashP newV ⟨#[120]⟩) ⟨#[121]⟩) ⟨#[120]⟩ (by unfold fitT; decide) awake_l.2 w
  rw [awake_1] at h1
  rw [awake_2] at h2
  rw [awake_3] at h3
  go_enter Try.func7, Try.ntmps7
  go_wp2_with fail
  refine (ideal_any w).mono ?_
  rintro e w1 ⟨B, rfl, hp, hb⟩
  go_wp2_with fail
  refine (h1 B _ w1 hp).mono ?_
  rintro e w2 ⟨rfl, hp2, ht2⟩
  have hb2 := hb.trans (ht2.below hb.size fun k h => h.1)
  clear hp h1 hb ht2
  go_wp2_with fail
  refine (h2 B _ w2 hp2).mono ?_
  rintro e w3 ⟨rfl, hp3, ht3⟩
  have hb3 := hb2.trans (ht3.below hb2.size fun k h => h.1)
  clear hp2 h2 hb2 ht3
  go_wp2_with fail
  refine (h3 B _ w3 hp3).mono ?_
  rintro e w4 ⟨rfl, hp4, ht4⟩
  have HF : Hid (Below w.heap.size w w4) := hb3.trans (ht4.below hb3.size fun k h => h.1)
  clear hp3 h3 hb3 ht4 hp4
  go_wp2
  go_ret
  exact ⟨rfl, HF.out⟩
end Go.Proofs.Ytfmaajfohieneab
