/- The things' clones: each is told again, and nothing that was there is changed. -/
import Derived.Test.YtkopbpbmfdogfaaDoorVtBase
namespace Go.Proofs.YtkopbpbmfdogfaaDoor
set_option maxRecDepth 20000
open Go.RowKit Go.Maps

theorem cloneB_any (s : ByteArray) (h : s.size ≤ 140737488355328) (w : World) :
    Calls Tryd.prog 25 #[.string s] w fun e w' => e = .returned (.string s) ∧ Below w.heap.size w w' := clone_any s w (by omega)
/-- Two new blocks: their places, and what a call that changes nothing of what was there leaves of them. -/
theorem two_new {w w1 : World} {x y : Array Value} {t u : TypeId} (hb : Below ((w.alloc (.cells x t)).alloc (.cells y u)).heap.size ((w.alloc (.cells x t)).alloc (.cells y u)) w1) :
    w1.heap[w.heap.size]? = some (.cells x t (0, 0)) ∧ w1.heap[w.heap.size + 1]? = some (.cells y u (0, 0)) ∧ Below w.heap.size w w1 := by
  have s1 : (w.alloc (.cells x t)).heap.size = w.heap.size + 1 := by simp
  have s2 : ((w.alloc (.cells x t)).alloc (.cells y u)).heap.size = w.heap.size + 2 := by simp
  rw [s2] at hb
  refine ⟨?_, ?_, ?_⟩
  · rw [hb.block _ (by omega), Below.heap_alloc _ _ _ (by omega)]
    exact heap_alloc_new w _
  · rw [hb.block _ (by omega), ← s1]
    exact heap_alloc_new _ _
  · have h0 := ((Below.refl w.heap.size w).alloc (Nat.le_refl _) (.cells x t)).alloc (by omega) (.cells y u)
    exact h0.trans (hb.mono (by omega))

set_option maxHeartbeats 1000000 in
theorem cloneT_any (s : ByteArray) (h : fitT s) (w : World) :
    Calls Tryd.prog 100 #[keyT s] w fun e w' => e = .returned (keyT s) ∧ Below w.heap.size w w' := by
  unfold fitT at h
  unfold keyT
  go_enter Tryd.func100, Tryd.ntmps100
  go_wp2_with fail
  refine (cloneB_any s h _).mono ?_
  rintro e w1 ⟨rfl, hb⟩
  obtain ⟨_, g1, hB⟩ := two_new hb
  clear hb
  have c1 : w1.cell? ⟨w.heap.size + 1, 0, none⟩ = some (.string ⟨#[]⟩) := cell_of_row _ _ _ _ _ _ g1
  have f1 : w1.frozen? ⟨w.heap.size + 1, 0, none⟩ = false := by simp [World.frozen?, g1]
  have HG : Hid ((w1.setCell ⟨w.heap.size + 1, 0, none⟩ (.string s)).heap[w.heap.size + 1]? = some (.cells #[.string s] 153 (0, 0))) := heap_setCell_same w1 (w.heap.size + 1) 0 _ _ _ g1
  have HB : Hid (Below w.heap.size w w1) := hB
  clear hB g1
  go_wp2
  exact bodyPost_ret (v := .agg #[.string s]) (results_cell_row Tryd.results100 _ _ (w.heap.size + 1) 153 _ (0, 0) _ rfl HG.out Tryd.underlying153 rfl (by kernel_rfl)) rfl ⟨rfl, HB.out.setCell (by simp) _⟩

set_option maxHeartbeats 4000000 in
theorem cloneM_any (p : ByteArray × ByteArray) (h : fitM p) (w : World) : 
    Calls Tryd.prog 101 #[keyM p] w fun e w' => e = .returned (keyM p) ∧ Below w.heap.size w w' := by
  obtain ⟨a, b⟩ := p
  obtain ⟨h1, h2⟩ := h
  unfold keyM
  have hc := fun s (hs : s.size ≤ 140737488355328) W => cloneB_any s hs W
  go_enter Tryd.func101, Tryd.ntmps101
  go_wp2_with fail
  obtain ⟨w0, hw0⟩ : ∃ w0, (w.alloc (.cells #[.string a, .string b] 155)).alloc (.cells #[.string ⟨#[]⟩, .string ⟨#[]⟩] 155) = w0 := ⟨_, rfl⟩
  obtain ⟨r0, r1, rB⟩ := two_new (w1 := w0) (by rw [hw0]; exact Below.refl _ _)
  try rw [hw0]
  have HK : Hid (∀ W, Below w0.heap.size w0 W → (W.cell? ⟨w.heap.size, 0, none⟩ = some (.string a) ∧ W.cell? ⟨w.heap.size, 1, none⟩ = some (.string b)) ∧ W.heap[w.heap.size + 1]? = some (.cells #[.string ⟨#[]⟩, .string ⟨#[]⟩] 155 (0, 0)) ∧ Below w.heap.size w W) := fun W h => by
    have e0 := (h.block _ (lt_of_block r0)).trans r0
    exact ⟨⟨cell_of_row _ _ _ _ _ _ e0, cell_of_row _ _ _ _ _ _ e0⟩, (h.block _ (lt_of_block r1)).trans r1, rB.trans (h.mono rB.size)⟩
  have hb := Below.refl w0.heap.size w0
  clear r0 r1 rB hw0
  go_region_held3 (fun w' => w'.cell? ⟨w.heap.size, 0, none⟩ = some (.string a) ∧ w'.cell? ⟨w.heap.size, 1, none⟩ = some (.string b)) (first | exact (HK.out _ hb).1 | exact (HK.out _ hb.drew).1 | simp [go_sem, *]) (first | (go_at_call 25; refine (hc _ (by assumption) _).mono ?_; rintro e wA ⟨rfl, hA⟩; have hb : Below w0.heap.size w0 wA := (by first | exact hb.trans (hA.mono hb.size) | exact hb.drew.trans (hA.mono hb.size)); have c0 : wA.cell? ⟨w.heap.size + 1, 0, none⟩ = some (.string ⟨#[]⟩) := cell_of_row _ _ 0 _ _ _ (HK.out _ hb).2.1; have c1 : wA.cell? ⟨w.heap.size + 1, 1, none⟩ = some (.string ⟨#[]⟩) := cell_of_row _ _ 1 _ _ _ (HK.out _ hb).2.1; have f0 : wA.frozen? ⟨w.heap.size + 1, 0, none⟩ = false := (by simp [World.frozen?, (HK.out _ hb).2.1]); have f1 : wA.frozen? ⟨w.heap.size + 1, 1, none⟩ = false := (by simp [World.frozen?, (HK.out _ hb).2.1])))
  have HG : Hid (((wA.setCell ⟨w.heap.size + 1, 0, none⟩ (.string a)).setCell ⟨w.heap.size + 1, 1, none⟩ (.string b)).heap[w.heap.size + 1]? = some (.cells #[.string a, .string b] 155 (0, 0))) := by
    exact (heap_setCell_same _ _ 1 _ _ _ (heap_setCell_same _ _ 0 _ _ _ (HK.out _ hb).2.1))
  have HB : Hid (Below w.heap.size w ((wA.setCell ⟨w.heap.size + 1, 0, none⟩ (.string a)).setCell ⟨w.heap.size + 1, 1, none⟩ (.string b))) := (((HK.out _ hb).2.2.setCell (p := ⟨w.heap.size + 1, 0, none⟩) (Nat.le_succ _) _).setCell (p := ⟨w.heap.size + 1, 1, none⟩) (Nat.le_succ _) _)
  go_wp2
  exact bodyPost_ret (v := .agg #[.string a, .string b]) (results_cell_row Tryd.results101 _ _ (w.heap.size + 1) 155 _ (0, 0) _ rfl HG.out Tryd.underlying155 rfl (by kernel_rfl)) rfl ⟨rfl, HB.out⟩

set_option maxHeartbeats 4000000 in
theorem cloneS_any (x : Four) (h : fitF x) (w : World) : 
    Calls Tryd.prog 99 #[keyS x] w fun e w' => e = .returned (keyS x) ∧ Below w.heap.size w w' := by
  obtain ⟨z, a, b, c⟩ := x
  obtain ⟨h0, h1, h2, h3⟩ := h
  unfold keyS
  simp only at h0 h1 h2 h3 ⊢
  have hc := fun s (hs : s.size ≤ 140737488355328) W => cloneB_any s hs W
  go_enter Tryd.func99, Tryd.ntmps99
  go_wp2_with fail
  obtain ⟨w0, hw0⟩ : ∃ w0, (w.alloc (.cells #[.int .i64 z, .string a, .string b, .string c] 146)).alloc (.cells #[.int .i64 0, .string ⟨#[]⟩, .string ⟨#[]⟩, .string ⟨#[]⟩] 146) = w0 := ⟨_, rfl⟩
  obtain ⟨r0, r1, rB⟩ := two_new (w1 := w0) (by rw [hw0]; exact Below.refl _ _)
  try rw [hw0]
  have HK : Hid (∀ W, Below w0.heap.size w0 W → (W.cell? ⟨w.heap.size, 0, none⟩ = some (.int .i64 z) ∧ W.cell? ⟨w.heap.size, 1, none⟩ = some (.string a) ∧ W.cell? ⟨w.heap.size, 2, none⟩ = some (.string b) ∧ W.cell? ⟨w.heap.size, 3, none⟩ = some (.string c)) ∧ W.heap[w.heap.size + 1]? = some (.cells #[.int .i64 0, .string ⟨#[]⟩, .string ⟨#[]⟩, .string ⟨#[]⟩] 146 (0, 0)) ∧ Below w.heap.size w W) := fun W h => by
    have e0 := (h.block _ (lt_of_block r0)).trans r0
    exact ⟨⟨cell_of_row _ _ _ _ _ _ e0, cell_of_row _ _ _ _ _ _ e0, cell_of_row _ _ _ _ _ _ e0, cell_of_row _ _ _ _ _ _ e0⟩, (h.block _ (lt_of_block r1)).trans r1, rB.trans (h.mono rB.size)⟩
  have hb := Below.refl w0.heap.size w0
  clear r0 r1 rB hw0
  go_region_held3 (fun w' => w'.cell? ⟨w.heap.size, 0, none⟩ = some (.int .i64 z) ∧ w'.cell? ⟨w.heap.size, 1, none⟩ = some (.string a) ∧ w'.cell? ⟨w.heap.size, 2, none⟩ = some (.string b) ∧ w'.cell? ⟨w.heap.size, 3, none⟩ = some (.string c)) (first | exact (HK.out _ hb).1 | exact (HK.out _ hb.drew).1 | simp [go_sem, *]) (first | (go_at_call 25; refine (hc _ (by assumption) _).mono ?_; rintro e wA ⟨rfl, hA⟩; have hb : Below w0.heap.size w0 wA := (by first | exact hb.trans (hA.mono hb.size) | exact hb.drew.trans (hA.mono hb.size)); have c0 : wA.cell? ⟨w.heap.size + 1, 0, none⟩ = some (.int .i64 0) := cell_of_row _ _ 0 _ _ _ (HK.out _ hb).2.1; have c1 : wA.cell? ⟨w.heap.size + 1, 1, none⟩ = some (.string ⟨#[]⟩) := cell_of_row _ _ 1 _ _ _ (HK.out _ hb).2.1; have c2 : wA.cell? ⟨w.heap.size + 1, 2, none⟩ = some (.string ⟨#[]⟩) := cell_of_row _ _ 2 _ _ _ (HK.out _ hb).2.1; have c3 : wA.cell? ⟨w.heap.size + 1, 3, none⟩ = some (.string ⟨#[]⟩) := cell_of_row _ _ 3 _ _ _ (HK.out _ hb).2.1; have f0 : wA.frozen? ⟨w.heap.size + 1, 0, none⟩ = false := (by simp [World.frozen?, (HK.out _ hb).2.1]); have f1 : wA.frozen? ⟨w.heap.size + 1, 1, none⟩ = false := (by simp [World.frozen?, (HK.out _ hb).2.1]); have f2 : wA.frozen? ⟨w.heap.size + 1, 2, none⟩ = false := (by simp [World.frozen?, (HK.out _ hb).2.1]); have f3 : wA.frozen? ⟨w.heap.size + 1, 3, none⟩ = false := (by simp [World.frozen?, (HK.out _ hb).2.1])))
  have HG : Hid (((((wA.setCell ⟨w.heap.size + 1, 0, none⟩ (.int .i64 z)).setCell ⟨w.heap.size + 1, 1, none⟩ (.string a)).setCell ⟨w.heap.size + 1, 2, none⟩ (.string b)).setCell ⟨w.heap.size + 1, 3, none⟩ (.string c)).heap[w.heap.size + 1]? = some (.cells #[.int .i64 z, .string a, .string b, .string c] 146 (0, 0))) := by
    exact (heap_setCell_same _ _ 3 _ _ _ (heap_setCell_same _ _ 2 _ _ _ (heap_setCell_same _ _ 1 _ _ _ (heap_setCell_same _ _ 0 _ _ _ (HK.out _ hb).2.1))))
  have HB : Hid (Below w.heap.size w ((((wA.setCell ⟨w.heap.size + 1, 0, none⟩ (.int .i64 z)).setCell ⟨w.heap.size + 1, 1, none⟩ (.string a)).setCell ⟨w.heap.size + 1, 2, none⟩ (.string b)).setCell ⟨w.heap.size + 1, 3, none⟩ (.string c))) := (((((HK.out _ hb).2.2.setCell (p := ⟨w.heap.size + 1, 0, none⟩) (Nat.le_succ _) _).setCell (p := ⟨w.heap.size + 1, 1, none⟩) (Nat.le_succ _) _).setCell (p := ⟨w.heap.size + 1, 2, none⟩) (Nat.le_succ _) _).setCell (p := ⟨w.heap.size + 1, 3, none⟩) (Nat.le_succ _) _)
  go_wp2
  exact bodyPost_ret (v := .agg #[.int .i64 z, .string a, .string b, .string c]) (results_cell_row Tryd.results99 _ _ (w.heap.size + 1) 146 _ (0, 0) _ rfl HG.out Tryd.underlying146 rfl (by kernel_rfl)) rfl ⟨rfl, HB.out⟩

end Go.Proofs.YtkopbpbmfdogfaaDoor
