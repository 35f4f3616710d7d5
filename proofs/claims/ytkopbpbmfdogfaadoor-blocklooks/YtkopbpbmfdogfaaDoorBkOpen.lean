/- block's Open: of any vault whose Open is told. -/
import Derived.Test.YtkopbpbmfdogfaaDoorBkSeal
import Derived.Test.YtkopbpbmfdogfaaDoorHdSet
namespace Go.Proofs.YtkopbpbmfdogfaaDoor
set_option maxRecDepth 20000
open Go.RowKit Go.Lib

theorem bheadOf_any (s : ByteArray) (w : World) : Calls Tryd.prog 26 #[.string s] w fun e w' => e = .returned (.tuple #[.agg #[.int .i64 (hdOf s).v0, .int .i64 (hdOf s).v1, .int .i64 (hdOf s).v2, .int .i64 (hdOf s).v3, .int .i64 (hdOf s).v4, .int .i64 (hdOf s).v5, .int .i64 (hdOf s).v6, .int .i64 (hdOf s).v7], .int .i64 (headE s)]) ∧ Below w.heap.size w w' := headOf_any s w
/-- Open's answer. -/
theorem open_ret (tmps : Array Value) (w w' : World) (t : ByteArray) (y : Int) (cs : Array Value) (h1 : tmps.getD 4 undef = .pointer (some ⟨w.heap.size, 0, none⟩)) (h2 : tmps.getD 5 undef = .string t) (h3 : tmps.getD 6 undef = .int .i64 y) (hg : w'.heap[w.heap.size]? = some (.cells cs 33 (0, 0))) (hs : cs.size = 8) (hb : Below w.heap.size w w') :
    bodyPost Tryd.prog Tryd.f15 (fun e w'' => e = .returned (.tuple #[.agg cs, .string t, .int .i64 y]) ∧ Below w.heap.size w w'') .ret { tmps := tmps, defers := [] } w' := by
  have hr := load_head w' w.heap.size cs hg hs
  simp at h1 h2 h3
  exact bodyPost_ret (v := .tuple #[.agg cs, .string t, .int .i64 y]) (by simp [results, Tryd.results15, asAddr, hr, h1, h2, h3]) rfl ⟨rfl, hb⟩

set_option maxHeartbeats 1000000 in
theorem bopen_short (v : Value) (r : ByteArray) (hr : ¬ r.size = 512) (w : World) : Calls Tryd.prog 15 #[v, .string r] w fun e w' => e = .returned (.tuple #[.agg Hd.zero.arr, .string ⟨#[]⟩, .int .i64 1]) ∧ Below w.heap.size w w' := by
  have hw := fun w => whole_any r w
  rw [decide_eq_false hr] at hw
  simp only [Hd.arr, Hd.zero]
  have hb := (Below.refl w.heap.size w).alloc (Nat.le_refl _) (.cells #[.int .i64 0, .int .i64 0, .int .i64 0, .int .i64 0, .int .i64 0, .int .i64 0, .int .i64 0, .int .i64 0] 33)
  have g0 := heap_alloc_new w (.cells #[.int .i64 0, .int .i64 0, .int .i64 0, .int .i64 0, .int .i64 0, .int .i64 0, .int .i64 0, .int .i64 0] 33)
  have HG : Hid _ := g0
  have HB : Hid _ := hb
  clear hb g0
  go_enter Tryd.func15, Tryd.ntmps15
  go_wp2_with fail
  refine (hw _).mono ?_
  rintro e w1 ⟨rfl, rfl⟩
  clear hw
  go_wp2_with fail
  exact open_ret _ w _ ⟨#[]⟩ 1 _ rfl rfl rfl HG.out rfl HB.out
set_option maxHeartbeats 2000000 in
theorem bopen_gen (v : Value) (r T : ByteArray) (E : Int) (w : World) (hr : r.size = 512) (he : headE (r.extract 0 48) = 0)
    (hv : ∀ w', Below w.heap.size w w' → Calls Tryd.prog 27 #[v, .int .i64 (hdOf (r.extract 0 48)).v7, .string (hdOf (r.extract 0 48)).nonce, .string (r.extract 0 48), .string (r.extract 48 512)] w' fun e w'' => e = .returned (.tuple #[.string T, .int .i64 E]) ∧ Below w'.heap.size w' w'') :
    Calls Tryd.prog 15 #[v, .string r] w fun e w' => e = .returned (.tuple #[.agg (if E = 0 then (hdOf (r.extract 0 48)).arr else Hd.zero.arr), .string (if E = 0 then T else ⟨#[]⟩), .int .i64 E]) ∧ Below w.heap.size w w' := by
  have hw := fun w => whole_any r w
  rw [decide_eq_true hr] at hw
  have hh := fun w => bheadOf_any (r.extract 0 48) w
  rw [he] at hh
  have hn := fun w => nonce_any (hdOf (r.extract 0 48)) w
  generalize hdOf (r.extract 0 48) = h at *
  generalize h.nonce = n at *
  generalize hx : r.extract 0 48 = x at *
  generalize hy : r.extract 48 512 = y at *
  simp only [Hd.arr, Hd.zero] at hn ⊢
  have hr1 : (48 : Int) ≤ r.size := by omega
  by_cases hE : E = 0
  case' pos => subst hE; simp only [if_true]
  case' neg => have hE' : (E != 0) = true := bne_iff_ne.2 hE; simp only [hE, if_false]
  all_goals
    go_enter Tryd.func15, Tryd.ntmps15
    go_wp2_with fail
    refine (hw _).mono ?_
    rintro e w1 ⟨rfl, rfl⟩
    clear hw
    go_wp2_with fail
    go_quiet (fail)
    try rw [hx, hy]
    go_wp2_with fail
    refine (hh _).mono ?_
    rintro e w2 ⟨rfl, hb2⟩
    have gz : w2.heap[w.heap.size]? = some (.cells #[.int .i64 0, .int .i64 0, .int .i64 0, .int .i64 0, .int .i64 0, .int .i64 0, .int .i64 0, .int .i64 0] 33 (0, 0)) := (hb2.block w.heap.size (by simp)).trans (heap_alloc_new w _)
    have hlt : w.heap.size < w2.heap.size := lt_of_block gz
    have hbw : Below w.heap.size w w2 := (below_drewN ((Below.refl _ _).alloc (Nat.le_refl _) _) nq).trans (hb2.mono (by simp))
    clear hb2 hh
    obtain ⟨w3, hw3⟩ : ∃ w3, w2.alloc (.cells #[.int .i64 h.v0, .int .i64 h.v1, .int .i64 h.v2, .int .i64 h.v3, .int .i64 h.v4, .int .i64 h.v5, .int .i64 h.v6, .int .i64 h.v7] 33) = w3 := ⟨_, rfl⟩
    have g3 : w3.heap[w2.heap.size]? = some (.cells #[.int .i64 h.v0, .int .i64 h.v1, .int .i64 h.v2, .int .i64 h.v3, .int .i64 h.v4, .int .i64 h.v5, .int .i64 h.v6, .int .i64 h.v7] 33 (0, 0)) := by rw [← hw3]; exact heap_alloc_new w2 _
    have gz3 : w3.heap[w.heap.size]? = some (.cells #[.int .i64 0, .int .i64 0, .int .i64 0, .int .i64 0, .int .i64 0, .int .i64 0, .int .i64 0, .int .i64 0] 33 (0, 0)) := by rw [← hw3]; exact (Below.heap_alloc _ _ _ hlt).trans gz
    have hlt3 : w2.heap.size < w3.heap.size := lt_of_block g3
    have HB3 : Hid (Below w.heap.size w w3) := by rw [← hw3]; exact hbw.alloc (Nat.le_of_lt hlt) _
    clear hbw gz
    have c0 : w3.cell? ⟨w2.heap.size, 0, none⟩ = some (.int .i64 h.v0) := cell_of_row _ _ _ _ _ _ g3
    have c1 : w3.cell? ⟨w2.heap.size, 1, none⟩ = some (.int .i64 h.v1) := cell_of_row _ _ _ _ _ _ g3
    have c2 : w3.cell? ⟨w2.heap.size, 2, none⟩ = some (.int .i64 h.v2) := cell_of_row _ _ _ _ _ _ g3
    have c3 : w3.cell? ⟨w2.heap.size, 3, none⟩ = some (.int .i64 h.v3) := cell_of_row _ _ _ _ _ _ g3
    have c4 : w3.cell? ⟨w2.heap.size, 4, none⟩ = some (.int .i64 h.v4) := cell_of_row _ _ _ _ _ _ g3
    have c5 : w3.cell? ⟨w2.heap.size, 5, none⟩ = some (.int .i64 h.v5) := cell_of_row _ _ _ _ _ _ g3
    have c6 : w3.cell? ⟨w2.heap.size, 6, none⟩ = some (.int .i64 h.v6) := cell_of_row _ _ _ _ _ _ g3
    have c7 : w3.cell? ⟨w2.heap.size, 7, none⟩ = some (.int .i64 h.v7) := cell_of_row _ _ _ _ _ _ g3
    clear g3
    go_wp2_with fail
    try rw [hw3]
    clear hw3
    go_region_held3 (fun w' => w'.cell? ⟨w2.heap.size, 0, none⟩ = some (.int .i64 h.v0) ∧ w'.cell? ⟨w2.heap.size, 1, none⟩ = some (.int .i64 h.v1) ∧ w'.cell? ⟨w2.heap.size, 2, none⟩ = some (.int .i64 h.v2) ∧ w'.cell? ⟨w2.heap.size, 3, none⟩ = some (.int .i64 h.v3) ∧ w'.cell? ⟨w2.heap.size, 4, none⟩ = some (.int .i64 h.v4) ∧ w'.cell? ⟨w2.heap.size, 5, none⟩ = some (.int .i64 h.v5) ∧ w'.cell? ⟨w2.heap.size, 6, none⟩ = some (.int .i64 h.v6) ∧ w'.cell? ⟨w2.heap.size, 7, none⟩ = some (.int .i64 h.v7)) (simp [go_sem, *])
      (first | (go_at_call 13; refine (hn _).mono ?_; rintro e wA ⟨rfl, hbA⟩; have HA : Hid (Below w.heap.size w wA) := HB3.out.drew.trans (hbA.mono HB3.out.size); have hk : ∀ i, wA.cell? ⟨w2.heap.size, i, none⟩ = w3.cell? ⟨w2.heap.size, i, none⟩ := fun i => hbA.cell (p := ⟨w2.heap.size, i, none⟩) hlt3) | (go_at_call 27; refine (hv _ HA.out).mono ?_; rintro e wB ⟨rfl, hbB⟩; have hk2 : ∀ i, wB.cell? ⟨w2.heap.size, i, none⟩ = w3.cell? ⟨w2.heap.size, i, none⟩ := fun i => (hbB.cell (p := ⟨w2.heap.size, i, none⟩) (Nat.lt_of_lt_of_le hlt3 hbA.size)).trans (hk i)))
    have gB : wB.heap[w.heap.size]? = some (.cells #[.int .i64 0, .int .i64 0, .int .i64 0, .int .i64 0, .int .i64 0, .int .i64 0, .int .i64 0, .int .i64 0] 33 (0, 0)) := ((hbB.block _ (Nat.lt_of_lt_of_le (Nat.lt_trans hlt hlt3) hbA.size)).trans (hbA.block _ (Nat.lt_trans hlt hlt3))).trans gz3
    have HBB : Hid (Below w.heap.size w wB) := HA.out.trans (hbB.mono HA.out.size)
    have hrow : ∀ cs, Below w.heap.size w (wB.setRow w.heap.size cs) := fun cs => HBB.out.trans ⟨rfl, rfl, rfl, by simp [World.setRow], fun k hk => setRow_other _ _ _ _ (by omega)⟩
    clear hbA hbB HA HBB hk gz3 hv hn
  · go_wp2_with (refine wpList_store_row rfl 33 _ _ rfl w.heap.size #[.int .i64 0, .int .i64 0, .int .i64 0, .int .i64 0, .int .i64 0, .int .i64 0, .int .i64 0, .int .i64 0] rfl rfl 33 _ gB (by kernel_rfl) rfl (by simp [Value.oneCell']) ?_)
    exact open_ret _ w _ ⟨#[]⟩ E #[.int .i64 0, .int .i64 0, .int .i64 0, .int .i64 0, .int .i64 0, .int .i64 0, .int .i64 0, .int .i64 0] rfl rfl rfl (setRow_heap _ _ _ _ _ _ gB) rfl (hrow _)
  · go_wp2_with (refine wpList_store_row rfl 33 _ _ rfl w.heap.size #[.int .i64 h.v0, .int .i64 h.v1, .int .i64 h.v2, .int .i64 h.v3, .int .i64 h.v4, .int .i64 h.v5, .int .i64 h.v6, .int .i64 h.v7] rfl rfl 33 _ gB (by kernel_rfl) rfl (by simp [Value.oneCell']) ?_)
    exact open_ret _ w _ T 0 #[.int .i64 h.v0, .int .i64 h.v1, .int .i64 h.v2, .int .i64 h.v3, .int .i64 h.v4, .int .i64 h.v5, .int .i64 h.v6, .int .i64 h.v7] rfl rfl rfl (setRow_heap _ _ _ _ _ _ gB) rfl (hrow _)
end Go.Proofs.YtkopbpbmfdogfaaDoor
