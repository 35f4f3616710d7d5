/- The document's Open of blocks: of any vault whose Open is told, and of the ideal one. -/
import Derived.Test.YtcefoeaakdemmaaGreatDoorRfSeal
import Derived.Test.YtcefoeaakdemmaaGreatDoorRefHeadOf
import Derived.Test.YtcefoeaakdemmaaGreatDoorBkTold
namespace Go.Proofs.YtcefoeaakdemmaaGreatDoor
set_option maxRecDepth 20000
open Go.RowKit Go.Lib

theorem isInt_fit {n : Int} (h0 : 0 ≤ n) (h1 : n < 281474976710656) : IsInt n := by
  show (decide (IntKind.i64.min ≤ n) && decide (n ≤ IntKind.i64.max)) = true
  rw [show IntKind.i64.min = -9223372036854775808 from rfl, show IntKind.i64.max = 9223372036854775807 from rfl]
  simp
  omega
theorem put_fits {n k : Int} (h : putE n k = 0) : IsInt n := by
  unfold putE at h
  split at h
  · omega
  rename_i hk
  split at h
  · omega
  rename_i h2
  have h3 : (256 : Int) ^ k.toNat ≤ 281474976710656 := by
    have hk6 : k.toNat = 1 ∨ k.toNat = 2 ∨ k.toNat = 3 ∨ k.toNat = 4 ∨ k.toNat = 5 ∨ k.toNat = 6 := by omega
    rcases hk6 with e | e | e | e | e | e <;> rw [e] <;> decide
  exact isInt_fit (by omega) (by omega)
theorem hdOf_int {s : ByteArray} (he : headE s = 0) : hdInt (hdOf s) := by
  have := hd_laid (hd_back he).1
  simp only [Hd.ps, headPs, laidOk, Bool.and_eq_true, beq_iff_eq] at this
  obtain ⟨h0, h1, h2, h3, h4, h5, h6, h7, _⟩ := this
  exact ⟨put_fits h0, put_fits h1, put_fits h2, put_fits h3, put_fits h4, put_fits h5, put_fits h6, put_fits h7⟩
theorem rbheadOf_any (s : ByteArray) (w : World) : Calls Tryz.prog 25 #[.string s] w fun e w' => e = .returned (.tuple #[.agg #[.int .i64 (hdOf s).v0, .int .i64 (hdOf s).v1, .int .i64 (hdOf s).v2, .int .i64 (hdOf s).v3, .int .i64 (hdOf s).v4, .int .i64 (hdOf s).v5, .int .i64 (hdOf s).v6, .int .i64 (hdOf s).v7], .int .i64 (headE s)]) ∧ Below w.heap.size w w' := rheadOf_any s w
/-- Open's answer. -/
theorem ropen_ret (tmps : Array Value) (w w' : World) (t : ByteArray) (y : Int) (cs : Array Value) (h1 : tmps.getD 4 undef = .pointer (some ⟨w.heap.size, 0, none⟩)) (h2 : tmps.getD 5 undef = .string t) (h3 : tmps.getD 6 undef = .int .i64 y) (hg : w'.heap[w.heap.size]? = some (.cells cs 23 (0, 0))) (hs : cs.size = 8) (hb : Below w.heap.size w w') :
    bodyPost Tryz.prog Tryz.f12 (fun e w'' => e = .returned (.tuple #[.agg cs, .string t, .int .i64 y]) ∧ Below w.heap.size w w'') .ret { tmps := tmps, defers := [] } w' := by
  have hr := load_head w' w.heap.size cs hg hs
  simp at h1 h2 h3
  exact bodyPost_ret (v := .tuple #[.agg cs, .string t, .int .i64 y]) (by simp [results, Tryz.results12, asAddr, hr, h1, h2, h3]) rfl ⟨rfl, hb⟩

set_option maxHeartbeats 1000000 in
theorem rbopen_short (v : Value) (r : ByteArray) (hr : ¬ r.size = 512) (w : World) : Calls Tryz.prog 12 #[v, .string r] w fun e w' => e = .returned (.tuple #[.agg Hd.zero.arr, .string ⟨#[]⟩, .int .i64 1]) ∧ Below w.heap.size w w' := by
  have hne : ((r.size : Int) != 512) = true := bne_iff_ne.2 (by omega)
  simp only [Hd.arr, Hd.zero]
  have hb := (Below.refl w.heap.size w).alloc (Nat.le_refl _) (.cells #[.int .i64 0, .int .i64 0, .int .i64 0, .int .i64 0, .int .i64 0, .int .i64 0, .int .i64 0, .int .i64 0] 23)
  have g0 := heap_alloc_new w (.cells #[.int .i64 0, .int .i64 0, .int .i64 0, .int .i64 0, .int .i64 0, .int .i64 0, .int .i64 0, .int .i64 0] 23)
  have HG : Hid _ := g0
  have HB : Hid _ := hb
  clear hb g0
  go_enter Tryz.func12, Tryz.ntmps12
  go_wp2_with fail
  exact ropen_ret _ w _ ⟨#[]⟩ 1 _ rfl rfl rfl HG.out rfl HB.out
set_option maxHeartbeats 2000000 in
theorem rbopen_gen (v : Value) (r T : ByteArray) (E : Int) (w : World) (hr : r.size = 512) (he : headE (r.extract 0 48) = 0)
    (hv : ∀ w', Below w.heap.size w w' → Calls Tryz.prog 26 #[v, .int .i64 (hdOf (r.extract 0 48)).v7, .string (hdOf (r.extract 0 48)).nonce, .string (r.extract 0 48), .string (r.extract 48 512)] w' fun e w'' => e = .returned (.tuple #[.string T, .int .i64 E]) ∧ Below w'.heap.size w' w'') :
    Calls Tryz.prog 12 #[v, .string r] w fun e w' => e = .returned (.tuple #[.agg (if E = 0 then (hdOf (r.extract 0 48)).arr else Hd.zero.arr), .string (if E = 0 then T else ⟨#[]⟩), .int .i64 E]) ∧ Below w.heap.size w w' := by
  have hne : ((r.size : Int) != 512) = false := by simp [hr]
  have hh := fun w => rbheadOf_any (r.extract 0 48) w
  rw [he] at hh
  have hn := fun w => rnonce_any (hdOf (r.extract 0 48)) (hd_back he).1 (hdOf_int he) w
  generalize hdOf (r.extract 0 48) = h at *
  generalize h.nonce = n at *
  generalize hx : r.extract 0 48 = x at *
  rw [← hr] at hv
  generalize hy : r.extract 48 r.size = y at *
  simp only [Hd.arr, Hd.zero] at hn ⊢
  have hr1 : (48 : Int) ≤ r.size := by omega
  clear hr he
  by_cases hE : E = 0
  case' pos => subst hE; simp only [if_true]
  case' neg => have hE' : (E != 0) = true := bne_iff_ne.2 hE; simp only [hE, if_false]
  all_goals
    go_enter Tryz.func12, Tryz.ntmps12
    go_wp2_with fail
    try rw [hx]
    refine (hh _).mono ?_
    rintro e w2 ⟨rfl, hb2⟩
    have gz : w2.heap[w.heap.size]? = some (.cells #[.int .i64 0, .int .i64 0, .int .i64 0, .int .i64 0, .int .i64 0, .int .i64 0, .int .i64 0, .int .i64 0] 23 (0, 0)) := (hb2.block w.heap.size (by simp)).trans (heap_alloc_new w _)
    have hlt : w.heap.size < w2.heap.size := lt_of_block gz
    have hbw : Below w.heap.size w w2 := ((Below.refl _ _).alloc (Nat.le_refl _) _).trans (hb2.mono (by simp))
    clear hb2 hh
    obtain ⟨w3, hw3⟩ : ∃ w3, w2.alloc (.cells #[.int .i64 h.v0, .int .i64 h.v1, .int .i64 h.v2, .int .i64 h.v3, .int .i64 h.v4, .int .i64 h.v5, .int .i64 h.v6, .int .i64 h.v7] 23) = w3 := ⟨_, rfl⟩
    have g3 : w3.heap[w2.heap.size]? = some (.cells #[.int .i64 h.v0, .int .i64 h.v1, .int .i64 h.v2, .int .i64 h.v3, .int .i64 h.v4, .int .i64 h.v5, .int .i64 h.v6, .int .i64 h.v7] 23 (0, 0)) := by rw [← hw3]; exact heap_alloc_new w2 _
    have gz3 : w3.heap[w.heap.size]? = some (.cells #[.int .i64 0, .int .i64 0, .int .i64 0, .int .i64 0, .int .i64 0, .int .i64 0, .int .i64 0, .int .i64 0] 23 (0, 0)) := by rw [← hw3]; exact (Below.heap_alloc _ _ _ hlt).trans gz
    have hlt3 : w2.heap.size < w3.heap.size := lt_of_block g3
    have HB3 : Hid (Below w.heap.size w w3) := by rw [← hw3]; exact hbw.alloc (Nat.le_of_lt hlt) _
    clear hbw gz
    have c0 : w3.cell? ⟨w2.heap.size, 0, none⟩ = some (.int .i64 h.v0) := cell_of_row _ _ _ _ _ _ g3
    have c1 : w3.cell? ⟨w2.heap.size, 1, none⟩ = some (.int .i64 h.v1) := cell_of_row _ _ _ _ _ _ g3
    have c2 : w3.cell? ⟨w2.heap.size, 2, none⟩ = some (.int .i64 h.v2) := cell_of_row _ _ _ _ _ _ g3
    have c3 : w3.cell? ⟨w2.heap.size, 3, none⟩ = some (.int .i64 h.v3) := cell_of_row _ _ _ _ _ _ g3
    have c4 : w3.cell? ⟨w2.heap.size, 4, none⟩ = some (.int .i64 h.v4) := cell_of_row _ _ _ _ _ _ g3
    have c5 : w3.cell? ⟨w2.heap.size, 5, none⟩ = some (.int .i64 h.v5) := cell_of_row _ _ _ _ _ _ g3
    have c6 : w3.cell? ⟨w2.heap.size, 6, none⟩ = some (.int .i64 h.v6) := cell_of_row _ _ _ _ _ _ g3
    have c7 : w3.cell? ⟨w2.heap.size, 7, none⟩ = some (.int .i64 h.v7) := cell_of_row _ _ _ _ _ _ g3
    clear g3
    go_wp2_with fail
    try rw [hw3]
    clear hw3
    go_region_held3 (fun w' => w'.cell? ⟨w2.heap.size, 0, none⟩ = some (.int .i64 h.v0) ∧ w'.cell? ⟨w2.heap.size, 1, none⟩ = some (.int .i64 h.v1) ∧ w'.cell? ⟨w2.heap.size, 2, none⟩ = some (.int .i64 h.v2) ∧ w'.cell? ⟨w2.heap.size, 3, none⟩ = some (.int .i64 h.v3) ∧ w'.cell? ⟨w2.heap.size, 4, none⟩ = some (.int .i64 h.v4) ∧ w'.cell? ⟨w2.heap.size, 5, none⟩ = some (.int .i64 h.v5) ∧ w'.cell? ⟨w2.heap.size, 6, none⟩ = some (.int .i64 h.v6) ∧ w'.cell? ⟨w2.heap.size, 7, none⟩ = some (.int .i64 h.v7)) (simp [go_sem, *])
      (first | (go_at_call 19; refine (hn _).mono ?_; rintro e wA ⟨rfl, hbA⟩; have HA : Hid (Below w.heap.size w wA) := HB3.out.drew.trans (hbA.mono HB3.out.size); have hk : ∀ i, wA.cell? ⟨w2.heap.size, i, none⟩ = w3.cell? ⟨w2.heap.size, i, none⟩ := fun i => hbA.cell (p := ⟨w2.heap.size, i, none⟩) hlt3) | (go_at_call 26; refine (hv _ HA.out).mono ?_; rintro e wB ⟨rfl, hbB⟩; have hk2 : ∀ i, wB.cell? ⟨w2.heap.size, i, none⟩ = w3.cell? ⟨w2.heap.size, i, none⟩ := fun i => (hbB.cell (p := ⟨w2.heap.size, i, none⟩) (Nat.lt_of_lt_of_le hlt3 hbA.size)).trans (hk i)))
    have gB : wB.heap[w.heap.size]? = some (.cells #[.int .i64 0, .int .i64 0, .int .i64 0, .int .i64 0, .int .i64 0, .int .i64 0, .int .i64 0, .int .i64 0] 23 (0, 0)) := ((hbB.block _ (Nat.lt_of_lt_of_le (Nat.lt_trans hlt hlt3) hbA.size)).trans (hbA.block _ (Nat.lt_trans hlt hlt3))).trans gz3
    have HBB : Hid (Below w.heap.size w wB) := HA.out.trans (hbB.mono HA.out.size)
    have hrow : ∀ cs, Below w.heap.size w (wB.setRow w.heap.size cs) := fun cs => HBB.out.trans ⟨rfl, rfl, rfl, by simp [World.setRow], fun k hk => setRow_other _ _ _ _ (by omega)⟩
    clear hbA hbB HA HBB hk gz3 hv hn
  · go_wp2_with (refine wpList_store_row rfl 23 _ _ rfl w.heap.size #[.int .i64 0, .int .i64 0, .int .i64 0, .int .i64 0, .int .i64 0, .int .i64 0, .int .i64 0, .int .i64 0] rfl rfl 23 _ gB (by kernel_rfl) rfl (by simp [Value.oneCell']) ?_)
    exact ropen_ret _ w _ ⟨#[]⟩ E #[.int .i64 0, .int .i64 0, .int .i64 0, .int .i64 0, .int .i64 0, .int .i64 0, .int .i64 0, .int .i64 0] rfl rfl rfl (setRow_heap _ _ _ _ _ _ gB) rfl (hrow _)
  · go_wp2_with (refine wpList_store_row rfl 23 _ _ rfl w.heap.size #[.int .i64 h.v0, .int .i64 h.v1, .int .i64 h.v2, .int .i64 h.v3, .int .i64 h.v4, .int .i64 h.v5, .int .i64 h.v6, .int .i64 h.v7] rfl rfl 23 _ gB (by kernel_rfl) rfl (by simp [Value.oneCell']) ?_)
    exact ropen_ret _ w _ T 0 #[.int .i64 h.v0, .int .i64 h.v1, .int .i64 h.v2, .int .i64 h.v3, .int .i64 h.v4, .int .i64 h.v5, .int .i64 h.v6, .int .i64 h.v7] rfl rfl rfl (setRow_heap _ _ _ _ _ _ gB) rfl (hrow _)
set_option maxHeartbeats 1000000 in
theorem rbopen_head (v : Value) (r : ByteArray) (hr : r.size = 512) (he : ¬ headE (r.extract 0 48) = 0) (w : World) : Calls Tryz.prog 12 #[v, .string r] w fun e w' => e = .returned (.tuple #[.agg Hd.zero.arr, .string ⟨#[]⟩, .int .i64 (headE (r.extract 0 48))]) ∧ Below w.heap.size w w' := by
  have hne : ((r.size : Int) != 512) = false := by simp [hr]
  have hh := fun w => rbheadOf_any (r.extract 0 48) w
  have he' : (headE (r.extract 0 48) != 0) = true := bne_iff_ne.2 he
  clear he
  generalize hdOf (r.extract 0 48) = h at *
  generalize hx : r.extract 0 48 = x at *
  generalize headE x = E at *
  simp only [Hd.arr, Hd.zero]
  have hr1 : (48 : Int) ≤ r.size := by omega
  go_enter Tryz.func12, Tryz.ntmps12
  go_wp2_with fail
  try rw [hx]
  refine (hh _).mono ?_
  rintro e w2 ⟨rfl, hb2⟩
  have gz : w2.heap[w.heap.size]? = some (.cells #[.int .i64 0, .int .i64 0, .int .i64 0, .int .i64 0, .int .i64 0, .int .i64 0, .int .i64 0, .int .i64 0] 23 (0, 0)) := (hb2.block w.heap.size (by simp)).trans (heap_alloc_new w _)
  have hlt : w.heap.size < w2.heap.size := lt_of_block gz
  have hbw : Below w.heap.size w w2 := ((Below.refl _ _).alloc (Nat.le_refl _) _).trans (hb2.mono (by simp))
  clear hb2 hh
  obtain ⟨w3, hw3⟩ : ∃ w3, w2.alloc (.cells #[.int .i64 h.v0, .int .i64 h.v1, .int .i64 h.v2, .int .i64 h.v3, .int .i64 h.v4, .int .i64 h.v5, .int .i64 h.v6, .int .i64 h.v7] 23) = w3 := ⟨_, rfl⟩
  have g3 : w3.heap[w.heap.size]? = some (.cells #[.int .i64 0, .int .i64 0, .int .i64 0, .int .i64 0, .int .i64 0, .int .i64 0, .int .i64 0, .int .i64 0] 23 (0, 0)) := by rw [← hw3]; exact (Below.heap_alloc _ _ _ hlt).trans gz
  have HB3 : Hid (Below w.heap.size w w3) := by rw [← hw3]; exact hbw.alloc (Nat.le_of_lt hlt) _
  clear hbw gz
  go_wp2_with (refine wpList_store_row rfl 23 _ _ rfl w.heap.size #[.int .i64 0, .int .i64 0, .int .i64 0, .int .i64 0, .int .i64 0, .int .i64 0, .int .i64 0, .int .i64 0] rfl rfl 23 _ g3 (by kernel_rfl) rfl (by simp [Value.oneCell']) ?_)
  exact ropen_ret _ w _ ⟨#[]⟩ E #[.int .i64 0, .int .i64 0, .int .i64 0, .int .i64 0, .int .i64 0, .int .i64 0, .int .i64 0, .int .i64 0] rfl rfl rfl (setRow_heap _ _ _ _ _ _ g3) rfl (HB3.out.trans ⟨rfl, rfl, rfl, by simp [World.setRow], fun k hk => setRow_other _ _ _ _ (by omega)⟩)

theorem rbopen_any (B : Nat) (F : Nat → Prop) (S : VS) (r : ByteArray) (hl : S.seals.length ≤ 1000000) (w : World) (hp : RefV w F B S) :
    Calls Tryz.prog 12 #[.pointer (some ⟨B, 0, none⟩), .string r] w fun e w' => e = .returned (.tuple #[.agg (bopenH S r).arr, .string (bopenS S r), .int .i64 (bopenE S r)]) ∧ Below w.heap.size w w' := by
  by_cases hr : r.size = 512
  case neg =>
    have e1 : bopenE S r = 1 := by simp [bopenE, hr]
    have e2 : bopenH S r = Hd.zero := by simp [bopenH, e1]
    have e3 : bopenS S r = ⟨#[]⟩ := by simp [bopenS, e1]
    rw [e1, e2, e3]
    exact rbopen_short _ r hr w
  by_cases he : headE (r.extract 0 48) = 0
  case neg =>
    have e1 : bopenE S r = headE (r.extract 0 48) := by simp [bopenE, hr, he]
    have e2 : bopenH S r = Hd.zero := by simp [bopenH, e1, he]
    have e3 : bopenS S r = ⟨#[]⟩ := by simp [bopenS, e1, he]
    rw [e1, e2, e3]
    exact rbopen_head _ r hr he w
  obtain ⟨k1, _⟩ := hd_back he
  have hz : (r.extract 48 512).size = 464 := by simp [hr]
  have hg := rbopen_gen (.pointer (some ⟨B, 0, none⟩)) r _ _ w hr he fun w' hb => ropen_any B F S _ _ _ _ (by omega) hl w' (hp.below hb)
  have o1 : openE S (hdOf (r.extract 0 48)).v7 (hdOf (r.extract 0 48)).nonce (r.extract 0 48) (r.extract 48 512) = bopenE S r := by
    unfold openE bopenE
    rw [fit_hd k1, if_pos rfl, if_neg (by omega), if_pos hr, if_pos he]
    rfl
  have o2 : openS S (hdOf (r.extract 0 48)).v7 (hdOf (r.extract 0 48)).nonce (r.extract 0 48) (r.extract 48 512) = bopenS S r := by
    unfold openS bopenS bopenE
    rw [fit_hd k1, if_pos rfl, if_neg (by omega), if_pos hr, if_pos he]
    unfold opensB
    cases openB S (hdOf (r.extract 0 48)).v7 (hdOf (r.extract 0 48)).nonce (r.extract 0 48) (r.extract 48 512) <;> rfl
  rw [o1, o2] at hg
  have o3 : (if bopenE S r = 0 then (hdOf (r.extract 0 48)).arr else Hd.zero.arr) = (bopenH S r).arr := by unfold bopenH; split <;> rfl
  have o4 : (if bopenE S r = 0 then bopenS S r else ⟨#[]⟩) = bopenS S r := by unfold bopenS; split <;> rfl
  rw [o3, o4] at hg
  exact hg

end Go.Proofs.YtcefoeaakdemmaaGreatDoor
