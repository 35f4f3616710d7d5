/- block's Open where the head is none; Seal, Open and Told under the ideal vault. -/
import Derived.Test.YtdngoicpcocnnaaGreatDoorMg12
namespace Go.Proofs.YtdngoicpcocnnaaGreatDoor
set_option maxRecDepth 20000
open Go.RowKit Go.Lib

set_option maxHeartbeats 1000000 in
theorem bopen_head (v : Value) (r : ByteArray) (hr : r.size = 512) (he : ¬ headE (r.extract 0 48) = 0) (w : World) : Calls Tryz.prog 112 #[v, .string r] w fun e w' => e = .returned (.tuple #[.agg Hd.zero.arr, .string ⟨#[]⟩, .int .i64 (headE (r.extract 0 48))]) ∧ Below w.heap.size w w' := by
  have hw := fun w => whole_any r w
  rw [decide_eq_true hr] at hw
  have hh := fun w => bheadOf_any (r.extract 0 48) w
  have he' : (headE (r.extract 0 48) != 0) = true := bne_iff_ne.2 he
  clear he
  generalize hdOf (r.extract 0 48) = h at *
  generalize hx : r.extract 0 48 = x at *
  generalize headE x = E at *
  simp only [Hd.arr, Hd.zero]
  have hr1 : (48 : Int) ≤ r.size := by omega
  go_enter Tryz.func112, Tryz.ntmps112
  go_wp2_with fail
  refine (hw _).mono ?_
  rintro e w1 ⟨rfl, rfl⟩
  clear hw
  go_wp2_with fail
  go_quiet (fail)
  try rw [hx]
  go_wp2_with fail
  refine (hh _).mono ?_
  rintro e w2 ⟨rfl, hb2⟩
  have gz : w2.heap[w.heap.size]? = some (.cells #[.int .i64 0, .int .i64 0, .int .i64 0, .int .i64 0, .int .i64 0, .int .i64 0, .int .i64 0, .int .i64 0] 79 (0, 0)) := (hb2.block w.heap.size (by simp)).trans (heap_alloc_new w _)
  have hlt : w.heap.size < w2.heap.size := lt_of_block gz
  have hbw : Below w.heap.size w w2 := (below_drewN ((Below.refl _ _).alloc (Nat.le_refl _) _) nq).trans (hb2.mono (by simp))
  clear hb2 hh
  obtain ⟨w3, hw3⟩ : ∃ w3, w2.alloc (.cells #[.int .i64 h.v0, .int .i64 h.v1, .int .i64 h.v2, .int .i64 h.v3, .int .i64 h.v4, .int .i64 h.v5, .int .i64 h.v6, .int .i64 h.v7] 79) = w3 := ⟨_, rfl⟩
  have g3 : w3.heap[w.heap.size]? = some (.cells #[.int .i64 0, .int .i64 0, .int .i64 0, .int .i64 0, .int .i64 0, .int .i64 0, .int .i64 0, .int .i64 0] 79 (0, 0)) := by rw [← hw3]; exact (Below.heap_alloc _ _ _ hlt).trans gz
  have HB3 : Hid (Below w.heap.size w w3) := by rw [← hw3]; exact hbw.alloc (Nat.le_of_lt hlt) _
  clear hbw gz
  go_wp2_with (refine wpList_store_row rfl 79 _ _ rfl w.heap.size #[.int .i64 0, .int .i64 0, .int .i64 0, .int .i64 0, .int .i64 0, .int .i64 0, .int .i64 0, .int .i64 0] rfl rfl 79 _ g3 (by kernel_rfl) rfl (by simp [Value.oneCell']) ?_)
  exact open_ret _ w _ ⟨#[]⟩ E #[.int .i64 0, .int .i64 0, .int .i64 0, .int .i64 0, .int .i64 0, .int .i64 0, .int .i64 0, .int .i64 0] rfl rfl rfl (setRow_heap _ _ _ _ _ _ g3) rfl (HB3.out.trans ⟨rfl, rfl, rfl, by simp [World.setRow], fun k hk => setRow_other _ _ _ _ (by omega)⟩)

theorem bseal_any (B : Nat) (F : Nat → Prop) (S : VS) (h : Hd) (s : ByteArray) (hl : S.seals.length ≤ 1000000) (w : World) (hp : Ideal w F B S) :
    Calls Tryz.prog 78 #[.pointer (some ⟨B, 0, none⟩), .agg h.arr, .string s] w fun e w' => e = .returned (.tuple #[.string (bsealS S h s), .int .i64 (bsealE h s)]) ∧ Ideal w' F B (bsealP S h s) ∧ Touch F w w' := by
  by_cases hs : s.size = 448
  case neg =>
    have hB : bsealB h s = false := by simp [bsealB, hs]
    have e1 : bsealS S h s = ⟨#[]⟩ := by simp [bsealS, hB]
    have e2 : bsealE h s = 1 := by simp [bsealE, hs]
    have e3 : bsealP S h s = S := by simp [bsealP, hB]
    rw [e1, e2, e3]
    exact (bseal_short _ h s hs w).mono fun e w' ⟨he, hb⟩ => ⟨he, hp.below hb, Touch.of_below hb⟩
  by_cases he : h.err = 0
  case neg =>
    have hB : bsealB h s = false := by simp [bsealB, he]
    have e1 : bsealS S h s = ⟨#[]⟩ := by simp [bsealS, hB]
    have e2 : bsealE h s = h.err := by simp [bsealE, hs]
    have e3 : bsealP S h s = S := by simp [bsealP, hB]
    rw [e1, e2, e3]
    exact (bseal_head _ h s hs he w).mono fun e w' ⟨he, hb⟩ => ⟨he, hp.below hb, Touch.of_below hb⟩
  have hB : bsealB h s = true := by simp [bsealB, hs, he]
  have e1 : bsealS S h s = h.txt ++ sealS S h.v7 h.nonce h.txt s := by simp [bsealS, hB, sealS, fit_hd he, blkS, Hd.four]
  have e2 : bsealE h s = 0 := by simp [bsealE, hs, he]
  have e3 : bsealP S h s = sealP S h.v7 h.nonce h.txt s := by simp [bsealP, hB, sealP, fit_hd he, Hd.four]
  rw [e1, e2, e3]
  have hE : sealE h.v7 h.nonce = 0 := by simp [sealE, fit_hd he]
  have hz : (sealS S h.v7 h.nonce h.txt s).size ≤ 1000000 := by
    have hn : numOf (addN S.seals ⟨h.v7, h.nonce, h.txt, s⟩) ⟨h.v7, h.nonce, h.txt, s⟩ < 281474976710656 := by
      have h1 := numOf_le (⟨h.v7, h.nonce, h.txt, s⟩ : Four) (addN S.seals ⟨h.v7, h.nonce, h.txt, s⟩)
      have h2 := addN_length S.seals (⟨h.v7, h.nonce, h.txt, s⟩ : Four)
      omega
    unfold sealS
    rw [fit_hd he, if_pos rfl, ByteArray.size_append, hs, wideS_size hn (by decide)]
    decide
  have hg := bseal_gen (.pointer (some ⟨B, 0, none⟩)) h s (sealS S h.v7 h.nonce h.txt s) 0 (fun w'' => Ideal w'' (fun k => F k ∧ k < w.heap.size) B (sealP S h.v7 h.nonce h.txt s) ∧ Touch (fun k => F k ∧ k < w.heap.size) w w'') w hs he hz fun w' hb => by
    have hp' : Ideal w' (fun k => F k ∧ k < w.heap.size) B S := (hp.mono fun k hk hF => ⟨hF, hk⟩).below hb
    have := vseal_any B _ S h.v7 h.nonce h.txt s (four_fit he (by omega)) hl w' hp'
    rw [hE] at this
    refine this.mono fun e w'' ⟨h1, h2, h3⟩ => ⟨h1, ⟨h2, ?_⟩, fun k hk hk2 => h3.2 k hk2 fun hF => by omega⟩
    exact ⟨(hb.mono (Nat.zero_le _)).trans h3.1, fun k hk hn => (h3.2 k (Nat.lt_of_lt_of_le hk hb.size) hn).trans (hb.block k hk)⟩
  refine hg.mono fun e w' ⟨h1, h2, h3⟩ => ⟨h1, h2.mono fun k _ hF => hF.1, h3.mono fun k hF => hF.1⟩

theorem bopen_any (B : Nat) (F : Nat → Prop) (S : VS) (r : ByteArray) (hl : S.seals.length ≤ 1000000) (w : World) (hp : Ideal w F B S) :
    Calls Tryz.prog 112 #[.pointer (some ⟨B, 0, none⟩), .string r] w fun e w' => e = .returned (.tuple #[.agg (bopenH S r).arr, .string (bopenS S r), .int .i64 (bopenE S r)]) ∧ Below w.heap.size w w' := by
  by_cases hr : r.size = 512
  case neg =>
    have e1 : bopenE S r = 1 := by simp [bopenE, hr]
    have e2 : bopenH S r = Hd.zero := by simp [bopenH, e1]
    have e3 : bopenS S r = ⟨#[]⟩ := by simp [bopenS, e1]
    rw [e1, e2, e3]
    exact bopen_short _ r hr w
  by_cases he : headE (r.extract 0 48) = 0
  case neg =>
    have e1 : bopenE S r = headE (r.extract 0 48) := by simp [bopenE, hr, he]
    have e2 : bopenH S r = Hd.zero := by simp [bopenH, e1, he]
    have e3 : bopenS S r = ⟨#[]⟩ := by simp [bopenS, e1, he]
    rw [e1, e2, e3]
    exact bopen_head _ r hr he w
  obtain ⟨k1, k2⟩ := hd_back he
  have hz : (r.extract 48 512).size = 464 := by simp [hr]
  have f4 : fitF ⟨(hdOf (r.extract 0 48)).v7, (hdOf (r.extract 0 48)).nonce, r.extract 0 48, r.extract 48 512⟩ := by
    have := four_fit (s := r.extract 48 512) k1 (by omega)
    simpa only [Hd.four, k2] using this
  have hg := bopen_gen (.pointer (some ⟨B, 0, none⟩)) r _ _ w hr he fun w' hb => vopen_any B F S _ _ _ _ f4 hl w' (hp.below hb)
  have o1 : openE S (hdOf (r.extract 0 48)).v7 (hdOf (r.extract 0 48)).nonce (r.extract 0 48) (r.extract 48 512) = bopenE S r := by
    unfold openE bopenE
    rw [fit_hd k1, if_pos rfl, if_neg (by omega), if_pos hr, if_pos he]
    rfl
  have o2 : openS S (hdOf (r.extract 0 48)).v7 (hdOf (r.extract 0 48)).nonce (r.extract 0 48) (r.extract 48 512) = bopenS S r := by
    unfold openS bopenS bopenE
    rw [fit_hd k1, if_pos rfl, if_neg (by omega), if_pos hr, if_pos he]
    unfold opensB
    cases openB S (hdOf (r.extract 0 48)).v7 (hdOf (r.extract 0 48)).nonce (r.extract 0 48) (r.extract 48 512) <;> rfl
  rw [o1, o2] at hg
  have o3 : (if bopenE S r = 0 then (hdOf (r.extract 0 48)).arr else Hd.zero.arr) = (bopenH S r).arr := by unfold bopenH; split <;> rfl
  have o4 : (if bopenE S r = 0 then bopenS S r else ⟨#[]⟩) = bopenS S r := by unfold bopenS; split <;> rfl
  rw [o3, o4] at hg
  exact hg

/-- A reading. -/
def readA (ok : Bool) (h : Hd) (s : ByteArray) : Array Value := #[.bool ok, .int .i64 h.v0, .int .i64 h.v1, .int .i64 h.v2, .int .i64 h.v3, .int .i64 h.v4, .int .i64 h.v5, .int .i64 h.v6, .int .i64 h.v7, .string s]
def noneA : Array Value := readA false Hd.zero ⟨#[]⟩
theorem told_ret (tmps : Array Value) (w w' : World) (cs : Array Value) (h1 : tmps.getD 6 undef = .pointer (some ⟨w.heap.size, 0, none⟩)) (hg : w'.heap[w.heap.size]? = some (.cells cs 81 (0, 0))) (hs : cs.size = 10) (hb : Below w.heap.size w w') :
    bodyPost Tryz.prog Tryz.f79 (fun e w'' => e = .returned (.agg cs) ∧ Below w.heap.size w w'') .ret { tmps := tmps, defers := [] } w' :=
  bodyPost_ret (v := .agg cs) (results_cell_row Tryz.results79 tmps w' w.heap.size 81 cs (0, 0) _ h1 hg Tryz.underlying81 rfl (by rw [hs]; kernel_rfl)) rfl ⟨rfl, hb⟩
set_option maxHeartbeats 2000000 in
theorem told_gen (v : Value) (r T : ByteArray) (h : Hd) (E at_ : Int) (w : World)
    (ho : ∀ w', Below w.heap.size w w' → Calls Tryz.prog 112 #[v, .string r] w' fun e w'' => e = .returned (.tuple #[.agg h.arr, .string T, .int .i64 E]) ∧ Below w'.heap.size w' w'') :
    Calls Tryz.prog 79 #[v, .string r, .int .i64 at_] w fun e w' => e = .returned (.agg (if E = 0 ∧ h.v1 = at_ then readA true h T else noneA)) ∧ Below w.heap.size w w' := by
  have hb0 := (Below.refl w.heap.size w).alloc (Nat.le_refl _) (.cells #[.bool false, .int .i64 0, .int .i64 0, .int .i64 0, .int .i64 0, .int .i64 0, .int .i64 0, .int .i64 0, .int .i64 0, .string ⟨#[]⟩] 81)
  have g0 := heap_alloc_new w (.cells #[.bool false, .int .i64 0, .int .i64 0, .int .i64 0, .int .i64 0, .int .i64 0, .int .i64 0, .int .i64 0, .int .i64 0, .string ⟨#[]⟩] 81)
  simp only [Hd.arr] at ho
  simp only [readA, noneA, Hd.zero]
  have HB0 : Hid _ := hb0
  have HG0 : Hid _ := g0
  clear hb0 g0
  rcases (show (E = 0 ∧ h.v1 = at_) ∨ (E = 0 ∧ ¬ h.v1 = at_) ∨ ¬ E = 0 by omega) with ⟨hE, ha⟩ | ⟨hE, ha⟩ | hE
  · subst hE
    subst ha
    simp only [and_self, if_true]
    go_enter Tryz.func79, Tryz.ntmps79
    go_wp2_with fail
    refine (ho _ HB0.out).mono ?_
    rintro e w2 ⟨rfl, hb2⟩
    have gz : w2.heap[w.heap.size]? = some (.cells #[.bool false, .int .i64 0, .int .i64 0, .int .i64 0, .int .i64 0, .int .i64 0, .int .i64 0, .int .i64 0, .int .i64 0, .string ⟨#[]⟩] 81 (0, 0)) := (hb2.block w.heap.size (by simp)).trans HG0.out
    have hlt : w.heap.size < w2.heap.size := lt_of_block gz
    have hbw : Below w.heap.size w w2 := HB0.out.trans (hb2.mono (by simp))
    clear hb2 ho HB0 HG0
    obtain ⟨w3, hw3⟩ : ∃ w3, w2.alloc (.cells #[.int .i64 h.v0, .int .i64 h.v1, .int .i64 h.v2, .int .i64 h.v3, .int .i64 h.v4, .int .i64 h.v5, .int .i64 h.v6, .int .i64 h.v7] 79) = w3 := ⟨_, rfl⟩
    have g3 : w3.heap[w2.heap.size]? = some (.cells #[.int .i64 h.v0, .int .i64 h.v1, .int .i64 h.v2, .int .i64 h.v3, .int .i64 h.v4, .int .i64 h.v5, .int .i64 h.v6, .int .i64 h.v7] 79 (0, 0)) := by rw [← hw3]; exact heap_alloc_new w2 _
    have gz3 : w3.heap[w.heap.size]? = some (.cells #[.bool false, .int .i64 0, .int .i64 0, .int .i64 0, .int .i64 0, .int .i64 0, .int .i64 0, .int .i64 0, .int .i64 0, .string ⟨#[]⟩] 81 (0, 0)) := by rw [← hw3]; exact (Below.heap_alloc _ _ _ hlt).trans gz
    have hrow : ∀ cs, Below w.heap.size w (w3.setRow w.heap.size cs) := fun cs => by rw [← hw3]; exact (hbw.alloc (Nat.le_of_lt hlt) _).trans ⟨rfl, rfl, rfl, by simp [World.setRow], fun k hk => setRow_other _ _ _ _ (by omega)⟩
    have c0 : w3.cell? ⟨w2.heap.size, 0, none⟩ = some (.int .i64 h.v0) := cell_of_row _ _ _ _ _ _ g3
    have c1 : w3.cell? ⟨w2.heap.size, 1, none⟩ = some (.int .i64 h.v1) := cell_of_row _ _ _ _ _ _ g3
    have c2 : w3.cell? ⟨w2.heap.size, 2, none⟩ = some (.int .i64 h.v2) := cell_of_row _ _ _ _ _ _ g3
    have c3 : w3.cell? ⟨w2.heap.size, 3, none⟩ = some (.int .i64 h.v3) := cell_of_row _ _ _ _ _ _ g3
    have c4 : w3.cell? ⟨w2.heap.size, 4, none⟩ = some (.int .i64 h.v4) := cell_of_row _ _ _ _ _ _ g3
    have c5 : w3.cell? ⟨w2.heap.size, 5, none⟩ = some (.int .i64 h.v5) := cell_of_row _ _ _ _ _ _ g3
    have c6 : w3.cell? ⟨w2.heap.size, 6, none⟩ = some (.int .i64 h.v6) := cell_of_row _ _ _ _ _ _ g3
    have c7 : w3.cell? ⟨w2.heap.size, 7, none⟩ = some (.int .i64 h.v7) := cell_of_row _ _ _ _ _ _ g3
    clear g3 gz hbw
    go_wp2_with (refine wpList_store_row rfl 81 _ _ rfl w.heap.size #[.bool true, .int .i64 h.v0, .int .i64 h.v1, .int .i64 h.v2, .int .i64 h.v3, .int .i64 h.v4, .int .i64 h.v5, .int .i64 h.v6, .int .i64 h.v7, .string T] rfl rfl 81 _ gz3 (by kernel_rfl) rfl (by simp [Value.oneCell']) ?_)
    exact told_ret _ w _ #[.bool true, .int .i64 h.v0, .int .i64 h.v1, .int .i64 h.v2, .int .i64 h.v3, .int .i64 h.v4, .int .i64 h.v5, .int .i64 h.v6, .int .i64 h.v7, .string T] rfl (setRow_heap _ _ _ _ _ _ gz3) rfl (hrow _)
  · have ha' : (h.v1 != at_) = true := bne_iff_ne.2 ha
    subst hE
    simp only [ha, and_false, if_false]
    go_enter Tryz.func79, Tryz.ntmps79
    go_wp2_with fail
    refine (ho _ HB0.out).mono ?_
    rintro e w2 ⟨rfl, hb2⟩
    have gz : w2.heap[w.heap.size]? = some (.cells #[.bool false, .int .i64 0, .int .i64 0, .int .i64 0, .int .i64 0, .int .i64 0, .int .i64 0, .int .i64 0, .int .i64 0, .string ⟨#[]⟩] 81 (0, 0)) := (hb2.block w.heap.size (by simp)).trans HG0.out
    have hlt : w.heap.size < w2.heap.size := lt_of_block gz
    have hbw : Below w.heap.size w w2 := HB0.out.trans (hb2.mono (by simp))
    clear hb2 ho HB0 HG0
    obtain ⟨w3, hw3⟩ : ∃ w3, w2.alloc (.cells #[.int .i64 h.v0, .int .i64 h.v1, .int .i64 h.v2, .int .i64 h.v3, .int .i64 h.v4, .int .i64 h.v5, .int .i64 h.v6, .int .i64 h.v7] 79) = w3 := ⟨_, rfl⟩
    have g3 : w3.heap[w2.heap.size]? = some (.cells #[.int .i64 h.v0, .int .i64 h.v1, .int .i64 h.v2, .int .i64 h.v3, .int .i64 h.v4, .int .i64 h.v5, .int .i64 h.v6, .int .i64 h.v7] 79 (0, 0)) := by rw [← hw3]; exact heap_alloc_new w2 _
    have gz3 : w3.heap[w.heap.size]? = some (.cells #[.bool false, .int .i64 0, .int .i64 0, .int .i64 0, .int .i64 0, .int .i64 0, .int .i64 0, .int .i64 0, .int .i64 0, .string ⟨#[]⟩] 81 (0, 0)) := by rw [← hw3]; exact (Below.heap_alloc _ _ _ hlt).trans gz
    have hrow : ∀ cs, Below w.heap.size w (w3.setRow w.heap.size cs) := fun cs => by rw [← hw3]; exact (hbw.alloc (Nat.le_of_lt hlt) _).trans ⟨rfl, rfl, rfl, by simp [World.setRow], fun k hk => setRow_other _ _ _ _ (by omega)⟩
    have c0 : w3.cell? ⟨w2.heap.size, 0, none⟩ = some (.int .i64 h.v0) := cell_of_row _ _ _ _ _ _ g3
    have c1 : w3.cell? ⟨w2.heap.size, 1, none⟩ = some (.int .i64 h.v1) := cell_of_row _ _ _ _ _ _ g3
    have c2 : w3.cell? ⟨w2.heap.size, 2, none⟩ = some (.int .i64 h.v2) := cell_of_row _ _ _ _ _ _ g3
    have c3 : w3.cell? ⟨w2.heap.size, 3, none⟩ = some (.int .i64 h.v3) := cell_of_row _ _ _ _ _ _ g3
    have c4 : w3.cell? ⟨w2.heap.size, 4, none⟩ = some (.int .i64 h.v4) := cell_of_row _ _ _ _ _ _ g3
    have c5 : w3.cell? ⟨w2.heap.size, 5, none⟩ = some (.int .i64 h.v5) := cell_of_row _ _ _ _ _ _ g3
    have c6 : w3.cell? ⟨w2.heap.size, 6, none⟩ = some (.int .i64 h.v6) := cell_of_row _ _ _ _ _ _ g3
    have c7 : w3.cell? ⟨w2.heap.size, 7, none⟩ = some (.int .i64 h.v7) := cell_of_row _ _ _ _ _ _ g3
    clear g3 gz hbw
    go_wp2_with (refine wpList_store_row rfl 81 _ _ rfl w.heap.size #[.bool false, .int .i64 0, .int .i64 0, .int .i64 0, .int .i64 0, .int .i64 0, .int .i64 0, .int .i64 0, .int .i64 0, .string ⟨#[]⟩] rfl rfl 81 _ gz3 (by kernel_rfl) rfl (by simp [Value.oneCell']) ?_)
    exact told_ret _ w _ #[.bool false, .int .i64 0, .int .i64 0, .int .i64 0, .int .i64 0, .int .i64 0, .int .i64 0, .int .i64 0, .int .i64 0, .string ⟨#[]⟩] rfl (setRow_heap _ _ _ _ _ _ gz3) rfl (hrow _)
  · have hE' : (E != 0) = true := bne_iff_ne.2 hE
    simp only [hE, false_and, if_false]
    go_enter Tryz.func79, Tryz.ntmps79
    go_wp2_with fail
    refine (ho _ HB0.out).mono ?_
    rintro e w2 ⟨rfl, hb2⟩
    have gz : w2.heap[w.heap.size]? = some (.cells #[.bool false, .int .i64 0, .int .i64 0, .int .i64 0, .int .i64 0, .int .i64 0, .int .i64 0, .int .i64 0, .int .i64 0, .string ⟨#[]⟩] 81 (0, 0)) := (hb2.block w.heap.size (by simp)).trans HG0.out
    have hlt : w.heap.size < w2.heap.size := lt_of_block gz
    have hbw : Below w.heap.size w w2 := HB0.out.trans (hb2.mono (by simp))
    clear hb2 ho HB0 HG0
    obtain ⟨w3, hw3⟩ : ∃ w3, w2.alloc (.cells #[.int .i64 h.v0, .int .i64 h.v1, .int .i64 h.v2, .int .i64 h.v3, .int .i64 h.v4, .int .i64 h.v5, .int .i64 h.v6, .int .i64 h.v7] 79) = w3 := ⟨_, rfl⟩
    have g3 : w3.heap[w2.heap.size]? = some (.cells #[.int .i64 h.v0, .int .i64 h.v1, .int .i64 h.v2, .int .i64 h.v3, .int .i64 h.v4, .int .i64 h.v5, .int .i64 h.v6, .int .i64 h.v7] 79 (0, 0)) := by rw [← hw3]; exact heap_alloc_new w2 _
    have gz3 : w3.heap[w.heap.size]? = some (.cells #[.bool false, .int .i64 0, .int .i64 0, .int .i64 0, .int .i64 0, .int .i64 0, .int .i64 0, .int .i64 0, .int .i64 0, .string ⟨#[]⟩] 81 (0, 0)) := by rw [← hw3]; exact (Below.heap_alloc _ _ _ hlt).trans gz
    have hrow : ∀ cs, Below w.heap.size w (w3.setRow w.heap.size cs) := fun cs => by rw [← hw3]; exact (hbw.alloc (Nat.le_of_lt hlt) _).trans ⟨rfl, rfl, rfl, by simp [World.setRow], fun k hk => setRow_other _ _ _ _ (by omega)⟩
    have c0 : w3.cell? ⟨w2.heap.size, 0, none⟩ = some (.int .i64 h.v0) := cell_of_row _ _ _ _ _ _ g3
    have c1 : w3.cell? ⟨w2.heap.size, 1, none⟩ = some (.int .i64 h.v1) := cell_of_row _ _ _ _ _ _ g3
    have c2 : w3.cell? ⟨w2.heap.size, 2, none⟩ = some (.int .i64 h.v2) := cell_of_row _ _ _ _ _ _ g3
    have c3 : w3.cell? ⟨w2.heap.size, 3, none⟩ = some (.int .i64 h.v3) := cell_of_row _ _ _ _ _ _ g3
    have c4 : w3.cell? ⟨w2.heap.size, 4, none⟩ = some (.int .i64 h.v4) := cell_of_row _ _ _ _ _ _ g3
    have c5 : w3.cell? ⟨w2.heap.size, 5, none⟩ = some (.int .i64 h.v5) := cell_of_row _ _ _ _ _ _ g3
    have c6 : w3.cell? ⟨w2.heap.size, 6, none⟩ = some (.int .i64 h.v6) := cell_of_row _ _ _ _ _ _ g3
    have c7 : w3.cell? ⟨w2.heap.size, 7, none⟩ = some (.int .i64 h.v7) := cell_of_row _ _ _ _ _ _ g3
    clear g3 gz hbw
    go_wp2_with (refine wpList_store_row rfl 81 _ _ rfl w.heap.size #[.bool false, .int .i64 0, .int .i64 0, .int .i64 0, .int .i64 0, .int .i64 0, .int .i64 0, .int .i64 0, .int .i64 0, .string ⟨#[]⟩] rfl rfl 81 _ gz3 (by kernel_rfl) rfl (by simp [Value.oneCell']) ?_)
    exact told_ret _ w _ #[.bool false, .int .i64 0, .int .i64 0, .int .i64 0, .int .i64 0, .int .i64 0, .int .i64 0, .int .i64 0, .int .i64 0, .string ⟨#[]⟩] rfl (setRow_heap _ _ _ _ _ _ gz3) rfl (hrow _)
theorem told_any (B : Nat) (F : Nat → Prop) (S : VS) (r : ByteArray) (at_ : Int) (hl : S.seals.length ≤ 1000000) (w : World) (hp : Ideal w F B S) :
    Calls Tryz.prog 79 #[.pointer (some ⟨B, 0, none⟩), .string r, .int .i64 at_] w fun e w' => e = .returned (.agg (if bopenE S r = 0 ∧ (bopenH S r).v1 = at_ then readA true (bopenH S r) (bopenS S r) else noneA)) ∧ Below w.heap.size w w' :=
  told_gen _ r _ _ _ at_ w fun w' hb => bopen_any B F S r hl w' (hp.below hb)
end Go.Proofs.YtdngoicpcocnnaaGreatDoor
