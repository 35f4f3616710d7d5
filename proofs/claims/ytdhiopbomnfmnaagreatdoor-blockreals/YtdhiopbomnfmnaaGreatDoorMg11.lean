/- block's Open where the head is none; Seal, Open and Told under the ideal vault. · The laws' body, and chapter 6's first example. · Heads that lie in memory, heads that are compared, readings in one form. -/
import Derived.Test.YtdhiopbomnfmnaaGreatDoorMg10
import Derived.Test.YtdhiopbomnfmnaaGreatDoorMg04
namespace Go.Proofs.YtdhiopbomnfmnaaGreatDoor
set_option maxRecDepth 20000
open Go.RowKit Go.Lib

set_option maxHeartbeats 1000000 in
theorem bopen_head (v : Value) (r : ByteArray) (hr : r.size = 512) (he : ¬ headE (r.extract 0 48) = 0) (w : World) : Calls Tryz.prog 10 #[v, .string r] w fun e w' => e = .returned (.tuple #[.agg Hd.zero.arr, .string ⟨#[]⟩, .int .i64 (headE (r.extract 0 48))]) ∧ Below w.heap.size w w' := by
  have hw := fun w => whole_any r w
  rw [decide_eq_true hr] at hw
  have hh := fun w => bheadOf_any (r.extract 0 48) w
  have he' : (headE (r.extract 0 48) != 0) = true := bne_iff_ne.2 he
  clear he
  generalize hdOf (r.extract 0 48) = h at *
  generalize hx : r.extract 0 48 = x at *
  generalize headE x = E at *
  simp only [Hd.arr, Hd.zero]
  have hr1 : (48 : Int) ≤ r.size := by omega
  go_enter Tryz.func10, Tryz.ntmps10
  go_wp2_with fail
  refine (hw _).mono ?_
  rintro e w1 ⟨rfl, rfl⟩
  clear hw
  go_wp2_with fail
  go_quiet (fail)
  try rw [hx]
  go_wp2_with fail
  refine (hh _).mono ?_
  rintro e w2 ⟨rfl, hb2⟩
  have gz : w2.heap[w.heap.size]? = some (.cells #[.int .i64 0, .int .i64 0, .int .i64 0, .int .i64 0, .int .i64 0, .int .i64 0, .int .i64 0, .int .i64 0] 23 (0, 0)) := (hb2.block w.heap.size (by simp)).trans (heap_alloc_new w _)
  have hlt : w.heap.size < w2.heap.size := lt_of_block gz
  have hbw : Below w.heap.size w w2 := (below_drewN ((Below.refl _ _).alloc (Nat.le_refl _) _) nq).trans (hb2.mono (by simp))
  clear hb2 hh
  obtain ⟨w3, hw3⟩ : ∃ w3, w2.alloc (.cells #[.int .i64 h.v0, .int .i64 h.v1, .int .i64 h.v2, .int .i64 h.v3, .int .i64 h.v4, .int .i64 h.v5, .int .i64 h.v6, .int .i64 h.v7] 23) = w3 := ⟨_, rfl⟩
  have g3 : w3.heap[w.heap.size]? = some (.cells #[.int .i64 0, .int .i64 0, .int .i64 0, .int .i64 0, .int .i64 0, .int .i64 0, .int .i64 0, .int .i64 0] 23 (0, 0)) := by rw [← hw3]; exact (Below.heap_alloc _ _ _ hlt).trans gz
  have HB3 : Hid (Below w.heap.size w w3) := by rw [← hw3]; exact hbw.alloc (Nat.le_of_lt hlt) _
  clear hbw gz
  go_wp2_with (refine wpList_store_row rfl 23 _ _ rfl w.heap.size #[.int .i64 0, .int .i64 0, .int .i64 0, .int .i64 0, .int .i64 0, .int .i64 0, .int .i64 0, .int .i64 0] rfl rfl 23 _ g3 (by kernel_rfl) rfl (by simp [Value.oneCell']) ?_)
  exact open_ret _ w _ ⟨#[]⟩ E #[.int .i64 0, .int .i64 0, .int .i64 0, .int .i64 0, .int .i64 0, .int .i64 0, .int .i64 0, .int .i64 0] rfl rfl rfl (setRow_heap _ _ _ _ _ _ g3) rfl (HB3.out.trans ⟨rfl, rfl, rfl, by simp [World.setRow], fun k hk => setRow_other _ _ _ _ (by omega)⟩)

theorem bseal_any (B : Nat) (F : Nat → Prop) (S : VS) (h : Hd) (s : ByteArray) (hl : S.seals.length ≤ 1000000) (w : World) (hp : Ideal w F B S) :
    Calls Tryz.prog 6 #[.pointer (some ⟨B, 0, none⟩), .agg h.arr, .string s] w fun e w' => e = .returned (.tuple #[.string (bsealS S h s), .int .i64 (bsealE h s)]) ∧ Ideal w' F B (bsealP S h s) ∧ Touch F w w' := by
  by_cases hs : s.size = 448
  case neg =>
    have hB : bsealB h s = false := by simp [bsealB, hs]
    have e1 : bsealS S h s = ⟨#[]⟩ := by simp [bsealS, hB]
    have e2 : bsealE h s = 1 := by simp [bsealE, hs]
    have e3 : bsealP S h s = S := by simp [bsealP, hB]
    rw [e1, e2, e3]
    exact (bseal_short _ h s hs w).mono fun e w' ⟨he, hb⟩ => ⟨he, hp.below hb, Touch.of_below hb⟩
  by_cases he : h.err = 0
  case neg =>
    have hB : bsealB h s = false := by simp [bsealB, he]
    have e1 : bsealS S h s = ⟨#[]⟩ := by simp [bsealS, hB]
    have e2 : bsealE h s = h.err := by simp [bsealE, hs]
    have e3 : bsealP S h s = S := by simp [bsealP, hB]
    rw [e1, e2, e3]
    exact (bseal_head _ h s hs he w).mono fun e w' ⟨he, hb⟩ => ⟨he, hp.below hb, Touch.of_below hb⟩
  have hB : bsealB h s = true := by simp [bsealB, hs, he]
  have e1 : bsealS S h s = h.txt ++ sealS S h.v7 h.nonce h.txt s := by simp [bsealS, hB, sealS, fit_hd he, blkS, Hd.four]
  have e2 : bsealE h s = 0 := by simp [bsealE, hs, he]
  have e3 : bsealP S h s = sealP S h.v7 h.nonce h.txt s := by simp [bsealP, hB, sealP, fit_hd he, Hd.four]
  rw [e1, e2, e3]
  have hE : sealE h.v7 h.nonce = 0 := by simp [sealE, fit_hd he]
  have hz : (sealS S h.v7 h.nonce h.txt s).size ≤ 1000000 := by
    have hn : numOf (addN S.seals ⟨h.v7, h.nonce, h.txt, s⟩) ⟨h.v7, h.nonce, h.txt, s⟩ < 281474976710656 := by
      have h1 := numOf_le (⟨h.v7, h.nonce, h.txt, s⟩ : Four) (addN S.seals ⟨h.v7, h.nonce, h.txt, s⟩)
      have h2 := addN_length S.seals (⟨h.v7, h.nonce, h.txt, s⟩ : Four)
      omega
    unfold sealS
    rw [fit_hd he, if_pos rfl, ByteArray.size_append, hs, wideS_size hn (by decide)]
    decide
  have hg := bseal_gen (.pointer (some ⟨B, 0, none⟩)) h s (sealS S h.v7 h.nonce h.txt s) 0 (fun w'' => Ideal w'' (fun k => F k ∧ k < w.heap.size) B (sealP S h.v7 h.nonce h.txt s) ∧ Touch (fun k => F k ∧ k < w.heap.size) w w'') w hs he hz fun w' hb => by
    have hp' : Ideal w' (fun k => F k ∧ k < w.heap.size) B S := (hp.mono fun k hk hF => ⟨hF, hk⟩).below hb
    have := vseal_any B _ S h.v7 h.nonce h.txt s (four_fit he (by omega)) hl w' hp'
    rw [hE] at this
    refine this.mono fun e w'' ⟨h1, h2, h3⟩ => ⟨h1, ⟨h2, ?_⟩, fun k hk hk2 => h3.2 k hk2 fun hF => by omega⟩
    exact ⟨(hb.mono (Nat.zero_le _)).trans h3.1, fun k hk hn => (h3.2 k (Nat.lt_of_lt_of_le hk hb.size) hn).trans (hb.block k hk)⟩
  refine hg.mono fun e w' ⟨h1, h2, h3⟩ => ⟨h1, h2.mono fun k _ hF => hF.1, h3.mono fun k hF => hF.1⟩

theorem bopen_any (B : Nat) (F : Nat → Prop) (S : VS) (r : ByteArray) (hl : S.seals.length ≤ 1000000) (w : World) (hp : Ideal w F B S) :
    Calls Tryz.prog 10 #[.pointer (some ⟨B, 0, none⟩), .string r] w fun e w' => e = .returned (.tuple #[.agg (bopenH S r).arr, .string (bopenS S r), .int .i64 (bopenE S r)]) ∧ Below w.heap.size w w' := by
  by_cases hr : r.size = 512
  case neg =>
    have e1 : bopenE S r = 1 := by simp [bopenE, hr]
    have e2 : bopenH S r = Hd.zero := by simp [bopenH, e1]
    have e3 : bopenS S r = ⟨#[]⟩ := by simp [bopenS, e1]
    rw [e1, e2, e3]
    exact bopen_short _ r hr w
  by_cases he : headE (r.extract 0 48) = 0
  case neg =>
    have e1 : bopenE S r = headE (r.extract 0 48) := by simp [bopenE, hr, he]
    have e2 : bopenH S r = Hd.zero := by simp [bopenH, e1, he]
    have e3 : bopenS S r = ⟨#[]⟩ := by simp [bopenS, e1, he]
    rw [e1, e2, e3]
    exact bopen_head _ r hr he w
  obtain ⟨k1, k2⟩ := hd_back he
  have hz : (r.extract 48 512).size = 464 := by simp [hr]
  have f4 : fitF ⟨(hdOf (r.extract 0 48)).v7, (hdOf (r.extract 0 48)).nonce, r.extract 0 48, r.extract 48 512⟩ := by
    have := four_fit (s := r.extract 48 512) k1 (by omega)
    simpa only [Hd.four, k2] using this
  have hg := bopen_gen (.pointer (some ⟨B, 0, none⟩)) r _ _ w hr he fun w' hb => vopen_any B F S _ _ _ _ f4 hl w' (hp.below hb)
  have o1 : openE S (hdOf (r.extract 0 48)).v7 (hdOf (r.extract 0 48)).nonce (r.extract 0 48) (r.extract 48 512) = bopenE S r := by
    unfold openE bopenE
    rw [fit_hd k1, if_pos rfl, if_neg (by omega), if_pos hr, if_pos he]
    rfl
  have o2 : openS S (hdOf (r.extract 0 48)).v7 (hdOf (r.extract 0 48)).nonce (r.extract 0 48) (r.extract 48 512) = bopenS S r := by
    unfold openS bopenS bopenE
    rw [fit_hd k1, if_pos rfl, if_neg (by omega), if_pos hr, if_pos he]
    unfold opensB
    cases openB S (hdOf (r.extract 0 48)).v7 (hdOf (r.extract 0 48)).nonce (r.extract 0 48) (r.extract 48 512) <;> rfl
  rw [o1, o2] at hg
  have o3 : (if bopenE S r = 0 then (hdOf (r.extract 0 48)).arr else Hd.zero.arr) = (bopenH S r).arr := by unfold bopenH; split <;> rfl
  have o4 : (if bopenE S r = 0 then bopenS S r else ⟨#[]⟩) = bopenS S r := by unfold bopenS; split <;> rfl
  rw [o3, o4] at hg
  exact hg

/-- A reading. -/
def readA (ok : Bool) (h : Hd) (s : ByteArray) : Array Value := #[.bool ok, .int .i64 h.v0, .int .i64 h.v1, .int .i64 h.v2, .int .i64 h.v3, .int .i64 h.v4, .int .i64 h.v5, .int .i64 h.v6, .int .i64 h.v7, .string s]
def noneA : Array Value := readA false Hd.zero ⟨#[]⟩
theorem told_ret (tmps : Array Value) (w w' : World) (cs : Array Value) (h1 : tmps.getD 6 undef = .pointer (some ⟨w.heap.size, 0, none⟩)) (hg : w'.heap[w.heap.size]? = some (.cells cs 58 (0, 0))) (hs : cs.size = 10) (hb : Below w.heap.size w w') :
    bodyPost Tryz.prog Tryz.f20 (fun e w'' => e = .returned (.agg cs) ∧ Below w.heap.size w w'') .ret { tmps := tmps, defers := [] } w' :=
  bodyPost_ret (v := .agg cs) (results_cell_row Tryz.results20 tmps w' w.heap.size 58 cs (0, 0) _ h1 hg Tryz.underlying58 rfl (by rw [hs]; kernel_rfl)) rfl ⟨rfl, hb⟩
set_option maxHeartbeats 2000000 in
theorem told_gen (v : Value) (r T : ByteArray) (h : Hd) (E at_ : Int) (w : World)
    (ho : ∀ w', Below w.heap.size w w' → Calls Tryz.prog 10 #[v, .string r] w' fun e w'' => e = .returned (.tuple #[.agg h.arr, .string T, .int .i64 E]) ∧ Below w'.heap.size w' w'') :
    Calls Tryz.prog 20 #[v, .string r, .int .i64 at_] w fun e w' => e = .returned (.agg (if E = 0 ∧ h.v1 = at_ then readA true h T else noneA)) ∧ Below w.heap.size w w' := by
  have hb0 := (Below.refl w.heap.size w).alloc (Nat.le_refl _) (.cells #[.bool false, .int .i64 0, .int .i64 0, .int .i64 0, .int .i64 0, .int .i64 0, .int .i64 0, .int .i64 0, .int .i64 0, .string ⟨#[]⟩] 58)
  have g0 := heap_alloc_new w (.cells #[.bool false, .int .i64 0, .int .i64 0, .int .i64 0, .int .i64 0, .int .i64 0, .int .i64 0, .int .i64 0, .int .i64 0, .string ⟨#[]⟩] 58)
  simp only [Hd.arr] at ho
  simp only [readA, noneA, Hd.zero]
  have HB0 : Hid _ := hb0
  have HG0 : Hid _ := g0
  clear hb0 g0
  rcases (show (E = 0 ∧ h.v1 = at_) ∨ (E = 0 ∧ ¬ h.v1 = at_) ∨ ¬ E = 0 by omega) with ⟨hE, ha⟩ | ⟨hE, ha⟩ | hE
  · subst hE
    subst ha
    simp only [and_self, if_true]
    go_enter Tryz.func20, Tryz.ntmps20
    go_wp2_with fail
    refine (ho _ HB0.out).mono ?_
    rintro e w2 ⟨rfl, hb2⟩
    have gz : w2.heap[w.heap.size]? = some (.cells #[.bool false, .int .i64 0, .int .i64 0, .int .i64 0, .int .i64 0, .int .i64 0, .int .i64 0, .int .i64 0, .int .i64 0, .string ⟨#[]⟩] 58 (0, 0)) := (hb2.block w.heap.size (by simp)).trans HG0.out
    have hlt : w.heap.size < w2.heap.size := lt_of_block gz
    have hbw : Below w.heap.size w w2 := HB0.out.trans (hb2.mono (by simp))
    clear hb2 ho HB0 HG0
    obtain ⟨w3, hw3⟩ : ∃ w3, w2.alloc (.cells #[.int .i64 h.v0, .int .i64 h.v1, .int .i64 h.v2, .int .i64 h.v3, .int .i64 h.v4, .int .i64 h.v5, .int .i64 h.v6, .int .i64 h.v7] 23) = w3 := ⟨_, rfl⟩
    have g3 : w3.heap[w2.heap.size]? = some (.cells #[.int .i64 h.v0, .int .i64 h.v1, .int .i64 h.v2, .int .i64 h.v3, .int .i64 h.v4, .int .i64 h.v5, .int .i64 h.v6, .int .i64 h.v7] 23 (0, 0)) := by rw [← hw3]; exact heap_alloc_new w2 _
    have gz3 : w3.heap[w.heap.size]? = some (.cells #[.bool false, .int .i64 0, .int .i64 0, .int .i64 0, .int .i64 0, .int .i64 0, .int .i64 0, .int .i64 0, .int .i64 0, .string ⟨#[]⟩] 58 (0, 0)) := by rw [← hw3]; exact (Below.heap_alloc _ _ _ hlt).trans gz
    have hrow : ∀ cs, Below w.heap.size w (w3.setRow w.heap.size cs) := fun cs => by rw [← hw3]; exact (hbw.alloc (Nat.le_of_lt hlt) _).trans ⟨rfl, rfl, rfl, by simp [World.setRow], fun k hk => setRow_other _ _ _ _ (by omega)⟩
    have c0 : w3.cell? ⟨w2.heap.size, 0, none⟩ = some (.int .i64 h.v0) := cell_of_row _ _ _ _ _ _ g3
    have c1 : w3.cell? ⟨w2.heap.size, 1, none⟩ = some (.int .i64 h.v1) := cell_of_row _ _ _ _ _ _ g3
    have c2 : w3.cell? ⟨w2.heap.size, 2, none⟩ = some (.int .i64 h.v2) := cell_of_row _ _ _ _ _ _ g3
    have c3 : w3.cell? ⟨w2.heap.size, 3, none⟩ = some (.int .i64 h.v3) := cell_of_row _ _ _ _ _ _ g3
    have c4 : w3.cell? ⟨w2.heap.size, 4, none⟩ = some (.int .i64 h.v4) := cell_of_row _ _ _ _ _ _ g3
    have c5 : w3.cell? ⟨w2.heap.size, 5, none⟩ = some (.int .i64 h.v5) := cell_of_row _ _ _ _ _ _ g3
    have c6 : w3.cell? ⟨w2.heap.size, 6, none⟩ = some (.int .i64 h.v6) := cell_of_row _ _ _ _ _ _ g3
    have c7 : w3.cell? ⟨w2.heap.size, 7, none⟩ = some (.int .i64 h.v7) := cell_of_row _ _ _ _ _ _ g3
    clear g3 gz hbw
    go_wp2_with (refine wpList_store_row rfl 58 _ _ rfl w.heap.size #[.bool true, .int .i64 h.v0, .int .i64 h.v1, .int .i64 h.v2, .int .i64 h.v3, .int .i64 h.v4, .int .i64 h.v5, .int .i64 h.v6, .int .i64 h.v7, .string T] rfl rfl 58 _ gz3 (by kernel_rfl) rfl (by simp [Value.oneCell']) ?_)
    exact told_ret _ w _ #[.bool true, .int .i64 h.v0, .int .i64 h.v1, .int .i64 h.v2, .int .i64 h.v3, .int .i64 h.v4, .int .i64 h.v5, .int .i64 h.v6, .int .i64 h.v7, .string T] rfl (setRow_heap _ _ _ _ _ _ gz3) rfl (hrow _)
  · have ha' : (h.v1 != at_) = true := bne_iff_ne.2 ha
    subst hE
    simp only [ha, and_false, if_false]
    go_enter Tryz.func20, Tryz.ntmps20
    go_wp2_with fail
    refine (ho _ HB0.out).mono ?_
    rintro e w2 ⟨rfl, hb2⟩
    have gz : w2.heap[w.heap.size]? = some (.cells #[.bool false, .int .i64 0, .int .i64 0, .int .i64 0, .int .i64 0, .int .i64 0, .int .i64 0, .int .i64 0, .int .i64 0, .string ⟨#[]⟩] 58 (0, 0)) := (hb2.block w.heap.size (by simp)).trans HG0.out
    have hlt : w.heap.size < w2.heap.size := lt_of_block gz
    have hbw : Below w.heap.size w w2 := HB0.out.trans (hb2.mono (by simp))
    clear hb2 ho HB0 HG0
    obtain ⟨w3, hw3⟩ : ∃ w3, w2.alloc (.cells #[.int .i64 h.v0, .int .i64 h.v1, .int .i64 h.v2, .int .i64 h.v3, .int .i64 h.v4, .int .i64 h.v5, .int .i64 h.v6, .int .i64 h.v7] 23) = w3 := ⟨_, rfl⟩
    have g3 : w3.heap[w2.heap.size]? = some (.cells #[.int .i64 h.v0, .int .i64 h.v1, .int .i64 h.v2, .int .i64 h.v3, .int .i64 h.v4, .int .i64 h.v5, .int .i64 h.v6, .int .i64 h.v7] 23 (0, 0)) := by rw [← hw3]; exact heap_alloc_new w2 _
    have gz3 : w3.heap[w.heap.size]? = some (.cells #[.bool false, .int .i64 0, .int .i64 0, .int .i64 0, .int .i64 0, .int .i64 0, .int .i64 0, .int .i64 0, .int .i64 0, .string ⟨#[]⟩] 58 (0, 0)) := by rw [← hw3]; exact (Below.heap_alloc _ _ _ hlt).trans gz
    have hrow : ∀ cs, Below w.heap.size w (w3.setRow w.heap.size cs) := fun cs => by rw [← hw3]; exact (hbw.alloc (Nat.le_of_lt hlt) _).trans ⟨rfl, rfl, rfl, by simp [World.setRow], fun k hk => setRow_other _ _ _ _ (by omega)⟩
    have c0 : w3.cell? ⟨w2.heap.size, 0, none⟩ = some (.int .i64 h.v0) := cell_of_row _ _ _ _ _ _ g3
    have c1 : w3.cell? ⟨w2.heap.size, 1, none⟩ = some (.int .i64 h.v1) := cell_of_row _ _ _ _ _ _ g3
    have c2 : w3.cell? ⟨w2.heap.size, 2, none⟩ = some (.int .i64 h.v2) := cell_of_row _ _ _ _ _ _ g3
    have c3 : w3.cell? ⟨w2.heap.size, 3, none⟩ = some (.int .i64 h.v3) := cell_of_row _ _ _ _ _ _ g3
    have c4 : w3.cell? ⟨w2.heap.size, 4, none⟩ = some (.int .i64 h.v4) := cell_of_row _ _ _ _ _ _ g3
    have c5 : w3.cell? ⟨w2.heap.size, 5, none⟩ = some (.int .i64 h.v5) := cell_of_row _ _ _ _ _ _ g3
    have c6 : w3.cell? ⟨w2.heap.size, 6, none⟩ = some (.int .i64 h.v6) := cell_of_row _ _ _ _ _ _ g3
    have c7 : w3.cell? ⟨w2.heap.size, 7, none⟩ = some (.int .i64 h.v7) := cell_of_row _ _ _ _ _ _ g3
    clear g3 gz hbw
    go_wp2_with (refine wpList_store_row rfl 58 _ _ rfl w.heap.size #[.bool false, .int .i64 0, .int .i64 0, .int .i64 0, .int .i64 0, .int .i64 0, .int .i64 0, .int .i64 0, .int .i64 0, .string ⟨#[]⟩] rfl rfl 58 _ gz3 (by kernel_rfl) rfl (by simp [Value.oneCell']) ?_)
    exact told_ret _ w _ #[.bool false, .int .i64 0, .int .i64 0, .int .i64 0, .int .i64 0, .int .i64 0, .int .i64 0, .int .i64 0, .int .i64 0, .string ⟨#[]⟩] rfl (setRow_heap _ _ _ _ _ _ gz3) rfl (hrow _)
  · have hE' : (E != 0) = true := bne_iff_ne.2 hE
    simp only [hE, false_and, if_false]
    go_enter Tryz.func20, Tryz.ntmps20
    go_wp2_with fail
    refine (ho _ HB0.out).mono ?_
    rintro e w2 ⟨rfl, hb2⟩
    have gz : w2.heap[w.heap.size]? = some (.cells #[.bool false, .int .i64 0, .int .i64 0, .int .i64 0, .int .i64 0, .int .i64 0, .int .i64 0, .int .i64 0, .int .i64 0, .string ⟨#[]⟩] 58 (0, 0)) := (hb2.block w.heap.size (by simp)).trans HG0.out
    have hlt : w.heap.size < w2.heap.size := lt_of_block gz
    have hbw : Below w.heap.size w w2 := HB0.out.trans (hb2.mono (by simp))
    clear hb2 ho HB0 HG0
    obtain ⟨w3, hw3⟩ : ∃ w3, w2.alloc (.cells #[.int .i64 h.v0, .int .i64 h.v1, .int .i64 h.v2, .int .i64 h.v3, .int .i64 h.v4, .int .i64 h.v5, .int .i64 h.v6, .int .i64 h.v7] 23) = w3 := ⟨_, rfl⟩
    have g3 : w3.heap[w2.heap.size]? = some (.cells #[.int .i64 h.v0, .int .i64 h.v1, .int .i64 h.v2, .int .i64 h.v3, .int .i64 h.v4, .int .i64 h.v5, .int .i64 h.v6, .int .i64 h.v7] 23 (0, 0)) := by rw [← hw3]; exact heap_alloc_new w2 _
    have gz3 : w3.heap[w.heap.size]? = some (.cells #[.bool false, .int .i64 0, .int .i64 0, .int .i64 0, .int .i64 0, .int .i64 0, .int .i64 0, .int .i64 0, .int .i64 0, .string ⟨#[]⟩] 58 (0, 0)) := by rw [← hw3]; exact (Below.heap_alloc _ _ _ hlt).trans gz
    have hrow : ∀ cs, Below w.heap.size w (w3.setRow w.heap.size cs) := fun cs => by rw [← hw3]; exact (hbw.alloc (Nat.le_of_lt hlt) _).trans ⟨rfl, rfl, rfl, by simp [World.setRow], fun k hk => setRow_other _ _ _ _ (by omega)⟩
    have c0 : w3.cell? ⟨w2.heap.size, 0, none⟩ = some (.int .i64 h.v0) := cell_of_row _ _ _ _ _ _ g3
    have c1 : w3.cell? ⟨w2.heap.size, 1, none⟩ = some (.int .i64 h.v1) := cell_of_row _ _ _ _ _ _ g3
    have c2 : w3.cell? ⟨w2.heap.size, 2, none⟩ = some (.int .i64 h.v2) := cell_of_row _ _ _ _ _ _ g3
    have c3 : w3.cell? ⟨w2.heap.size, 3, none⟩ = some (.int .i64 h.v3) := cell_of_row _ _ _ _ _ _ g3
    have c4 : w3.cell? ⟨w2.heap.size, 4, none⟩ = some (.int .i64 h.v4) := cell_of_row _ _ _ _ _ _ g3
    have c5 : w3.cell? ⟨w2.heap.size, 5, none⟩ = some (.int .i64 h.v5) := cell_of_row _ _ _ _ _ _ g3
    have c6 : w3.cell? ⟨w2.heap.size, 6, none⟩ = some (.int .i64 h.v6) := cell_of_row _ _ _ _ _ _ g3
    have c7 : w3.cell? ⟨w2.heap.size, 7, none⟩ = some (.int .i64 h.v7) := cell_of_row _ _ _ _ _ _ g3
    clear g3 gz hbw
    go_wp2_with (refine wpList_store_row rfl 58 _ _ rfl w.heap.size #[.bool false, .int .i64 0, .int .i64 0, .int .i64 0, .int .i64 0, .int .i64 0, .int .i64 0, .int .i64 0, .int .i64 0, .string ⟨#[]⟩] rfl rfl 58 _ gz3 (by kernel_rfl) rfl (by simp [Value.oneCell']) ?_)
    exact told_ret _ w _ #[.bool false, .int .i64 0, .int .i64 0, .int .i64 0, .int .i64 0, .int .i64 0, .int .i64 0, .int .i64 0, .int .i64 0, .string ⟨#[]⟩] rfl (setRow_heap _ _ _ _ _ _ gz3) rfl (hrow _)
theorem told_any (B : Nat) (F : Nat → Prop) (S : VS) (r : ByteArray) (at_ : Int) (hl : S.seals.length ≤ 1000000) (w : World) (hp : Ideal w F B S) :
    Calls Tryz.prog 20 #[.pointer (some ⟨B, 0, none⟩), .string r, .int .i64 at_] w fun e w' => e = .returned (.agg (if bopenE S r = 0 ∧ (bopenH S r).v1 = at_ then readA true (bopenH S r) (bopenS S r) else noneA)) ∧ Below w.heap.size w w' :=
  told_gen _ r _ _ _ at_ w fun w' hb => bopen_any B F S r hl w' (hp.below hb)
end Go.Proofs.YtdhiopbomnfmnaaGreatDoor

namespace Go.Proofs.YtdhiopbomnfmnaaGreatDoor
set_option maxRecDepth 20000
open Go.RowKit Go.Lib

def cut448 (s : ByteArray) : ByteArray := if 448 < s.size then s.extract 0 448 else s
theorem cut448_size (s : ByteArray) : (cut448 s).size ≤ 448 := by
  unfold cut448
  split
  · simp; omega
  · omega
def bodyS (s : ByteArray) : ByteArray := cut448 s ++ noughtsS (448 - (cut448 s).size)
theorem bodyS_size (s : ByteArray) : (bodyS s).size = 448 := by
  have := cut448_size s
  unfold bodyS
  rw [ByteArray.size_append, noughtsS_size]
  omega
set_option maxHeartbeats 1000000 in
theorem body_any (s : ByteArray) (w : World) : Calls Tryz.prog 7 #[.string s] w fun e w' => e = .returned (.string (bodyS s)) ∧ Below w.heap.size w w' := by
  obtain ⟨i0, hi, hz0, hz1, hz2⟩ := info_parts info_u8
  have HK : Hid (bodyS s = cut448 s ++ noughtsS (448 - (cut448 s).size)) := rfl
  have hk := cut448_size s
  have hcut : (448 < s.size ∧ s.extract 0 448 = cut448 s) ∨ (¬ 448 < s.size ∧ s = cut448 s) := by
    by_cases h : 448 < s.size
    · exact .inl ⟨h, by simp [cut448, h]⟩
    · exact .inr ⟨h, by simp [cut448, h]⟩
  generalize bodyS s = b at *
  generalize cut448 s = k at *
  obtain ⟨m, hm⟩ : ∃ m, m = 448 - k.size := ⟨_, rfl⟩
  rw [← hm] at HK
  have v1 : IntKind.i64.wrap ((448 : Int) - k.size) = m := by rw [IntKind.wrap_i64]; omega
  have v2 : (448 : Int) - k.size = m := by omega
  have hm4 : m ≤ 448 := by omega
  have HM : Hid (m = 448 - k.size) := hm
  have hzs := noughtsS_size m
  have hadd : ∀ w', (Op.stringOp .add k (noughtsS m)).run Tryz.prog w' = .ok (.string b) w' := fun w' => by rw [HK.out]; exact run_string_add_sum (P := Tryz.prog) (w := w') k _ (by omega)
  clear hm HK
  rcases hcut with ⟨hc, he⟩ | ⟨hc, he⟩
  case' inl =>
    have hc1 : (448 : Int) < s.size := by omega
    have hc2 : (448 : Int) ≤ s.size := by omega
    go_enter Tryz.func7, Tryz.ntmps7
  case' inr =>
    have hc1 : ¬ (448 : Int) < s.size := by omega
    subst he
    go_enter Tryz.func7, Tryz.ntmps7
  all_goals
    go_wp2_with (at_make; refine wpList_make_full _ rfl _ _ 55 rfl w.heap.size 5 i0 (.int .u8 0) 1 Tryz.underlying55 hi hz0 hz1 .i64 .i64 _ _ m rfl rfl rfl rfl ?c1 ?c2 (Nat.le_refl _) ?_)
    case c1 => first | omega | (rw [hz2]; omega)
    case c2 => unfold maxLen; omega
    intro w2 hown1 hgrow1
    have hb2 : Below w.heap.size w w2 := (Below.refl _ _).grown hgrow1 (Nat.le_refl _) (fun k hk => by simp at hk)
    have hown2 : w2.ownsRow w.heap.size 5 1 (.slice (some ⟨w.heap.size, 0, none⟩) m m) m (List.replicate m (Value.int .u8 0)) := by
      simpa [toList_madeCells_one, Value.cells] using hown1
    have hcv := run_convert_bytes_arg (P := Tryz.prog) w2 55 5 Tryz.underlying55 Tryz.underlying5 w.heap.size 0 m m (List.replicate m 0) (by simp) (fun i hi => by
      rw [Nat.zero_add, hown2.cellAt i (by omega)]
      simp [List.getD, hi]) 9 Tryz.underlying9
    rw [show strOfNums (List.replicate m 0) = noughtsS m from rfl] at hcv
    clear hown1 hown2 hgrow1
    generalize noughtsS m = Z at *
    go_wp2
    go_ret
    exact ⟨rfl, hb2⟩

def h9 : Hd := ⟨0, 9, 0, 0, 0, 0, 0, 0⟩
theorem h9_err : h9.err = 0 := by decide
theorem new_one (h : Hd) (s : ByteArray) : numOf (addN newV.seals (h.four s)) (h.four s) = 1 := by
  rw [numOf_add]
  rfl
/-- A block that was sealed by a new vault. -/
theorem new_seal (h : Hd) (s : ByteArray) (e : h.err = 0) (hs : s.size = 448) : bsealS newV h s = blkS h s 1 ∧ bsealE h s = 0 ∧ bsealP newV h s = ⟨[], [], [h.four s]⟩ := by
  have hB : bsealB h s = true := by simp [bsealB, hs, e]
  refine ⟨?_, by simp [bsealE, hs, e], ?_⟩
  · unfold bsealS; rw [hB, if_pos rfl, new_one]
  · unfold bsealP; rw [hB, if_pos rfl]; rfl
theorem new_opens (h : Hd) (s : ByteArray) (e : h.err = 0) (hs : s.size = 448) : bopenE ⟨[], [], [h.four s]⟩ (blkS h s 1) = 0 ∧ bopenH ⟨[], [], [h.four s]⟩ (blkS h s 1) = h ∧ bopenS ⟨[], [], [h.four s]⟩ (blkS h s 1) = s := by
  have h1 : numOf [h.four s] (h.four s) = 1 := by simp [numOf]
  have := bopen_blk ⟨[], [], [h.four s]⟩ h s (by show (1 : Nat) ≤ _; omega) e hs (by show numOf [h.four s] (h.four s) ≠ 0; rw [h1]; omega)
  rw [show numOf (VS.mk [] [] [h.four s]).seals (h.four s) = 1 from h1] at this
  exact this
theorem field_ok (ok : Bool) (x0 x1 x2 x3 x4 x5 x6 x7 : Int) (s : ByteArray) (w : World) : (Instr.field 58 (.agg #[.bool ok, .int .i64 x0, .int .i64 x1, .int .i64 x2, .int .i64 x3, .int .i64 x4, .int .i64 x5, .int .i64 x6, .int .i64 x7, .string s]) 0).run Tryz.prog w = .ok (.bool ok) w := by kernel_rfl
set_option maxHeartbeats 2000000 in
theorem bawake_any (w : World) : Calls Tryz.prog 9 #[] w fun e w' => e = .returned (.bool true) ∧ Below w.heap.size w w' := by
  have hx := fun w => body_any ⟨#[120]⟩ w
  have hsz := bodyS_size ⟨#[120]⟩
  generalize bodyS ⟨#[120]⟩ = b at *
  obtain ⟨s1, s2, s3⟩ := new_seal h9 b h9_err hsz
  obtain ⟨o1, o2, o3⟩ := new_opens h9 b h9_err hsz
  have hse := fun B F w (hp : Ideal w F B newV) => bseal_any B F newV h9 b (by decide) w hp
  rw [s1, s2, s3] at hse
  have hr512 := blk_size (n := 1) h9_err hsz (by decide)
  have ht9 := fun B F w (hp : Ideal w F B ⟨[], [], [h9.four b]⟩) => told_any B F ⟨[], [], [h9.four b]⟩ (blkS h9 b 1) 9 (by show (1 : Nat) ≤ _; omega) w hp
  have ht10 := fun B F w (hp : Ideal w F B ⟨[], [], [h9.four b]⟩) => told_any B F ⟨[], [], [h9.four b]⟩ (blkS h9 b 1) 10 (by show (1 : Nat) ≤ _; omega) w hp
  rw [o1, o2, o3] at ht9 ht10
  simp only [show h9.v1 = 9 from rfl, and_self, if_true, show ¬ (9 : Int) = 10 by decide, and_false, if_false] at ht9 ht10
  simp only [readA, noneA] at ht9 ht10
  generalize blkS h9 b 1 = r at *
  generalize VS.mk [] [] [h9.four b] = S at *
  simp only [Hd.arr] at hse
  simp only [show h9.v0 = 0 from rfl, show h9.v1 = 9 from rfl, show h9.v2 = 0 from rfl, show h9.v3 = 0 from rfl, show h9.v4 = 0 from rfl, show h9.v5 = 0 from rfl, show h9.v6 = 0 from rfl, show h9.v7 = 0 from rfl] at hse
  have hr' : (r.size : Int) = 512 := by omega
  clear s1 s2 s3 o1 o2 o3 hsz hr512
  have hfo := field_ok
  go_enter Tryz.func9, Tryz.ntmps9
  go_wp2_with fail
  refine (ideal_any w).mono ?_
  rintro e w1 ⟨B, rfl, hp, hb⟩
  go_wp2_with fail
  refine (hx _).mono ?_
  rintro e w2 ⟨rfl, hb2⟩
  have hp2 := hp.below hb2
  have hb2' := hb.trans (hb2.mono hb.size)
  clear hx hp hb hb2
  go_wp2_with fail
  refine (hse B _ w2 hp2).mono ?_
  rintro e w3 ⟨rfl, hp3, ht3⟩
  have hb3 := hb2'.trans (ht3.below hb2'.size fun k h => h.1)
  clear hse hp2 hb2' ht3
  go_wp2_with fail
  refine (ht9 B _ w3 hp3).mono ?_
  rintro e w4 ⟨rfl, hb4⟩
  have hp4 := hp3.below hb4
  have hb4' := hb3.trans (hb4.mono hb3.size)
  clear ht9 hp3 hb3 hb4
  go_wp2_with fail
  refine (ht10 B _ w4 hp4).mono ?_
  rintro e w5 ⟨rfl, hb5⟩
  have HF : Hid (Below w.heap.size w w5) := hb4'.trans (hb5.mono hb4'.size)
  clear ht10 hp4 hb4' hb5
  go_wp2
  go_ret
  exact ⟨rfl, HF.out⟩
end Go.Proofs.YtdhiopbomnfmnaaGreatDoor

namespace Go.Proofs.YtdhiopbomnfmnaaGreatDoor
set_option maxRecDepth 20000
open Go.RowKit Go.Lib

theorem hd_cells {w : World} {b : Nat} {h : Hd} (g : w.heap[b]? = some (.cells #[.int .i64 h.v0, .int .i64 h.v1, .int .i64 h.v2, .int .i64 h.v3, .int .i64 h.v4, .int .i64 h.v5, .int .i64 h.v6, .int .i64 h.v7] 23 (0, 0))) : w.cell? ⟨b, 0, none⟩ = some (.int .i64 h.v0) ∧ w.cell? ⟨b, 1, none⟩ = some (.int .i64 h.v1) ∧ w.cell? ⟨b, 2, none⟩ = some (.int .i64 h.v2) ∧ w.cell? ⟨b, 3, none⟩ = some (.int .i64 h.v3) ∧ w.cell? ⟨b, 4, none⟩ = some (.int .i64 h.v4) ∧ w.cell? ⟨b, 5, none⟩ = some (.int .i64 h.v5) ∧ w.cell? ⟨b, 6, none⟩ = some (.int .i64 h.v6) ∧ w.cell? ⟨b, 7, none⟩ = some (.int .i64 h.v7) :=
  ⟨cell_of_row _ _ _ _ _ _ g, cell_of_row _ _ _ _ _ _ g, cell_of_row _ _ _ _ _ _ g, cell_of_row _ _ _ _ _ _ g, cell_of_row _ _ _ _ _ _ g, cell_of_row _ _ _ _ _ _ g, cell_of_row _ _ _ _ _ _ g, cell_of_row _ _ _ _ _ _ g⟩
theorem eql_ints (a0 a1 a2 a3 a4 a5 a6 a7 b0 b1 b2 b3 b4 b5 b6 b7 : Int) (w : World) : (binOp .eql 23 (.agg #[.int .i64 a0, .int .i64 a1, .int .i64 a2, .int .i64 a3, .int .i64 a4, .int .i64 a5, .int .i64 a6, .int .i64 a7]) (.agg #[.int .i64 b0, .int .i64 b1, .int .i64 b2, .int .i64 b3, .int .i64 b4, .int .i64 b5, .int .i64 b6, .int .i64 b7])).run Tryz.prog w = .ok (.bool (a0 == b0 && (a1 == b1 && (a2 == b2 && (a3 == b3 && (a4 == b4 && (a5 == b5 && (a6 == b6 && a7 == b7)))))))) w := by
  go_simp
  repeat' split
  all_goals simp_all
theorem eql_hd (g h : Hd) (w : World) : (binOp .eql 23 (.agg #[.int .i64 g.v0, .int .i64 g.v1, .int .i64 g.v2, .int .i64 g.v3, .int .i64 g.v4, .int .i64 g.v5, .int .i64 g.v6, .int .i64 g.v7]) (.agg #[.int .i64 h.v0, .int .i64 h.v1, .int .i64 h.v2, .int .i64 h.v3, .int .i64 h.v4, .int .i64 h.v5, .int .i64 h.v6, .int .i64 h.v7])).run Tryz.prog w = .ok (.bool (decide (g = h))) w := by
  rw [eql_ints]
  congr 2
  obtain ⟨a0, a1, a2, a3, a4, a5, a6, a7⟩ := g
  obtain ⟨b0, b1, b2, b3, b4, b5, b6, b7⟩ := h
  rw [Bool.eq_iff_iff]
  simp
theorem read_form (c : Prop) [Decidable c] (h : Hd) (s : ByteArray) : (if c then readA true h s else noneA) = readA (decide c) (if c then h else Hd.zero) (if c then s else ⟨#[]⟩) := by
  by_cases k : c
  · simp [k]
  · simp [k, noneA]
theorem told_form (B : Nat) (F : Nat → Prop) (S : VS) (r : ByteArray) (at_ : Int) (hl : S.seals.length ≤ 1000000) (w : World) (hp : Ideal w F B S) :
    Calls Tryz.prog 20 #[.pointer (some ⟨B, 0, none⟩), .string r, .int .i64 at_] w fun e w' => (∃ (h : Hd) (s : ByteArray), e = .returned (.agg #[.bool (decide (bopenE S r = 0 ∧ (bopenH S r).v1 = at_)), .int .i64 h.v0, .int .i64 h.v1, .int .i64 h.v2, .int .i64 h.v3, .int .i64 h.v4, .int .i64 h.v5, .int .i64 h.v6, .int .i64 h.v7, .string s]) ∧ (bopenE S r = 0 ∧ (bopenH S r).v1 = at_ → h = bopenH S r ∧ s = bopenS S r) ∧ (¬ (bopenE S r = 0 ∧ (bopenH S r).v1 = at_) → h = Hd.zero ∧ s = ⟨#[]⟩)) ∧ Below w.heap.size w w' := by
  refine (told_any B F S r at_ hl w hp).mono fun e w' h => ?_
  obtain ⟨he, hb⟩ := h
  rw [read_form] at he
  by_cases hc : bopenE S r = 0 ∧ (bopenH S r).v1 = at_
  · rw [if_pos hc, if_pos hc] at he
    exact ⟨⟨_, _, he, fun _ => ⟨rfl, rfl⟩, fun h => absurd hc h⟩, hb⟩
  · rw [if_neg hc, if_neg hc] at he
    exact ⟨⟨_, _, he, fun h => absurd h hc, fun _ => ⟨rfl, rfl⟩⟩, hb⟩
theorem Touch.blk {F : Nat → Prop} {w w' : World} (h : Touch F w w') {k : Nat} (hk : k < w.heap.size) (hF : ¬ F k) : w'.heap[k]? = w.heap[k]? := h.2 k hk hF
theorem cell_kept_ {w w' : World} {b : Nat} (h : w'.heap[b]? = w.heap[b]?) (i : Nat) : w'.cell? ⟨b, i, none⟩ = w.cell? ⟨b, i, none⟩ := World.cell?_of_block (a := ⟨b, i, none⟩) h
/-- Two heads in two blocks. -/
def TwoH (w : World) (b : Nat) (g h : Hd) : Prop := w.heap[b]? = some (.cells #[.int .i64 g.v0, .int .i64 g.v1, .int .i64 g.v2, .int .i64 g.v3, .int .i64 g.v4, .int .i64 g.v5, .int .i64 g.v6, .int .i64 g.v7] 23 (0, 0)) ∧ w.heap[b + 1]? = some (.cells #[.int .i64 h.v0, .int .i64 h.v1, .int .i64 h.v2, .int .i64 h.v3, .int .i64 h.v4, .int .i64 h.v5, .int .i64 h.v6, .int .i64 h.v7] 23 (0, 0))
theorem TwoH.keep {w w' : World} {b : Nat} {g h : Hd} (t : TwoH w b g h) (k : ∀ i, i < b + 2 → w'.heap[i]? = w.heap[i]?) : TwoH w' b g h := ⟨(k b (by omega)).trans t.1, (k (b + 1) (by omega)).trans t.2⟩
theorem TwoH.new (w : World) (g h : Hd) : TwoH ((w.alloc (.cells #[.int .i64 g.v0, .int .i64 g.v1, .int .i64 g.v2, .int .i64 g.v3, .int .i64 g.v4, .int .i64 g.v5, .int .i64 g.v6, .int .i64 g.v7] 23)).alloc (.cells #[.int .i64 h.v0, .int .i64 h.v1, .int .i64 h.v2, .int .i64 h.v3, .int .i64 h.v4, .int .i64 h.v5, .int .i64 h.v6, .int .i64 h.v7] 23)) w.heap.size g h := by
  refine ⟨(Below.heap_alloc _ _ _ (by simp)).trans (heap_alloc_new w _), ?_⟩
  have := heap_alloc_new (w.alloc (.cells #[.int .i64 g.v0, .int .i64 g.v1, .int .i64 g.v2, .int .i64 g.v3, .int .i64 g.v4, .int .i64 g.v5, .int .i64 g.v6, .int .i64 g.v7] 23)) (.cells #[.int .i64 h.v0, .int .i64 h.v1, .int .i64 h.v2, .int .i64 h.v3, .int .i64 h.v4, .int .i64 h.v5, .int .i64 h.v6, .int .i64 h.v7] 23)
  rw [World.size_alloc] at this
  exact this
end Go.Proofs.YtdhiopbomnfmnaaGreatDoor
