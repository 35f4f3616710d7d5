/- block's Open where the head is none; Seal, Open and Told under the ideal vault. · A vault that hashes, seals and opens, told by a structure; the ideal one is one. · block's Look, at an image that lies in memory and any vault that is told. -/
import Derived.Test.YtbmjablmmlnieaaGreatDoorMg19
import Derived.Test.YtbmjablmmlnieaaGreatDoorMg10
import Derived.Test.YtbmjablmmlnieaaGreatDoorMg16
namespace Go.Proofs.YtbmjablmmlnieaaGreatDoor
set_option maxRecDepth 20000
open Go.RowKit Go.Lib

set_option maxHeartbeats 1000000 in
theorem bopen_head (v : Value) (r : ByteArray) (hr : r.size = 512) (he : ¬ headE (r.extract 0 48) = 0) (w : World) : Calls Tryz.prog 112 #[v, .string r] w fun e w' => e = .returned (.tuple #[.agg Hd.zero.arr, .string ⟨#[]⟩, .int .i64 (headE (r.extract 0 48))]) ∧ Below w.heap.size w w' := by
  have hw := fun w => whole_any r w
  rw [decide_eq_true hr] at hw
  have hh := fun w => bheadOf_any (r.extract 0 48) w
  have he' : (headE (r.extract 0 48) != 0) = true := bne_iff_ne.2 he
  clear he
  generalize hdOf (r.extract 0 48) = h at *
  generalize hx : r.extract 0 48 = x at *
  generalize headE x = E at *
  simp only [Hd.arr, Hd.zero]
  have hr1 : (48 : Int) ≤ r.size := by omega
  go_enter Tryz.func112, Tryz.ntmps112
  go_wp2_with fail
  refine (hw _).mono ?_
  rintro e w1 ⟨rfl, rfl⟩
  clear hw
  go_wp2_with fail
  go_quiet (fail)
  try rw [hx]
  go_wp2_with fail
  refine (hh _).mono ?_
  rintro e w2 ⟨rfl, hb2⟩
  have gz : w2.heap[w.heap.size]? = some (.cells #[.int .i64 0, .int .i64 0, .int .i64 0, .int .i64 0, .int .i64 0, .int .i64 0, .int .i64 0, .int .i64 0] 79 (0, 0)) := (hb2.block w.heap.size (by simp)).trans (heap_alloc_new w _)
  have hlt : w.heap.size < w2.heap.size := lt_of_block gz
  have hbw : Below w.heap.size w w2 := (below_drewN ((Below.refl _ _).alloc (Nat.le_refl _) _) nq).trans (hb2.mono (by simp))
  clear hb2 hh
  obtain ⟨w3, hw3⟩ : ∃ w3, w2.alloc (.cells #[.int .i64 h.v0, .int .i64 h.v1, .int .i64 h.v2, .int .i64 h.v3, .int .i64 h.v4, .int .i64 h.v5, .int .i64 h.v6, .int .i64 h.v7] 79) = w3 := ⟨_, rfl⟩
  have g3 : w3.heap[w.heap.size]? = some (.cells #[.int .i64 0, .int .i64 0, .int .i64 0, .int .i64 0, .int .i64 0, .int .i64 0, .int .i64 0, .int .i64 0] 79 (0, 0)) := by rw [← hw3]; exact (Below.heap_alloc _ _ _ hlt).trans gz
  have HB3 : Hid (Below w.heap.size w w3) := by rw [← hw3]; exact hbw.alloc (Nat.le_of_lt hlt) _
  clear hbw gz
  go_wp2_with (refine wpList_store_row rfl 79 _ _ rfl w.heap.size #[.int .i64 0, .int .i64 0, .int .i64 0, .int .i64 0, .int .i64 0, .int .i64 0, .int .i64 0, .int .i64 0] rfl rfl 79 _ g3 (by kernel_rfl) rfl (by simp [Value.oneCell']) ?_)
  exact open_ret _ w _ ⟨#[]⟩ E #[.int .i64 0, .int .i64 0, .int .i64 0, .int .i64 0, .int .i64 0, .int .i64 0, .int .i64 0, .int .i64 0] rfl rfl rfl (setRow_heap _ _ _ _ _ _ g3) rfl (HB3.out.trans ⟨rfl, rfl, rfl, by simp [World.setRow], fun k hk => setRow_other _ _ _ _ (by omega)⟩)

theorem bseal_any (B : Nat) (F : Nat → Prop) (S : VS) (h : Hd) (s : ByteArray) (hl : S.seals.length ≤ 1000000) (w : World) (hp : Ideal w F B S) :
    Calls Tryz.prog 78 #[.pointer (some ⟨B, 0, none⟩), .agg h.arr, .string s] w fun e w' => e = .returned (.tuple #[.string (bsealS S h s), .int .i64 (bsealE h s)]) ∧ Ideal w' F B (bsealP S h s) ∧ Touch F w w' := by
  by_cases hs : s.size = 448
  case neg =>
    have hB : bsealB h s = false := by simp [bsealB, hs]
    have e1 : bsealS S h s = ⟨#[]⟩ := by simp [bsealS, hB]
    have e2 : bsealE h s = 1 := by simp [bsealE, hs]
    have e3 : bsealP S h s = S := by simp [bsealP, hB]
    rw [e1, e2, e3]
    exact (bseal_short _ h s hs w).mono fun e w' ⟨he, hb⟩ => ⟨he, hp.below hb, Touch.of_below hb⟩
  by_cases he : h.err = 0
  case neg =>
    have hB : bsealB h s = false := by simp [bsealB, he]
    have e1 : bsealS S h s = ⟨#[]⟩ := by simp [bsealS, hB]
    have e2 : bsealE h s = h.err := by simp [bsealE, hs]
    have e3 : bsealP S h s = S := by simp [bsealP, hB]
    rw [e1, e2, e3]
    exact (bseal_head _ h s hs he w).mono fun e w' ⟨he, hb⟩ => ⟨he, hp.below hb, Touch.of_below hb⟩
  have hB : bsealB h s = true := by simp [bsealB, hs, he]
  have e1 : bsealS S h s = h.txt ++ sealS S h.v7 h.nonce h.txt s := by simp [bsealS, hB, sealS, fit_hd he, blkS, Hd.four]
  have e2 : bsealE h s = 0 := by simp [bsealE, hs, he]
  have e3 : bsealP S h s = sealP S h.v7 h.nonce h.txt s := by simp [bsealP, hB, sealP, fit_hd he, Hd.four]
  rw [e1, e2, e3]
  have hE : sealE h.v7 h.nonce = 0 := by simp [sealE, fit_hd he]
  have hz : (sealS S h.v7 h.nonce h.txt s).size ≤ 1000000 := by
    have hn : numOf (addN S.seals ⟨h.v7, h.nonce, h.txt, s⟩) ⟨h.v7, h.nonce, h.txt, s⟩ < 281474976710656 := by
      have h1 := numOf_le (⟨h.v7, h.nonce, h.txt, s⟩ : Four) (addN S.seals ⟨h.v7, h.nonce, h.txt, s⟩)
      have h2 := addN_length S.seals (⟨h.v7, h.nonce, h.txt, s⟩ : Four)
      omega
    unfold sealS
    rw [fit_hd he, if_pos rfl, ByteArray.size_append, hs, wideS_size hn (by decide)]
    decide
  have hg := bseal_gen (.pointer (some ⟨B, 0, none⟩)) h s (sealS S h.v7 h.nonce h.txt s) 0 (fun w'' => Ideal w'' (fun k => F k ∧ k < w.heap.size) B (sealP S h.v7 h.nonce h.txt s) ∧ Touch (fun k => F k ∧ k < w.heap.size) w w'') w hs he hz fun w' hb => by
    have hp' : Ideal w' (fun k => F k ∧ k < w.heap.size) B S := (hp.mono fun k hk hF => ⟨hF, hk⟩).below hb
    have := vseal_any B _ S h.v7 h.nonce h.txt s (four_fit he (by omega)) hl w' hp'
    rw [hE] at this
    refine this.mono fun e w'' ⟨h1, h2, h3⟩ => ⟨h1, ⟨h2, ?_⟩, fun k hk hk2 => h3.2 k hk2 fun hF => by omega⟩
    exact ⟨(hb.mono (Nat.zero_le _)).trans h3.1, fun k hk hn => (h3.2 k (Nat.lt_of_lt_of_le hk hb.size) hn).trans (hb.block k hk)⟩
  refine hg.mono fun e w' ⟨h1, h2, h3⟩ => ⟨h1, h2.mono fun k _ hF => hF.1, h3.mono fun k hF => hF.1⟩

theorem bopen_any (B : Nat) (F : Nat → Prop) (S : VS) (r : ByteArray) (hl : S.seals.length ≤ 1000000) (w : World) (hp : Ideal w F B S) :
    Calls Tryz.prog 112 #[.pointer (some ⟨B, 0, none⟩), .string r] w fun e w' => e = .returned (.tuple #[.agg (bopenH S r).arr, .string (bopenS S r), .int .i64 (bopenE S r)]) ∧ Below w.heap.size w w' := by
  by_cases hr : r.size = 512
  case neg =>
    have e1 : bopenE S r = 1 := by simp [bopenE, hr]
    have e2 : bopenH S r = Hd.zero := by simp [bopenH, e1]
    have e3 : bopenS S r = ⟨#[]⟩ := by simp [bopenS, e1]
    rw [e1, e2, e3]
    exact bopen_short _ r hr w
  by_cases he : headE (r.extract 0 48) = 0
  case neg =>
    have e1 : bopenE S r = headE (r.extract 0 48) := by simp [bopenE, hr, he]
    have e2 : bopenH S r = Hd.zero := by simp [bopenH, e1, he]
    have e3 : bopenS S r = ⟨#[]⟩ := by simp [bopenS, e1, he]
    rw [e1, e2, e3]
    exact bopen_head _ r hr he w
  obtain ⟨k1, k2⟩ := hd_back he
  have hz : (r.extract 48 512).size = 464 := by simp [hr]
  have f4 : fitF ⟨(hdOf (r.extract 0 48)).v7, (hdOf (r.extract 0 48)).nonce, r.extract 0 48, r.extract 48 512⟩ := by
    have := four_fit (s := r.extract 48 512) k1 (by omega)
    simpa only [Hd.four, k2] using this
  have hg := bopen_gen (.pointer (some ⟨B, 0, none⟩)) r _ _ w hr he fun w' hb => vopen_any B F S _ _ _ _ f4 hl w' (hp.below hb)
  have o1 : openE S (hdOf (r.extract 0 48)).v7 (hdOf (r.extract 0 48)).nonce (r.extract 0 48) (r.extract 48 512) = bopenE S r := by
    unfold openE bopenE
    rw [fit_hd k1, if_pos rfl, if_neg (by omega), if_pos hr, if_pos he]
    rfl
  have o2 : openS S (hdOf (r.extract 0 48)).v7 (hdOf (r.extract 0 48)).nonce (r.extract 0 48) (r.extract 48 512) = bopenS S r := by
    unfold openS bopenS bopenE
    rw [fit_hd k1, if_pos rfl, if_neg (by omega), if_pos hr, if_pos he]
    unfold opensB
    cases openB S (hdOf (r.extract 0 48)).v7 (hdOf (r.extract 0 48)).nonce (r.extract 0 48) (r.extract 48 512) <;> rfl
  rw [o1, o2] at hg
  have o3 : (if bopenE S r = 0 then (hdOf (r.extract 0 48)).arr else Hd.zero.arr) = (bopenH S r).arr := by unfold bopenH; split <;> rfl
  have o4 : (if bopenE S r = 0 then bopenS S r else ⟨#[]⟩) = bopenS S r := by unfold bopenS; split <;> rfl
  rw [o3, o4] at hg
  exact hg

/-- A reading. -/
def readA (ok : Bool) (h : Hd) (s : ByteArray) : Array Value := #[.bool ok, .int .i64 h.v0, .int .i64 h.v1, .int .i64 h.v2, .int .i64 h.v3, .int .i64 h.v4, .int .i64 h.v5, .int .i64 h.v6, .int .i64 h.v7, .string s]
def noneA : Array Value := readA false Hd.zero ⟨#[]⟩
theorem told_ret (tmps : Array Value) (w w' : World) (cs : Array Value) (h1 : tmps.getD 6 undef = .pointer (some ⟨w.heap.size, 0, none⟩)) (hg : w'.heap[w.heap.size]? = some (.cells cs 81 (0, 0))) (hs : cs.size = 10) (hb : Below w.heap.size w w') :
    bodyPost Tryz.prog Tryz.f79 (fun e w'' => e = .returned (.agg cs) ∧ Below w.heap.size w w'') .ret { tmps := tmps, defers := [] } w' :=
  bodyPost_ret (v := .agg cs) (results_cell_row Tryz.results79 tmps w' w.heap.size 81 cs (0, 0) _ h1 hg Tryz.underlying81 rfl (by rw [hs]; kernel_rfl)) rfl ⟨rfl, hb⟩
set_option maxHeartbeats 2000000 in
theorem told_gen (v : Value) (r T : ByteArray) (h : Hd) (E at_ : Int) (w : World)
    (ho : ∀ w', Below w.heap.size w w' → Calls Tryz.prog 112 #[v, .string r] w' fun e w'' => e = .returned (.tuple #[.agg h.arr, .string T, .int .i64 E]) ∧ Below w'.heap.size w' w'') :
    Calls Tryz.prog 79 #[v, .string r, .int .i64 at_] w fun e w' => e = .returned (.agg (if E = 0 ∧ h.v1 = at_ then readA true h T else noneA)) ∧ Below w.heap.size w w' := by
  have hb0 := (Below.refl w.heap.size w).alloc (Nat.le_refl _) (.cells #[.bool false, .int .i64 0, .int .i64 0, .int .i64 0, .int .i64 0, .int .i64 0, .int .i64 0, .int .i64 0, .int .i64 0, .string ⟨#[]⟩] 81)
  have g0 := heap_alloc_new w (.cells #[.bool false, .int .i64 0, .int .i64 0, .int .i64 0, .int .i64 0, .int .i64 0, .int .i64 0, .int .i64 0, .int .i64 0, .string ⟨#[]⟩] 81)
  simp only [Hd.arr] at ho
  simp only [readA, noneA, Hd.zero]
  have HB0 : Hid _ := hb0
  have HG0 : Hid _ := g0
  clear hb0 g0
  rcases (show (E = 0 ∧ h.v1 = at_) ∨ (E = 0 ∧ ¬ h.v1 = at_) ∨ ¬ E = 0 by omega) with ⟨hE, ha⟩ | ⟨hE, ha⟩ | hE
  · subst hE
    subst ha
    simp only [and_self, if_true]
    go_enter Tryz.func79, Tryz.ntmps79
    go_wp2_with fail
    refine (ho _ HB0.out).mono ?_
    rintro e w2 ⟨rfl, hb2⟩
    have gz : w2.heap[w.heap.size]? = some (.cells #[.bool false, .int .i64 0, .int .i64 0, .int .i64 0, .int .i64 0, .int .i64 0, .int .i64 0, .int .i64 0, .int .i64 0, .string ⟨#[]⟩] 81 (0, 0)) := (hb2.block w.heap.size (by simp)).trans HG0.out
    have hlt : w.heap.size < w2.heap.size := lt_of_block gz
    have hbw : Below w.heap.size w w2 := HB0.out.trans (hb2.mono (by simp))
    clear hb2 ho HB0 HG0
    obtain ⟨w3, hw3⟩ : ∃ w3, w2.alloc (.cells #[.int .i64 h.v0, .int .i64 h.v1, .int .i64 h.v2, .int .i64 h.v3, .int .i64 h.v4, .int .i64 h.v5, .int .i64 h.v6, .int .i64 h.v7] 79) = w3 := ⟨_, rfl⟩
    have g3 : w3.heap[w2.heap.size]? = some (.cells #[.int .i64 h.v0, .int .i64 h.v1, .int .i64 h.v2, .int .i64 h.v3, .int .i64 h.v4, .int .i64 h.v5, .int .i64 h.v6, .int .i64 h.v7] 79 (0, 0)) := by rw [← hw3]; exact heap_alloc_new w2 _
    have gz3 : w3.heap[w.heap.size]? = some (.cells #[.bool false, .int .i64 0, .int .i64 0, .int .i64 0, .int .i64 0, .int .i64 0, .int .i64 0, .int .i64 0, .int .i64 0, .string ⟨#[]⟩] 81 (0, 0)) := by rw [← hw3]; exact (Below.heap_alloc _ _ _ hlt).trans gz
    have hrow : ∀ cs, Below w.heap.size w (w3.setRow w.heap.size cs) := fun cs => by rw [← hw3]; exact (hbw.alloc (Nat.le_of_lt hlt) _).trans ⟨rfl, rfl, rfl, by simp [World.setRow], fun k hk => setRow_other _ _ _ _ (by omega)⟩
    have c0 : w3.cell? ⟨w2.heap.size, 0, none⟩ = some (.int .i64 h.v0) := cell_of_row _ _ _ _ _ _ g3
    have c1 : w3.cell? ⟨w2.heap.size, 1, none⟩ = some (.int .i64 h.v1) := cell_of_row _ _ _ _ _ _ g3
    have c2 : w3.cell? ⟨w2.heap.size, 2, none⟩ = some (.int .i64 h.v2) := cell_of_row _ _ _ _ _ _ g3
    have c3 : w3.cell? ⟨w2.heap.size, 3, none⟩ = some (.int .i64 h.v3) := cell_of_row _ _ _ _ _ _ g3
    have c4 : w3.cell? ⟨w2.heap.size, 4, none⟩ = some (.int .i64 h.v4) := cell_of_row _ _ _ _ _ _ g3
    have c5 : w3.cell? ⟨w2.heap.size, 5, none⟩ = some (.int .i64 h.v5) := cell_of_row _ _ _ _ _ _ g3
    have c6 : w3.cell? ⟨w2.heap.size, 6, none⟩ = some (.int .i64 h.v6) := cell_of_row _ _ _ _ _ _ g3
    have c7 : w3.cell? ⟨w2.heap.size, 7, none⟩ = some (.int .i64 h.v7) := cell_of_row _ _ _ _ _ _ g3
    clear g3 gz hbw
    go_wp2_with (refine wpList_store_row rfl 81 _ _ rfl w.heap.size #[.bool true, .int .i64 h.v0, .int .i64 h.v1, .int .i64 h.v2, .int .i64 h.v3, .int .i64 h.v4, .int .i64 h.v5, .int .i64 h.v6, .int .i64 h.v7, .string T] rfl rfl 81 _ gz3 (by kernel_rfl) rfl (by simp [Value.oneCell']) ?_)
    exact told_ret _ w _ #[.bool true, .int .i64 h.v0, .int .i64 h.v1, .int .i64 h.v2, .int .i64 h.v3, .int .i64 h.v4, .int .i64 h.v5, .int .i64 h.v6, .int .i64 h.v7, .string T] rfl (setRow_heap _ _ _ _ _ _ gz3) rfl (hrow _)
  · have ha' : (h.v1 != at_) = true := bne_iff_ne.2 ha
    subst hE
    simp only [ha, and_false, if_false]
    go_enter Tryz.func79, Tryz.ntmps79
    go_wp2_with fail
    refine (ho _ HB0.out).mono ?_
    rintro e w2 ⟨rfl, hb2⟩
    have gz : w2.heap[w.heap.size]? = some (.cells #[.bool false, .int .i64 0, .int .i64 0, .int .i64 0, .int .i64 0, .int .i64 0, .int .i64 0, .int .i64 0, .int .i64 0, .string ⟨#[]⟩] 81 (0, 0)) := (hb2.block w.heap.size (by simp)).trans HG0.out
    have hlt : w.heap.size < w2.heap.size := lt_of_block gz
    have hbw : Below w.heap.size w w2 := HB0.out.trans (hb2.mono (by simp))
    clear hb2 ho HB0 HG0
    obtain ⟨w3, hw3⟩ : ∃ w3, w2.alloc (.cells #[.int .i64 h.v0, .int .i64 h.v1, .int .i64 h.v2, .int .i64 h.v3, .int .i64 h.v4, .int .i64 h.v5, .int .i64 h.v6, .int .i64 h.v7] 79) = w3 := ⟨_, rfl⟩
    have g3 : w3.heap[w2.heap.size]? = some (.cells #[.int .i64 h.v0, .int .i64 h.v1, .int .i64 h.v2, .int .i64 h.v3, .int .i64 h.v4, .int .i64 h.v5, .int .i64 h.v6, .int .i64 h.v7] 79 (0, 0)) := by rw [← hw3]; exact heap_alloc_new w2 _
    have gz3 : w3.heap[w.heap.size]? = some (.cells #[.bool false, .int .i64 0, .int .i64 0, .int .i64 0, .int .i64 0, .int .i64 0, .int .i64 0, .int .i64 0, .int .i64 0, .string ⟨#[]⟩] 81 (0, 0)) := by rw [← hw3]; exact (Below.heap_alloc _ _ _ hlt).trans gz
    have hrow : ∀ cs, Below w.heap.size w (w3.setRow w.heap.size cs) := fun cs => by rw [← hw3]; exact (hbw.alloc (Nat.le_of_lt hlt) _).trans ⟨rfl, rfl, rfl, by simp [World.setRow], fun k hk => setRow_other _ _ _ _ (by omega)⟩
    have c0 : w3.cell? ⟨w2.heap.size, 0, none⟩ = some (.int .i64 h.v0) := cell_of_row _ _ _ _ _ _ g3
    have c1 : w3.cell? ⟨w2.heap.size, 1, none⟩ = some (.int .i64 h.v1) := cell_of_row _ _ _ _ _ _ g3
    have c2 : w3.cell? ⟨w2.heap.size, 2, none⟩ = some (.int .i64 h.v2) := cell_of_row _ _ _ _ _ _ g3
    have c3 : w3.cell? ⟨w2.heap.size, 3, none⟩ = some (.int .i64 h.v3) := cell_of_row _ _ _ _ _ _ g3
    have c4 : w3.cell? ⟨w2.heap.size, 4, none⟩ = some (.int .i64 h.v4) := cell_of_row _ _ _ _ _ _ g3
    have c5 : w3.cell? ⟨w2.heap.size, 5, none⟩ = some (.int .i64 h.v5) := cell_of_row _ _ _ _ _ _ g3
    have c6 : w3.cell? ⟨w2.heap.size, 6, none⟩ = some (.int .i64 h.v6) := cell_of_row _ _ _ _ _ _ g3
    have c7 : w3.cell? ⟨w2.heap.size, 7, none⟩ = some (.int .i64 h.v7) := cell_of_row _ _ _ _ _ _ g3
    clear g3 gz hbw
    go_wp2_with (refine wpList_store_row rfl 81 _ _ rfl w.heap.size #[.bool false, .int .i64 0, .int .i64 0, .int .i64 0, .int .i64 0, .int .i64 0, .int .i64 0, .int .i64 0, .int .i64 0, .string ⟨#[]⟩] rfl rfl 81 _ gz3 (by kernel_rfl) rfl (by simp [Value.oneCell']) ?_)
    exact told_ret _ w _ #[.bool false, .int .i64 0, .int .i64 0, .int .i64 0, .int .i64 0, .int .i64 0, .int .i64 0, .int .i64 0, .int .i64 0, .string ⟨#[]⟩] rfl (setRow_heap _ _ _ _ _ _ gz3) rfl (hrow _)
  · have hE' : (E != 0) = true := bne_iff_ne.2 hE
    simp only [hE, false_and, if_false]
    go_enter Tryz.func79, Tryz.ntmps79
    go_wp2_with fail
    refine (ho _ HB0.out).mono ?_
    rintro e w2 ⟨rfl, hb2⟩
    have gz : w2.heap[w.heap.size]? = some (.cells #[.bool false, .int .i64 0, .int .i64 0, .int .i64 0, .int .i64 0, .int .i64 0, .int .i64 0, .int .i64 0, .int .i64 0, .string ⟨#[]⟩] 81 (0, 0)) := (hb2.block w.heap.size (by simp)).trans HG0.out
    have hlt : w.heap.size < w2.heap.size := lt_of_block gz
    have hbw : Below w.heap.size w w2 := HB0.out.trans (hb2.mono (by simp))
    clear hb2 ho HB0 HG0
    obtain ⟨w3, hw3⟩ : ∃ w3, w2.alloc (.cells #[.int .i64 h.v0, .int .i64 h.v1, .int .i64 h.v2, .int .i64 h.v3, .int .i64 h.v4, .int .i64 h.v5, .int .i64 h.v6, .int .i64 h.v7] 79) = w3 := ⟨_, rfl⟩
    have g3 : w3.heap[w2.heap.size]? = some (.cells #[.int .i64 h.v0, .int .i64 h.v1, .int .i64 h.v2, .int .i64 h.v3, .int .i64 h.v4, .int .i64 h.v5, .int .i64 h.v6, .int .i64 h.v7] 79 (0, 0)) := by rw [← hw3]; exact heap_alloc_new w2 _
    have gz3 : w3.heap[w.heap.size]? = some (.cells #[.bool false, .int .i64 0, .int .i64 0, .int .i64 0, .int .i64 0, .int .i64 0, .int .i64 0, .int .i64 0, .int .i64 0, .string ⟨#[]⟩] 81 (0, 0)) := by rw [← hw3]; exact (Below.heap_alloc _ _ _ hlt).trans gz
    have hrow : ∀ cs, Below w.heap.size w (w3.setRow w.heap.size cs) := fun cs => by rw [← hw3]; exact (hbw.alloc (Nat.le_of_lt hlt) _).trans ⟨rfl, rfl, rfl, by simp [World.setRow], fun k hk => setRow_other _ _ _ _ (by omega)⟩
    have c0 : w3.cell? ⟨w2.heap.size, 0, none⟩ = some (.int .i64 h.v0) := cell_of_row _ _ _ _ _ _ g3
    have c1 : w3.cell? ⟨w2.heap.size, 1, none⟩ = some (.int .i64 h.v1) := cell_of_row _ _ _ _ _ _ g3
    have c2 : w3.cell? ⟨w2.heap.size, 2, none⟩ = some (.int .i64 h.v2) := cell_of_row _ _ _ _ _ _ g3
    have c3 : w3.cell? ⟨w2.heap.size, 3, none⟩ = some (.int .i64 h.v3) := cell_of_row _ _ _ _ _ _ g3
    have c4 : w3.cell? ⟨w2.heap.size, 4, none⟩ = some (.int .i64 h.v4) := cell_of_row _ _ _ _ _ _ g3
    have c5 : w3.cell? ⟨w2.heap.size, 5, none⟩ = some (.int .i64 h.v5) := cell_of_row _ _ _ _ _ _ g3
    have c6 : w3.cell? ⟨w2.heap.size, 6, none⟩ = some (.int .i64 h.v6) := cell_of_row _ _ _ _ _ _ g3
    have c7 : w3.cell? ⟨w2.heap.size, 7, none⟩ = some (.int .i64 h.v7) := cell_of_row _ _ _ _ _ _ g3
    clear g3 gz hbw
    go_wp2_with (refine wpList_store_row rfl 81 _ _ rfl w.heap.size #[.bool false, .int .i64 0, .int .i64 0, .int .i64 0, .int .i64 0, .int .i64 0, .int .i64 0, .int .i64 0, .int .i64 0, .string ⟨#[]⟩] rfl rfl 81 _ gz3 (by kernel_rfl) rfl (by simp [Value.oneCell']) ?_)
    exact told_ret _ w _ #[.bool false, .int .i64 0, .int .i64 0, .int .i64 0, .int .i64 0, .int .i64 0, .int .i64 0, .int .i64 0, .int .i64 0, .string ⟨#[]⟩] rfl (setRow_heap _ _ _ _ _ _ gz3) rfl (hrow _)
theorem told_any (B : Nat) (F : Nat → Prop) (S : VS) (r : ByteArray) (at_ : Int) (hl : S.seals.length ≤ 1000000) (w : World) (hp : Ideal w F B S) :
    Calls Tryz.prog 79 #[.pointer (some ⟨B, 0, none⟩), .string r, .int .i64 at_] w fun e w' => e = .returned (.agg (if bopenE S r = 0 ∧ (bopenH S r).v1 = at_ then readA true (bopenH S r) (bopenS S r) else noneA)) ∧ Below w.heap.size w w' :=
  told_gen _ r _ _ _ at_ w fun w' hb => bopen_any B F S r hl w' (hp.below hb)
end Go.Proofs.YtbmjablmmlnieaaGreatDoor

namespace Go.Proofs.YtbmjablmmlnieaaGreatDoor
set_option maxRecDepth 20000
open Go.RowKit

structure VK where
  σ : Type
  v : Value
  lies : World → (Nat → Prop) → σ → Prop
  room : σ → Nat → Prop
  hS : σ → ByteArray → ByteArray
  hP : σ → ByteArray → σ
  sS : σ → Hd → ByteArray → ByteArray
  sP : σ → Hd → ByteArray → σ
  oE : σ → ByteArray → Int
  oH : σ → ByteArray → Hd
  oS : σ → ByteArray → ByteArray
def toldK (K : VK) (S : K.σ) (r : ByteArray) (a : Int) : Array Value := if K.oE S r = 0 ∧ (K.oH S r).v1 = a then readA true (K.oH S r) (K.oS S r) else noneA
theorem toldK_ok (K : VK) (S : K.σ) (r : ByteArray) (a : Int) : (toldK K S r a).size = 10 ∧ (toldK K S r a).all (·.oneCell') = true := by
  unfold toldK
  split
  · exact ⟨rfl, by simp [readA, Value.oneCell']⟩
  · exact ⟨rfl, by simp [noneA, readA, Value.oneCell']⟩
structure VKOk (K : VK) : Prop where
  keep : ∀ {w w' : World} {F : Nat → Prop} {S : K.σ}, K.lies w F S → (∀ k, k < w.heap.size → F k → w'.heap[k]? = w.heap[k]?) → K.lies w' F S
  mono : ∀ {w : World} {F F' : Nat → Prop} {S : K.σ}, K.lies w F S → (∀ k, k < w.heap.size → F k → F' k) → K.lies w F' S
  less : ∀ {S : K.σ} {n m : Nat}, K.room S n → m ≤ n → K.room S m
  hRoom : ∀ {S : K.σ} {s : ByteArray} {n : Nat}, K.room S (n + 1) → K.room (K.hP S s) n
  sRoom : ∀ {S : K.σ} {h : Hd} {s : ByteArray} {n : Nat}, K.room S (n + 1) → K.room (K.sP S h s) n
  hSize : ∀ (S : K.σ) (s : ByteArray), K.room S 1 → (K.hS S s).size = 32
  sSize : ∀ (S : K.σ) (h : Hd) (s : ByteArray), K.room S 1 → bsealE h s = 0 → (K.sS S h s).size = 512
  sNone : ∀ (S : K.σ) (h : Hd) (s : ByteArray), ¬ bsealE h s = 0 → K.sS S h s = ⟨#[]⟩
  hash : ∀ (F : Nat → Prop) (S : K.σ) (s : ByteArray) (w : World), s.size ≤ 1000000 → K.room S 1 → K.lies w F S → Calls Tryz.prog 76 #[K.v, .string s] w fun e w' => e = .returned (.string (K.hS S s)) ∧ K.lies w' F (K.hP S s) ∧ Touch F w w'
  seal_ : ∀ (F : Nat → Prop) (S : K.σ) (h : Hd) (s : ByteArray) (w : World), K.room S 1 → K.lies w F S → Calls Tryz.prog 78 #[K.v, .agg h.arr, .string s] w fun e w' => e = .returned (.tuple #[.string (K.sS S h s), .int .i64 (bsealE h s)]) ∧ K.lies w' F (K.sP S h s) ∧ Touch F w w'
  told : ∀ (F : Nat → Prop) (S : K.σ) (r : ByteArray) (a : Int) (w : World), K.room S 0 → K.lies w F S → Calls Tryz.prog 79 #[K.v, .string r, .int .i64 a] w fun e w' => e = .returned (.agg (toldK K S r a)) ∧ Below w.heap.size w w'
  probe : ∀ (F : Nat → Prop) (S : K.σ) (w : World), K.room S 0 → K.lies w F S → Calls Tryz.prog 69 #[K.v, .int .i64 0, .string (fillS 0 12), .string ⟨#[]⟩, .string ⟨#[]⟩] w fun e w' => e = .returned (.tuple #[.string ⟨#[]⟩, .int .i64 3]) ∧ Below w.heap.size w w'
theorem VKOk.below {K : VK} (HK : VKOk K) {w w' : World} {F : Nat → Prop} {S : K.σ} (h : K.lies w F S) (hb : Below w.heap.size w w') : K.lies w' F S := HK.keep h fun k hk _ => hb.block k hk

/-- The ideal vault in block B. -/
def idealK (B : Nat) : VK where
  σ := VS
  v := .pointer (some ⟨B, 0, none⟩)
  lies := fun w F S => Ideal w F B S
  room := fun S n => S.texts.length + n ≤ 1000000 ∧ S.seals.length + n ≤ 1000000
  hS := hashS
  hP := hashP
  sS := bsealS
  sP := bsealP
  oE := bopenE
  oH := bopenH
  oS := bopenS
theorem probe_1 (S : VS) : openS S 0 (fillS 0 12) ⟨#[]⟩ ⟨#[]⟩ = ⟨#[]⟩ ∧ openE S 0 (fillS 0 12) ⟨#[]⟩ ⟨#[]⟩ = 3 := by
  have hf : fitB 0 (fillS 0 12) = true := by simp [fitB, fillS_size]
  unfold openS openE
  rw [hf]
  exact ⟨rfl, rfl⟩
theorem ideal_len (S : VS) (h : Hd) (s : ByteArray) : (bsealP S h s).texts.length = S.texts.length ∧ (bsealP S h s).seals.length ≤ S.seals.length + 1 := by
  have := addN_length S.seals (h.four s)
  unfold bsealP
  split
  · exact ⟨rfl, this⟩
  · exact ⟨rfl, Nat.le_succ _⟩
theorem ideal_size (S : VS) (h : Hd) (s : ByteArray) (hr : S.seals.length + 1 ≤ 1000000) (he : bsealE h s = 0) : (bsealS S h s).size = 512 := by
  have h1 := numOf_le (h.four s) (addN S.seals (h.four s))
  have h2 := addN_length S.seals (h.four s)
  have hs : s.size = 448 := by
    by_cases hs : s.size = 448
    · exact hs
    · rw [bsealE, if_neg hs] at he
      exact absurd he (by decide)
  have he' : h.err = 0 := by rwa [bsealE, if_pos hs] at he
  have hb : bsealB h s = true := by simp [bsealB, hs, he']
  unfold bsealS
  rw [if_pos hb]
  exact blk_size he' hs (by omega)
theorem ideal_none (S : VS) (h : Hd) (s : ByteArray) (he : ¬ bsealE h s = 0) : bsealS S h s = ⟨#[]⟩ := by
  unfold bsealS
  rw [if_neg]
  intro hb
  have hb := of_decide_eq_true hb
  exact he (by rw [bsealE, if_pos hb.1, hb.2])
theorem idealOk (B : Nat) : VKOk (idealK B) where
  keep := fun h hk => Ideal.keep h hk
  mono := fun h hF => Ideal.mono h hF
  less := fun {S n m} h hm => by
    have h : S.texts.length + n ≤ 1000000 ∧ S.seals.length + n ≤ 1000000 := h
    exact ⟨by omega, by omega⟩
  hRoom := fun {S s n} h => by
    have h : S.texts.length + (n + 1) ≤ 1000000 ∧ S.seals.length + (n + 1) ≤ 1000000 := h
    have := addN_length S.texts s
    refine ⟨?_, ?_⟩
    · show (addN S.texts s).length + n ≤ 1000000
      omega
    · show S.seals.length + n ≤ 1000000
      omega
  sRoom := fun {S h s n} hr => by
    have hr : S.texts.length + (n + 1) ≤ 1000000 ∧ S.seals.length + (n + 1) ≤ 1000000 := hr
    have h1 := ideal_len S h s
    show (bsealP S h s).texts.length + n ≤ 1000000 ∧ (bsealP S h s).seals.length + n ≤ 1000000
    omega
  hSize := fun S s hr => by
    have hr : S.texts.length + 1 ≤ 1000000 ∧ S.seals.length + 1 ≤ 1000000 := hr
    have h1 := numOf_le s (addN S.texts s)
    have h2 := addN_length S.texts s
    exact wideS_size (by omega) (by decide)
  sSize := fun S h s hr he => ideal_size S h s hr.2 he
  sNone := fun S h s he => ideal_none S h s he
  hash := fun F S s w hs hr hp => by
    have hr : S.texts.length + 1 ≤ 1000000 ∧ S.seals.length + 1 ≤ 1000000 := hr
    exact vhash_any B F S s (by unfold fitT; omega) (by omega) w hp
  seal_ := fun F S h s w hr hp => by
    have hr : S.texts.length + 1 ≤ 1000000 ∧ S.seals.length + 1 ≤ 1000000 := hr
    exact bseal_any B F S h s (by omega) w hp
  told := fun F S r a w hr hp => by
    have hr : S.texts.length + 0 ≤ 1000000 ∧ S.seals.length + 0 ≤ 1000000 := hr
    exact told_any B F S r a (by omega) w hp
  probe := fun F S w hr hp => by
    have hr : S.texts.length + 0 ≤ 1000000 ∧ S.seals.length + 0 ≤ 1000000 := hr
    have h := vopen_any B F S 0 (fillS 0 12) ⟨#[]⟩ ⟨#[]⟩ ⟨by decide, by rw [fillS_size]; decide, by decide, by decide⟩ (by omega) w hp
    rw [(probe_1 S).1, (probe_1 S).2] at h
    exact h
end Go.Proofs.YtbmjablmmlnieaaGreatDoor

namespace Go.Proofs.YtbmjablmmlnieaaGreatDoor
set_option maxRecDepth 20000
open Go.RowKit

theorem apart_cell {w : World} {e : TypeId} {n g cap i : Nat} {xs : List Value} {u : Value} (h : w.ownsRow 0 e 1 (.slice (some ⟨g, 0, none⟩) n cap) n xs) (hi : xs[i]? = some u) : w.cell? ⟨g, i, none⟩ = some u := by
  obtain ⟨g', cap', e', _, hc⟩ := owns_form h (by have := (List.getElem?_eq_some_iff.1 hi).1; have := h.1; omega)
  cases e'
  exact hc i u hi
theorem list1_of_owns {α : Type} {f : α → Value} {w : World} {e : TypeId} {v : Value} {l : List α} (h : w.ownsRow 0 e 1 v l.length (l.map f)) : List1 f w v l := by
  rcases h.2 with ⟨rfl, hn⟩ | ⟨g, cap, cur, rfl, _, hg, _⟩
  · exact .inl ⟨none, 0, rfl, List.length_eq_zero_iff.1 hn⟩
  · exact .inr ⟨g, 0, cap, rfl, lt_of_block hg, fun i x hx => by rw [Nat.zero_add]; exact (apart_cell h (by rw [List.getElem?_map, hx]; rfl))⟩
theorem List1.below {α : Type} {f : α → Value} {W W' : World} {v : Value} {l : List α} (h : List1 f W v l) (hb : Below W.heap.size W W') : List1 f W' v l := by
  rcases h with h | ⟨g, o, cap, e, hg, hx⟩
  · exact .inl h
  · exact .inr ⟨g, o, cap, e, Nat.lt_of_lt_of_le hg hb.size, fun i x hi => (World.cell?_of_block (a := ⟨g, o + i, none⟩) (hb.block g hg)).trans (hx i x hi)⟩
def lookK (K : VK) (T : K.σ) (raws : List ByteArray) (masks : List Int) (a : Int) : Array Value := if atM raws masks a = 0 then toldK K T (atS raws masks a) a else noneA
theorem look_ret (tmps : Array Value) (g : Nat) (w' : World) (cs : Array Value) (R : Ending → World → Prop) (h1 : tmps.getD 6 undef = .pointer (some ⟨g, 0, none⟩)) (hg : w'.heap[g]? = some (.cells cs 81 (0, 0))) (hs : cs.size = 10) (hR : R (.returned (.agg cs)) w') :
    bodyPost Tryz.prog Tryz.f80 R .ret { tmps := tmps, defers := [] } w' :=
  bodyPost_ret (v := .agg cs) (results_cell_row Tryz.results80 tmps w' g 81 cs (0, 0) _ h1 hg Tryz.underlying81 rfl (by rw [hs]; kernel_rfl)) rfl hR
set_option maxHeartbeats 4000000 in
theorem klook_any (K : VK) (HK : VKOk K) (F : Nat → Prop) (T : K.σ) (hl : K.room T 0) (oa ob : Option Addr) (ca cb : Nat) (raws : List ByteArray) (masks : List Int) (a : Int) (w : World) (hp : K.lies w F T) (h1 : List1 Value.string w (.slice oa raws.length ca) raws) (h2 : List1 (Value.int .i64) w (.slice ob masks.length cb) masks) :
    Calls Tryz.prog 80 #[K.v, .agg #[.slice oa raws.length ca, .slice ob masks.length cb], .int .i64 a] w fun e w' => e = .returned (.agg (lookK K T raws masks a)) ∧ Below w.heap.size w w' := by
  obtain ⟨w0, hw0⟩ : ∃ w0, (w.alloc (.cells #[.slice oa raws.length ca, .slice ob masks.length cb] 60)).alloc (.cells #[.bool false, .int .i64 0, .int .i64 0, .int .i64 0, .int .i64 0, .int .i64 0, .int .i64 0, .int .i64 0, .int .i64 0, .string ⟨#[]⟩] 81) = w0 := ⟨_, rfl⟩
  have e1 : (w.alloc (.cells #[.slice oa raws.length ca, .slice ob masks.length cb] 60)).heap.size = w.heap.size + 1 := by simp
  have g0 : w0.heap[w.heap.size + 1]? = some (.cells #[.bool false, .int .i64 0, .int .i64 0, .int .i64 0, .int .i64 0, .int .i64 0, .int .i64 0, .int .i64 0, .int .i64 0, .string ⟨#[]⟩] 81 (0, 0)) := by rw [← hw0, ← e1]; exact heap_alloc_new _ _
  have r0 : Row w0 w.heap.size 60 [.slice oa raws.length ca, .slice ob masks.length cb] := by rw [← hw0]; exact (Below.heap_alloc _ _ _ (by rw [e1]; omega)).trans (heap_alloc_new w _)
  have hb0 : Below w.heap.size w w0 := by rw [← hw0]; exact ((Below.refl _ _).alloc (Nat.le_refl _) _).alloc (by rw [e1]; omega) _
  have hat := at_any w0 oa ob ca cb raws masks a (h1.below hb0) (h2.below hb0)
  have c0 : w0.cell? ⟨w.heap.size, 0, none⟩ = some (.slice oa raws.length ca) := r0.cell 0
  have c1 : w0.cell? ⟨w.heap.size, 1, none⟩ = some (.slice ob masks.length cb) := r0.cell 1
  have HL : Hid (lookK K T raws masks a = if atM raws masks a = 0 then toldK K T (atS raws masks a) a else noneA) := rfl
  have H0 : Hid (Below w.heap.size w w0 ∧ K.lies w0 F T) := ⟨hb0, HK.below hp hb0⟩
  have hW0 : Hid ((w.alloc (.cells #[.slice oa raws.length ca, .slice ob masks.length cb] 60)).alloc (.cells #[.bool false, .int .i64 0, .int .i64 0, .int .i64 0, .int .i64 0, .int .i64 0, .int .i64 0, .int .i64 0, .int .i64 0, .string ⟨#[]⟩] 81) = w0) := hw0
  have HR : Hid (∀ w' cs, Below w.heap.size w w' → Below w.heap.size w (w'.setRow (w.heap.size + 1) cs)) := fun w' cs h => h.trans ⟨rfl, rfl, rfl, by simp [World.setRow], fun k hk => setRow_other _ _ _ _ (by omega)⟩
  generalize atS raws masks a = r at *
  generalize atM raws masks a = m at *
  generalize lookK K T raws masks a = A at *
  generalize raws.length = rl at *
  generalize masks.length = ml at *
  clear h1 h2 hp hb0 r0 e1 hw0
  by_cases hm : m = 0
  · rw [Hid, if_pos hm] at HL
    subst hm
    have htold := fun w h => HK.told F T r a w hl h
    simp only [toldK] at htold
    have hto := toldK_ok K T r a
    rw [← HL] at hto
    have HT : Hid ((if K.oE T r = 0 ∧ (K.oH T r).v1 = a then readA true (K.oH T r) (K.oS T r) else noneA) = A) := HL.symm
    simp only [HT.out] at htold
    obtain ⟨hA, hA1⟩ := hto
    clear HL HT
    go_enter Tryz.func80, Tryz.ntmps80
    go_wp2_with fail
    try rw [hW0.out]
    refine hat.mono ?_
    rintro e w1 ⟨rfl, hb1⟩
    have g1 := (hb1.block _ (lt_of_block g0)).trans g0
    have H1 : Hid (Below w.heap.size w w1 ∧ K.lies w1 F T) := ⟨H0.out.1.trans (hb1.mono H0.out.1.size), HK.below H0.out.2 hb1⟩
    clear hat hb1 g0 c0 c1 hW0
    go_wp2_with fail
    refine (htold _ H1.out.2).mono ?_
    rintro e w2 ⟨rfl, hb2⟩
    have g2 := (hb2.block _ (lt_of_block g1)).trans g1
    have HF : Hid _ := HR.out w2 A (H1.out.1.trans (hb2.mono H1.out.1.size))
    clear htold hb2 g1 HR
    go_wp2_with (refine wpList_store_row rfl 81 _ _ rfl (w.heap.size + 1) A rfl rfl 81 _ g2 (by rw [hA]; kernel_rfl) (by rw [hA]; rfl) hA1 ?_)
    exact look_ret _ (w.heap.size + 1) _ A _ rfl (setRow_heap _ _ _ _ _ _ g2) hA ⟨rfl, HF.out⟩
  · rw [Hid, if_neg hm] at HL
    subst HL
    simp only [noneA, readA, Hd.zero]
    have hm1 : (m != 0) = true := bne_iff_ne.2 hm
    go_enter Tryz.func80, Tryz.ntmps80
    go_wp2_with fail
    try rw [hW0.out]
    refine hat.mono ?_
    rintro e w1 ⟨rfl, hb1⟩
    have g1 := (hb1.block _ (lt_of_block g0)).trans g0
    have HF : Hid _ := HR.out w1 #[.bool false, .int .i64 0, .int .i64 0, .int .i64 0, .int .i64 0, .int .i64 0, .int .i64 0, .int .i64 0, .int .i64 0, .string ⟨#[]⟩] (H0.out.1.trans (hb1.mono H0.out.1.size))
    clear hat hb1 g0 c0 c1 hW0 HR
    go_wp2_with (refine wpList_store_row rfl 81 _ _ rfl (w.heap.size + 1) #[.bool false, .int .i64 0, .int .i64 0, .int .i64 0, .int .i64 0, .int .i64 0, .int .i64 0, .int .i64 0, .int .i64 0, .string ⟨#[]⟩] rfl rfl 81 _ g1 (by kernel_rfl) rfl (by simp [Value.oneCell']) ?_)
    exact look_ret _ (w.heap.size + 1) _ _ _ rfl (setRow_heap _ _ _ _ _ _ g1) rfl ⟨rfl, HF.out⟩
end Go.Proofs.YtbmjablmmlnieaaGreatDoor
