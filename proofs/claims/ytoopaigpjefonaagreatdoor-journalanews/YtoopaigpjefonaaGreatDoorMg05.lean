/- block's Open where the head is none; Seal, Open and Told under the ideal vault. · strings.Repeat and strings.Clone: the shelf's contracts, laid at the seat. · A vault that hashes, seals and opens, told by a structure; the ideal one is one. · errors.As at a sector's error and a number's place, by Go's own text; block's wrapped and numberOf. -/
import Derived.Test.YtoopaigpjefonaaGreatDoorMg04
import Derived.Test.YtoopaigpjefonaaGreatDoorMg02
import Derived.Shelf.Strings.Repeat
import Derived.LaidEql
import Derived.Stop.Asserts
import Derived.RowKitTokens
namespace Go.Proofs.YtoopaigpjefonaaGreatDoor
set_option maxRecDepth 20000
open Go.RowKit Go.Lib

set_option maxHeartbeats 1000000 in
theorem bopen_head (v : Value) (r : ByteArray) (hr : r.size = 512) (he : ¬ headE (r.extract 0 48) = 0) (w : World) : Calls Tryz.prog 142 #[v, .string r] w fun e w' => e = .returned (.tuple #[.agg Hd.zero.arr, .string ⟨#[]⟩, .int .i64 (headE (r.extract 0 48))]) ∧ Below w.heap.size w w' := by
  have hw := fun w => whole_any r w
  rw [decide_eq_true hr] at hw
  have hh := fun w => bheadOf_any (r.extract 0 48) w
  have he' : (headE (r.extract 0 48) != 0) = true := bne_iff_ne.2 he
  clear he
  generalize hdOf (r.extract 0 48) = h at *
  generalize hx : r.extract 0 48 = x at *
  generalize headE x = E at *
  simp only [Hd.arr, Hd.zero]
  have hr1 : (48 : Int) ≤ r.size := by omega
  go_enter Tryz.func142, Tryz.ntmps142
  go_wp2_with fail
  refine (hw _).mono ?_
  rintro e w1 ⟨rfl, rfl⟩
  clear hw
  go_wp2_with fail
  go_quiet (fail)
  try rw [hx]
  go_wp2_with fail
  refine (hh _).mono ?_
  rintro e w2 ⟨rfl, hb2⟩
  have gz : w2.heap[w.heap.size]? = some (.cells #[.int .i64 0, .int .i64 0, .int .i64 0, .int .i64 0, .int .i64 0, .int .i64 0, .int .i64 0, .int .i64 0] 121 (0, 0)) := (hb2.block w.heap.size (by simp)).trans (heap_alloc_new w _)
  have hlt : w.heap.size < w2.heap.size := lt_of_block gz
  have hbw : Below w.heap.size w w2 := (below_drewN ((Below.refl _ _).alloc (Nat.le_refl _) _) nq).trans (hb2.mono (by simp))
  clear hb2 hh
  obtain ⟨w3, hw3⟩ : ∃ w3, w2.alloc (.cells #[.int .i64 h.v0, .int .i64 h.v1, .int .i64 h.v2, .int .i64 h.v3, .int .i64 h.v4, .int .i64 h.v5, .int .i64 h.v6, .int .i64 h.v7] 121) = w3 := ⟨_, rfl⟩
  have g3 : w3.heap[w.heap.size]? = some (.cells #[.int .i64 0, .int .i64 0, .int .i64 0, .int .i64 0, .int .i64 0, .int .i64 0, .int .i64 0, .int .i64 0] 121 (0, 0)) := by rw [← hw3]; exact (Below.heap_alloc _ _ _ hlt).trans gz
  have HB3 : Hid (Below w.heap.size w w3) := by rw [← hw3]; exact hbw.alloc (Nat.le_of_lt hlt) _
  clear hbw gz
  go_wp2_with (refine wpList_store_row rfl 121 _ _ rfl w.heap.size #[.int .i64 0, .int .i64 0, .int .i64 0, .int .i64 0, .int .i64 0, .int .i64 0, .int .i64 0, .int .i64 0] rfl rfl 121 _ g3 (by kernel_rfl) rfl (by simp [Value.oneCell']) ?_)
  exact open_ret _ w _ ⟨#[]⟩ E #[.int .i64 0, .int .i64 0, .int .i64 0, .int .i64 0, .int .i64 0, .int .i64 0, .int .i64 0, .int .i64 0] rfl rfl rfl (setRow_heap _ _ _ _ _ _ g3) rfl (HB3.out.trans ⟨rfl, rfl, rfl, by simp [World.setRow], fun k hk => setRow_other _ _ _ _ (by omega)⟩)

theorem bseal_any (B : Nat) (F : Nat → Prop) (S : VS) (h : Hd) (s : ByteArray) (hl : S.seals.length ≤ 1000000) (w : World) (hp : Ideal w F B S) :
    Calls Tryz.prog 96 #[.pointer (some ⟨B, 0, none⟩), .agg h.arr, .string s] w fun e w' => e = .returned (.tuple #[.string (bsealS S h s), .int .i64 (bsealE h s)]) ∧ Ideal w' F B (bsealP S h s) ∧ Touch F w w' := by
  by_cases hs : s.size = 448
  case neg =>
    have hB : bsealB h s = false := by simp [bsealB, hs]
    have e1 : bsealS S h s = ⟨#[]⟩ := by simp [bsealS, hB]
    have e2 : bsealE h s = 1 := by simp [bsealE, hs]
    have e3 : bsealP S h s = S := by simp [bsealP, hB]
    rw [e1, e2, e3]
    exact (bseal_short _ h s hs w).mono fun e w' ⟨he, hb⟩ => ⟨he, hp.below hb, Touch.of_below hb⟩
  by_cases he : h.err = 0
  case neg =>
    have hB : bsealB h s = false := by simp [bsealB, he]
    have e1 : bsealS S h s = ⟨#[]⟩ := by simp [bsealS, hB]
    have e2 : bsealE h s = h.err := by simp [bsealE, hs]
    have e3 : bsealP S h s = S := by simp [bsealP, hB]
    rw [e1, e2, e3]
    exact (bseal_head _ h s hs he w).mono fun e w' ⟨he, hb⟩ => ⟨he, hp.below hb, Touch.of_below hb⟩
  have hB : bsealB h s = true := by simp [bsealB, hs, he]
  have e1 : bsealS S h s = h.txt ++ sealS S h.v7 h.nonce h.txt s := by simp [bsealS, hB, sealS, fit_hd he, blkS, Hd.four]
  have e2 : bsealE h s = 0 := by simp [bsealE, hs, he]
  have e3 : bsealP S h s = sealP S h.v7 h.nonce h.txt s := by simp [bsealP, hB, sealP, fit_hd he, Hd.four]
  rw [e1, e2, e3]
  have hE : sealE h.v7 h.nonce = 0 := by simp [sealE, fit_hd he]
  have hz : (sealS S h.v7 h.nonce h.txt s).size ≤ 1000000 := by
    have hn : numOf (addN S.seals ⟨h.v7, h.nonce, h.txt, s⟩) ⟨h.v7, h.nonce, h.txt, s⟩ < 281474976710656 := by
      have h1 := numOf_le (⟨h.v7, h.nonce, h.txt, s⟩ : Four) (addN S.seals ⟨h.v7, h.nonce, h.txt, s⟩)
      have h2 := addN_length S.seals (⟨h.v7, h.nonce, h.txt, s⟩ : Four)
      omega
    unfold sealS
    rw [fit_hd he, if_pos rfl, ByteArray.size_append, hs, wideS_size hn (by decide)]
    decide
  have hg := bseal_gen (.pointer (some ⟨B, 0, none⟩)) h s (sealS S h.v7 h.nonce h.txt s) 0 (fun w'' => Ideal w'' (fun k => F k ∧ k < w.heap.size) B (sealP S h.v7 h.nonce h.txt s) ∧ Touch (fun k => F k ∧ k < w.heap.size) w w'') w hs he hz fun w' hb => by
    have hp' : Ideal w' (fun k => F k ∧ k < w.heap.size) B S := (hp.mono fun k hk hF => ⟨hF, hk⟩).below hb
    have := vseal_any B _ S h.v7 h.nonce h.txt s (four_fit he (by omega)) hl w' hp'
    rw [hE] at this
    refine this.mono fun e w'' ⟨h1, h2, h3⟩ => ⟨h1, ⟨h2, ?_⟩, fun k hk hk2 => h3.2 k hk2 fun hF => by omega⟩
    exact ⟨(hb.mono (Nat.zero_le _)).trans h3.1, fun k hk hn => (h3.2 k (Nat.lt_of_lt_of_le hk hb.size) hn).trans (hb.block k hk)⟩
  refine hg.mono fun e w' ⟨h1, h2, h3⟩ => ⟨h1, h2.mono fun k _ hF => hF.1, h3.mono fun k hF => hF.1⟩

theorem bopen_any (B : Nat) (F : Nat → Prop) (S : VS) (r : ByteArray) (hl : S.seals.length ≤ 1000000) (w : World) (hp : Ideal w F B S) :
    Calls Tryz.prog 142 #[.pointer (some ⟨B, 0, none⟩), .string r] w fun e w' => e = .returned (.tuple #[.agg (bopenH S r).arr, .string (bopenS S r), .int .i64 (bopenE S r)]) ∧ Below w.heap.size w w' := by
  by_cases hr : r.size = 512
  case neg =>
    have e1 : bopenE S r = 1 := by simp [bopenE, hr]
    have e2 : bopenH S r = Hd.zero := by simp [bopenH, e1]
    have e3 : bopenS S r = ⟨#[]⟩ := by simp [bopenS, e1]
    rw [e1, e2, e3]
    exact bopen_short _ r hr w
  by_cases he : headE (r.extract 0 48) = 0
  case neg =>
    have e1 : bopenE S r = headE (r.extract 0 48) := by simp [bopenE, hr, he]
    have e2 : bopenH S r = Hd.zero := by simp [bopenH, e1, he]
    have e3 : bopenS S r = ⟨#[]⟩ := by simp [bopenS, e1, he]
    rw [e1, e2, e3]
    exact bopen_head _ r hr he w
  obtain ⟨k1, k2⟩ := hd_back he
  have hz : (r.extract 48 512).size = 464 := by simp [hr]
  have f4 : fitF ⟨(hdOf (r.extract 0 48)).v7, (hdOf (r.extract 0 48)).nonce, r.extract 0 48, r.extract 48 512⟩ := by
    have := four_fit (s := r.extract 48 512) k1 (by omega)
    simpa only [Hd.four, k2] using this
  have hg := bopen_gen (.pointer (some ⟨B, 0, none⟩)) r _ _ w hr he fun w' hb => vopen_any B F S _ _ _ _ f4 hl w' (hp.below hb)
  have o1 : openE S (hdOf (r.extract 0 48)).v7 (hdOf (r.extract 0 48)).nonce (r.extract 0 48) (r.extract 48 512) = bopenE S r := by
    unfold openE bopenE
    rw [fit_hd k1, if_pos rfl, if_neg (by omega), if_pos hr, if_pos he]
    rfl
  have o2 : openS S (hdOf (r.extract 0 48)).v7 (hdOf (r.extract 0 48)).nonce (r.extract 0 48) (r.extract 48 512) = bopenS S r := by
    unfold openS bopenS bopenE
    rw [fit_hd k1, if_pos rfl, if_neg (by omega), if_pos hr, if_pos he]
    unfold opensB
    cases openB S (hdOf (r.extract 0 48)).v7 (hdOf (r.extract 0 48)).nonce (r.extract 0 48) (r.extract 48 512) <;> rfl
  rw [o1, o2] at hg
  have o3 : (if bopenE S r = 0 then (hdOf (r.extract 0 48)).arr else Hd.zero.arr) = (bopenH S r).arr := by unfold bopenH; split <;> rfl
  have o4 : (if bopenE S r = 0 then bopenS S r else ⟨#[]⟩) = bopenS S r := by unfold bopenS; split <;> rfl
  rw [o3, o4] at hg
  exact hg

/-- A reading. -/
def readA (ok : Bool) (h : Hd) (s : ByteArray) : Array Value := #[.bool ok, .int .i64 h.v0, .int .i64 h.v1, .int .i64 h.v2, .int .i64 h.v3, .int .i64 h.v4, .int .i64 h.v5, .int .i64 h.v6, .int .i64 h.v7, .string s]
def noneA : Array Value := readA false Hd.zero ⟨#[]⟩
theorem told_ret (tmps : Array Value) (w w' : World) (cs : Array Value) (h1 : tmps.getD 6 undef = .pointer (some ⟨w.heap.size, 0, none⟩)) (hg : w'.heap[w.heap.size]? = some (.cells cs 125 (0, 0))) (hs : cs.size = 10) (hb : Below w.heap.size w w') :
    bodyPost Tryz.prog Tryz.f101 (fun e w'' => e = .returned (.agg cs) ∧ Below w.heap.size w w'') .ret { tmps := tmps, defers := [] } w' :=
  bodyPost_ret (v := .agg cs) (results_cell_row Tryz.results101 tmps w' w.heap.size 125 cs (0, 0) _ h1 hg Tryz.underlying125 rfl (by rw [hs]; kernel_rfl)) rfl ⟨rfl, hb⟩
set_option maxHeartbeats 2000000 in
theorem told_gen (v : Value) (r T : ByteArray) (h : Hd) (E at_ : Int) (w : World)
    (ho : ∀ w', Below w.heap.size w w' → Calls Tryz.prog 142 #[v, .string r] w' fun e w'' => e = .returned (.tuple #[.agg h.arr, .string T, .int .i64 E]) ∧ Below w'.heap.size w' w'') :
    Calls Tryz.prog 101 #[v, .string r, .int .i64 at_] w fun e w' => e = .returned (.agg (if E = 0 ∧ h.v1 = at_ then readA true h T else noneA)) ∧ Below w.heap.size w w' := by
  have hb0 := (Below.refl w.heap.size w).alloc (Nat.le_refl _) (.cells #[.bool false, .int .i64 0, .int .i64 0, .int .i64 0, .int .i64 0, .int .i64 0, .int .i64 0, .int .i64 0, .int .i64 0, .string ⟨#[]⟩] 125)
  have g0 := heap_alloc_new w (.cells #[.bool false, .int .i64 0, .int .i64 0, .int .i64 0, .int .i64 0, .int .i64 0, .int .i64 0, .int .i64 0, .int .i64 0, .string ⟨#[]⟩] 125)
  simp only [Hd.arr] at ho
  simp only [readA, noneA, Hd.zero]
  have HB0 : Hid _ := hb0
  have HG0 : Hid _ := g0
  clear hb0 g0
  rcases (show (E = 0 ∧ h.v1 = at_) ∨ (E = 0 ∧ ¬ h.v1 = at_) ∨ ¬ E = 0 by omega) with ⟨hE, ha⟩ | ⟨hE, ha⟩ | hE
  · subst hE
    subst ha
    simp only [and_self, if_true]
    go_enter Tryz.func101, Tryz.ntmps101
    go_wp2_with fail
    refine (ho _ HB0.out).mono ?_
    rintro e w2 ⟨rfl, hb2⟩
    have gz : w2.heap[w.heap.size]? = some (.cells #[.bool false, .int .i64 0, .int .i64 0, .int .i64 0, .int .i64 0, .int .i64 0, .int .i64 0, .int .i64 0, .int .i64 0, .string ⟨#[]⟩] 125 (0, 0)) := (hb2.block w.heap.size (by simp)).trans HG0.out
    have hlt : w.heap.size < w2.heap.size := lt_of_block gz
    have hbw : Below w.heap.size w w2 := HB0.out.trans (hb2.mono (by simp))
    clear hb2 ho HB0 HG0
    obtain ⟨w3, hw3⟩ : ∃ w3, w2.alloc (.cells #[.int .i64 h.v0, .int .i64 h.v1, .int .i64 h.v2, .int .i64 h.v3, .int .i64 h.v4, .int .i64 h.v5, .int .i64 h.v6, .int .i64 h.v7] 121) = w3 := ⟨_, rfl⟩
    have g3 : w3.heap[w2.heap.size]? = some (.cells #[.int .i64 h.v0, .int .i64 h.v1, .int .i64 h.v2, .int .i64 h.v3, .int .i64 h.v4, .int .i64 h.v5, .int .i64 h.v6, .int .i64 h.v7] 121 (0, 0)) := by rw [← hw3]; exact heap_alloc_new w2 _
    have gz3 : w3.heap[w.heap.size]? = some (.cells #[.bool false, .int .i64 0, .int .i64 0, .int .i64 0, .int .i64 0, .int .i64 0, .int .i64 0, .int .i64 0, .int .i64 0, .string ⟨#[]⟩] 125 (0, 0)) := by rw [← hw3]; exact (Below.heap_alloc _ _ _ hlt).trans gz
    have hrow : ∀ cs, Below w.heap.size w (w3.setRow w.heap.size cs) := fun cs => by rw [← hw3]; exact (hbw.alloc (Nat.le_of_lt hlt) _).trans ⟨rfl, rfl, rfl, by simp [World.setRow], fun k hk => setRow_other _ _ _ _ (by omega)⟩
    have c0 : w3.cell? ⟨w2.heap.size, 0, none⟩ = some (.int .i64 h.v0) := cell_of_row _ _ _ _ _ _ g3
    have c1 : w3.cell? ⟨w2.heap.size, 1, none⟩ = some (.int .i64 h.v1) := cell_of_row _ _ _ _ _ _ g3
    have c2 : w3.cell? ⟨w2.heap.size, 2, none⟩ = some (.int .i64 h.v2) := cell_of_row _ _ _ _ _ _ g3
    have c3 : w3.cell? ⟨w2.heap.size, 3, none⟩ = some (.int .i64 h.v3) := cell_of_row _ _ _ _ _ _ g3
    have c4 : w3.cell? ⟨w2.heap.size, 4, none⟩ = some (.int .i64 h.v4) := cell_of_row _ _ _ _ _ _ g3
    have c5 : w3.cell? ⟨w2.heap.size, 5, none⟩ = some (.int .i64 h.v5) := cell_of_row _ _ _ _ _ _ g3
    have c6 : w3.cell? ⟨w2.heap.size, 6, none⟩ = some (.int .i64 h.v6) := cell_of_row _ _ _ _ _ _ g3
    have c7 : w3.cell? ⟨w2.heap.size, 7, none⟩ = some (.int .i64 h.v7) := cell_of_row _ _ _ _ _ _ g3
    clear g3 gz hbw
    go_wp2_with (refine wpList_store_row rfl 125 _ _ rfl w.heap.size #[.bool true, .int .i64 h.v0, .int .i64 h.v1, .int .i64 h.v2, .int .i64 h.v3, .int .i64 h.v4, .int .i64 h.v5, .int .i64 h.v6, .int .i64 h.v7, .string T] rfl rfl 125 _ gz3 (by kernel_rfl) rfl (by simp [Value.oneCell']) ?_)
    exact told_ret _ w _ #[.bool true, .int .i64 h.v0, .int .i64 h.v1, .int .i64 h.v2, .int .i64 h.v3, .int .i64 h.v4, .int .i64 h.v5, .int .i64 h.v6, .int .i64 h.v7, .string T] rfl (setRow_heap _ _ _ _ _ _ gz3) rfl (hrow _)
  · have ha' : (h.v1 != at_) = true := bne_iff_ne.2 ha
    subst hE
    simp only [ha, and_false, if_false]
    go_enter Tryz.func101, Tryz.ntmps101
    go_wp2_with fail
    refine (ho _ HB0.out).mono ?_
    rintro e w2 ⟨rfl, hb2⟩
    have gz : w2.heap[w.heap.size]? = some (.cells #[.bool false, .int .i64 0, .int .i64 0, .int .i64 0, .int .i64 0, .int .i64 0, .int .i64 0, .int .i64 0, .int .i64 0, .string ⟨#[]⟩] 125 (0, 0)) := (hb2.block w.heap.size (by simp)).trans HG0.out
    have hlt : w.heap.size < w2.heap.size := lt_of_block gz
    have hbw : Below w.heap.size w w2 := HB0.out.trans (hb2.mono (by simp))
    clear hb2 ho HB0 HG0
    obtain ⟨w3, hw3⟩ : ∃ w3, w2.alloc (.cells #[.int .i64 h.v0, .int .i64 h.v1, .int .i64 h.v2, .int .i64 h.v3, .int .i64 h.v4, .int .i64 h.v5, .int .i64 h.v6, .int .i64 h.v7] 121) = w3 := ⟨_, rfl⟩
    have g3 : w3.heap[w2.heap.size]? = some (.cells #[.int .i64 h.v0, .int .i64 h.v1, .int .i64 h.v2, .int .i64 h.v3, .int .i64 h.v4, .int .i64 h.v5, .int .i64 h.v6, .int .i64 h.v7] 121 (0, 0)) := by rw [← hw3]; exact heap_alloc_new w2 _
    have gz3 : w3.heap[w.heap.size]? = some (.cells #[.bool false, .int .i64 0, .int .i64 0, .int .i64 0, .int .i64 0, .int .i64 0, .int .i64 0, .int .i64 0, .int .i64 0, .string ⟨#[]⟩] 125 (0, 0)) := by rw [← hw3]; exact (Below.heap_alloc _ _ _ hlt).trans gz
    have hrow : ∀ cs, Below w.heap.size w (w3.setRow w.heap.size cs) := fun cs => by rw [← hw3]; exact (hbw.alloc (Nat.le_of_lt hlt) _).trans ⟨rfl, rfl, rfl, by simp [World.setRow], fun k hk => setRow_other _ _ _ _ (by omega)⟩
    have c0 : w3.cell? ⟨w2.heap.size, 0, none⟩ = some (.int .i64 h.v0) := cell_of_row _ _ _ _ _ _ g3
    have c1 : w3.cell? ⟨w2.heap.size, 1, none⟩ = some (.int .i64 h.v1) := cell_of_row _ _ _ _ _ _ g3
    have c2 : w3.cell? ⟨w2.heap.size, 2, none⟩ = some (.int .i64 h.v2) := cell_of_row _ _ _ _ _ _ g3
    have c3 : w3.cell? ⟨w2.heap.size, 3, none⟩ = some (.int .i64 h.v3) := cell_of_row _ _ _ _ _ _ g3
    have c4 : w3.cell? ⟨w2.heap.size, 4, none⟩ = some (.int .i64 h.v4) := cell_of_row _ _ _ _ _ _ g3
    have c5 : w3.cell? ⟨w2.heap.size, 5, none⟩ = some (.int .i64 h.v5) := cell_of_row _ _ _ _ _ _ g3
    have c6 : w3.cell? ⟨w2.heap.size, 6, none⟩ = some (.int .i64 h.v6) := cell_of_row _ _ _ _ _ _ g3
    have c7 : w3.cell? ⟨w2.heap.size, 7, none⟩ = some (.int .i64 h.v7) := cell_of_row _ _ _ _ _ _ g3
    clear g3 gz hbw
    go_wp2_with (refine wpList_store_row rfl 125 _ _ rfl w.heap.size #[.bool false, .int .i64 0, .int .i64 0, .int .i64 0, .int .i64 0, .int .i64 0, .int .i64 0, .int .i64 0, .int .i64 0, .string ⟨#[]⟩] rfl rfl 125 _ gz3 (by kernel_rfl) rfl (by simp [Value.oneCell']) ?_)
    exact told_ret _ w _ #[.bool false, .int .i64 0, .int .i64 0, .int .i64 0, .int .i64 0, .int .i64 0, .int .i64 0, .int .i64 0, .int .i64 0, .string ⟨#[]⟩] rfl (setRow_heap _ _ _ _ _ _ gz3) rfl (hrow _)
  · have hE' : (E != 0) = true := bne_iff_ne.2 hE
    simp only [hE, false_and, if_false]
    go_enter Tryz.func101, Tryz.ntmps101
    go_wp2_with fail
    refine (ho _ HB0.out).mono ?_
    rintro e w2 ⟨rfl, hb2⟩
    have gz : w2.heap[w.heap.size]? = some (.cells #[.bool false, .int .i64 0, .int .i64 0, .int .i64 0, .int .i64 0, .int .i64 0, .int .i64 0, .int .i64 0, .int .i64 0, .string ⟨#[]⟩] 125 (0, 0)) := (hb2.block w.heap.size (by simp)).trans HG0.out
    have hlt : w.heap.size < w2.heap.size := lt_of_block gz
    have hbw : Below w.heap.size w w2 := HB0.out.trans (hb2.mono (by simp))
    clear hb2 ho HB0 HG0
    obtain ⟨w3, hw3⟩ : ∃ w3, w2.alloc (.cells #[.int .i64 h.v0, .int .i64 h.v1, .int .i64 h.v2, .int .i64 h.v3, .int .i64 h.v4, .int .i64 h.v5, .int .i64 h.v6, .int .i64 h.v7] 121) = w3 := ⟨_, rfl⟩
    have g3 : w3.heap[w2.heap.size]? = some (.cells #[.int .i64 h.v0, .int .i64 h.v1, .int .i64 h.v2, .int .i64 h.v3, .int .i64 h.v4, .int .i64 h.v5, .int .i64 h.v6, .int .i64 h.v7] 121 (0, 0)) := by rw [← hw3]; exact heap_alloc_new w2 _
    have gz3 : w3.heap[w.heap.size]? = some (.cells #[.bool false, .int .i64 0, .int .i64 0, .int .i64 0, .int .i64 0, .int .i64 0, .int .i64 0, .int .i64 0, .int .i64 0, .string ⟨#[]⟩] 125 (0, 0)) := by rw [← hw3]; exact (Below.heap_alloc _ _ _ hlt).trans gz
    have hrow : ∀ cs, Below w.heap.size w (w3.setRow w.heap.size cs) := fun cs => by rw [← hw3]; exact (hbw.alloc (Nat.le_of_lt hlt) _).trans ⟨rfl, rfl, rfl, by simp [World.setRow], fun k hk => setRow_other _ _ _ _ (by omega)⟩
    have c0 : w3.cell? ⟨w2.heap.size, 0, none⟩ = some (.int .i64 h.v0) := cell_of_row _ _ _ _ _ _ g3
    have c1 : w3.cell? ⟨w2.heap.size, 1, none⟩ = some (.int .i64 h.v1) := cell_of_row _ _ _ _ _ _ g3
    have c2 : w3.cell? ⟨w2.heap.size, 2, none⟩ = some (.int .i64 h.v2) := cell_of_row _ _ _ _ _ _ g3
    have c3 : w3.cell? ⟨w2.heap.size, 3, none⟩ = some (.int .i64 h.v3) := cell_of_row _ _ _ _ _ _ g3
    have c4 : w3.cell? ⟨w2.heap.size, 4, none⟩ = some (.int .i64 h.v4) := cell_of_row _ _ _ _ _ _ g3
    have c5 : w3.cell? ⟨w2.heap.size, 5, none⟩ = some (.int .i64 h.v5) := cell_of_row _ _ _ _ _ _ g3
    have c6 : w3.cell? ⟨w2.heap.size, 6, none⟩ = some (.int .i64 h.v6) := cell_of_row _ _ _ _ _ _ g3
    have c7 : w3.cell? ⟨w2.heap.size, 7, none⟩ = some (.int .i64 h.v7) := cell_of_row _ _ _ _ _ _ g3
    clear g3 gz hbw
    go_wp2_with (refine wpList_store_row rfl 125 _ _ rfl w.heap.size #[.bool false, .int .i64 0, .int .i64 0, .int .i64 0, .int .i64 0, .int .i64 0, .int .i64 0, .int .i64 0, .int .i64 0, .string ⟨#[]⟩] rfl rfl 125 _ gz3 (by kernel_rfl) rfl (by simp [Value.oneCell']) ?_)
    exact told_ret _ w _ #[.bool false, .int .i64 0, .int .i64 0, .int .i64 0, .int .i64 0, .int .i64 0, .int .i64 0, .int .i64 0, .int .i64 0, .string ⟨#[]⟩] rfl (setRow_heap _ _ _ _ _ _ gz3) rfl (hrow _)
theorem told_any (B : Nat) (F : Nat → Prop) (S : VS) (r : ByteArray) (at_ : Int) (hl : S.seals.length ≤ 1000000) (w : World) (hp : Ideal w F B S) :
    Calls Tryz.prog 101 #[.pointer (some ⟨B, 0, none⟩), .string r, .int .i64 at_] w fun e w' => e = .returned (.agg (if bopenE S r = 0 ∧ (bopenH S r).v1 = at_ then readA true (bopenH S r) (bopenS S r) else noneA)) ∧ Below w.heap.size w w' :=
  told_gen _ r _ _ _ at_ w fun w' hb => bopen_any B F S r hl w' (hp.below hb)
end Go.Proofs.YtoopaigpjefonaaGreatDoor

namespace Go.Proofs.YtoopaigpjefonaaGreatDoor
set_option maxRecDepth 20000
open Go.Shelf Go.RowKit

def pl_lays105_ren : Go.Shelf.Ren := ⟨fun | 105 => 46 | 212 => 78 | 99 => 79 | 165 => 80 | 166 => 81 | 170 => 82 | 169 => 83 | 263 => 119 | 264 => 120 | 206 => 121 | 240 => 122 | 241 => 123 | 276 => 153 | 277 => 154 | n => n, fun | 9 => 9 | 3 => 3 | 4 => 4 | 20 => 20 | 0 => 0 | 46 => 150 | 109 => 151 | 5 => 5 | 72 => 156 | 76 => 158 | 51 => 160 | 146 => 215 | 53 => 217 | 148 => 218 | 70 => 154 | 37 => 143 | 75 => 73 | 127 => 220 | 164 => 257 | 80 => 97 | n => n, fun | n => n⟩
theorem pl_lays105 : Go.Proofs.Lays.n105 Tryz.prog pl_lays105_ren := {
  mixed := by kernel_rfl
  f99 := Tryz.func79.trans (congrArg some (by kernel_rfl))
  f105 := Tryz.func46.trans (congrArg some (by kernel_rfl))
  f165 := Tryz.func80.trans (congrArg some (by kernel_rfl))
  f166 := Tryz.func81.trans (congrArg some (by kernel_rfl))
  f169 := Tryz.func83.trans (congrArg some (by kernel_rfl))
  f170 := Tryz.func82.trans (congrArg some (by kernel_rfl))
  f206 := Tryz.func121.trans (congrArg some (by kernel_rfl))
  f212 := Tryz.func78.trans (congrArg some (by kernel_rfl))
  f240 := Tryz.func122.trans (congrArg some (by kernel_rfl))
  f241 := Tryz.func123.trans (congrArg some (by kernel_rfl))
  f263 := Tryz.func119.trans (congrArg some (by kernel_rfl))
  f264 := Tryz.func120.trans (congrArg some (by kernel_rfl))
  f276 := Tryz.func153.trans (congrArg some (by kernel_rfl))
  f277 := Tryz.func154.trans (congrArg some (by kernel_rfl))
  t0 := Tryz.underlying0
  a0 := Tryz.isAgg0
  z0 := Tryz.sizeOf0
  v0 := Tryz.zeroValue0
  t3 := Tryz.underlying3
  a3 := Tryz.isAgg3
  z3 := Tryz.sizeOf3
  v3 := Tryz.zeroValue3
  t4 := Tryz.underlying4
  a4 := Tryz.isAgg4
  z4 := Tryz.sizeOf4
  v4 := Tryz.zeroValue4
  t5 := Tryz.underlying5
  a5 := Tryz.isAgg5
  z5 := Tryz.sizeOf5
  v5 := Tryz.zeroValue5
  t9 := Tryz.underlying9
  a9 := Tryz.isAgg9
  z9 := Tryz.sizeOf9
  v9 := Tryz.zeroValue9
  t20 := Tryz.underlying20
  a20 := Tryz.isAgg20
  z20 := Tryz.sizeOf20
  v20 := Tryz.zeroValue20
  t37 := Tryz.underlying143
  a37 := Tryz.isAgg143
  z37 := Tryz.sizeOf143
  v37 := Tryz.zeroValue143
  t46 := Tryz.underlying150
  a46 := Tryz.isAgg150
  z46 := Tryz.sizeOf150
  v46 := Tryz.zeroValue150
  t51 := Tryz.underlying160
  a51 := Tryz.isAgg160
  z51 := Tryz.sizeOf160
  v51 := Tryz.zeroValue160
  t53 := Tryz.underlying217
  a53 := Tryz.isAgg217
  z53 := Tryz.sizeOf217
  v53 := Tryz.zeroValue217
  t70 := Tryz.underlying154
  a70 := Tryz.isAgg154
  z70 := Tryz.sizeOf154
  v70 := Tryz.zeroValue154
  t72 := Tryz.underlying156
  a72 := Tryz.isAgg156
  z72 := Tryz.sizeOf156
  v72 := Tryz.zeroValue156
  t75 := Tryz.underlying73
  a75 := Tryz.isAgg73
  z75 := Tryz.sizeOf73
  v75 := Tryz.zeroValue73
  t76 := Tryz.underlying158
  a76 := Tryz.isAgg158
  z76 := Tryz.sizeOf158
  v76 := Tryz.zeroValue158
  t109 := Tryz.underlying151
  a109 := Tryz.isAgg151
  z109 := Tryz.sizeOf151
  v109 := Tryz.zeroValue151
  t127 := Tryz.underlying220
  a127 := Tryz.isAgg220
  z127 := Tryz.sizeOf220
  v127 := Tryz.zeroValue220
  t146 := Tryz.underlying215
  a146 := Tryz.isAgg215
  z146 := Tryz.sizeOf215
  v146 := Tryz.zeroValue215
  t148 := Tryz.underlying218
  a148 := Tryz.isAgg218
  z148 := Tryz.sizeOf218
  v148 := Tryz.zeroValue218
  t164 := Tryz.underlying257
  a164 := Tryz.isAgg257
  z164 := Tryz.sizeOf257
  v164 := Tryz.zeroValue257 }
theorem pl_Builder_Extra_105 : Builder.Extra Tryz.prog pl_lays105_ren := {
  sizeBuilder := by kernel_rfl
  liesBuilder := by kernel_rfl
  t5 := Tryz.underlying5
  a5 := Tryz.isAgg5
  z5 := Tryz.sizeOf5
  v5 := Tryz.zeroValue5
  infoByte := by kernel_rfl
  cellsByte := by kernel_rfl
  sizeByte := by kernel_rfl
  neB5 := by decide }
/-- A text of one byte, so many times. -/
def fillS (v n : Nat) : ByteArray := strOfNums ((List.replicate n v).map fun (x : Nat) => (x : Int))
theorem fillS_size (v n : Nat) : (fillS v n).size = n := by simp [fillS, strOfNums_size]
set_option maxRecDepth 100000 in
theorem blank_eq : (⟨(Lib.repeatL (⟨#[0]⟩ : ByteArray).data.toList 64).toArray⟩ : ByteArray) = fillS 0 64 := by rfl
theorem repeat_blank (w : World) :
    Calls Tryz.prog 46 #[.string ⟨#[0]⟩, .int .i64 64] w fun e w' => e = .returned (.string (fillS 0 64)) ∧ Below w.heap.size w w' := by
  have h := Any.strings_Repeat pl_lays105 pl_Builder_Extra_105 ⟨#[0]⟩ 64 w (by decide) (by decide)
  rw [blank_eq] at h
  exact h
end Go.Proofs.YtoopaigpjefonaaGreatDoor

namespace Go.Proofs.YtoopaigpjefonaaGreatDoor
set_option maxRecDepth 20000
open Go.RowKit

structure VK where
  σ : Type
  v : Value
  lies : World → (Nat → Prop) → σ → Prop
  room : σ → Nat → Prop
  hS : σ → ByteArray → ByteArray
  hP : σ → ByteArray → σ
  sS : σ → Hd → ByteArray → ByteArray
  sP : σ → Hd → ByteArray → σ
  oE : σ → ByteArray → Int
  oH : σ → ByteArray → Hd
  oS : σ → ByteArray → ByteArray
def toldK (K : VK) (S : K.σ) (r : ByteArray) (a : Int) : Array Value := if K.oE S r = 0 ∧ (K.oH S r).v1 = a then readA true (K.oH S r) (K.oS S r) else noneA
theorem toldK_ok (K : VK) (S : K.σ) (r : ByteArray) (a : Int) : (toldK K S r a).size = 10 ∧ (toldK K S r a).all (·.oneCell') = true := by
  unfold toldK
  split
  · exact ⟨rfl, by simp [readA, Value.oneCell']⟩
  · exact ⟨rfl, by simp [noneA, readA, Value.oneCell']⟩
structure VKOk (K : VK) : Prop where
  keep : ∀ {w w' : World} {F : Nat → Prop} {S : K.σ}, K.lies w F S → (∀ k, k < w.heap.size → F k → w'.heap[k]? = w.heap[k]?) → K.lies w' F S
  mono : ∀ {w : World} {F F' : Nat → Prop} {S : K.σ}, K.lies w F S → (∀ k, k < w.heap.size → F k → F' k) → K.lies w F' S
  less : ∀ {S : K.σ} {n m : Nat}, K.room S n → m ≤ n → K.room S m
  hRoom : ∀ {S : K.σ} {s : ByteArray} {n : Nat}, K.room S (n + 1) → K.room (K.hP S s) n
  sRoom : ∀ {S : K.σ} {h : Hd} {s : ByteArray} {n : Nat}, K.room S (n + 1) → K.room (K.sP S h s) n
  hSize : ∀ (S : K.σ) (s : ByteArray), K.room S 1 → (K.hS S s).size = 32
  sSize : ∀ (S : K.σ) (h : Hd) (s : ByteArray), K.room S 1 → bsealE h s = 0 → (K.sS S h s).size = 512
  sNone : ∀ (S : K.σ) (h : Hd) (s : ByteArray), ¬ bsealE h s = 0 → K.sS S h s = ⟨#[]⟩
  hash : ∀ (F : Nat → Prop) (S : K.σ) (s : ByteArray) (w : World), s.size ≤ 1000000 → K.room S 1 → K.lies w F S → Calls Tryz.prog 94 #[K.v, .string s] w fun e w' => e = .returned (.string (K.hS S s)) ∧ K.lies w' F (K.hP S s) ∧ Touch F w w'
  seal_ : ∀ (F : Nat → Prop) (S : K.σ) (h : Hd) (s : ByteArray) (w : World), K.room S 1 → K.lies w F S → Calls Tryz.prog 96 #[K.v, .agg h.arr, .string s] w fun e w' => e = .returned (.tuple #[.string (K.sS S h s), .int .i64 (bsealE h s)]) ∧ K.lies w' F (K.sP S h s) ∧ Touch F w w'
  told : ∀ (F : Nat → Prop) (S : K.σ) (r : ByteArray) (a : Int) (w : World), K.room S 0 → K.lies w F S → Calls Tryz.prog 101 #[K.v, .string r, .int .i64 a] w fun e w' => e = .returned (.agg (toldK K S r a)) ∧ Below w.heap.size w w'
  probe : ∀ (F : Nat → Prop) (S : K.σ) (w : World), K.room S 0 → K.lies w F S → Calls Tryz.prog 65 #[K.v, .int .i64 0, .string (fillS 0 12), .string ⟨#[]⟩, .string ⟨#[]⟩] w fun e w' => e = .returned (.tuple #[.string ⟨#[]⟩, .int .i64 3]) ∧ Below w.heap.size w w'
theorem VKOk.below {K : VK} (HK : VKOk K) {w w' : World} {F : Nat → Prop} {S : K.σ} (h : K.lies w F S) (hb : Below w.heap.size w w') : K.lies w' F S := HK.keep h fun k hk _ => hb.block k hk

/-- The ideal vault in block B. -/
def idealK (B : Nat) : VK where
  σ := VS
  v := .pointer (some ⟨B, 0, none⟩)
  lies := fun w F S => Ideal w F B S
  room := fun S n => S.texts.length + n ≤ 1000000 ∧ S.seals.length + n ≤ 1000000
  hS := hashS
  hP := hashP
  sS := bsealS
  sP := bsealP
  oE := bopenE
  oH := bopenH
  oS := bopenS
theorem probe_1 (S : VS) : openS S 0 (fillS 0 12) ⟨#[]⟩ ⟨#[]⟩ = ⟨#[]⟩ ∧ openE S 0 (fillS 0 12) ⟨#[]⟩ ⟨#[]⟩ = 3 := by
  have hf : fitB 0 (fillS 0 12) = true := by simp [fitB, fillS_size]
  unfold openS openE
  rw [hf]
  exact ⟨rfl, rfl⟩
theorem ideal_len (S : VS) (h : Hd) (s : ByteArray) : (bsealP S h s).texts.length = S.texts.length ∧ (bsealP S h s).seals.length ≤ S.seals.length + 1 := by
  have := addN_length S.seals (h.four s)
  unfold bsealP
  split
  · exact ⟨rfl, this⟩
  · exact ⟨rfl, Nat.le_succ _⟩
theorem ideal_size (S : VS) (h : Hd) (s : ByteArray) (hr : S.seals.length + 1 ≤ 1000000) (he : bsealE h s = 0) : (bsealS S h s).size = 512 := by
  have h1 := numOf_le (h.four s) (addN S.seals (h.four s))
  have h2 := addN_length S.seals (h.four s)
  have hs : s.size = 448 := by
    by_cases hs : s.size = 448
    · exact hs
    · rw [bsealE, if_neg hs] at he
      exact absurd he (by decide)
  have he' : h.err = 0 := by rwa [bsealE, if_pos hs] at he
  have hb : bsealB h s = true := by simp [bsealB, hs, he']
  unfold bsealS
  rw [if_pos hb]
  exact blk_size he' hs (by omega)
theorem ideal_none (S : VS) (h : Hd) (s : ByteArray) (he : ¬ bsealE h s = 0) : bsealS S h s = ⟨#[]⟩ := by
  unfold bsealS
  rw [if_neg]
  intro hb
  have hb := of_decide_eq_true hb
  exact he (by rw [bsealE, if_pos hb.1, hb.2])
theorem idealOk (B : Nat) : VKOk (idealK B) where
  keep := fun h hk => Ideal.keep h hk
  mono := fun h hF => Ideal.mono h hF
  less := fun {S n m} h hm => by
    have h : S.texts.length + n ≤ 1000000 ∧ S.seals.length + n ≤ 1000000 := h
    exact ⟨by omega, by omega⟩
  hRoom := fun {S s n} h => by
    have h : S.texts.length + (n + 1) ≤ 1000000 ∧ S.seals.length + (n + 1) ≤ 1000000 := h
    have := addN_length S.texts s
    refine ⟨?_, ?_⟩
    · show (addN S.texts s).length + n ≤ 1000000
      omega
    · show S.seals.length + n ≤ 1000000
      omega
  sRoom := fun {S h s n} hr => by
    have hr : S.texts.length + (n + 1) ≤ 1000000 ∧ S.seals.length + (n + 1) ≤ 1000000 := hr
    have h1 := ideal_len S h s
    show (bsealP S h s).texts.length + n ≤ 1000000 ∧ (bsealP S h s).seals.length + n ≤ 1000000
    omega
  hSize := fun S s hr => by
    have hr : S.texts.length + 1 ≤ 1000000 ∧ S.seals.length + 1 ≤ 1000000 := hr
    have h1 := numOf_le s (addN S.texts s)
    have h2 := addN_length S.texts s
    exact wideS_size (by omega) (by decide)
  sSize := fun S h s hr he => ideal_size S h s hr.2 he
  sNone := fun S h s he => ideal_none S h s he
  hash := fun F S s w hs hr hp => by
    have hr : S.texts.length + 1 ≤ 1000000 ∧ S.seals.length + 1 ≤ 1000000 := hr
    exact vhash_any B F S s (by unfold fitT; omega) (by omega) w hp
  seal_ := fun F S h s w hr hp => by
    have hr : S.texts.length + 1 ≤ 1000000 ∧ S.seals.length + 1 ≤ 1000000 := hr
    exact bseal_any B F S h s (by omega) w hp
  told := fun F S r a w hr hp => by
    have hr : S.texts.length + 0 ≤ 1000000 ∧ S.seals.length + 0 ≤ 1000000 := hr
    exact told_any B F S r a (by omega) w hp
  probe := fun F S w hr hp => by
    have hr : S.texts.length + 0 ≤ 1000000 ∧ S.seals.length + 0 ≤ 1000000 := hr
    have h := vopen_any B F S 0 (fillS 0 12) ⟨#[]⟩ ⟨#[]⟩ ⟨by decide, by rw [fillS_size]; decide, by decide, by decide⟩ (by omega) w hp
    rw [(probe_1 S).1, (probe_1 S).2] at h
    exact h
end Go.Proofs.YtoopaigpjefonaaGreatDoor

namespace Go.Proofs.YtoopaigpjefonaaGreatDoor
set_option maxRecDepth 20000
open Go.RowKit Go.Extern.Stop Go.Stop Go.Extern

theorem as_nil (t : Value) (w : World) :
    Calls Tryz.prog 169 #[.nilIface, t] w fun e w' => e = .returned (.bool false) ∧ w' = w := by
  go_enter Tryz.func169, Tryz.ntmps169
  go_wp2
  go_ret
  exact ⟨rfl, rfl⟩
theorem ae_valueOfP (t : Addr) (w : World) : (ReflectliteValue.unpack (.iface 272 (.pointer (some t)))).run Tryz.prog w = .ok (.agg #[.pointer (some ⟨6, 272, none⟩), .pointer (some ⟨w.heap.size, 0, none⟩), .int .u64 150]) (w.alloc (.cells #[.pointer (some t)] 272)) := by kernel_rfl
theorem ae_typeP (a : Addr) (w : World) : (ReflectliteValue.methodAny (ReflectliteValue.valueError "reflectlite.Value.Type" 0) (fun t _ _ _ => ReflectliteType.toType t) #[.agg #[.pointer (some ⟨6, 272, none⟩), .pointer (some a), .int .u64 150]]).run Tryz.prog w = .ok (.iface 240 (.agg #[.pointer (some ⟨6, 272, none⟩)])) w := by kernel_rfl
theorem ae_methodKind (h : Value) (w : World) : (Go.method 501 240 (.agg #[h]) "Kind").run Tryz.prog w = .ok (241, h) w := by kernel_rfl
theorem ae_methodElem (h : Value) (w : World) : (Go.method 501 240 (.agg #[h]) "Elem").run Tryz.prog w = .ok (295, .agg #[h]) w := by kernel_rfl
theorem ae_methodImplements (h : Value) (w : World) : (Go.method 501 240 (.agg #[h]) "Implements").run Tryz.prog w = .ok (296, .agg #[h]) w := by kernel_rfl
theorem ae_methodAssignableTo (h : Value) (w : World) : (Go.method 501 240 (.agg #[h]) "AssignableTo").run Tryz.prog w = .ok (293, .agg #[h]) w := by kernel_rfl
theorem ae_kindP (w : World) : ((ReflectliteType.abiMethod fun t => (fun a : Nat => Value.int IntKind.u8 (a : Int)) <$> Rtype.kind t) #[.pointer (some ⟨6, 272, none⟩)]).run Tryz.prog w = .ok (.int .u8 22) w := by kernel_rfl
theorem ae_kindE (w : World) : ((ReflectliteType.abiMethod fun t => (fun a : Nat => Value.int IntKind.u8 (a : Int)) <$> Rtype.kind t) #[.pointer (some ⟨6, 32, none⟩)]).run Tryz.prog w = .ok (.int .u8 2) w := by kernel_rfl
theorem method_one {α : Type} (v : Value) (h1 : Value → α) (h2 : Array Value → α) : ReflectliteValue.method.match_2 (fun _ => α) #[v] h1 h2 = h1 v := rfl
theorem ae_partsP (a : Addr) (w : World) : (ReflectliteValue.parts (.agg #[.pointer (some ⟨6, 272, none⟩), .pointer (some a), .int .u64 150])).run Tryz.prog w = .ok (some (272, a, 150)) w := by kernel_rfl
theorem ae_isNil (a p : Addr) (W : World) (ha : W.cell? a = some (.pointer (some p))) : (ReflectliteValue.method (ReflectliteValue.valueError "reflectlite.Value.IsNil" 0) ReflectliteValue.isNil #[.agg #[.pointer (some ⟨6, 272, none⟩), .pointer (some a), .int .u64 150]]).run Tryz.prog W = .ok (.bool false) W := by
  delta ReflectliteValue.method
  rw [method_one]
  simp only [Sem.run_bind, ae_partsP, Result.andThen]
  simp [ReflectliteValue.isNil, loadVar, isAgg, underlying, Tryz.underlying272, ha, Result.andThen]
theorem ae_elemP (w : World) : (ReflectliteType.method ReflectliteType.elem #[.agg #[.pointer (some ⟨6, 272, none⟩)]]).run Tryz.prog w = .ok (.iface 240 (.agg #[.pointer (some ⟨6, 32, none⟩)])) w := by kernel_rfl
theorem ae_implements (w : World) : (ReflectliteType.relation "Implements" ReflectliteType.implements_ #[.agg #[.pointer (some ⟨6, 32, none⟩)], .iface 240 (.agg #[.pointer (some ⟨6, 73, none⟩)])]).run Tryz.prog w = .ok (.bool true) w := by kernel_rfl
theorem ae_typeOfS (v : Value) (w : World) : (ReflectliteType.typeOf #[.iface 288 v]).run Tryz.prog w = .ok (.iface 240 (.agg #[.pointer (some ⟨6, 288, none⟩)])) w := by kernel_rfl
theorem ae_assignS (w : World) : (ReflectliteType.relation "AssignableTo" ReflectliteType.assignableTo #[.agg #[.pointer (some ⟨6, 288, none⟩)], .iface 240 (.agg #[.pointer (some ⟨6, 32, none⟩)])]).run Tryz.prog w = .ok (.bool false) w := by kernel_rfl
theorem ae_typeOfE (v : Value) (w : World) : (ReflectliteType.typeOf #[.iface 32 v]).run Tryz.prog w = .ok (.iface 240 (.agg #[.pointer (some ⟨6, 32, none⟩)])) w := by kernel_rfl
theorem ae_assignE (w : World) : (ReflectliteType.relation "AssignableTo" ReflectliteType.assignableTo #[.agg #[.pointer (some ⟨6, 32, none⟩)], .iface 240 (.agg #[.pointer (some ⟨6, 32, none⟩)])]).run Tryz.prog w = .ok (.bool true) w := by kernel_rfl
theorem ae_valueOfE (y : Int) (w : World) : (ReflectliteValue.unpack (.iface 32 (.int .i64 y))).run Tryz.prog w = .ok (.agg #[.pointer (some ⟨6, 32, none⟩), .pointer (some ⟨w.heap.size, 0, none⟩), .int .u64 130]) (w.alloc (.cells #[.int .i64 y] 32)) := by kernel_rfl
theorem ae_elemOfP (w : World) : (Rtype.elem? 272).run Tryz.prog w = .ok (some 32) w := by kernel_rfl
theorem ae_mkE (p : Addr) (w : World) : (ReflectliteValue.mk 32 p ReflectliteValue.flagAddr).run Tryz.prog w = .ok (.agg #[.pointer (some ⟨6, 32, none⟩), .pointer (some p), .int .u64 386]) w := by kernel_rfl
theorem ae_elemV (a p : Addr) (W : World) (ha : W.cell? a = some (.pointer (some p))) : (ReflectliteValue.method (ReflectliteValue.valueError "reflectlite.Value.Elem" 0) ReflectliteValue.elem #[.agg #[.pointer (some ⟨6, 272, none⟩), .pointer (some a), .int .u64 150]]).run Tryz.prog W = .ok (.agg #[.pointer (some ⟨6, 32, none⟩), .pointer (some p), .int .u64 386]) W := by
  delta ReflectliteValue.method
  rw [method_one]
  simp only [Sem.run_bind, ae_partsP, Result.andThen]
  simp [ReflectliteValue.elem, loadVar, isAgg, underlying, Tryz.underlying272, ha, Result.andThen, ae_elemOfP, ae_mkE]
theorem ae_partsEa (a : Addr) (w : World) : (ReflectliteValue.parts (.agg #[.pointer (some ⟨6, 32, none⟩), .pointer (some a), .int .u64 386])).run Tryz.prog w = .ok (some (32, a, 386)) w := by kernel_rfl
theorem ae_partsE (a : Addr) (w : World) : (ReflectliteValue.parts (.agg #[.pointer (some ⟨6, 32, none⟩), .pointer (some a), .int .u64 130])).run Tryz.prog w = .ok (some (32, a, 130)) w := by kernel_rfl
theorem ae_direct (w : World) : (Rtype.directlyAssignable 32 32).run Tryz.prog w = .ok true w := by kernel_rfl
theorem set_two {α : Type} (v x : Value) (h1 : Value → Value → α) (h2 : Array Value → α) : ReflectliteValue.set.match_3 (fun _ => α) #[v, x] h1 h2 = h1 v x := rfl
theorem ae_set (ta b : Addr) (y : Int) (old : Value) (W : World) (hb : W.cell? b = some (.int .i64 y)) (ht : W.cell? ta = some old) (hf : W.frozen? ta = false) : (ReflectliteValue.set #[.agg #[.pointer (some ⟨6, 32, none⟩), .pointer (some ta), .int .u64 386], .agg #[.pointer (some ⟨6, 32, none⟩), .pointer (some b), .int .u64 130]]).run Tryz.prog W = .ok (.tuple #[]) (W.setCell ta (.int .i64 y)) := by
  delta ReflectliteValue.set
  dsimp only
  rw [set_two]
  simp only [Sem.run_bind, ae_partsEa, ae_partsE, Result.andThen]
  simp [ReflectliteValue.flagAddr, loadVar, isAgg, underlying, Tryz.underlying32, hb, Result.andThen, ae_direct, storeVar, Value.cells, storeCells, Addr.add]
  rw [run_store Tryz.prog W ta _ _ (by rfl)]
  simp [ht, hf]
theorem ae_noAs (v : Value) (xT : TypeId) (w : World) : (Instr.typeAssert (.iface 288 v) xT 302 true).run Tryz.prog w = .ok (.tuple #[.nilIface, .bool false]) w := run_typeAssert_lacksB Tryz.underlying302 (by kernel_rfl) (by kernel_rfl) v xT w
theorem ae_hasUnwrap (v : Value) (xT : TypeId) (w : World) : (Instr.typeAssert (.iface 288 v) xT 245 true).run Tryz.prog w = .ok (.tuple #[.iface 288 v, .bool true]) w := run_typeAssert_hasB Tryz.underlying245 (by kernel_rfl) v xT w
theorem ae_methodUnwrap (x y : Int) (w : World) : (Go.method 501 288 (.agg #[.int .i64 x, .int .i64 y]) "Unwrap").run Tryz.prog w = .ok (304, .agg #[.int .i64 x, .int .i64 y]) w := by kernel_rfl
theorem unwrap_any (x y : Int) (w : World) : Calls Tryz.prog 304 #[.agg #[.int .i64 x, .int .i64 y]] w fun e w' => e = .returned (.iface 32 (.int .i64 y)) ∧ w' = w.alloc (.cells #[.int .i64 x, .int .i64 y] 288) := by
  go_enter Tryz.func304, Tryz.ntmps304
  go_wp2
  go_ret
  exact ⟨rfl, rfl⟩
theorem lt_of_cell_ {w : World} {N i : Nat} {v : Value} (h : w.cell? ⟨N, i, none⟩ = some v) : N < w.heap.size := block_lt_of_cell (a := ⟨N, i, none⟩) h
end Go.Proofs.YtoopaigpjefonaaGreatDoor
