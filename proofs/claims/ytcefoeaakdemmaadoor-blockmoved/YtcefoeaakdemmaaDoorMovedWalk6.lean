/- The law BlockMoved, called with any heads, text and address, returns true, and changes nothing that was there. -/
import Derived.Test.YtcefoeaakdemmaaDoorBkEq
namespace Go.Proofs.YtcefoeaakdemmaaDoor
set_option maxRecDepth 20000
open Go.RowKit Go.Lib

theorem blk_mixed {g h : Hd} {s : ByteArray} (eg : g.err = 0) (eh : h.err = 0) (hs : s.size = 448) : (blkS g s 1).extract 0 48 ++ (blkS h s 1).extract 48 512 = blkS g s 1 := by
  rw [(blk_parts eg hs (by decide)).1, (blk_parts eh hs (by decide)).2.1]
  rfl
theorem other_opens {g h : Hd} {s : ByteArray} (eg : g.err = 0) (eh : h.err = 0) (hs : s.size = 448) (hne : ¬ g = h) : ¬ bopenE ⟨[], [], [h.four s]⟩ (blkS g s 1) = 0 := by
  intro h0
  obtain ⟨h', s', e', hs', hn, he⟩ := (bopen_iff ⟨[], [], [h.four s]⟩ _ (by show (1 : Nat) ≤ _; omega)).1 h0
  have hn' : numOf [h.four s] (h'.four s') ≠ 0 := hn
  have e1 : h.four s = h'.four s' := by
    by_cases e : h.four s = h'.four s'
    · exact e
    · exact absurd (by simp [numOf, e]) hn'
  obtain ⟨rfl, rfl⟩ := four_inj eh e' e1
  have h1 : numOf (VS.mk [] [] [h.four s]).seals (h.four s) = 1 := by simp [numOf]
  rw [h1] at he
  exact hne (blk_inj eg eh hs hs (by decide) (by decide) he).1

set_option maxRecDepth 100000 in
set_option maxHeartbeats 4000000 in
theorem walk_blockMoved (h : Hd) (s : ByteArray) (to : Int) (g : Hd) (w : World) :
    Calls Tryd.prog 3 #[.agg #[.int .i64 h.v0, .int .i64 h.v1, .int .i64 h.v2, .int .i64 h.v3, .int .i64 h.v4, .int .i64 h.v5, .int .i64 h.v6, .int .i64 h.v7], .string s, .int .i64 to, .agg #[.int .i64 g.v0, .int .i64 g.v1, .int .i64 g.v2, .int .i64 g.v3, .int .i64 g.v4, .int .i64 g.v5, .int .i64 g.v6, .int .i64 g.v7]] w fun e w' => e = .returned (.bool true) ∧ Below w.heap.size w w' := by
  have hbd := fun w => body_any s w
  have hsz := bodyS_size s
  generalize bodyS s = b at *
  obtain ⟨W0, hW0⟩ : ∃ W0, (w.alloc (.cells #[.int .i64 h.v0, .int .i64 h.v1, .int .i64 h.v2, .int .i64 h.v3, .int .i64 h.v4, .int .i64 h.v5, .int .i64 h.v6, .int .i64 h.v7] 23)).alloc (.cells #[.int .i64 g.v0, .int .i64 g.v1, .int .i64 g.v2, .int .i64 g.v3, .int .i64 g.v4, .int .i64 g.v5, .int .i64 g.v6, .int .i64 g.v7] 23) = W0 := ⟨_, rfl⟩
  have t0 : TwoH W0 w.heap.size h g := by rw [← hW0]; exact TwoH.new w h g
  have hB0 : Below w.heap.size w W0 := by rw [← hW0]; exact ((Below.refl _ _).alloc (Nat.le_refl _) _).alloc (by simp) _
  have hN0 : w.heap.size + 2 = W0.heap.size := by rw [← hW0]; simp
  have hs1 := fun B F w (hp : Ideal w F B newV) => bseal_any B F newV h b (by decide) w hp
  have hs2 := fun B F w (hp : Ideal w F B newV) => bseal_any B F newV g b (by decide) w hp
  simp only [Hd.arr] at hs1 hs2
  have HB0 : Hid (Below w.heap.size w W0) := hB0
  have HE1 : Hid (bsealE h b = h.err ∧ bsealE g b = g.err) := ⟨by simp [bsealE, hsz], by simp [bsealE, hsz]⟩
  have HE2 : Hid (h.err = 0 → bsealS newV h b = blkS h b 1 ∧ bsealP newV h b = ⟨[], [], [h.four b]⟩) := fun e => ⟨(new_seal h b e hsz).1, (new_seal h b e hsz).2.2⟩
  have HE3 : Hid (g.err = 0 → bsealS newV g b = blkS g b 1) := fun e => (new_seal g b e hsz).1
  generalize bsealE h b = E1 at *
  generalize bsealE g b = E2 at *
  generalize bsealS newV h b = T1 at *
  generalize bsealS newV g b = T2 at *
  generalize bsealP newV h b = S1 at *
  generalize bsealP newV g b = S2 at *
  clear hB0
  go_enter Tryd.func3, Tryd.ntmps3
  go_wp2_with fail
  try rw [hW0]
  refine (ideal_any W0).mono ?_
  rintro e w1 ⟨B, rfl, hp, hb⟩
  clear hW0
  have t1 : TwoH w1 w.heap.size h g := t0.keep fun i hi => hb.block i (by omega)
  have HB1 : Hid (Below w.heap.size w w1) := HB0.out.trans (hb.mono (by omega))
  have hz1 := hb.size
  clear t0 HB0 hb
  obtain ⟨c0, c1, c2, c3, c4, c5, c6, c7⟩ := hd_cells t1.1
  go_wp2_with fail
  go_region_held3 (fun w' => w'.cell? ⟨w.heap.size, 0, none⟩ = some (.int .i64 h.v0) ∧ w'.cell? ⟨w.heap.size, 1, none⟩ = some (.int .i64 h.v1) ∧ w'.cell? ⟨w.heap.size, 2, none⟩ = some (.int .i64 h.v2) ∧ w'.cell? ⟨w.heap.size, 3, none⟩ = some (.int .i64 h.v3) ∧ w'.cell? ⟨w.heap.size, 4, none⟩ = some (.int .i64 h.v4) ∧ w'.cell? ⟨w.heap.size, 5, none⟩ = some (.int .i64 h.v5) ∧ w'.cell? ⟨w.heap.size, 6, none⟩ = some (.int .i64 h.v6) ∧ w'.cell? ⟨w.heap.size, 7, none⟩ = some (.int .i64 h.v7)) (simp [go_sem, *])
    (first | (go_at_call 8; refine (hbd _).mono ?_; rintro e wA ⟨rfl, hbA⟩; have hBA : Below w1.heap.size w1 wA := (Below.refl _ _).drew.trans hbA; have hkA : ∀ i, wA.cell? ⟨w.heap.size, i, none⟩ = w1.cell? ⟨w.heap.size, i, none⟩ := cell_kept_ (hBA.block _ (by omega))) | (go_at_call 7; refine (hs1 B _ _ (hp.below hBA)).mono ?_; rintro e wB ⟨rfl, hpB, htB⟩; have hblB : ∀ k, k < W0.heap.size → wB.heap[k]? = w1.heap[k]? := fun k hk => (htB.2 k (by have := hBA.size; omega) (fun hF => absurd hF.1 (by omega))).trans (hBA.block k (by omega)); have hkB : ∀ i, wB.cell? ⟨w.heap.size, i, none⟩ = w1.cell? ⟨w.heap.size, i, none⟩ := cell_kept_ (hblB _ (by omega))))
  have t2 : TwoH wB w.heap.size h g := t1.keep fun i hi => hblB i (by omega)
  have hz2 : w1.heap.size ≤ wB.heap.size := Nat.le_trans hBA.size htB.size
  have HB2 : Hid (Below w.heap.size w wB) := HB1.out.trans ⟨htB.1.os.trans hBA.os, htB.1.tape.trans hBA.tape, htB.1.output.trans hBA.output, hz2, fun k hk => hblB k (by omega)⟩
  clear hkA hkB hblB htB hBA hbA c0 c1 c2 c3 c4 c5 c6 c7 t1 HB1 hp hs1
  obtain ⟨c0, c1, c2, c3, c4, c5, c6, c7⟩ := hd_cells t2.2
  go_wp2_with fail
  go_region_held3 (fun w' => w'.cell? ⟨(w.heap.size + 1), 0, none⟩ = some (.int .i64 g.v0) ∧ w'.cell? ⟨(w.heap.size + 1), 1, none⟩ = some (.int .i64 g.v1) ∧ w'.cell? ⟨(w.heap.size + 1), 2, none⟩ = some (.int .i64 g.v2) ∧ w'.cell? ⟨(w.heap.size + 1), 3, none⟩ = some (.int .i64 g.v3) ∧ w'.cell? ⟨(w.heap.size + 1), 4, none⟩ = some (.int .i64 g.v4) ∧ w'.cell? ⟨(w.heap.size + 1), 5, none⟩ = some (.int .i64 g.v5) ∧ w'.cell? ⟨(w.heap.size + 1), 6, none⟩ = some (.int .i64 g.v6) ∧ w'.cell? ⟨(w.heap.size + 1), 7, none⟩ = some (.int .i64 g.v7)) (simp [go_sem, *])
    (first | (go_at_call 6; refine (ideal_any _).mono ?_; rintro e wC ⟨B2, rfl, hpC, hbC⟩; have hBC : Below wB.heap.size wB wC := (Below.refl _ _).drew.trans hbC; have hkC : ∀ i, wC.cell? ⟨w.heap.size + 1, i, none⟩ = wB.cell? ⟨w.heap.size + 1, i, none⟩ := cell_kept_ (hBC.block _ (by omega))) | (go_at_call 8; refine (hbd _).mono ?_; rintro e wD ⟨rfl, hbD⟩; have hBD : Below wB.heap.size wB wD := hBC.trans (hbD.mono hBC.size); have hkD : ∀ i, wD.cell? ⟨w.heap.size + 1, i, none⟩ = wB.cell? ⟨w.heap.size + 1, i, none⟩ := cell_kept_ (hBD.block _ (by omega))) | (go_at_call 7; refine (hs2 B2 _ _ (hpC.below hbD)).mono ?_; rintro e wE ⟨rfl, hpE, htE⟩; have hblE : ∀ k, k < wB.heap.size → wE.heap[k]? = wB.heap[k]? := fun k hk => (htE.2 k (by have := hBD.size; omega) (fun hF => absurd hF.1 (by show ¬ wB.heap.size ≤ k; omega))).trans (hBD.block k (by omega)); have hkE : ∀ i, wE.cell? ⟨w.heap.size + 1, i, none⟩ = wB.cell? ⟨w.heap.size + 1, i, none⟩ := cell_kept_ (hblE _ (by omega))))
  have t3 : TwoH wE w.heap.size h g := t2.keep fun i hi => hblE i (by omega)
  have hz3 : wB.heap.size ≤ wE.heap.size := Nat.le_trans hBD.size htE.size
  have hBE : Below wB.heap.size wB wE := ⟨htE.1.os.trans hBD.os, htE.1.tape.trans hBD.tape, htE.1.output.trans hBD.output, hz3, hblE⟩
  have HB3 : Hid (Below w.heap.size w wE) := HB2.out.trans (hBE.mono HB2.out.size)
  have HP3 : Hid (Ideal wE (fun k => W0.heap.size ≤ k ∧ k < w1.heap.size) B S1) := hpB.below hBE
  clear hkC hkD hkE hblE htE hBC hbC hBD hbD hpC hpE hBE HB2 hpB t2 c0 c1 c2 c3 c4 c5 c6 c7 hs2 hbd
  by_cases e1 : h.err = 0
  case neg =>
    have n1 : (E1 != 0) = true := by rw [HE1.out.1]; exact bne_iff_ne.2 e1
    clear HE1 HE2 HE3 HP3 t3
    go_wp2_with fail
    refine (awake_any _).mono ?_
    rintro e wz ⟨rfl, hk⟩
    have HF : Hid (Below w.heap.size w wz) := HB3.out.trans (hk.mono HB3.out.size)
    clear hk HB3
    go_wp2
    go_ret
    exact ⟨rfl, HF.out⟩
  by_cases e2 : g.err = 0
  case neg =>
    obtain rfl : E1 = 0 := HE1.out.1.trans e1
    have n1 : (E2 != 0) = true := by rw [HE1.out.2]; exact bne_iff_ne.2 e2
    clear HE1 HE2 HE3 HP3 t3
    go_wp2_with fail
    refine (awake_any _).mono ?_
    rintro e wz ⟨rfl, hk⟩
    have HF : Hid (Below w.heap.size w wz) := HB3.out.trans (hk.mono HB3.out.size)
    clear hk HB3
    go_wp2
    go_ret
    exact ⟨rfl, HF.out⟩
  obtain rfl : E1 = 0 := HE1.out.1.trans e1
  obtain rfl : E2 = 0 := HE1.out.2.trans e2
  obtain ⟨hT1, hS1⟩ := HE2.out e1
  have hT2 := HE3.out e2
  subst hS1
  have hz512 : T1.size = 512 ∧ T2.size = 512 := by rw [hT1, hT2]; exact ⟨blk_size e1 hsz (by decide), blk_size e2 hsz (by decide)⟩
  have hmix : T2.extract 0 48 ++ T1.extract 48 512 = T2 := by rw [hT1, hT2]; exact blk_mixed e2 e1 hsz
  obtain ⟨o1, o2, o3⟩ := new_opens h b e1 hsz
  have HO : Hid (¬ g = h → ¬ bopenE ⟨[], [], [h.four b]⟩ T2 = 0) := by rw [hT2]; exact fun hne => other_opens e2 e1 hsz hne
  have HO2 : Hid (g = h → bopenE ⟨[], [], [h.four b]⟩ T2 = 0 ∧ (bopenH ⟨[], [], [h.four b]⟩ T2).v1 = g.v1) := fun hgh => by
    rw [hT2, hgh, o1, o2]
    exact ⟨rfl, rfl⟩
  rw [← hT1] at o1 o2 o3
  have ht1 := fun B F w (hp : Ideal w F B ⟨[], [], [h.four b]⟩) => told_form B F ⟨[], [], [h.four b]⟩ T1 to (by show (1 : Nat) ≤ _; omega) w hp
  have ht2 := fun B F w (hp : Ideal w F B ⟨[], [], [h.four b]⟩) => told_form B F ⟨[], [], [h.four b]⟩ T2 g.v1 (by show (1 : Nat) ≤ _; omega) w hp
  have hok1 : decide (bopenE ⟨[], [], [h.four b]⟩ T1 = 0 ∧ (bopenH ⟨[], [], [h.four b]⟩ T1).v1 = to) = decide (to = h.v1) := by rw [o1, o2]; simp [eq_comm]
  have hok2 : decide (bopenE ⟨[], [], [h.four b]⟩ T2 = 0 ∧ (bopenH ⟨[], [], [h.four b]⟩ T2).v1 = g.v1) = decide (g = h) := by
    by_cases hgh : g = h
    · rw [decide_eq_true hgh]; exact decide_eq_true (HO2.out hgh)
    · rw [decide_eq_false hgh]; exact decide_eq_false fun hc => HO.out hgh hc.1
  rw [hok1] at ht1
  rw [hok2] at ht2
  generalize VS.mk [] [] [h.four b] = SS at *
  clear HE1 HE2 HE3 HO HO2 hok1 hok2 o1 o2 o3 hT1 hT2
  obtain ⟨z1, z2⟩ := hz512
  have z1' : (T1.size : Int) = 512 := by omega
  have z2' : (T2.size : Int) = 512 := by omega
  have hadd : ∀ w', (Op.stringOp .add (T2.extract 0 48) (T1.extract 48 512)).run Tryd.prog w' = .ok (.string T2) w' := fun w' => by
    rw [← hmix]
    have q1 : (T2.extract 0 48).size = 48 := by simp [z2]
    have q2 : (T1.extract 48 512).size = 464 := by simp [z1]
    rw [hmix]
    conv => rhs; rw [← hmix]
    exact run_string_add_sum (P := Tryd.prog) (w := w') _ _ (by omega)
  clear hmix
  go_wp2_with fail
  go_quiet (fail)
  go_wp2_with fail
  refine (ht1 B _ _ (HP3.out.below (below_drewN (Below.refl _ _) _))).mono ?_
  rintro e w4 ⟨⟨k1, s1, rfl, _, _⟩, hb4⟩
  have hb4' : Below wE.heap.size wE w4 := (below_drewN (Below.refl _ _) _).trans hb4
  clear hb4 ht1
  obtain ⟨ok1, HK1⟩ : ∃ x, Hid (x = decide (to = h.v1)) := ⟨_, rfl⟩
  rw [← HK1.out]
  obtain ⟨w5, hw5⟩ : ∃ w5, w4.alloc (.cells #[.bool ok1, .int .i64 k1.v0, .int .i64 k1.v1, .int .i64 k1.v2, .int .i64 k1.v3, .int .i64 k1.v4, .int .i64 k1.v5, .int .i64 k1.v6, .int .i64 k1.v7, .string s1] 32) = w5 := ⟨_, rfl⟩
  have hz4 := hb4'.size
  have hb5 : Below wE.heap.size wE w5 := by rw [← hw5]; exact hb4'.alloc hz4 _
  have t5 : TwoH w5 w.heap.size h g := t3.keep fun i hi => hb5.block i (by omega)
  have g5 : w5.heap[w4.heap.size]? = some (.cells #[.bool ok1, .int .i64 k1.v0, .int .i64 k1.v1, .int .i64 k1.v2, .int .i64 k1.v3, .int .i64 k1.v4, .int .i64 k1.v5, .int .i64 k1.v6, .int .i64 k1.v7, .string s1] 32 (0, 0)) := by rw [← hw5]; exact heap_alloc_new w4 _
  have l5 := lt_of_block g5
  have HP5 : Hid (Ideal w5 (fun k => W0.heap.size ≤ k ∧ k < w1.heap.size) B SS) := HP3.out.below hb5
  have HB5 : Hid (Below w.heap.size w w5) := HB3.out.trans (hb5.mono HB3.out.size)
  have cg : w5.cell? ⟨w.heap.size + 1, 1, none⟩ = some (.int .i64 g.v1) := cell_of_row _ _ _ _ _ _ t5.2
  clear hb4' hb5 t3 HP3 HB3
  go_wp2_with fail
  try rw [hw5]
  refine (ht2 B _ _ HP5.out).mono ?_
  rintro e w6 ⟨⟨k2, s2, rfl, _, _⟩, hb6⟩
  clear hw5 ht2 HP5 cg
  obtain ⟨ok2, HK2⟩ : ∃ x, Hid (x = decide (g = h)) := ⟨_, rfl⟩
  rw [← HK2.out]
  obtain ⟨w7, hw7⟩ : ∃ w7, w6.alloc (.cells #[.bool ok2, .int .i64 k2.v0, .int .i64 k2.v1, .int .i64 k2.v2, .int .i64 k2.v3, .int .i64 k2.v4, .int .i64 k2.v5, .int .i64 k2.v6, .int .i64 k2.v7, .string s2] 32) = w7 := ⟨_, rfl⟩
  have hz6 := hb6.size
  have hb7 : Below w5.heap.size w5 w7 := by rw [← hw7]; exact hb6.alloc hz6 _
  have t7 : TwoH w7 w.heap.size h g := t5.keep fun i hi => hb7.block i (by omega)
  have r7 : w7.cell? ⟨w4.heap.size, 0, none⟩ = some (.bool ok1) := (cell_kept_ (hb7.block _ l5) 0).trans (cell_of_row _ _ _ _ _ _ g5)
  have g7 : w7.heap[w6.heap.size]? = some (.cells #[.bool ok2, .int .i64 k2.v0, .int .i64 k2.v1, .int .i64 k2.v2, .int .i64 k2.v3, .int .i64 k2.v4, .int .i64 k2.v5, .int .i64 k2.v6, .int .i64 k2.v7, .string s2] 32 (0, 0)) := by rw [← hw7]; exact heap_alloc_new w6 _
  have l7 := lt_of_block g7
  have x7 : w7.cell? ⟨w6.heap.size, 0, none⟩ = some (.bool ok2) := cell_of_row _ _ _ _ _ _ g7
  have HB7 : Hid (Below w.heap.size w w7) := HB5.out.trans (hb7.mono HB5.out.size)
  obtain ⟨c0, c1, c2, c3, c4, c5, c6, c7⟩ := hd_cells t7.1
  obtain ⟨d0, d1, d2, d3, d4, d5, d6, d7⟩ := hd_cells t7.2
  have hq : ∀ w', (binOp .eql 23 (.agg #[.int .i64 g.v0, .int .i64 g.v1, .int .i64 g.v2, .int .i64 g.v3, .int .i64 g.v4, .int .i64 g.v5, .int .i64 g.v6, .int .i64 g.v7]) (.agg #[.int .i64 h.v0, .int .i64 h.v1, .int .i64 h.v2, .int .i64 h.v3, .int .i64 h.v4, .int .i64 h.v5, .int .i64 h.v6, .int .i64 h.v7])).run Tryd.prog w' = .ok (.bool ok2) w' := fun w' => by rw [HK2.out]; exact eql_hd g h w'
  have hway : (to = h.v1 ∧ ok1 = true) ∨ (¬ to = h.v1 ∧ ok1 = false) := by
    by_cases hto : to = h.v1
    · exact .inl ⟨hto, by rw [HK1.out]; exact decide_eq_true hto⟩
    · exact .inr ⟨hto, by rw [HK1.out]; exact decide_eq_false hto⟩
  clear hb6 hb7 t5 t7 g5 g7 HB5 HK1 HK2
  rcases hway with ⟨hto, rfl⟩ | ⟨hto, rfl⟩
  case' inl => subst hto
  case' inr => have hto' : (to == h.v1) = false := beq_false_of_ne hto
  all_goals
    cases ok2
  all_goals
    go_wp2_with fail
    try rw [hw7]
    clear hw7
    go_region_held3 (fun w' => w'.cell? ⟨w4.heap.size, 0, none⟩ = w7.cell? ⟨w4.heap.size, 0, none⟩ ∧ w'.cell? ⟨w6.heap.size, 0, none⟩ = w7.cell? ⟨w6.heap.size, 0, none⟩ ∧ w'.cell? ⟨w.heap.size, 0, none⟩ = some (.int .i64 h.v0) ∧ w'.cell? ⟨w.heap.size, 1, none⟩ = some (.int .i64 h.v1) ∧ w'.cell? ⟨w.heap.size, 2, none⟩ = some (.int .i64 h.v2) ∧ w'.cell? ⟨w.heap.size, 3, none⟩ = some (.int .i64 h.v3) ∧ w'.cell? ⟨w.heap.size, 4, none⟩ = some (.int .i64 h.v4) ∧ w'.cell? ⟨w.heap.size, 5, none⟩ = some (.int .i64 h.v5) ∧ w'.cell? ⟨w.heap.size, 6, none⟩ = some (.int .i64 h.v6) ∧ w'.cell? ⟨w.heap.size, 7, none⟩ = some (.int .i64 h.v7) ∧ w'.cell? ⟨(w.heap.size + 1), 0, none⟩ = some (.int .i64 g.v0) ∧ w'.cell? ⟨(w.heap.size + 1), 1, none⟩ = some (.int .i64 g.v1) ∧ w'.cell? ⟨(w.heap.size + 1), 2, none⟩ = some (.int .i64 g.v2) ∧ w'.cell? ⟨(w.heap.size + 1), 3, none⟩ = some (.int .i64 g.v3) ∧ w'.cell? ⟨(w.heap.size + 1), 4, none⟩ = some (.int .i64 g.v4) ∧ w'.cell? ⟨(w.heap.size + 1), 5, none⟩ = some (.int .i64 g.v5) ∧ w'.cell? ⟨(w.heap.size + 1), 6, none⟩ = some (.int .i64 g.v6) ∧ w'.cell? ⟨(w.heap.size + 1), 7, none⟩ = some (.int .i64 g.v7)) (simp [go_sem, *])
      (first | (go_at_call 9; refine (awake_any _).mono ?_; rintro e wz ⟨rfl, hbz⟩; have hkz : ∀ a : Addr, a.block < w7.heap.size → wz.cell? a = w7.cell? a := fun a ha => hbz.cell (p := a) ha; have y1 := (hkz ⟨w4.heap.size, 0, none⟩ (by show w4.heap.size < _; omega)).trans r7; have y2 := (hkz ⟨w6.heap.size, 0, none⟩ l7).trans x7; have y3 : ∀ i, wz.cell? ⟨w.heap.size, i, none⟩ = w7.cell? ⟨w.heap.size, i, none⟩ := fun i => hkz _ (by show w.heap.size < _; omega); have y4 : ∀ i, wz.cell? ⟨w.heap.size + 1, i, none⟩ = w7.cell? ⟨w.heap.size + 1, i, none⟩ := fun i => hkz _ (by show w.heap.size + 1 < _; omega)))
    have HF : Hid (Below w.heap.size w wz) := HB7.out.drew.trans (hbz.mono HB7.out.size)
    clear hkz y1 y2 y3 y4 hbz
    go_wp2
    go_ret
    exact ⟨rfl, HF.out⟩
end Go.Proofs.YtcefoeaakdemmaaDoor
