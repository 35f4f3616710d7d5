/- The law BlockTorn, called with any heads, texts and choice of sectors, returns true, and changes nothing that was there. -/
import Derived.Test.YtcefoeaakdemmaaDoorBkArgs
namespace Go.Proofs.YtcefoeaakdemmaaDoor
set_option maxRecDepth 20000
open Go.RowKit

/-- Under a vault that has sealed two blocks just these open. -/
theorem torn_opens {g h : Hd} {s t : ByteArray} (eg : g.err = 0) (eh : h.err = 0) (hs : s.size = 448) (ht : t.size = 448) (z : ByteArray) :
    bopenE ⟨[], [], addN [g.four s] (h.four t)⟩ z = 0 ↔ z = blkS g s 1 ∨ z = blkS h t (numOf (addN [g.four s] (h.four t)) (h.four t)) := by
  have hl : (VS.mk [] [] (addN [g.four s] (h.four t))).seals.length ≤ 1000000 := by
    have := addN_length [g.four s] (h.four t)
    show (addN [g.four s] (h.four t)).length ≤ _
    simp at this
    omega
  have h1 : numOf [g.four s] (g.four s) = 1 := by simp [numOf]
  have k1 : numOf (addN [g.four s] (h.four t)) (g.four s) = 1 := by rw [numOf_add_keeps _ (by rw [h1]; omega), h1]
  rw [bopen_iff _ _ hl]
  constructor
  · rintro ⟨h', s', e', hs', hn, rfl⟩
    have hn' : numOf (addN [g.four s] (h.four t)) (h'.four s') ≠ 0 := hn
    by_cases e1 : g.four s = h'.four s'
    · obtain ⟨rfl, rfl⟩ := four_inj eg e' e1
      left
      show blkS g s (numOf (addN [g.four s] (h.four t)) (g.four s)) = _
      rw [k1]
    · by_cases e2 : h.four t = h'.four s'
      · obtain ⟨rfl, rfl⟩ := four_inj eh e' e2
        right
        rfl
      · exfalso
        apply hn'
        rw [numOf_add_other e2]
        simp [numOf, e1]
  · rintro (rfl | rfl)
    · exact ⟨g, s, eg, hs, by show numOf (addN [g.four s] (h.four t)) (g.four s) ≠ 0; rw [k1]; omega, by show _ = blkS g s (numOf (addN [g.four s] (h.four t)) (g.four s)); rw [k1]⟩
    · exact ⟨h, t, eh, ht, numOf_add_pos _ _, rfl⟩

set_option maxRecDepth 100000 in
set_option maxHeartbeats 4000000 in
theorem walk_blockTorn (h : Hd) (g : Hd) (s t : ByteArray) (v4 : Value) (l : List Bool) (w : World) (hl : List1 Value.bool w v4 l) :
    Calls Tryd.prog 4 #[.agg #[.int .i64 h.v0, .int .i64 h.v1, .int .i64 h.v2, .int .i64 h.v3, .int .i64 h.v4, .int .i64 h.v5, .int .i64 h.v6, .int .i64 h.v7], .agg #[.int .i64 g.v0, .int .i64 g.v1, .int .i64 g.v2, .int .i64 g.v3, .int .i64 g.v4, .int .i64 g.v5, .int .i64 g.v6, .int .i64 g.v7], .string s, .string t, v4] w fun e w' => e = .returned (.bool true) ∧ Below w.heap.size w w' := by
  obtain ⟨oa, ca, rfl⟩ := hl.form
  have HL : Hid (∀ j, j < l.length → ∃ g o, oa = some ⟨g, o, none⟩ ∧ g < w.heap.size ∧ w.cell? ⟨g, o + j, none⟩ = some (.bool (l.getD j false))) := fun j hj => by
    obtain ⟨g, o, e, hg, hx⟩ := hl.get hj
    exact ⟨g, o, e, hg, hx j _ (by rw [List.getD_eq_getElem?_getD, List.getElem?_eq_getElem hj]; rfl)⟩
  clear hl
  have hbd := fun w => body_any s w
  have hbe := fun w => body_any t w
  have hsz := bodyS_size s
  have htz := bodyS_size t
  generalize bodyS s = b at *
  generalize bodyS t = c at *
  obtain ⟨W0, hW0⟩ : ∃ W0, (w.alloc (.cells #[.int .i64 h.v0, .int .i64 h.v1, .int .i64 h.v2, .int .i64 h.v3, .int .i64 h.v4, .int .i64 h.v5, .int .i64 h.v6, .int .i64 h.v7] 23)).alloc (.cells #[.int .i64 g.v0, .int .i64 g.v1, .int .i64 g.v2, .int .i64 g.v3, .int .i64 g.v4, .int .i64 g.v5, .int .i64 g.v6, .int .i64 g.v7] 23) = W0 := ⟨_, rfl⟩
  have t0 : TwoH W0 w.heap.size h g := by rw [← hW0]; exact TwoH.new w h g
  have hB0 : Below w.heap.size w W0 := by rw [← hW0]; exact ((Below.refl _ _).alloc (Nat.le_refl _) _).alloc (by simp) _
  have hN0 : w.heap.size + 2 = W0.heap.size := by rw [← hW0]; simp
  have hlP : (bsealP newV h b).seals.length ≤ 1 := by
    unfold bsealP
    split
    · have := addN_length newV.seals (h.four b)
      exact this
    · exact Nat.zero_le _
  have hs1 := fun B F w (hp : Ideal w F B newV) => bseal_any B F newV h b (by decide) w hp
  have hs2 := fun B F w (hp : Ideal w F B (bsealP newV h b)) => bseal_any B F (bsealP newV h b) g c (by omega) w hp
  simp only [Hd.arr] at hs1 hs2
  have HB0 : Hid (Below w.heap.size w W0) := hB0
  have HE1 : Hid (bsealE h b = h.err ∧ bsealE g c = g.err) := ⟨by simp [bsealE, hsz], by simp [bsealE, htz]⟩
  have HE2 : Hid (h.err = 0 → g.err = 0 → bsealS newV h b = blkS h b 1 ∧ bsealS (bsealP newV h b) g c = blkS g c (numOf (addN [h.four b] (g.four c)) (g.four c)) ∧ bsealP (bsealP newV h b) g c = ⟨[], [], addN [h.four b] (g.four c)⟩) := fun e f => by
    have hB : bsealB g c = true := by simp [bsealB, htz, f]
    obtain ⟨q1, _, q3⟩ := new_seal h b e hsz
    rw [q3]
    exact ⟨q1, by unfold bsealS; rw [hB]; rfl, by unfold bsealP; rw [hB]; rfl⟩
  generalize bsealE h b = E1 at *
  generalize bsealE g c = E2 at *
  generalize bsealS newV h b = T1 at *
  generalize bsealS (bsealP newV h b) g c = T2 at *
  generalize bsealP (bsealP newV h b) g c = S2 at *
  generalize bsealP newV h b = S1 at *
  clear hB0 hlP
  go_enter Tryd.func4, Tryd.ntmps4
  go_wp2_with fail
  try rw [hW0]
  refine (ideal_any W0).mono ?_
  rintro e w1 ⟨B, rfl, hp, hb⟩
  clear hW0
  have t1 : TwoH w1 w.heap.size h g := t0.keep fun i hi => hb.block i (by omega)
  have HB1 : Hid (Below w.heap.size w w1) := HB0.out.trans (hb.mono (by omega))
  have hz1 := hb.size
  clear t0 HB0 hb
  obtain ⟨c0, c1, c2, c3, c4, c5, c6, c7⟩ := hd_cells t1.1
  go_wp2_with fail
  go_region_held3 (fun w' => w'.cell? ⟨w.heap.size, 0, none⟩ = some (.int .i64 h.v0) ∧ w'.cell? ⟨w.heap.size, 1, none⟩ = some (.int .i64 h.v1) ∧ w'.cell? ⟨w.heap.size, 2, none⟩ = some (.int .i64 h.v2) ∧ w'.cell? ⟨w.heap.size, 3, none⟩ = some (.int .i64 h.v3) ∧ w'.cell? ⟨w.heap.size, 4, none⟩ = some (.int .i64 h.v4) ∧ w'.cell? ⟨w.heap.size, 5, none⟩ = some (.int .i64 h.v5) ∧ w'.cell? ⟨w.heap.size, 6, none⟩ = some (.int .i64 h.v6) ∧ w'.cell? ⟨w.heap.size, 7, none⟩ = some (.int .i64 h.v7)) (simp [go_sem, *])
    (first | (go_at_call 8; refine (hbd _).mono ?_; rintro e wA ⟨rfl, hbA⟩; have hBA : Below w1.heap.size w1 wA := (Below.refl _ _).drew.trans hbA; have hkA : ∀ i, wA.cell? ⟨w.heap.size, i, none⟩ = w1.cell? ⟨w.heap.size, i, none⟩ := cell_kept_ (hBA.block _ (by omega))) | (go_at_call 7; refine (hs1 B _ _ (hp.below hBA)).mono ?_; rintro e wB ⟨rfl, hpB, htB⟩; have hblB : ∀ k, k < W0.heap.size → wB.heap[k]? = w1.heap[k]? := fun k hk => (htB.2 k (by have := hBA.size; omega) (fun hF => absurd hF.1 (by omega))).trans (hBA.block k (by omega)); have hkB : ∀ i, wB.cell? ⟨w.heap.size, i, none⟩ = w1.cell? ⟨w.heap.size, i, none⟩ := cell_kept_ (hblB _ (by omega))))
  have t2 : TwoH wB w.heap.size h g := t1.keep fun i hi => hblB i (by omega)
  have hz2 : w1.heap.size ≤ wB.heap.size := Nat.le_trans hBA.size htB.size
  have HB2 : Hid (Below w.heap.size w wB) := HB1.out.trans ⟨htB.1.os.trans hBA.os, htB.1.tape.trans hBA.tape, htB.1.output.trans hBA.output, hz2, fun k hk => hblB k (by omega)⟩
  clear hkA hkB hblB htB hBA hbA c0 c1 c2 c3 c4 c5 c6 c7 t1 HB1 hp hs1 hbd
  obtain ⟨c0, c1, c2, c3, c4, c5, c6, c7⟩ := hd_cells t2.2
  go_wp2_with fail
  go_region_held3 (fun w' => w'.cell? ⟨(w.heap.size + 1), 0, none⟩ = some (.int .i64 g.v0) ∧ w'.cell? ⟨(w.heap.size + 1), 1, none⟩ = some (.int .i64 g.v1) ∧ w'.cell? ⟨(w.heap.size + 1), 2, none⟩ = some (.int .i64 g.v2) ∧ w'.cell? ⟨(w.heap.size + 1), 3, none⟩ = some (.int .i64 g.v3) ∧ w'.cell? ⟨(w.heap.size + 1), 4, none⟩ = some (.int .i64 g.v4) ∧ w'.cell? ⟨(w.heap.size + 1), 5, none⟩ = some (.int .i64 g.v5) ∧ w'.cell? ⟨(w.heap.size + 1), 6, none⟩ = some (.int .i64 g.v6) ∧ w'.cell? ⟨(w.heap.size + 1), 7, none⟩ = some (.int .i64 g.v7)) (simp [go_sem, *])
    (first | (go_at_call 8; refine (hbe _).mono ?_; rintro e wD ⟨rfl, hbD⟩; have hBD : Below wB.heap.size wB wD := (Below.refl _ _).drew.trans hbD; have hkD : ∀ i, wD.cell? ⟨w.heap.size + 1, i, none⟩ = wB.cell? ⟨w.heap.size + 1, i, none⟩ := cell_kept_ (hBD.block _ (by omega))) | (go_at_call 7; refine (hs2 B _ _ (hpB.below hBD)).mono ?_; rintro e wE ⟨rfl, hpE, htE⟩; have hblE : ∀ k, k < W0.heap.size → wE.heap[k]? = wB.heap[k]? := fun k hk => (htE.2 k (by have := hBD.size; omega) (fun hF => absurd hF.1 (by omega))).trans (hBD.block k (by omega)); have hkE : ∀ i, wE.cell? ⟨w.heap.size + 1, i, none⟩ = wB.cell? ⟨w.heap.size + 1, i, none⟩ := cell_kept_ (hblE _ (by omega))))
  have hz3 : wB.heap.size ≤ wE.heap.size := Nat.le_trans hBD.size htE.size
  have HB3 : Hid (Below w.heap.size w wE) := HB2.out.trans ⟨htE.1.os.trans hBD.os, htE.1.tape.trans hBD.tape, htE.1.output.trans hBD.output, hz3, fun k hk => hblE k (by omega)⟩
  have HP3 : Hid (Ideal wE (fun k => W0.heap.size ≤ k ∧ k < w1.heap.size) B S2) := hpE
  clear hkD hkE hblE htE hBD hbD hpE HB2 hpB t2 c0 c1 c2 c3 c4 c5 c6 c7 hs2 hbe
  by_cases e1 : h.err = 0
  case neg =>
    have n1 : (E1 != 0) = true := by rw [HE1.out.1]; exact bne_iff_ne.2 e1
    clear HE1 HE2 HP3
    go_wp2_with fail
    refine (awake_any _).mono ?_
    rintro e wz ⟨rfl, hk⟩
    have HF : Hid (Below w.heap.size w wz) := HB3.out.trans (hk.mono HB3.out.size)
    clear hk HB3
    go_wp2
    go_ret
    exact ⟨rfl, HF.out⟩
  by_cases e2 : g.err = 0
  case neg =>
    obtain rfl : E1 = 0 := HE1.out.1.trans e1
    have n1 : (E2 != 0) = true := by rw [HE1.out.2]; exact bne_iff_ne.2 e2
    clear HE1 HE2 HP3
    go_wp2_with fail
    refine (awake_any _).mono ?_
    rintro e wz ⟨rfl, hk⟩
    have HF : Hid (Below w.heap.size w wz) := HB3.out.trans (hk.mono HB3.out.size)
    clear hk HB3
    go_wp2
    go_ret
    exact ⟨rfl, HF.out⟩
  obtain rfl : E1 = 0 := HE1.out.1.trans e1
  obtain rfl : E2 = 0 := HE1.out.2.trans e2
  obtain ⟨hT1, hT2, hS2⟩ := HE2.out e1 e2
  have hnn : numOf (addN [h.four b] (g.four c)) (g.four c) < 281474976710656 := by
    have q1 := numOf_le (g.four c) (addN [h.four b] (g.four c))
    have q2 := addN_length [h.four b] (g.four c)
    simp at q2
    omega
  have z1 : T1.size = 512 := by rw [hT1]; exact blk_size e1 hsz (by decide)
  have z2 : T2.size = 512 := by rw [hT2]; exact blk_size e2 htz hnn
  have z1' : (T1.size : Int) = 512 := by omega
  have z2' : (T2.size : Int) = 512 := by omega
  have HT : Hid (∀ z, bopenE S2 z = 0 ↔ z = T1 ∨ z = T2) := fun z => by rw [hS2, hT1, hT2]; exact torn_opens e1 e2 hsz htz z
  have HS : Hid (S2.seals.length ≤ 1000000) := by
    have := addN_length [h.four b] (g.four c)
    rw [hS2]
    show (addN [h.four b] (g.four c)).length ≤ _
    simp at this
    omega
  clear HE1 HE2 hT1 hT2 hS2 hnn hsz htz e1 e2
  go_wp2_with fail
  go_loopw [16, 17] (fun v i wr => ∃ (j : Nat) (z : ByteArray), j ≤ 8 ∧ v = .string z ∧ i = .int .i64 j ∧ z.size = 64 * j ∧ wr = wE) (fun _ i _ => 8 - (intOf i).toNat)
  case atStart => exact ⟨0, ⟨#[]⟩, by omega, rfl, rfl, rfl, rfl⟩
  case round =>
    obtain ⟨j, z, hj, rfl, rfl, hz, rfl⟩ := hrel
    by_cases hlt : j < 8
    · have j1 : (j : Int) < 8 := by omega
      have a0 : (0 : Int) ≤ 64 * (j : Int) := by omega
      have a1 : (64 : Int) * j + 64 ≤ 512 := by omega
      have a2 : (64 : Int) * j ≤ 64 * j + 64 := by omega
      obtain ⟨p, hp⟩ : ∃ p : Nat, p = 64 * j := ⟨_, rfl⟩
      have p1 : (64 : Int) * (j : Int) = (p : Nat) := by omega
      obtain ⟨r, hr⟩ : ∃ r : Nat, r = p + 64 := ⟨_, rfl⟩
      have x1 : (T1.extract p r).size = 64 := by simp [z1]; omega
      have x2 : (T2.extract p r).size = 64 := by simp [z2]; omega
      have hadd1 : ∀ w', (Op.stringOp .add z (T1.extract p r)).run Tryd.prog w' = .ok (.string (z ++ T1.extract p r)) w' := fun w' => run_string_add_sum (P := Tryd.prog) (w := w') _ _ (by omega)
      have hadd2 : ∀ w', (Op.stringOp .add z (T2.extract p r)).run Tryd.prog w' = .ok (.string (z ++ T2.extract p r)) w' := fun w' => run_string_add_sum (P := Tryd.prog) (w := w') _ _ (by omega)
      by_cases hk : j < l.length
      · have j2 : (j : Int) < (l.length : Nat) := by omega
        obtain ⟨q, o, rfl, hq, hc⟩ := HL.out j hk
        have hc' : wr.cell? ⟨q, o + j, none⟩ = some (.bool (l.getD j false)) := (HB3.out.cell (p := ⟨q, o + j, none⟩) hq).trans hc
        clear hc
        generalize l.getD j false = kb at *
        clear a0 a1 a2
        clear p1
        have m1 : IntKind.i64.wrap (64 * (j : Int)) = (p : Nat) := by rw [IntKind.wrap_i64]; omega
        have m2 : IntKind.i64.wrap ((p : Nat) + 64 : Int) = ((r : Nat) : Int) := by rw [IntKind.wrap_i64]; omega
        have m3 : ((p : Nat) : Int) + 64 = ((r : Nat) : Int) := by omega
        have b0 : (0 : Int) ≤ (p : Nat) := by omega
        have b1 : ((r : Nat) : Int) ≤ 512 := by omega
        have b2 : ((p : Nat) : Int) ≤ (r : Nat) := by omega
        cases kb
        · go_wp2
          go_roundw
          case rel => exact ⟨j + 1, z ++ T1.extract p r, by omega, by rw [hr, hp], by go_num, by rw [ByteArray.size_append, x1]; omega, trivial⟩
          case measure => simp [intOf]; omega
        · go_wp2
          go_roundw
          case rel => exact ⟨j + 1, z ++ T2.extract p r, by omega, by rw [hr, hp], by go_num, by rw [ByteArray.size_append, x2]; omega, trivial⟩
          case measure => simp [intOf]; omega
      · have j2 : ¬ (j : Int) < (l.length : Nat) := by omega
        clear a0 a1 a2
        clear p1
        have m1 : IntKind.i64.wrap (64 * (j : Int)) = (p : Nat) := by rw [IntKind.wrap_i64]; omega
        have m2 : IntKind.i64.wrap ((p : Nat) + 64 : Int) = ((r : Nat) : Int) := by rw [IntKind.wrap_i64]; omega
        have m3 : ((p : Nat) : Int) + 64 = ((r : Nat) : Int) := by omega
        have b0 : (0 : Int) ≤ (p : Nat) := by omega
        have b1 : ((r : Nat) : Int) ≤ 512 := by omega
        have b2 : ((p : Nat) : Int) ≤ (r : Nat) := by omega
        go_wp2
        go_roundw
        case rel => exact ⟨j + 1, z ++ T1.extract p r, by omega, by rw [hr, hp], by go_num, by rw [ByteArray.size_append, x1]; omega, trivial⟩
        case measure => simp [intOf]; omega
    · obtain rfl : j = 8 := by omega
      have ho := bopen_any B _ S2 z HS.out wr HP3.out
      have hway := HT.out z
      simp only [Hd.arr] at ho
      generalize bopenE S2 z = E at *
      generalize bopenH S2 z = k at *
      generalize bopenS S2 z = u at *
      clear HS HT HP3 HL
      go_wp2_with fail
      refine ho.mono ?_
      rintro e w4 ⟨rfl, hb4⟩
      have HB4 : Hid (Below w.heap.size w w4) := HB3.out.trans (hb4.mono HB3.out.size)
      have HB5 : Hid (Below w.heap.size w (w4.alloc (.cells #[.int .i64 k.v0, .int .i64 k.v1, .int .i64 k.v2, .int .i64 k.v3, .int .i64 k.v4, .int .i64 k.v5, .int .i64 k.v6, .int .i64 k.v7] 23))) := HB4.out.alloc HB4.out.size _
      clear ho hb4 HB3 HB4
      have hcs : (E = 0 ∧ z = T1) ∨ (E = 0 ∧ ¬ z = T1 ∧ z = T2) ∨ (¬ E = 0 ∧ ¬ z = T1 ∧ ¬ z = T2) := by
        by_cases q1 : z = T1
        · exact .inl ⟨hway.2 (.inl q1), q1⟩
        · by_cases q2 : z = T2
          · exact .inr (.inl ⟨hway.2 (.inr q2), q1, q2⟩)
          · exact .inr (.inr ⟨fun h => (hway.1 h).elim q1 q2, q1, q2⟩)
      clear hway
      obtain ⟨w5, hw5⟩ : ∃ w5, w4.alloc (.cells #[.int .i64 k.v0, .int .i64 k.v1, .int .i64 k.v2, .int .i64 k.v3, .int .i64 k.v4, .int .i64 k.v5, .int .i64 k.v6, .int .i64 k.v7] 23) = w5 := ⟨_, rfl⟩
      rw [hw5] at HB5
      rcases hcs with ⟨rfl, rfl⟩ | ⟨rfl, q1, rfl⟩ | ⟨q0, q1, q2⟩
      case' inr.inl => have n1 := str_ne q1
      case' inr.inr =>
        have n0 : (E == 0) = false := beq_false_of_ne q0
        have n1 := str_ne q1
        have n2 := str_ne q2
      all_goals
        go_wp2_with fail
        try rw [hw5]
        refine (awake_any _).mono ?_
        rintro e wz ⟨rfl, hk⟩
        have HF : Hid (Below w.heap.size w wz) := HB5.out.trans (hk.mono HB5.out.size)
        clear hk HB5
        go_wp2
        go_ret
        exact ⟨rfl, HF.out⟩
end Go.Proofs.YtcefoeaakdemmaaDoor
