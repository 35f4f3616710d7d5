/- The document's block. -/
import Derived.Test.YtldkdoddklfdlaaGreatDoorMg36
namespace Go.Proofs.YtldkdoddklfdlaaGreatDoor.Bx
set_option maxRecDepth 20000
open Go.RowKit

theorem Words.rq {L : List Nat} (h : Words L) (a b c d : Nat) : Words (rq L a b c d) := (((((((((h.rq1 a b).rq2 16 d a).rq1 c d).rq2 12 b c).rq1 a b).rq2 8 d a).rq1 c d).rq2 7 b c))
theorem rq_0 (x0 x1 x2 x3 x4 x5 x6 x7 x8 x9 x10 x11 x12 x13 x14 x15 : Nat) : rq [x0, x1, x2, x3, x4, x5, x6, x7, x8, x9, x10, x11, x12, x13, x14, x15] 0 4 8 12 = [qA x0 x4 x8 x12, x1, x2, x3, qB x0 x4 x8 x12, x5, x6, x7, qC x0 x4 x8 x12, x9, x10, x11, qD x0 x4 x8 x12, x13, x14, x15] := by
  simp only [rq, rq1, rq2, List.set_cons_zero, List.set_cons_succ, List.getD_cons_zero, List.getD_cons_succ]
  rfl
theorem rq_1 (x0 x1 x2 x3 x4 x5 x6 x7 x8 x9 x10 x11 x12 x13 x14 x15 : Nat) : rq [x0, x1, x2, x3, x4, x5, x6, x7, x8, x9, x10, x11, x12, x13, x14, x15] 1 5 9 13 = [x0, qA x1 x5 x9 x13, x2, x3, x4, qB x1 x5 x9 x13, x6, x7, x8, qC x1 x5 x9 x13, x10, x11, x12, qD x1 x5 x9 x13, x14, x15] := by
  simp only [rq, rq1, rq2, List.set_cons_zero, List.set_cons_succ, List.getD_cons_zero, List.getD_cons_succ]
  rfl
theorem rq_2 (x0 x1 x2 x3 x4 x5 x6 x7 x8 x9 x10 x11 x12 x13 x14 x15 : Nat) : rq [x0, x1, x2, x3, x4, x5, x6, x7, x8, x9, x10, x11, x12, x13, x14, x15] 2 6 10 14 = [x0, x1, qA x2 x6 x10 x14, x3, x4, x5, qB x2 x6 x10 x14, x7, x8, x9, qC x2 x6 x10 x14, x11, x12, x13, qD x2 x6 x10 x14, x15] := by
  simp only [rq, rq1, rq2, List.set_cons_zero, List.set_cons_succ, List.getD_cons_zero, List.getD_cons_succ]
  rfl
theorem rq_3 (x0 x1 x2 x3 x4 x5 x6 x7 x8 x9 x10 x11 x12 x13 x14 x15 : Nat) : rq [x0, x1, x2, x3, x4, x5, x6, x7, x8, x9, x10, x11, x12, x13, x14, x15] 3 7 11 15 = [x0, x1, x2, qA x3 x7 x11 x15, x4, x5, x6, qB x3 x7 x11 x15, x8, x9, x10, qC x3 x7 x11 x15, x12, x13, x14, qD x3 x7 x11 x15] := by
  simp only [rq, rq1, rq2, List.set_cons_zero, List.set_cons_succ, List.getD_cons_zero, List.getD_cons_succ]
  rfl
theorem rq_4 (x0 x1 x2 x3 x4 x5 x6 x7 x8 x9 x10 x11 x12 x13 x14 x15 : Nat) : rq [x0, x1, x2, x3, x4, x5, x6, x7, x8, x9, x10, x11, x12, x13, x14, x15] 0 5 10 15 = [qA x0 x5 x10 x15, x1, x2, x3, x4, qB x0 x5 x10 x15, x6, x7, x8, x9, qC x0 x5 x10 x15, x11, x12, x13, x14, qD x0 x5 x10 x15] := by
  simp only [rq, rq1, rq2, List.set_cons_zero, List.set_cons_succ, List.getD_cons_zero, List.getD_cons_succ]
  rfl
theorem rq_5 (x0 x1 x2 x3 x4 x5 x6 x7 x8 x9 x10 x11 x12 x13 x14 x15 : Nat) : rq [x0, x1, x2, x3, x4, x5, x6, x7, x8, x9, x10, x11, x12, x13, x14, x15] 1 6 11 12 = [x0, qA x1 x6 x11 x12, x2, x3, x4, x5, qB x1 x6 x11 x12, x7, x8, x9, x10, qC x1 x6 x11 x12, qD x1 x6 x11 x12, x13, x14, x15] := by
  simp only [rq, rq1, rq2, List.set_cons_zero, List.set_cons_succ, List.getD_cons_zero, List.getD_cons_succ]
  rfl
theorem rq_6 (x0 x1 x2 x3 x4 x5 x6 x7 x8 x9 x10 x11 x12 x13 x14 x15 : Nat) : rq [x0, x1, x2, x3, x4, x5, x6, x7, x8, x9, x10, x11, x12, x13, x14, x15] 2 7 8 13 = [x0, x1, qA x2 x7 x8 x13, x3, x4, x5, x6, qB x2 x7 x8 x13, qC x2 x7 x8 x13, x9, x10, x11, x12, qD x2 x7 x8 x13, x14, x15] := by
  simp only [rq, rq1, rq2, List.set_cons_zero, List.set_cons_succ, List.getD_cons_zero, List.getD_cons_succ]
  rfl
theorem rq_7 (x0 x1 x2 x3 x4 x5 x6 x7 x8 x9 x10 x11 x12 x13 x14 x15 : Nat) : rq [x0, x1, x2, x3, x4, x5, x6, x7, x8, x9, x10, x11, x12, x13, x14, x15] 3 4 9 14 = [x0, x1, x2, qA x3 x4 x9 x14, qB x3 x4 x9 x14, x5, x6, x7, x8, qC x3 x4 x9 x14, x10, x11, x12, x13, qD x3 x4 x9 x14, x15] := by
  simp only [rq, rq1, rq2, List.set_cons_zero, List.set_cons_succ, List.getD_cons_zero, List.getD_cons_succ]
  rfl
theorem rq_round (S : S16) : rq (rq (rq (rq (rq (rq (rq (rq S.toL 0 4 8 12) 1 5 9 13) 2 6 10 14) 3 7 11 15) 0 5 10 15) 1 6 11 12) 2 7 8 13) 3 4 9 14 = S.cols.slants.toL := by
  unfold S16.toL
  rw [rq_0, rq_1, rq_2, rq_3, rq_4, rq_5, rq_6, rq_7]
  rfl
theorem mask8 (n : Nat) : n &&& 255 = n % 256 := Nat.and_two_pow_sub_one_eq_mod n 8
theorem four_one (a b c d : Nat) : ∀ u ∈ [Value.int .u8 (a : Nat), .int .u8 (b : Nat), .int .u8 (c : Nat), .int .u8 (d : Nat)], u.oneCell' = true := by
  intro u hu
  simp only [List.mem_cons, List.not_mem_nil, or_false] at hu
  rcases hu with rfl | rfl | rfl | rfl <;> rfl
theorem IntsAt.of {w : World} {base g cap : Nat} {L : List Nat} (h : OwnC w base g 16 cap (intV L)) (hl : L.length = 16) : IntsAt w g L := ⟨h.lt, fun i hi => h.cells i _ (intV_at L i (by omega)), fun i hi => h.free i (by have := h.room; omega)⟩
theorem IntsAt.news {w : World} {g : Nat} {L : List Nat} (h : IntsAt w g L) (hl : L.length = 16) : ∀ j u, (intV L)[j]? = some u → w.cell? ((⟨g, 0, none⟩ : Addr).add j) = some u := fun j u hj => by
  have hlt := (List.getElem?_eq_some_iff.1 hj).1
  rw [intV, List.length_map] at hlt
  have hadd : (⟨g, 0, none⟩ : Addr).add j = ⟨g, j, none⟩ := by unfold Addr.add; split <;> simp_all
  rw [hadd, h.cells j (by omega), ← hj, intV_at _ _ hlt]
/-- The words of the beginning and of so much of a key. -/
def sL (K : List Nat) (j : Nat) : List Nat := [0x61707865, 0x3320646e, 0x79622d32, 0x6b206574] ++ (List.range j).map fun i => wordL K (4 * i)
theorem sL_step (K : List Nat) (j : Nat) : intV (sL K (j + 1)) = intV (sL K j) ++ [.int .i64 (wordL K (4 * j) : Nat)] := by
  rw [sL, sL, List.range_succ, List.map_append, ← List.append_assoc]
  simp [intV]
theorem sL_all (K N : List Nat) (n : Nat) : intV (sL K 8) ++ [.int .i64 (n : Nat), .int .i64 (wordL N 0 : Nat), .int .i64 (wordL N 4 : Nat), .int .i64 (wordL N 8 : Nat)] = intV (st16 K N n).toL := rfl
theorem rword_z (s : ByteArray) (z : Int) (p : Nat) (hz : z = (p : Int)) (hp : p + 4 ≤ s.size) (hs : s.size ≤ 1048576) (w : World) :
    Calls Tryz.prog 155 #[.string s, .int .i64 z] w fun e w' => e = .returned (.int .i64 (wordL (numsOf s) p : Nat)) ∧ ∃ n, w' = w.drewN n := by
  subst hz
  exact rword_any s p hp hs w

set_option maxRecDepth 10000 in
set_option maxHeartbeats 4000000 in
theorem rBlock_any (key nonce : ByteArray) (hk : key.size = 32) (hn : nonce.size = 12) (n : Nat) (hnn : n < 4294967296) (w : World) :
    Calls Tryz.prog 136 #[.string key, .string nonce, .int .i64 n] w fun e w' => e = .returned (.string (strN (chaL (numsOf key) (numsOf nonce) n))) ∧ Below w.heap.size w w' := by
  obtain ⟨i0, hi, hz0, hz1, hz2⟩ := info_parts info_int
  obtain ⟨i1, hj, hy0, hy1, hy2⟩ := info_parts info_u8
  have hok := st16_ok key nonce n hnn
  have HKW : Hid (∀ j : Nat, j < 8 → ∀ w, Calls Tryz.prog 155 #[.string key, .int .i64 (4 * (j : Int))] w fun e w' => e = .returned (.int .i64 (wordL (numsOf key) (4 * j) : Nat)) ∧ ∃ n, w' = w.drewN n) := fun j hj w => rword_z key _ (4 * j) (by omega) (by omega) (by omega) w
  have hN0 := fun w => rword_z nonce 0 0 rfl (by omega) (by omega) w
  have hN4 := fun w => rword_z nonce 4 4 rfl (by omega) (by omega) w
  have hN8 := fun w => rword_z nonce 8 8 rfl (by omega) (by omega) w
  generalize numsOf key = K at *
  generalize numsOf nonce = N at *
  obtain ⟨H, hH⟩ : ∃ H, H = w.heap.size := ⟨_, rfl⟩
  have hE : OwnC (w.alloc (.cells #[.int .i64 1634760805, .int .i64 857760878, .int .i64 2036477234, .int .i64 1797285236] 3)) w.heap.size w.heap.size 4 4 (intV (sL K 0)) := OwnC.fresh w 3 (intV (sL K 0)) 4 rfl (by decide)
  have hb0 : Below w.heap.size w (w.alloc (.cells #[.int .i64 1634760805, .int .i64 857760878, .int .i64 2036477234, .int .i64 1797285236] 3)) := (Below.refl _ _).alloc (Nat.le_refl _) _
  have H0 : Hid (OwnC (w.alloc (.cells #[.int .i64 1634760805, .int .i64 857760878, .int .i64 2036477234, .int .i64 1797285236] 3)) w.heap.size w.heap.size 4 4 (intV (sL K 0)) ∧ Below w.heap.size w (w.alloc (.cells #[.int .i64 1634760805, .int .i64 857760878, .int .i64 2036477234, .int .i64 1797285236] 3))) := ⟨hE, hb0⟩
  clear hE hb0 hH
  go_enter Tryz.func136, Tryz.ntmps136
  go_wp2_with fail
  go_loopw [7, 8] (fun v i wr => ∃ j g cap : Nat, j ≤ 8 ∧ i = .int .i64 j ∧ v = .slice (some ⟨g, 0, none⟩) (4 + j) cap ∧ OwnC wr w.heap.size g (4 + j) cap (intV (sL K j)) ∧ Below w.heap.size w wr) (fun _ i _ => 8 - (intOf i).toNat)
  case atStart => exact ⟨0, w.heap.size, 4, Nat.zero_le _, rfl, rfl, H0.out.1, H0.out.2⟩
  case round =>
    clear H0
    obtain ⟨j, g, cap, hj8, rfl, rfl, hown, hb⟩ := hrel
    by_cases hlt : j < 8
    · have hW := HKW.out j hlt
      have HST : Hid (intV (sL K (j + 1)) = intV (sL K j) ++ [.int .i64 (wordL K (4 * j) : Nat)]) := sL_step K j
      have q0 : IntKind.i64.wrap (4 * (j : Int)) = 4 * j := by rw [IntKind.wrap_i64]; omega
      have HO : Hid (OwnC wr w.heap.size g (4 + j) cap (intV (sL K j)) ∧ Below w.heap.size w wr) := ⟨hown, hb⟩
      clear HKW hN0 hN4 hN8 hown hb hok
      generalize wordL K (4 * j) = W at *
      go_wp2_with fail
      refine (hW _).mono ?_
      rintro e w1 ⟨rfl, k, rfl⟩
      have hown := HO.out.1.drewN k
      have hb := below_drewN HO.out.2 k
      clear hW HO
      generalize wr.drewN k = w1 at *
      go_wp2_with (at_builtin; refine wpList_appendC _ rfl _ _ 67 rfl w.heap.size 3 i0 (.int .i64 0) 8 Tryz.underlying67 hi hz0 hz1 hz2 rfl g (4 + j) cap (intV (sL K j)) rfl (hown.alloc _) ⟨w1.heap.size, 0, none⟩ 1 1 [.int .i64 (W : Nat)] rfl rfl (World.news_of_block (heap_alloc_new _ _)) ?c2 ?c3 ?c4 ?c5 ?_)
      case c2 => intro u hu; rw [List.mem_singleton] at hu; rw [hu]; rfl
      case c3 => unfold maxLen; omega
      case c4 => omega
      case c5 => have := hb.size; simp; omega
      intro g2 cap2 w2 hown2 hgrow2 _
      have hlow := hown.low
      have hb2 : Below w.heap.size w w2 := (hb.alloc hb.size _).grown hgrow2 (by have := hb.size; simp; omega) (fun x hx => by obtain rfl : g = x := (by simpa using hx); exact hlow)
      rw [← HST.out] at hown2
      clear hown hgrow2 hb
      go_wp2
      go_roundw
      case rel => exact ⟨j + 1, g2, cap2, by omega, by go_num, rfl, hown2, hb2⟩
      case measure => simp [intOf]; omega
    · obtain rfl : j = 8 := by omega
      rw [show ((8 : Nat) : Int) = 8 from rfl]
      have HO : Hid (OwnC wr w.heap.size g 12 cap (intV (sL K 8)) ∧ Below w.heap.size w wr) := ⟨hown, hb⟩
      have HST : Hid (intV (sL K 8) ++ [.int .i64 (n : Nat), .int .i64 (wordL N 0 : Nat), .int .i64 (wordL N 4 : Nat), .int .i64 (wordL N 8 : Nat)] = intV (st16 K N n).toL) := sL_all K N n
      clear hown hb HKW
      have HOK : Hid (st16 K N n).ok := hok
      clear hok
      have HCH : Hid (chaL K N n = blkL (st16 K N n)) := rfl
      generalize wordL N 0 = n0 at *
      generalize wordL N 4 = n4 at *
      generalize wordL N 8 = n8 at *
      generalize hSS : st16 K N n = S at *
      clear hSS
      go_wp2_with fail
      refine (hN0 _).mono ?_
      rintro e w' ⟨rfl, k0, rfl⟩
      obtain ⟨va, hva⟩ : ∃ v, v = wr.drewN k0 := ⟨_, rfl⟩
      have HO0 : Hid (OwnC va w.heap.size g 12 cap (intV (sL K 8)) ∧ Below w.heap.size w va) := by rw [hva]; exact ⟨HO.out.1.drewN k0, below_drewN HO.out.2 k0⟩
      rw [← hva]
      clear hva HO hN0
      go_wp2_with fail
      refine (hN4 _).mono ?_
      rintro e w' ⟨rfl, k1, rfl⟩
      obtain ⟨vb, hvb⟩ : ∃ v, v = va.drewN k1 := ⟨_, rfl⟩
      have HO1 : Hid (OwnC vb w.heap.size g 12 cap (intV (sL K 8)) ∧ Below w.heap.size w vb) := by rw [hvb]; exact ⟨HO0.out.1.drewN k1, below_drewN HO0.out.2 k1⟩
      rw [← hvb]
      clear hvb HO0 hN4
      go_wp2_with fail
      refine (hN8 _).mono ?_
      rintro e w' ⟨rfl, k2, rfl⟩
      obtain ⟨w1, hw1⟩ : ∃ v, v = vb.drewN k2 := ⟨_, rfl⟩
      have HO2 : Hid (OwnC w1 w.heap.size g 12 cap (intV (sL K 8)) ∧ Below w.heap.size w w1) := by rw [hw1]; exact ⟨HO1.out.1.drewN k2, below_drewN HO1.out.2 k2⟩
      rw [← hw1]
      clear hw1 HO1 hN8
      have hown := HO2.out.1
      have hb := HO2.out.2
      clear HO2
      go_wp2_with (at_builtin; refine wpList_appendC _ rfl _ _ 67 rfl w.heap.size 3 i0 (.int .i64 0) 8 Tryz.underlying67 hi hz0 hz1 hz2 rfl g 12 cap (intV (sL K 8)) rfl (hown.alloc _) ⟨w1.heap.size, 0, none⟩ 4 4 [.int .i64 (n : Nat), .int .i64 (n0 : Nat), .int .i64 (n4 : Nat), .int .i64 (n8 : Nat)] rfl rfl (World.news_of_block (heap_alloc_new _ _)) ?c2 ?c3 ?c4 ?c5 ?_)
      case c2 => exact intV_one [n, n0, n4, n8]
      case c3 => decide
      case c4 => decide
      case c5 => have := hb.size; simp; omega
      intro gs cs w2 hown2 hgrow2 _
      have hlow := hown.low
      have hb2 : Below w.heap.size w w2 := (hb.alloc hb.size _).grown hgrow2 (by have := hb.size; simp; omega) (fun x hx => by obtain rfl : g = x := (by simpa using hx); exact hlow)
      rw [HST.out] at hown2
      have hs2 : IntsAt w2 gs S.toL := IntsAt.of hown2 rfl
      have hE : OwnC (w2.alloc (.cells #[] 3)) w2.heap.size w2.heap.size 0 0 [] := ⟨rfl, Nat.le_refl _, by simp, Nat.le_refl _, by decide, fun i hi => absurd hi (Nat.not_lt_zero _), fun i hi => absurd hi (Nat.not_lt_zero _), fun i u h => by simp at h⟩
      have hbE : Below w2.heap.size w2 (w2.alloc (.cells #[] 3)) := (Below.refl _ _).alloc (Nat.le_refl _) _
      have hnews := (hs2.below hbE hs2.lt).news rfl
      clear hown hgrow2 hb hown2 HST
      go_wp2_with (at_builtin; refine wpList_appendC _ rfl _ _ 67 rfl w2.heap.size 3 i0 (.int .i64 0) 8 Tryz.underlying67 hi hz0 hz1 hz2 rfl w2.heap.size 0 0 [] rfl hE ⟨gs, 0, none⟩ 16 cs (intV S.toL) rfl rfl hnews ?c2 ?c3 ?c4 ?c5 ?_)
      case c2 => exact intV_one _
      case c3 => decide
      case c4 => decide
      case c5 => simp
      intro gx cx w3 hown3 hgrow3 _
      have hb3 : Below w2.heap.size w2 w3 := hbE.grown hgrow3 (by simp) (fun k hk => by obtain rfl : w2.heap.size = k := (by simpa using hk); exact Nat.le_refl _)
      have hx3 : IntsAt w3 gx S.toL := IntsAt.of hown3 rfl
      have HX : Hid (IntsAt w3 gx S.toL ∧ Below w2.heap.size w2 w3) := ⟨hx3, hb3⟩
      have HS2 : Hid (IntsAt w2 gs S.toL ∧ Below w.heap.size w w2) := ⟨hs2, hb2⟩
      clear hown3 hgrow3 hE hbE hnews hx3 hb3 hs2 hb2
      go_wp2_with fail
      go_loopw [9, 10] (fun x i wx => ∃ j gx cx : Nat, j ≤ 10 ∧ i = .int .i64 j ∧ x = .slice (some ⟨gx, 0, none⟩) 16 cx ∧ IntsAt wx gx (S.rounds j).toL ∧ Below w2.heap.size w2 wx) (fun _ i _ => 10 - (intOf i).toNat)
      case atStart => exact ⟨0, gx, cx, Nat.zero_le _, rfl, rfl, HX.out.1, HX.out.2⟩
      case round =>
        clear HX
        obtain ⟨j, g0, c0, hj10, rfl, rfl, hx0, hb0⟩ := hrel
        by_cases hlt : j < 10
        · have hw0 : Words (S.rounds j).toL := S16.rounds_ok HOK.out j
          have hl0 : (S.rounds j).toL.length = 16 := rfl
          obtain ⟨L0, hL0⟩ : ∃ L, L = (S.rounds j).toL := ⟨_, rfl⟩
          rw [← hL0] at hx0 hw0 hl0
          have HL0 : Hid (L0 = (S.rounds j).toL) := hL0
          clear hL0
          generalize hv0 : wr = v0 at *
          clear hv0
          go_wp2_with fail
          refine (rquarter_any L0 hl0 hw0 0 4 8 12 (by decide) (by decide) (by decide) (by decide) g0 c0 v0 hx0).mono ?_
          rintro e v1 ⟨g1, c1, rfl, hx1, hlo1, hbq1⟩
          have hb1 := hb0.trans (hbq1.mono hb0.size)
          obtain ⟨L1, hL1⟩ : ∃ L, L = rq L0 0 4 8 12 := ⟨_, rfl⟩
          rw [← hL1] at hx1
          have hl1 : L1.length = 16 := by rw [hL1, rq_length]; exact hl0
          have hw1 : Words L1 := by rw [hL1]; exact hw0.rq _ _ _ _
          have HL1 : Hid (L1 = rq L0 0 4 8 12) := hL1
          clear hL1 hx0 hlo1 hbq1 hb0 hl0 hw0
          go_wp2_with fail
          refine (rquarter_any L1 hl1 hw1 1 5 9 13 (by decide) (by decide) (by decide) (by decide) g1 c1 v1 hx1).mono ?_
          rintro e v2 ⟨g2, c2, rfl, hx2, hlo2, hbq2⟩
          have hb2 := hb1.trans (hbq2.mono hb1.size)
          obtain ⟨L2, hL2⟩ : ∃ L, L = rq L1 1 5 9 13 := ⟨_, rfl⟩
          rw [← hL2] at hx2
          have hl2 : L2.length = 16 := by rw [hL2, rq_length]; exact hl1
          have hw2 : Words L2 := by rw [hL2]; exact hw1.rq _ _ _ _
          have HL2 : Hid (L2 = rq L1 1 5 9 13) := hL2
          clear hL2 hx1 hlo2 hbq2 hb1 hl1 hw1
          go_wp2_with fail
          refine (rquarter_any L2 hl2 hw2 2 6 10 14 (by decide) (by decide) (by decide) (by decide) g2 c2 v2 hx2).mono ?_
          rintro e v3 ⟨g3, c3, rfl, hx3, hlo3, hbq3⟩
          have hb3 := hb2.trans (hbq3.mono hb2.size)
          obtain ⟨L3, hL3⟩ : ∃ L, L = rq L2 2 6 10 14 := ⟨_, rfl⟩
          rw [← hL3] at hx3
          have hl3 : L3.length = 16 := by rw [hL3, rq_length]; exact hl2
          have hw3 : Words L3 := by rw [hL3]; exact hw2.rq _ _ _ _
          have HL3 : Hid (L3 = rq L2 2 6 10 14) := hL3
          clear hL3 hx2 hlo3 hbq3 hb2 hl2 hw2
          go_wp2_with fail
          refine (rquarter_any L3 hl3 hw3 3 7 11 15 (by decide) (by decide) (by decide) (by decide) g3 c3 v3 hx3).mono ?_
          rintro e v4 ⟨g4, c4, rfl, hx4, hlo4, hbq4⟩
          have hb4 := hb3.trans (hbq4.mono hb3.size)
          obtain ⟨L4, hL4⟩ : ∃ L, L = rq L3 3 7 11 15 := ⟨_, rfl⟩
          rw [← hL4] at hx4
          have hl4 : L4.length = 16 := by rw [hL4, rq_length]; exact hl3
          have hw4 : Words L4 := by rw [hL4]; exact hw3.rq _ _ _ _
          have HL4 : Hid (L4 = rq L3 3 7 11 15) := hL4
          clear hL4 hx3 hlo4 hbq4 hb3 hl3 hw3
          go_wp2_with fail
          refine (rquarter_any L4 hl4 hw4 0 5 10 15 (by decide) (by decide) (by decide) (by decide) g4 c4 v4 hx4).mono ?_
          rintro e v5 ⟨g5, c5, rfl, hx5, hlo5, hbq5⟩
          have hb5 := hb4.trans (hbq5.mono hb4.size)
          obtain ⟨L5, hL5⟩ : ∃ L, L = rq L4 0 5 10 15 := ⟨_, rfl⟩
          rw [← hL5] at hx5
          have hl5 : L5.length = 16 := by rw [hL5, rq_length]; exact hl4
          have hw5 : Words L5 := by rw [hL5]; exact hw4.rq _ _ _ _
          have HL5 : Hid (L5 = rq L4 0 5 10 15) := hL5
          clear hL5 hx4 hlo5 hbq5 hb4 hl4 hw4
          go_wp2_with fail
          refine (rquarter_any L5 hl5 hw5 1 6 11 12 (by decide) (by decide) (by decide) (by decide) g5 c5 v5 hx5).mono ?_
          rintro e v6 ⟨g6, c6, rfl, hx6, hlo6, hbq6⟩
          have hb6 := hb5.trans (hbq6.mono hb5.size)
          obtain ⟨L6, hL6⟩ : ∃ L, L = rq L5 1 6 11 12 := ⟨_, rfl⟩
          rw [← hL6] at hx6
          have hl6 : L6.length = 16 := by rw [hL6, rq_length]; exact hl5
          have hw6 : Words L6 := by rw [hL6]; exact hw5.rq _ _ _ _
          have HL6 : Hid (L6 = rq L5 1 6 11 12) := hL6
          clear hL6 hx5 hlo6 hbq6 hb5 hl5 hw5
          go_wp2_with fail
          refine (rquarter_any L6 hl6 hw6 2 7 8 13 (by decide) (by decide) (by decide) (by decide) g6 c6 v6 hx6).mono ?_
          rintro e v7 ⟨g7, c7, rfl, hx7, hlo7, hbq7⟩
          have hb7 := hb6.trans (hbq7.mono hb6.size)
          obtain ⟨L7, hL7⟩ : ∃ L, L = rq L6 2 7 8 13 := ⟨_, rfl⟩
          rw [← hL7] at hx7
          have hl7 : L7.length = 16 := by rw [hL7, rq_length]; exact hl6
          have hw7 : Words L7 := by rw [hL7]; exact hw6.rq _ _ _ _
          have HL7 : Hid (L7 = rq L6 2 7 8 13) := hL7
          clear hL7 hx6 hlo7 hbq7 hb6 hl6 hw6
          go_wp2_with fail
          refine (rquarter_any L7 hl7 hw7 3 4 9 14 (by decide) (by decide) (by decide) (by decide) g7 c7 v7 hx7).mono ?_
          rintro e v8 ⟨g8, c8, rfl, hx8, hlo8, hbq8⟩
          have hb8 := hb7.trans (hbq8.mono hb7.size)
          obtain ⟨L8, hL8⟩ : ∃ L, L = rq L7 3 4 9 14 := ⟨_, rfl⟩
          rw [← hL8] at hx8
          have hl8 : L8.length = 16 := by rw [hL8, rq_length]; exact hl7
          have hw8 : Words L8 := by rw [hL8]; exact hw7.rq _ _ _ _
          have HL8 : Hid (L8 = rq L7 3 4 9 14) := hL8
          clear hL8 hx7 hlo8 hbq8 hb7 hl7 hw7
          have HF : Hid (IntsAt v8 g8 (S.rounds (j + 1)).toL ∧ Below w2.heap.size w2 v8) := by
            refine ⟨?_, hb8⟩
            show IntsAt v8 g8 (S.rounds j).cols.slants.toL
            rw [← rq_round, ← HL0.out, ← HL1.out, ← HL2.out, ← HL3.out, ← HL4.out, ← HL5.out, ← HL6.out, ← HL7.out, ← HL8.out]
            exact hx8
          clear hx8 hb8 hl8 hw8
          go_wp2
          go_roundw
          case rel => exact ⟨j + 1, g8, c8, by omega, by go_num, rfl, HF.out.1, HF.out.2⟩
          case measure => simp [intOf]; omega
        · obtain rfl : j = 10 := by omega
          rw [show ((10 : Nat) : Int) = 10 from rfl]
          generalize hwo : wr = wo at *
          clear hwo
          have hgs := HS2.out.1.lt
          have hs0 := HS2.out.1.below hb0 hgs
          have hbo : Below w.heap.size w wo := HS2.out.2.trans (hb0.mono HS2.out.2.size)
          have hwX : Words (S.rounds 10).toL := S16.rounds_ok HOK.out 10
          have hwS : Words S.toL := HOK.out
          obtain ⟨X, hX⟩ : ∃ X, X = (S.rounds 10).toL := ⟨_, rfl⟩
          rw [← hX] at hx0 hwX
          have HXX : Hid (X = (S.rounds 10).toL) := hX
          have HD : Hid (IntsAt wo g0 X ∧ IntsAt wo gs S.toL ∧ Below w.heap.size w wo) := ⟨hx0, hs0, hbo⟩
          clear hX hx0 hs0 hbo hb0 HS2
          go_wp2_with fail
          go_loopw [11, 12] (fun v i wz => ∃ j : Nat, j ≤ 16 ∧ i = .int .i64 j ∧ wz.ownsRow wo.heap.size 5 1 v (4 * j) (byV (blkN S j)) ∧ Below wo.heap.size wo wz) (fun _ i _ => 16 - (intOf i).toNat)
          case atStart => exact ⟨0, Nat.zero_le _, rfl, World.ownsRow_nil _ _ _ _, Below.refl _ _⟩
          case round =>
            obtain ⟨j, hj16, rfl, hown, hbz⟩ := hrel
            by_cases hl16 : j < 16
            · have cx := (hbz.cell (p := ⟨g0, j, none⟩) HD.out.1.lt).trans (HD.out.1.cells j hl16)
              have cy := (hbz.cell (p := ⟨gs, j, none⟩) HD.out.2.1.lt).trans (HD.out.2.1.cells j hl16)
              have lx := hwX.get j
              have ly := hwS.get j
              obtain ⟨y, hy⟩ : ∃ y, y = (X.getD j 0 + S.toL.getD j 0) % 4294967296 := ⟨_, rfl⟩
              have hx_ : IntKind.i64.wrap ((X.getD j 0 : Nat) + (S.toL.getD j 0 : Nat) : Int) = ((X.getD j 0 + S.toL.getD j 0 : Nat) : Int) := by rw [IntKind.wrap_i64]; omega
              have hc_ := fun w => rlow_z ((X.getD j 0 + S.toL.getD j 0 : Nat) : Int) (X.getD j 0 + S.toL.getD j 0) rfl (by omega) y hy w
              have HY : Hid (y = blkW S j) := by show _ = _; rw [hy, HXX.out]; rfl
              have ly' : y < 4294967296 := by rw [hy]; exact Nat.mod_lt _ (by decide)
              clear hy
              generalize X.getD j 0 + S.toL.getD j 0 = z at *
              generalize X.getD j 0 = X0 at *
              generalize S.toL.getD j 0 = Z0 at *
              have j16 : (j : Int) < 16 := by omega
              have HO : Hid (wr.ownsRow wo.heap.size 5 1 u11 (4 * j) (byV (blkN S j)) ∧ Below wo.heap.size wo wr) := ⟨hown, hbz⟩
              clear hown hbz
              go_wp2_with fail
              go_region_held3 (fun w' => w'.cell? ⟨g0, j, none⟩ = some (.int .i64 (X0 : Nat)) ∧ w'.cell? ⟨gs, j, none⟩ = some (.int .i64 (Z0 : Nat))) (simp [go_sem, *]) (first | (go_at_call 157; refine (hc_ _).mono ?_; rintro e w1 ⟨rfl, rfl⟩))
              clear cx cy lx ly hx_ hc_
              obtain ⟨wq, hwq⟩ : ∃ v, v = wr.drew := ⟨_, rfl⟩
              have hown : wq.ownsRow wo.heap.size 5 1 u11 (4 * j) (byV (blkN S j)) := by rw [hwq]; exact HO.out.1.drew
              have hbz : Below wo.heap.size wo wq := by rw [hwq]; exact HO.out.2.drew
              rw [← hwq]
              clear hwq HO
              obtain ⟨y0, hy0'⟩ : ∃ t, t = y % 256 := ⟨_, rfl⟩
              obtain ⟨y1, hy1'⟩ : ∃ t, t = y / 256 % 256 := ⟨_, rfl⟩
              obtain ⟨y2, hy2'⟩ : ∃ t, t = y / 65536 % 256 := ⟨_, rfl⟩
              obtain ⟨y3, hy3'⟩ : ∃ t, t = y / 16777216 % 256 := ⟨_, rfl⟩
              have f3 : IntKind.u8.wrap ((y : Int) / 16777216) = (y3 : Int) := by rw [IntKind.wrap_u8, hy3']; omega
              have f2 : IntKind.u8.wrap (bits .and .i64 ((y : Int) / 65536) 255) = (y2 : Int) := by
                rw [show (y : Int) / 65536 = ((y / 65536 : Nat) : Int) by omega, show (255 : Int) = ((255 : Nat) : Int) from rfl, i64_and_nat _ _ (by omega) (by decide), mask8, IntKind.wrap_u8, hy2']; omega
              have f1 : IntKind.u8.wrap (bits .and .i64 ((y : Int) / 256) 255) = (y1 : Int) := by
                rw [show (y : Int) / 256 = ((y / 256 : Nat) : Int) by omega, show (255 : Int) = ((255 : Nat) : Int) from rfl, i64_and_nat _ _ (by omega) (by decide), mask8, IntKind.wrap_u8, hy1']; omega
              have f0 : IntKind.u8.wrap (bits .and .i64 (y : Int) 255) = (y0 : Int) := by
                rw [show (255 : Int) = ((255 : Nat) : Int) from rfl, i64_and_nat _ _ (by omega) (by decide), mask8, IntKind.wrap_u8, hy0']; omega
              have HB : Hid (byV (blkN S (j + 1)) = byV (blkN S j) ++ [.int .u8 (y0 : Nat), .int .u8 (y1 : Nat), .int .u8 (y2 : Nat), .int .u8 (y3 : Nat)]) := by
                show _ = _
                rw [blkN, byV_append, ← HY.out, hy0', hy1', hy2', hy3']
                rfl
              clear hy0' hy1' hy2' hy3'
              have HNE : Hid (∀ g', u11.ownBlock = some g' → _ ≤ g') := fun g' hg' => (hown.lt g' hg').1
              go_wp2_with (at_builtin; refine wpList_append_lies _ rfl _ _ 90 rfl wo.heap.size 5 i1 (.int .u8 0) 1 1 Tryz.underlying90 hj hy0 hy1 hy2 rfl (by decide) u11 (4 * j) (byV (blkN S j)) rfl (hown.alloc _) ⟨wq.heap.size, 0, none⟩ 4 4 [.int .u8 (y0 : Nat), .int .u8 (y1 : Nat), .int .u8 (y2 : Nat), .int .u8 (y3 : Nat)] rfl rfl (World.news_of_block (heap_alloc_new _ _)) (four_one _ _ _ _) (by decide) ?c3 ?c4 ?c5 _ rfl ?_)
              case c3 => unfold maxLen; omega
              case c4 => omega
              case c5 => have := hbz.size; simp; omega
              intro g1 cap1 w1 hown1 hgrow1 hat1 hlt1
              have hb2 := (hbz.alloc hbz.size _).grown hgrow1 (by have := hbz.size; simp; omega) (fun g hg => HNE.out g hg)
              have hown2 := HB.out ▸ hown1
              have HF : Hid (_ ∧ _) := ⟨hown2, hb2⟩
              clear hown1 hown2 hgrow1 hat1 hlt1 hb2 hown hbz f0 f1 f2 f3 HNE
              go_wp2
              go_roundw
              case rel => exact ⟨j + 1, by omega, by go_num, HF.out.1, HF.out.2⟩
              case measure => simp [intOf]; omega
            · obtain rfl : j = 16 := by omega
              obtain ⟨g, cap, rfl, _, _⟩ := hown.form (by decide)
              have hcv := run_convert_bytes_arg (P := Tryz.prog) wr 90 5 Tryz.underlying90 Tryz.underlying5 g 0 64 cap ((blkL S).map fun (x : Nat) => (x : Int)) (by simp [blkL_length]) (fun i hi => by
                rw [Nat.zero_add, hown.cellAt i (by omega), show blkN S 16 = blkL S from rfl, byV_get _ _ (by rw [blkL_length]; exact hi), getD_at _ _ (by rw [blkL_length]; exact hi)]
                simp [List.getD, blkL_length, hi]) 9 Tryz.underlying9
              have HCV : Hid (strOfNums ((blkL S).map fun (x : Nat) => (x : Int)) = strN (chaL K N n)) := by show _ = _; rw [HCH.out]; rfl
              rw [HCV.out] at hcv
              have HF : Hid (Below w.heap.size w wr) := HD.out.2.2.trans (hbz.mono HD.out.2.2.size)
              clear hown hbz
              go_wp2
              go_ret
              exact ⟨rfl, HF.out⟩
end Go.Proofs.YtldkdoddklfdlaaGreatDoor.Bx
