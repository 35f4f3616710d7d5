/- The document's block. · The document's stream. · The document's mark. · The document's Seal and Open; what both sides tell. · What sum and box tell, of this program and of the document: the law BlockReals. -/
import Derived.Test.YtoopaigpjefonaaGreatDoorMg47
import Derived.Test.YtoopaigpjefonaaGreatDoorMg46
import Derived.Test.YtoopaigpjefonaaGreatDoorMg39
import Derived.Deep.RegionHeld3
import Derived.Test.YtoopaigpjefonaaGreatDoorMg26
import Derived.Test.YtoopaigpjefonaaGreatDoorMg34
import Derived.Test.YtoopaigpjefonaaGreatDoorMg31
import Derived.Test.YtoopaigpjefonaaGreatDoorMg41
import Derived.Test.YtoopaigpjefonaaGreatDoorMg42
import Derived.Test.YtoopaigpjefonaaGreatDoorMg43
namespace Go.Proofs.YtoopaigpjefonaaGreatDoor.Bx
set_option maxRecDepth 20000
open Go.RowKit

theorem Words.rq {L : List Nat} (h : Words L) (a b c d : Nat) : Words (rq L a b c d) := (((((((((h.rq1 a b).rq2 16 d a).rq1 c d).rq2 12 b c).rq1 a b).rq2 8 d a).rq1 c d).rq2 7 b c))
theorem rq_0 (x0 x1 x2 x3 x4 x5 x6 x7 x8 x9 x10 x11 x12 x13 x14 x15 : Nat) : rq [x0, x1, x2, x3, x4, x5, x6, x7, x8, x9, x10, x11, x12, x13, x14, x15] 0 4 8 12 = [qA x0 x4 x8 x12, x1, x2, x3, qB x0 x4 x8 x12, x5, x6, x7, qC x0 x4 x8 x12, x9, x10, x11, qD x0 x4 x8 x12, x13, x14, x15] := by
  simp only [rq, rq1, rq2, List.set_cons_zero, List.set_cons_succ, List.getD_cons_zero, List.getD_cons_succ]
  rfl
theorem rq_1 (x0 x1 x2 x3 x4 x5 x6 x7 x8 x9 x10 x11 x12 x13 x14 x15 : Nat) : rq [x0, x1, x2, x3, x4, x5, x6, x7, x8, x9, x10, x11, x12, x13, x14, x15] 1 5 9 13 = [x0, qA x1 x5 x9 x13, x2, x3, x4, qB x1 x5 x9 x13, x6, x7, x8, qC x1 x5 x9 x13, x10, x11, x12, qD x1 x5 x9 x13, x14, x15] := by
  simp only [rq, rq1, rq2, List.set_cons_zero, List.set_cons_succ, List.getD_cons_zero, List.getD_cons_succ]
  rfl
theorem rq_2 (x0 x1 x2 x3 x4 x5 x6 x7 x8 x9 x10 x11 x12 x13 x14 x15 : Nat) : rq [x0, x1, x2, x3, x4, x5, x6, x7, x8, x9, x10, x11, x12, x13, x14, x15] 2 6 10 14 = [x0, x1, qA x2 x6 x10 x14, x3, x4, x5, qB x2 x6 x10 x14, x7, x8, x9, qC x2 x6 x10 x14, x11, x12, x13, qD x2 x6 x10 x14, x15] := by
  simp only [rq, rq1, rq2, List.set_cons_zero, List.set_cons_succ, List.getD_cons_zero, List.getD_cons_succ]
  rfl
theorem rq_3 (x0 x1 x2 x3 x4 x5 x6 x7 x8 x9 x10 x11 x12 x13 x14 x15 : Nat) : rq [x0, x1, x2, x3, x4, x5, x6, x7, x8, x9, x10, x11, x12, x13, x14, x15] 3 7 11 15 = [x0, x1, x2, qA x3 x7 x11 x15, x4, x5, x6, qB x3 x7 x11 x15, x8, x9, x10, qC x3 x7 x11 x15, x12, x13, x14, qD x3 x7 x11 x15] := by
  simp only [rq, rq1, rq2, List.set_cons_zero, List.set_cons_succ, List.getD_cons_zero, List.getD_cons_succ]
  rfl
theorem rq_4 (x0 x1 x2 x3 x4 x5 x6 x7 x8 x9 x10 x11 x12 x13 x14 x15 : Nat) : rq [x0, x1, x2, x3, x4, x5, x6, x7, x8, x9, x10, x11, x12, x13, x14, x15] 0 5 10 15 = [qA x0 x5 x10 x15, x1, x2, x3, x4, qB x0 x5 x10 x15, x6, x7, x8, x9, qC x0 x5 x10 x15, x11, x12, x13, x14, qD x0 x5 x10 x15] := by
  simp only [rq, rq1, rq2, List.set_cons_zero, List.set_cons_succ, List.getD_cons_zero, List.getD_cons_succ]
  rfl
theorem rq_5 (x0 x1 x2 x3 x4 x5 x6 x7 x8 x9 x10 x11 x12 x13 x14 x15 : Nat) : rq [x0, x1, x2, x3, x4, x5, x6, x7, x8, x9, x10, x11, x12, x13, x14, x15] 1 6 11 12 = [x0, qA x1 x6 x11 x12, x2, x3, x4, x5, qB x1 x6 x11 x12, x7, x8, x9, x10, qC x1 x6 x11 x12, qD x1 x6 x11 x12, x13, x14, x15] := by
  simp only [rq, rq1, rq2, List.set_cons_zero, List.set_cons_succ, List.getD_cons_zero, List.getD_cons_succ]
  rfl
theorem rq_6 (x0 x1 x2 x3 x4 x5 x6 x7 x8 x9 x10 x11 x12 x13 x14 x15 : Nat) : rq [x0, x1, x2, x3, x4, x5, x6, x7, x8, x9, x10, x11, x12, x13, x14, x15] 2 7 8 13 = [x0, x1, qA x2 x7 x8 x13, x3, x4, x5, x6, qB x2 x7 x8 x13, qC x2 x7 x8 x13, x9, x10, x11, x12, qD x2 x7 x8 x13, x14, x15] := by
  simp only [rq, rq1, rq2, List.set_cons_zero, List.set_cons_succ, List.getD_cons_zero, List.getD_cons_succ]
  rfl
theorem rq_7 (x0 x1 x2 x3 x4 x5 x6 x7 x8 x9 x10 x11 x12 x13 x14 x15 : Nat) : rq [x0, x1, x2, x3, x4, x5, x6, x7, x8, x9, x10, x11, x12, x13, x14, x15] 3 4 9 14 = [x0, x1, x2, qA x3 x4 x9 x14, qB x3 x4 x9 x14, x5, x6, x7, x8, qC x3 x4 x9 x14, x10, x11, x12, x13, qD x3 x4 x9 x14, x15] := by
  simp only [rq, rq1, rq2, List.set_cons_zero, List.set_cons_succ, List.getD_cons_zero, List.getD_cons_succ]
  rfl
theorem rq_round (S : S16) : rq (rq (rq (rq (rq (rq (rq (rq S.toL 0 4 8 12) 1 5 9 13) 2 6 10 14) 3 7 11 15) 0 5 10 15) 1 6 11 12) 2 7 8 13) 3 4 9 14 = S.cols.slants.toL := by
  unfold S16.toL
  rw [rq_0, rq_1, rq_2, rq_3, rq_4, rq_5, rq_6, rq_7]
  rfl
theorem mask8 (n : Nat) : n &&& 255 = n % 256 := Nat.and_two_pow_sub_one_eq_mod n 8
theorem four_one (a b c d : Nat) : ∀ u ∈ [Value.int .u8 (a : Nat), .int .u8 (b : Nat), .int .u8 (c : Nat), .int .u8 (d : Nat)], u.oneCell' = true := by
  intro u hu
  simp only [List.mem_cons, List.not_mem_nil, or_false] at hu
  rcases hu with rfl | rfl | rfl | rfl <;> rfl
theorem IntsAt.of {w : World} {base g cap : Nat} {L : List Nat} (h : OwnC w base g 16 cap (intV L)) (hl : L.length = 16) : IntsAt w g L := ⟨h.lt, fun i hi => h.cells i _ (intV_at L i (by omega)), fun i hi => h.free i (by have := h.room; omega)⟩
theorem IntsAt.news {w : World} {g : Nat} {L : List Nat} (h : IntsAt w g L) (hl : L.length = 16) : ∀ j u, (intV L)[j]? = some u → w.cell? ((⟨g, 0, none⟩ : Addr).add j) = some u := fun j u hj => by
  have hlt := (List.getElem?_eq_some_iff.1 hj).1
  rw [intV, List.length_map] at hlt
  have hadd : (⟨g, 0, none⟩ : Addr).add j = ⟨g, j, none⟩ := by unfold Addr.add; split <;> simp_all
  rw [hadd, h.cells j (by omega), ← hj, intV_at _ _ hlt]
/-- The words of the beginning and of so much of a key. -/
def sL (K : List Nat) (j : Nat) : List Nat := [0x61707865, 0x3320646e, 0x79622d32, 0x6b206574] ++ (List.range j).map fun i => wordL K (4 * i)
theorem sL_step (K : List Nat) (j : Nat) : intV (sL K (j + 1)) = intV (sL K j) ++ [.int .i64 (wordL K (4 * j) : Nat)] := by
  rw [sL, sL, List.range_succ, List.map_append, ← List.append_assoc]
  simp [intV]
theorem sL_all (K N : List Nat) (n : Nat) : intV (sL K 8) ++ [.int .i64 (n : Nat), .int .i64 (wordL N 0 : Nat), .int .i64 (wordL N 4 : Nat), .int .i64 (wordL N 8 : Nat)] = intV (st16 K N n).toL := rfl
theorem rword_z (s : ByteArray) (z : Int) (p : Nat) (hz : z = (p : Int)) (hp : p + 4 ≤ s.size) (hs : s.size ≤ 1048576) (w : World) :
    Calls Tryz.prog 197 #[.string s, .int .i64 z] w fun e w' => e = .returned (.int .i64 (wordL (numsOf s) p : Nat)) ∧ ∃ n, w' = w.drewN n := by
  subst hz
  exact rword_any s p hp hs w

set_option maxRecDepth 10000 in
set_option maxHeartbeats 4000000 in
theorem rBlock_any (key nonce : ByteArray) (hk : key.size = 32) (hn : nonce.size = 12) (n : Nat) (hnn : n < 4294967296) (w : World) :
    Calls Tryz.prog 189 #[.string key, .string nonce, .int .i64 n] w fun e w' => e = .returned (.string (strN (chaL (numsOf key) (numsOf nonce) n))) ∧ Below w.heap.size w w' := by
  obtain ⟨i0, hi, hz0, hz1, hz2⟩ := info_parts info_int
  obtain ⟨i1, hj, hy0, hy1, hy2⟩ := info_parts info_u8
  have hok := st16_ok key nonce n hnn
  have HKW : Hid (∀ j : Nat, j < 8 → ∀ w, Calls Tryz.prog 197 #[.string key, .int .i64 (4 * (j : Int))] w fun e w' => e = .returned (.int .i64 (wordL (numsOf key) (4 * j) : Nat)) ∧ ∃ n, w' = w.drewN n) := fun j hj w => rword_z key _ (4 * j) (by omega) (by omega) (by omega) w
  have hN0 := fun w => rword_z nonce 0 0 rfl (by omega) (by omega) w
  have hN4 := fun w => rword_z nonce 4 4 rfl (by omega) (by omega) w
  have hN8 := fun w => rword_z nonce 8 8 rfl (by omega) (by omega) w
  generalize numsOf key = K at *
  generalize numsOf nonce = N at *
  obtain ⟨H, hH⟩ : ∃ H, H = w.heap.size := ⟨_, rfl⟩
  have hE : OwnC (w.alloc (.cells #[.int .i64 1634760805, .int .i64 857760878, .int .i64 2036477234, .int .i64 1797285236] 3)) w.heap.size w.heap.size 4 4 (intV (sL K 0)) := OwnC.fresh w 3 (intV (sL K 0)) 4 rfl (by decide)
  have hb0 : Below w.heap.size w (w.alloc (.cells #[.int .i64 1634760805, .int .i64 857760878, .int .i64 2036477234, .int .i64 1797285236] 3)) := (Below.refl _ _).alloc (Nat.le_refl _) _
  have H0 : Hid (OwnC (w.alloc (.cells #[.int .i64 1634760805, .int .i64 857760878, .int .i64 2036477234, .int .i64 1797285236] 3)) w.heap.size w.heap.size 4 4 (intV (sL K 0)) ∧ Below w.heap.size w (w.alloc (.cells #[.int .i64 1634760805, .int .i64 857760878, .int .i64 2036477234, .int .i64 1797285236] 3))) := ⟨hE, hb0⟩
  clear hE hb0 hH
  go_enter Tryz.func189, Tryz.ntmps189
  go_wp2_with fail
  go_loopw [7, 8] (fun v i wr => ∃ j g cap : Nat, j ≤ 8 ∧ i = .int .i64 j ∧ v = .slice (some ⟨g, 0, none⟩) (4 + j) cap ∧ OwnC wr w.heap.size g (4 + j) cap (intV (sL K j)) ∧ Below w.heap.size w wr) (fun _ i _ => 8 - (intOf i).toNat)
  case atStart => exact ⟨0, w.heap.size, 4, Nat.zero_le _, rfl, rfl, H0.out.1, H0.out.2⟩
  case round =>
    clear H0
    obtain ⟨j, g, cap, hj8, rfl, rfl, hown, hb⟩ := hrel
    by_cases hlt : j < 8
    · have hW := HKW.out j hlt
      have HST : Hid (intV (sL K (j + 1)) = intV (sL K j) ++ [.int .i64 (wordL K (4 * j) : Nat)]) := sL_step K j
      have q0 : IntKind.i64.wrap (4 * (j : Int)) = 4 * j := by rw [IntKind.wrap_i64]; omega
      have HO : Hid (OwnC wr w.heap.size g (4 + j) cap (intV (sL K j)) ∧ Below w.heap.size w wr) := ⟨hown, hb⟩
      clear HKW hN0 hN4 hN8 hown hb hok
      generalize wordL K (4 * j) = W at *
      go_wp2_with fail
      refine (hW _).mono ?_
      rintro e w1 ⟨rfl, k, rfl⟩
      have hown := HO.out.1.drewN k
      have hb := below_drewN HO.out.2 k
      clear hW HO
      generalize wr.drewN k = w1 at *
      go_wp2_with (at_builtin; refine wpList_appendC _ rfl _ _ 92 rfl w.heap.size 3 i0 (.int .i64 0) 8 Tryz.underlying92 hi hz0 hz1 hz2 rfl g (4 + j) cap (intV (sL K j)) rfl (hown.alloc _) ⟨w1.heap.size, 0, none⟩ 1 1 [.int .i64 (W : Nat)] rfl rfl (World.news_of_block (heap_alloc_new _ _)) ?c2 ?c3 ?c4 ?c5 ?_)
      case c2 => intro u hu; rw [List.mem_singleton] at hu; rw [hu]; rfl
      case c3 => unfold maxLen; omega
      case c4 => omega
      case c5 => have := hb.size; simp; omega
      intro g2 cap2 w2 hown2 hgrow2 _
      have hlow := hown.low
      have hb2 : Below w.heap.size w w2 := (hb.alloc hb.size _).grown hgrow2 (by have := hb.size; simp; omega) (fun x hx => by obtain rfl : g = x := (by simpa using hx); exact hlow)
      rw [← HST.out] at hown2
      clear hown hgrow2 hb
      go_wp2
      go_roundw
      case rel => exact ⟨j + 1, g2, cap2, by omega, by go_num, rfl, hown2, hb2⟩
      case measure => simp [intOf]; omega
    · obtain rfl : j = 8 := by omega
      rw [show ((8 : Nat) : Int) = 8 from rfl]
      have HO : Hid (OwnC wr w.heap.size g 12 cap (intV (sL K 8)) ∧ Below w.heap.size w wr) := ⟨hown, hb⟩
      have HST : Hid (intV (sL K 8) ++ [.int .i64 (n : Nat), .int .i64 (wordL N 0 : Nat), .int .i64 (wordL N 4 : Nat), .int .i64 (wordL N 8 : Nat)] = intV (st16 K N n).toL) := sL_all K N n
      clear hown hb HKW
      have HOK : Hid (st16 K N n).ok := hok
      clear hok
      have HCH : Hid (chaL K N n = blkL (st16 K N n)) := rfl
      generalize wordL N 0 = n0 at *
      generalize wordL N 4 = n4 at *
      generalize wordL N 8 = n8 at *
      generalize hSS : st16 K N n = S at *
      clear hSS
      go_wp2_with fail
      refine (hN0 _).mono ?_
      rintro e w' ⟨rfl, k0, rfl⟩
      obtain ⟨va, hva⟩ : ∃ v, v = wr.drewN k0 := ⟨_, rfl⟩
      have HO0 : Hid (OwnC va w.heap.size g 12 cap (intV (sL K 8)) ∧ Below w.heap.size w va) := by rw [hva]; exact ⟨HO.out.1.drewN k0, below_drewN HO.out.2 k0⟩
      rw [← hva]
      clear hva HO hN0
      go_wp2_with fail
      refine (hN4 _).mono ?_
      rintro e w' ⟨rfl, k1, rfl⟩
      obtain ⟨vb, hvb⟩ : ∃ v, v = va.drewN k1 := ⟨_, rfl⟩
      have HO1 : Hid (OwnC vb w.heap.size g 12 cap (intV (sL K 8)) ∧ Below w.heap.size w vb) := by rw [hvb]; exact ⟨HO0.out.1.drewN k1, below_drewN HO0.out.2 k1⟩
      rw [← hvb]
      clear hvb HO0 hN4
      go_wp2_with fail
      refine (hN8 _).mono ?_
      rintro e w' ⟨rfl, k2, rfl⟩
      obtain ⟨w1, hw1⟩ : ∃ v, v = vb.drewN k2 := ⟨_, rfl⟩
      have HO2 : Hid (OwnC w1 w.heap.size g 12 cap (intV (sL K 8)) ∧ Below w.heap.size w w1) := by rw [hw1]; exact ⟨HO1.out.1.drewN k2, below_drewN HO1.out.2 k2⟩
      rw [← hw1]
      clear hw1 HO1 hN8
      have hown := HO2.out.1
      have hb := HO2.out.2
      clear HO2
      go_wp2_with (at_builtin; refine wpList_appendC _ rfl _ _ 92 rfl w.heap.size 3 i0 (.int .i64 0) 8 Tryz.underlying92 hi hz0 hz1 hz2 rfl g 12 cap (intV (sL K 8)) rfl (hown.alloc _) ⟨w1.heap.size, 0, none⟩ 4 4 [.int .i64 (n : Nat), .int .i64 (n0 : Nat), .int .i64 (n4 : Nat), .int .i64 (n8 : Nat)] rfl rfl (World.news_of_block (heap_alloc_new _ _)) ?c2 ?c3 ?c4 ?c5 ?_)
      case c2 => exact intV_one [n, n0, n4, n8]
      case c3 => decide
      case c4 => decide
      case c5 => have := hb.size; simp; omega
      intro gs cs w2 hown2 hgrow2 _
      have hlow := hown.low
      have hb2 : Below w.heap.size w w2 := (hb.alloc hb.size _).grown hgrow2 (by have := hb.size; simp; omega) (fun x hx => by obtain rfl : g = x := (by simpa using hx); exact hlow)
      rw [HST.out] at hown2
      have hs2 : IntsAt w2 gs S.toL := IntsAt.of hown2 rfl
      have hE : OwnC (w2.alloc (.cells #[] 3)) w2.heap.size w2.heap.size 0 0 [] := ⟨rfl, Nat.le_refl _, by simp, Nat.le_refl _, by decide, fun i hi => absurd hi (Nat.not_lt_zero _), fun i hi => absurd hi (Nat.not_lt_zero _), fun i u h => by simp at h⟩
      have hbE : Below w2.heap.size w2 (w2.alloc (.cells #[] 3)) := (Below.refl _ _).alloc (Nat.le_refl _) _
      have hnews := (hs2.below hbE hs2.lt).news rfl
      clear hown hgrow2 hb hown2 HST
      go_wp2_with (at_builtin; refine wpList_appendC _ rfl _ _ 92 rfl w2.heap.size 3 i0 (.int .i64 0) 8 Tryz.underlying92 hi hz0 hz1 hz2 rfl w2.heap.size 0 0 [] rfl hE ⟨gs, 0, none⟩ 16 cs (intV S.toL) rfl rfl hnews ?c2 ?c3 ?c4 ?c5 ?_)
      case c2 => exact intV_one _
      case c3 => decide
      case c4 => decide
      case c5 => simp
      intro gx cx w3 hown3 hgrow3 _
      have hb3 : Below w2.heap.size w2 w3 := hbE.grown hgrow3 (by simp) (fun k hk => by obtain rfl : w2.heap.size = k := (by simpa using hk); exact Nat.le_refl _)
      have hx3 : IntsAt w3 gx S.toL := IntsAt.of hown3 rfl
      have HX : Hid (IntsAt w3 gx S.toL ∧ Below w2.heap.size w2 w3) := ⟨hx3, hb3⟩
      have HS2 : Hid (IntsAt w2 gs S.toL ∧ Below w.heap.size w w2) := ⟨hs2, hb2⟩
      clear hown3 hgrow3 hE hbE hnews hx3 hb3 hs2 hb2
      go_wp2_with fail
      go_loopw [9, 10] (fun x i wx => ∃ j gx cx : Nat, j ≤ 10 ∧ i = .int .i64 j ∧ x = .slice (some ⟨gx, 0, none⟩) 16 cx ∧ IntsAt wx gx (S.rounds j).toL ∧ Below w2.heap.size w2 wx) (fun _ i _ => 10 - (intOf i).toNat)
      case atStart => exact ⟨0, gx, cx, Nat.zero_le _, rfl, rfl, HX.out.1, HX.out.2⟩
      case round =>
        clear HX
        obtain ⟨j, g0, c0, hj10, rfl, rfl, hx0, hb0⟩ := hrel
        by_cases hlt : j < 10
        · have hw0 : Words (S.rounds j).toL := S16.rounds_ok HOK.out j
          have hl0 : (S.rounds j).toL.length = 16 := rfl
          obtain ⟨L0, hL0⟩ : ∃ L, L = (S.rounds j).toL := ⟨_, rfl⟩
          rw [← hL0] at hx0 hw0 hl0
          have HL0 : Hid (L0 = (S.rounds j).toL) := hL0
          clear hL0
          generalize hv0 : wr = v0 at *
          clear hv0
          go_wp2_with fail
          refine (rquarter_any L0 hl0 hw0 0 4 8 12 (by decide) (by decide) (by decide) (by decide) g0 c0 v0 hx0).mono ?_
          rintro e v1 ⟨g1, c1, rfl, hx1, hlo1, hbq1⟩
          have hb1 := hb0.trans (hbq1.mono hb0.size)
          obtain ⟨L1, hL1⟩ : ∃ L, L = rq L0 0 4 8 12 := ⟨_, rfl⟩
          rw [← hL1] at hx1
          have hl1 : L1.length = 16 := by rw [hL1, rq_length]; exact hl0
          have hw1 : Words L1 := by rw [hL1]; exact hw0.rq _ _ _ _
          have HL1 : Hid (L1 = rq L0 0 4 8 12) := hL1
          clear hL1 hx0 hlo1 hbq1 hb0 hl0 hw0
          go_wp2_with fail
          refine (rquarter_any L1 hl1 hw1 1 5 9 13 (by decide) (by decide) (by decide) (by decide) g1 c1 v1 hx1).mono ?_
          rintro e v2 ⟨g2, c2, rfl, hx2, hlo2, hbq2⟩
          have hb2 := hb1.trans (hbq2.mono hb1.size)
          obtain ⟨L2, hL2⟩ : ∃ L, L = rq L1 1 5 9 13 := ⟨_, rfl⟩
          rw [← hL2] at hx2
          have hl2 : L2.length = 16 := by rw [hL2, rq_length]; exact hl1
          have hw2 : Words L2 := by rw [hL2]; exact hw1.rq _ _ _ _
          have HL2 : Hid (L2 = rq L1 1 5 9 13) := hL2
          clear hL2 hx1 hlo2 hbq2 hb1 hl1 hw1
          go_wp2_with fail
          refine (rquarter_any L2 hl2 hw2 2 6 10 14 (by decide) (by decide) (by decide) (by decide) g2 c2 v2 hx2).mono ?_
          rintro e v3 ⟨g3, c3, rfl, hx3, hlo3, hbq3⟩
          have hb3 := hb2.trans (hbq3.mono hb2.size)
          obtain ⟨L3, hL3⟩ : ∃ L, L = rq L2 2 6 10 14 := ⟨_, rfl⟩
          rw [← hL3] at hx3
          have hl3 : L3.length = 16 := by rw [hL3, rq_length]; exact hl2
          have hw3 : Words L3 := by rw [hL3]; exact hw2.rq _ _ _ _
          have HL3 : Hid (L3 = rq L2 2 6 10 14) := hL3
          clear hL3 hx2 hlo3 hbq3 hb2 hl2 hw2
          go_wp2_with fail
          refine (rquarter_any L3 hl3 hw3 3 7 11 15 (by decide) (by decide) (by decide) (by decide) g3 c3 v3 hx3).mono ?_
          rintro e v4 ⟨g4, c4, rfl, hx4, hlo4, hbq4⟩
          have hb4 := hb3.trans (hbq4.mono hb3.size)
          obtain ⟨L4, hL4⟩ : ∃ L, L = rq L3 3 7 11 15 := ⟨_, rfl⟩
          rw [← hL4] at hx4
          have hl4 : L4.length = 16 := by rw [hL4, rq_length]; exact hl3
          have hw4 : Words L4 := by rw [hL4]; exact hw3.rq _ _ _ _
          have HL4 : Hid (L4 = rq L3 3 7 11 15) := hL4
          clear hL4 hx3 hlo4 hbq4 hb3 hl3 hw3
          go_wp2_with fail
          refine (rquarter_any L4 hl4 hw4 0 5 10 15 (by decide) (by decide) (by decide) (by decide) g4 c4 v4 hx4).mono ?_
          rintro e v5 ⟨g5, c5, rfl, hx5, hlo5, hbq5⟩
          have hb5 := hb4.trans (hbq5.mono hb4.size)
          obtain ⟨L5, hL5⟩ : ∃ L, L = rq L4 0 5 10 15 := ⟨_, rfl⟩
          rw [← hL5] at hx5
          have hl5 : L5.length = 16 := by rw [hL5, rq_length]; exact hl4
          have hw5 : Words L5 := by rw [hL5]; exact hw4.rq _ _ _ _
          have HL5 : Hid (L5 = rq L4 0 5 10 15) := hL5
          clear hL5 hx4 hlo5 hbq5 hb4 hl4 hw4
          go_wp2_with fail
          refine (rquarter_any L5 hl5 hw5 1 6 11 12 (by decide) (by decide) (by decide) (by decide) g5 c5 v5 hx5).mono ?_
          rintro e v6 ⟨g6, c6, rfl, hx6, hlo6, hbq6⟩
          have hb6 := hb5.trans (hbq6.mono hb5.size)
          obtain ⟨L6, hL6⟩ : ∃ L, L = rq L5 1 6 11 12 := ⟨_, rfl⟩
          rw [← hL6] at hx6
          have hl6 : L6.length = 16 := by rw [hL6, rq_length]; exact hl5
          have hw6 : Words L6 := by rw [hL6]; exact hw5.rq _ _ _ _
          have HL6 : Hid (L6 = rq L5 1 6 11 12) := hL6
          clear hL6 hx5 hlo6 hbq6 hb5 hl5 hw5
          go_wp2_with fail
          refine (rquarter_any L6 hl6 hw6 2 7 8 13 (by decide) (by decide) (by decide) (by decide) g6 c6 v6 hx6).mono ?_
          rintro e v7 ⟨g7, c7, rfl, hx7, hlo7, hbq7⟩
          have hb7 := hb6.trans (hbq7.mono hb6.size)
          obtain ⟨L7, hL7⟩ : ∃ L, L = rq L6 2 7 8 13 := ⟨_, rfl⟩
          rw [← hL7] at hx7
          have hl7 : L7.length = 16 := by rw [hL7, rq_length]; exact hl6
          have hw7 : Words L7 := by rw [hL7]; exact hw6.rq _ _ _ _
          have HL7 : Hid (L7 = rq L6 2 7 8 13) := hL7
          clear hL7 hx6 hlo7 hbq7 hb6 hl6 hw6
          go_wp2_with fail
          refine (rquarter_any L7 hl7 hw7 3 4 9 14 (by decide) (by decide) (by decide) (by decide) g7 c7 v7 hx7).mono ?_
          rintro e v8 ⟨g8, c8, rfl, hx8, hlo8, hbq8⟩
          have hb8 := hb7.trans (hbq8.mono hb7.size)
          obtain ⟨L8, hL8⟩ : ∃ L, L = rq L7 3 4 9 14 := ⟨_, rfl⟩
          rw [← hL8] at hx8
          have hl8 : L8.length = 16 := by rw [hL8, rq_length]; exact hl7
          have hw8 : Words L8 := by rw [hL8]; exact hw7.rq _ _ _ _
          have HL8 : Hid (L8 = rq L7 3 4 9 14) := hL8
          clear hL8 hx7 hlo8 hbq8 hb7 hl7 hw7
          have HF : Hid (IntsAt v8 g8 (S.rounds (j + 1)).toL ∧ Below w2.heap.size w2 v8) := by
            refine ⟨?_, hb8⟩
            show IntsAt v8 g8 (S.rounds j).cols.slants.toL
            rw [← rq_round, ← HL0.out, ← HL1.out, ← HL2.out, ← HL3.out, ← HL4.out, ← HL5.out, ← HL6.out, ← HL7.out, ← HL8.out]
            exact hx8
          clear hx8 hb8 hl8 hw8
          go_wp2
          go_roundw
          case rel => exact ⟨j + 1, g8, c8, by omega, by go_num, rfl, HF.out.1, HF.out.2⟩
          case measure => simp [intOf]; omega
        · obtain rfl : j = 10 := by omega
          rw [show ((10 : Nat) : Int) = 10 from rfl]
          generalize hwo : wr = wo at *
          clear hwo
          have hgs := HS2.out.1.lt
          have hs0 := HS2.out.1.below hb0 hgs
          have hbo : Below w.heap.size w wo := HS2.out.2.trans (hb0.mono HS2.out.2.size)
          have hwX : Words (S.rounds 10).toL := S16.rounds_ok HOK.out 10
          have hwS : Words S.toL := HOK.out
          obtain ⟨X, hX⟩ : ∃ X, X = (S.rounds 10).toL := ⟨_, rfl⟩
          rw [← hX] at hx0 hwX
          have HXX : Hid (X = (S.rounds 10).toL) := hX
          have HD : Hid (IntsAt wo g0 X ∧ IntsAt wo gs S.toL ∧ Below w.heap.size w wo) := ⟨hx0, hs0, hbo⟩
          clear hX hx0 hs0 hbo hb0 HS2
          go_wp2_with fail
          go_loopw [11, 12] (fun v i wz => ∃ j : Nat, j ≤ 16 ∧ i = .int .i64 j ∧ wz.ownsRow wo.heap.size 5 1 v (4 * j) (byV (blkN S j)) ∧ Below wo.heap.size wo wz) (fun _ i _ => 16 - (intOf i).toNat)
          case atStart => exact ⟨0, Nat.zero_le _, rfl, World.ownsRow_nil _ _ _ _, Below.refl _ _⟩
          case round =>
            obtain ⟨j, hj16, rfl, hown, hbz⟩ := hrel
            by_cases hl16 : j < 16
            · have cx := (hbz.cell (p := ⟨g0, j, none⟩) HD.out.1.lt).trans (HD.out.1.cells j hl16)
              have cy := (hbz.cell (p := ⟨gs, j, none⟩) HD.out.2.1.lt).trans (HD.out.2.1.cells j hl16)
              have lx := hwX.get j
              have ly := hwS.get j
              obtain ⟨y, hy⟩ : ∃ y, y = (X.getD j 0 + S.toL.getD j 0) % 4294967296 := ⟨_, rfl⟩
              have hx_ : IntKind.i64.wrap ((X.getD j 0 : Nat) + (S.toL.getD j 0 : Nat) : Int) = ((X.getD j 0 + S.toL.getD j 0 : Nat) : Int) := by rw [IntKind.wrap_i64]; omega
              have hc_ := fun w => rlow_z ((X.getD j 0 + S.toL.getD j 0 : Nat) : Int) (X.getD j 0 + S.toL.getD j 0) rfl (by omega) y hy w
              have HY : Hid (y = blkW S j) := by show _ = _; rw [hy, HXX.out]; rfl
              have ly' : y < 4294967296 := by rw [hy]; exact Nat.mod_lt _ (by decide)
              clear hy
              generalize X.getD j 0 + S.toL.getD j 0 = z at *
              generalize X.getD j 0 = X0 at *
              generalize S.toL.getD j 0 = Z0 at *
              have j16 : (j : Int) < 16 := by omega
              have HO : Hid (wr.ownsRow wo.heap.size 5 1 u11 (4 * j) (byV (blkN S j)) ∧ Below wo.heap.size wo wr) := ⟨hown, hbz⟩
              clear hown hbz
              go_wp2_with fail
              go_region_held3 (fun w' => w'.cell? ⟨g0, j, none⟩ = some (.int .i64 (X0 : Nat)) ∧ w'.cell? ⟨gs, j, none⟩ = some (.int .i64 (Z0 : Nat))) (simp [go_sem, *]) (first | (go_at_call 199; refine (hc_ _).mono ?_; rintro e w1 ⟨rfl, rfl⟩))
              clear cx cy lx ly hx_ hc_
              obtain ⟨wq, hwq⟩ : ∃ v, v = wr.drew := ⟨_, rfl⟩
              have hown : wq.ownsRow wo.heap.size 5 1 u11 (4 * j) (byV (blkN S j)) := by rw [hwq]; exact HO.out.1.drew
              have hbz : Below wo.heap.size wo wq := by rw [hwq]; exact HO.out.2.drew
              rw [← hwq]
              clear hwq HO
              obtain ⟨y0, hy0'⟩ : ∃ t, t = y % 256 := ⟨_, rfl⟩
              obtain ⟨y1, hy1'⟩ : ∃ t, t = y / 256 % 256 := ⟨_, rfl⟩
              obtain ⟨y2, hy2'⟩ : ∃ t, t = y / 65536 % 256 := ⟨_, rfl⟩
              obtain ⟨y3, hy3'⟩ : ∃ t, t = y / 16777216 % 256 := ⟨_, rfl⟩
              have f3 : IntKind.u8.wrap ((y : Int) / 16777216) = (y3 : Int) := by rw [IntKind.wrap_u8, hy3']; omega
              have f2 : IntKind.u8.wrap (bits .and .i64 ((y : Int) / 65536) 255) = (y2 : Int) := by
                rw [show (y : Int) / 65536 = ((y / 65536 : Nat) : Int) by omega, show (255 : Int) = ((255 : Nat) : Int) from rfl, i64_and_nat _ _ (by omega) (by decide), mask8, IntKind.wrap_u8, hy2']; omega
              have f1 : IntKind.u8.wrap (bits .and .i64 ((y : Int) / 256) 255) = (y1 : Int) := by
                rw [show (y : Int) / 256 = ((y / 256 : Nat) : Int) by omega, show (255 : Int) = ((255 : Nat) : Int) from rfl, i64_and_nat _ _ (by omega) (by decide), mask8, IntKind.wrap_u8, hy1']; omega
              have f0 : IntKind.u8.wrap (bits .and .i64 (y : Int) 255) = (y0 : Int) := by
                rw [show (255 : Int) = ((255 : Nat) : Int) from rfl, i64_and_nat _ _ (by omega) (by decide), mask8, IntKind.wrap_u8, hy0']; omega
              have HB : Hid (byV (blkN S (j + 1)) = byV (blkN S j) ++ [.int .u8 (y0 : Nat), .int .u8 (y1 : Nat), .int .u8 (y2 : Nat), .int .u8 (y3 : Nat)]) := by
                show _ = _
                rw [blkN, byV_append, ← HY.out, hy0', hy1', hy2', hy3']
                rfl
              clear hy0' hy1' hy2' hy3'
              have HNE : Hid (∀ g', u11.ownBlock = some g' → _ ≤ g') := fun g' hg' => (hown.lt g' hg').1
              go_wp2_with (at_builtin; refine wpList_append_lies _ rfl _ _ 143 rfl wo.heap.size 5 i1 (.int .u8 0) 1 1 Tryz.underlying143 hj hy0 hy1 hy2 rfl (by decide) u11 (4 * j) (byV (blkN S j)) rfl (hown.alloc _) ⟨wq.heap.size, 0, none⟩ 4 4 [.int .u8 (y0 : Nat), .int .u8 (y1 : Nat), .int .u8 (y2 : Nat), .int .u8 (y3 : Nat)] rfl rfl (World.news_of_block (heap_alloc_new _ _)) (four_one _ _ _ _) (by decide) ?c3 ?c4 ?c5 _ rfl ?_)
              case c3 => unfold maxLen; omega
              case c4 => omega
              case c5 => have := hbz.size; simp; omega
              intro g1 cap1 w1 hown1 hgrow1 hat1 hlt1
              have hb2 := (hbz.alloc hbz.size _).grown hgrow1 (by have := hbz.size; simp; omega) (fun g hg => HNE.out g hg)
              have hown2 := HB.out ▸ hown1
              have HF : Hid (_ ∧ _) := ⟨hown2, hb2⟩
              clear hown1 hown2 hgrow1 hat1 hlt1 hb2 hown hbz f0 f1 f2 f3 HNE
              go_wp2
              go_roundw
              case rel => exact ⟨j + 1, by omega, by go_num, HF.out.1, HF.out.2⟩
              case measure => simp [intOf]; omega
            · obtain rfl : j = 16 := by omega
              obtain ⟨g, cap, rfl, _, _⟩ := hown.form (by decide)
              have hcv := run_convert_bytes_arg (P := Tryz.prog) wr 143 5 Tryz.underlying143 Tryz.underlying5 g 0 64 cap ((blkL S).map fun (x : Nat) => (x : Int)) (by simp [blkL_length]) (fun i hi => by
                rw [Nat.zero_add, hown.cellAt i (by omega), show blkN S 16 = blkL S from rfl, byV_get _ _ (by rw [blkL_length]; exact hi), getD_at _ _ (by rw [blkL_length]; exact hi)]
                simp [List.getD, blkL_length, hi]) 9 Tryz.underlying9
              have HCV : Hid (strOfNums ((blkL S).map fun (x : Nat) => (x : Int)) = strN (chaL K N n)) := by show _ = _; rw [HCH.out]; rfl
              rw [HCV.out] at hcv
              have HF : Hid (Below w.heap.size w wr) := HD.out.2.2.trans (hbz.mono HD.out.2.2.size)
              clear hown hbz
              go_wp2
              go_ret
              exact ⟨rfl, HF.out⟩
end Go.Proofs.YtoopaigpjefonaaGreatDoor.Bx

namespace Go.Proofs.YtoopaigpjefonaaGreatDoor.Bx
set_option maxRecDepth 20000
open Go.RowKit

theorem ownsRow_below {w w' : World} {base : Nat} {e : TypeId} {size : Nat} {v : Value} {n : Nat} {xs : List Value} (hb : Below w.heap.size w w') (h : w.ownsRow base e size v n xs) : w'.ownsRow base e size v n xs := by
  obtain ⟨h1, h2⟩ := h
  refine ⟨h1, ?_⟩
  rcases h2 with h2 | ⟨g, cap, cur, hv, hg, hh, r⟩
  · exact .inl h2
  · exact .inr ⟨g, cap, cur, hv, hg, by rw [hb.block g (lt_of_block hh)]; exact hh, r⟩
theorem rStream_bad (key nonce s : ByteArray) (at_ : Int) (h : ¬ (key.size = 32 ∧ nonce.size = 12)) (w : World) :
    Calls Tryz.prog 172 #[.string key, .string nonce, .int .i64 at_, .string s] w fun e w' => e = .returned (.tuple #[.string ⟨#[]⟩, .int .i64 1]) ∧ w' = w := by
  by_cases h1 : key.size = 32
  · have h2 : ¬ nonce.size = 12 := fun hh => h ⟨h1, hh⟩
    have h3 : ¬ (nonce.size : Int) = 12 := by omega
    clear h
    go_enter Tryz.func172, Tryz.ntmps172
    go_wp2
    go_ret2
    exact ⟨rfl, rfl⟩
  · have h3 : ¬ (key.size : Int) = 32 := by omega
    clear h
    go_enter Tryz.func172, Tryz.ntmps172
    go_wp2
    go_ret2
    exact ⟨rfl, rfl⟩
set_option maxRecDepth 10000 in
set_option maxHeartbeats 1000000 in
theorem rStream_range (key nonce s : ByteArray) (hk : key.size = 32) (hn : nonce.size = 12) (hs : s.size ≤ 1048576) (at_ : Int) (h : strmB at_ s.size) (w : World) :
    Calls Tryz.prog 172 #[.string key, .string nonce, .int .i64 at_, .string s] w fun e w' => e = .returned (.tuple #[.string ⟨#[]⟩, .int .i64 2]) ∧ w' = w := by
  by_cases h1 : at_ < 0
  · clear h
    go_enter Tryz.func172, Tryz.ntmps172
    go_wp2
    go_ret2
    exact ⟨rfl, rfl⟩
  · by_cases h2 : 4294967295 < at_
    · clear h
      go_enter Tryz.func172, Tryz.ntmps172
      go_wp2
      go_ret2
      exact ⟨rfl, rfl⟩
    · obtain ⟨a, rfl⟩ : ∃ a : Nat, at_ = a := ⟨at_.toNat, by omega⟩
      have h3 : (4294967296 : Int) - a < ((s.size + 63) / 64 : Nat) := by
        rcases h with h | h | h
        · omega
        · omega
        · exact h
      have h4 : (4294967296 : Int) - a < ((s.size : Int) + 63) / 64 := by omega
      have ha : (a : Int) ≤ 4294967295 := by omega
      clear h h3
      go_enter Tryz.func172, Tryz.ntmps172
      go_wp2
      go_ret2
      exact ⟨rfl, rfl⟩

/-- The block at hand before byte j. -/
def keyAt (K N : List Nat) (a j : Nat) : Value := .string (strN (chaL K N (a + j / 64)))
theorem chaS_at (K N : List Nat) (a : Nat) (l : List Nat) (j : Nat) (h : j < l.length) : (chaS K N a l).getD j 0 = l.getD j 0 ^^^ (chaL K N (a + j / 64)).getD (j % 64) 0 := by
  rw [List.getD_eq_getElem?_getD, chaS, List.getElem?_map, List.getElem?_range h]
  rfl
theorem chaL_bytes (K N : List Nat) (n : Nat) : Bytes (chaL K N n) := blkL_bytes _

set_option maxRecDepth 10000 in
set_option maxHeartbeats 1000000 in
theorem rStream_ok (key nonce s : ByteArray) (hk : key.size = 32) (hn : nonce.size = 12) (hs : s.size ≤ 1048576) (a : Nat) (h : ¬ strmB a s.size) (w : World) :
    Calls Tryz.prog 172 #[.string key, .string nonce, .int .i64 a, .string s] w fun e w' => e = .returned (.tuple #[.string (strN (chaS (numsOf key) (numsOf nonce) a (numsOf s))), .int .i64 0]) ∧ Below w.heap.size w w' := by
  obtain ⟨i1, hj, hy0, hy1, hy2⟩ := info_parts info_u8
  have ha : (a : Int) ≤ 4294967295 := by unfold strmB at h; omega
  have h1 : ¬ (a : Int) < 0 := by omega
  have h2 : ¬ (4294967295 : Int) < a := by omega
  have h3 : a + (s.size + 63) / 64 ≤ 4294967296 := by unfold strmB at h; omega
  have h4 : ¬ (4294967296 : Int) - a < ((s.size : Int) + 63) / 64 := by omega
  have HBL : Hid (∀ n : Nat, n < 4294967296 → ∀ w, Calls Tryz.prog 189 #[.string key, .string nonce, .int .i64 n] w fun e w' => e = .returned (.string (strN (chaL (numsOf key) (numsOf nonce) n))) ∧ Below w.heap.size w w') := fun n hn' w => rBlock_any key nonce hk hn n hn' w
  have HTV : Hid (∀ j, j < s.size → (chaS (numsOf key) (numsOf nonce) a (numsOf s)).getD j 0 = (numsOf s).getD j 0 ^^^ (chaL (numsOf key) (numsOf nonce) (a + j / 64)).getD (j % 64) 0) := fun j hj => chaS_at _ _ _ _ j (by rw [numsOf_length]; exact hj)
  have HTL : Hid ((chaS (numsOf key) (numsOf nonce) a (numsOf s)).length = s.size) := by show _ = _; rw [chaS_length, numsOf_length]
  have H3 : Hid (a + (s.size + 63) / 64 ≤ 4294967296) := h3
  generalize numsOf key = K at *
  generalize numsOf nonce = N at *
  generalize chaS K N a (numsOf s) = T at *
  clear h h3
  go_enter Tryz.func172, Tryz.ntmps172
  go_wp2_with fail
  go_loopw [10, 11, 12] (fun v kv i wz => ∃ j : Nat, j ≤ s.size ∧ i = .int .i64 j ∧ wz.ownsRow w.heap.size 5 1 v j (byV (T.take j)) ∧ Below w.heap.size w wz ∧ (j = 0 → v = .slice none 0 0) ∧ (j ≠ 0 → kv = keyAt K N a (j - 1))) (fun _ _ i _ => s.size - (intOf i).toNat)
  case atStart => exact ⟨0, Nat.zero_le _, rfl, World.ownsRow_nil _ _ _ _, Below.refl _ _, fun _ => rfl, fun h => absurd rfl h⟩
  case round =>
    obtain ⟨j, hjs, rfl, hown, hb, hz, hkv⟩ := hrel
    by_cases hlt : j < s.size
    · have hlti : (j : Int) < s.size := by omega
      have HBN : Hid (numsOf (strN (chaL K N (a + j / 64))) = chaL K N (a + j / 64)) := numsOf_strN _ (chaL_bytes _ _ _)
      have HBS : Hid ((strN (chaL K N (a + j / 64))).size = 64) := by show _ = _; rw [strN_size, chaL_length]
      have HNX : Hid (Value.string (strN (chaL K N (a + j / 64))) = keyAt K N a (j + 1 - 1)) := rfl
      have HTJ : Hid (T.getD j 0 = (numsOf s).getD j 0 ^^^ (chaL K N (a + j / 64)).getD (j % 64) 0) := HTV.out j hlt
      clear HTV
      by_cases hr : j % 64 = 0
      · have hri : (j : Int) % 64 = 0 := by omega
        have hbl := HBL.out (a + j / 64) (by have := H3.out; omega)
        have hai : IntKind.i64.wrap ((a : Int) + (j : Int) / 64) = ((a + j / 64 : Nat) : Int) := by rw [IntKind.wrap_i64]; omega
        have HHB : Hid (wr.ownsRow w.heap.size 5 1 u10 j (byV (T.take j)) ∧ Below w.heap.size w wr) := ⟨hown, hb⟩
        have HR : Hid (j % 64 = 0) := hr
        clear hown hb hz hkv HBL hr
        generalize strN (chaL K N (a + j / 64)) = B at *
        generalize a + j / 64 = m at *
        · go_wp2_with fail
          refine (hbl _).mono ?_
          rintro e wq ⟨rfl, hbq⟩
          have hown : wq.ownsRow w.heap.size 5 1 u10 j (byV (T.take j)) := ownsRow_below hbq HHB.out.1
          have hb := HHB.out.2.trans (hbq.mono HHB.out.2.size)
          clear hbl hbq HHB hai
          have b0 : 0 < B.size := by rw [HBS.out]; omega
          have i0' : ((0 : Nat) : Int) < B.size := by rw [HBS.out]; omega
          have vx := u8_xor_nat s[j].toNat (B[0]'b0).toNat s[j].toNat_lt (B[0]'b0).toNat_lt
          have HV : Hid (s[j].toNat ^^^ (B[0]'b0).toNat = T.getD j 0) := by
            show _ = _
            rw [HTJ.out, ← nums_at s j hlt, ← nums_at B 0 b0, HBN.out, HR.out]
          generalize s[j].toNat ^^^ (B[0]'b0).toNat = v at *
          have HB : Hid (byV (T.take (j + 1)) = byV (T.take j) ++ [.int .u8 (v : Nat)]) := by
            show _ = _
            rw [List.take_succ_eq_append_getElem (by have := HTL.out; omega), byV_append, HV.out, getD_at _ _ (by have := HTL.out; omega)]
            rfl
          have HO : Hid (∀ o, ((wq.alloc o).drew).ownsRow w.heap.size 5 1 u10 j (byV (T.take j)) ∧ Below w.heap.size w ((wq.alloc o).drew)) := fun o => ⟨(hown.alloc o).drew, (hb.alloc hb.size o).drew⟩
          have HNE : Hid (∀ g', u10.ownBlock = some g' → w.heap.size ≤ g') := fun g' hg' => (hown.lt g' hg').1
          clear hown hb HTJ HV
          have htm : (j : Int).tmod 64 = 0 := by rw [Int.tmod_eq_emod_of_nonneg (by omega)]; exact hri
          have n1 : (0 : Int) < B.size := by rw [HBS.out]; decide
          have n2 : 0 < B.size := by rw [HBS.out]; decide
          go_wp2_with fail
          go_region_held3 (fun _ => True) (simp [go_sem, *]) (first | (refine step_append_lies _ rfl _ _ 143 rfl _ 5 i1 (.int .u8 0) 1 1 Tryz.underlying143 hj hy0 hy1 hy2 rfl (by decide) u10 j _ rfl (HO.out _).1 ⟨wq.heap.size, 0, none⟩ 1 1 [.int .u8 (v : Nat)] rfl rfl (World.news_of_block (heap_alloc_new wq _)) (by intro u hu; rw [List.mem_singleton] at hu; rw [hu]; rfl) (by decide) (by unfold maxLen; omega) (by omega) (HO.out _).2.size _ rfl ?_; intro g1 cap1 w1 hown1 hgrow1 hat1 hlt1))
          all_goals
            have hb2 := (HO.out _).2.grown hgrow1 (HO.out _).2.size (fun g hg => HNE.out g hg)
            have hown2 := HB.out ▸ hown1
            have HF : Hid (_ ∧ _) := ⟨hown2, hb2⟩
            clear hown1 hown2 hgrow1 hat1 hlt1 hb2
            go_wp2
            go_roundw
            case rel => exact ⟨j + 1, by omega, by go_num, HF.out.1, HF.out.2, fun h => by omega, fun h => HNX.out⟩
            case measure => simp [intOf]; omega

      · obtain ⟨r, hrr⟩ : ∃ r, r = j % 64 := ⟨_, rfl⟩
        have hri : (j : Int) % 64 = (r : Int) := by omega
        have hr64 : r < 64 := by omega
        have hr0 : ¬ (r : Int) = 0 := by omega
        have hr0' : ¬ r = 0 := by omega
        have hkv' := hkv (by omega)
        have hd : (j - 1) / 64 = j / 64 := by omega
        rw [keyAt, hd] at hkv'
        have HR : Hid (r = j % 64) := hrr
        clear hz hkv HBL hr hd hrr
        generalize strN (chaL K N (a + j / 64)) = B at *
        generalize a + j / 64 = m at *
        subst hkv'
        obtain ⟨wq, hwq⟩ : ∃ v, v = wr := ⟨_, rfl⟩
        subst hwq
        · skip
          have b0 : r < B.size := by rw [HBS.out]; omega
          have i0' : ((r : Nat) : Int) < B.size := by rw [HBS.out]; omega
          have vx := u8_xor_nat s[j].toNat (B[r]'b0).toNat s[j].toNat_lt (B[r]'b0).toNat_lt
          have HV : Hid (s[j].toNat ^^^ (B[r]'b0).toNat = T.getD j 0) := by
            show _ = _
            rw [HTJ.out, ← nums_at s j hlt, ← nums_at B r b0, HBN.out, HR.out]
          generalize s[j].toNat ^^^ (B[r]'b0).toNat = v at *
          have HB : Hid (byV (T.take (j + 1)) = byV (T.take j) ++ [.int .u8 (v : Nat)]) := by
            show _ = _
            rw [List.take_succ_eq_append_getElem (by have := HTL.out; omega), byV_append, HV.out, getD_at _ _ (by have := HTL.out; omega)]
            rfl
          have HO : Hid (∀ o, ((wq.alloc o).drew).ownsRow w.heap.size 5 1 u10 j (byV (T.take j)) ∧ Below w.heap.size w ((wq.alloc o).drew)) := fun o => ⟨(hown.alloc o).drew, (hb.alloc hb.size o).drew⟩
          have HNE : Hid (∀ g', u10.ownBlock = some g' → w.heap.size ≤ g') := fun g' hg' => (hown.lt g' hg').1
          clear hown hb HTJ HV
          have htm : (j : Int).tmod 64 = (r : Int) := by rw [Int.tmod_eq_emod_of_nonneg (by omega)]; exact hri
          go_wp2_with fail
          go_region_held3 (fun _ => True) (simp [go_sem, *]) (first | (refine step_append_lies _ rfl _ _ 143 rfl _ 5 i1 (.int .u8 0) 1 1 Tryz.underlying143 hj hy0 hy1 hy2 rfl (by decide) u10 j _ rfl (HO.out _).1 ⟨wq.heap.size, 0, none⟩ 1 1 [.int .u8 (v : Nat)] rfl rfl (World.news_of_block (heap_alloc_new wq _)) (by intro u hu; rw [List.mem_singleton] at hu; rw [hu]; rfl) (by decide) (by unfold maxLen; omega) (by omega) (HO.out _).2.size _ rfl ?_; intro g1 cap1 w1 hown1 hgrow1 hat1 hlt1))
          all_goals
            have hb2 := (HO.out _).2.grown hgrow1 (HO.out _).2.size (fun g hg => HNE.out g hg)
            have hown2 := HB.out ▸ hown1
            have HF : Hid (_ ∧ _) := ⟨hown2, hb2⟩
            clear hown1 hown2 hgrow1 hat1 hlt1 hb2
            go_wp2
            go_roundw
            case rel => exact ⟨j + 1, by omega, by go_num, HF.out.1, HF.out.2, fun h => by omega, fun h => HNX.out⟩
            case measure => simp [intOf]; omega

    · obtain rfl : j = s.size := by omega
      clear HBL HTV
      rw [List.take_of_length_le (by have := HTL.out; omega)] at hown
      have HF : Hid (Below w.heap.size w wr) := hb
      by_cases h0 : s.size = 0
      · obtain rfl := hz h0
        have hT : strN T = ⟨#[]⟩ := by
          obtain rfl : T = [] := List.eq_nil_of_length_eq_zero (by have := HTL.out; omega)
          rfl
        have hcv := fun W => run_convert_bytes_nil (P := Tryz.prog) W 143 5 Tryz.underlying143 Tryz.underlying5 0 0 9 Tryz.underlying9
        clear hown hb hz hkv
        have HT : Hid (strN T = ⟨#[]⟩) := hT
        clear hT
        go_wp2
        first
          | (rw [hcv]; go_wp2)
          | skip
        go_ret2
        exact ⟨by rw [HT.out]; rfl, HF.out⟩
      · obtain ⟨g, cap, rfl, _, _⟩ := hown.form (by omega)
        have hcv := run_convert_bytes_arg (P := Tryz.prog) wr 143 5 Tryz.underlying143 Tryz.underlying5 g 0 s.size cap (T.map fun (x : Nat) => (x : Int)) (by simp; exact HTL.out) (fun i hi => by
          have hl := HTL.out
          rw [Nat.zero_add, hown.cellAt i (by omega), byV_get _ _ (by omega), getD_at _ _ (by omega)]
          rw [List.getD_eq_getElem?_getD, List.getElem?_map, List.getElem?_eq_getElem (by omega)]; rfl) 9 Tryz.underlying9
        rw [show strOfNums (T.map fun (x : Nat) => (x : Int)) = strN T from rfl] at hcv
        clear hown hb hz hkv
        go_wp2
        first
          | (rw [hcv]; go_wp2)
          | skip
        go_ret2
        exact ⟨rfl, HF.out⟩

theorem rStream_any (key nonce s : ByteArray) (hs : s.size ≤ 1048576) (at_ : Int) (w : World) :
    Calls Tryz.prog 172 #[.string key, .string nonce, .int .i64 at_, .string s] w fun e w' => e = .returned (.tuple #[.string (strmS key nonce at_ s), .int .i64 (strmE key nonce at_ s : Nat)]) ∧ Below w.heap.size w w' := by
  by_cases h : key.size = 32 ∧ nonce.size = 12
  · by_cases hb : strmB at_ s.size
    · have e : strmE key nonce at_ s = 2 := by unfold strmE; rw [if_neg (fun hh => hh h), if_pos hb]
      unfold strmS
      rw [e, if_neg (by decide)]
      refine (rStream_range key nonce s h.1 h.2 hs at_ hb w).mono ?_
      rintro e w' ⟨rfl, rfl⟩
      exact ⟨rfl, Below.refl _ _⟩
    · have e : strmE key nonce at_ s = 0 := by unfold strmE; rw [if_neg (fun hh => hh h), if_neg hb]
      unfold strmS
      rw [e, if_pos rfl]
      obtain ⟨a, rfl⟩ : ∃ a : Nat, at_ = a := ⟨at_.toNat, by unfold strmB at hb; omega⟩
      exact rStream_ok key nonce s h.1 h.2 hs a hb w
  · have e : strmE key nonce at_ s = 1 := by unfold strmE; rw [if_pos h]
    unfold strmS
    rw [e, if_neg (by decide)]
    refine (rStream_bad key nonce s at_ h w).mono ?_
    rintro e w' ⟨rfl, rfl⟩
    exact ⟨rfl, Below.refl _ _⟩
end Go.Proofs.YtoopaigpjefonaaGreatDoor.Bx

namespace Go.Proofs.YtoopaigpjefonaaGreatDoor.Bx
set_option maxRecDepth 20000
open Go.RowKit

theorem numsOf_add (a b : ByteArray) : numsOf (a ++ b) = numsOf a ++ numsOf b := by simp [numsOf, ByteArray.data_append]

set_option maxRecDepth 10000 in
set_option maxHeartbeats 4000000 in
theorem rmark_any (key nonce ad c : ByteArray) (hk : key.size = 32) (hn : nonce.size = 12) (had : ad.size ≤ 1048576) (hc : c.size ≤ 1048576) (w : World) :
    Calls Tryz.prog 173 #[.string key, .string nonce, .string ad, .string c] w fun e w' => e = .returned (.string (strN (sealG key nonce ad (numsOf c)))) ∧ Below w.heap.size w w' := by
  have hB := fun W => rBlock_any key nonce hk hn 0 (by decide) W
  have hBl : (chaL (numsOf key) (numsOf nonce) 0).length = 64 := chaL_length _ _ _
  have hBb : Bytes (chaL (numsOf key) (numsOf nonce) 0) := chaL_bytes _ _ _
  have hG : sealG key nonce ad (numsOf c) = polyT ((chaL (numsOf key) (numsOf nonce) 0).take 32) (fill16 (numsOf ad) ++ fill16 (numsOf c) ++ (leB 8 ad.size ++ leB 8 c.size)) := by
    rw [sealG, sealT, sealM, numsOf_length, numsOf_length]
  rw [hG]
  clear hG
  generalize chaL (numsOf key) (numsOf nonce) 0 = BL at *
  have hBs : (strN BL).size = 64 := by rw [strN_size]; exact hBl
  have hKn : numsOf ((strN BL).extract 0 32) = BL.take 32 := by rw [numsOf_extract, numsOf_strN _ hBb]; rfl
  have hKs : ((strN BL).extract 0 32).size = 32 := by simp; omega
  obtain ⟨E, hEe⟩ : ∃ E : ByteArray → ByteArray, E = fun s => strN (fill16 (numsOf s)) := ⟨_, rfl⟩
  obtain ⟨L, hLe⟩ : ∃ L : Nat → ByteArray, L = fun n => strN (leB 8 n) := ⟨_, rfl⟩
  have hE : ∀ s : ByteArray, s.size ≤ 1048576 → ∀ W, Calls Tryz.prog 191 #[.string s] W fun e w' => e = .returned (.string (E s)) ∧ Below W.heap.size W w' := fun s hs W => by
    rw [hEe]
    exact (reven_any s hs W).mono fun e w' ⟨h, h2⟩ => ⟨h, by rw [h2]; exact Below.refl _ _⟩
  have hL : ∀ n : Nat, n ≤ 1048576 → ∀ W, Calls Tryz.prog 192 #[.int .i64 n] W fun e w' => e = .returned (.string (L n)) ∧ Below W.heap.size W w' := fun n hn W => by
    rw [hLe]
    exact rlong_any n (by omega) W
  have z1 : (E ad).size ≤ 1048592 := by rw [hEe]; show (strN (fill16 (numsOf ad))).size ≤ _; rw [strN_size, fill16]; simp [numsOf_length]; omega
  have z2 : (E c).size ≤ 1048592 := by rw [hEe]; show (strN (fill16 (numsOf c))).size ≤ _; rw [strN_size, fill16]; simp [numsOf_length]; omega
  have z3 : (L ad.size).size = 8 := by rw [hLe]; show (strN (leB 8 ad.size)).size = _; rw [strN_size, leB_length]
  have z4 : (L c.size).size = 8 := by rw [hLe]; show (strN (leB 8 c.size)).size = _; rw [strN_size, leB_length]
  have n1 : numsOf (E ad) = fill16 (numsOf ad) := by rw [hEe]; exact numsOf_strN _ (fill16_bytes _ (numsOf_bytes ad))
  have n2 : numsOf (E c) = fill16 (numsOf c) := by rw [hEe]; exact numsOf_strN _ (fill16_bytes _ (numsOf_bytes c))
  have n3 : numsOf (L ad.size) = leB 8 ad.size := by rw [hLe]; exact numsOf_strN _ (leB_bytes _ _)
  have n4 : numsOf (L c.size) = leB 8 c.size := by rw [hLe]; exact numsOf_strN _ (leB_bytes _ _)
  rw [← n1, ← n2, ← n3, ← n4]
  clear n1 n2 n3 n4 hEe hLe
  have hM : numsOf (E ad) ++ numsOf (E c) ++ (numsOf (L ad.size) ++ numsOf (L c.size)) = numsOf (E ad ++ E c ++ L ad.size ++ L c.size) := by
    rw [numsOf_add, numsOf_add, numsOf_add, List.append_assoc (numsOf (E ad) ++ numsOf (E c))]
  rw [hM, ← hKn]
  clear hM hKn
  have y1 : (E ad ++ E c).size ≤ 2097184 := by rw [ByteArray.size_append]; omega
  have y2 : (E ad ++ E c ++ L ad.size).size ≤ 2097192 := by rw [ByteArray.size_append]; omega
  have y3 : (E ad ++ E c ++ L ad.size ++ L c.size).size ≤ 2097200 := by rw [ByteArray.size_append]; omega
  have a1 : ∀ w', (Op.stringOp .add (E ad) (E c)).run Tryz.prog w' = .ok (.string (E ad ++ E c)) w' := fun w' => run_string_add_sum (P := Tryz.prog) (w := w') _ _ (by omega)
  have a2 : ∀ w', (Op.stringOp .add (E ad ++ E c) (L ad.size)).run Tryz.prog w' = .ok (.string (E ad ++ E c ++ L ad.size)) w' := fun w' => run_string_add_sum (P := Tryz.prog) (w := w') _ _ (by omega)
  have a3 : ∀ w', (Op.stringOp .add (E ad ++ E c ++ L ad.size) (L c.size)).run Tryz.prog w' = .ok (.string (E ad ++ E c ++ L ad.size ++ L c.size)) w' := fun w' => run_string_add_sum (P := Tryz.prog) (w := w') _ _ (by omega)
  have hT := fun W => rTag_any ((strN BL).extract 0 32) (E ad ++ E c ++ L ad.size ++ L c.size) (by omega) W
  have hTS : tagS ((strN BL).extract 0 32) (E ad ++ E c ++ L ad.size ++ L c.size) = strN (polyT (numsOf ((strN BL).extract 0 32)) (numsOf (E ad ++ E c ++ L ad.size ++ L c.size))) := by unfold tagS; rw [if_pos hKs]
  have hTE : tagE ((strN BL).extract 0 32) = 0 := by unfold tagE; rw [if_pos hKs]
  rw [← hTS]
  simp only [hTE] at hT
  generalize tagS ((strN BL).extract 0 32) (E ad ++ E c ++ L ad.size ++ L c.size) = T at *
  generalize E ad ++ E c ++ L ad.size ++ L c.size = X3 at *
  generalize E ad ++ E c ++ L ad.size = X2 at *
  generalize E ad ++ E c = X1 at *
  generalize strN BL = BS at *
  have xk : BS.extract 0 32 = BS.extract 0 32 := rfl
  clear z1 z2 z3 z4 y1 y2 y3 hTS hTE hBl hBb hKs xk
  have s64 : (32 : Int) ≤ (BS.size : Int) := by omega
  go_enter Tryz.func173, Tryz.ntmps173
  go_wp2_with fail
  go_region_held3 (fun _ => True) (exact trivial) (first | (go_at_call 189; refine (hB _).mono ?_; rintro e wA ⟨rfl, hbA⟩; have hb := (Below.refl w.heap.size w).drew.trans hbA) | (go_at_call 191; refine (hE _ (by first | exact had | exact hc) _).mono ?_; rintro e wB ⟨rfl, hbB⟩; have hb := hb.trans (hbB.mono hb.size)) | (go_at_call 192; refine (hL _ (by first | exact had | exact hc) _).mono ?_; rintro e wD ⟨rfl, hbD⟩; have hb := hb.trans (hbD.mono hb.size)) | (go_at_call 190; refine (hT _).mono ?_; rintro e wF ⟨rfl, hbF⟩; have hb := hb.trans (hbF.mono hb.size)))
  have HF : Hid (Below w.heap.size w wF) := hb
  clear hb
  go_wp2
  go_ret
  exact ⟨rfl, HF.out⟩
end Go.Proofs.YtoopaigpjefonaaGreatDoor.Bx

namespace Go.Proofs.YtoopaigpjefonaaGreatDoor.Bx
set_option maxRecDepth 20000
open Go.RowKit

theorem strm_ok (key nonce s : ByteArray) (h : fitP key nonce) (hs : s.size ≤ 1048576) : strmE key nonce 1 s = 0 ∧ strmS key nonce 1 s = strN (chaS (numsOf key) (numsOf nonce) 1 (numsOf s)) := by
  have e1 : strmE key nonce 1 s = 0 := by
    unfold strmE
    rw [if_neg (fun hh => hh h), if_neg]
    unfold strmB
    omega
  refine ⟨e1, ?_⟩
  unfold strmS
  rw [if_pos e1]
  rfl
theorem strm_bad (key nonce s : ByteArray) (h : ¬ fitP key nonce) : strmE key nonce 1 s = 1 ∧ strmS key nonce 1 s = ⟨#[]⟩ := by
  have e1 : strmE key nonce 1 s = 1 := by
    unfold strmE
    exact if_pos h
  refine ⟨e1, ?_⟩
  unfold strmS
  rw [e1]
  rfl

set_option maxRecDepth 10000 in
set_option maxHeartbeats 1000000 in
theorem rSeal_ok (key nonce ad s : ByteArray) (h : fitP key nonce) (had : ad.size ≤ 1048576) (hs : s.size ≤ 1048576) (w : World) :
    Calls Tryz.prog 149 #[.string key, .string nonce, .string ad, .string s] w fun e w' => e = .returned (.tuple #[.string (strN (sealC key nonce s ++ sealG key nonce ad (sealC key nonce s))), .int .i64 0]) ∧ Below w.heap.size w w' := by
  have hSt := fun W => rStream_any key nonce s hs 1 W
  obtain ⟨e1, e2⟩ := strm_ok key nonce s h hs
  simp only [e1, e2] at hSt
  have hcb : Bytes (sealC key nonce s) := chaS_bytes _ _ _ _ (numsOf_bytes s)
  have hcl : (sealC key nonce s).length = s.size := by rw [sealC, chaS_length, numsOf_length]
  have hMk := fun W => rmark_any key nonce ad (strN (sealC key nonce s)) h.1 h.2 had (by rw [strN_size, hcl]; exact hs) W
  rw [numsOf_strN _ hcb] at hMk
  have hSt' : ∀ W, Calls Tryz.prog 172 #[.string key, .string nonce, .int .i64 1, .string s] W fun e w' => e = .returned (.tuple #[.string (strN (sealC key nonce s)), .int .i64 0]) ∧ Below W.heap.size W w' := hSt
  clear hSt
  have hgl : (sealG key nonce ad (sealC key nonce s)).length = 16 := polyT_length _ _
  rw [← strN_append]
  have hz1 : (strN (sealC key nonce s)).size = s.size := by rw [strN_size, hcl]
  have hz2 : (strN (sealG key nonce ad (sealC key nonce s))).size = 16 := by rw [strN_size, hgl]
  generalize strN (sealG key nonce ad (sealC key nonce s)) = G at *
  generalize strN (sealC key nonce s) = C at *
  obtain ⟨CG, hCG⟩ : ∃ CG, CG = C ++ G := ⟨_, rfl⟩
  have hadd : ∀ w', (Op.stringOp .add C G).run Tryz.prog w' = .ok (.string CG) w' := fun w' => by rw [hCG]; exact run_string_add_sum (P := Tryz.prog) (w := w') C G (by omega)
  rw [← hCG]
  clear hCG hcb hcl hgl e1 e2 h
  go_enter Tryz.func149, Tryz.ntmps149
  go_wp2_with fail
  refine (hSt' _).mono ?_
  rintro e w1 ⟨rfl, hb1⟩
  clear hSt'
  go_wp2_with fail
  refine (hMk _).mono ?_
  rintro e w2 ⟨rfl, hb2⟩
  have hb3 := hb1.trans (hb2.mono hb1.size)
  clear hMk hb1 hb2
  go_wp2
  go_ret2
  exact ⟨rfl, hb3⟩

set_option maxRecDepth 10000 in
set_option maxHeartbeats 1000000 in
theorem rSeal_bad (key nonce ad s : ByteArray) (h : ¬ fitP key nonce) (hs : s.size ≤ 1048576) (w : World) :
    Calls Tryz.prog 149 #[.string key, .string nonce, .string ad, .string s] w fun e w' => e = .returned (.tuple #[.string ⟨#[]⟩, .int .i64 1]) ∧ Below w.heap.size w w' := by
  have hSt := fun W => rStream_any key nonce s hs 1 W
  obtain ⟨e1, e2⟩ := strm_bad key nonce s h
  simp only [e1, e2] at hSt
  clear e1 e2 h
  go_enter Tryz.func149, Tryz.ntmps149
  go_wp2_with fail
  refine (hSt _).mono ?_
  rintro e w1 ⟨rfl, hb1⟩
  clear hSt
  go_wp2
  go_ret2
  exact ⟨rfl, hb1⟩
theorem rSeal_any (key nonce ad s : ByteArray) (had : ad.size ≤ 1048576) (hs : s.size ≤ 1048576) (w : World) :
    Calls Tryz.prog 149 #[.string key, .string nonce, .string ad, .string s] w fun e w' => e = .returned (.tuple #[.string (sealS key nonce ad s), .int .i64 (sealE key nonce : Nat)]) ∧ Below w.heap.size w w' := by
  unfold sealS sealE
  by_cases h : fitP key nonce
  · rw [if_pos h, if_pos h]
    exact rSeal_ok key nonce ad s h had hs w
  · rw [if_neg h, if_neg h]
    exact rSeal_bad key nonce ad s h hs w

end Go.Proofs.YtoopaigpjefonaaGreatDoor.Bx

namespace Go.Proofs.YtoopaigpjefonaaGreatDoor
set_option maxRecDepth 20000
open Go.RowKit

def realF : PF := ⟨fun s => Sm.shaS (Sm.numsOf s), Sm.macS, fun k i => Sm.expS k i 32, Bx.sealS, fun k n => (Bx.sealE k n : Nat), Bx.openS, fun k n a s => (Bx.openE k n a s : Nat)⟩
def TabR (w : World) : Prop := Sm.First w ∧ Sm.Cubes w
theorem macS_size (k s : ByteArray) : (Sm.macS k s).size = 32 := by
  unfold Sm.macS
  rw [strOfNums_size, List.length_map, Sm.macL_length]
theorem expS_size (k i : ByteArray) : (Sm.expS k i 32).size = 32 := by
  unfold Sm.expS Sm.expL
  rw [strOfNums_size, List.length_map, List.length_take, Sm.catD_length _ (fun j => Sm.expT_length _ _ j)]
  decide
theorem strS_size (p s : ByteArray) (r : Nat) : (Sm.strS p s r 32).size = 32 := by
  unfold Sm.strS
  rw [strOfNums_size, List.length_map, List.length_take, Sm.catD_length _ (fun j => Sm.strB_length _ _ _ _)]
  decide
theorem prims6 : Prims TabR realF where
  tab h hb := ⟨h.1.below hb h.1.1, h.2.below hb h.2.1⟩
  sum s hs w ht := Sm.sum_any s (by omega) w ht.1 ht.2
  macz := macS_size
  exp k i hk hi w ht := Sm.Expand_in k i 32 (by decide) (by omega) hi w ht.1 ht.2
  expz := expS_size
  shut k n a s ha hs w := Bx.Seal_any k n a s ha hs w
  opn k n a s ha hs w := Bx.Open_any k n a s ha hs w
  same a b ha w := Bx.same_any a b ha w
theorem backs6 : Backs6 realF where
  back k n a s hk hn ha hs := by
    obtain ⟨h1, h2, h3⟩ := Bx.back_math k n a s
    have hf : Bx.fitP k n := ⟨hk, hn⟩
    have e0 : Bx.sealS k n a s = Bx.strN (Bx.sealC k n s ++ Bx.sealG k n a (Bx.sealC k n s)) := by unfold Bx.sealS; rw [if_pos hf]
    have e1 : Bx.sealE k n = 0 := by unfold Bx.sealE; rw [if_pos hf]
    have e2 : Bx.openE k n a (Bx.sealS k n a s) = 0 := by unfold Bx.openE; rw [if_pos hf, e0, if_neg (by omega), if_pos h2]
    have e3 : Bx.openS k n a (Bx.sealS k n a s) = s := by unfold Bx.openS; rw [if_pos e2, e0, h3]
    refine ⟨?_, ?_, e3, ?_⟩
    · show ((Bx.sealE k n : Nat) : Int) = 0
      rw [e1]; rfl
    · show ((Bx.openE k n a (Bx.sealS k n a s) : Nat) : Int) = 0
      rw [e2]; rfl
    · show (Bx.sealS k n a s).size = s.size + 16
      rw [e0, h1]
theorem rprims6 : RPrims realF where
  sum s hs w := Sm.rsum_any s (by omega) w
  mac k s hk hs w := Sm.rMac_any k s (by omega) (by omega) w
  macz := macS_size
  exp k i hk hi w := Sm.rExpand_in k i 32 (by decide) (by omega) hi w
  expz := expS_size
  shut k n a s ha hs w := Bx.rSeal_any k n a s ha hs w
theorem stretch6 (pass : ByteArray) (hp : pass.size ≤ 64) : ∃ X : ByteArray, X.size = 32 ∧ (∀ w, TabR w → Calls Tryz.prog 48 #[.string pass, .string ⟨#[115]⟩, .int .i64 1, .int .i64 32] w fun e w' => e = .returned (.tuple #[.string X, .int .i64 0]) ∧ Below w.heap.size w w') ∧ ∀ w, Calls Tryz.prog 49 #[.string pass, .string ⟨#[115]⟩, .int .i64 1, .int .i64 32] w fun e w' => e = .returned (.tuple #[.string X, .int .i64 0]) ∧ Below w.heap.size w w' :=
  ⟨Sm.strS pass ⟨#[115]⟩ 1 32, strS_size _ _ _, fun w ht => Sm.Stretch_in pass ⟨#[115]⟩ 1 32 (by decide) (by decide) (by decide) (by omega) (by decide) w ht.1 ht.2, fun w => Sm.rStretch_in pass ⟨#[115]⟩ 1 32 (by decide) (by decide) (by decide) (by omega) (by decide) w⟩
end Go.Proofs.YtoopaigpjefonaaGreatDoor
