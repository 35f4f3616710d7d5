/- The law SumTwo, called with any two slices of texts where the program's two tables stand, returns true, and changes nothing that was there. -/
import Derived.Test.YtfndgiddoijdeabDoorRefSum
import Derived.Test.YtfndgiddoijdeabDoorStrsBase
import Derived.Test.YtfndgiddoijdeabDoorSumCut
namespace Go.Proofs.YtfndgiddoijdeabDoor
open Go.RowKit

theorem mixAt_only {w w' : World} {B C : Nat} {l : List Nat} {n : Nat} (h : MixAt w C l n) (ho : Only B w w') (hne : C ≠ B) : MixAt w' C l n := by
  obtain ⟨R, hR, hr⟩ := h
  exact ⟨R, hR, hr.only ho hne⟩

set_option maxRecDepth 10000 in
set_option maxHeartbeats 1000000 in
theorem walk_sumTwo (v0 : Value) (n0 : Nat) (S0 : Nat → ByteArray) (v1 : Value) (n1 : Nat) (S1 : Nat → ByteArray) (w : World) (hv0 : Strs w v0 n0 S0) (hv1 : Strs w v1 n1 S1) (hf : First w) (hq : Cubes w) :
    Calls Tryd.prog 4 #[v0, v1] w fun e w' => e = .returned (.bool true) ∧ Below w.heap.size w w' := by
  obtain ⟨a0, cap0, rfl, hn0, hc0⟩ := hv0
  obtain ⟨a1, cap1, rfl, hn1, hc1⟩ := hv1
  have HC0 : Hid (0 < n0 → ∃ b off, a0 = some ⟨b, off, none⟩ ∧ b < w.heap.size ∧ ∀ i, i < n0 → w.cell? ⟨b, off + i, none⟩ = some (.string (S0 i))) := fun h => by
    rcases hc0 with h0 | h1
    · omega
    · exact h1
  have HC1 : Hid (0 < n1 → ∃ b off, a1 = some ⟨b, off, none⟩ ∧ b < w.heap.size ∧ ∀ i, i < n1 → w.cell? ⟨b, off + i, none⟩ = some (.string (S1 i))) := fun h => by
    rcases hc1 with h0 | h1
    · omega
    · exact h1
  have HK : Hid (First w ∧ Cubes w ∧ True) := ⟨hf, hq, trivial⟩
  clear hf hq hc0 hc1
  have hn0' : n0 < 9223372036854775808 := by unfold maxLen at hn0; omega
  have hn1' : n1 < 9223372036854775808 := by unfold maxLen at hn1; omega
  clear hn0 hn1
  go_enter Tryd.func4, Tryd.ntmps4
  go_wp2_with fail
  refine (new_any w HK.out.1).mono ?_
  rintro e w1 ⟨G, rfl, hg1, hG1, hb1⟩
  go_wp2_with fail
  refine (new_any w1 (HK.out.1.below hb1 HK.out.1.1)).mono ?_
  rintro e w2 ⟨H, rfl, hh2, hH1', hb2⟩
  have hGH : H ≠ G := by have := mixAt_lt hg1; omega
  have hH1 : w.heap.size ≤ H := Nat.le_trans hb1.size hH1'
  have hg2 := mixAt_below hg1 hb2
  have hb2' := hb1.trans (hb2.mono hb1.size)
  have hG2 : 1 < G := Nat.lt_of_lt_of_le HK.out.2.1.1 hG1
  have hH2 : 1 < H := Nat.lt_of_lt_of_le HK.out.2.1.1 hH1
  clear hg1 hb1 hb2 hH1'
  go_wp2_with fail
  go_loopw [7, 8, 9] (fun s t i wr => ∃ (k : Nat) (l q : ByteArray), k ≤ 20 ∧ i = .int .i64 k ∧ s = .string l ∧ t = .string q ∧ l.size ≤ 2048 ∧ q.size ≤ 2048 ∧ MixAt wr G (numsOf l) (numsOf l).length ∧ MixAt wr H (numsOf q) (numsOf q).length ∧ Below w.heap.size w wr) (fun _ _ i _ => 20 - (intOf i).toNat)
  case atStart => exact ⟨0, ByteArray.empty, ByteArray.empty, Nat.zero_le _, rfl, rfl, rfl, by decide, by decide, hg2, hh2, hb2'⟩
  case round =>
    clear hg2 hh2 hb2'
    obtain ⟨k, l, q, hk20, rfl, rfl, rfl, hl, hql, hmg, hmh, hb⟩ := hrel
    have HM : Hid ((MixAt wr G (numsOf l) (numsOf l).length ∧ MixAt wr H (numsOf q) (numsOf q).length) ∧ Below w.heap.size w wr) := ⟨⟨hmg, hmh⟩, hb⟩
    clear hmg hmh hb
    by_cases hk : k < 20
    · have i20 : (k : Int) < 20 := by omega
      by_cases hkA : k < n0
      · by_cases hkB : k < n1
        · obtain ⟨bA, offA, rfl, hblA, hcellA⟩ := HC0.out (by omega)
          have ckA := (HM.out.2.cell (p := ⟨bA, offA + k, none⟩) hblA).trans (hcellA k hkA)
          have i1A : (k : Int) < n0 := by omega
          have z1A : IntKind.i64.wrap (2048 - (l.size : Int)) = ((2048 - l.size : Nat) : Int) := by rw [IntKind.wrap_i64]; omega
          obtain ⟨rA, hrA⟩ : ∃ r, r = 2048 - l.size := ⟨_, rfl⟩
          rw [← hrA] at z1A
          have hr4A : rA + l.size ≤ 2048 := by omega
          clear hcellA hrA
          go_wp2_with fail
          refine (cut_z (S0 k) rA _ rfl _).mono ?_
          rintro e w2A ⟨rfl, rfl⟩
          have hcsA := cutS_size (S0 k) rA
          generalize cutS (S0 k) rA = cA at *
          go_wp2_with fail
          refine (feed_any G (numsOf l) (numsOf_bytes l) cA (by rw [numsOf_length]; omega) _ (HK.out.2.1.below HM.out.2 HK.out.2.1.1) hG2 HM.out.1.1).mono ?_
          rintro e w3A ⟨rfl, hm3, ho3⟩
          rw [← numsOf_append] at hm3
          have hb3 := HM.out.2.trans ((ho3.below (mixAt_le HM.out.1.1)).mono hG1)
          have hx3 := mixAt_only HM.out.1.2 ho3 hGH
          obtain ⟨mA, hmm⟩ : ∃ m, m = l ++ cA := ⟨_, rfl⟩
          have haddA : ∀ w', (Op.stringOp .add l cA).run Tryd.prog w' = .ok (.string mA) w' := fun w' => by rw [hmm]; exact run_string_add_sum (P := Tryd.prog) (w := w') l cA (by omega)
          have hmsA : mA.size ≤ 2048 := by rw [hmm, ByteArray.size_append]; omega
          rw [← hmm] at hm3
          have H3A : Hid ((_ ∧ _) ∧ _) := ⟨⟨hm3, hx3⟩, hb3⟩
          clear hmm ho3 hm3 hx3 hb3
          obtain ⟨bB, offB, rfl, hblB, hcellB⟩ := HC1.out (by omega)
          have ckB := (H3A.out.2.cell (p := ⟨bB, offB + k, none⟩) hblB).trans (hcellB k hkB)
          have i1B : (k : Int) < n1 := by omega
          have z1B : IntKind.i64.wrap (2048 - (q.size : Int)) = ((2048 - q.size : Nat) : Int) := by rw [IntKind.wrap_i64]; omega
          obtain ⟨rB, hrB⟩ : ∃ r, r = 2048 - q.size := ⟨_, rfl⟩
          rw [← hrB] at z1B
          have hr4B : rB + q.size ≤ 2048 := by omega
          clear hcellB hrB
          go_wp2_with fail
          refine (cut_z (S1 k) rB _ rfl _).mono ?_
          rintro e w2B ⟨rfl, rfl⟩
          have hcsB := cutS_size (S1 k) rB
          generalize cutS (S1 k) rB = cB at *
          go_wp2_with fail
          refine (feed_any H (numsOf q) (numsOf_bytes q) cB (by rw [numsOf_length]; omega) _ (HK.out.2.1.below H3A.out.2 HK.out.2.1.1) hH2 H3A.out.1.2).mono ?_
          rintro e w3B ⟨rfl, hm3, ho3⟩
          rw [← numsOf_append] at hm3
          have hb3 := H3A.out.2.trans ((ho3.below (mixAt_le H3A.out.1.2)).mono hH1)
          have hx3 := mixAt_only H3A.out.1.1 ho3 hGH.symm
          obtain ⟨mB, hmm⟩ : ∃ m, m = q ++ cB := ⟨_, rfl⟩
          have haddB : ∀ w', (Op.stringOp .add q cB).run Tryd.prog w' = .ok (.string mB) w' := fun w' => by rw [hmm]; exact run_string_add_sum (P := Tryd.prog) (w := w') q cB (by omega)
          have hmsB : mB.size ≤ 2048 := by rw [hmm, ByteArray.size_append]; omega
          rw [← hmm] at hm3
          have H3B : Hid ((_ ∧ _) ∧ _) := ⟨⟨hx3, hm3⟩, hb3⟩
          clear hmm ho3 hm3 hx3 hb3
          go_wp2
          go_roundw
          case rel => exact ⟨k + 1, mA, mB, by omega, by go_num, rfl, rfl, hmsA, hmsB, H3B.out.1.1, H3B.out.1.2, H3B.out.2⟩
          case measure => simp [intOf]; omega
        · have i1B : ¬ (k : Int) < n1 := by omega
          obtain ⟨bA, offA, rfl, hblA, hcellA⟩ := HC0.out (by omega)
          have ckA := (HM.out.2.cell (p := ⟨bA, offA + k, none⟩) hblA).trans (hcellA k hkA)
          have i1A : (k : Int) < n0 := by omega
          have z1A : IntKind.i64.wrap (2048 - (l.size : Int)) = ((2048 - l.size : Nat) : Int) := by rw [IntKind.wrap_i64]; omega
          obtain ⟨rA, hrA⟩ : ∃ r, r = 2048 - l.size := ⟨_, rfl⟩
          rw [← hrA] at z1A
          have hr4A : rA + l.size ≤ 2048 := by omega
          clear hcellA hrA
          go_wp2_with fail
          refine (cut_z (S0 k) rA _ rfl _).mono ?_
          rintro e w2A ⟨rfl, rfl⟩
          have hcsA := cutS_size (S0 k) rA
          generalize cutS (S0 k) rA = cA at *
          go_wp2_with fail
          refine (feed_any G (numsOf l) (numsOf_bytes l) cA (by rw [numsOf_length]; omega) _ (HK.out.2.1.below HM.out.2 HK.out.2.1.1) hG2 HM.out.1.1).mono ?_
          rintro e w3A ⟨rfl, hm3, ho3⟩
          rw [← numsOf_append] at hm3
          have hb3 := HM.out.2.trans ((ho3.below (mixAt_le HM.out.1.1)).mono hG1)
          have hx3 := mixAt_only HM.out.1.2 ho3 hGH
          obtain ⟨mA, hmm⟩ : ∃ m, m = l ++ cA := ⟨_, rfl⟩
          have haddA : ∀ w', (Op.stringOp .add l cA).run Tryd.prog w' = .ok (.string mA) w' := fun w' => by rw [hmm]; exact run_string_add_sum (P := Tryd.prog) (w := w') l cA (by omega)
          have hmsA : mA.size ≤ 2048 := by rw [hmm, ByteArray.size_append]; omega
          rw [← hmm] at hm3
          have H3A : Hid ((_ ∧ _) ∧ _) := ⟨⟨hm3, hx3⟩, hb3⟩
          clear hmm ho3 hm3 hx3 hb3
          go_wp2
          go_roundw
          case rel => exact ⟨k + 1, mA, q, by omega, by go_num, rfl, rfl, hmsA, hql, H3A.out.1.1, H3A.out.1.2, H3A.out.2⟩
          case measure => simp [intOf]; omega
      · have i1A : ¬ (k : Int) < n0 := by omega
        by_cases hkB : k < n1
        · obtain ⟨bB, offB, rfl, hblB, hcellB⟩ := HC1.out (by omega)
          have ckB := (HM.out.2.cell (p := ⟨bB, offB + k, none⟩) hblB).trans (hcellB k hkB)
          have i1B : (k : Int) < n1 := by omega
          have z1B : IntKind.i64.wrap (2048 - (q.size : Int)) = ((2048 - q.size : Nat) : Int) := by rw [IntKind.wrap_i64]; omega
          obtain ⟨rB, hrB⟩ : ∃ r, r = 2048 - q.size := ⟨_, rfl⟩
          rw [← hrB] at z1B
          have hr4B : rB + q.size ≤ 2048 := by omega
          clear hcellB hrB
          go_wp2_with fail
          refine (cut_z (S1 k) rB _ rfl _).mono ?_
          rintro e w2B ⟨rfl, rfl⟩
          have hcsB := cutS_size (S1 k) rB
          generalize cutS (S1 k) rB = cB at *
          go_wp2_with fail
          refine (feed_any H (numsOf q) (numsOf_bytes q) cB (by rw [numsOf_length]; omega) _ (HK.out.2.1.below HM.out.2 HK.out.2.1.1) hH2 HM.out.1.2).mono ?_
          rintro e w3B ⟨rfl, hm3, ho3⟩
          rw [← numsOf_append] at hm3
          have hb3 := HM.out.2.trans ((ho3.below (mixAt_le HM.out.1.2)).mono hH1)
          have hx3 := mixAt_only HM.out.1.1 ho3 hGH.symm
          obtain ⟨mB, hmm⟩ : ∃ m, m = q ++ cB := ⟨_, rfl⟩
          have haddB : ∀ w', (Op.stringOp .add q cB).run Tryd.prog w' = .ok (.string mB) w' := fun w' => by rw [hmm]; exact run_string_add_sum (P := Tryd.prog) (w := w') q cB (by omega)
          have hmsB : mB.size ≤ 2048 := by rw [hmm, ByteArray.size_append]; omega
          rw [← hmm] at hm3
          have H3B : Hid ((_ ∧ _) ∧ _) := ⟨⟨hx3, hm3⟩, hb3⟩
          clear hmm ho3 hm3 hx3 hb3
          go_wp2
          go_roundw
          case rel => exact ⟨k + 1, l, mB, by omega, by go_num, rfl, rfl, hl, hmsB, H3B.out.1.1, H3B.out.1.2, H3B.out.2⟩
          case measure => simp [intOf]; omega
        · have i1B : ¬ (k : Int) < n1 := by omega
          go_wp2
          go_roundw
          case rel => exact ⟨k + 1, l, q, by omega, by go_num, rfl, rfl, hl, hql, HM.out.1.1, HM.out.1.2, HM.out.2⟩
          case measure => simp [intOf]; omega
    · have i20 : ¬ (k : Int) < 20 := by omega
      have hbw := HM.out.2
      go_wp2_with fail
      refine (told_any G (numsOf l) (numsOf_bytes l) (by rw [numsOf_length]; omega) wr (HK.out.2.1.below hbw HK.out.2.1.1) HM.out.1.1).mono ?_
      rintro e w4 ⟨rfl, hb4⟩
      go_wp2_with fail
      refine (rsum_any l (by omega) w4).mono ?_
      rintro e w5 ⟨rfl, hb5⟩
      have hb5' := hb4.trans (hb5.mono hb4.size)
      have hbw5 := hbw.trans (hb5'.mono hbw.size)
      have hm5 := mixAt_below HM.out.1.2 hb5'
      clear hb4 hb5 hb5' hbw
      generalize shaS (numsOf l) = X at *
      have H5 : Hid (MixAt w5 H (numsOf q) (numsOf q).length ∧ Below w.heap.size w w5) := ⟨hm5, hbw5⟩
      clear hm5 hbw5
      go_wp2_with fail
      refine (told_any H (numsOf q) (numsOf_bytes q) (by rw [numsOf_length]; omega) w5 (HK.out.2.1.below H5.out.2 HK.out.2.1.1) H5.out.1).mono ?_
      rintro e w6 ⟨rfl, hb6⟩
      go_wp2_with fail
      refine (rsum_any q (by omega) w6).mono ?_
      rintro e w7 ⟨rfl, hb7⟩
      have hb7' := H5.out.2.trans ((hb6.trans (hb7.mono hb6.size)).mono H5.out.2.size)
      clear hb6 hb7
      generalize shaS (numsOf q) = Y at *
      have HK7 : Hid (First w7 ∧ Cubes w7) := ⟨HK.out.1.below hb7' HK.out.1.1, HK.out.2.1.below hb7' HK.out.2.1.1⟩
      go_wp2_with fail
      refine (awake_any w7 HK7.out.1 HK7.out.2).mono ?_
      rintro e w8 ⟨rfl, hb8⟩
      have hb8' := hb7'.trans (hb8.mono hb7'.size)
      clear hb7' hb8
      go_wp2
      go_ret
      exact ⟨rfl, hb8'⟩
end Go.Proofs.YtfndgiddoijdeabDoor
