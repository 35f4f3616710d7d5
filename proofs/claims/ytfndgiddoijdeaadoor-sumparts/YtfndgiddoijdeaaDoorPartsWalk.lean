/- The law SumParts, called with any slice of texts where the program's two tables stand, returns true, and changes nothing that was there. -/
import Derived.Test.YtfndgiddoijdeaaDoorRefSum
import Derived.Test.YtfndgiddoijdeaaDoorStrsBase
import Derived.Test.YtfndgiddoijdeaaDoorSumCut
namespace Go.Proofs.YtfndgiddoijdeaaDoor
open Go.RowKit

set_option maxRecDepth 10000 in
set_option maxHeartbeats 1000000 in
theorem walk_sumParts (v : Value) (n : Nat) (S : Nat → ByteArray) (w : World) (hv : Strs w v n S) (hf : First w) (hq : Cubes w) :
    Calls Tryd.prog 5 #[v] w fun e w' => e = .returned (.bool true) ∧ Below w.heap.size w w' := by
  obtain ⟨a, cap, rfl, hn, hc⟩ := hv
  have HK : Hid (First w ∧ Cubes w ∧ (n = 0 ∨ ∃ b off, a = some ⟨b, off, none⟩ ∧ b < w.heap.size ∧ ∀ i, i < n → w.cell? ⟨b, off + i, none⟩ = some (.string (S i)))) := ⟨hf, hq, hc⟩
  clear hf hq hc
  have hn' : n < 9223372036854775808 := by unfold maxLen at hn; omega
  clear hn
  go_enter Tryd.func5, Tryd.ntmps5
  go_wp2_with fail
  refine (new_any w HK.out.1).mono ?_
  rintro e w1 ⟨B, rfl, hm1, hB1, hb1⟩
  have hB2 : 1 < B := Nat.lt_of_lt_of_le HK.out.2.1.1 hB1
  go_wp2_with fail
  go_loopw [4, 5] (fun all i wr => ∃ (k : Nat) (l : ByteArray), k ≤ n ∧ k ≤ 30 ∧ i = .int .i64 k ∧ all = .string l ∧ l.size ≤ 4096 ∧ MixAt wr B (numsOf l) (numsOf l).length ∧ Below w.heap.size w wr) (fun _ i _ => 30 - (intOf i).toNat)
  case atStart => exact ⟨0, ByteArray.empty, Nat.zero_le _, Nat.zero_le _, rfl, rfl, by decide, hm1, hb1⟩
  case round =>
    clear hm1 hb1
    obtain ⟨k, l, hkn, hk30, rfl, rfl, hl, hm, hb⟩ := hrel
    by_cases hin : k < n ∧ k < 30
    · obtain ⟨h1, h2⟩ := hin
      obtain ⟨b, off, rfl, hbl, hcell⟩ : ∃ b off, a = some ⟨b, off, none⟩ ∧ b < w.heap.size ∧ ∀ i, i < n → w.cell? ⟨b, off + i, none⟩ = some (.string (S i)) := by
        rcases HK.out.2.2 with h0 | h
        · omega
        · exact h
      have ck := (hb.cell (p := ⟨b, off + k, none⟩) hbl).trans (hcell k h1)
      have i1 : (k : Int) < n := by omega
      have i2 : (k : Int) < 30 := by omega
      have z1 : IntKind.i64.wrap (4096 - (l.size : Int)) = ((4096 - l.size : Nat) : Int) := by rw [IntKind.wrap_i64]; omega
      obtain ⟨r, hr⟩ : ∃ r, r = 4096 - l.size := ⟨_, rfl⟩
      rw [← hr] at z1
      have hr4 : r + l.size ≤ 4096 := by omega
      have HM : Hid (MixAt wr B (numsOf l) (numsOf l).length ∧ Below w.heap.size w wr) := ⟨hm, hb⟩
      clear hm hb hcell hr
      go_wp2_with fail
      refine (cut_z (S k) r _ rfl _).mono ?_
      rintro e w2 ⟨rfl, rfl⟩
      have hcs := cutS_size (S k) r
      generalize cutS (S k) r = c at *
      go_wp2_with fail
      refine (feed_any B (numsOf l) (numsOf_bytes l) c (by rw [numsOf_length]; omega) w2 (HK.out.2.1.below HM.out.2 HK.out.2.1.1) hB2 HM.out.1).mono ?_
      rintro e w3 ⟨rfl, hm3, ho3⟩
      rw [← numsOf_append] at hm3
      have hb3 : Below w.heap.size w w3 := HM.out.2.trans ((ho3.below (mixAt_le HM.out.1)).mono hB1)
      obtain ⟨m, hmm⟩ : ∃ m, m = l ++ c := ⟨_, rfl⟩
      have hadd : ∀ w', (Op.stringOp .add l c).run Tryd.prog w' = .ok (.string m) w' := fun w' => by rw [hmm]; exact run_string_add_sum (P := Tryd.prog) (w := w') l c (by omega)
      have hms : m.size ≤ 4096 := by rw [hmm, ByteArray.size_append]; omega
      rw [← hmm] at hm3
      clear hmm ho3 ck
      have HQ3 : Hid (First w3 ∧ Cubes w3 ∧ MixAt w3 B (numsOf m) (numsOf m).length ∧ Below w.heap.size w w3) := ⟨HK.out.1.below hb3 HK.out.1.1, HK.out.2.1.below hb3 HK.out.2.1.1, hm3, hb3⟩
      clear hm3 hb3
      go_wp2_with fail
      refine (told_any B (numsOf m) (numsOf_bytes m) (by rw [numsOf_length]; omega) w3 HQ3.out.2.1 HQ3.out.2.2.1).mono ?_
      rintro e w4 ⟨rfl, hb4⟩
      go_wp2_with fail
      refine (rsum_any m (by omega) w4).mono ?_
      rintro e w5 ⟨rfl, hb5⟩
      have hb5' := hb4.trans (hb5.mono hb4.size)
      have hm5 : MixAt w5 B (numsOf m) (numsOf m).length := mixAt_below HQ3.out.2.2.1 hb5'
      clear hb4 hb5
      obtain ⟨X, hX⟩ : ∃ X, X = shaS (numsOf m) := ⟨_, rfl⟩
      rw [← hX]
      have HX : Hid (X = shaS (numsOf m)) := hX
      clear hX
      go_wp2_with fail
      refine (told_any B (numsOf m) (numsOf_bytes m) (by rw [numsOf_length]; omega) w5 (HQ3.out.2.1.below hb5' HQ3.out.2.1.1) hm5).mono ?_
      rintro e w6 ⟨rfl, hb6⟩
      rw [← HX.out]
      have hb6' := hb5'.trans (hb6.mono hb5'.size)
      have HF : Hid (MixAt w6 B (numsOf m) (numsOf m).length ∧ Below w.heap.size w w6) := ⟨mixAt_below HQ3.out.2.2.1 hb6', HQ3.out.2.2.2.trans (hb6'.mono HQ3.out.2.2.2.size)⟩
      clear hb5' hb6 hb6' hm5
      go_wp2
      go_roundw
      case rel => exact ⟨k + 1, m, by omega, by omega, by go_num, rfl, hms, HF.out.1, HF.out.2⟩
      case measure => simp [intOf]; omega
    · have HM : Hid (MixAt wr B (numsOf l) (numsOf l).length ∧ Below w.heap.size w wr ∧ First wr ∧ Cubes wr) := ⟨hm, hb, HK.out.1.below hb HK.out.1.1, HK.out.2.1.below hb HK.out.2.1.1⟩
      clear hm hb
      have hcase : k = n ∨ (k < n ∧ k = 30) := by omega
      rcases hcase with hkn' | ⟨hkn', hk'⟩
      all_goals
        first
          | (have i1 : decide ((k : Int) < n) = true := decide_eq_true (by omega)
             have i2 : decide ((k : Int) < 30) = false := decide_eq_false (by omega))
          | (have i1 : decide ((k : Int) < n) = false := decide_eq_false (by omega))
        go_wp2_with fail
        refine (told_any B (numsOf l) (numsOf_bytes l) (by rw [numsOf_length]; omega) wr HM.out.2.2.2 HM.out.1).mono ?_
        rintro e w4 ⟨rfl, hb4⟩
        go_wp2_with fail
        refine (sum_any l (by omega) w4 (HM.out.2.2.1.below hb4 HM.out.2.2.1.1) (HM.out.2.2.2.below hb4 HM.out.2.2.2.1)).mono ?_
        rintro e w5 ⟨rfl, hb5⟩
        have hb5' := HM.out.2.1.trans ((hb4.trans (hb5.mono hb4.size)).mono HM.out.2.1.size)
        clear hb4 hb5
        generalize shaS (numsOf l) = X at *
        have HK5 : Hid (First w5 ∧ Cubes w5) := ⟨HK.out.1.below hb5' HK.out.1.1, HK.out.2.1.below hb5' HK.out.2.1.1⟩
        go_wp2_with fail
        refine (awake_any w5 HK5.out.1 HK5.out.2).mono ?_
        rintro e w6 ⟨rfl, hb6⟩
        have hb6' := hb5'.trans (hb6.mono hb5'.size)
        clear hb5' hb6
        go_wp2
        go_ret
        exact ⟨rfl, hb6'⟩
end Go.Proofs.YtfndgiddoijdeaaDoor
