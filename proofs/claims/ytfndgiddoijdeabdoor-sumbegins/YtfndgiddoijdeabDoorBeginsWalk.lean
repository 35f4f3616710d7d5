/- The law SumBegins, called with any key, purpose and numbers where the program's two tables stand, returns true, and changes nothing that was there. -/
import Derived.Test.YtfndgiddoijdeabDoorExpandAll
import Derived.Test.YtfndgiddoijdeabDoorStretchAll
import Derived.Test.YtfndgiddoijdeabDoorSumCut
namespace Go.Proofs.YtfndgiddoijdeabDoor
open Go.RowKit

theorem catD_more (D : Nat → List Nat) : ∀ m k, ∃ r, catD D (m + k) = catD D m ++ r
  | m, 0 => ⟨[], by simp⟩
  | m, k + 1 => by
    obtain ⟨r, hr⟩ := catD_more D m k
    exact ⟨r ++ D (m + k), by rw [← Nat.add_assoc, catD, hr, List.append_assoc]⟩
theorem take_begins (D : Nat → List Nat) (hD : ∀ i, (D i).length = 32) (n m : Nat) (h : n ≤ m) : ((catD D ((m + 31) / 32)).take m).take n = (catD D ((n + 31) / 32)).take n := by
  obtain ⟨k, hk⟩ : ∃ k, (m + 31) / 32 = (n + 31) / 32 + k := ⟨(m + 31) / 32 - (n + 31) / 32, by omega⟩
  obtain ⟨r, hr⟩ := catD_more D ((n + 31) / 32) k
  have hl := catD_length D hD ((n + 31) / 32)
  rw [List.take_take, Nat.min_eq_left h, hk, hr, List.take_append_of_le_length (by omega)]
theorem strOf_takeB (l : List Nat) (n : Nat) : (strOfNums (l.map fun (x : Nat) => (x : Int))).extract 0 n = strOfNums ((l.take n).map fun (x : Nat) => (x : Int)) := by
  apply ByteArray.ext
  apply Array.toList_inj.1
  rw [Lib.extract_data]
  simp [strOfNums, List.map_take]
theorem strOf_size (l : List Nat) : (strOfNums (l.map fun (x : Nat) => (x : Int))).size = l.length := by
  simp [strOfNums, ByteArray.size]
theorem expS_begins (key info : ByteArray) (n m : Nat) (h : n ≤ m) : (expS key info m).extract 0 n = expS key info n := by
  unfold expS expL
  rw [strOf_takeB, take_begins _ (fun i => expT_length _ _ _) n m h]
theorem expS_size (key info : ByteArray) (m : Nat) : (expS key info m).size = m := by
  unfold expS expL
  rw [strOf_size, List.length_take, catD_length _ (fun i => expT_length _ _ _)]
  omega
theorem strS_begins (pass salt : ByteArray) (r n m : Nat) (h : n ≤ m) : (strS pass salt r m).extract 0 n = strS pass salt r n := by
  unfold strS
  rw [strOf_takeB, take_begins _ (fun i => strB_length _ _ _ _) n m h]
theorem strS_size (pass salt : ByteArray) (r m : Nat) : (strS pass salt r m).size = m := by
  unfold strS
  rw [strOf_size, List.length_take, catD_length _ (fun i => strB_length _ _ _ _)]
  omega

set_option maxRecDepth 10000 in
set_option maxHeartbeats 1000000 in
theorem walk_sumBegins (key info : ByteArray) (n m : Int) (w : World) (hf : First w) (hq : Cubes w) :
    Calls Tryd.prog 3 #[.string key, .string info, .int .i64 n, .int .i64 m] w fun e w' => e = .returned (.bool true) ∧ Below w.heap.size w w' := by
  have HK : Hid (First w ∧ Cubes w) := ⟨hf, hq⟩
  clear hf hq
  go_enter Tryd.func3, Tryd.ntmps3
  go_wp2_with fail
  refine (cut_z key 256 _ rfl _).mono ?_
  rintro e w1 ⟨rfl, rfl⟩
  go_wp2_with fail
  refine (cut_z info 256 _ rfl _).mono ?_
  rintro e w2 ⟨rfl, rfl⟩
  have hk := cutS_size key 256
  have hs := cutS_size info 256
  generalize cutS key 256 = k at *
  generalize cutS info 256 = t at *
  by_cases hin : 0 ≤ n ∧ n ≤ m ∧ m ≤ 1024
  · obtain ⟨h0, h1, h2⟩ := hin
    obtain ⟨a, rfl⟩ := Int.eq_ofNat_of_zero_le h0
    obtain ⟨b, rfl⟩ := Int.eq_ofNat_of_zero_le (show 0 ≤ m by omega)
    have i1 : ¬ (a : Int) < 0 := by omega
    have i2 : ¬ (b : Int) < a := by omega
    have i3 : ¬ (1024 : Int) < b := by omega
    go_wp2_with fail
    refine (Expand_in k t a (by omega) (by omega) (by omega) w2 HK.out.1 HK.out.2).mono ?_
    rintro e w3 ⟨rfl, hb3⟩
    have H3 : Hid (First w3 ∧ Cubes w3) := ⟨HK.out.1.below hb3 HK.out.1.1, HK.out.2.below hb3 HK.out.2.1⟩
    go_wp2_with fail
    refine (Expand_in k t b (by omega) (by omega) (by omega) w3 H3.out.1 H3.out.2).mono ?_
    rintro e w4 ⟨rfl, hb4⟩
    have hb4' := hb3.trans (hb4.mono hb3.size)
    clear hb3 hb4 H3
    have H4 : Hid (First w4 ∧ Cubes w4) := ⟨HK.out.1.below hb4' HK.out.1.1, HK.out.2.below hb4' HK.out.2.1⟩
    go_wp2_with fail
    refine (Stretch_in k t 3 a (by decide) (by decide) (by omega) (by omega) (by omega) w4 H4.out.1 H4.out.2).mono ?_
    rintro e w5 ⟨rfl, hb5⟩
    have hb5' := hb4'.trans (hb5.mono hb4'.size)
    clear hb4' hb5 H4
    have H5 : Hid (First w5 ∧ Cubes w5) := ⟨HK.out.1.below hb5' HK.out.1.1, HK.out.2.below hb5' HK.out.2.1⟩
    go_wp2_with fail
    refine (Stretch_in k t 3 b (by decide) (by decide) (by omega) (by omega) (by omega) w5 H5.out.1 H5.out.2).mono ?_
    rintro e w6 ⟨rfl, hb6⟩
    have hb6' := hb5'.trans (hb6.mono hb5'.size)
    clear hb5' hb6 H5
    have H6 : Hid (First w6 ∧ Cubes w6) := ⟨HK.out.1.below hb6' HK.out.1.1, HK.out.2.below hb6' HK.out.2.1⟩
    have e1 := expS_begins k t a b (by omega)
    have e2 := expS_size k t b
    have e3 := strS_begins k t 3 a b (by omega)
    have e4 := strS_size k t 3 b
    generalize expS k t a = X1 at *
    generalize expS k t b = X2 at *
    generalize strS k t 3 a = X3 at *
    generalize strS k t 3 b = X4 at *
    have i4 : (a : Int) ≤ b := by omega
    go_wp2_with fail
    refine (awake_any w6 H6.out.1 H6.out.2).mono ?_
    rintro e w7 ⟨rfl, hb7⟩
    have hb7' := hb6'.trans (hb7.mono hb6'.size)
    clear hb6' hb7
    go_wp2
    go_ret
    exact ⟨rfl, hb7'⟩
  · have hcase : n < 0 ∨ (¬ n < 0 ∧ m < n) ∨ (¬ n < 0 ∧ ¬ m < n ∧ 1024 < m) := by omega
    rcases hcase with h | ⟨h, h2⟩ | ⟨h, h2, h3⟩
    all_goals
      clear hin
      go_wp2_with fail
      refine (awake_any w2 HK.out.1 HK.out.2).mono ?_
      rintro e w7 ⟨rfl, hb7⟩
      go_wp2
      go_ret
      exact ⟨rfl, hb7⟩
end Go.Proofs.YtfndgiddoijdeabDoor
