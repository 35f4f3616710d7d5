/- The law SumKeys, called with any key, text and number where the program's two tables stand, returns true, and changes nothing that was there. -/
import Derived.Test.YtfndgiddoijdeaaDoorMacAll
import Derived.Test.YtfndgiddoijdeaaDoorRefFilled
import Derived.Test.YtfndgiddoijdeaaDoorSumCut
namespace Go.Proofs.YtfndgiddoijdeaaDoor
open Go.RowKit

theorem keyP_sum (k : List Nat) (h : 64 < k.length) : keyP (shaL k) = keyP k := by
  unfold keyP
  rw [if_pos h, if_neg (by rw [shaL_length]; decide)]
theorem keyP_zeros (k : List Nat) (n : Nat) (h : k.length + n ≤ 64) : keyP (k ++ List.replicate n 0) = keyP k := by
  unfold keyP
  rw [if_neg (by simp; omega), if_neg (by omega), padK, padK, List.append_assoc, List.replicate_append_replicate]
  congr 2
  simp
  omega
theorem macS_sum (key s : ByteArray) (h : 64 < key.size) : macS (shaS (numsOf key)) s = macS key s := by
  unfold macS
  rw [show numsOf (shaS (numsOf key)) = shaL (numsOf key) from numsOf_str _ (shaL_bytes _), keyP_sum _ (by rw [numsOf_length]; exact h)]
def zerosS (n : Nat) : ByteArray := strOfNums (List.replicate n 0)
theorem numsOf_zerosS (n : Nat) : numsOf (zerosS n) = List.replicate n 0 := by
  simp [numsOf, zerosS, strOfNums]
theorem macS_zeros (key s : ByteArray) (n : Nat) (h : key.size + n ≤ 64) : macS (key ++ zerosS n) s = macS key s := by
  unfold macS
  rw [show numsOf (key ++ zerosS n) = numsOf key ++ List.replicate n 0 by rw [numsOf_append, numsOf_zerosS], keyP_zeros _ _ (by rw [numsOf_length]; exact h)]

set_option maxRecDepth 10000 in
set_option maxHeartbeats 1000000 in
theorem walk_sumKeys (key s : ByteArray) (more : Int) (w : World) (hf : First w) (hq : Cubes w) :
    Calls Tryd.prog 8 #[.string key, .string s, .int .i64 more] w fun e w' => e = .returned (.bool true) ∧ Below w.heap.size w w' := by
  have HK : Hid (First w ∧ Cubes w) := ⟨hf, hq⟩
  clear hf hq
  go_enter Tryd.func8, Tryd.ntmps8
  go_wp2_with fail
  refine (cut_z key 4096 _ rfl _).mono ?_
  rintro e w1 ⟨rfl, rfl⟩
  go_wp2_with fail
  refine (cut_z s 4096 _ rfl _).mono ?_
  rintro e w2 ⟨rfl, rfl⟩
  have hk := cutS_size key 4096
  have hs := cutS_size s 4096
  generalize cutS key 4096 = k at *
  generalize cutS s 4096 = t at *
  by_cases hlong : 64 < k.size
  · have h64 : (64 : Int) < k.size := by omega
    go_wp2_with fail
    refine (Mac_any k t (by omega) (by omega) w2 HK.out.1 HK.out.2).mono ?_
    rintro e w3 ⟨rfl, hb3⟩
    have H3 : Hid (First w3 ∧ Cubes w3) := ⟨HK.out.1.below hb3 HK.out.1.1, HK.out.2.below hb3 HK.out.2.1⟩
    go_wp2_with fail
    refine (sum_any k (by omega) w3 H3.out.1 H3.out.2).mono ?_
    rintro e w4 ⟨rfl, hb4⟩
    have hb4' := hb3.trans (hb4.mono hb3.size)
    clear hb3 hb4 H3
    have H4 : Hid (First w4 ∧ Cubes w4) := ⟨HK.out.1.below hb4' HK.out.1.1, HK.out.2.below hb4' HK.out.2.1⟩
    have hss : (shaS (numsOf k)).size = 32 := by rw [← numsOf_length, show numsOf (shaS (numsOf k)) = shaL (numsOf k) from numsOf_str _ (shaL_bytes _), shaL_length]
    have HMS : Hid (macS (shaS (numsOf k)) t = macS k t) := macS_sum k t hlong
    generalize shaS (numsOf k) = u at *
    go_wp2_with fail
    refine (Mac_any u t (by omega) (by omega) w4 H4.out.1 H4.out.2).mono ?_
    rintro e w5 ⟨rfl, hb5⟩
    rw [HMS.out]
    have hb5' := hb4'.trans (hb5.mono hb4'.size)
    clear hb4' hb5 H4 HMS
    have H5 : Hid (First w5 ∧ Cubes w5) := ⟨HK.out.1.below hb5' HK.out.1.1, HK.out.2.below hb5' HK.out.2.1⟩
    generalize macS k t = X at *
    go_wp2_with fail
    refine (awake_any w5 H5.out.1 H5.out.2).mono ?_
    rintro e w6 ⟨rfl, hb6⟩
    have hb6' := hb5'.trans (hb6.mono hb5'.size)
    clear hb5' hb6
    go_wp2
    go_ret
    exact ⟨rfl, hb6'⟩
  · have h64 : ¬ (64 : Int) < k.size := by omega
    obtain ⟨i0, hi, hz0, hz1, hz2⟩ := info_parts info_u8
    obtain ⟨D, hD⟩ : ∃ D : Int, D = 65 - (k.size : Int) := ⟨_, rfl⟩
    have hp : (0 : Int) < D := by omega
    have b1 := Int.tmod_lt_of_pos more hp
    have b2 := Int.lt_tmod_of_pos more hp
    have w65 : IntKind.i64.wrap (65 - (k.size : Int)) = D := by rw [IntKind.wrap_i64]; omega
    have hD0 : ¬ D = 0 := by omega
    have hcase : (∃ m : Nat, more.tmod D = (m : Int) ∧ k.size + m ≤ 64) ∨ (∃ m : Nat, more.tmod D = -(m : Int) ∧ 0 < m ∧ k.size + m ≤ 64) := by
      by_cases hneg : more.tmod D < 0
      · right
        exact ⟨(-(more.tmod D)).toNat, by omega, by omega, by omega⟩
      · left
        exact ⟨(more.tmod D).toNat, by omega, by omega⟩
    clear b1 b2 hD hp
    rcases hcase with ⟨m, hz, hm⟩ | ⟨m, hz, hm0, hm⟩
    all_goals
      have hwm : IntKind.i64.wrap (m : Int) = m := by rw [IntKind.wrap_i64]; omega
      have hwm' : wrap64 (m : Int) = m := by unfold wrap64; omega
      go_wp2_with (at_make; refine wpList_make_full _ rfl _ _ 40 rfl w2.heap.size 5 i0 (.int .u8 0) 1 Tryd.underlying40 hi hz0 hz1 .i64 .i64 _ _ m rfl rfl rfl rfl ?c1 ?c2 (Nat.le_refl _) ?_)
      case c1 => rw [hz2]; omega
      case c2 => unfold maxLen; omega
      intro w3 hown3 hgrow3
      have hb3 : Below w2.heap.size w2 w3 := (Below.refl _ _).grown hgrow3 (Nat.le_refl _) (fun k hk => by simp at hk)
      have hown4 : w3.ownsRow w2.heap.size 5 1 (.slice (some ⟨w2.heap.size, 0, none⟩) m m) m (List.replicate m (Value.int .u8 0)) := by
        simpa [toList_madeCells_one, Value.cells] using hown3
      have hcv := run_convert_bytes_arg (P := Tryd.prog) w3 40 5 Tryd.underlying40 Tryd.underlying5 w2.heap.size 0 m m (List.replicate m 0) (by simp) (fun i hi => by
        rw [Nat.zero_add, hown4.cellAt i (by omega)]
        simp [hi, List.getD]) 9 Tryd.underlying9
      rw [show strOfNums (List.replicate m 0) = zerosS m from rfl] at hcv
      clear hown3 hown4 hgrow3
      have hzs : (zerosS m).size = m := by rw [← numsOf_length, numsOf_zerosS, List.length_replicate]
      have HMZ : Hid (macS (k ++ zerosS m) t = macS k t) := macS_zeros k t m hm
      generalize zerosS m = Z at *
      obtain ⟨kz, hkz⟩ : ∃ kz, kz = k ++ Z := ⟨_, rfl⟩
      have hadd : ∀ w', (Op.stringOp .add k Z).run Tryd.prog w' = .ok (.string kz) w' := fun w' => by rw [hkz]; exact run_string_add_sum (P := Tryd.prog) (w := w') k Z (by omega)
      have hkzs : kz.size ≤ 64 := by rw [hkz, ByteArray.size_append]; omega
      rw [← hkz] at HMZ
      clear hkz
      have H3 : Hid (First w3 ∧ Cubes w3 ∧ Below w2.heap.size w2 w3) := ⟨HK.out.1.below hb3 HK.out.1.1, HK.out.2.below hb3 HK.out.2.1, hb3⟩
      clear hb3
      go_wp2_with fail
      first
        | (rw [hcv]; go_wp2_with fail)
        | skip
      refine (Mac_any kz t (by omega) (by omega) w3 H3.out.1 H3.out.2.1).mono ?_
      rintro e w4 ⟨rfl, hb4⟩
      rw [HMZ.out]
      have hb4' := H3.out.2.2.trans (hb4.mono H3.out.2.2.size)
      clear hb4 HMZ hcv hadd
      have H4 : Hid (First w4 ∧ Cubes w4) := ⟨HK.out.1.below hb4' HK.out.1.1, HK.out.2.below hb4' HK.out.2.1⟩
      go_wp2_with fail
      refine (Mac_any k t (by omega) (by omega) w4 H4.out.1 H4.out.2).mono ?_
      rintro e w5 ⟨rfl, hb5⟩
      have hb5' := hb4'.trans (hb5.mono hb4'.size)
      clear hb4' hb5 H4 H3
      have H5 : Hid (First w5 ∧ Cubes w5) := ⟨HK.out.1.below hb5' HK.out.1.1, HK.out.2.below hb5' HK.out.2.1⟩
      generalize macS k t = X at *
      go_wp2_with fail
      refine (awake_any w5 H5.out.1 H5.out.2).mono ?_
      rintro e w6 ⟨rfl, hb6⟩
      have hb6' := hb5'.trans (hb6.mono hb5'.size)
      clear hb5' hb6
      go_wp2
      go_ret
      exact ⟨rfl, hb6'⟩
end Go.Proofs.YtfndgiddoijdeaaDoor
