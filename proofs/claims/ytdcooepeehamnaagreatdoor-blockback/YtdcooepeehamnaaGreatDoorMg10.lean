/- The numbers of a text that is a head are laid as that text; nothing of the program's calls. · A number that is laid as bytes, the lowest first, is the number of these bytes. -/
import Derived.Test.YtdcooepeehamnaaGreatDoorMg04
import Derived.Test.YtdcooepeehamnaaGreatDoorHeadOf
import Derived.Test.YtdcooepeehamnaaGreatDoorMath
namespace Go.Proofs.YtdcooepeehamnaaGreatDoor
set_option maxRecDepth 20000

theorem list_three (L : List UInt8) (a m : Nat) : L.take a ++ (L.drop a).take m ++ L.drop (a + m) = L := by
  rw [List.append_assoc, ← List.drop_drop, List.take_append_drop, List.take_append_drop]
theorem size_of_list (s : ByteArray) : s.data.toList.length = s.size := by simp

theorem head_parts {s : ByteArray} (h : headE s = 0) : s.size = 48 ∧ (s.extract 0 4).toList = [71, 82, 80, 78] ∧ allZ (s.extract 40 48) = true := by
  unfold headE at h
  by_cases h1 : 48 < s.size
  · rw [if_pos h1] at h; omega
  rw [if_neg h1] at h
  by_cases h2 : s.size < 48
  · rw [if_pos h2] at h; omega
  rw [if_neg h2] at h
  by_cases h3 : ((s.extract 0 4).toList == [71, 82, 80, 78]) = true
  case neg => rw [if_neg h3] at h; omega
  rw [if_pos h3] at h
  by_cases h4 : allZ (s.extract 40 48) = true
  case neg => rw [if_neg h4] at h; omega
  exact ⟨by omega, eq_of_beq h3, h4⟩
theorem head_back {s : ByteArray} (h : headE s = 0) : recE (headPs (headN s 4 6) (headN s 10 4) (headN s 14 2) (headN s 16 4) (headN s 20 4) (headN s 24 4) (headN s 28 6) (headN s 34 6)) = 0 ∧ recS [71, 82, 80, 78] (headPs (headN s 4 6) (headN s 10 4) (headN s 14 2) (headN s 16 4) (headN s 20 4) (headN s 24 4) (headN s 28 6) (headN s 34 6)) 8 = s := by
  obtain ⟨h48, hm, hz⟩ := head_parts h
  have e : headPs (headN s 4 6) (headN s 10 4) (headN s 14 2) (headN s 16 4) (headN s 20 4) (headN s 24 4) (headN s 28 6) (headN s 34 6) = pairsOf s.data.toList 4 [6, 4, 2, 4, 4, 4, 6, 6] := by
    simp only [headN, if_pos h]
    rfl
  have hl := size_of_list s
  obtain ⟨p1, p2⟩ := pairs_laid s.data.toList [6, 4, 2, 4, 4, 4, 6, 6] 4 (by decide) (by rw [hl, h48]; decide)
  rw [e]
  refine ⟨recE_ok p1, ?_⟩
  rw [recS_ok p1, p2]
  refine ba_of ?_
  have c1 := text_cut s 0 4
  rw [ByteArray.toList_eq] at hm
  rw [hm] at c1
  have c2 := text_zeros s 40 48 h48 (by decide) hz
  have c3 := list_three s.data.toList 4 36
  rw [show (s.data.toList.take 4) = [71, 82, 80, 78] from c1, c2] at c3
  exact c3.symm
end Go.Proofs.YtdcooepeehamnaaGreatDoor

namespace Go.Proofs.YtdcooepeehamnaaGreatDoor
set_option maxRecDepth 20000
theorem leVal_leI : ∀ (k : Nat) (n : Int), 0 ≤ n → n < 256 ^ k → leVal ((leI k n).map fun x => UInt8.ofNat x.toNat) = n
  | 0, n, h, h' => by simp at h'; simp [leI, leVal]; omega
  | k + 1, n, h, h' => by
    rw [leI_succ, List.map_append, List.map_cons, List.map_nil, leVal_snoc, List.length_map, leI_length]
    have hp : (0 : Int) < 256 ^ k := Int.pow_pos (by decide)
    have hq : n / 256 ^ k < 256 := Int.ediv_lt_of_lt_mul hp (by rw [Int.pow_succ, Int.mul_comm] at h'; exact h')
    have hq0 : 0 ≤ n / 256 ^ k := Int.ediv_nonneg h (Int.le_of_lt hp)
    have hlow : leI k n = leI k (n % 256 ^ k) := by
      unfold leI
      apply List.map_congr_left
      intro i hi
      have hik : i < k := List.mem_range.1 hi
      have e : (256 : Int) ^ k = 256 ^ i * 256 ^ (k - i) := by rw [← Int.pow_add]; congr 1; omega
      have e2 : (256 : Int) ^ (k - i) = 256 * 256 ^ (k - i - 1) := by rw [Int.mul_comm, ← Int.pow_succ]; congr 1; omega
      have hi0 : (0 : Int) < 256 ^ i := Int.pow_pos (by decide)
      conv => lhs; rw [← Int.mul_ediv_add_emod n (256 ^ k)]
      rw [e, Int.mul_assoc, Int.add_comm, Int.add_mul_ediv_left _ _ (by omega), e2, Int.mul_assoc, Int.add_mul_emod_self_left]
    rw [hlow, leVal_leI k (n % 256 ^ k) (Int.emod_nonneg _ (by omega)) (Int.emod_lt_of_pos _ hp)]
    rw [Int.emod_eq_of_lt hq0 hq]
    have hb : ((UInt8.ofNat (n / 256 ^ k).toNat).toNat : Int) = n / 256 ^ k := by
      rw [UInt8.toNat_ofNat', Nat.mod_eq_of_lt (by omega)]; omega
    rw [hb, Int.mul_comm, Int.add_comm]
    exact Int.mul_ediv_add_emod n (256 ^ k)
end Go.Proofs.YtdcooepeehamnaaGreatDoor
