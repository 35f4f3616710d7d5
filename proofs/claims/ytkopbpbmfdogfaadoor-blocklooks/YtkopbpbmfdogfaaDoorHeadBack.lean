/- The numbers of a text that is a head are laid as that text; nothing of the program's calls. -/
import Derived.Test.YtkopbpbmfdogfaaDoorCanonBase
import Derived.Test.YtkopbpbmfdogfaaDoorHeadOf
namespace Go.Proofs.YtkopbpbmfdogfaaDoor
set_option maxRecDepth 20000

theorem list_three (L : List UInt8) (a m : Nat) : L.take a ++ (L.drop a).take m ++ L.drop (a + m) = L := by
  rw [List.append_assoc, ← List.drop_drop, List.take_append_drop, List.take_append_drop]
theorem size_of_list (s : ByteArray) : s.data.toList.length = s.size := by simp

theorem head_parts {s : ByteArray} (h : headE s = 0) : s.size = 48 ∧ (s.extract 0 4).toList = [71, 82, 80, 78] ∧ allZ (s.extract 40 48) = true := by
  unfold headE at h
  by_cases h1 : 48 < s.size
  · rw [if_pos h1] at h; omega
  rw [if_neg h1] at h
  by_cases h2 : s.size < 48
  · rw [if_pos h2] at h; omega
  rw [if_neg h2] at h
  by_cases h3 : ((s.extract 0 4).toList == [71, 82, 80, 78]) = true
  case neg => rw [if_neg h3] at h; omega
  rw [if_pos h3] at h
  by_cases h4 : allZ (s.extract 40 48) = true
  case neg => rw [if_neg h4] at h; omega
  exact ⟨by omega, eq_of_beq h3, h4⟩
theorem head_back {s : ByteArray} (h : headE s = 0) : recE (headPs (headN s 4 6) (headN s 10 4) (headN s 14 2) (headN s 16 4) (headN s 20 4) (headN s 24 4) (headN s 28 6) (headN s 34 6)) = 0 ∧ recS [71, 82, 80, 78] (headPs (headN s 4 6) (headN s 10 4) (headN s 14 2) (headN s 16 4) (headN s 20 4) (headN s 24 4) (headN s 28 6) (headN s 34 6)) 8 = s := by
  obtain ⟨h48, hm, hz⟩ := head_parts h
  have e : headPs (headN s 4 6) (headN s 10 4) (headN s 14 2) (headN s 16 4) (headN s 20 4) (headN s 24 4) (headN s 28 6) (headN s 34 6) = pairsOf s.data.toList 4 [6, 4, 2, 4, 4, 4, 6, 6] := by
    simp only [headN, if_pos h]
    rfl
  have hl := size_of_list s
  obtain ⟨p1, p2⟩ := pairs_laid s.data.toList [6, 4, 2, 4, 4, 4, 6, 6] 4 (by decide) (by rw [hl, h48]; decide)
  rw [e]
  refine ⟨recE_ok p1, ?_⟩
  rw [recS_ok p1, p2]
  refine ba_of ?_
  have c1 := text_cut s 0 4
  rw [ByteArray.toList_eq] at hm
  rw [hm] at c1
  have c2 := text_zeros s 40 48 h48 (by decide) hz
  have c3 := list_three s.data.toList 4 36
  rw [show (s.data.toList.take 4) = [71, 82, 80, 78] from c1, c2] at c3
  exact c3.symm
end Go.Proofs.YtkopbpbmfdogfaaDoor
