/- The numbers of a text that is a record are laid as that text: head, superblock, entry, inode; nothing of the program's calls. -/
import Derived.Test.YtbgilbnpamegnaaDoorCanonBase
import Derived.Test.YtbgilbnpamegnaaDoorHeadOf
import Derived.Test.YtbgilbnpamegnaaDoorSuperOf
import Derived.Test.YtbgilbnpamegnaaDoorEntryOf
import Derived.Test.YtbgilbnpamegnaaDoorInodeOf
namespace Go.Proofs.YtbgilbnpamegnaaDoor

theorem list_three (L : List UInt8) (a m : Nat) : L.take a ++ (L.drop a).take m ++ L.drop (a + m) = L := by
  rw [List.append_assoc, ← List.drop_drop, List.take_append_drop, List.take_append_drop]
theorem size_of_list (s : ByteArray) : s.data.toList.length = s.size := by simp

theorem head_parts {s : ByteArray} (h : headE s = 0) : s.size = 48 ∧ (s.extract 0 4).toList = [71, 82, 80, 78] ∧ allZ (s.extract 40 48) = true := by
  unfold headE at h
  by_cases h1 : 48 < s.size
  · rw [if_pos h1] at h; omega
  rw [if_neg h1] at h
  by_cases h2 : s.size < 48
  · rw [if_pos h2] at h; omega
  rw [if_neg h2] at h
  by_cases h3 : ((s.extract 0 4).toList == [71, 82, 80, 78]) = true
  case neg => rw [if_neg h3] at h; omega
  rw [if_pos h3] at h
  by_cases h4 : allZ (s.extract 40 48) = true
  case neg => rw [if_neg h4] at h; omega
  exact ⟨by omega, eq_of_beq h3, h4⟩
theorem head_back {s : ByteArray} (h : headE s = 0) : recE (headPs (headN s 4 6) (headN s 10 4) (headN s 14 2) (headN s 16 4) (headN s 20 4) (headN s 24 4) (headN s 28 6) (headN s 34 6)) = 0 ∧ recS [71, 82, 80, 78] (headPs (headN s 4 6) (headN s 10 4) (headN s 14 2) (headN s 16 4) (headN s 20 4) (headN s 24 4) (headN s 28 6) (headN s 34 6)) 8 = s := by
  obtain ⟨h48, hm, hz⟩ := head_parts h
  have e : headPs (headN s 4 6) (headN s 10 4) (headN s 14 2) (headN s 16 4) (headN s 20 4) (headN s 24 4) (headN s 28 6) (headN s 34 6) = pairsOf s.data.toList 4 [6, 4, 2, 4, 4, 4, 6, 6] := by
    simp only [headN, if_pos h]
    rfl
  have hl := size_of_list s
  obtain ⟨p1, p2⟩ := pairs_laid s.data.toList [6, 4, 2, 4, 4, 4, 6, 6] 4 (by decide) (by rw [hl, h48]; decide)
  rw [e]
  refine ⟨recE_ok p1, ?_⟩
  rw [recS_ok p1, p2]
  refine ba_of ?_
  have c1 := text_cut s 0 4
  rw [ByteArray.toList_eq] at hm
  rw [hm] at c1
  have c2 := text_zeros s 40 48 h48 (by decide) hz
  have c3 := list_three s.data.toList 4 36
  rw [show (s.data.toList.take 4) = [71, 82, 80, 78] from c1, c2] at c3
  exact c3.symm

theorem super_parts {s : ByteArray} (h : superOE s = 0) : s.size = 448 ∧ allZ (s.extract 54 448) = true := by
  unfold superOE at h
  by_cases h1 : 448 < s.size
  · rw [if_pos h1] at h; omega
  rw [if_neg h1] at h
  by_cases h2 : s.size < 448
  · rw [if_pos h2] at h; omega
  rw [if_neg h2] at h
  by_cases h4 : allZ (s.extract 54 448) = true
  case neg => rw [if_neg h4] at h; omega
  exact ⟨by omega, h4⟩
theorem super_back {s : ByteArray} (h : superOE s = 0) : superE (superON s 0 6) (superON s 6 6) (superON s 12 6) (superON s 18 4) (superOR s) = 0 ∧ superS (superON s 0 6) (superON s 6 6) (superON s 12 6) (superON s 18 4) (superOR s) = s := by
  obtain ⟨h448, hz⟩ := super_parts h
  have e : superPs (superON s 0 6) (superON s 6 6) (superON s 12 6) (superON s 18 4) = pairsOf s.data.toList 0 [6, 6, 6, 4] := by
    simp only [superON, if_pos h]
    rfl
  have er : superOR s = s.extract 22 54 := by rw [superOR, if_pos h]
  have hr : (s.extract 22 54).size = 32 := by simp; omega
  have hl := size_of_list s
  obtain ⟨p1, p2⟩ := pairs_laid s.data.toList [6, 6, 6, 4] 0 (by decide) (by rw [hl, h448]; decide)
  rw [er]
  constructor
  · rw [superE, if_pos hr, e, recE_ok p1]
  · rw [superS, e, if_pos ⟨hr, p1⟩, p2]
    unfold padL
    refine ba_of ?_
    have c2 := text_zeros s 54 448 h448 (by decide) hz
    have c3 := list_three s.data.toList 22 32
    have c4 := text_cut s 22 54
    rw [show (s.data.toList.drop 22).take 32 = _ from c4, c2] at c3
    exact c3.symm

theorem entry_parts {s : ByteArray} (h : entryOE s = 0) : s.size = 28 ∧ eoFits s = true := by
  unfold entryOE at h
  by_cases h1 : 28 < s.size
  · rw [if_pos h1] at h; omega
  rw [if_neg h1] at h
  by_cases h2 : s.size < 28
  · rw [if_pos h2] at h; omega
  rw [if_neg h2] at h
  by_cases h4 : eoFits s = true
  case neg => rw [if_neg h4] at h; omega
  exact ⟨by omega, h4⟩
theorem entry_back {s : ByteArray} (h : entryOE s = 0) : entE (entryOR s) (entryON s 20 4) (entryON s 24 4) = 0 ∧ entS (entryOR s) (entryON s 20 4) (entryON s 24 4) = s := by
  obtain ⟨h28, hf⟩ := entry_parts h
  have e : entPs (entryON s 20 4) (entryON s 24 4) = pairsOf s.data.toList 20 [4, 4] := by
    simp only [entryON, if_pos h]
    rfl
  have er : entryOR s = eoName s := by rw [entryOR, if_pos h]
  have e1 : entryON s 20 4 = leVal ((s.data.toList.drop 20).take 4) := by rw [entryON, if_pos h]
  have e2 : entryON s 24 4 = leVal ((s.data.toList.drop 24).take 4) := by rw [entryON, if_pos h]
  unfold eoFits at hf
  simp only [Bool.and_eq_true, decide_eq_true_eq] at hf
  obtain ⟨⟨hn, hz⟩, hfree⟩ := hf
  rw [← e1, ← e2] at hfree
  have hl := size_of_list s
  obtain ⟨p1, p2⟩ := pairs_laid s.data.toList [4, 4] 20 (by decide) (by rw [hl, h28]; decide)
  have hsz : (eoName s).size = eoLen s := by unfold eoName; simp; omega
  have hL := eoLen_eq s
  obtain ⟨q1, q2⟩ := put_back ((s.data.toList.drop 0).take 1) 1 (by rw [List.drop_zero, List.length_take, hl, h28]; decide) (by decide) (by decide)
  rw [er]
  constructor
  · rw [entE, if_pos (by omega), if_pos hfree, e, recE_ok p1]
  · rw [entS, if_pos ⟨by omega, hfree⟩, e, recS_ok p1, p2]
    refine ba_of ?_
    have c0 : (putS (eoName s).size 1).data.toList = (s.data.toList.drop 0).take 1 := by
      rw [hsz, ← hL]
      have := congrArg (fun b : ByteArray => b.data.toList) q2
      simpa using this
    have c1 : (eoName s).data.toList = (s.data.toList.drop 1).take (eoLen s) := by
      unfold eoName
      rw [← text_cut, ← text_cut, List.drop_zero, List.take_take]
      exact congrArg (fun n => List.take n (List.drop 1 s.data.toList)) (by omega)
    have c2 : (s.data.toList.drop (1 + eoLen s)).take (19 - eoLen s) = List.replicate (19 - eoLen s) 0 := by
      have a := allZ_eq _ hz
      have b : ((s.extract 1 20).extract (eoLen s) 19).size = 19 - eoLen s := by simp; omega
      rw [b, ← text_cut, ← text_cut] at a
      rw [← a, List.drop_take, List.take_take, List.drop_drop]
      exact congrArg (fun n => List.take n (List.drop (1 + eoLen s) s.data.toList)) (by omega)
    unfold entPre
    rw [c0, c1, hsz, ← c2]
    have d1 := list_three s.data.toList 1 (eoLen s)
    have d2 := list_three (s.data.toList.drop (1 + eoLen s)) 0 (19 - eoLen s)
    have d3 : (s.data.toList.drop (1 + eoLen s)).drop (0 + (19 - eoLen s)) = s.data.toList.drop 20 := by
      rw [List.drop_drop]
      exact congrArg (fun n => List.drop n s.data.toList) (by omega)
    rw [List.take_zero, List.nil_append, List.drop_zero, d3] at d2
    have d4 : (s.data.toList.drop 20).take [4, 4].sum = s.data.toList.drop 20 := List.take_of_length_le (by rw [List.length_drop, hl, h28]; decide)
    rw [d4, List.drop_zero, List.append_assoc, List.append_assoc, List.append_assoc, List.replicate_zero, List.append_nil, d2, ← List.append_assoc, d1]

theorem inode_parts {s : ByteArray} (h : inodeOE s = 0) : s.size = 448 ∧ inoFits s = true := by
  unfold inodeOE at h
  by_cases h1 : 448 < s.size
  · rw [if_pos h1] at h; omega
  rw [if_neg h1] at h
  by_cases h2 : s.size < 448
  · rw [if_pos h2] at h; omega
  rw [if_neg h2] at h
  by_cases h4 : inoFits s = true
  case neg => rw [if_neg h4] at h; omega
  exact ⟨by omega, h4⟩
theorem inode_back {s : ByteArray} (h : inodeOE s = 0) : inodeE (fldI s.data.toList 0) (fldI s.data.toList 1) (fldI s.data.toList 2) (fldI s.data.toList 3) (fun i => fldI s.data.toList (i + 4)) (fldI s.data.toList 16) (fldI s.data.toList 17) = 0 ∧ inodeS (fldI s.data.toList 0) (fldI s.data.toList 1) (fldI s.data.toList 2) (fldI s.data.toList 3) (fun i => fldI s.data.toList (i + 4)) (fldI s.data.toList 16) (fldI s.data.toList 17) = s := by
  obtain ⟨h448, hf⟩ := inode_parts h
  unfold inoFits at hf
  simp only [Bool.and_eq_true, decide_eq_true_eq] at hf
  have h0 : 0 ≤ fldI s.data.toList 0 := leVal_nonneg _
  have e : inodePs (fldI s.data.toList 0) (fldI s.data.toList 1) (fldI s.data.toList 2) (fldI s.data.toList 3) (fun i => fldI s.data.toList (i + 4)) (fldI s.data.toList 16) (fldI s.data.toList 17) = pairsOf s.data.toList 0 [2, 4, 6, 4, 4, 4, 4, 4, 4, 4, 4, 4, 4, 4, 4, 4, 4, 4] := rfl
  have hl := size_of_list s
  obtain ⟨p1, p2⟩ := pairs_laid s.data.toList [2, 4, 6, 4, 4, 4, 4, 4, 4, 4, 4, 4, 4, 4, 4, 4, 4, 4] 0 (by decide) (by rw [hl, h448]; decide)
  constructor
  · rw [inodeE, if_pos ⟨h0, hf.1⟩, e, recE_ok p1]
  · rw [inodeS, if_pos ⟨h0, hf.1⟩, e, recS_ok p1, p2]
    refine ba_of ?_
    have c2 := text_zeros s 72 448 h448 (by decide) hf.2
    have c3 := list_three s.data.toList 0 72
    rw [show 0 + 72 = 72 from rfl, c2] at c3
    exact c3.symm
end Go.Proofs.YtbgilbnpamegnaaDoor
