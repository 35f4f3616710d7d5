/- A block that is read as slots is written again as it was: the arithmetic; nothing of the program. -/
import Derived.Test.YtndjnecjnfcapaaDoorShForth
namespace Go.Proofs.YtndjnecjnfcapaaDoor
set_option maxRecDepth 20000
open Go.RowKit

theorem list_three (L : List UInt8) (a m : Nat) : L.take a ++ (L.drop a).take m ++ L.drop (a + m) = L := by
  rw [List.append_assoc, ← List.drop_drop, List.take_append_drop, List.take_append_drop]
theorem entry_parts {s : ByteArray} (h : entryOE s = 0) : s.size = 28 ∧ eoFits s = true := by
  unfold entryOE at h
  by_cases h1 : 28 < s.size
  · rw [if_pos h1] at h; omega
  rw [if_neg h1] at h
  by_cases h2 : s.size < 28
  · rw [if_pos h2] at h; omega
  rw [if_neg h2] at h
  by_cases h4 : eoFits s = true
  case neg => rw [if_neg h4] at h; omega
  exact ⟨by omega, h4⟩
theorem entry_back {s : ByteArray} (h : entryOE s = 0) : entE (entryOR s) (entryON s 20 4) (entryON s 24 4) = 0 ∧ entS (entryOR s) (entryON s 20 4) (entryON s 24 4) = s := by
  obtain ⟨h28, hf⟩ := entry_parts h
  have e : entPs (entryON s 20 4) (entryON s 24 4) = pairsOf s.data.toList 20 [4, 4] := by
    simp only [entryON, if_pos h]
    rfl
  have er : entryOR s = eoName s := by rw [entryOR, if_pos h]
  have e1 : entryON s 20 4 = leVal ((s.data.toList.drop 20).take 4) := by rw [entryON, if_pos h]
  have e2 : entryON s 24 4 = leVal ((s.data.toList.drop 24).take 4) := by rw [entryON, if_pos h]
  unfold eoFits at hf
  simp only [Bool.and_eq_true, decide_eq_true_eq] at hf
  obtain ⟨⟨hn, hz⟩, hfree⟩ := hf
  rw [← e1, ← e2] at hfree
  have hl := sz_list s
  obtain ⟨p1, p2⟩ := pairs_laid s.data.toList [4, 4] 20 (by decide) (by rw [hl, h28]; decide)
  have hsz : (eoName s).size = eoLen s := by unfold eoName; simp; omega
  have hL := eoLen_eq s
  obtain ⟨q1, q2⟩ := put_back ((s.data.toList.drop 0).take 1) 1 (by rw [List.drop_zero, List.length_take, hl, h28]; decide) (by decide) (by decide)
  rw [er]
  constructor
  · rw [entE, if_pos (by omega), if_pos hfree, e, recE_ok p1]
  · rw [entS, if_pos ⟨by omega, hfree⟩, e, recS_ok p1, p2]
    refine ba_of ?_
    have c0 : (putS (eoName s).size 1).data.toList = (s.data.toList.drop 0).take 1 := by
      rw [hsz, ← hL]
      have := congrArg (fun b : ByteArray => b.data.toList) q2
      simpa using this
    have c1 : (eoName s).data.toList = (s.data.toList.drop 1).take (eoLen s) := by
      unfold eoName
      rw [← text_cut, ← text_cut, List.drop_zero, List.take_take]
      exact congrArg (fun n => List.take n (List.drop 1 s.data.toList)) (by omega)
    have c2 : (s.data.toList.drop (1 + eoLen s)).take (19 - eoLen s) = List.replicate (19 - eoLen s) 0 := by
      have a := allZ_eq _ hz
      have b : ((s.extract 1 20).extract (eoLen s) 19).size = 19 - eoLen s := by simp; omega
      rw [b, ← text_cut, ← text_cut] at a
      rw [← a, List.drop_take, List.take_take, List.drop_drop]
      exact congrArg (fun n => List.take n (List.drop (1 + eoLen s) s.data.toList)) (by omega)
    unfold entPre
    rw [c0, c1, hsz, ← c2]
    have d1 := list_three s.data.toList 1 (eoLen s)
    have d2 := list_three (s.data.toList.drop (1 + eoLen s)) 0 (19 - eoLen s)
    have d3 : (s.data.toList.drop (1 + eoLen s)).drop (0 + (19 - eoLen s)) = s.data.toList.drop 20 := by
      rw [List.drop_drop]
      exact congrArg (fun n => List.drop n s.data.toList) (by omega)
    rw [List.take_zero, List.nil_append, List.drop_zero, d3] at d2
    have d4 : (s.data.toList.drop 20).take [4, 4].sum = s.data.toList.drop 20 := List.take_of_length_le (by rw [List.length_drop, hl, h28]; decide)
    rw [d4, List.drop_zero, List.append_assoc, List.append_assoc, List.append_assoc, List.replicate_zero, List.append_nil, d2, ← List.append_assoc, d1]


theorem bodyF_page {s : ByteArray} (h4 : s.size = 448) (ha : ∀ j, j < 16 → entryOE (piece s j) = 0) : ∀ k, k ≤ 16 → bodyF (pageF s k) = s.data.toList.take (k * 28)
  | 0, _ => by simp [pageF, bodyF]
  | k + 1, hk => by
    have ih := bodyF_page h4 ha k (by omega)
    have hb := (entry_back (ha k (by omega))).2
    have e : entSx (enOf (piece s k)) = piece s k := hb
    have hd : (piece s k).data.toList = (s.data.toList.drop (k * 28)).take 28 := by rw [piece, ext_list, show k * 28 + 28 - k * 28 = 28 by omega]
    rw [pageF_succ]
    show (pageF s k ++ [enOf (piece s k)]).flatMap _ = _
    rw [List.flatMap_append, List.flatMap_singleton]
    show bodyF (pageF s k) ++ (entSx (enOf (piece s k))).data.toList = _
    rw [ih, e, hd, show (k + 1) * 28 = k * 28 + 28 by omega, List.take_add]
/-- Body of Page is the block. -/
theorem body_page {s : ByteArray} (h : pageE s = 0) : bodyE (pageL s) = 0 ∧ bodyS (pageL s) = s := by
  obtain ⟨h4, ha⟩ := pageE_inv h
  have e : pageL s = pageF s 16 := by rw [pageL, if_pos h]
  rw [e]
  have hE : bodyE (pageF s 16) = 0 := bodyE_good (pageF_len s 16) fun x hx => by
    obtain ⟨i, hi, rfl⟩ := List.mem_map.1 hx
    exact (entry_back (ha i (List.mem_range.1 hi))).1
  refine ⟨hE, ?_⟩
  rw [bodyS, if_pos hE, bodyF_page h4 ha 16 (by omega), List.take_of_length_le (by rw [sz_list, h4]; decide)]
end Go.Proofs.YtndjnecjnfcapaaDoor
