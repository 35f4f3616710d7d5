/- Split: the document's. -/
import Derived.Test.YtjpgmbebdkiofabDoorPtSplit
namespace Go.Proofs.YtjpgmbebdkiofabDoor
set_option maxRecDepth 20000
open Go.RowKit

/-- How far the document's Split has come. -/
def stt (l : List UInt8) (d : List (List UInt8)) (fr i : Nat) : Prop :=
  (1 ≤ fr ∧ fr ≤ i ∧ i ≤ l.length ∧ cutL l.tail = d ++ prep ((l.drop fr).take (i - fr)) (cutL (l.drop i))) ∨ (i = l.length + 1 ∧ fr = l.length + 1 ∧ cutL l.tail = d)
theorem stt_start {l : List UInt8} (h : 1 ≤ l.length) : stt l [] 1 1 := by
  refine .inl ⟨Nat.le_refl _, Nat.le_refl _, h, ?_⟩
  rw [Nat.sub_self, List.take_zero, prep_nil (cutL_ne _), List.nil_append, List.drop_one]
theorem stt_go {l : List UInt8} {d : List (List UInt8)} {fr i : Nat} (h : stt l d fr i) (hi : i < l.length) (hc : l[i] ≠ 47) : stt l d fr (i + 1) := by
  rcases h with ⟨h1, h2, _, h3⟩ | ⟨h1, _, _⟩
  · refine .inl ⟨h1, by omega, hi, ?_⟩
    rw [h3, List.drop_eq_getElem_cons hi, cutL_cons hc, prep_cons _ _ (cutL_ne _)]
    congr 2
    rw [show i + 1 - fr = (i - fr) + 1 by omega, List.take_add_one, List.getElem?_drop, show fr + (i - fr) = i by omega, List.getElem?_eq_getElem hi]
    rfl
  · omega
theorem stt_piece {l : List UInt8} {d : List (List UInt8)} {fr i : Nat} (h : stt l d fr i) (hi : i ≤ l.length) (hc : ∀ hi : i < l.length, l[i] = 47) : (∃ r, cutL l.tail = d ++ (l.drop fr).take (i - fr) :: r) ∧ stt l (d ++ [(l.drop fr).take (i - fr)]) (i + 1) (i + 1) := by
  rcases h with ⟨h1, h2, _, h3⟩ | ⟨h1, _, _⟩
  · by_cases hlt : i < l.length
    · rw [List.drop_eq_getElem_cons hlt, hc hlt, cutL_slash] at h3
      have h4 : cutL l.tail = d ++ (l.drop fr).take (i - fr) :: cutL (l.drop (i + 1)) := by rw [h3]; simp [prep]
      refine ⟨⟨_, h4⟩, .inl ⟨by omega, Nat.le_refl _, hlt, ?_⟩⟩
      rw [h4, Nat.sub_self, List.take_zero, prep_nil (cutL_ne _)]
      simp
    · obtain rfl : i = l.length := by omega
      rw [List.drop_length] at h3
      have h4 : cutL l.tail = d ++ [(l.drop fr).take (l.length - fr)] := by rw [h3]; simp [prep, cutL]
      exact ⟨⟨[], h4⟩, .inr ⟨rfl, rfl, h4⟩⟩
  · omega
theorem stt_len {l : List UInt8} {d : List (List UInt8)} {fr i : Nat} (h : stt l d fr i) : d.length ≤ l.length + 1 := by
  have := cut_len l.tail
  rw [List.length_tail] at this
  rcases h with ⟨_, _, _, h3⟩ | ⟨_, _, h3⟩
  · rw [h3, List.length_append] at this; omega
  · rw [h3] at this; omega
theorem sub_text (s : ByteArray) (a b : Nat) : s.extract a b = mkB ((s.data.toList.drop a).take (b - a)) := by
  apply ByteArray.ext
  apply Array.toList_inj.1
  rw [Lib.extract_data]
  show _ = ((s.data.toList.drop a).take (b - a)).toArray.toList
  simp
theorem byte_at (s : ByteArray) (i : Nat) (h : i < s.size) : s[i]'h = s.data.toList[i]'(by rw [← Lib.size_eq]; exact h) := rfl
end Go.Proofs.YtjpgmbebdkiofabDoor
