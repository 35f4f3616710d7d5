/- Tables of numbers as bytes, there and back. Nothing of the program's steps. -/
import Derived.Test.YtcmbphppeobhfabLeVal
namespace Go.Proofs.Ytcmbphppeobhfab
set_option maxRecDepth 20000
open Go.RowKit

theorem ct_leI_cons (k : Nat) (n : Int) : leI (k + 1) n = n % 256 :: leI k (n / 256) := by
  unfold leI
  rw [List.range_succ_eq_map, List.map_cons, List.map_map]
  simp only [Int.pow_zero, Int.ediv_one]
  congr 1
  refine List.map_congr_left fun i _ => ?_
  show n / 256 ^ (i + 1) % 256 = n / 256 / 256 ^ i % 256
  rw [Int.pow_succ, Int.mul_comm, Int.ediv_ediv_of_nonneg (by decide)]
theorem ct_leI_leVal : ∀ l : List UInt8, (leI l.length (leVal l)).map (fun x => UInt8.ofNat x.toNat) = l
  | [] => rfl
  | b :: l => by
    have hb := b.toNat_lt
    rw [List.length_cons, ct_leI_cons, List.map_cons]
    have e1 : leVal (b :: l) % 256 = b.toNat := by show (b.toNat + 256 * leVal l : Int) % 256 = _; omega
    have e2 : leVal (b :: l) / 256 = leVal l := by show (b.toNat + 256 * leVal l : Int) / 256 = _; omega
    rw [e1, e2, ct_leI_leVal l]
    congr 1
    simp
/-- The bytes of a number of four bytes. -/
def fourB (n : Int) : List UInt8 := (leI 4 n).map fun x => UInt8.ofNat x.toNat
theorem fourB_length (n : Int) : (fourB n).length = 4 := by simp [fourB, leI_length]
def bodB (l : List Int) : List UInt8 := l.flatMap fourB
theorem bodB_length (l : List Int) : (bodB l).length = 4 * l.length := by
  induction l with
  | nil => rfl
  | cons x r ih => rw [bodB, List.flatMap_cons, List.length_append, fourB_length, List.length_cons]; rw [bodB] at ih; omega
theorem bodB_snoc (l : List Int) (x : Int) : bodB (l ++ [x]) = bodB l ++ fourB x := by simp [bodB, List.flatMap_append]
theorem bodB_at : ∀ (l : List Int) (i : Nat) (h : i < l.length), ((bodB l).drop (4 * i)).take 4 = fourB l[i]
  | [], i, h => by simp at h
  | x :: r, 0, _ => by
    show (fourB x ++ bodB r).take 4 = fourB x
    rw [List.take_append_of_le_length (by rw [fourB_length]; exact Nat.le_refl _), List.take_of_length_le (by rw [fourB_length]; exact Nat.le_refl _)]
  | x :: r, i + 1, h => by
    have hx := fourB_length x
    have hr : i < r.length := by simpa using h
    show ((fourB x ++ bodB r).drop (4 * (i + 1))).take 4 = fourB (r[i]'hr)
    rw [show 4 * (i + 1) = (fourB x).length + 4 * i by omega, List.drop_length_add_append]
    exact bodB_at r i hr
/-- The numbers that bytes are. -/
def tabN (B : List UInt8) (k : Nat) : List Int := (List.range k).map fun i => leVal ((B.drop (4 * i)).take 4)
theorem tabN_length (B : List UInt8) (k : Nat) : (tabN B k).length = k := by simp [tabN]
theorem tabN_succ (B : List UInt8) (k : Nat) : tabN B (k + 1) = tabN B k ++ [leVal ((B.drop (4 * k)).take 4)] := by simp [tabN, List.range_succ]
theorem tab_back (B : List UInt8) : ∀ k, 4 * k ≤ B.length → bodB (tabN B k) = B.take (4 * k)
  | 0, _ => by simp [tabN, bodB]
  | k + 1, h => by
    rw [tabN_succ, bodB_snoc, tab_back B k (by omega), show 4 * (k + 1) = 4 * k + 4 by omega, List.take_add]
    congr 1
    have hl : ((B.drop (4 * k)).take 4).length = 4 := by simp; omega
    have := ct_leI_leVal ((B.drop (4 * k)).take 4)
    rw [hl] at this
    exact this
def okN (x : Int) : Prop := 0 ≤ x ∧ x < 4294967296
theorem tabN_ok (B : List UInt8) (k : Nat) : ∀ x ∈ tabN B k, okN x := fun x hx => by
  simp only [tabN, List.mem_map, List.mem_range] at hx
  obtain ⟨i, _, rfl⟩ := hx
  refine ⟨leVal_nonneg _, ?_⟩
  have h1 := leVal_lt ((B.drop (4 * i)).take 4)
  have h2 : ((B.drop (4 * i)).take 4).length ≤ 4 := by simp; omega
  have h3 : (256 : Int) ^ ((B.drop (4 * i)).take 4).length ≤ 256 ^ 4 := by
    have : ((B.drop (4 * i)).take 4).length = 0 ∨ ((B.drop (4 * i)).take 4).length = 1 ∨ ((B.drop (4 * i)).take 4).length = 2 ∨ ((B.drop (4 * i)).take 4).length = 3 ∨ ((B.drop (4 * i)).take 4).length = 4 := by omega
    rcases this with e | e | e | e | e <;> rw [e] <;> decide
  have h4 : (256 : Int) ^ 4 = 4294967296 := by decide
  omega
theorem four_back {x : Int} (h : okN x) : leVal (fourB x) = x := leVal_leI 4 x h.1 (by have := h.2; have h4 : (256 : Int) ^ 4 = 4294967296 := by decide
                                                                                       omega)
theorem body_back (l : List Int) (h : ∀ x ∈ l, okN x) : tabN (bodB l) l.length = l := by
  refine List.ext_getElem (by rw [tabN_length]) fun i h1 h2 => ?_
  simp only [tabN, List.getElem_map, List.getElem_range]
  rw [bodB_at l i h2]
  exact four_back (h _ (List.getElem_mem h2))
theorem put_four {x : Int} (h : okN x) : putS x 4 = ⟨(fourB x).toArray⟩ ∧ putE x 4 = 0 := by
  have h4 : (256 : Int) ^ 4 = 4294967296 := by decide
  exact ⟨putS_ok (m := 4) (by decide) (by decide) h.1 (by have := h.2; omega), putE_ok (m := 4) (by decide) (by decide) h.1 (by have := h.2; omega)⟩
theorem put_not {x : Int} (h : ¬ okN x) : putE x 4 = 2 := by
  have h4 : (256 : Int) ^ 4 = 4294967296 := by decide
  refine putE_noRoom (m := 4) (by decide) (by decide) ?_
  unfold okN at h
  omega
theorem get_four (s : ByteArray) (i : Nat) (h : 4 * i + 4 ≤ s.size) : getN s ((4 * i : Nat) : Int) 4 = leVal ((s.data.toList.drop (4 * i)).take 4) := getN_ok (k := 4) (by decide) (by decide) h
end Go.Proofs.Ytcmbphppeobhfab
