/- copy of a text into a row of bytes, from its beginning on. -/
import Derived.Test.YtolmfhgpdcmhlaaBxRow
namespace Go.Proofs.Ytolmfhgpdcmhlaa
open Go.RowKit

/-- A list of bytes as a text. -/
def strN (l : List Nat) : ByteArray := strOfNums (l.map fun (x : Nat) => (x : Int))
theorem strN_size (l : List Nat) : (strN l).size = l.length := by simp [strN, strOfNums_size]
theorem numsOf_strN (l : List Nat) (h : Bytes l) : numsOf (strN l) = l := numsOf_str l h
theorem copy_row (w : World) (g t L : Nat) (l : List Value) (hl : l.length = L) (hr : Row w g t l) (s : ByteArray) :
    ∃ w', (Builtin.copy_ #[37, 9] 3 #[.slice (some ⟨g, 0, none⟩) L L, .string s]).run Try.prog w = .ok (.int .i64 (min s.size L : Nat)) w' ∧ Row w' g t (byV ((numsOf s).take L) ++ l.drop (min s.size L)) ∧ Only g w w' := by
  subst hl
  by_cases h : s.size ≤ l.length
  · have hm : min s.size l.length = s.size := Nat.min_eq_left h
    have h1 := run_copy_string (P := Try.prog) w 37 9 3 5 g 0 l.length l.length s Try.underlying37 size_u8 h (fun j hj => by rw [Nat.zero_add, hr.cell, List.getElem?_eq_getElem (by omega)]; rfl) (fun j _ => hr.frozen _)
    rw [numsV] at h1
    refine ⟨_, by rw [h1, hm]; rfl, ?_, Only.setCells _ _ _ (Only.refl _ _)⟩
    rw [hm, List.take_of_length_le (by rw [numsOf_length]; exact h)]
    have := Row.setCells (g := g) (t := t) (C := l.drop s.size) (byV (numsOf s)) (l.take s.size) [] w 0 (by simp [byV, numsOf_length]; omega) rfl (by simpa using hr)
    simpa using this
  · have hm : min s.size l.length = l.length := Nat.min_eq_right (by omega)
    have h1 := run_copy_part (P := Try.prog) w 37 9 3 5 g 0 l.length l.length s Try.underlying37 size_u8 (by omega) (fun j hj => by rw [Nat.zero_add, hr.cell, List.getElem?_eq_getElem (by omega)]; rfl) (fun j _ => hr.frozen _)
    rw [List.map_take, numsV] at h1
    have e : (byV (numsOf s)).take l.length = byV ((numsOf s).take l.length) := by simp [byV, List.map_take]
    rw [e] at h1
    refine ⟨_, by rw [h1, hm]; rfl, ?_, Only.setCells _ _ _ (Only.refl _ _)⟩
    rw [hm]
    have := Row.setCells (g := g) (t := t) (C := []) (byV ((numsOf s).take l.length)) l [] w 0 (by simp [byV, numsOf_length]; omega) rfl (by simpa using hr)
    simpa using this
end Go.Proofs.Ytolmfhgpdcmhlaa
