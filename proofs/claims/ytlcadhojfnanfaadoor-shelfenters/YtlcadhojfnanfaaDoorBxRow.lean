/- Rows of cells told by a function of the place; one cell written anew; a row loaded and stored whole, and told as a result. -/
import Derived.Test.YtlcadhojfnanfaaDoorBxBase
namespace Go.Proofs.YtlcadhojfnanfaaDoor
set_option maxRecDepth 20000
open Go.RowKit

def rowF (n : Nat) (f : Nat → Value) : List Value := (List.range n).map f
theorem rowF_length (n : Nat) (f : Nat → Value) : (rowF n f).length = n := by simp [rowF]
theorem rowF_get (n : Nat) (f : Nat → Value) (i : Nat) (h : i < n) : (rowF n f)[i]? = some (f i) := by simp [rowF, h]
theorem rowF_congr {n : Nat} {f f' : Nat → Value} (h : ∀ k, k < n → f k = f' k) : rowF n f = rowF n f' :=
  List.map_congr_left fun k hk => h k (List.mem_range.1 hk)
theorem rowF_set (n : Nat) (f : Nat → Value) (i : Nat) (v : Value) : (rowF n f).set i v = rowF n fun k => if k = i then v else f k := by
  refine List.ext_getElem? fun k => ?_
  rw [List.getElem?_set]
  by_cases hk : k < n
  · rw [rowF_get _ _ _ hk, rowF_get _ _ _ hk, rowF_length]
    by_cases e : i = k
    · subst e; simp [hk]
    · simp [e, Ne.symm e]
  · rw [List.getElem?_eq_none (by rw [rowF_length]; omega), List.getElem?_eq_none (by rw [rowF_length]; omega), rowF_length]
    by_cases e : i = k
    · subst e; simp [hk]
    · simp [e]
theorem Row.setF {w : World} {g t n : Nat} {f : Nat → Value} (h : Row w g t (rowF n f)) (i : Nat) (v : Value) : Row (w.setCell ⟨g, i, none⟩ v) g t (rowF n fun k => if k = i then v else f k) := by
  have h1 := heap_setCell_same w g i _ t v h
  rw [List.setIfInBounds_toArray, rowF_set] at h1
  exact h1
theorem Row.cellF {w : World} {g t n : Nat} {f : Nat → Value} (h : Row w g t (rowF n f)) (i : Nat) (hi : i < n) : w.cell? ⟨g, i, none⟩ = some (f i) := by
  rw [h.cell, rowF_get _ _ _ hi]
theorem byV_rowF (l : List Nat) : byV l = rowF l.length fun k => .int .u8 (l.getD k 0 : Nat) := by
  refine List.ext_getElem? fun k => ?_
  by_cases hk : k < l.length
  · rw [byV_get _ _ hk, rowF_get _ _ _ hk]
  · rw [List.getElem?_eq_none (by simp [byV]; omega), List.getElem?_eq_none (by rw [rowF_length]; omega)]
theorem Row.congr {w : World} {g t : Nat} {l l' : List Value} (h : Row w g t l) (e : l = l') : Row w g t l' := e ▸ h
end Go.Proofs.YtlcadhojfnanfaaDoor
