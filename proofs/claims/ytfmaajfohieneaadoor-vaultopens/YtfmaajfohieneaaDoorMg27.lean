/- sum.New: a mix of nothing yet, in a block of its own. · Mixes and slices of texts, for the laws that feed part by part. -/
import Derived.Test.YtfmaajfohieneaaDoorMg24
namespace Go.Proofs.YtfmaajfohieneaaDoor.Sm
set_option maxRecDepth 20000
open Go.RowKit

end Go.Proofs.YtfmaajfohieneaaDoor.Sm

namespace Go.Proofs.YtfmaajfohieneaaDoor.Sm
set_option maxRecDepth 20000
open Go.RowKit

theorem numsOf_append (s t : ByteArray) : numsOf (s ++ t) = numsOf s ++ numsOf t := by
  simp [numsOf]

/-- A slice of n texts, S 0, S 1 and so on; if it is empty, wherever it lies. -/
def Strs (w : World) (v : Value) (n : Nat) (S : Nat → ByteArray) : Prop :=
  ∃ a cap, v = .slice a n cap ∧ n ≤ maxLen ∧ (n = 0 ∨ ∃ b off, a = some ⟨b, off, none⟩ ∧ b < w.heap.size ∧ ∀ i, i < n → w.cell? ⟨b, off + i, none⟩ = some (.string (S i)))

theorem mixAt_only {w w' : World} {B C : Nat} {l : List Nat} {n : Nat} (h : MixAt w C l n) (ho : Only B w w') (hne : C ≠ B) : MixAt w' C l n := by
  obtain ⟨R, hR, hr⟩ := h
  exact ⟨R, hR, hr.only ho hne⟩
theorem mixAt_below {w w' : World} {B : Nat} {l : List Nat} {n : Nat} (h : MixAt w B l n) (hb : Below w.heap.size w w') : MixAt w' B l n := by
  obtain ⟨R, hR, hr⟩ := h
  exact ⟨R, hR, hr.below hb hr.lt⟩
theorem mixAt_lt {w : World} {B : Nat} {l : List Nat} {n : Nat} (h : MixAt w B l n) : B < w.heap.size := by
  obtain ⟨R, _, hr⟩ := h
  exact hr.lt
theorem mixAt_le {w : World} {B : Nat} {l : List Nat} {n : Nat} (h : MixAt w B l n) : B ≤ w.heap.size := by
  obtain ⟨R, _, hr⟩ := h
  exact Nat.le_of_lt hr.lt
end Go.Proofs.YtfmaajfohieneaaDoor.Sm
