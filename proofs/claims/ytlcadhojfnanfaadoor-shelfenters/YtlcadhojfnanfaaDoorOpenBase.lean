/- A cell that is read as an int is a number of type int; one that is read as a string is a text. -/
import Derived.Test.YtlcadhojfnanfaaDoorRows
import Derived.ProofKit
import Derived.OpenShut
namespace Go.Proofs.YtlcadhojfnanfaaDoor
set_option maxRecDepth 20000
open Go.ChangeShapes Go.WideShapes Go.ChangeAt Go.RowKit

theorem cells_int : Tryd.prog.cellsOf 3 = 1 := by kernel_rfl
theorem cells_string : Tryd.prog.cellsOf 9 = 1 := by kernel_rfl
theorem fld_int {H : Type} {enc : TypeId × Value → H} {w : World} {base : Nat} {spare : Nat → Bool} {held : Bool} {n i : Nat} {c : Value} {xs : List (DataW H × List MemPlace)}
    (h : DataW.trod enc Tryd.prog w base spare held n 3 [c] = xs[i]?) (hi : i < xs.length) : ∃ a, c = .int .i64 a ∧ (Lit.int .i64 a).wf = true := by
  rw [List.getElem?_eq_getElem hi] at h
  obtain ⟨a, e0, _, wa⟩ := DataW.trod_int Tryd.underlying3 h
  simp at e0
  exact ⟨a, e0, wa⟩
theorem fld_string {H : Type} {enc : TypeId × Value → H} {w : World} {base : Nat} {spare : Nat → Bool} {held : Bool} {n i : Nat} {c : Value} {xs : List (DataW H × List MemPlace)}
    (h : DataW.trod enc Tryd.prog w base spare held n 9 [c] = xs[i]?) (hi : i < xs.length) : ∃ s, c = .string s ∧ s.size ≤ maxLen := by
  rw [List.getElem?_eq_getElem hi] at h
  obtain ⟨s, e0, _, ws⟩ := DataW.trod_string Tryd.underlying9 h
  simp at e0
  exact ⟨s, e0, ws⟩
/-- A number of type int. -/
def IsInt (a : Int) : Prop := (Lit.int .i64 a).wf = true
theorem int_le8 {x : Int} (h : IsInt x) : x ≤ 9223372036854775807 := by
  simp [IsInt, Lit.wf, IntKind.min, IntKind.max, IntKind.signed, IntKind.bits] at h
  omega
end Go.Proofs.YtlcadhojfnanfaaDoor
