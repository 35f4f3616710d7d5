/- A value of type api.Entry that is read as data is a text and two numbers of type int. -/
import Derived.Test.YtlcadhojfnanfaaDoorOpenBase
namespace Go.Proofs.YtlcadhojfnanfaaDoor
set_option maxRecDepth 20000
open Go.ChangeShapes Go.WideShapes Go.ChangeAt Go.RowKit

theorem array3e {α : Type} {cs : Array α} (h : cs.size = 3) : ∃ c0 c1 c2, cs = #[c0, c1, c2] := by
  obtain ⟨l⟩ := cs
  match l, h with
  | [c0, c1, c2], _ => exact ⟨c0, c1, c2, rfl⟩
theorem cells_entry : Tryd.prog.cellsOf 28 = 3 := by kernel_rfl
theorem open_entry {H : Type} {enc : TypeId × Value → H} {w : World} {base b0 : Nat} {spare : Nat → Bool} {held : Bool} {r : Reach} {v : Value} {d : DataW H} {p : List MemPlace}
    (hv : Value.okWide Tryd.prog w r b0 28 v) (h : DataW.Trod enc Tryd.prog w base spare held 28 v d p) :
    ∃ (s : ByteArray) (a1 a2 : Int), v = .agg #[.string s, .int .i64 a1, .int .i64 a2] ∧ (s.size ≤ maxLen ∧ IsInt a1 ∧ IsInt a2) := by
  obtain ⟨cs, rfl, hsz⟩ := okWide_struct Tryd.underlying28 hv
  obtain ⟨c0, c1, c2, rfl⟩ := array3e (hsz.trans cells_entry)
  obtain ⟨fuel, hf⟩ := h
  obtain ⟨xs, n, _, _, _, hlen, hf⟩ := DataW.trod_struct Tryd.underlying28 hf
  have hl : xs.length = 3 := hlen
  obtain ⟨s, rfl, w0⟩ := fld_string (c := c0) (i := 0) (xs := xs) (by simpa [Value.cells, cells_string] using hf 0 _ rfl) (by omega)
  obtain ⟨a1, rfl, w1⟩ := fld_int (c := c1) (i := 1) (xs := xs) (by simpa [Value.cells, cells_int] using hf 1 _ rfl) (by omega)
  obtain ⟨a2, rfl, w2⟩ := fld_int (c := c2) (i := 2) (xs := xs) (by simpa [Value.cells, cells_int] using hf 2 _ rfl) (by omega)
  exact ⟨s, a1, a2, rfl, w0, w1, w2⟩
end Go.Proofs.YtlcadhojfnanfaaDoor
