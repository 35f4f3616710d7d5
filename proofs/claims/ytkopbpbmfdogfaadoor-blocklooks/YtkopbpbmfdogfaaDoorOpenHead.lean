/- A value of type api.Head that is read as data is eight numbers of type int. -/
import Derived.Test.YtkopbpbmfdogfaaDoorOpenBase
namespace Go.Proofs.YtkopbpbmfdogfaaDoor
set_option maxRecDepth 20000
open Go.ChangeShapes Go.WideShapes Go.ChangeAt Go.RowKit

theorem array8 {α : Type} {cs : Array α} (h : cs.size = 8) : ∃ c0 c1 c2 c3 c4 c5 c6 c7, cs = #[c0, c1, c2, c3, c4, c5, c6, c7] := by
  obtain ⟨l⟩ := cs
  match l, h with
  | [c0, c1, c2, c3, c4, c5, c6, c7], _ => exact ⟨c0, c1, c2, c3, c4, c5, c6, c7, rfl⟩
theorem cells_head : Tryd.prog.cellsOf 33 = 8 := by kernel_rfl
theorem open_head {H : Type} {enc : TypeId × Value → H} {w : World} {base b0 : Nat} {spare : Nat → Bool} {held : Bool} {r : Reach} {v : Value} {d : DataW H} {p : List MemPlace}
    (hv : Value.okWide Tryd.prog w r b0 33 v) (h : DataW.Trod enc Tryd.prog w base spare held 33 v d p) :
    ∃ a0 a1 a2 a3 a4 a5 a6 a7 : Int, v = .agg #[.int .i64 a0, .int .i64 a1, .int .i64 a2, .int .i64 a3, .int .i64 a4, .int .i64 a5, .int .i64 a6, .int .i64 a7] ∧ (IsInt a0 ∧ IsInt a1 ∧ IsInt a2 ∧ IsInt a3 ∧ IsInt a4 ∧ IsInt a5 ∧ IsInt a6 ∧ IsInt a7) := by
  obtain ⟨cs, rfl, hsz⟩ := okWide_struct Tryd.underlying33 hv
  obtain ⟨c0, c1, c2, c3, c4, c5, c6, c7, rfl⟩ := array8 (hsz.trans cells_head)
  obtain ⟨fuel, hf⟩ := h
  obtain ⟨xs, n, _, _, _, hlen, hf⟩ := DataW.trod_struct Tryd.underlying33 hf
  have hl : xs.length = 8 := hlen
  obtain ⟨a0, rfl, w0⟩ := fld_int (c := c0) (i := 0) (xs := xs) (by simpa [Value.cells, cells_int] using hf 0 _ rfl) (by omega)
  obtain ⟨a1, rfl, w1⟩ := fld_int (c := c1) (i := 1) (xs := xs) (by simpa [Value.cells, cells_int] using hf 1 _ rfl) (by omega)
  obtain ⟨a2, rfl, w2⟩ := fld_int (c := c2) (i := 2) (xs := xs) (by simpa [Value.cells, cells_int] using hf 2 _ rfl) (by omega)
  obtain ⟨a3, rfl, w3⟩ := fld_int (c := c3) (i := 3) (xs := xs) (by simpa [Value.cells, cells_int] using hf 3 _ rfl) (by omega)
  obtain ⟨a4, rfl, w4⟩ := fld_int (c := c4) (i := 4) (xs := xs) (by simpa [Value.cells, cells_int] using hf 4 _ rfl) (by omega)
  obtain ⟨a5, rfl, w5⟩ := fld_int (c := c5) (i := 5) (xs := xs) (by simpa [Value.cells, cells_int] using hf 5 _ rfl) (by omega)
  obtain ⟨a6, rfl, w6⟩ := fld_int (c := c6) (i := 6) (xs := xs) (by simpa [Value.cells, cells_int] using hf 6 _ rfl) (by omega)
  obtain ⟨a7, rfl, w7⟩ := fld_int (c := c7) (i := 7) (xs := xs) (by simpa [Value.cells, cells_int] using hf 7 _ rfl) (by omega)
  exact ⟨a0, a1, a2, a3, a4, a5, a6, a7, rfl, w0, w1, w2, w3, w4, w5, w6, w7⟩
end Go.Proofs.YtkopbpbmfdogfaaDoor
