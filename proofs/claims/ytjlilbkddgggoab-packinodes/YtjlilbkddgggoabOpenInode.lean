/- A value of type api.Inode that is read as data is eighteen numbers of type int. -/
import Derived.Test.YtjlilbkddgggoabOpenBase
namespace Go.Proofs.Ytjlilbkddgggoab
open Go.ChangeShapes Go.WideShapes Go.ChangeAt Go.RowKit

theorem array18 {α : Type} {cs : Array α} (h : cs.size = 18) : ∃ c0 c1 c2 c3 c4 c5 c6 c7 c8 c9 c10 c11 c12 c13 c14 c15 c16 c17, cs = #[c0, c1, c2, c3, c4, c5, c6, c7, c8, c9, c10, c11, c12, c13, c14, c15, c16, c17] := by
  obtain ⟨l⟩ := cs
  match l, h with
  | [c0, c1, c2, c3, c4, c5, c6, c7, c8, c9, c10, c11, c12, c13, c14, c15, c16, c17], _ => exact ⟨c0, c1, c2, c3, c4, c5, c6, c7, c8, c9, c10, c11, c12, c13, c14, c15, c16, c17, rfl⟩
theorem cells_inode : Try.prog.cellsOf 24 = 18 := by kernel_rfl
theorem cells_direct : Try.prog.cellsOf 22 = 12 := by kernel_rfl
theorem open_inode {H : Type} {enc : TypeId × Value → H} {w : World} {base b0 : Nat} {spare : Nat → Bool} {held : Bool} {r : Reach} {v : Value} {dd : DataW H} {p : List MemPlace}
    (hv : Value.okWide Try.prog w r b0 24 v) (h : DataW.Trod enc Try.prog w base spare held 24 v dd p) :
    ∃ (a0 a1 a2 a3 a4 a5 : Int) (d : Nat → Int), v = .agg #[.int .i64 a0, .int .i64 a1, .int .i64 a2, .int .i64 a3, .int .i64 (d 0), .int .i64 (d 1), .int .i64 (d 2), .int .i64 (d 3), .int .i64 (d 4), .int .i64 (d 5), .int .i64 (d 6), .int .i64 (d 7), .int .i64 (d 8), .int .i64 (d 9), .int .i64 (d 10), .int .i64 (d 11), .int .i64 a4, .int .i64 a5] ∧ (IsInt a0 ∧ IsInt a1 ∧ IsInt a2 ∧ IsInt a3 ∧ IsInt a4 ∧ IsInt a5 ∧ ∀ i, i < 12 → IsInt (d i)) := by
  obtain ⟨cs, rfl, hsz⟩ := okWide_struct Try.underlying24 hv
  obtain ⟨c0, c1, c2, c3, c4, c5, c6, c7, c8, c9, c10, c11, c12, c13, c14, c15, c16, c17, rfl⟩ := array18 (hsz.trans cells_inode)
  obtain ⟨fuel, hf⟩ := h
  obtain ⟨xs, n, _, _, _, hlen, hf⟩ := DataW.trod_struct Try.underlying24 hf
  have hl : xs.length = 7 := hlen
  obtain ⟨a0, rfl, w0⟩ := fld_int (c := c0) (i := 0) (xs := xs) (by simpa [Value.cells, cells_int] using hf 0 _ rfl) (by omega)
  obtain ⟨a1, rfl, w1⟩ := fld_int (c := c1) (i := 1) (xs := xs) (by simpa [Value.cells, cells_int] using hf 1 _ rfl) (by omega)
  obtain ⟨a2, rfl, w2⟩ := fld_int (c := c2) (i := 2) (xs := xs) (by simpa [Value.cells, cells_int] using hf 2 _ rfl) (by omega)
  obtain ⟨a3, rfl, w3⟩ := fld_int (c := c3) (i := 3) (xs := xs) (by simpa [Value.cells, cells_int] using hf 3 _ rfl) (by omega)
  obtain ⟨a4, rfl, w4⟩ := fld_int (c := c16) (i := 5) (xs := xs) (by simpa [Value.cells, cells_int] using hf 5 _ rfl) (by omega)
  obtain ⟨a5, rfl, w5⟩ := fld_int (c := c17) (i := 6) (xs := xs) (by simpa [Value.cells, cells_int] using hf 6 _ rfl) (by omega)
  have hA := hf 4 _ rfl
  rw [List.getElem?_eq_getElem (by omega)] at hA
  obtain ⟨ys, m, _, _, _, hly, hg⟩ := DataW.trod_array Try.underlying22 hA
  obtain ⟨x0, rfl, y0⟩ := fld_int (c := c4) (i := 0) (xs := ys) (by simpa [Value.cells, cells_int, cells_direct] using hg 0 (by decide)) (by omega)
  obtain ⟨x1, rfl, y1⟩ := fld_int (c := c5) (i := 1) (xs := ys) (by simpa [Value.cells, cells_int, cells_direct] using hg 1 (by decide)) (by omega)
  obtain ⟨x2, rfl, y2⟩ := fld_int (c := c6) (i := 2) (xs := ys) (by simpa [Value.cells, cells_int, cells_direct] using hg 2 (by decide)) (by omega)
  obtain ⟨x3, rfl, y3⟩ := fld_int (c := c7) (i := 3) (xs := ys) (by simpa [Value.cells, cells_int, cells_direct] using hg 3 (by decide)) (by omega)
  obtain ⟨x4, rfl, y4⟩ := fld_int (c := c8) (i := 4) (xs := ys) (by simpa [Value.cells, cells_int, cells_direct] using hg 4 (by decide)) (by omega)
  obtain ⟨x5, rfl, y5⟩ := fld_int (c := c9) (i := 5) (xs := ys) (by simpa [Value.cells, cells_int, cells_direct] using hg 5 (by decide)) (by omega)
  obtain ⟨x6, rfl, y6⟩ := fld_int (c := c10) (i := 6) (xs := ys) (by simpa [Value.cells, cells_int, cells_direct] using hg 6 (by decide)) (by omega)
  obtain ⟨x7, rfl, y7⟩ := fld_int (c := c11) (i := 7) (xs := ys) (by simpa [Value.cells, cells_int, cells_direct] using hg 7 (by decide)) (by omega)
  obtain ⟨x8, rfl, y8⟩ := fld_int (c := c12) (i := 8) (xs := ys) (by simpa [Value.cells, cells_int, cells_direct] using hg 8 (by decide)) (by omega)
  obtain ⟨x9, rfl, y9⟩ := fld_int (c := c13) (i := 9) (xs := ys) (by simpa [Value.cells, cells_int, cells_direct] using hg 9 (by decide)) (by omega)
  obtain ⟨x10, rfl, y10⟩ := fld_int (c := c14) (i := 10) (xs := ys) (by simpa [Value.cells, cells_int, cells_direct] using hg 10 (by decide)) (by omega)
  obtain ⟨x11, rfl, y11⟩ := fld_int (c := c15) (i := 11) (xs := ys) (by simpa [Value.cells, cells_int, cells_direct] using hg 11 (by decide)) (by omega)
  refine ⟨a0, a1, a2, a3, a4, a5, fun i => ([x0, x1, x2, x3, x4, x5, x6, x7, x8, x9, x10, x11] : List Int).getD i 0, rfl, w0, w1, w2, w3, w4, w5, ?_⟩
  intro i hi
  have : i = 0 ∨ i = 1 ∨ i = 2 ∨ i = 3 ∨ i = 4 ∨ i = 5 ∨ i = 6 ∨ i = 7 ∨ i = 8 ∨ i = 9 ∨ i = 10 ∨ i = 11 := by omega
  rcases this with rfl | rfl | rfl | rfl | rfl | rfl | rfl | rfl | rfl | rfl | rfl | rfl
  · exact y0
  · exact y1
  · exact y2
  · exact y3
  · exact y4
  · exact y5
  · exact y6
  · exact y7
  · exact y8
  · exact y9
  · exact y10
  · exact y11
end Go.Proofs.Ytjlilbkddgggoab
