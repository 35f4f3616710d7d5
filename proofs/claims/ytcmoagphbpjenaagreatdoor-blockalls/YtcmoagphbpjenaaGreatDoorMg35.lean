/- pack.Head, called with any head, tells the bytes and the error of the document's numbers in their widths, and changes nothing that was there. · A cell that is read as an int is a number of type int; one that is read as a string is a text. · A value of type api.Head that is read as data is eight numbers of type int. -/
import Derived.Test.YtcmoagphbpjenaaGreatDoorMg34
import Derived.Test.YtcmoagphbpjenaaGreatDoorRows
import Derived.ProofKit
import Derived.OpenShut
namespace Go.Proofs.YtcmoagphbpjenaaGreatDoor
set_option maxRecDepth 20000
open Go.RowKit Go.Lib

set_option maxHeartbeats 1000000 in
theorem head_any (a0 a1 a2 a3 a4 a5 a6 a7 : Int) (w : World) :
    Calls Tryz.prog 47 #[.agg #[.int .i64 a0, .int .i64 a1, .int .i64 a2, .int .i64 a3, .int .i64 a4, .int .i64 a5, .int .i64 a6, .int .i64 a7]] w fun e w' =>
      e = .returned (.tuple #[.string (recS [71, 82, 80, 78] (headPs a0 a1 a2 a3 a4 a5 a6 a7) 8), .int .i64 (recE (headPs a0 a1 a2 a3 a4 a5 a6 a7))]) ∧ Below w.heap.size w w' := by
  go_enter Tryz.func47, Tryz.ntmps47
  go_wp2_with fail
  have hwr := wr_new (w.alloc (.cells #[.int .i64 a0, .int .i64 a1, .int .i64 a2, .int .i64 a3, .int .i64 a4, .int .i64 a5, .int .i64 a6, .int .i64 a7] 62)) (w.heap.size + 1) (by simp)
  have HC : Hid (∀ i (v : Value), (#[.int .i64 a0, .int .i64 a1, .int .i64 a2, .int .i64 a3, .int .i64 a4, .int .i64 a5, .int .i64 a6, .int .i64 a7] : Array Value)[i]? = some v → ((w.alloc (.cells #[.int .i64 a0, .int .i64 a1, .int .i64 a2, .int .i64 a3, .int .i64 a4, .int .i64 a5, .int .i64 a6, .int .i64 a7] 62)).alloc (.cells #[.slice none 0 0, .int .i64 0] 120)).cell? ⟨w.heap.size, i, none⟩ = some v) := cells_boxed w _ _ _
  have hb0 : Below w.heap.size w ((w.alloc (.cells #[.int .i64 a0, .int .i64 a1, .int .i64 a2, .int .i64 a3, .int .i64 a4, .int .i64 a5, .int .i64 a6, .int .i64 a7] 62)).alloc (.cells #[.slice none 0 0, .int .i64 0] 120)) := ((Below.refl _ _).alloc (Nat.le_refl _) _).alloc (by simp) _
  generalize (w.alloc (.cells #[.int .i64 a0, .int .i64 a1, .int .i64 a2, .int .i64 a3, .int .i64 a4, .int .i64 a5, .int .i64 a6, .int .i64 a7] 62)).alloc (.cells #[.slice none 0 0, .int .i64 0] 120) = W0 at *
  refine (wbytes_any (w.heap.size + 1) [] 0 ⟨#[71, 82, 80, 78]⟩ _ hwr (by decide)).mono ?_
  rintro en w1 ⟨rfl, hw1, hb1⟩
  replace hw1 : Wr w1 120 5 (w.heap.size + 1) ([71, 82, 80, 78] ++ laidL []) (errL 0 []) := hw1
  clear hwr
  have c1 := (hb1.cell (p := ⟨w.heap.size, 0, none⟩) (by show w.heap.size < w.heap.size + 1; omega)).trans (HC.out 0 (.int .i64 a0) rfl)
  go_wp2_with fail
  refine (wnumberP (w.heap.size + 1) [71, 82, 80, 78] [] [(a0, 6)] a0 6 rfl _ hw1 (by simp)).mono ?_
  rintro en w2 ⟨rfl, hw2, hbn⟩
  have hb2 := hb1.trans hbn
  clear hw1 hb1 hbn c1
  have c2 := (hb2.cell (p := ⟨w.heap.size, 1, none⟩) (by show w.heap.size < w.heap.size + 1; omega)).trans (HC.out 1 (.int .i64 a1) rfl)
  go_wp2_with fail
  refine (wnumberP (w.heap.size + 1) [71, 82, 80, 78] [(a0, 6)] [(a0, 6), (a1, 4)] a1 4 rfl _ hw2 (by simp)).mono ?_
  rintro en w3 ⟨rfl, hw3, hbn⟩
  have hb3 := hb2.trans hbn
  clear hw2 hb2 hbn c2
  have c3 := (hb3.cell (p := ⟨w.heap.size, 2, none⟩) (by show w.heap.size < w.heap.size + 1; omega)).trans (HC.out 2 (.int .i64 a2) rfl)
  go_wp2_with fail
  refine (wnumberP (w.heap.size + 1) [71, 82, 80, 78] [(a0, 6), (a1, 4)] [(a0, 6), (a1, 4), (a2, 2)] a2 2 rfl _ hw3 (by simp)).mono ?_
  rintro en w4 ⟨rfl, hw4, hbn⟩
  have hb4 := hb3.trans hbn
  clear hw3 hb3 hbn c3
  have c4 := (hb4.cell (p := ⟨w.heap.size, 3, none⟩) (by show w.heap.size < w.heap.size + 1; omega)).trans (HC.out 3 (.int .i64 a3) rfl)
  go_wp2_with fail
  refine (wnumberP (w.heap.size + 1) [71, 82, 80, 78] [(a0, 6), (a1, 4), (a2, 2)] [(a0, 6), (a1, 4), (a2, 2), (a3, 4)] a3 4 rfl _ hw4 (by simp)).mono ?_
  rintro en w5 ⟨rfl, hw5, hbn⟩
  have hb5 := hb4.trans hbn
  clear hw4 hb4 hbn c4
  have c5 := (hb5.cell (p := ⟨w.heap.size, 4, none⟩) (by show w.heap.size < w.heap.size + 1; omega)).trans (HC.out 4 (.int .i64 a4) rfl)
  go_wp2_with fail
  refine (wnumberP (w.heap.size + 1) [71, 82, 80, 78] [(a0, 6), (a1, 4), (a2, 2), (a3, 4)] [(a0, 6), (a1, 4), (a2, 2), (a3, 4), (a4, 4)] a4 4 rfl _ hw5 (by simp)).mono ?_
  rintro en w6 ⟨rfl, hw6, hbn⟩
  have hb6 := hb5.trans hbn
  clear hw5 hb5 hbn c5
  have c6 := (hb6.cell (p := ⟨w.heap.size, 5, none⟩) (by show w.heap.size < w.heap.size + 1; omega)).trans (HC.out 5 (.int .i64 a5) rfl)
  go_wp2_with fail
  refine (wnumberP (w.heap.size + 1) [71, 82, 80, 78] [(a0, 6), (a1, 4), (a2, 2), (a3, 4), (a4, 4)] [(a0, 6), (a1, 4), (a2, 2), (a3, 4), (a4, 4), (a5, 4)] a5 4 rfl _ hw6 (by simp)).mono ?_
  rintro en w7 ⟨rfl, hw7, hbn⟩
  have hb7 := hb6.trans hbn
  clear hw6 hb6 hbn c6
  have c7 := (hb7.cell (p := ⟨w.heap.size, 6, none⟩) (by show w.heap.size < w.heap.size + 1; omega)).trans (HC.out 6 (.int .i64 a6) rfl)
  go_wp2_with fail
  refine (wnumberP (w.heap.size + 1) [71, 82, 80, 78] [(a0, 6), (a1, 4), (a2, 2), (a3, 4), (a4, 4), (a5, 4)] [(a0, 6), (a1, 4), (a2, 2), (a3, 4), (a4, 4), (a5, 4), (a6, 6)] a6 6 rfl _ hw7 (by simp)).mono ?_
  rintro en w8 ⟨rfl, hw8, hbn⟩
  have hb8 := hb7.trans hbn
  clear hw7 hb7 hbn c7
  have c8 := (hb8.cell (p := ⟨w.heap.size, 7, none⟩) (by show w.heap.size < w.heap.size + 1; omega)).trans (HC.out 7 (.int .i64 a7) rfl)
  go_wp2_with fail
  refine (wnumberP (w.heap.size + 1) [71, 82, 80, 78] [(a0, 6), (a1, 4), (a2, 2), (a3, 4), (a4, 4), (a5, 4), (a6, 6)] [(a0, 6), (a1, 4), (a2, 2), (a3, 4), (a4, 4), (a5, 4), (a6, 6), (a7, 6)] a7 6 rfl _ hw8 (by simp)).mono ?_
  rintro en w9 ⟨rfl, hw9, hbn⟩
  have hb9 := hb8.trans hbn
  clear hw8 hb8 hbn c8
  go_wp2_with fail
  refine (wrecordP (w.heap.size + 1) [71, 82, 80, 78] (headPs a0 a1 a2 a3 a4 a5 a6 a7) 48 8 (by decide) rfl rfl _ hw9).mono ?_
  rintro en w10 ⟨rfl, hb10⟩
  go_wp2
  go_ret2
  exact ⟨rfl, hb0.trans ((hb9.mono (show w.heap.size ≤ w.heap.size + 1 by omega)).trans (hb10.mono (Nat.le_trans hb0.size hb9.size)))⟩
end Go.Proofs.YtcmoagphbpjenaaGreatDoor

namespace Go.Proofs.YtcmoagphbpjenaaGreatDoor
set_option maxRecDepth 20000
open Go.ChangeShapes Go.WideShapes Go.ChangeAt Go.RowKit

theorem cells_int : Tryz.prog.cellsOf 3 = 1 := by kernel_rfl
theorem cells_string : Tryz.prog.cellsOf 9 = 1 := by kernel_rfl
theorem fld_int {H : Type} {enc : TypeId × Value → H} {w : World} {base : Nat} {spare : Nat → Bool} {held : Bool} {n i : Nat} {c : Value} {xs : List (DataW H × List MemPlace)}
    (h : DataW.trod enc Tryz.prog w base spare held n 3 [c] = xs[i]?) (hi : i < xs.length) : ∃ a, c = .int .i64 a ∧ (Lit.int .i64 a).wf = true := by
  rw [List.getElem?_eq_getElem hi] at h
  obtain ⟨a, e0, _, wa⟩ := DataW.trod_int Tryz.underlying3 h
  simp at e0
  exact ⟨a, e0, wa⟩
theorem fld_string {H : Type} {enc : TypeId × Value → H} {w : World} {base : Nat} {spare : Nat → Bool} {held : Bool} {n i : Nat} {c : Value} {xs : List (DataW H × List MemPlace)}
    (h : DataW.trod enc Tryz.prog w base spare held n 9 [c] = xs[i]?) (hi : i < xs.length) : ∃ s, c = .string s ∧ s.size ≤ maxLen := by
  rw [List.getElem?_eq_getElem hi] at h
  obtain ⟨s, e0, _, ws⟩ := DataW.trod_string Tryz.underlying9 h
  simp at e0
  exact ⟨s, e0, ws⟩
/-- A number of type int. -/
def IsInt (a : Int) : Prop := (Lit.int .i64 a).wf = true
theorem int_le8 {x : Int} (h : IsInt x) : x ≤ 9223372036854775807 := by
  simp [IsInt, Lit.wf, IntKind.min, IntKind.max, IntKind.signed, IntKind.bits] at h
  omega
end Go.Proofs.YtcmoagphbpjenaaGreatDoor

namespace Go.Proofs.YtcmoagphbpjenaaGreatDoor
set_option maxRecDepth 20000
open Go.ChangeShapes Go.WideShapes Go.ChangeAt Go.RowKit

theorem array8 {α : Type} {cs : Array α} (h : cs.size = 8) : ∃ c0 c1 c2 c3 c4 c5 c6 c7, cs = #[c0, c1, c2, c3, c4, c5, c6, c7] := by
  obtain ⟨l⟩ := cs
  match l, h with
  | [c0, c1, c2, c3, c4, c5, c6, c7], _ => exact ⟨c0, c1, c2, c3, c4, c5, c6, c7, rfl⟩
theorem cells_head : Tryz.prog.cellsOf 62 = 8 := by kernel_rfl
theorem open_head {H : Type} {enc : TypeId × Value → H} {w : World} {base b0 : Nat} {spare : Nat → Bool} {held : Bool} {r : Reach} {v : Value} {d : DataW H} {p : List MemPlace}
    (hv : Value.okWide Tryz.prog w r b0 62 v) (h : DataW.Trod enc Tryz.prog w base spare held 62 v d p) :
    ∃ a0 a1 a2 a3 a4 a5 a6 a7 : Int, v = .agg #[.int .i64 a0, .int .i64 a1, .int .i64 a2, .int .i64 a3, .int .i64 a4, .int .i64 a5, .int .i64 a6, .int .i64 a7] ∧ (IsInt a0 ∧ IsInt a1 ∧ IsInt a2 ∧ IsInt a3 ∧ IsInt a4 ∧ IsInt a5 ∧ IsInt a6 ∧ IsInt a7) := by
  obtain ⟨cs, rfl, hsz⟩ := okWide_struct Tryz.underlying62 hv
  obtain ⟨c0, c1, c2, c3, c4, c5, c6, c7, rfl⟩ := array8 (hsz.trans cells_head)
  obtain ⟨fuel, hf⟩ := h
  obtain ⟨xs, n, _, _, _, hlen, hf⟩ := DataW.trod_struct Tryz.underlying62 hf
  have hl : xs.length = 8 := hlen
  obtain ⟨a0, rfl, w0⟩ := fld_int (c := c0) (i := 0) (xs := xs) (by simpa [Value.cells, cells_int] using hf 0 _ rfl) (by omega)
  obtain ⟨a1, rfl, w1⟩ := fld_int (c := c1) (i := 1) (xs := xs) (by simpa [Value.cells, cells_int] using hf 1 _ rfl) (by omega)
  obtain ⟨a2, rfl, w2⟩ := fld_int (c := c2) (i := 2) (xs := xs) (by simpa [Value.cells, cells_int] using hf 2 _ rfl) (by omega)
  obtain ⟨a3, rfl, w3⟩ := fld_int (c := c3) (i := 3) (xs := xs) (by simpa [Value.cells, cells_int] using hf 3 _ rfl) (by omega)
  obtain ⟨a4, rfl, w4⟩ := fld_int (c := c4) (i := 4) (xs := xs) (by simpa [Value.cells, cells_int] using hf 4 _ rfl) (by omega)
  obtain ⟨a5, rfl, w5⟩ := fld_int (c := c5) (i := 5) (xs := xs) (by simpa [Value.cells, cells_int] using hf 5 _ rfl) (by omega)
  obtain ⟨a6, rfl, w6⟩ := fld_int (c := c6) (i := 6) (xs := xs) (by simpa [Value.cells, cells_int] using hf 6 _ rfl) (by omega)
  obtain ⟨a7, rfl, w7⟩ := fld_int (c := c7) (i := 7) (xs := xs) (by simpa [Value.cells, cells_int] using hf 7 _ rfl) (by omega)
  exact ⟨a0, a1, a2, a3, a4, a5, a6, a7, rfl, w0, w1, w2, w3, w4, w5, w6, w7⟩
end Go.Proofs.YtcmoagphbpjenaaGreatDoor
