/- pack.Head, called with any head, tells the bytes and the error of the document's numbers in their widths, and changes nothing that was there. -/
import Derived.Test.YtkopbpbmfdogfaaDoorWriter
namespace Go.Proofs.YtkopbpbmfdogfaaDoor
set_option maxRecDepth 20000
open Go.RowKit Go.Lib

set_option maxHeartbeats 1000000 in
theorem head_any (a0 a1 a2 a3 a4 a5 a6 a7 : Int) (w : World) :
    Calls Tryd.prog 11 #[.agg #[.int .i64 a0, .int .i64 a1, .int .i64 a2, .int .i64 a3, .int .i64 a4, .int .i64 a5, .int .i64 a6, .int .i64 a7]] w fun e w' =>
      e = .returned (.tuple #[.string (recS [71, 82, 80, 78] (headPs a0 a1 a2 a3 a4 a5 a6 a7) 8), .int .i64 (recE (headPs a0 a1 a2 a3 a4 a5 a6 a7))]) ∧ Below w.heap.size w w' := by
  go_enter Tryd.func11, Tryd.ntmps11
  go_wp2_with fail
  have hwr := wr_new (w.alloc (.cells #[.int .i64 a0, .int .i64 a1, .int .i64 a2, .int .i64 a3, .int .i64 a4, .int .i64 a5, .int .i64 a6, .int .i64 a7] 33)) (w.heap.size + 1) (by simp)
  have HC : Hid (∀ i (v : Value), (#[.int .i64 a0, .int .i64 a1, .int .i64 a2, .int .i64 a3, .int .i64 a4, .int .i64 a5, .int .i64 a6, .int .i64 a7] : Array Value)[i]? = some v → ((w.alloc (.cells #[.int .i64 a0, .int .i64 a1, .int .i64 a2, .int .i64 a3, .int .i64 a4, .int .i64 a5, .int .i64 a6, .int .i64 a7] 33)).alloc (.cells #[.slice none 0 0, .int .i64 0] 62)).cell? ⟨w.heap.size, i, none⟩ = some v) := cells_boxed w _ _ _
  have hb0 : Below w.heap.size w ((w.alloc (.cells #[.int .i64 a0, .int .i64 a1, .int .i64 a2, .int .i64 a3, .int .i64 a4, .int .i64 a5, .int .i64 a6, .int .i64 a7] 33)).alloc (.cells #[.slice none 0 0, .int .i64 0] 62)) := ((Below.refl _ _).alloc (Nat.le_refl _) _).alloc (by simp) _
  generalize (w.alloc (.cells #[.int .i64 a0, .int .i64 a1, .int .i64 a2, .int .i64 a3, .int .i64 a4, .int .i64 a5, .int .i64 a6, .int .i64 a7] 33)).alloc (.cells #[.slice none 0 0, .int .i64 0] 62) = W0 at *
  refine (wbytes_any (w.heap.size + 1) [] 0 ⟨#[71, 82, 80, 78]⟩ _ hwr (by decide)).mono ?_
  rintro en w1 ⟨rfl, hw1, hb1⟩
  replace hw1 : Wr w1 62 5 (w.heap.size + 1) ([71, 82, 80, 78] ++ laidL []) (errL 0 []) := hw1
  clear hwr
  have c1 := (hb1.cell (p := ⟨w.heap.size, 0, none⟩) (by show w.heap.size < w.heap.size + 1; omega)).trans (HC.out 0 (.int .i64 a0) rfl)
  go_wp2_with fail
  refine (wnumberP (w.heap.size + 1) [71, 82, 80, 78] [] [(a0, 6)] a0 6 rfl _ hw1 (by simp)).mono ?_
  rintro en w2 ⟨rfl, hw2, hbn⟩
  have hb2 := hb1.trans hbn
  clear hw1 hb1 hbn c1
  have c2 := (hb2.cell (p := ⟨w.heap.size, 1, none⟩) (by show w.heap.size < w.heap.size + 1; omega)).trans (HC.out 1 (.int .i64 a1) rfl)
  go_wp2_with fail
  refine (wnumberP (w.heap.size + 1) [71, 82, 80, 78] [(a0, 6)] [(a0, 6), (a1, 4)] a1 4 rfl _ hw2 (by simp)).mono ?_
  rintro en w3 ⟨rfl, hw3, hbn⟩
  have hb3 := hb2.trans hbn
  clear hw2 hb2 hbn c2
  have c3 := (hb3.cell (p := ⟨w.heap.size, 2, none⟩) (by show w.heap.size < w.heap.size + 1; omega)).trans (HC.out 2 (.int .i64 a2) rfl)
  go_wp2_with fail
  refine (wnumberP (w.heap.size + 1) [71, 82, 80, 78] [(a0, 6), (a1, 4)] [(a0, 6), (a1, 4), (a2, 2)] a2 2 rfl _ hw3 (by simp)).mono ?_
  rintro en w4 ⟨rfl, hw4, hbn⟩
  have hb4 := hb3.trans hbn
  clear hw3 hb3 hbn c3
  have c4 := (hb4.cell (p := ⟨w.heap.size, 3, none⟩) (by show w.heap.size < w.heap.size + 1; omega)).trans (HC.out 3 (.int .i64 a3) rfl)
  go_wp2_with fail
  refine (wnumberP (w.heap.size + 1) [71, 82, 80, 78] [(a0, 6), (a1, 4), (a2, 2)] [(a0, 6), (a1, 4), (a2, 2), (a3, 4)] a3 4 rfl _ hw4 (by simp)).mono ?_
  rintro en w5 ⟨rfl, hw5, hbn⟩
  have hb5 := hb4.trans hbn
  clear hw4 hb4 hbn c4
  have c5 := (hb5.cell (p := ⟨w.heap.size, 4, none⟩) (by show w.heap.size < w.heap.size + 1; omega)).trans (HC.out 4 (.int .i64 a4) rfl)
  go_wp2_with fail
  refine (wnumberP (w.heap.size + 1) [71, 82, 80, 78] [(a0, 6), (a1, 4), (a2, 2), (a3, 4)] [(a0, 6), (a1, 4), (a2, 2), (a3, 4), (a4, 4)] a4 4 rfl _ hw5 (by simp)).mono ?_
  rintro en w6 ⟨rfl, hw6, hbn⟩
  have hb6 := hb5.trans hbn
  clear hw5 hb5 hbn c5
  have c6 := (hb6.cell (p := ⟨w.heap.size, 5, none⟩) (by show w.heap.size < w.heap.size + 1; omega)).trans (HC.out 5 (.int .i64 a5) rfl)
  go_wp2_with fail
  refine (wnumberP (w.heap.size + 1) [71, 82, 80, 78] [(a0, 6), (a1, 4), (a2, 2), (a3, 4), (a4, 4)] [(a0, 6), (a1, 4), (a2, 2), (a3, 4), (a4, 4), (a5, 4)] a5 4 rfl _ hw6 (by simp)).mono ?_
  rintro en w7 ⟨rfl, hw7, hbn⟩
  have hb7 := hb6.trans hbn
  clear hw6 hb6 hbn c6
  have c7 := (hb7.cell (p := ⟨w.heap.size, 6, none⟩) (by show w.heap.size < w.heap.size + 1; omega)).trans (HC.out 6 (.int .i64 a6) rfl)
  go_wp2_with fail
  refine (wnumberP (w.heap.size + 1) [71, 82, 80, 78] [(a0, 6), (a1, 4), (a2, 2), (a3, 4), (a4, 4), (a5, 4)] [(a0, 6), (a1, 4), (a2, 2), (a3, 4), (a4, 4), (a5, 4), (a6, 6)] a6 6 rfl _ hw7 (by simp)).mono ?_
  rintro en w8 ⟨rfl, hw8, hbn⟩
  have hb8 := hb7.trans hbn
  clear hw7 hb7 hbn c7
  have c8 := (hb8.cell (p := ⟨w.heap.size, 7, none⟩) (by show w.heap.size < w.heap.size + 1; omega)).trans (HC.out 7 (.int .i64 a7) rfl)
  go_wp2_with fail
  refine (wnumberP (w.heap.size + 1) [71, 82, 80, 78] [(a0, 6), (a1, 4), (a2, 2), (a3, 4), (a4, 4), (a5, 4), (a6, 6)] [(a0, 6), (a1, 4), (a2, 2), (a3, 4), (a4, 4), (a5, 4), (a6, 6), (a7, 6)] a7 6 rfl _ hw8 (by simp)).mono ?_
  rintro en w9 ⟨rfl, hw9, hbn⟩
  have hb9 := hb8.trans hbn
  clear hw8 hb8 hbn c8
  go_wp2_with fail
  refine (wrecordP (w.heap.size + 1) [71, 82, 80, 78] (headPs a0 a1 a2 a3 a4 a5 a6 a7) 48 8 (by decide) rfl rfl _ hw9).mono ?_
  rintro en w10 ⟨rfl, hb10⟩
  go_wp2
  go_ret2
  exact ⟨rfl, hb0.trans ((hb9.mono (show w.heap.size ≤ w.heap.size + 1 by omega)).trans (hb10.mono (Nat.le_trans hb0.size hb9.size)))⟩
end Go.Proofs.YtkopbpbmfdogfaaDoor
