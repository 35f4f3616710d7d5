/- pack.Inode, called with any inode, tells the bytes inodeS and the error inodeE, and changes nothing that was there. -/
import Derived.Test.YtbgilbnpamegnaaDoorWriter
namespace Go.Proofs.YtbgilbnpamegnaaDoor
open Go.RowKit Go.Lib

set_option maxHeartbeats 400000 in
theorem inode_kind (a0 a1 a2 a3 a4 a5 : Int) (d : Nat → Int) (h : ¬ (0 ≤ a0 ∧ a0 ≤ 3)) (w : World) :
    Calls Tryd.prog 10 #[.agg #[.int .i64 a0, .int .i64 a1, .int .i64 a2, .int .i64 a3, .int .i64 (d 0), .int .i64 (d 1), .int .i64 (d 2), .int .i64 (d 3), .int .i64 (d 4), .int .i64 (d 5), .int .i64 (d 6), .int .i64 (d 7), .int .i64 (d 8), .int .i64 (d 9), .int .i64 (d 10), .int .i64 (d 11), .int .i64 a4, .int .i64 a5]] w fun e w' => e = .returned (.tuple #[.string ByteArray.empty, .int .i64 2]) ∧ Below w.heap.size w w' := by
  by_cases h0 : 0 ≤ a0
  · have h3 : decide (a0 ≤ 3) = false := by simp; omega
    clear h
    go_enter Tryd.func10, Tryd.ntmps10
    go_wp2
    go_ret2
    exact ⟨rfl, (Below.refl _ _).alloc (Nat.le_refl _) _⟩
  · have h0' : decide (0 ≤ a0) = false := by simp; omega
    clear h
    go_enter Tryd.func10, Tryd.ntmps10
    go_wp2
    go_ret2
    exact ⟨rfl, (Below.refl _ _).alloc (Nat.le_refl _) _⟩

theorem iskind_any (a0 : Int) (h0 : 0 ≤ a0) (h3 : a0 ≤ 3) (w : World) : Calls Tryd.prog 28 #[.int .i64 a0] w fun e w' => e = .returned (.bool true) ∧ w = w' := by
  go_enter Tryd.func28, Tryd.ntmps28
  go_wp2
  go_ret
  exact ⟨rfl, rfl⟩

theorem idx0 (d : Nat → Int) (W : World) : (Instr.index 22 (.agg #[.int .i64 (d 0), .int .i64 (d 1), .int .i64 (d 2), .int .i64 (d 3), .int .i64 (d 4), .int .i64 (d 5), .int .i64 (d 6), .int .i64 (d 7), .int .i64 (d 8), .int .i64 (d 9), .int .i64 (d 10), .int .i64 (d 11)]) (.int .i64 0)).run Tryd.prog W = .ok (.int .i64 (d 0)) W := by kernel_rfl
theorem idx1 (d : Nat → Int) (W : World) : (Instr.index 22 (.agg #[.int .i64 (d 0), .int .i64 (d 1), .int .i64 (d 2), .int .i64 (d 3), .int .i64 (d 4), .int .i64 (d 5), .int .i64 (d 6), .int .i64 (d 7), .int .i64 (d 8), .int .i64 (d 9), .int .i64 (d 10), .int .i64 (d 11)]) (.int .i64 1)).run Tryd.prog W = .ok (.int .i64 (d 1)) W := by kernel_rfl
theorem idx2 (d : Nat → Int) (W : World) : (Instr.index 22 (.agg #[.int .i64 (d 0), .int .i64 (d 1), .int .i64 (d 2), .int .i64 (d 3), .int .i64 (d 4), .int .i64 (d 5), .int .i64 (d 6), .int .i64 (d 7), .int .i64 (d 8), .int .i64 (d 9), .int .i64 (d 10), .int .i64 (d 11)]) (.int .i64 2)).run Tryd.prog W = .ok (.int .i64 (d 2)) W := by kernel_rfl
theorem idx3 (d : Nat → Int) (W : World) : (Instr.index 22 (.agg #[.int .i64 (d 0), .int .i64 (d 1), .int .i64 (d 2), .int .i64 (d 3), .int .i64 (d 4), .int .i64 (d 5), .int .i64 (d 6), .int .i64 (d 7), .int .i64 (d 8), .int .i64 (d 9), .int .i64 (d 10), .int .i64 (d 11)]) (.int .i64 3)).run Tryd.prog W = .ok (.int .i64 (d 3)) W := by kernel_rfl
theorem idx4 (d : Nat → Int) (W : World) : (Instr.index 22 (.agg #[.int .i64 (d 0), .int .i64 (d 1), .int .i64 (d 2), .int .i64 (d 3), .int .i64 (d 4), .int .i64 (d 5), .int .i64 (d 6), .int .i64 (d 7), .int .i64 (d 8), .int .i64 (d 9), .int .i64 (d 10), .int .i64 (d 11)]) (.int .i64 4)).run Tryd.prog W = .ok (.int .i64 (d 4)) W := by kernel_rfl
theorem idx5 (d : Nat → Int) (W : World) : (Instr.index 22 (.agg #[.int .i64 (d 0), .int .i64 (d 1), .int .i64 (d 2), .int .i64 (d 3), .int .i64 (d 4), .int .i64 (d 5), .int .i64 (d 6), .int .i64 (d 7), .int .i64 (d 8), .int .i64 (d 9), .int .i64 (d 10), .int .i64 (d 11)]) (.int .i64 5)).run Tryd.prog W = .ok (.int .i64 (d 5)) W := by kernel_rfl
theorem idx6 (d : Nat → Int) (W : World) : (Instr.index 22 (.agg #[.int .i64 (d 0), .int .i64 (d 1), .int .i64 (d 2), .int .i64 (d 3), .int .i64 (d 4), .int .i64 (d 5), .int .i64 (d 6), .int .i64 (d 7), .int .i64 (d 8), .int .i64 (d 9), .int .i64 (d 10), .int .i64 (d 11)]) (.int .i64 6)).run Tryd.prog W = .ok (.int .i64 (d 6)) W := by kernel_rfl
theorem idx7 (d : Nat → Int) (W : World) : (Instr.index 22 (.agg #[.int .i64 (d 0), .int .i64 (d 1), .int .i64 (d 2), .int .i64 (d 3), .int .i64 (d 4), .int .i64 (d 5), .int .i64 (d 6), .int .i64 (d 7), .int .i64 (d 8), .int .i64 (d 9), .int .i64 (d 10), .int .i64 (d 11)]) (.int .i64 7)).run Tryd.prog W = .ok (.int .i64 (d 7)) W := by kernel_rfl
theorem idx8 (d : Nat → Int) (W : World) : (Instr.index 22 (.agg #[.int .i64 (d 0), .int .i64 (d 1), .int .i64 (d 2), .int .i64 (d 3), .int .i64 (d 4), .int .i64 (d 5), .int .i64 (d 6), .int .i64 (d 7), .int .i64 (d 8), .int .i64 (d 9), .int .i64 (d 10), .int .i64 (d 11)]) (.int .i64 8)).run Tryd.prog W = .ok (.int .i64 (d 8)) W := by kernel_rfl
theorem idx9 (d : Nat → Int) (W : World) : (Instr.index 22 (.agg #[.int .i64 (d 0), .int .i64 (d 1), .int .i64 (d 2), .int .i64 (d 3), .int .i64 (d 4), .int .i64 (d 5), .int .i64 (d 6), .int .i64 (d 7), .int .i64 (d 8), .int .i64 (d 9), .int .i64 (d 10), .int .i64 (d 11)]) (.int .i64 9)).run Tryd.prog W = .ok (.int .i64 (d 9)) W := by kernel_rfl
theorem idx10 (d : Nat → Int) (W : World) : (Instr.index 22 (.agg #[.int .i64 (d 0), .int .i64 (d 1), .int .i64 (d 2), .int .i64 (d 3), .int .i64 (d 4), .int .i64 (d 5), .int .i64 (d 6), .int .i64 (d 7), .int .i64 (d 8), .int .i64 (d 9), .int .i64 (d 10), .int .i64 (d 11)]) (.int .i64 10)).run Tryd.prog W = .ok (.int .i64 (d 10)) W := by kernel_rfl
theorem idx11 (d : Nat → Int) (W : World) : (Instr.index 22 (.agg #[.int .i64 (d 0), .int .i64 (d 1), .int .i64 (d 2), .int .i64 (d 3), .int .i64 (d 4), .int .i64 (d 5), .int .i64 (d 6), .int .i64 (d 7), .int .i64 (d 8), .int .i64 (d 9), .int .i64 (d 10), .int .i64 (d 11)]) (.int .i64 11)).run Tryd.prog W = .ok (.int .i64 (d 11)) W := by kernel_rfl
theorem index_direct (d : Nat → Int) (j : Nat) (h : j < 12) (W : World) : (Instr.index 22 (.agg #[.int .i64 (d 0), .int .i64 (d 1), .int .i64 (d 2), .int .i64 (d 3), .int .i64 (d 4), .int .i64 (d 5), .int .i64 (d 6), .int .i64 (d 7), .int .i64 (d 8), .int .i64 (d 9), .int .i64 (d 10), .int .i64 (d 11)]) (.int .i64 (j : Int))).run Tryd.prog W = .ok (.int .i64 (d j)) W := by
  have : j = 0 ∨ j = 1 ∨ j = 2 ∨ j = 3 ∨ j = 4 ∨ j = 5 ∨ j = 6 ∨ j = 7 ∨ j = 8 ∨ j = 9 ∨ j = 10 ∨ j = 11 := by omega
  rcases this with rfl | rfl | rfl | rfl | rfl | rfl | rfl | rfl | rfl | rfl | rfl | rfl
  · exact idx0 d W
  · exact idx1 d W
  · exact idx2 d W
  · exact idx3 d W
  · exact idx4 d W
  · exact idx5 d W
  · exact idx6 d W
  · exact idx7 d W
  · exact idx8 d W
  · exact idx9 d W
  · exact idx10 d W
  · exact idx11 d W

set_option maxHeartbeats 1000000 in
theorem inode_in (a0 a1 a2 a3 a4 a5 : Int) (d : Nat → Int) (h0 : 0 ≤ a0) (h3 : a0 ≤ 3) (w : World) :
    Calls Tryd.prog 10 #[.agg #[.int .i64 a0, .int .i64 a1, .int .i64 a2, .int .i64 a3, .int .i64 (d 0), .int .i64 (d 1), .int .i64 (d 2), .int .i64 (d 3), .int .i64 (d 4), .int .i64 (d 5), .int .i64 (d 6), .int .i64 (d 7), .int .i64 (d 8), .int .i64 (d 9), .int .i64 (d 10), .int .i64 (d 11), .int .i64 a4, .int .i64 a5]] w fun e w' => e = .returned (.tuple #[.string (recS [] (inodePs a0 a1 a2 a3 d a4 a5) 376), .int .i64 (recE (inodePs a0 a1 a2 a3 d a4 a5))]) ∧ Below w.heap.size w w' := by
  go_enter Tryd.func10, Tryd.ntmps10
  go_wp2_with fail
  refine (iskind_any a0 h0 h3 _).mono ?_
  rintro e w' ⟨rfl, rfl⟩
  go_wp2_with fail
  have hwr := wr_new (w.alloc (.cells #[.int .i64 a0, .int .i64 a1, .int .i64 a2, .int .i64 a3, .int .i64 (d 0), .int .i64 (d 1), .int .i64 (d 2), .int .i64 (d 3), .int .i64 (d 4), .int .i64 (d 5), .int .i64 (d 6), .int .i64 (d 7), .int .i64 (d 8), .int .i64 (d 9), .int .i64 (d 10), .int .i64 (d 11), .int .i64 a4, .int .i64 a5] 24)) (w.heap.size + 1) (by simp)
  have HC : Hid (∀ i (v : Value), (#[.int .i64 a0, .int .i64 a1, .int .i64 a2, .int .i64 a3, .int .i64 (d 0), .int .i64 (d 1), .int .i64 (d 2), .int .i64 (d 3), .int .i64 (d 4), .int .i64 (d 5), .int .i64 (d 6), .int .i64 (d 7), .int .i64 (d 8), .int .i64 (d 9), .int .i64 (d 10), .int .i64 (d 11), .int .i64 a4, .int .i64 a5] : Array Value)[i]? = some v → ((w.alloc (.cells #[.int .i64 a0, .int .i64 a1, .int .i64 a2, .int .i64 a3, .int .i64 (d 0), .int .i64 (d 1), .int .i64 (d 2), .int .i64 (d 3), .int .i64 (d 4), .int .i64 (d 5), .int .i64 (d 6), .int .i64 (d 7), .int .i64 (d 8), .int .i64 (d 9), .int .i64 (d 10), .int .i64 (d 11), .int .i64 a4, .int .i64 a5] 24)).alloc (.cells #[.slice none 0 0, .int .i64 0] 62)).cell? ⟨w.heap.size, i, none⟩ = some v) := cells_boxed w _ _ _
  have hb0 : Below w.heap.size w ((w.alloc (.cells #[.int .i64 a0, .int .i64 a1, .int .i64 a2, .int .i64 a3, .int .i64 (d 0), .int .i64 (d 1), .int .i64 (d 2), .int .i64 (d 3), .int .i64 (d 4), .int .i64 (d 5), .int .i64 (d 6), .int .i64 (d 7), .int .i64 (d 8), .int .i64 (d 9), .int .i64 (d 10), .int .i64 (d 11), .int .i64 a4, .int .i64 a5] 24)).alloc (.cells #[.slice none 0 0, .int .i64 0] 62)) := ((Below.refl _ _).alloc (Nat.le_refl _) _).alloc (by simp) _
  generalize (w.alloc (.cells #[.int .i64 a0, .int .i64 a1, .int .i64 a2, .int .i64 a3, .int .i64 (d 0), .int .i64 (d 1), .int .i64 (d 2), .int .i64 (d 3), .int .i64 (d 4), .int .i64 (d 5), .int .i64 (d 6), .int .i64 (d 7), .int .i64 (d 8), .int .i64 (d 9), .int .i64 (d 10), .int .i64 (d 11), .int .i64 a4, .int .i64 a5] 24)).alloc (.cells #[.slice none 0 0, .int .i64 0] 62) = w1 at *
  have hb1 : Below (w.heap.size + 1) w1 w1 := Below.refl _ _
  have HC1 : Hid (∀ i (v : Value), (#[.int .i64 a0, .int .i64 a1, .int .i64 a2, .int .i64 a3, .int .i64 (d 0), .int .i64 (d 1), .int .i64 (d 2), .int .i64 (d 3), .int .i64 (d 4), .int .i64 (d 5), .int .i64 (d 6), .int .i64 (d 7), .int .i64 (d 8), .int .i64 (d 9), .int .i64 (d 10), .int .i64 (d 11), .int .i64 a4, .int .i64 a5] : Array Value)[i]? = some v → w1.cell? ⟨w.heap.size, i, none⟩ = some v) := HC
  clear HC
  have hw1 : Wr w1 62 5 (w.heap.size + 1) ([] ++ laidL []) (errL 0 []) := hwr
  clear hwr
  refine (wnumberP (w.heap.size + 1) [] [] [(a0, 2)] a0 2 rfl _ hw1 (by simp)).mono ?_
  rintro en w2 ⟨rfl, hw2, hbn⟩
  have hb2 := hb1.trans hbn
  clear hw1 hb1 hbn
  have c2 := (hb2.cell (p := ⟨w.heap.size, 1, none⟩) (by show w.heap.size < w.heap.size + 1; omega)).trans (HC1.out 1 (.int .i64 a1) rfl)
  go_wp2_with fail
  refine (wnumberP (w.heap.size + 1) [] [(a0, 2)] [(a0, 2), (a1, 4)] a1 4 rfl _ hw2 (by simp)).mono ?_
  rintro en w3 ⟨rfl, hw3, hbn⟩
  have hb3 := hb2.trans hbn
  clear hw2 hb2 hbn c2
  have c3 := (hb3.cell (p := ⟨w.heap.size, 2, none⟩) (by show w.heap.size < w.heap.size + 1; omega)).trans (HC1.out 2 (.int .i64 a2) rfl)
  go_wp2_with fail
  refine (wnumberP (w.heap.size + 1) [] [(a0, 2), (a1, 4)] [(a0, 2), (a1, 4), (a2, 6)] a2 6 rfl _ hw3 (by simp)).mono ?_
  rintro en w4 ⟨rfl, hw4, hbn⟩
  have hb4 := hb3.trans hbn
  clear hw3 hb3 hbn c3
  have c4 := (hb4.cell (p := ⟨w.heap.size, 3, none⟩) (by show w.heap.size < w.heap.size + 1; omega)).trans (HC1.out 3 (.int .i64 a3) rfl)
  go_wp2_with fail
  refine (wnumberP (w.heap.size + 1) [] [(a0, 2), (a1, 4), (a2, 6)] (inoPs a0 a1 a2 a3 d 0) a3 4 rfl _ hw4 (by simp)).mono ?_
  rintro en w5 ⟨rfl, hw5, hbn⟩
  have hb5 := hb4.trans hbn
  clear hw4 hb4 hbn c4
  have e0 := (hb5.cell (p := ⟨w.heap.size, 4, none⟩) (by show w.heap.size < w.heap.size + 1; omega)).trans (HC1.out 4 (.int .i64 (d 0)) rfl)
  have e1 := (hb5.cell (p := ⟨w.heap.size, 5, none⟩) (by show w.heap.size < w.heap.size + 1; omega)).trans (HC1.out 5 (.int .i64 (d 1)) rfl)
  have e2 := (hb5.cell (p := ⟨w.heap.size, 6, none⟩) (by show w.heap.size < w.heap.size + 1; omega)).trans (HC1.out 6 (.int .i64 (d 2)) rfl)
  have e3 := (hb5.cell (p := ⟨w.heap.size, 7, none⟩) (by show w.heap.size < w.heap.size + 1; omega)).trans (HC1.out 7 (.int .i64 (d 3)) rfl)
  have e4 := (hb5.cell (p := ⟨w.heap.size, 8, none⟩) (by show w.heap.size < w.heap.size + 1; omega)).trans (HC1.out 8 (.int .i64 (d 4)) rfl)
  have e5 := (hb5.cell (p := ⟨w.heap.size, 9, none⟩) (by show w.heap.size < w.heap.size + 1; omega)).trans (HC1.out 9 (.int .i64 (d 5)) rfl)
  have e6 := (hb5.cell (p := ⟨w.heap.size, 10, none⟩) (by show w.heap.size < w.heap.size + 1; omega)).trans (HC1.out 10 (.int .i64 (d 6)) rfl)
  have e7 := (hb5.cell (p := ⟨w.heap.size, 11, none⟩) (by show w.heap.size < w.heap.size + 1; omega)).trans (HC1.out 11 (.int .i64 (d 7)) rfl)
  have e8 := (hb5.cell (p := ⟨w.heap.size, 12, none⟩) (by show w.heap.size < w.heap.size + 1; omega)).trans (HC1.out 12 (.int .i64 (d 8)) rfl)
  have e9 := (hb5.cell (p := ⟨w.heap.size, 13, none⟩) (by show w.heap.size < w.heap.size + 1; omega)).trans (HC1.out 13 (.int .i64 (d 9)) rfl)
  have e10 := (hb5.cell (p := ⟨w.heap.size, 14, none⟩) (by show w.heap.size < w.heap.size + 1; omega)).trans (HC1.out 14 (.int .i64 (d 10)) rfl)
  have e11 := (hb5.cell (p := ⟨w.heap.size, 15, none⟩) (by show w.heap.size < w.heap.size + 1; omega)).trans (HC1.out 15 (.int .i64 (d 11)) rfl)
  have hix := index_direct d
  go_wp2
  clear e0 e1 e2 e3 e4 e5 e6 e7 e8 e9 e10 e11
  have HX : Hid (∀ (j : Nat), j < 12 → ∀ W, _) := hix
  clear hix
  go_loopw [31] (fun i wr => ∃ j : Nat, j ≤ 12 ∧ i = .int .i64 j ∧ Wr wr 62 5 (w.heap.size + 1) ([] ++ laidL (inoPs a0 a1 a2 a3 d j)) (errL 0 (inoPs a0 a1 a2 a3 d j)) ∧ Below (w.heap.size + 1) w1 wr) (fun i _ => 12 - (intOf i).toNat)
  case atStart => exact ⟨0, Nat.zero_le _, rfl, hw5, hb5⟩
  case round =>
    obtain ⟨j, hj, rfl, hwr, hb⟩ := hrel
    clear hw5 hb5
    by_cases hlt : j < 12
    · have hix := HX.out j hlt
      go_wp2_with fail
      refine (wnumberP (w.heap.size + 1) [] (inoPs a0 a1 a2 a3 d j) (inoPs a0 a1 a2 a3 d (j + 1)) (d j) 4 (inoPs_succ a0 a1 a2 a3 d j) _ hwr (by rw [inoPs_length]; simp; omega)).mono ?_
      rintro en w6 ⟨rfl, hw6, hbn⟩
      have hb6 := hb.trans hbn
      clear hwr hb hbn hix
      go_wp2
      go_roundw
      case rel => exact ⟨j + 1, by omega, by go_num, hw6, hb6⟩
      case measure => simp [intOf]; omega
    · obtain rfl : j = 12 := by omega
      have c1 := (hb.cell (p := ⟨w.heap.size, 16, none⟩) (by show w.heap.size < w.heap.size + 1; omega)).trans (HC1.out 16 (.int .i64 a4) rfl)
      go_wp2_with fail
      refine (wnumberP (w.heap.size + 1) [] (inoPs a0 a1 a2 a3 d 12) (inoPs a0 a1 a2 a3 d 12 ++ [(a4, 4)]) a4 4 rfl _ hwr (by rw [inoPs_length]; simp)).mono ?_
      rintro en w6 ⟨rfl, hw6, hbn⟩
      have hb6 := hb.trans hbn
      clear hwr hb hbn c1
      have c1 := (hb6.cell (p := ⟨w.heap.size, 17, none⟩) (by show w.heap.size < w.heap.size + 1; omega)).trans (HC1.out 17 (.int .i64 a5) rfl)
      go_wp2_with fail
      refine (wnumberP (w.heap.size + 1) [] (inoPs a0 a1 a2 a3 d 12 ++ [(a4, 4)]) (inodePs a0 a1 a2 a3 d a4 a5) a5 4 rfl _ hw6 (by rw [List.length_append, inoPs_length]; simp)).mono ?_
      rintro en w7 ⟨rfl, hw7, hbn⟩
      have hb7 := hb6.trans hbn
      clear hw6 hb6 hbn c1
      go_wp2_with fail
      refine (wrecordP (w.heap.size + 1) [] (inodePs a0 a1 a2 a3 d a4 a5) 448 376 (by decide) (inode_widths a0 a1 a2 a3 a4 a5 d).1 (by rw [(inode_widths a0 a1 a2 a3 a4 a5 d).2]; rfl) _ hw7).mono ?_
      rintro en w8 ⟨rfl, hb8⟩
      go_wp2
      go_ret2
      exact ⟨rfl, hb0.trans ((hb7.mono (show w.heap.size ≤ w.heap.size + 1 by omega)).trans (hb8.mono (Nat.le_trans hb0.size hb7.size)))⟩

theorem inode_any (a0 a1 a2 a3 a4 a5 : Int) (d : Nat → Int) (w : World) :
    Calls Tryd.prog 10 #[.agg #[.int .i64 a0, .int .i64 a1, .int .i64 a2, .int .i64 a3, .int .i64 (d 0), .int .i64 (d 1), .int .i64 (d 2), .int .i64 (d 3), .int .i64 (d 4), .int .i64 (d 5), .int .i64 (d 6), .int .i64 (d 7), .int .i64 (d 8), .int .i64 (d 9), .int .i64 (d 10), .int .i64 (d 11), .int .i64 a4, .int .i64 a5]] w fun e w' => e = .returned (.tuple #[.string (inodeS a0 a1 a2 a3 d a4 a5), .int .i64 (inodeE a0 a1 a2 a3 d a4 a5)]) ∧ Below w.heap.size w w' := by
  by_cases h : 0 ≤ a0 ∧ a0 ≤ 3
  · have e1 : inodeS a0 a1 a2 a3 d a4 a5 = recS [] (inodePs a0 a1 a2 a3 d a4 a5) 376 := by unfold inodeS; rw [if_pos h]
    have e2 : inodeE a0 a1 a2 a3 d a4 a5 = recE (inodePs a0 a1 a2 a3 d a4 a5) := by unfold inodeE; rw [if_pos h]
    rw [e1, e2]
    exact inode_in a0 a1 a2 a3 a4 a5 d h.1 h.2 w
  · have e1 : inodeS a0 a1 a2 a3 d a4 a5 = ByteArray.empty := by unfold inodeS; rw [if_neg h]
    have e2 : inodeE a0 a1 a2 a3 d a4 a5 = 2 := by unfold inodeE; rw [if_neg h]
    rw [e1, e2]
    exact inode_kind a0 a1 a2 a3 a4 a5 d h w
end Go.Proofs.YtbgilbnpamegnaaDoor
