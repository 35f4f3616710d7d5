/- pack.Super, called with any superblock, tells the bytes superS and the error superE, and changes nothing that was there. -/
import Derived.Test.YtbgilbnpamegnaaDoorWriter
namespace Go.Proofs.YtbgilbnpamegnaaDoor
open Go.RowKit Go.Lib

theorem super_arg (a0 a1 a2 a3 : Int) (r : ByteArray) (h : ((r.size : Int) != 32) = true) (w : World) :
    Calls Tryd.prog 14 #[.agg #[.int .i64 a0, .int .i64 a1, .int .i64 a2, .int .i64 a3, .string r]] w fun e w' => e = .returned (.tuple #[.string ByteArray.empty, .int .i64 1]) ∧ Below w.heap.size w w' := by
  go_enter Tryd.func14, Tryd.ntmps14
  go_wp2
  go_ret2
  exact ⟨rfl, (Below.refl _ _).alloc (Nat.le_refl _) _⟩

set_option maxHeartbeats 1000000 in
theorem super_in (a0 a1 a2 a3 : Int) (r : ByteArray) (hr : r.size = 32) (w : World) :
    Calls Tryd.prog 14 #[.agg #[.int .i64 a0, .int .i64 a1, .int .i64 a2, .int .i64 a3, .string r]] w fun e w' => e = .returned (.tuple #[.string (superS a0 a1 a2 a3 r), .int .i64 (superE a0 a1 a2 a3 r)]) ∧ Below w.heap.size w w' := by
  have hrb : ((r.size : Int) != 32) = false := by rw [hr]; rfl
  have HR : Hid (r.size = 32) := hr
  clear hr
  go_enter Tryd.func14, Tryd.ntmps14
  go_wp2_with fail
  have hwr := wr_new (w.alloc (.cells #[.int .i64 a0, .int .i64 a1, .int .i64 a2, .int .i64 a3, .string r] 43)) (w.heap.size + 1) (by simp)
  have HC : Hid (∀ i (v : Value), (#[.int .i64 a0, .int .i64 a1, .int .i64 a2, .int .i64 a3, .string r] : Array Value)[i]? = some v → ((w.alloc (.cells #[.int .i64 a0, .int .i64 a1, .int .i64 a2, .int .i64 a3, .string r] 43)).alloc (.cells #[.slice none 0 0, .int .i64 0] 62)).cell? ⟨w.heap.size, i, none⟩ = some v) := cells_boxed w _ _ _
  have hb0 : Below w.heap.size w ((w.alloc (.cells #[.int .i64 a0, .int .i64 a1, .int .i64 a2, .int .i64 a3, .string r] 43)).alloc (.cells #[.slice none 0 0, .int .i64 0] 62)) := ((Below.refl _ _).alloc (Nat.le_refl _) _).alloc (by simp) _
  have c1 := HC.out 0 (.int .i64 a0) rfl
  generalize (w.alloc (.cells #[.int .i64 a0, .int .i64 a1, .int .i64 a2, .int .i64 a3, .string r] 43)).alloc (.cells #[.slice none 0 0, .int .i64 0] 62) = w1 at *
  have hb1 : Below (w.heap.size + 1) w1 w1 := Below.refl _ _
  have HC1 : Hid (∀ i (v : Value), (#[.int .i64 a0, .int .i64 a1, .int .i64 a2, .int .i64 a3, .string r] : Array Value)[i]? = some v → w1.cell? ⟨w.heap.size, i, none⟩ = some v) := HC
  clear HC
  have hw1 : Wr w1 62 5 (w.heap.size + 1) ([] ++ laidL []) (errL 0 []) := hwr
  clear hwr
  refine (wnumberP (w.heap.size + 1) [] [] [(a0, 6)] a0 6 rfl _ hw1 (by simp)).mono ?_
  rintro en w2 ⟨rfl, hw2, hbn⟩
  have hb2 := hb1.trans hbn
  clear hw1 hb1 hbn c1
  have c2 := (hb2.cell (p := ⟨w.heap.size, 1, none⟩) (by show w.heap.size < w.heap.size + 1; omega)).trans (HC1.out 1 (.int .i64 a1) rfl)
  go_wp2_with fail
  refine (wnumberP (w.heap.size + 1) [] [(a0, 6)] [(a0, 6), (a1, 6)] a1 6 rfl _ hw2 (by simp)).mono ?_
  rintro en w3 ⟨rfl, hw3, hbn⟩
  have hb3 := hb2.trans hbn
  clear hw2 hb2 hbn c2
  have c3 := (hb3.cell (p := ⟨w.heap.size, 2, none⟩) (by show w.heap.size < w.heap.size + 1; omega)).trans (HC1.out 2 (.int .i64 a2) rfl)
  go_wp2_with fail
  refine (wnumberP (w.heap.size + 1) [] [(a0, 6), (a1, 6)] [(a0, 6), (a1, 6), (a2, 6)] a2 6 rfl _ hw3 (by simp)).mono ?_
  rintro en w4 ⟨rfl, hw4, hbn⟩
  have hb4 := hb3.trans hbn
  clear hw3 hb3 hbn c3
  have c4 := (hb4.cell (p := ⟨w.heap.size, 3, none⟩) (by show w.heap.size < w.heap.size + 1; omega)).trans (HC1.out 3 (.int .i64 a3) rfl)
  go_wp2_with fail
  refine (wnumberP (w.heap.size + 1) [] [(a0, 6), (a1, 6), (a2, 6)] [(a0, 6), (a1, 6), (a2, 6), (a3, 4)] a3 4 rfl _ hw4 (by simp)).mono ?_
  rintro en w5 ⟨rfl, hw5, hbn⟩
  have hb5 := hb4.trans hbn
  clear hw4 hb4 hbn c4
  have c5 := (hb5.cell (p := ⟨w.heap.size, 4, none⟩) (by show w.heap.size < w.heap.size + 1; omega)).trans (HC1.out 4 (.string r) rfl)
  go_wp2_with fail
  refine (wbytes_any (w.heap.size + 1) ([] ++ laidL (superPs a0 a1 a2 a3)) (errL 0 (superPs a0 a1 a2 a3)) r _ hw5 (by have := laidL_le (superPs a0 a1 a2 a3); rw [HR.out, List.nil_append]; simp [superPs] at this ⊢; omega)).mono ?_
  rintro en w6 ⟨rfl, hw6, hbn⟩
  have hb6 := hb5.trans hbn
  clear hw5 hb5 hbn c5
  rw [List.nil_append] at hw6
  have hb6' : Below w.heap.size w w6 := hb0.trans (hb6.mono (show w.heap.size ≤ w.heap.size + 1 by omega))
  clear hb6 hb0
  rw [errL_ok (superPs a0 a1 a2 a3) rfl] at hw6
  cases ho : laidOk (superPs a0 a1 a2 a3) with
  | false =>
    rw [ho, if_neg (by decide)] at hw6
    have HO : Hid (laidOk (superPs a0 a1 a2 a3) = false) := ho
    clear ho
    go_wp2_with fail
    refine (wrecord_no (w.heap.size + 1) _ 2 448 _ hw6 rfl).mono ?_
    rintro en w7 ⟨rfl, hb7⟩
    go_wp2
    go_ret2
    refine ⟨?_, hb6'.trans (hb7.mono hb6'.size)⟩
    unfold superS superE
    rw [if_neg (by rw [HO.out]; simp), if_pos HR.out, recE_no HO.out]
    rfl
  | true =>
    rw [ho, if_pos rfl] at hw6
    have HO : Hid (laidOk (superPs a0 a1 a2 a3) = true) := ho
    clear ho
    go_wp2_with fail
    have hl : (laidL (superPs a0 a1 a2 a3) ++ r.data.toList).length + 394 = 448 := by
      rw [List.length_append, laidL_length _ HO.out, show r.data.toList.length = r.size by simp, HR.out]; rfl
    refine (wrecord_fit (w.heap.size + 1) _ 448 394 (by decide) hl _ hw6).mono ?_
    clear hl
    rintro en w7 ⟨rfl, hb7⟩
    go_wp2
    go_ret2
    refine ⟨?_, hb6'.trans (hb7.mono hb6'.size)⟩
    unfold superS superE
    rw [if_pos ⟨HR.out, HO.out⟩, if_pos HR.out, recE_ok HO.out]
    rfl

theorem super_any (a0 a1 a2 a3 : Int) (r : ByteArray) (w : World) :
    Calls Tryd.prog 14 #[.agg #[.int .i64 a0, .int .i64 a1, .int .i64 a2, .int .i64 a3, .string r]] w fun e w' => e = .returned (.tuple #[.string (superS a0 a1 a2 a3 r), .int .i64 (superE a0 a1 a2 a3 r)]) ∧ Below w.heap.size w w' := by
  by_cases hr : r.size = 32
  · exact super_in a0 a1 a2 a3 r hr w
  · have e1 : superS a0 a1 a2 a3 r = ByteArray.empty := by unfold superS; rw [if_neg (fun h => hr h.1)]
    have e2 : superE a0 a1 a2 a3 r = 1 := by unfold superE; rw [if_neg hr]
    rw [e1, e2]
    exact super_arg a0 a1 a2 a3 r (by simp; omega) w
end Go.Proofs.YtbgilbnpamegnaaDoor
