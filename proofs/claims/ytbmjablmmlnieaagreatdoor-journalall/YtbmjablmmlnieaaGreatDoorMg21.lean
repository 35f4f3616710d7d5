/- pack.Super, called with any superblock, tells the bytes superS and the error superE, and changes nothing that was there. · strings.Clone, called with any text of at most 4096 bytes, tells the text, and changes nothing that was there. · pack.takeSuper, of a reader that stands at the beginning of a text of at most 448 bytes, panics with what a reader gives up with where the text is no superblock's, or tells the superblock. -/
import Derived.Test.YtbmjablmmlnieaaGreatDoorMg08
import Derived.Test.YtbmjablmmlnieaaGreatDoorMg01
import Derived.Lib.BufferWrite
import Derived.Lib.UnsafeStr
import Derived.Test.YtbmjablmmlnieaaGreatDoorMg02
import Derived.Laws.Rows
import Derived.Laws.Tables
namespace Go.Proofs.YtbmjablmmlnieaaGreatDoor
set_option maxRecDepth 20000
open Go.RowKit Go.Lib

theorem super_arg (a0 a1 a2 a3 : Int) (r : ByteArray) (h : ((r.size : Int) != 32) = true) (w : World) :
    Calls Tryz.prog 68 #[.agg #[.int .i64 a0, .int .i64 a1, .int .i64 a2, .int .i64 a3, .string r]] w fun e w' => e = .returned (.tuple #[.string ByteArray.empty, .int .i64 1]) ∧ Below w.heap.size w w' := by
  go_enter Tryz.func68, Tryz.ntmps68
  go_wp2
  go_ret2
  exact ⟨rfl, (Below.refl _ _).alloc (Nat.le_refl _) _⟩

set_option maxHeartbeats 1000000 in
theorem super_in (a0 a1 a2 a3 : Int) (r : ByteArray) (hr : r.size = 32) (w : World) :
    Calls Tryz.prog 68 #[.agg #[.int .i64 a0, .int .i64 a1, .int .i64 a2, .int .i64 a3, .string r]] w fun e w' => e = .returned (.tuple #[.string (superS a0 a1 a2 a3 r), .int .i64 (superE a0 a1 a2 a3 r)]) ∧ Below w.heap.size w w' := by
  have hrb : ((r.size : Int) != 32) = false := by rw [hr]; rfl
  have HR : Hid (r.size = 32) := hr
  clear hr
  go_enter Tryz.func68, Tryz.ntmps68
  go_wp2_with fail
  have hwr := wr_new (w.alloc (.cells #[.int .i64 a0, .int .i64 a1, .int .i64 a2, .int .i64 a3, .string r] 33)) (w.heap.size + 1) (by simp)
  have HC : Hid (∀ i (v : Value), (#[.int .i64 a0, .int .i64 a1, .int .i64 a2, .int .i64 a3, .string r] : Array Value)[i]? = some v → ((w.alloc (.cells #[.int .i64 a0, .int .i64 a1, .int .i64 a2, .int .i64 a3, .string r] 33)).alloc (.cells #[.slice none 0 0, .int .i64 0] 175)).cell? ⟨w.heap.size, i, none⟩ = some v) := cells_boxed w _ _ _
  have hb0 : Below w.heap.size w ((w.alloc (.cells #[.int .i64 a0, .int .i64 a1, .int .i64 a2, .int .i64 a3, .string r] 33)).alloc (.cells #[.slice none 0 0, .int .i64 0] 175)) := ((Below.refl _ _).alloc (Nat.le_refl _) _).alloc (by simp) _
  have c1 := HC.out 0 (.int .i64 a0) rfl
  generalize (w.alloc (.cells #[.int .i64 a0, .int .i64 a1, .int .i64 a2, .int .i64 a3, .string r] 33)).alloc (.cells #[.slice none 0 0, .int .i64 0] 175) = w1 at *
  have hb1 : Below (w.heap.size + 1) w1 w1 := Below.refl _ _
  have HC1 : Hid (∀ i (v : Value), (#[.int .i64 a0, .int .i64 a1, .int .i64 a2, .int .i64 a3, .string r] : Array Value)[i]? = some v → w1.cell? ⟨w.heap.size, i, none⟩ = some v) := HC
  clear HC
  have hw1 : Wr w1 175 5 (w.heap.size + 1) ([] ++ laidL []) (errL 0 []) := hwr
  clear hwr
  refine (wnumberP (w.heap.size + 1) [] [] [(a0, 6)] a0 6 rfl _ hw1 (by simp)).mono ?_
  rintro en w2 ⟨rfl, hw2, hbn⟩
  have hb2 := hb1.trans hbn
  clear hw1 hb1 hbn c1
  have c2 := (hb2.cell (p := ⟨w.heap.size, 1, none⟩) (by show w.heap.size < w.heap.size + 1; omega)).trans (HC1.out 1 (.int .i64 a1) rfl)
  go_wp2_with fail
  refine (wnumberP (w.heap.size + 1) [] [(a0, 6)] [(a0, 6), (a1, 6)] a1 6 rfl _ hw2 (by simp)).mono ?_
  rintro en w3 ⟨rfl, hw3, hbn⟩
  have hb3 := hb2.trans hbn
  clear hw2 hb2 hbn c2
  have c3 := (hb3.cell (p := ⟨w.heap.size, 2, none⟩) (by show w.heap.size < w.heap.size + 1; omega)).trans (HC1.out 2 (.int .i64 a2) rfl)
  go_wp2_with fail
  refine (wnumberP (w.heap.size + 1) [] [(a0, 6), (a1, 6)] [(a0, 6), (a1, 6), (a2, 6)] a2 6 rfl _ hw3 (by simp)).mono ?_
  rintro en w4 ⟨rfl, hw4, hbn⟩
  have hb4 := hb3.trans hbn
  clear hw3 hb3 hbn c3
  have c4 := (hb4.cell (p := ⟨w.heap.size, 3, none⟩) (by show w.heap.size < w.heap.size + 1; omega)).trans (HC1.out 3 (.int .i64 a3) rfl)
  go_wp2_with fail
  refine (wnumberP (w.heap.size + 1) [] [(a0, 6), (a1, 6), (a2, 6)] [(a0, 6), (a1, 6), (a2, 6), (a3, 4)] a3 4 rfl _ hw4 (by simp)).mono ?_
  rintro en w5 ⟨rfl, hw5, hbn⟩
  have hb5 := hb4.trans hbn
  clear hw4 hb4 hbn c4
  have c5 := (hb5.cell (p := ⟨w.heap.size, 4, none⟩) (by show w.heap.size < w.heap.size + 1; omega)).trans (HC1.out 4 (.string r) rfl)
  go_wp2_with fail
  refine (wbytes_any (w.heap.size + 1) ([] ++ laidL (superPs a0 a1 a2 a3)) (errL 0 (superPs a0 a1 a2 a3)) r _ hw5 (by have := laidL_le (superPs a0 a1 a2 a3); rw [HR.out, List.nil_append]; simp [superPs] at this ⊢; omega)).mono ?_
  rintro en w6 ⟨rfl, hw6, hbn⟩
  have hb6 := hb5.trans hbn
  clear hw5 hb5 hbn c5
  rw [List.nil_append] at hw6
  have hb6' : Below w.heap.size w w6 := hb0.trans (hb6.mono (show w.heap.size ≤ w.heap.size + 1 by omega))
  clear hb6 hb0
  rw [errL_ok (superPs a0 a1 a2 a3) rfl] at hw6
  cases ho : laidOk (superPs a0 a1 a2 a3) with
  | false =>
    rw [ho, if_neg (by decide)] at hw6
    have HO : Hid (laidOk (superPs a0 a1 a2 a3) = false) := ho
    clear ho
    go_wp2_with fail
    refine (wrecord_no (w.heap.size + 1) _ 2 448 _ hw6 rfl).mono ?_
    rintro en w7 ⟨rfl, hb7⟩
    go_wp2
    go_ret2
    refine ⟨?_, hb6'.trans (hb7.mono hb6'.size)⟩
    unfold superS superE
    rw [if_neg (by rw [HO.out]; simp), if_pos HR.out, recE_no HO.out]
    rfl
  | true =>
    rw [ho, if_pos rfl] at hw6
    have HO : Hid (laidOk (superPs a0 a1 a2 a3) = true) := ho
    clear ho
    go_wp2_with fail
    have hl : (laidL (superPs a0 a1 a2 a3) ++ r.data.toList).length + 394 = 448 := by
      rw [List.length_append, laidL_length _ HO.out, show r.data.toList.length = r.size by simp, HR.out]; rfl
    refine (wrecord_fit (w.heap.size + 1) _ 448 394 (by decide) hl _ hw6).mono ?_
    clear hl
    rintro en w7 ⟨rfl, hb7⟩
    go_wp2
    go_ret2
    refine ⟨?_, hb6'.trans (hb7.mono hb6'.size)⟩
    unfold superS superE
    rw [if_pos ⟨HR.out, HO.out⟩, if_pos HR.out, recE_ok HO.out]
    rfl

theorem super_any (a0 a1 a2 a3 : Int) (r : ByteArray) (w : World) :
    Calls Tryz.prog 68 #[.agg #[.int .i64 a0, .int .i64 a1, .int .i64 a2, .int .i64 a3, .string r]] w fun e w' => e = .returned (.tuple #[.string (superS a0 a1 a2 a3 r), .int .i64 (superE a0 a1 a2 a3 r)]) ∧ Below w.heap.size w w' := by
  by_cases hr : r.size = 32
  · exact super_in a0 a1 a2 a3 r hr w
  · have e1 : superS a0 a1 a2 a3 r = ByteArray.empty := by unfold superS; rw [if_neg (fun h => hr h.1)]
    have e2 : superE a0 a1 a2 a3 r = 1 := by unfold superE; rw [if_neg hr]
    rw [e1, e2]
    exact super_arg a0 a1 a2 a3 r (by simp; omega) w
end Go.Proofs.YtbmjablmmlnieaaGreatDoor

namespace Go.Proofs.YtbmjablmmlnieaaGreatDoor
set_option maxRecDepth 20000
open Go.RowKit

theorem bytes_row {w : World} {g : Nat} {s : ByteArray} {Y : Array Value} {t : TypeId} (h : w.heap[g]? = some (.cells Y t (0, 0))) (hY : Y.toList = Lib.byteCells s.data.toList) (j : Nat) (x : UInt8) (hx : s.data.toList[j]? = some x) :
    w.cell? ((⟨g, 0, none⟩ : Addr).add j) = some (.int .u8 x.toNat) :=
  Lib.cells_of_row h Y.toList.length j _ (by rw [List.take_length, hY, Lib.byteCells, List.getElem?_map, hx]; rfl)

set_option maxHeartbeats 1000000 in
theorem pkSlClone_any (s : ByteArray) (hs : s.size ≤ 4096) (w : World) :
    Calls Tryz.prog 86 #[.string s] w fun e w' => e = .returned (.string s) ∧ Below w.heap.size w w' := by
  by_cases h0 : s.size = 0
  · obtain rfl : s = ByteArray.empty := by simpa using h0
    go_enter Tryz.func86, Tryz.ntmps86
    go_wp2
    go_ret
    exact ⟨rfl, Below.refl _ _⟩
  obtain ⟨i0, hi, hz0, hz1, hz2⟩ := info_parts info5
  have i1 : ¬ (s.size : Int) = 0 := by omega
  have i1' : ((s.size : Int) == 0) = false := by simpa using h0
  go_enter Tryz.func86, Tryz.ntmps86
  go_wp2_with (at_make; refine wpList_make_full _ rfl _ _ 92 rfl w.heap.size 5 i0 (.int .u8 0) 1 Tryz.underlying92 hi hz0 hz1 .i64 .i64 _ _ s.size rfl rfl rfl rfl ?c1 ?c2 (Nat.le_refl _) ?_)
  case c1 => first | omega | (rw [hz2]; omega)
  case c2 => unfold maxLen; omega
  intro w1 hown hgrow
  have hb1 : Below w.heap.size w w1 := (Below.refl _ _).grown hgrow (Nat.le_refl _) (fun k hk => by simp at hk)
  rcases hown.2 with ⟨h', _⟩ | ⟨g, cap, cur, h', _, hg, _, _, hsz, _⟩
  · simp at h'
  simp only [Value.slice.injEq, Option.some.injEq, Addr.mk.injEq, and_true, true_and] at h'
  obtain ⟨rfl, rfl⟩ := h'
  rw [Nat.mul_one] at hsz
  clear hown hgrow
  have hcp := Lib.run_copy_row_string (P := Tryz.prog) w1 92 9 3 5 w.heap.size 0 s.size s.size s cur 5 Tryz.underlying92 (by kernel_rfl) hg (Nat.le_refl _) (by omega)
  obtain ⟨Y, hY⟩ : ∃ Y, Y = (cur.toList.take 0 ++ Lib.byteCells s.data.toList ++ cur.toList.drop (0 + s.size)).toArray := ⟨_, rfl⟩
  rw [← hY] at hcp
  have hYl : Y.toList = Lib.byteCells s.data.toList := by
    rw [hY, List.toList_toArray, List.take_zero, List.nil_append, List.drop_of_length_le (by rw [Array.length_toList]; omega), List.append_nil]
  have hYs : Y.size = s.size := by rw [← Array.length_toList, hYl, Lib.byteCells_length, ← Lib.size_eq]
  have hgY := setRow_heap w1 w.heap.size cur Y 5 (0, 0) hg
  have hb2 : Below w.heap.size w (w1.setRow w.heap.size Y) := hb1.trans ⟨rfl, rfl, rfl, by simp [World.setRow], fun k hk => setRow_other _ _ _ _ (by omega)⟩
  have hus := Lib.run_unsafeString_row (P := Tryz.prog) (w1.setRow w.heap.size Y) 169 3 9 5 Tryz.underlying169 (by kernel_rfl) w.heap.size Y.size (by unfold World.shape?; rw [hgY]) s.data.toList (fun e => h0 (by rw [Lib.size_eq, e]; rfl)) (by rw [← Lib.size_eq]; omega) (by rw [← Lib.size_eq]; omega)
    (fun j x hx => bytes_row hgY hYl j x hx)
  rw [← Lib.size_eq] at hus
  clear hY hYl hgY hg
  go_wp2
  go_ret
  exact ⟨rfl, Lib.below_freeze hb2 (p := ⟨w.heap.size, 0, none⟩) (Nat.le_refl _) _⟩

theorem pkClone_any (s : ByteArray) (hs : s.size ≤ 4096) (w : World) :
    Calls Tryz.prog 52 #[.string s] w fun e w' => e = .returned (.string s) ∧ Below w.heap.size w w' := by
  go_enter Tryz.func52, Tryz.ntmps52
  go_wp2_with fail
  refine (pkSlClone_any s hs _).mono ?_
  rintro e w1 ⟨rfl, hb1⟩
  go_wp2
  go_ret
  exact ⟨rfl, hb1⟩
end Go.Proofs.YtbmjablmmlnieaaGreatDoor

namespace Go.Proofs.YtbmjablmmlnieaaGreatDoor
set_option maxRecDepth 20000
open Go.RowKit

theorem Only.setRowS {b g : Nat} {w w' : World} (h : Only b w w') (hg : w.heap.size ≤ g) (cs : Array Value) : Only b w (w'.setRow g cs) :=
  ⟨h.1.trans ⟨rfl, rfl, rfl, by simp [World.setRow], fun k hk => absurd hk (Nat.not_lt_zero _)⟩, fun k hk hb => (setRow_other _ _ _ _ (by omega)).trans (h.2 k hk hb)⟩
theorem below_newS (w : World) (o1 : Obj) : Below w.heap.size w (w.alloc o1) := (Below.refl _ _).alloc (Nat.le_refl _) _
/-- The superblock that a text of 448 bytes is. -/
def superCells (s : ByteArray) : Array Value := #[.int .i64 (leVal ((s.data.toList.drop 0).take 6)), .int .i64 (leVal ((s.data.toList.drop 6).take 6)), .int .i64 (leVal ((s.data.toList.drop 12).take 6)), .int .i64 (leVal ((s.data.toList.drop 18).take 4)), .string (s.extract 22 54)]
theorem superCells_one (s : ByteArray) : (superCells s).all (·.oneCell') = true := by simp [superCells, Value.oneCell']
set_option maxHeartbeats 1000000 in
theorem takeSuper_short (b : Nat) (s : ByteArray) (hs : s.size < 448) (w : World) (h : Rd w b s 0) :
    Calls Tryz.prog 94 #[.pointer (some ⟨b, 0, none⟩)] w fun e w' => e = .panicked (gave 3) ∧ Only b w w' := by
  have hblt := h.lt
  have hr0 := h.below (below_newS w (.cells #[.int .i64 0, .int .i64 0, .int .i64 0, .int .i64 0, .string ⟨#[]⟩] 33))
  have hb0 : Only b w (w.alloc (.cells #[.int .i64 0, .int .i64 0, .int .i64 0, .int .i64 0, .string ⟨#[]⟩] 33)) := Only.of_below (below_newS w _)
  clear h
  go_enter Tryz.func94, Tryz.ntmps94
  go_wp2_with fail
  generalize w.alloc (.cells #[.int .i64 0, .int .i64 0, .int .i64 0, .int .i64 0, .string ⟨#[]⟩] 33) = w0 at *
  by_cases h0 : 0 + 6 ≤ s.size
  case neg =>
    refine (number_short b s 0 6 (by decide) (by decide) h0 (by omega) _ hr0).mono ?_
    rintro e w' ⟨rfl, hbs⟩
    exact ⟨rfl, rfl, hb0.trans (Only.of_below hbs)⟩
  refine (number_any b s 0 6 (by decide) (by decide) h0 (by omega) _ hr0).mono ?_
  rintro e w1 ⟨rfl, hr1, hbn⟩
  have hb1 := hb0.trans hbn
  clear hr0 hb0 hbn
  go_wp2_with fail
  by_cases h1 : 6 + 6 ≤ s.size
  case neg =>
    refine (number_short b s 6 6 (by decide) (by decide) h1 (by omega) _ hr1).mono ?_
    rintro e w' ⟨rfl, hbs⟩
    exact ⟨rfl, rfl, hb1.trans (Only.of_below hbs)⟩
  refine (number_any b s 6 6 (by decide) (by decide) h1 (by omega) _ hr1).mono ?_
  rintro e w2 ⟨rfl, hr2, hbn⟩
  have hb2 := hb1.trans hbn
  clear hr1 hb1 hbn
  go_wp2_with fail
  by_cases h2 : 12 + 6 ≤ s.size
  case neg =>
    refine (number_short b s 12 6 (by decide) (by decide) h2 (by omega) _ hr2).mono ?_
    rintro e w' ⟨rfl, hbs⟩
    exact ⟨rfl, rfl, hb2.trans (Only.of_below hbs)⟩
  refine (number_any b s 12 6 (by decide) (by decide) h2 (by omega) _ hr2).mono ?_
  rintro e w3 ⟨rfl, hr3, hbn⟩
  have hb3 := hb2.trans hbn
  clear hr2 hb2 hbn
  go_wp2_with fail
  by_cases h3 : 18 + 4 ≤ s.size
  case neg =>
    refine (number_short b s 18 4 (by decide) (by decide) h3 (by omega) _ hr3).mono ?_
    rintro e w' ⟨rfl, hbs⟩
    exact ⟨rfl, rfl, hb3.trans (Only.of_below hbs)⟩
  refine (number_any b s 18 4 (by decide) (by decide) h3 (by omega) _ hr3).mono ?_
  rintro e w4 ⟨rfl, hr4, hbn⟩
  have hb4 := hb3.trans hbn
  clear hr3 hb3 hbn
  go_wp2_with fail
  by_cases h4 : 22 + 32 ≤ s.size
  case neg =>
    refine (bytes_short b s 22 32 h4 (by decide) (by omega) (by decide) _ hr4).mono ?_
    rintro e w' ⟨rfl, hbs⟩
    exact ⟨rfl, rfl, hb4.trans (Only.of_below hbs)⟩
  refine (bytes_any b s 22 32 h4 (by omega) _ hr4).mono ?_
  rintro e w5 ⟨rfl, hr5, hbn⟩
  have hb5 := hb4.trans hbn
  clear hr4 hb4 hbn
  go_wp2_with fail
  refine (pkClone_any _ (by simp; omega) _).mono ?_
  rintro e w6 ⟨rfl, hbc⟩
  have hr6 := hr5.below hbc
  have hb6 := hb5.trans (Only.of_below hbc)
  clear hr5 hb5 hbc
  go_wp2_with fail
  refine (bytes_short b s 54 394 (by omega) (by decide) (by omega) (by decide) _ (hr6.below (below_newS _ _))).mono ?_
  rintro e w' ⟨rfl, hbs⟩
  exact ⟨rfl, rfl, (hb6.trans (Only.of_below (below_newS _ _))).trans (Only.of_below hbs)⟩
set_option maxHeartbeats 1000000 in
theorem takeSuper_full (b : Nat) (s : ByteArray) (hs : s.size = 448) (w : World) (h : Rd w b s 0) :
    Calls Tryz.prog 94 #[.pointer (some ⟨b, 0, none⟩)] w fun e w' => e = (if allZ (s.extract 54 448) = true then .returned (.agg (superCells s)) else .panicked (gave 5)) ∧ Only b w w' := by
  have hblt := h.lt
  have hr0 := h.below (below_newS w (.cells #[.int .i64 0, .int .i64 0, .int .i64 0, .int .i64 0, .string ⟨#[]⟩] 33))
  have hb0 : Only b w (w.alloc (.cells #[.int .i64 0, .int .i64 0, .int .i64 0, .int .i64 0, .string ⟨#[]⟩] 33)) := Only.of_below (below_newS w _)
  have hw0 : w.heap.size < (w.alloc (.cells #[.int .i64 0, .int .i64 0, .int .i64 0, .int .i64 0, .string ⟨#[]⟩] 33)).heap.size := by simp
  have g0 : (w.alloc (.cells #[.int .i64 0, .int .i64 0, .int .i64 0, .int .i64 0, .string ⟨#[]⟩] 33)).heap[w.heap.size]? = some (.cells #[.int .i64 0, .int .i64 0, .int .i64 0, .int .i64 0, .string ⟨#[]⟩] 33 (0, 0)) := heap_alloc_new w _
  clear h
  go_enter Tryz.func94, Tryz.ntmps94
  go_wp2_with fail
  generalize w.alloc (.cells #[.int .i64 0, .int .i64 0, .int .i64 0, .int .i64 0, .string ⟨#[]⟩] 33) = w0 at *
  refine (number_any b s 0 6 (by decide) (by decide) (by omega) (by omega) _ hr0).mono ?_
  rintro e w1 ⟨rfl, hr1, hbn⟩
  have hb1 := hb0.trans hbn
  have g1 := (hbn.2 w.heap.size hw0 (by omega)).trans g0
  have hw1 := Nat.lt_of_lt_of_le hw0 hbn.size
  clear hr0 hb0 hbn g0 hw0
  go_wp2_with fail
  refine (number_any b s 6 6 (by decide) (by decide) (by omega) (by omega) _ hr1).mono ?_
  rintro e w2 ⟨rfl, hr2, hbn⟩
  have hb2 := hb1.trans hbn
  have g2 := (hbn.2 w.heap.size hw1 (by omega)).trans g1
  have hw2 := Nat.lt_of_lt_of_le hw1 hbn.size
  clear hr1 hb1 hbn g1 hw1
  go_wp2_with fail
  refine (number_any b s 12 6 (by decide) (by decide) (by omega) (by omega) _ hr2).mono ?_
  rintro e w3 ⟨rfl, hr3, hbn⟩
  have hb3 := hb2.trans hbn
  have g3 := (hbn.2 w.heap.size hw2 (by omega)).trans g2
  have hw3 := Nat.lt_of_lt_of_le hw2 hbn.size
  clear hr2 hb2 hbn g2 hw2
  go_wp2_with fail
  refine (number_any b s 18 4 (by decide) (by decide) (by omega) (by omega) _ hr3).mono ?_
  rintro e w4 ⟨rfl, hr4, hbn⟩
  have hb4 := hb3.trans hbn
  have g4 := (hbn.2 w.heap.size hw3 (by omega)).trans g3
  have hw4 := Nat.lt_of_lt_of_le hw3 hbn.size
  clear hr3 hb3 hbn g3 hw3
  go_wp2_with fail
  refine (bytes_any b s 22 32 (by omega) (by omega) _ hr4).mono ?_
  rintro e w5 ⟨rfl, hr5, hbn⟩
  have hb5 := hb4.trans hbn
  have g5 := (hbn.2 w.heap.size hw4 (by omega)).trans g4
  have hw5 := Nat.lt_of_lt_of_le hw4 hbn.size
  clear hr4 hb4 hbn g4 hw4
  go_wp2_with fail
  refine (pkClone_any _ (by simp; omega) _).mono ?_
  rintro e w6 ⟨rfl, hbc⟩
  have hr6 := hr5.below hbc
  have hb6 := hb5.trans (Only.of_below hbc)
  have g6 := (hbc.block w.heap.size hw5).trans g5
  have hw6 := Nat.lt_of_lt_of_le hw5 hbc.size
  clear hr5 hb5 hbc g5 hw5
  go_wp2_with fail
  refine (bytes_any b s 54 394 (by omega) (by omega) _ (hr6.below (below_newS _ _))).mono ?_
  rintro e w10 ⟨rfl, hr10, hbn⟩
  have hb10 := (hb6.trans (Only.of_below (below_newS _ _))).trans hbn
  have g0' := (hbn.2 w.heap.size (by simp; omega) (by omega)).trans (show _ = some (Obj.cells #[.int .i64 0, .int .i64 0, .int .i64 0, .int .i64 0, .string ⟨#[]⟩] 33 (0, 0)) from by rw [Below.heap_alloc _ _ _ (by omega)]; exact g6)
  have g1' := (hbn.2 w6.heap.size (by simp) (by have := hr6.lt; omega)).trans (heap_alloc_new w6 _)
  clear hr6 hb6 hbn g6
  go_wp2_with fail
  refine (isZero_any (s.extract 54 448) (by unfold maxLen; simp; omega) _).mono ?_
  rintro e w11 ⟨rfl, hbz⟩
  have hb11 := hb10.trans (Only.of_below hbz)
  have g0 := (hbz.block w.heap.size (lt_of_block g0')).trans g0'
  have g1 := (hbz.block w6.heap.size (lt_of_block g1')).trans g1'
  clear hr10 hb10 hbz g0' g1'
  go_wp2_with fail
  by_cases hz : allZ (s.extract 54 448) = true
  case neg =>
    rw [Bool.eq_false_iff.2 hz]
    refine (must_no b _).mono ?_
    rintro e w' ⟨rfl, rfl⟩
    exact ⟨rfl, by rw [if_neg hz], hb11⟩
  rw [hz]
  refine (must_yes b _).mono ?_
  rintro e w' ⟨rfl, rfl⟩
  have g1 : w'.heap[w6.heap.size]? = some (Obj.cells (superCells s) 33 (0, 0)) := g1
  go_wp2_with (first | refine wpList_load_row rfl 33 _ rfl w6.heap.size rfl 33 _ (0, 0) _ g1 Tryz.underlying33 rfl (by kernel_rfl) ?_ | refine wpList_store_row rfl 33 _ _ rfl w.heap.size (superCells s) rfl rfl 33 _ g0 (by kernel_rfl) rfl (superCells_one s) ?_)
  exact bodyPost_ret (v := .agg (superCells s)) (results_cell_row Tryz.results94 _ _ w.heap.size 33 _ (0, 0) _ rfl (setRow_heap _ _ _ _ _ _ g0) Tryz.underlying33 rfl (by kernel_rfl)) rfl ⟨rfl, hb11.setRowS (Nat.le_refl _) _⟩
end Go.Proofs.YtbmjablmmlnieaaGreatDoor
