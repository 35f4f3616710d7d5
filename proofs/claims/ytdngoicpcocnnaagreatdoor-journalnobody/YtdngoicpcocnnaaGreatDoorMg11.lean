/- The writer of package pack: bytes lays a text behind what it has, number lays a number's bytes and keeps the error of one without room, record tells the error or the text filled up; each of whatever state the writer is in, up to 2^40 bytes. · pack.Head, called with any head, tells the bytes and the error of the document's numbers in their widths, and changes nothing that was there. · A cell that is read as an int is a number of type int; one that is read as a string is a text. · A value of type api.Head that is read as data is eight numbers of type int. -/
import Derived.Test.YtdngoicpcocnnaaGreatDoorMg01
import Derived.Test.YtdngoicpcocnnaaGreatDoorMg06
import Derived.Test.YtdngoicpcocnnaaGreatDoorRows
import Derived.ProofKit
import Derived.OpenShut
namespace Go.Proofs.YtdngoicpcocnnaaGreatDoor
set_option maxRecDepth 20000
open Go.RowKit Go.Lib

set_option maxHeartbeats 400000 in
theorem wbytes_any (b : Nat) (l : List UInt8) (e : Int) (s : ByteArray) (w : World) (h : Wr w 175 5 b l e) (hs : l.length + s.size ≤ 1099511627776) :
    Calls Tryz.prog 98 #[.pointer (some ⟨b, 0, none⟩), .string s] w fun en w' => en = .returned (.tuple #[]) ∧ Wr w' 175 5 b (l ++ s.data.toList) e ∧ Below b w w' := by
  obtain ⟨v, hblk, hown⟩ := h
  have hlt := lt_of_block hblk
  have hc0 := two_cell0 hblk
  obtain ⟨i0, hi, hz0, hz1, hz2⟩ := info_parts info5
  go_enter Tryz.func98, Tryz.ntmps98
  go_wp2_with (at_builtin; refine wpList_append_own_string _ rfl _ _ 92 9 rfl (b + 1) 5 i0 Tryz.underlying92 Tryz.underlying9 hi hz0 hz1 hz2 _ _ _ rfl hown s rfl ?c1 ?c2 ?c3 ?_)
  case c1 => unfold maxLen; omega
  case c2 => omega
  case c3 => omega
  intro v' w1 hown' hgrow _
  have hb1 : Below (b + 1) w w1 := (Below.refl _ _).grown hgrow (by omega) (fun k hk => by
    rcases hown.2 with ⟨rfl, _⟩ | ⟨g', cap, cur, rfl, hg', _⟩
    · simp [Value.ownBlock] at hk
    · simp [Value.ownBlock] at hk; omega)
  have hblk1 : w1.heap[b]? = some (.cells #[v, .int .i64 e] 175 (0, 0)) := by rw [hb1.block b (by omega)]; exact hblk
  clear hown hblk hgrow hc0
  have hex : ∃ a n c, v' = .slice a n c := by
    rcases hown'.2 with ⟨h, _⟩ | ⟨g, cap, cur, h, _⟩
    · exact ⟨_, _, _, h⟩
    · exact ⟨_, _, _, h⟩
  obtain ⟨a, n, c, hv⟩ := hex
  rw [hv] at hown' ⊢
  clear hv
  have hf0 := two_free 0 hblk1
  have hc0 := two_cell0 hblk1
  have HB : Hid (w1.heap[b]? = some (.cells #[v, .int .i64 e] 175 (0, 0))) := hblk1
  clear hblk1
  go_wp2
  go_end0
  refine ⟨rfl, ⟨.slice a n c, two_set0 HB.out, ?_⟩, (hb1.mono (show b ≤ b + 1 by omega)).setCell (Nat.le_refl _) _⟩
  rw [List.length_append, show s.data.toList.length = s.size by simp, ← byteCells_append, ← byteCells_str]
  exact ownsRow_setCell_below hown' (by show b < b + 1; omega) _

theorem Wr.setE {w : World} {T E : TypeId} {b : Nat} {l : List UInt8} {e : Int} (h : Wr w T E b l e) (x : Int) : Wr (w.setCell ⟨b, 1, none⟩ (.int .i64 x)) T E b l x := by
  obtain ⟨v, h1, h2⟩ := h
  exact ⟨v, two_set1 h1, ownsRow_setCell_below h2 (by show b < b + 1; omega) _⟩

set_option maxHeartbeats 400000 in
theorem wnumber_any (b : Nat) (l : List UInt8) (e n k : Int) (w : World) (h : Wr w 175 5 b l e) (hs : l.length ≤ 1099511627000) :
    Calls Tryz.prog 97 #[.pointer (some ⟨b, 0, none⟩), .int .i64 n, .int .i64 k] w fun en w' => en = .returned (.tuple #[]) ∧ Wr w' 175 5 b (l ++ (putS n k).data.toList) (stepE e n k) ∧ Below b w w' := by
  have hsz : (putS n k).size ≤ 6 := by have := putS_le n k; simpa using this
  have hlt := h.lt
  by_cases hz : putE n k = 0
  · have hzb : (putE n k != 0) = false := by rw [hz]; rfl
    have HE : Hid (stepE e n k = e) := by show _ = _; unfold stepE; rw [if_pos hz]
    clear hz
    go_enter Tryz.func97, Tryz.ntmps97
    go_wp2_with fail
    refine (put_any n k _).mono ?_
    rintro en w1 ⟨rfl, hb1⟩
    have h1 := h.below hb1
    clear h
    go_wp2_with fail
    refine (wbytes_any b l e (putS n k) _ h1 (by omega)).mono ?_
    rintro en w2 ⟨rfl, h2, hb2⟩
    go_wp2
    go_end0
    exact ⟨rfl, by rw [HE.out]; exact h2, (hb1.mono (show b ≤ w.heap.size by omega)).trans hb2⟩
  · have hzb : (putE n k != 0) = true := by simpa using hz
    have HE : Hid (stepE e n k = putE n k) := by show _ = _; unfold stepE; rw [if_neg hz]
    clear hz
    go_enter Tryz.func97, Tryz.ntmps97
    go_wp2_with fail
    refine (put_any n k _).mono ?_
    rintro en w1 ⟨rfl, hb1⟩
    have h1 := h.below hb1
    clear h
    obtain ⟨v, hblk, hown⟩ := id h1
    have hf1 := two_free 1 hblk
    have hc1 := two_cell1 hblk
    clear hblk hown
    go_wp2_with fail
    refine (wbytes_any b l (putE n k) (putS n k) _ (h1.setE _) (by omega)).mono ?_
    rintro en w2 ⟨rfl, h2, hb2⟩
    go_wp2
    go_end0
    exact ⟨rfl, by rw [HE.out]; exact h2, ((hb1.mono (show b ≤ w.heap.size by omega)).setCell (Nat.le_refl _) _).trans hb2⟩

theorem run_convert_owned {w : World} {base : Nat} {v : Value} {l : List UInt8} (h : w.ownsRow base 5 1 v l.length (byteCells l)) : (convert 92 9 v).run Tryz.prog w = .ok (.string ⟨l.toArray⟩) w := by
  rcases h.2 with ⟨rfl, h0⟩ | ⟨g, cap, cur, rfl, _⟩
  · rw [run_convert_bytes_nil (P := Tryz.prog) w 92 5 Tryz.underlying92 Tryz.underlying5 0 0 9 Tryz.underlying9]
    rw [List.eq_nil_of_length_eq_zero h0]
    rfl
  · rw [run_convert_bytes_arg (P := Tryz.prog) w 92 5 Tryz.underlying92 Tryz.underlying5 g 0 l.length cap (l.map fun x => (x.toNat : Int)) (by simp) (fun i hi => by
      rw [Nat.zero_add, h.cellAt i (by omega)]
      simp [byteCells, hi, List.getD]) 9 Tryz.underlying9]
    rw [str_map_nums]

set_option maxHeartbeats 400000 in
theorem wrecord_no (b : Nat) (l : List UInt8) (e n : Int) (w : World) (h : Wr w 175 5 b l e) (he : (e != 0) = true) :
    Calls Tryz.prog 99 #[.pointer (some ⟨b, 0, none⟩), .int .i64 n] w fun en w' => en = .returned (.tuple #[.string ByteArray.empty, .int .i64 e]) ∧ Below w.heap.size w w' := by
  obtain ⟨v, hblk, hown⟩ := h
  have hc1 := two_cell1 hblk
  clear hblk hown
  go_enter Tryz.func99, Tryz.ntmps99
  go_wp2
  go_region
  all_goals go_wp2
  all_goals go_ret2
  all_goals exact ⟨rfl, by repeat (first | exact Below.refl _ _ | apply Below.drew)⟩

set_option maxHeartbeats 400000 in
theorem wrecord_ok (b : Nat) (l : List UInt8) (n : Int) (w : World) (h : Wr w 175 5 b l 0) :
    Calls Tryz.prog 99 #[.pointer (some ⟨b, 0, none⟩), .int .i64 n] w fun en w' => en = .returned (.tuple #[.string (padS ⟨l.toArray⟩ n), .int .i64 (padE ⟨l.toArray⟩ n)]) ∧ Below w.heap.size w w' := by
  obtain ⟨v, hblk, hown⟩ := h
  have hc0 := two_cell0 hblk
  have hc1 := two_cell1 hblk
  have hcv := run_convert_owned hown
  have hex : ∃ a n c, v = .slice a n c := by
    rcases hown.2 with ⟨h, _⟩ | ⟨g, cap, cur, h, _⟩
    · exact ⟨_, _, _, h⟩
    · exact ⟨_, _, _, h⟩
  clear hblk hown
  obtain ⟨a, m, c, rfl⟩ := hex
  go_enter Tryz.func99, Tryz.ntmps99
  go_wp2_with fail
  refine (pad_any ⟨l.toArray⟩ n _).mono ?_
  rintro en w1 ⟨rfl, hb1⟩
  go_wp2
  go_ret2
  exact ⟨rfl, hb1⟩

/-- A number that is laid behind others. -/
theorem wnumberP (b : Nat) (pre : List UInt8) (ps ps' : List (Int × Int)) (n k : Int) (hp : ps ++ [(n, k)] = ps') (w : World) (h : Wr w 175 5 b (pre ++ laidL ps) (errL 0 ps)) (hs : pre.length + 6 * ps.length ≤ 1000000) :
    Calls Tryz.prog 97 #[.pointer (some ⟨b, 0, none⟩), .int .i64 n, .int .i64 k] w fun en w' => en = .returned (.tuple #[]) ∧ Wr w' 175 5 b (pre ++ laidL ps') (errL 0 ps') ∧ Below b w w' := by
  have hl := laidL_le ps
  refine (wnumber_any b _ _ n k w h (by rw [List.length_append]; omega)).mono fun en w' ⟨he, hw, hb⟩ => ⟨he, ?_, hb⟩
  rw [← hp, laidL_append, errL_append, ← List.append_assoc]
  simpa [laidL, errL] using hw
/-- What record tells of numbers behind some bytes. -/
theorem wrecordP (b : Nat) (pre : List UInt8) (ps : List (Int × Int)) (n z : Nat) (hn : n ≤ 4096) (hw : widths ps = true) (hz : pre.length + widthSum ps + z = n) (w : World) (h : Wr w 175 5 b (pre ++ laidL ps) (errL 0 ps)) :
    Calls Tryz.prog 99 #[.pointer (some ⟨b, 0, none⟩), .int .i64 n] w fun en w' => en = .returned (.tuple #[.string (recS pre ps z), .int .i64 (recE ps)]) ∧ Below w.heap.size w w' := by
  rw [errL_ok ps hw] at h
  by_cases ho : laidOk ps = true
  · rw [if_pos ho] at h
    have hl : (pre ++ laidL ps).length + z = n := by rw [List.length_append, laidL_length ps ho]; omega
    refine (wrecord_ok b _ n w h).mono fun en w' ⟨he, hb⟩ => ⟨?_, hb⟩
    rw [he, padS_rec hn hl, padE_rec hn hl, recS_ok ho, recE_ok ho]
  · rw [if_neg ho] at h
    have hf : laidOk ps = false := by simpa using ho
    refine (wrecord_no b _ 2 n w h rfl).mono fun en w' ⟨he, hb⟩ => ⟨?_, hb⟩
    rw [he, recS_no hf, recE_no hf]
/-- What record tells of a text that z bytes lack to. -/
theorem wrecord_fit (b : Nat) (l : List UInt8) (n z : Nat) (hn : n ≤ 4096) (hl : l.length + z = n) (w : World) (h : Wr w 175 5 b l 0) :
    Calls Tryz.prog 99 #[.pointer (some ⟨b, 0, none⟩), .int .i64 n] w fun en w' => en = .returned (.tuple #[.string (padL l z), .int .i64 0]) ∧ Below w.heap.size w w' := by
  unfold padL
  refine (wrecord_ok b l n w h).mono fun en w' ⟨he, hb⟩ => ⟨?_, hb⟩
  rw [he, padS_rec hn hl, padE_rec hn hl]
/-- A new writer. -/
theorem wr_new (w : World) (b : Nat) (hb : b = w.heap.size) : Wr (w.alloc (.cells #[.slice none 0 0, .int .i64 0] 175)) 175 5 b [] 0 := by
  subst hb
  exact ⟨.slice none 0 0, heap_alloc_new w _, World.ownsRow_nil _ _ _ _⟩
end Go.Proofs.YtdngoicpcocnnaaGreatDoor

namespace Go.Proofs.YtdngoicpcocnnaaGreatDoor
set_option maxRecDepth 20000
open Go.RowKit Go.Lib

set_option maxHeartbeats 1000000 in
theorem head_any (a0 a1 a2 a3 a4 a5 a6 a7 : Int) (w : World) :
    Calls Tryz.prog 109 #[.agg #[.int .i64 a0, .int .i64 a1, .int .i64 a2, .int .i64 a3, .int .i64 a4, .int .i64 a5, .int .i64 a6, .int .i64 a7]] w fun e w' =>
      e = .returned (.tuple #[.string (recS [71, 82, 80, 78] (headPs a0 a1 a2 a3 a4 a5 a6 a7) 8), .int .i64 (recE (headPs a0 a1 a2 a3 a4 a5 a6 a7))]) ∧ Below w.heap.size w w' := by
  go_enter Tryz.func109, Tryz.ntmps109
  go_wp2_with fail
  have hwr := wr_new (w.alloc (.cells #[.int .i64 a0, .int .i64 a1, .int .i64 a2, .int .i64 a3, .int .i64 a4, .int .i64 a5, .int .i64 a6, .int .i64 a7] 79)) (w.heap.size + 1) (by simp)
  have HC : Hid (∀ i (v : Value), (#[.int .i64 a0, .int .i64 a1, .int .i64 a2, .int .i64 a3, .int .i64 a4, .int .i64 a5, .int .i64 a6, .int .i64 a7] : Array Value)[i]? = some v → ((w.alloc (.cells #[.int .i64 a0, .int .i64 a1, .int .i64 a2, .int .i64 a3, .int .i64 a4, .int .i64 a5, .int .i64 a6, .int .i64 a7] 79)).alloc (.cells #[.slice none 0 0, .int .i64 0] 175)).cell? ⟨w.heap.size, i, none⟩ = some v) := cells_boxed w _ _ _
  have hb0 : Below w.heap.size w ((w.alloc (.cells #[.int .i64 a0, .int .i64 a1, .int .i64 a2, .int .i64 a3, .int .i64 a4, .int .i64 a5, .int .i64 a6, .int .i64 a7] 79)).alloc (.cells #[.slice none 0 0, .int .i64 0] 175)) := ((Below.refl _ _).alloc (Nat.le_refl _) _).alloc (by simp) _
  generalize (w.alloc (.cells #[.int .i64 a0, .int .i64 a1, .int .i64 a2, .int .i64 a3, .int .i64 a4, .int .i64 a5, .int .i64 a6, .int .i64 a7] 79)).alloc (.cells #[.slice none 0 0, .int .i64 0] 175) = W0 at *
  refine (wbytes_any (w.heap.size + 1) [] 0 ⟨#[71, 82, 80, 78]⟩ _ hwr (by decide)).mono ?_
  rintro en w1 ⟨rfl, hw1, hb1⟩
  replace hw1 : Wr w1 175 5 (w.heap.size + 1) ([71, 82, 80, 78] ++ laidL []) (errL 0 []) := hw1
  clear hwr
  have c1 := (hb1.cell (p := ⟨w.heap.size, 0, none⟩) (by show w.heap.size < w.heap.size + 1; omega)).trans (HC.out 0 (.int .i64 a0) rfl)
  go_wp2_with fail
  refine (wnumberP (w.heap.size + 1) [71, 82, 80, 78] [] [(a0, 6)] a0 6 rfl _ hw1 (by simp)).mono ?_
  rintro en w2 ⟨rfl, hw2, hbn⟩
  have hb2 := hb1.trans hbn
  clear hw1 hb1 hbn c1
  have c2 := (hb2.cell (p := ⟨w.heap.size, 1, none⟩) (by show w.heap.size < w.heap.size + 1; omega)).trans (HC.out 1 (.int .i64 a1) rfl)
  go_wp2_with fail
  refine (wnumberP (w.heap.size + 1) [71, 82, 80, 78] [(a0, 6)] [(a0, 6), (a1, 4)] a1 4 rfl _ hw2 (by simp)).mono ?_
  rintro en w3 ⟨rfl, hw3, hbn⟩
  have hb3 := hb2.trans hbn
  clear hw2 hb2 hbn c2
  have c3 := (hb3.cell (p := ⟨w.heap.size, 2, none⟩) (by show w.heap.size < w.heap.size + 1; omega)).trans (HC.out 2 (.int .i64 a2) rfl)
  go_wp2_with fail
  refine (wnumberP (w.heap.size + 1) [71, 82, 80, 78] [(a0, 6), (a1, 4)] [(a0, 6), (a1, 4), (a2, 2)] a2 2 rfl _ hw3 (by simp)).mono ?_
  rintro en w4 ⟨rfl, hw4, hbn⟩
  have hb4 := hb3.trans hbn
  clear hw3 hb3 hbn c3
  have c4 := (hb4.cell (p := ⟨w.heap.size, 3, none⟩) (by show w.heap.size < w.heap.size + 1; omega)).trans (HC.out 3 (.int .i64 a3) rfl)
  go_wp2_with fail
  refine (wnumberP (w.heap.size + 1) [71, 82, 80, 78] [(a0, 6), (a1, 4), (a2, 2)] [(a0, 6), (a1, 4), (a2, 2), (a3, 4)] a3 4 rfl _ hw4 (by simp)).mono ?_
  rintro en w5 ⟨rfl, hw5, hbn⟩
  have hb5 := hb4.trans hbn
  clear hw4 hb4 hbn c4
  have c5 := (hb5.cell (p := ⟨w.heap.size, 4, none⟩) (by show w.heap.size < w.heap.size + 1; omega)).trans (HC.out 4 (.int .i64 a4) rfl)
  go_wp2_with fail
  refine (wnumberP (w.heap.size + 1) [71, 82, 80, 78] [(a0, 6), (a1, 4), (a2, 2), (a3, 4)] [(a0, 6), (a1, 4), (a2, 2), (a3, 4), (a4, 4)] a4 4 rfl _ hw5 (by simp)).mono ?_
  rintro en w6 ⟨rfl, hw6, hbn⟩
  have hb6 := hb5.trans hbn
  clear hw5 hb5 hbn c5
  have c6 := (hb6.cell (p := ⟨w.heap.size, 5, none⟩) (by show w.heap.size < w.heap.size + 1; omega)).trans (HC.out 5 (.int .i64 a5) rfl)
  go_wp2_with fail
  refine (wnumberP (w.heap.size + 1) [71, 82, 80, 78] [(a0, 6), (a1, 4), (a2, 2), (a3, 4), (a4, 4)] [(a0, 6), (a1, 4), (a2, 2), (a3, 4), (a4, 4), (a5, 4)] a5 4 rfl _ hw6 (by simp)).mono ?_
  rintro en w7 ⟨rfl, hw7, hbn⟩
  have hb7 := hb6.trans hbn
  clear hw6 hb6 hbn c6
  have c7 := (hb7.cell (p := ⟨w.heap.size, 6, none⟩) (by show w.heap.size < w.heap.size + 1; omega)).trans (HC.out 6 (.int .i64 a6) rfl)
  go_wp2_with fail
  refine (wnumberP (w.heap.size + 1) [71, 82, 80, 78] [(a0, 6), (a1, 4), (a2, 2), (a3, 4), (a4, 4), (a5, 4)] [(a0, 6), (a1, 4), (a2, 2), (a3, 4), (a4, 4), (a5, 4), (a6, 6)] a6 6 rfl _ hw7 (by simp)).mono ?_
  rintro en w8 ⟨rfl, hw8, hbn⟩
  have hb8 := hb7.trans hbn
  clear hw7 hb7 hbn c7
  have c8 := (hb8.cell (p := ⟨w.heap.size, 7, none⟩) (by show w.heap.size < w.heap.size + 1; omega)).trans (HC.out 7 (.int .i64 a7) rfl)
  go_wp2_with fail
  refine (wnumberP (w.heap.size + 1) [71, 82, 80, 78] [(a0, 6), (a1, 4), (a2, 2), (a3, 4), (a4, 4), (a5, 4), (a6, 6)] [(a0, 6), (a1, 4), (a2, 2), (a3, 4), (a4, 4), (a5, 4), (a6, 6), (a7, 6)] a7 6 rfl _ hw8 (by simp)).mono ?_
  rintro en w9 ⟨rfl, hw9, hbn⟩
  have hb9 := hb8.trans hbn
  clear hw8 hb8 hbn c8
  go_wp2_with fail
  refine (wrecordP (w.heap.size + 1) [71, 82, 80, 78] (headPs a0 a1 a2 a3 a4 a5 a6 a7) 48 8 (by decide) rfl rfl _ hw9).mono ?_
  rintro en w10 ⟨rfl, hb10⟩
  go_wp2
  go_ret2
  exact ⟨rfl, hb0.trans ((hb9.mono (show w.heap.size ≤ w.heap.size + 1 by omega)).trans (hb10.mono (Nat.le_trans hb0.size hb9.size)))⟩
end Go.Proofs.YtdngoicpcocnnaaGreatDoor

namespace Go.Proofs.YtdngoicpcocnnaaGreatDoor
set_option maxRecDepth 20000
open Go.ChangeShapes Go.WideShapes Go.ChangeAt Go.RowKit

theorem cells_int : Tryz.prog.cellsOf 3 = 1 := by kernel_rfl
theorem cells_string : Tryz.prog.cellsOf 9 = 1 := by kernel_rfl
theorem fld_int {H : Type} {enc : TypeId × Value → H} {w : World} {base : Nat} {spare : Nat → Bool} {held : Bool} {n i : Nat} {c : Value} {xs : List (DataW H × List MemPlace)}
    (h : DataW.trod enc Tryz.prog w base spare held n 3 [c] = xs[i]?) (hi : i < xs.length) : ∃ a, c = .int .i64 a ∧ (Lit.int .i64 a).wf = true := by
  rw [List.getElem?_eq_getElem hi] at h
  obtain ⟨a, e0, _, wa⟩ := DataW.trod_int Tryz.underlying3 h
  simp at e0
  exact ⟨a, e0, wa⟩
theorem fld_string {H : Type} {enc : TypeId × Value → H} {w : World} {base : Nat} {spare : Nat → Bool} {held : Bool} {n i : Nat} {c : Value} {xs : List (DataW H × List MemPlace)}
    (h : DataW.trod enc Tryz.prog w base spare held n 9 [c] = xs[i]?) (hi : i < xs.length) : ∃ s, c = .string s ∧ s.size ≤ maxLen := by
  rw [List.getElem?_eq_getElem hi] at h
  obtain ⟨s, e0, _, ws⟩ := DataW.trod_string Tryz.underlying9 h
  simp at e0
  exact ⟨s, e0, ws⟩
/-- A number of type int. -/
def IsInt (a : Int) : Prop := (Lit.int .i64 a).wf = true
theorem int_le8 {x : Int} (h : IsInt x) : x ≤ 9223372036854775807 := by
  simp [IsInt, Lit.wf, IntKind.min, IntKind.max, IntKind.signed, IntKind.bits] at h
  omega
end Go.Proofs.YtdngoicpcocnnaaGreatDoor

namespace Go.Proofs.YtdngoicpcocnnaaGreatDoor
set_option maxRecDepth 20000
open Go.ChangeShapes Go.WideShapes Go.ChangeAt Go.RowKit

theorem array8 {α : Type} {cs : Array α} (h : cs.size = 8) : ∃ c0 c1 c2 c3 c4 c5 c6 c7, cs = #[c0, c1, c2, c3, c4, c5, c6, c7] := by
  obtain ⟨l⟩ := cs
  match l, h with
  | [c0, c1, c2, c3, c4, c5, c6, c7], _ => exact ⟨c0, c1, c2, c3, c4, c5, c6, c7, rfl⟩
theorem cells_head : Tryz.prog.cellsOf 79 = 8 := by kernel_rfl
theorem open_head {H : Type} {enc : TypeId × Value → H} {w : World} {base b0 : Nat} {spare : Nat → Bool} {held : Bool} {r : Reach} {v : Value} {d : DataW H} {p : List MemPlace}
    (hv : Value.okWide Tryz.prog w r b0 79 v) (h : DataW.Trod enc Tryz.prog w base spare held 79 v d p) :
    ∃ a0 a1 a2 a3 a4 a5 a6 a7 : Int, v = .agg #[.int .i64 a0, .int .i64 a1, .int .i64 a2, .int .i64 a3, .int .i64 a4, .int .i64 a5, .int .i64 a6, .int .i64 a7] ∧ (IsInt a0 ∧ IsInt a1 ∧ IsInt a2 ∧ IsInt a3 ∧ IsInt a4 ∧ IsInt a5 ∧ IsInt a6 ∧ IsInt a7) := by
  obtain ⟨cs, rfl, hsz⟩ := okWide_struct Tryz.underlying79 hv
  obtain ⟨c0, c1, c2, c3, c4, c5, c6, c7, rfl⟩ := array8 (hsz.trans cells_head)
  obtain ⟨fuel, hf⟩ := h
  obtain ⟨xs, n, _, _, _, hlen, hf⟩ := DataW.trod_struct Tryz.underlying79 hf
  have hl : xs.length = 8 := hlen
  obtain ⟨a0, rfl, w0⟩ := fld_int (c := c0) (i := 0) (xs := xs) (by simpa [Value.cells, cells_int] using hf 0 _ rfl) (by omega)
  obtain ⟨a1, rfl, w1⟩ := fld_int (c := c1) (i := 1) (xs := xs) (by simpa [Value.cells, cells_int] using hf 1 _ rfl) (by omega)
  obtain ⟨a2, rfl, w2⟩ := fld_int (c := c2) (i := 2) (xs := xs) (by simpa [Value.cells, cells_int] using hf 2 _ rfl) (by omega)
  obtain ⟨a3, rfl, w3⟩ := fld_int (c := c3) (i := 3) (xs := xs) (by simpa [Value.cells, cells_int] using hf 3 _ rfl) (by omega)
  obtain ⟨a4, rfl, w4⟩ := fld_int (c := c4) (i := 4) (xs := xs) (by simpa [Value.cells, cells_int] using hf 4 _ rfl) (by omega)
  obtain ⟨a5, rfl, w5⟩ := fld_int (c := c5) (i := 5) (xs := xs) (by simpa [Value.cells, cells_int] using hf 5 _ rfl) (by omega)
  obtain ⟨a6, rfl, w6⟩ := fld_int (c := c6) (i := 6) (xs := xs) (by simpa [Value.cells, cells_int] using hf 6 _ rfl) (by omega)
  obtain ⟨a7, rfl, w7⟩ := fld_int (c := c7) (i := 7) (xs := xs) (by simpa [Value.cells, cells_int] using hf 7 _ rfl) (by omega)
  exact ⟨a0, a1, a2, a3, a4, a5, a6, a7, rfl, w0, w1, w2, w3, w4, w5, w6, w7⟩
end Go.Proofs.YtdngoicpcocnnaaGreatDoor
