/- block's Look, at an image that lies in memory and any vault that is told. · pack.Super, called with any superblock, tells the bytes superS and the error superE, and changes nothing that was there. · strings.Clone, called with any text of at most 4096 bytes, tells the text, and changes nothing that was there. · pack.takeSuper, of a reader that stands at the beginning of a text of at most 448 bytes, panics with what a reader gives up with where the text is no superblock's, or tells the superblock. · pack.read at the super: its deferred closure's two contracts, and what it tells. · pack.SuperOf, called with any text, tells the super and the error that the text is by the document. -/
import Derived.Test.YtoopaigpjefonaaGreatDoorMg05
import Derived.Test.YtoopaigpjefonaaGreatDoorMg09
import Derived.Test.YtoopaigpjefonaaGreatDoorMg04
import Derived.Test.YtoopaigpjefonaaGreatDoorMg00
import Derived.Lib.BufferWrite
import Derived.Lib.UnsafeStr
import Derived.Laws.Rows
import Derived.Laws.Tables
import Derived.Defers
import Derived.Recover
import Derived.Laws.Pointers
namespace Go.Proofs.YtoopaigpjefonaaGreatDoor
set_option maxRecDepth 20000
open Go.RowKit

theorem apart_cell {w : World} {e : TypeId} {n g cap i : Nat} {xs : List Value} {u : Value} (h : w.ownsRow 0 e 1 (.slice (some ⟨g, 0, none⟩) n cap) n xs) (hi : xs[i]? = some u) : w.cell? ⟨g, i, none⟩ = some u := by
  obtain ⟨g', cap', e', _, hc⟩ := owns_form h (by have := (List.getElem?_eq_some_iff.1 hi).1; have := h.1; omega)
  cases e'
  exact hc i u hi
theorem list1_of_owns {α : Type} {f : α → Value} {w : World} {e : TypeId} {v : Value} {l : List α} (h : w.ownsRow 0 e 1 v l.length (l.map f)) : List1 f w v l := by
  rcases h.2 with ⟨rfl, hn⟩ | ⟨g, cap, cur, rfl, _, hg, _⟩
  · exact .inl ⟨none, 0, rfl, List.length_eq_zero_iff.1 hn⟩
  · exact .inr ⟨g, 0, cap, rfl, lt_of_block hg, fun i x hx => by rw [Nat.zero_add]; exact (apart_cell h (by rw [List.getElem?_map, hx]; rfl))⟩
theorem List1.below {α : Type} {f : α → Value} {W W' : World} {v : Value} {l : List α} (h : List1 f W v l) (hb : Below W.heap.size W W') : List1 f W' v l := by
  rcases h with h | ⟨g, o, cap, e, hg, hx⟩
  · exact .inl h
  · exact .inr ⟨g, o, cap, e, Nat.lt_of_lt_of_le hg hb.size, fun i x hi => (World.cell?_of_block (a := ⟨g, o + i, none⟩) (hb.block g hg)).trans (hx i x hi)⟩
def lookK (K : VK) (T : K.σ) (raws : List ByteArray) (masks : List Int) (a : Int) : Array Value := if atM raws masks a = 0 then toldK K T (atS raws masks a) a else noneA
theorem look_ret (tmps : Array Value) (g : Nat) (w' : World) (cs : Array Value) (R : Ending → World → Prop) (h1 : tmps.getD 6 undef = .pointer (some ⟨g, 0, none⟩)) (hg : w'.heap[g]? = some (.cells cs 125 (0, 0))) (hs : cs.size = 10) (hR : R (.returned (.agg cs)) w') :
    bodyPost Tryz.prog Tryz.f102 R .ret { tmps := tmps, defers := [] } w' :=
  bodyPost_ret (v := .agg cs) (results_cell_row Tryz.results102 tmps w' g 125 cs (0, 0) _ h1 hg Tryz.underlying125 rfl (by rw [hs]; kernel_rfl)) rfl hR
set_option maxHeartbeats 4000000 in
theorem klook_any (K : VK) (HK : VKOk K) (F : Nat → Prop) (T : K.σ) (hl : K.room T 0) (oa ob : Option Addr) (ca cb : Nat) (raws : List ByteArray) (masks : List Int) (a : Int) (w : World) (hp : K.lies w F T) (h1 : List1 Value.string w (.slice oa raws.length ca) raws) (h2 : List1 (Value.int .i64) w (.slice ob masks.length cb) masks) :
    Calls Tryz.prog 102 #[K.v, .agg #[.slice oa raws.length ca, .slice ob masks.length cb], .int .i64 a] w fun e w' => e = .returned (.agg (lookK K T raws masks a)) ∧ Below w.heap.size w w' := by
  obtain ⟨w0, hw0⟩ : ∃ w0, (w.alloc (.cells #[.slice oa raws.length ca, .slice ob masks.length cb] 131)).alloc (.cells #[.bool false, .int .i64 0, .int .i64 0, .int .i64 0, .int .i64 0, .int .i64 0, .int .i64 0, .int .i64 0, .int .i64 0, .string ⟨#[]⟩] 125) = w0 := ⟨_, rfl⟩
  have e1 : (w.alloc (.cells #[.slice oa raws.length ca, .slice ob masks.length cb] 131)).heap.size = w.heap.size + 1 := by simp
  have g0 : w0.heap[w.heap.size + 1]? = some (.cells #[.bool false, .int .i64 0, .int .i64 0, .int .i64 0, .int .i64 0, .int .i64 0, .int .i64 0, .int .i64 0, .int .i64 0, .string ⟨#[]⟩] 125 (0, 0)) := by rw [← hw0, ← e1]; exact heap_alloc_new _ _
  have r0 : Row w0 w.heap.size 131 [.slice oa raws.length ca, .slice ob masks.length cb] := by rw [← hw0]; exact (Below.heap_alloc _ _ _ (by rw [e1]; omega)).trans (heap_alloc_new w _)
  have hb0 : Below w.heap.size w w0 := by rw [← hw0]; exact ((Below.refl _ _).alloc (Nat.le_refl _) _).alloc (by rw [e1]; omega) _
  have hat := at_any w0 oa ob ca cb raws masks a (h1.below hb0) (h2.below hb0)
  have c0 : w0.cell? ⟨w.heap.size, 0, none⟩ = some (.slice oa raws.length ca) := r0.cell 0
  have c1 : w0.cell? ⟨w.heap.size, 1, none⟩ = some (.slice ob masks.length cb) := r0.cell 1
  have HL : Hid (lookK K T raws masks a = if atM raws masks a = 0 then toldK K T (atS raws masks a) a else noneA) := rfl
  have H0 : Hid (Below w.heap.size w w0 ∧ K.lies w0 F T) := ⟨hb0, HK.below hp hb0⟩
  have hW0 : Hid ((w.alloc (.cells #[.slice oa raws.length ca, .slice ob masks.length cb] 131)).alloc (.cells #[.bool false, .int .i64 0, .int .i64 0, .int .i64 0, .int .i64 0, .int .i64 0, .int .i64 0, .int .i64 0, .int .i64 0, .string ⟨#[]⟩] 125) = w0) := hw0
  have HR : Hid (∀ w' cs, Below w.heap.size w w' → Below w.heap.size w (w'.setRow (w.heap.size + 1) cs)) := fun w' cs h => h.trans ⟨rfl, rfl, rfl, by simp [World.setRow], fun k hk => setRow_other _ _ _ _ (by omega)⟩
  generalize atS raws masks a = r at *
  generalize atM raws masks a = m at *
  generalize lookK K T raws masks a = A at *
  generalize raws.length = rl at *
  generalize masks.length = ml at *
  clear h1 h2 hp hb0 r0 e1 hw0
  by_cases hm : m = 0
  · rw [Hid, if_pos hm] at HL
    subst hm
    have htold := fun w h => HK.told F T r a w hl h
    simp only [toldK] at htold
    have hto := toldK_ok K T r a
    rw [← HL] at hto
    have HT : Hid ((if K.oE T r = 0 ∧ (K.oH T r).v1 = a then readA true (K.oH T r) (K.oS T r) else noneA) = A) := HL.symm
    simp only [HT.out] at htold
    obtain ⟨hA, hA1⟩ := hto
    clear HL HT
    go_enter Tryz.func102, Tryz.ntmps102
    go_wp2_with fail
    try rw [hW0.out]
    refine hat.mono ?_
    rintro e w1 ⟨rfl, hb1⟩
    have g1 := (hb1.block _ (lt_of_block g0)).trans g0
    have H1 : Hid (Below w.heap.size w w1 ∧ K.lies w1 F T) := ⟨H0.out.1.trans (hb1.mono H0.out.1.size), HK.below H0.out.2 hb1⟩
    clear hat hb1 g0 c0 c1 hW0
    go_wp2_with fail
    refine (htold _ H1.out.2).mono ?_
    rintro e w2 ⟨rfl, hb2⟩
    have g2 := (hb2.block _ (lt_of_block g1)).trans g1
    have HF : Hid _ := HR.out w2 A (H1.out.1.trans (hb2.mono H1.out.1.size))
    clear htold hb2 g1 HR
    go_wp2_with (refine wpList_store_row rfl 125 _ _ rfl (w.heap.size + 1) A rfl rfl 125 _ g2 (by rw [hA]; kernel_rfl) (by rw [hA]; rfl) hA1 ?_)
    exact look_ret _ (w.heap.size + 1) _ A _ rfl (setRow_heap _ _ _ _ _ _ g2) hA ⟨rfl, HF.out⟩
  · rw [Hid, if_neg hm] at HL
    subst HL
    simp only [noneA, readA, Hd.zero]
    have hm1 : (m != 0) = true := bne_iff_ne.2 hm
    go_enter Tryz.func102, Tryz.ntmps102
    go_wp2_with fail
    try rw [hW0.out]
    refine hat.mono ?_
    rintro e w1 ⟨rfl, hb1⟩
    have g1 := (hb1.block _ (lt_of_block g0)).trans g0
    have HF : Hid _ := HR.out w1 #[.bool false, .int .i64 0, .int .i64 0, .int .i64 0, .int .i64 0, .int .i64 0, .int .i64 0, .int .i64 0, .int .i64 0, .string ⟨#[]⟩] (H0.out.1.trans (hb1.mono H0.out.1.size))
    clear hat hb1 g0 c0 c1 hW0 HR
    go_wp2_with (refine wpList_store_row rfl 125 _ _ rfl (w.heap.size + 1) #[.bool false, .int .i64 0, .int .i64 0, .int .i64 0, .int .i64 0, .int .i64 0, .int .i64 0, .int .i64 0, .int .i64 0, .string ⟨#[]⟩] rfl rfl 125 _ g1 (by kernel_rfl) rfl (by simp [Value.oneCell']) ?_)
    exact look_ret _ (w.heap.size + 1) _ _ _ rfl (setRow_heap _ _ _ _ _ _ g1) rfl ⟨rfl, HF.out⟩
end Go.Proofs.YtoopaigpjefonaaGreatDoor

namespace Go.Proofs.YtoopaigpjefonaaGreatDoor
set_option maxRecDepth 20000
open Go.RowKit Go.Lib

theorem super_arg (a0 a1 a2 a3 : Int) (r : ByteArray) (h : ((r.size : Int) != 32) = true) (w : World) :
    Calls Tryz.prog 64 #[.agg #[.int .i64 a0, .int .i64 a1, .int .i64 a2, .int .i64 a3, .string r]] w fun e w' => e = .returned (.tuple #[.string ByteArray.empty, .int .i64 1]) ∧ Below w.heap.size w w' := by
  go_enter Tryz.func64, Tryz.ntmps64
  go_wp2
  go_ret2
  exact ⟨rfl, (Below.refl _ _).alloc (Nat.le_refl _) _⟩

set_option maxHeartbeats 1000000 in
theorem super_in (a0 a1 a2 a3 : Int) (r : ByteArray) (hr : r.size = 32) (w : World) :
    Calls Tryz.prog 64 #[.agg #[.int .i64 a0, .int .i64 a1, .int .i64 a2, .int .i64 a3, .string r]] w fun e w' => e = .returned (.tuple #[.string (superS a0 a1 a2 a3 r), .int .i64 (superE a0 a1 a2 a3 r)]) ∧ Below w.heap.size w w' := by
  have hrb : ((r.size : Int) != 32) = false := by rw [hr]; rfl
  have HR : Hid (r.size = 32) := hr
  clear hr
  go_enter Tryz.func64, Tryz.ntmps64
  go_wp2_with fail
  have hwr := wr_new (w.alloc (.cells #[.int .i64 a0, .int .i64 a1, .int .i64 a2, .int .i64 a3, .string r] 23)) (w.heap.size + 1) (by simp)
  have HC : Hid (∀ i (v : Value), (#[.int .i64 a0, .int .i64 a1, .int .i64 a2, .int .i64 a3, .string r] : Array Value)[i]? = some v → ((w.alloc (.cells #[.int .i64 a0, .int .i64 a1, .int .i64 a2, .int .i64 a3, .string r] 23)).alloc (.cells #[.slice none 0 0, .int .i64 0] 202)).cell? ⟨w.heap.size, i, none⟩ = some v) := cells_boxed w _ _ _
  have hb0 : Below w.heap.size w ((w.alloc (.cells #[.int .i64 a0, .int .i64 a1, .int .i64 a2, .int .i64 a3, .string r] 23)).alloc (.cells #[.slice none 0 0, .int .i64 0] 202)) := ((Below.refl _ _).alloc (Nat.le_refl _) _).alloc (by simp) _
  have c1 := HC.out 0 (.int .i64 a0) rfl
  generalize (w.alloc (.cells #[.int .i64 a0, .int .i64 a1, .int .i64 a2, .int .i64 a3, .string r] 23)).alloc (.cells #[.slice none 0 0, .int .i64 0] 202) = w1 at *
  have hb1 : Below (w.heap.size + 1) w1 w1 := Below.refl _ _
  have HC1 : Hid (∀ i (v : Value), (#[.int .i64 a0, .int .i64 a1, .int .i64 a2, .int .i64 a3, .string r] : Array Value)[i]? = some v → w1.cell? ⟨w.heap.size, i, none⟩ = some v) := HC
  clear HC
  have hw1 : Wr w1 202 5 (w.heap.size + 1) ([] ++ laidL []) (errL 0 []) := hwr
  clear hwr
  refine (wnumberP (w.heap.size + 1) [] [] [(a0, 6)] a0 6 rfl _ hw1 (by simp)).mono ?_
  rintro en w2 ⟨rfl, hw2, hbn⟩
  have hb2 := hb1.trans hbn
  clear hw1 hb1 hbn c1
  have c2 := (hb2.cell (p := ⟨w.heap.size, 1, none⟩) (by show w.heap.size < w.heap.size + 1; omega)).trans (HC1.out 1 (.int .i64 a1) rfl)
  go_wp2_with fail
  refine (wnumberP (w.heap.size + 1) [] [(a0, 6)] [(a0, 6), (a1, 6)] a1 6 rfl _ hw2 (by simp)).mono ?_
  rintro en w3 ⟨rfl, hw3, hbn⟩
  have hb3 := hb2.trans hbn
  clear hw2 hb2 hbn c2
  have c3 := (hb3.cell (p := ⟨w.heap.size, 2, none⟩) (by show w.heap.size < w.heap.size + 1; omega)).trans (HC1.out 2 (.int .i64 a2) rfl)
  go_wp2_with fail
  refine (wnumberP (w.heap.size + 1) [] [(a0, 6), (a1, 6)] [(a0, 6), (a1, 6), (a2, 6)] a2 6 rfl _ hw3 (by simp)).mono ?_
  rintro en w4 ⟨rfl, hw4, hbn⟩
  have hb4 := hb3.trans hbn
  clear hw3 hb3 hbn c3
  have c4 := (hb4.cell (p := ⟨w.heap.size, 3, none⟩) (by show w.heap.size < w.heap.size + 1; omega)).trans (HC1.out 3 (.int .i64 a3) rfl)
  go_wp2_with fail
  refine (wnumberP (w.heap.size + 1) [] [(a0, 6), (a1, 6), (a2, 6)] [(a0, 6), (a1, 6), (a2, 6), (a3, 4)] a3 4 rfl _ hw4 (by simp)).mono ?_
  rintro en w5 ⟨rfl, hw5, hbn⟩
  have hb5 := hb4.trans hbn
  clear hw4 hb4 hbn c4
  have c5 := (hb5.cell (p := ⟨w.heap.size, 4, none⟩) (by show w.heap.size < w.heap.size + 1; omega)).trans (HC1.out 4 (.string r) rfl)
  go_wp2_with fail
  refine (wbytes_any (w.heap.size + 1) ([] ++ laidL (superPs a0 a1 a2 a3)) (errL 0 (superPs a0 a1 a2 a3)) r _ hw5 (by have := laidL_le (superPs a0 a1 a2 a3); rw [HR.out, List.nil_append]; simp [superPs] at this ⊢; omega)).mono ?_
  rintro en w6 ⟨rfl, hw6, hbn⟩
  have hb6 := hb5.trans hbn
  clear hw5 hb5 hbn c5
  rw [List.nil_append] at hw6
  have hb6' : Below w.heap.size w w6 := hb0.trans (hb6.mono (show w.heap.size ≤ w.heap.size + 1 by omega))
  clear hb6 hb0
  rw [errL_ok (superPs a0 a1 a2 a3) rfl] at hw6
  cases ho : laidOk (superPs a0 a1 a2 a3) with
  | false =>
    rw [ho, if_neg (by decide)] at hw6
    have HO : Hid (laidOk (superPs a0 a1 a2 a3) = false) := ho
    clear ho
    go_wp2_with fail
    refine (wrecord_no (w.heap.size + 1) _ 2 448 _ hw6 rfl).mono ?_
    rintro en w7 ⟨rfl, hb7⟩
    go_wp2
    go_ret2
    refine ⟨?_, hb6'.trans (hb7.mono hb6'.size)⟩
    unfold superS superE
    rw [if_neg (by rw [HO.out]; simp), if_pos HR.out, recE_no HO.out]
    rfl
  | true =>
    rw [ho, if_pos rfl] at hw6
    have HO : Hid (laidOk (superPs a0 a1 a2 a3) = true) := ho
    clear ho
    go_wp2_with fail
    have hl : (laidL (superPs a0 a1 a2 a3) ++ r.data.toList).length + 394 = 448 := by
      rw [List.length_append, laidL_length _ HO.out, show r.data.toList.length = r.size by simp, HR.out]; rfl
    refine (wrecord_fit (w.heap.size + 1) _ 448 394 (by decide) hl _ hw6).mono ?_
    clear hl
    rintro en w7 ⟨rfl, hb7⟩
    go_wp2
    go_ret2
    refine ⟨?_, hb6'.trans (hb7.mono hb6'.size)⟩
    unfold superS superE
    rw [if_pos ⟨HR.out, HO.out⟩, if_pos HR.out, recE_ok HO.out]
    rfl

theorem super_any (a0 a1 a2 a3 : Int) (r : ByteArray) (w : World) :
    Calls Tryz.prog 64 #[.agg #[.int .i64 a0, .int .i64 a1, .int .i64 a2, .int .i64 a3, .string r]] w fun e w' => e = .returned (.tuple #[.string (superS a0 a1 a2 a3 r), .int .i64 (superE a0 a1 a2 a3 r)]) ∧ Below w.heap.size w w' := by
  by_cases hr : r.size = 32
  · exact super_in a0 a1 a2 a3 r hr w
  · have e1 : superS a0 a1 a2 a3 r = ByteArray.empty := by unfold superS; rw [if_neg (fun h => hr h.1)]
    have e2 : superE a0 a1 a2 a3 r = 1 := by unfold superE; rw [if_neg hr]
    rw [e1, e2]
    exact super_arg a0 a1 a2 a3 r (by simp; omega) w
end Go.Proofs.YtoopaigpjefonaaGreatDoor

namespace Go.Proofs.YtoopaigpjefonaaGreatDoor
set_option maxRecDepth 20000
open Go.RowKit

theorem bytes_row {w : World} {g : Nat} {s : ByteArray} {Y : Array Value} {t : TypeId} (h : w.heap[g]? = some (.cells Y t (0, 0))) (hY : Y.toList = Lib.byteCells s.data.toList) (j : Nat) (x : UInt8) (hx : s.data.toList[j]? = some x) :
    w.cell? ((⟨g, 0, none⟩ : Addr).add j) = some (.int .u8 x.toNat) :=
  Lib.cells_of_row h Y.toList.length j _ (by rw [List.take_length, hY, Lib.byteCells, List.getElem?_map, hx]; rfl)

set_option maxHeartbeats 1000000 in
theorem pkSlClone_any (s : ByteArray) (hs : s.size ≤ 4096) (w : World) :
    Calls Tryz.prog 188 #[.string s] w fun e w' => e = .returned (.string s) ∧ Below w.heap.size w w' := by
  by_cases h0 : s.size = 0
  · obtain rfl : s = ByteArray.empty := by simpa using h0
    go_enter Tryz.func188, Tryz.ntmps188
    go_wp2
    go_ret
    exact ⟨rfl, Below.refl _ _⟩
  obtain ⟨i0, hi, hz0, hz1, hz2⟩ := info_parts info5
  have i1 : ¬ (s.size : Int) = 0 := by omega
  have i1' : ((s.size : Int) == 0) = false := by simpa using h0
  go_enter Tryz.func188, Tryz.ntmps188
  go_wp2_with (at_make; refine wpList_make_full _ rfl _ _ 143 rfl w.heap.size 5 i0 (.int .u8 0) 1 Tryz.underlying143 hi hz0 hz1 .i64 .i64 _ _ s.size rfl rfl rfl rfl ?c1 ?c2 (Nat.le_refl _) ?_)
  case c1 => first | omega | (rw [hz2]; omega)
  case c2 => unfold maxLen; omega
  intro w1 hown hgrow
  have hb1 : Below w.heap.size w w1 := (Below.refl _ _).grown hgrow (Nat.le_refl _) (fun k hk => by simp at hk)
  rcases hown.2 with ⟨h', _⟩ | ⟨g, cap, cur, h', _, hg, _, _, hsz, _⟩
  · simp at h'
  simp only [Value.slice.injEq, Option.some.injEq, Addr.mk.injEq, and_true, true_and] at h'
  obtain ⟨rfl, rfl⟩ := h'
  rw [Nat.mul_one] at hsz
  clear hown hgrow
  have hcp := Lib.run_copy_row_string (P := Tryz.prog) w1 143 9 3 5 w.heap.size 0 s.size s.size s cur 5 Tryz.underlying143 (by kernel_rfl) hg (Nat.le_refl _) (by omega)
  obtain ⟨Y, hY⟩ : ∃ Y, Y = (cur.toList.take 0 ++ Lib.byteCells s.data.toList ++ cur.toList.drop (0 + s.size)).toArray := ⟨_, rfl⟩
  rw [← hY] at hcp
  have hYl : Y.toList = Lib.byteCells s.data.toList := by
    rw [hY, List.toList_toArray, List.take_zero, List.nil_append, List.drop_of_length_le (by rw [Array.length_toList]; omega), List.append_nil]
  have hYs : Y.size = s.size := by rw [← Array.length_toList, hYl, Lib.byteCells_length, ← Lib.size_eq]
  have hgY := setRow_heap w1 w.heap.size cur Y 5 (0, 0) hg
  have hb2 : Below w.heap.size w (w1.setRow w.heap.size Y) := hb1.trans ⟨rfl, rfl, rfl, by simp [World.setRow], fun k hk => setRow_other _ _ _ _ (by omega)⟩
  have hus := Lib.run_unsafeString_row (P := Tryz.prog) (w1.setRow w.heap.size Y) 220 3 9 5 Tryz.underlying220 (by kernel_rfl) w.heap.size Y.size (by unfold World.shape?; rw [hgY]) s.data.toList (fun e => h0 (by rw [Lib.size_eq, e]; rfl)) (by rw [← Lib.size_eq]; omega) (by rw [← Lib.size_eq]; omega)
    (fun j x hx => bytes_row hgY hYl j x hx)
  rw [← Lib.size_eq] at hus
  clear hY hYl hgY hg
  go_wp2
  go_ret
  exact ⟨rfl, Lib.below_freeze hb2 (p := ⟨w.heap.size, 0, none⟩) (Nat.le_refl _) _⟩

theorem pkClone_any (s : ByteArray) (hs : s.size ≤ 4096) (w : World) :
    Calls Tryz.prog 170 #[.string s] w fun e w' => e = .returned (.string s) ∧ Below w.heap.size w w' := by
  go_enter Tryz.func170, Tryz.ntmps170
  go_wp2_with fail
  refine (pkSlClone_any s hs _).mono ?_
  rintro e w1 ⟨rfl, hb1⟩
  go_wp2
  go_ret
  exact ⟨rfl, hb1⟩
end Go.Proofs.YtoopaigpjefonaaGreatDoor

namespace Go.Proofs.YtoopaigpjefonaaGreatDoor
set_option maxRecDepth 20000
open Go.RowKit

theorem Only.setRowS {b g : Nat} {w w' : World} (h : Only b w w') (hg : w.heap.size ≤ g) (cs : Array Value) : Only b w (w'.setRow g cs) :=
  ⟨h.1.trans ⟨rfl, rfl, rfl, by simp [World.setRow], fun k hk => absurd hk (Nat.not_lt_zero _)⟩, fun k hk hb => (setRow_other _ _ _ _ (by omega)).trans (h.2 k hk hb)⟩
theorem below_newS (w : World) (o1 : Obj) : Below w.heap.size w (w.alloc o1) := (Below.refl _ _).alloc (Nat.le_refl _) _
/-- The superblock that a text of 448 bytes is. -/
def superCells (s : ByteArray) : Array Value := #[.int .i64 (leVal ((s.data.toList.drop 0).take 6)), .int .i64 (leVal ((s.data.toList.drop 6).take 6)), .int .i64 (leVal ((s.data.toList.drop 12).take 6)), .int .i64 (leVal ((s.data.toList.drop 18).take 4)), .string (s.extract 22 54)]
theorem superCells_one (s : ByteArray) : (superCells s).all (·.oneCell') = true := by simp [superCells, Value.oneCell']
set_option maxHeartbeats 1000000 in
theorem takeSuper_short (b : Nat) (s : ByteArray) (hs : s.size < 448) (w : World) (h : Rd w b s 0) :
    Calls Tryz.prog 166 #[.pointer (some ⟨b, 0, none⟩)] w fun e w' => e = .panicked (gave 3) ∧ Only b w w' := by
  have hblt := h.lt
  have hr0 := h.below (below_newS w (.cells #[.int .i64 0, .int .i64 0, .int .i64 0, .int .i64 0, .string ⟨#[]⟩] 23))
  have hb0 : Only b w (w.alloc (.cells #[.int .i64 0, .int .i64 0, .int .i64 0, .int .i64 0, .string ⟨#[]⟩] 23)) := Only.of_below (below_newS w _)
  clear h
  go_enter Tryz.func166, Tryz.ntmps166
  go_wp2_with fail
  generalize w.alloc (.cells #[.int .i64 0, .int .i64 0, .int .i64 0, .int .i64 0, .string ⟨#[]⟩] 23) = w0 at *
  by_cases h0 : 0 + 6 ≤ s.size
  case neg =>
    refine (number_short b s 0 6 (by decide) (by decide) h0 (by omega) _ hr0).mono ?_
    rintro e w' ⟨rfl, hbs⟩
    exact ⟨rfl, rfl, hb0.trans (Only.of_below hbs)⟩
  refine (number_any b s 0 6 (by decide) (by decide) h0 (by omega) _ hr0).mono ?_
  rintro e w1 ⟨rfl, hr1, hbn⟩
  have hb1 := hb0.trans hbn
  clear hr0 hb0 hbn
  go_wp2_with fail
  by_cases h1 : 6 + 6 ≤ s.size
  case neg =>
    refine (number_short b s 6 6 (by decide) (by decide) h1 (by omega) _ hr1).mono ?_
    rintro e w' ⟨rfl, hbs⟩
    exact ⟨rfl, rfl, hb1.trans (Only.of_below hbs)⟩
  refine (number_any b s 6 6 (by decide) (by decide) h1 (by omega) _ hr1).mono ?_
  rintro e w2 ⟨rfl, hr2, hbn⟩
  have hb2 := hb1.trans hbn
  clear hr1 hb1 hbn
  go_wp2_with fail
  by_cases h2 : 12 + 6 ≤ s.size
  case neg =>
    refine (number_short b s 12 6 (by decide) (by decide) h2 (by omega) _ hr2).mono ?_
    rintro e w' ⟨rfl, hbs⟩
    exact ⟨rfl, rfl, hb2.trans (Only.of_below hbs)⟩
  refine (number_any b s 12 6 (by decide) (by decide) h2 (by omega) _ hr2).mono ?_
  rintro e w3 ⟨rfl, hr3, hbn⟩
  have hb3 := hb2.trans hbn
  clear hr2 hb2 hbn
  go_wp2_with fail
  by_cases h3 : 18 + 4 ≤ s.size
  case neg =>
    refine (number_short b s 18 4 (by decide) (by decide) h3 (by omega) _ hr3).mono ?_
    rintro e w' ⟨rfl, hbs⟩
    exact ⟨rfl, rfl, hb3.trans (Only.of_below hbs)⟩
  refine (number_any b s 18 4 (by decide) (by decide) h3 (by omega) _ hr3).mono ?_
  rintro e w4 ⟨rfl, hr4, hbn⟩
  have hb4 := hb3.trans hbn
  clear hr3 hb3 hbn
  go_wp2_with fail
  by_cases h4 : 22 + 32 ≤ s.size
  case neg =>
    refine (bytes_short b s 22 32 h4 (by decide) (by omega) (by decide) _ hr4).mono ?_
    rintro e w' ⟨rfl, hbs⟩
    exact ⟨rfl, rfl, hb4.trans (Only.of_below hbs)⟩
  refine (bytes_any b s 22 32 h4 (by omega) _ hr4).mono ?_
  rintro e w5 ⟨rfl, hr5, hbn⟩
  have hb5 := hb4.trans hbn
  clear hr4 hb4 hbn
  go_wp2_with fail
  refine (pkClone_any _ (by simp; omega) _).mono ?_
  rintro e w6 ⟨rfl, hbc⟩
  have hr6 := hr5.below hbc
  have hb6 := hb5.trans (Only.of_below hbc)
  clear hr5 hb5 hbc
  go_wp2_with fail
  refine (bytes_short b s 54 394 (by omega) (by decide) (by omega) (by decide) _ (hr6.below (below_newS _ _))).mono ?_
  rintro e w' ⟨rfl, hbs⟩
  exact ⟨rfl, rfl, (hb6.trans (Only.of_below (below_newS _ _))).trans (Only.of_below hbs)⟩
set_option maxHeartbeats 1000000 in
theorem takeSuper_full (b : Nat) (s : ByteArray) (hs : s.size = 448) (w : World) (h : Rd w b s 0) :
    Calls Tryz.prog 166 #[.pointer (some ⟨b, 0, none⟩)] w fun e w' => e = (if allZ (s.extract 54 448) = true then .returned (.agg (superCells s)) else .panicked (gave 5)) ∧ Only b w w' := by
  have hblt := h.lt
  have hr0 := h.below (below_newS w (.cells #[.int .i64 0, .int .i64 0, .int .i64 0, .int .i64 0, .string ⟨#[]⟩] 23))
  have hb0 : Only b w (w.alloc (.cells #[.int .i64 0, .int .i64 0, .int .i64 0, .int .i64 0, .string ⟨#[]⟩] 23)) := Only.of_below (below_newS w _)
  have hw0 : w.heap.size < (w.alloc (.cells #[.int .i64 0, .int .i64 0, .int .i64 0, .int .i64 0, .string ⟨#[]⟩] 23)).heap.size := by simp
  have g0 : (w.alloc (.cells #[.int .i64 0, .int .i64 0, .int .i64 0, .int .i64 0, .string ⟨#[]⟩] 23)).heap[w.heap.size]? = some (.cells #[.int .i64 0, .int .i64 0, .int .i64 0, .int .i64 0, .string ⟨#[]⟩] 23 (0, 0)) := heap_alloc_new w _
  clear h
  go_enter Tryz.func166, Tryz.ntmps166
  go_wp2_with fail
  generalize w.alloc (.cells #[.int .i64 0, .int .i64 0, .int .i64 0, .int .i64 0, .string ⟨#[]⟩] 23) = w0 at *
  refine (number_any b s 0 6 (by decide) (by decide) (by omega) (by omega) _ hr0).mono ?_
  rintro e w1 ⟨rfl, hr1, hbn⟩
  have hb1 := hb0.trans hbn
  have g1 := (hbn.2 w.heap.size hw0 (by omega)).trans g0
  have hw1 := Nat.lt_of_lt_of_le hw0 hbn.size
  clear hr0 hb0 hbn g0 hw0
  go_wp2_with fail
  refine (number_any b s 6 6 (by decide) (by decide) (by omega) (by omega) _ hr1).mono ?_
  rintro e w2 ⟨rfl, hr2, hbn⟩
  have hb2 := hb1.trans hbn
  have g2 := (hbn.2 w.heap.size hw1 (by omega)).trans g1
  have hw2 := Nat.lt_of_lt_of_le hw1 hbn.size
  clear hr1 hb1 hbn g1 hw1
  go_wp2_with fail
  refine (number_any b s 12 6 (by decide) (by decide) (by omega) (by omega) _ hr2).mono ?_
  rintro e w3 ⟨rfl, hr3, hbn⟩
  have hb3 := hb2.trans hbn
  have g3 := (hbn.2 w.heap.size hw2 (by omega)).trans g2
  have hw3 := Nat.lt_of_lt_of_le hw2 hbn.size
  clear hr2 hb2 hbn g2 hw2
  go_wp2_with fail
  refine (number_any b s 18 4 (by decide) (by decide) (by omega) (by omega) _ hr3).mono ?_
  rintro e w4 ⟨rfl, hr4, hbn⟩
  have hb4 := hb3.trans hbn
  have g4 := (hbn.2 w.heap.size hw3 (by omega)).trans g3
  have hw4 := Nat.lt_of_lt_of_le hw3 hbn.size
  clear hr3 hb3 hbn g3 hw3
  go_wp2_with fail
  refine (bytes_any b s 22 32 (by omega) (by omega) _ hr4).mono ?_
  rintro e w5 ⟨rfl, hr5, hbn⟩
  have hb5 := hb4.trans hbn
  have g5 := (hbn.2 w.heap.size hw4 (by omega)).trans g4
  have hw5 := Nat.lt_of_lt_of_le hw4 hbn.size
  clear hr4 hb4 hbn g4 hw4
  go_wp2_with fail
  refine (pkClone_any _ (by simp; omega) _).mono ?_
  rintro e w6 ⟨rfl, hbc⟩
  have hr6 := hr5.below hbc
  have hb6 := hb5.trans (Only.of_below hbc)
  have g6 := (hbc.block w.heap.size hw5).trans g5
  have hw6 := Nat.lt_of_lt_of_le hw5 hbc.size
  clear hr5 hb5 hbc g5 hw5
  go_wp2_with fail
  refine (bytes_any b s 54 394 (by omega) (by omega) _ (hr6.below (below_newS _ _))).mono ?_
  rintro e w10 ⟨rfl, hr10, hbn⟩
  have hb10 := (hb6.trans (Only.of_below (below_newS _ _))).trans hbn
  have g0' := (hbn.2 w.heap.size (by simp; omega) (by omega)).trans (show _ = some (Obj.cells #[.int .i64 0, .int .i64 0, .int .i64 0, .int .i64 0, .string ⟨#[]⟩] 23 (0, 0)) from by rw [Below.heap_alloc _ _ _ (by omega)]; exact g6)
  have g1' := (hbn.2 w6.heap.size (by simp) (by have := hr6.lt; omega)).trans (heap_alloc_new w6 _)
  clear hr6 hb6 hbn g6
  go_wp2_with fail
  refine (isZero_any (s.extract 54 448) (by unfold maxLen; simp; omega) _).mono ?_
  rintro e w11 ⟨rfl, hbz⟩
  have hb11 := hb10.trans (Only.of_below hbz)
  have g0 := (hbz.block w.heap.size (lt_of_block g0')).trans g0'
  have g1 := (hbz.block w6.heap.size (lt_of_block g1')).trans g1'
  clear hr10 hb10 hbz g0' g1'
  go_wp2_with fail
  by_cases hz : allZ (s.extract 54 448) = true
  case neg =>
    rw [Bool.eq_false_iff.2 hz]
    refine (must_no b _).mono ?_
    rintro e w' ⟨rfl, rfl⟩
    exact ⟨rfl, by rw [if_neg hz], hb11⟩
  rw [hz]
  refine (must_yes b _).mono ?_
  rintro e w' ⟨rfl, rfl⟩
  have g1 : w'.heap[w6.heap.size]? = some (Obj.cells (superCells s) 23 (0, 0)) := g1
  go_wp2_with (first | refine wpList_load_row rfl 23 _ rfl w6.heap.size rfl 23 _ (0, 0) _ g1 Tryz.underlying23 rfl (by kernel_rfl) ?_ | refine wpList_store_row rfl 23 _ _ rfl w.heap.size (superCells s) rfl rfl 23 _ g0 (by kernel_rfl) rfl (superCells_one s) ?_)
  exact bodyPost_ret (v := .agg (superCells s)) (results_cell_row Tryz.results166 _ _ w.heap.size 23 _ (0, 0) _ rfl (setRow_heap _ _ _ _ _ _ g0) Tryz.underlying23 rfl (by kernel_rfl)) rfl ⟨rfl, hb11.setRowS (Nat.le_refl _) _⟩
end Go.Proofs.YtoopaigpjefonaaGreatDoor

namespace Go.Proofs.YtoopaigpjefonaaGreatDoor
set_option maxRecDepth 20000
open Go.RowKit

set_option maxRecDepth 10000 in
theorem catch_gaveS (p : Addr) (x y : Int) (w : World) (hc : w.cell? p = some (.int .i64 x)) (hz : w.frozen? p = false) :
    CallsD Tryz.prog 183 #[.pointer (some p)] (.panicking (gave y)) w fun e u' w' =>
      e = .returned (.tuple #[]) ∧ settle u' = .returning ∧ w' = (w.alloc (.cells #[.int .i64 y] 281)).setCell p (.int .i64 y) := by
  have hn := block_lt_of_cell hc
  have hz' : ∀ o, (w.alloc o).frozen? p = false := fun o => by
    have hb := (below_newS w o).block p.block hn
    simpa [World.frozen?, hb] using hz
  have hta : ∀ (v : Value) (it : TypeId) (w : World), (Instr.typeAssert (.iface 281 v) it 281 true).run Tryz.prog w = .ok (.tuple #[v, .bool true]) w := fun _ _ _ => rfl
  refine callsD_of_wpS Tryz.func183 rfl fun c₀ cs hu => ?_
  apply wpS_seq
  generalize hK : Exit.thenS _ _ = K
  apply wpS_region
  simp [wpOpsS, go_sem, recoverD, hu, gave, Tryz.ntmps183]
  subst hK
  refine wpS_of_wp (a := { tmps := #[.pointer (some p), .iface 281 (.agg #[.int .i64 y]), undef, undef, .iface 281 (.agg #[.int .i64 y]), undef, undef, undef, undef, undef, undef, undef, undef, undef, undef, undef, undef], defers := [] }) ?_
  go_wp2
  exact ⟨rfl, _, rfl, _, by simp [results, Tryz.results183], rfl, rfl, rfl⟩
theorem catch_idleS (p : Addr) (w : World) :
    CallsD Tryz.prog 183 #[.pointer (some p)] .returning w fun e u' w' => e = .returned (.tuple #[]) ∧ u' = .returning ∧ w' = w := by
  refine callsD_of_wpS Tryz.func183 rfl fun c₀ cs hu => ?_
  apply wpS_seq
  generalize hK : Exit.thenS _ _ = K
  apply wpS_region
  simp [wpOpsS, go_sem, recoverD, hu, Tryz.ntmps183]
  subst hK
  refine wpS_of_wp (a := { tmps := #[.pointer (some p), .nilIface, undef, undef, .nilIface, undef, undef, undef, undef, undef, undef, undef, undef, undef, undef, undef, undef], defers := [] }) ?_
  go_wp2
  cases c₀
  simp_all [bodyPostS, results, Tryz.results183]
theorem read_longS (s : ByteArray) (n : Nat) (hs : n < s.size) (w : World) :
    Calls Tryz.prog 165 #[.string s, .int .i64 n, .func (.func 166) #[] #[]] w fun e w' => e = .returned (.tuple #[.agg #[.int .i64 0, .int .i64 0, .int .i64 0, .int .i64 0, .string ⟨#[]⟩], .int .i64 4]) ∧ Below w.heap.size w w' := by
  have hmf : ∀ (fn : Fn) (first cap : Array Value) (w : World), (Instr.makeFunc fn first cap).run Tryz.prog w = .ok (.func fn first cap) w := fun _ _ _ _ => rfl
  go_enter_defers Tryz.func165, Tryz.ntmps165
  go_wp2
  refine leaves_cons (f := 183) (args := #[.pointer (some ⟨w.heap.size + 1, 0, none⟩)]) (by simp) (by simp [go_sem]) ?_
  refine (catch_idleS ⟨w.heap.size + 1, 0, none⟩ _).mono ?_
  rintro e u' w'' ⟨rfl, rfl, rfl⟩
  simp [Leaves, settle, results, Tryz.results165, go_sem]
  exact ((Below.refl _ _).alloc (Nat.le_refl _) _).alloc (by simp) _

theorem read_resultsS (tmps : Array Value) (w : World) (g : Nat) (cs : Array Value) (y : Int) (h6 : tmps.getD 6 undef = .pointer (some ⟨g, 0, none⟩)) (h7 : tmps.getD 7 undef = .pointer (some ⟨g + 1, 0, none⟩))
    (hg : w.heap[g]? = some (.cells cs 23 (0, 0))) (hs : cs.size = 5) (hc : w.cell? ⟨g + 1, 0, none⟩ = some (.int .i64 y)) :
    (results Tryz.f165 tmps).run Tryz.prog w = .ok (.tuple #[.agg cs, .int .i64 y]) w := by
  have hr := run_loadVar_row (P := Tryz.prog) w g 23 23 cs (0, 0) _ hg Tryz.underlying23 rfl (by rw [hs]; kernel_rfl)
  have h2 : (loadVar 32 ⟨g + 1, 0, none⟩).run Tryz.prog w = .ok (.int .i64 y) w := by simp [hc, go_sem]
  simp at h6 h7
  simp [results, Tryz.results165, h6, h7, asAddr, hr, h2]

theorem read_panicsS (s : ByteArray) (hs : s.size ≤ 448) (y : Int) (hT : ∀ (w : World) (b : Nat), Rd w b s 0 → Calls Tryz.prog 166 #[.pointer (some ⟨b, 0, none⟩)] w fun e w' => e = .panicked (gave y) ∧ Only b w w') (w : World) :
    Calls Tryz.prog 165 #[.string s, .int .i64 448, .func (.func 166) #[] #[]] w fun e w' => e = .returned (.tuple #[.agg #[.int .i64 0, .int .i64 0, .int .i64 0, .int .i64 0, .string ⟨#[]⟩], .int .i64 y]) ∧ Below w.heap.size w w' := by
  have hmf : ∀ (fn : Fn) (first cap : Array Value) (w : World), (Instr.makeFunc fn first cap).run Tryz.prog w = .ok (.func fn first cap) w := fun _ _ _ _ => rfl
  have i1 : ¬ (448 : Int) < s.size := by omega
  go_enter_defers Tryz.func165, Tryz.ntmps165
  go_wp2_with fail
  have hb0 : Below w.heap.size w (((w.alloc (.cells #[.int .i64 0, .int .i64 0, .int .i64 0, .int .i64 0, .string ⟨#[]⟩] 23)).alloc (.cells #[.int .i64 0] 32)).alloc (.cells #[.string s, .int .i64 0] 285)) := (((Below.refl _ _).alloc (Nat.le_refl _) _).alloc (by simp) _).alloc (by simp; omega) _
  have hR : Rd (((w.alloc (.cells #[.int .i64 0, .int .i64 0, .int .i64 0, .int .i64 0, .string ⟨#[]⟩] 23)).alloc (.cells #[.int .i64 0] 32)).alloc (.cells #[.string s, .int .i64 0] 285)) (w.heap.size + 1 + 1) s 0 := by
    have := heap_alloc_new ((w.alloc (.cells #[.int .i64 0, .int .i64 0, .int .i64 0, .int .i64 0, .string ⟨#[]⟩] 23)).alloc (.cells #[.int .i64 0] 32)) (.cells #[.string s, .int .i64 0] 285)
    simpa [Rd] using this
  have g0 : (((w.alloc (.cells #[.int .i64 0, .int .i64 0, .int .i64 0, .int .i64 0, .string ⟨#[]⟩] 23)).alloc (.cells #[.int .i64 0] 32)).alloc (.cells #[.string s, .int .i64 0] 285)).heap[w.heap.size]? = some (.cells #[.int .i64 0, .int .i64 0, .int .i64 0, .int .i64 0, .string ⟨#[]⟩] 23 (0, 0)) :=
    (Below.heap_alloc _ _ _ (by simp; omega)).trans (heap_alloc2_old w _ _)
  have g1 : (((w.alloc (.cells #[.int .i64 0, .int .i64 0, .int .i64 0, .int .i64 0, .string ⟨#[]⟩] 23)).alloc (.cells #[.int .i64 0] 32)).alloc (.cells #[.string s, .int .i64 0] 285)).heap[w.heap.size + 1]? = some (.cells #[.int .i64 0] 32 (0, 0)) :=
    (Below.heap_alloc _ _ _ (by simp)).trans (heap_alloc2_new w _ _)
  generalize ((w.alloc (.cells #[.int .i64 0, .int .i64 0, .int .i64 0, .int .i64 0, .string ⟨#[]⟩] 23)).alloc (.cells #[.int .i64 0] 32)).alloc (.cells #[.string s, .int .i64 0] 285) = w0 at *
  refine (hT _ _ hR).mono ?_
  rintro e w1 ⟨rfl, hb1⟩
  have hl := hR.lt
  have k0 := (hb1.2 w.heap.size (by omega) (by omega)).trans g0
  have k1 := (hb1.2 (w.heap.size + 1) (by omega) (by omega)).trans g1
  have hl1 := lt_of_block k1
  have hbw : Below w.heap.size w w1 := hb0.trans ((hb1.below (by omega)).mono (by omega))
  clear hT hmf hR hb0 hb1 g0 g1
  refine leaves_cons (f := 183) (args := #[.pointer (some ⟨w.heap.size + 1, 0, none⟩)]) (by simp) (by simp [go_sem]) ?_
  refine (catch_gaveS ⟨w.heap.size + 1, 0, none⟩ 0 y w1 (by simp [World.cell?, k1]) (by simp [World.frozen?, k1])).mono ?_
  rintro e u' w2 ⟨rfl, hu, rfl⟩
  have c0 : ((w1.alloc (.cells #[.int .i64 y] 281)).setCell ⟨w.heap.size + 1, 0, none⟩ (.int .i64 y)).heap[w.heap.size]? = some (.cells #[.int .i64 0, .int .i64 0, .int .i64 0, .int .i64 0, .string ⟨#[]⟩] 23 (0, 0)) :=
    (Below.heap_setCell _ _ _ _ (by simp)).trans ((Below.heap_alloc _ _ _ (by omega)).trans k0)
  have c1 := heap_setCell_same (w1.alloc (.cells #[.int .i64 y] 281)) (w.heap.size + 1) 0 _ _ (.int .i64 y) ((Below.heap_alloc _ _ _ (by omega)).trans k1)
  show Leaves _ _ _ _ _ (settle u') _
  rw [hu]
  exact ⟨_, read_resultsS _ _ w.heap.size _ y rfl rfl c0 rfl (by simp [World.cell?, c1]), rfl, (hbw.alloc (by omega) _).setCell (p := ⟨w.heap.size + 1, 0, none⟩) (by simp) _⟩
end Go.Proofs.YtoopaigpjefonaaGreatDoor

namespace Go.Proofs.YtoopaigpjefonaaGreatDoor
set_option maxRecDepth 20000
open Go.RowKit

theorem read_returnsS (s : ByteArray) (hs : s.size ≤ 448) (hT : ∀ (w : World) (b : Nat), Rd w b s 0 → Calls Tryz.prog 166 #[.pointer (some ⟨b, 0, none⟩)] w fun e w' => e = .returned (.agg (superCells s)) ∧ Only b w w') (w : World) :
    Calls Tryz.prog 165 #[.string s, .int .i64 448, .func (.func 166) #[] #[]] w fun e w' => e = .returned (.tuple #[.agg (superCells s), .int .i64 0]) ∧ Below w.heap.size w w' := by
  have hmf : ∀ (fn : Fn) (first cap : Array Value) (w : World), (Instr.makeFunc fn first cap).run Tryz.prog w = .ok (.func fn first cap) w := fun _ _ _ _ => rfl
  have i1 : ¬ (448 : Int) < s.size := by omega
  go_enter_defers Tryz.func165, Tryz.ntmps165
  go_wp2_with fail
  have hb0 : Below w.heap.size w (((w.alloc (.cells #[.int .i64 0, .int .i64 0, .int .i64 0, .int .i64 0, .string ⟨#[]⟩] 23)).alloc (.cells #[.int .i64 0] 32)).alloc (.cells #[.string s, .int .i64 0] 285)) := (((Below.refl _ _).alloc (Nat.le_refl _) _).alloc (by simp) _).alloc (by simp; omega) _
  have hR : Rd (((w.alloc (.cells #[.int .i64 0, .int .i64 0, .int .i64 0, .int .i64 0, .string ⟨#[]⟩] 23)).alloc (.cells #[.int .i64 0] 32)).alloc (.cells #[.string s, .int .i64 0] 285)) (w.heap.size + 1 + 1) s 0 := by
    have := heap_alloc_new ((w.alloc (.cells #[.int .i64 0, .int .i64 0, .int .i64 0, .int .i64 0, .string ⟨#[]⟩] 23)).alloc (.cells #[.int .i64 0] 32)) (.cells #[.string s, .int .i64 0] 285)
    simpa [Rd] using this
  have g0 : (((w.alloc (.cells #[.int .i64 0, .int .i64 0, .int .i64 0, .int .i64 0, .string ⟨#[]⟩] 23)).alloc (.cells #[.int .i64 0] 32)).alloc (.cells #[.string s, .int .i64 0] 285)).heap[w.heap.size]? = some (.cells #[.int .i64 0, .int .i64 0, .int .i64 0, .int .i64 0, .string ⟨#[]⟩] 23 (0, 0)) :=
    (Below.heap_alloc _ _ _ (by simp; omega)).trans (heap_alloc2_old w _ _)
  have g1 : (((w.alloc (.cells #[.int .i64 0, .int .i64 0, .int .i64 0, .int .i64 0, .string ⟨#[]⟩] 23)).alloc (.cells #[.int .i64 0] 32)).alloc (.cells #[.string s, .int .i64 0] 285)).heap[w.heap.size + 1]? = some (.cells #[.int .i64 0] 32 (0, 0)) :=
    (Below.heap_alloc _ _ _ (by simp)).trans (heap_alloc2_new w _ _)
  generalize ((w.alloc (.cells #[.int .i64 0, .int .i64 0, .int .i64 0, .int .i64 0, .string ⟨#[]⟩] 23)).alloc (.cells #[.int .i64 0] 32)).alloc (.cells #[.string s, .int .i64 0] 285) = w0 at *
  refine (hT _ _ hR).mono ?_
  rintro e w1 ⟨rfl, hb1⟩
  have hl := hR.lt
  have k0 := (hb1.2 w.heap.size (by omega) (by omega)).trans g0
  have k1 := (hb1.2 (w.heap.size + 1) (by omega) (by omega)).trans g1
  have hl1 := lt_of_block k1
  have hbw : Below w.heap.size w w1 := hb0.trans ((hb1.below (by omega)).mono (by omega))
  have c0 := setRow_heap w1 w.heap.size _ (superCells s) _ _ k0
  have c1 := (setRow_other w1 w.heap.size (w.heap.size + 1) (superCells s) (by omega)).trans k1
  have c2 : (w1.setRow w.heap.size (superCells s)).cell? ⟨w.heap.size + 1, 0, none⟩ = some (.int .i64 0) := by simp [World.cell?, c1]
  have c3 : (w1.setRow w.heap.size (superCells s)).frozen? ⟨w.heap.size + 1, 0, none⟩ = false := by simp [World.frozen?, c1]
  have hbr : Below w.heap.size w (w1.setRow w.heap.size (superCells s)) := hbw.trans ⟨rfl, rfl, rfl, by simp [World.setRow], fun k hk => setRow_other _ _ _ _ (by omega)⟩
  clear hT hmf hR hb0 hb1 g0 g1
  go_wp2_with (refine wpList_store_row rfl 23 _ _ rfl w.heap.size (superCells s) rfl rfl 23 _ k0 (by kernel_rfl) rfl (superCells_one s) ?_)
  refine leaves_cons (f := 183) (args := #[.pointer (some ⟨w.heap.size + 1, 0, none⟩)]) (by simp) (by simp [go_sem]) ?_
  refine (catch_idleS ⟨w.heap.size + 1, 0, none⟩ _).mono ?_
  rintro e u' w2 ⟨rfl, rfl, rfl⟩
  have d1 := heap_setCell_same (w1.setRow w.heap.size (superCells s)) (w.heap.size + 1) 0 _ _ (.int .i64 0) c1
  exact ⟨_, read_resultsS _ _ w.heap.size _ 0 rfl rfl ((Below.heap_setCell _ _ _ _ (by simp)).trans c0) rfl (by simp [World.cell?, d1]), rfl, hbr.setCell (p := ⟨w.heap.size + 1, 0, none⟩) (by simp) _⟩

/-- The error that a text is as a superblock. -/
def superOE (s : ByteArray) : Int :=
  if 448 < s.size then 4 else if s.size < 448 then 3 else if allZ (s.extract 54 448) = true then 0 else 5
/-- A superblock's number of a text. -/
def superON (s : ByteArray) (a k : Nat) : Int := if superOE s = 0 then leVal ((s.data.toList.drop a).take k) else 0
def superOR (s : ByteArray) : ByteArray := if superOE s = 0 then s.extract 22 54 else ⟨#[]⟩
def superOC (s : ByteArray) : Array Value := #[.int .i64 (superON s 0 6), .int .i64 (superON s 6 6), .int .i64 (superON s 12 6), .int .i64 (superON s 18 4), .string (superOR s)]
theorem superOC_one (s : ByteArray) : (superOC s).all (·.oneCell') = true := by simp [superOC, Value.oneCell']
theorem superOC_no {s : ByteArray} (h : ¬ superOE s = 0) : superOC s = #[.int .i64 0, .int .i64 0, .int .i64 0, .int .i64 0, .string ⟨#[]⟩] := by simp [superOC, superON, superOR, h]
theorem superOC_yes {s : ByteArray} (h : superOE s = 0) : superOC s = superCells s := by simp [superOC, superON, superOR, superCells, h]

theorem readSuper_any (s : ByteArray) (w : World) :
    Calls Tryz.prog 165 #[.string s, .int .i64 448, .func (.func 166) #[] #[]] w fun e w' => e = .returned (.tuple #[.agg (superOC s), .int .i64 (superOE s)]) ∧ Below w.heap.size w w' := by
  by_cases h1 : 448 < s.size
  · have he : superOE s = 4 := by simp [superOE, h1]
    rw [superOC_no (by rw [he]; decide), he]
    exact read_longS s 448 h1 w
  by_cases h2 : s.size < 448
  · have he : superOE s = 3 := by simp [superOE, h1, h2]
    rw [superOC_no (by rw [he]; decide), he]
    exact read_panicsS s (by omega) 3 (fun w b h => takeSuper_short b s h2 w h) w
  by_cases h4 : allZ (s.extract 54 448) = true
  case neg =>
    have he : superOE s = 5 := by rw [superOE, if_neg h1, if_neg h2, if_neg h4]
    rw [superOC_no (by rw [he]; decide), he]
    exact read_panicsS s (by omega) 5 (fun w b h => by simpa only [if_neg h4] using takeSuper_full b s (by omega) w h) w
  have he : superOE s = 0 := by rw [superOE, if_neg h1, if_neg h2, if_pos h4]
  rw [superOC_yes he, he]
  exact read_returnsS s (by omega) (fun w b h => by simpa only [if_pos h4] using takeSuper_full b s (by omega) w h) w

theorem superOf_any (s : ByteArray) (w : World) :
    Calls Tryz.prog 138 #[.string s] w fun e w' => e = .returned (.tuple #[.agg (superOC s), .int .i64 (superOE s)]) ∧ Below w.heap.size w w' := by
  have hmf : ∀ (fn : Fn) (first cap : Array Value) (w : World), (Instr.makeFunc fn first cap).run Tryz.prog w = .ok (.func fn first cap) w := fun _ _ _ _ => rfl
  go_enter Tryz.func138, Tryz.ntmps138
  go_wp2_with fail
  refine (readSuper_any s _).mono ?_
  rintro e w1 ⟨rfl, hb1⟩
  have g0 := (hb1.block w.heap.size (by simp)).trans (heap_alloc_new w _)
  have hbw : Below w.heap.size w w1 := (below_newS w _).trans (hb1.mono (by simp))
  clear hb1
  go_wp2_with (refine wpList_store_row rfl 23 _ _ rfl w.heap.size (superOC s) rfl rfl 23 _ g0 (by kernel_rfl) rfl (superOC_one s) ?_)
  have hr := run_loadVar_row (P := Tryz.prog) (w1.setRow w.heap.size (superOC s)) w.heap.size 23 23 (superOC s) (0, 0) _ (setRow_heap _ _ _ _ _ _ g0) Tryz.underlying23 rfl (by kernel_rfl)
  exact bodyPost_ret (v := .tuple #[.agg (superOC s), .int .i64 (superOE s)]) (by simp [results, Tryz.results138, asAddr, hr]) rfl ⟨rfl, hbw.trans ⟨rfl, rfl, rfl, by simp [World.setRow], fun k hk => setRow_other _ _ _ _ (by omega)⟩⟩
end Go.Proofs.YtoopaigpjefonaaGreatDoor
