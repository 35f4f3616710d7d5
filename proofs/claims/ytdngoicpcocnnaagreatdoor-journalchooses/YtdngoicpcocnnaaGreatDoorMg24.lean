/- block's Look, at an image that lies in memory and any vault that is told. · pack.Super, called with any superblock, tells the bytes superS and the error superE, and changes nothing that was there. · strings.Clone, called with any text of at most 4096 bytes, tells the text, and changes nothing that was there. -/
import Derived.Test.YtdngoicpcocnnaaGreatDoorMg14
import Derived.Test.YtdngoicpcocnnaaGreatDoorMg23
import Derived.Test.YtdngoicpcocnnaaGreatDoorMg11
import Derived.Test.YtdngoicpcocnnaaGreatDoorMg02
import Derived.Lib.BufferWrite
import Derived.Lib.UnsafeStr
namespace Go.Proofs.YtdngoicpcocnnaaGreatDoor
set_option maxRecDepth 20000
open Go.RowKit

theorem apart_cell {w : World} {e : TypeId} {n g cap i : Nat} {xs : List Value} {u : Value} (h : w.ownsRow 0 e 1 (.slice (some ⟨g, 0, none⟩) n cap) n xs) (hi : xs[i]? = some u) : w.cell? ⟨g, i, none⟩ = some u := by
  obtain ⟨g', cap', e', _, hc⟩ := owns_form h (by have := (List.getElem?_eq_some_iff.1 hi).1; have := h.1; omega)
  cases e'
  exact hc i u hi
theorem list1_of_owns {α : Type} {f : α → Value} {w : World} {e : TypeId} {v : Value} {l : List α} (h : w.ownsRow 0 e 1 v l.length (l.map f)) : List1 f w v l := by
  rcases h.2 with ⟨rfl, hn⟩ | ⟨g, cap, cur, rfl, _, hg, _⟩
  · exact .inl ⟨none, 0, rfl, List.length_eq_zero_iff.1 hn⟩
  · exact .inr ⟨g, 0, cap, rfl, lt_of_block hg, fun i x hx => by rw [Nat.zero_add]; exact (apart_cell h (by rw [List.getElem?_map, hx]; rfl))⟩
theorem List1.below {α : Type} {f : α → Value} {W W' : World} {v : Value} {l : List α} (h : List1 f W v l) (hb : Below W.heap.size W W') : List1 f W' v l := by
  rcases h with h | ⟨g, o, cap, e, hg, hx⟩
  · exact .inl h
  · exact .inr ⟨g, o, cap, e, Nat.lt_of_lt_of_le hg hb.size, fun i x hi => (World.cell?_of_block (a := ⟨g, o + i, none⟩) (hb.block g hg)).trans (hx i x hi)⟩
def lookK (K : VK) (T : K.σ) (raws : List ByteArray) (masks : List Int) (a : Int) : Array Value := if atM raws masks a = 0 then toldK K T (atS raws masks a) a else noneA
theorem look_ret (tmps : Array Value) (g : Nat) (w' : World) (cs : Array Value) (R : Ending → World → Prop) (h1 : tmps.getD 6 undef = .pointer (some ⟨g, 0, none⟩)) (hg : w'.heap[g]? = some (.cells cs 81 (0, 0))) (hs : cs.size = 10) (hR : R (.returned (.agg cs)) w') :
    bodyPost Tryz.prog Tryz.f80 R .ret { tmps := tmps, defers := [] } w' :=
  bodyPost_ret (v := .agg cs) (results_cell_row Tryz.results80 tmps w' g 81 cs (0, 0) _ h1 hg Tryz.underlying81 rfl (by rw [hs]; kernel_rfl)) rfl hR
set_option maxHeartbeats 4000000 in
theorem klook_any (K : VK) (HK : VKOk K) (F : Nat → Prop) (T : K.σ) (hl : K.room T 0) (oa ob : Option Addr) (ca cb : Nat) (raws : List ByteArray) (masks : List Int) (a : Int) (w : World) (hp : K.lies w F T) (h1 : List1 Value.string w (.slice oa raws.length ca) raws) (h2 : List1 (Value.int .i64) w (.slice ob masks.length cb) masks) :
    Calls Tryz.prog 80 #[K.v, .agg #[.slice oa raws.length ca, .slice ob masks.length cb], .int .i64 a] w fun e w' => e = .returned (.agg (lookK K T raws masks a)) ∧ Below w.heap.size w w' := by
  obtain ⟨w0, hw0⟩ : ∃ w0, (w.alloc (.cells #[.slice oa raws.length ca, .slice ob masks.length cb] 60)).alloc (.cells #[.bool false, .int .i64 0, .int .i64 0, .int .i64 0, .int .i64 0, .int .i64 0, .int .i64 0, .int .i64 0, .int .i64 0, .string ⟨#[]⟩] 81) = w0 := ⟨_, rfl⟩
  have e1 : (w.alloc (.cells #[.slice oa raws.length ca, .slice ob masks.length cb] 60)).heap.size = w.heap.size + 1 := by simp
  have g0 : w0.heap[w.heap.size + 1]? = some (.cells #[.bool false, .int .i64 0, .int .i64 0, .int .i64 0, .int .i64 0, .int .i64 0, .int .i64 0, .int .i64 0, .int .i64 0, .string ⟨#[]⟩] 81 (0, 0)) := by rw [← hw0, ← e1]; exact heap_alloc_new _ _
  have r0 : Row w0 w.heap.size 60 [.slice oa raws.length ca, .slice ob masks.length cb] := by rw [← hw0]; exact (Below.heap_alloc _ _ _ (by rw [e1]; omega)).trans (heap_alloc_new w _)
  have hb0 : Below w.heap.size w w0 := by rw [← hw0]; exact ((Below.refl _ _).alloc (Nat.le_refl _) _).alloc (by rw [e1]; omega) _
  have hat := at_any w0 oa ob ca cb raws masks a (h1.below hb0) (h2.below hb0)
  have c0 : w0.cell? ⟨w.heap.size, 0, none⟩ = some (.slice oa raws.length ca) := r0.cell 0
  have c1 : w0.cell? ⟨w.heap.size, 1, none⟩ = some (.slice ob masks.length cb) := r0.cell 1
  have HL : Hid (lookK K T raws masks a = if atM raws masks a = 0 then toldK K T (atS raws masks a) a else noneA) := rfl
  have H0 : Hid (Below w.heap.size w w0 ∧ K.lies w0 F T) := ⟨hb0, HK.below hp hb0⟩
  have hW0 : Hid ((w.alloc (.cells #[.slice oa raws.length ca, .slice ob masks.length cb] 60)).alloc (.cells #[.bool false, .int .i64 0, .int .i64 0, .int .i64 0, .int .i64 0, .int .i64 0, .int .i64 0, .int .i64 0, .int .i64 0, .string ⟨#[]⟩] 81) = w0) := hw0
  have HR : Hid (∀ w' cs, Below w.heap.size w w' → Below w.heap.size w (w'.setRow (w.heap.size + 1) cs)) := fun w' cs h => h.trans ⟨rfl, rfl, rfl, by simp [World.setRow], fun k hk => setRow_other _ _ _ _ (by omega)⟩
  generalize atS raws masks a = r at *
  generalize atM raws masks a = m at *
  generalize lookK K T raws masks a = A at *
  generalize raws.length = rl at *
  generalize masks.length = ml at *
  clear h1 h2 hp hb0 r0 e1 hw0
  by_cases hm : m = 0
  · rw [Hid, if_pos hm] at HL
    subst hm
    have htold := fun w h => HK.told F T r a w hl h
    simp only [toldK] at htold
    have hto := toldK_ok K T r a
    rw [← HL] at hto
    have HT : Hid ((if K.oE T r = 0 ∧ (K.oH T r).v1 = a then readA true (K.oH T r) (K.oS T r) else noneA) = A) := HL.symm
    simp only [HT.out] at htold
    obtain ⟨hA, hA1⟩ := hto
    clear HL HT
    go_enter Tryz.func80, Tryz.ntmps80
    go_wp2_with fail
    try rw [hW0.out]
    refine hat.mono ?_
    rintro e w1 ⟨rfl, hb1⟩
    have g1 := (hb1.block _ (lt_of_block g0)).trans g0
    have H1 : Hid (Below w.heap.size w w1 ∧ K.lies w1 F T) := ⟨H0.out.1.trans (hb1.mono H0.out.1.size), HK.below H0.out.2 hb1⟩
    clear hat hb1 g0 c0 c1 hW0
    go_wp2_with fail
    refine (htold _ H1.out.2).mono ?_
    rintro e w2 ⟨rfl, hb2⟩
    have g2 := (hb2.block _ (lt_of_block g1)).trans g1
    have HF : Hid _ := HR.out w2 A (H1.out.1.trans (hb2.mono H1.out.1.size))
    clear htold hb2 g1 HR
    go_wp2_with (refine wpList_store_row rfl 81 _ _ rfl (w.heap.size + 1) A rfl rfl 81 _ g2 (by rw [hA]; kernel_rfl) (by rw [hA]; rfl) hA1 ?_)
    exact look_ret _ (w.heap.size + 1) _ A _ rfl (setRow_heap _ _ _ _ _ _ g2) hA ⟨rfl, HF.out⟩
  · rw [Hid, if_neg hm] at HL
    subst HL
    simp only [noneA, readA, Hd.zero]
    have hm1 : (m != 0) = true := bne_iff_ne.2 hm
    go_enter Tryz.func80, Tryz.ntmps80
    go_wp2_with fail
    try rw [hW0.out]
    refine hat.mono ?_
    rintro e w1 ⟨rfl, hb1⟩
    have g1 := (hb1.block _ (lt_of_block g0)).trans g0
    have HF : Hid _ := HR.out w1 #[.bool false, .int .i64 0, .int .i64 0, .int .i64 0, .int .i64 0, .int .i64 0, .int .i64 0, .int .i64 0, .int .i64 0, .string ⟨#[]⟩] (H0.out.1.trans (hb1.mono H0.out.1.size))
    clear hat hb1 g0 c0 c1 hW0 HR
    go_wp2_with (refine wpList_store_row rfl 81 _ _ rfl (w.heap.size + 1) #[.bool false, .int .i64 0, .int .i64 0, .int .i64 0, .int .i64 0, .int .i64 0, .int .i64 0, .int .i64 0, .int .i64 0, .string ⟨#[]⟩] rfl rfl 81 _ g1 (by kernel_rfl) rfl (by simp [Value.oneCell']) ?_)
    exact look_ret _ (w.heap.size + 1) _ _ _ rfl (setRow_heap _ _ _ _ _ _ g1) rfl ⟨rfl, HF.out⟩
end Go.Proofs.YtdngoicpcocnnaaGreatDoor

namespace Go.Proofs.YtdngoicpcocnnaaGreatDoor
set_option maxRecDepth 20000
open Go.RowKit Go.Lib

theorem super_arg (a0 a1 a2 a3 : Int) (r : ByteArray) (h : ((r.size : Int) != 32) = true) (w : World) :
    Calls Tryz.prog 68 #[.agg #[.int .i64 a0, .int .i64 a1, .int .i64 a2, .int .i64 a3, .string r]] w fun e w' => e = .returned (.tuple #[.string ByteArray.empty, .int .i64 1]) ∧ Below w.heap.size w w' := by
  go_enter Tryz.func68, Tryz.ntmps68
  go_wp2
  go_ret2
  exact ⟨rfl, (Below.refl _ _).alloc (Nat.le_refl _) _⟩

set_option maxHeartbeats 1000000 in
theorem super_in (a0 a1 a2 a3 : Int) (r : ByteArray) (hr : r.size = 32) (w : World) :
    Calls Tryz.prog 68 #[.agg #[.int .i64 a0, .int .i64 a1, .int .i64 a2, .int .i64 a3, .string r]] w fun e w' => e = .returned (.tuple #[.string (superS a0 a1 a2 a3 r), .int .i64 (superE a0 a1 a2 a3 r)]) ∧ Below w.heap.size w w' := by
  have hrb : ((r.size : Int) != 32) = false := by rw [hr]; rfl
  have HR : Hid (r.size = 32) := hr
  clear hr
  go_enter Tryz.func68, Tryz.ntmps68
  go_wp2_with fail
  have hwr := wr_new (w.alloc (.cells #[.int .i64 a0, .int .i64 a1, .int .i64 a2, .int .i64 a3, .string r] 33)) (w.heap.size + 1) (by simp)
  have HC : Hid (∀ i (v : Value), (#[.int .i64 a0, .int .i64 a1, .int .i64 a2, .int .i64 a3, .string r] : Array Value)[i]? = some v → ((w.alloc (.cells #[.int .i64 a0, .int .i64 a1, .int .i64 a2, .int .i64 a3, .string r] 33)).alloc (.cells #[.slice none 0 0, .int .i64 0] 175)).cell? ⟨w.heap.size, i, none⟩ = some v) := cells_boxed w _ _ _
  have hb0 : Below w.heap.size w ((w.alloc (.cells #[.int .i64 a0, .int .i64 a1, .int .i64 a2, .int .i64 a3, .string r] 33)).alloc (.cells #[.slice none 0 0, .int .i64 0] 175)) := ((Below.refl _ _).alloc (Nat.le_refl _) _).alloc (by simp) _
  have c1 := HC.out 0 (.int .i64 a0) rfl
  generalize (w.alloc (.cells #[.int .i64 a0, .int .i64 a1, .int .i64 a2, .int .i64 a3, .string r] 33)).alloc (.cells #[.slice none 0 0, .int .i64 0] 175) = w1 at *
  have hb1 : Below (w.heap.size + 1) w1 w1 := Below.refl _ _
  have HC1 : Hid (∀ i (v : Value), (#[.int .i64 a0, .int .i64 a1, .int .i64 a2, .int .i64 a3, .string r] : Array Value)[i]? = some v → w1.cell? ⟨w.heap.size, i, none⟩ = some v) := HC
  clear HC
  have hw1 : Wr w1 175 5 (w.heap.size + 1) ([] ++ laidL []) (errL 0 []) := hwr
  clear hwr
  refine (wnumberP (w.heap.size + 1) [] [] [(a0, 6)] a0 6 rfl _ hw1 (by simp)).mono ?_
  rintro en w2 ⟨rfl, hw2, hbn⟩
  have hb2 := hb1.trans hbn
  clear hw1 hb1 hbn c1
  have c2 := (hb2.cell (p := ⟨w.heap.size, 1, none⟩) (by show w.heap.size < w.heap.size + 1; omega)).trans (HC1.out 1 (.int .i64 a1) rfl)
  go_wp2_with fail
  refine (wnumberP (w.heap.size + 1) [] [(a0, 6)] [(a0, 6), (a1, 6)] a1 6 rfl _ hw2 (by simp)).mono ?_
  rintro en w3 ⟨rfl, hw3, hbn⟩
  have hb3 := hb2.trans hbn
  clear hw2 hb2 hbn c2
  have c3 := (hb3.cell (p := ⟨w.heap.size, 2, none⟩) (by show w.heap.size < w.heap.size + 1; omega)).trans (HC1.out 2 (.int .i64 a2) rfl)
  go_wp2_with fail
  refine (wnumberP (w.heap.size + 1) [] [(a0, 6), (a1, 6)] [(a0, 6), (a1, 6), (a2, 6)] a2 6 rfl _ hw3 (by simp)).mono ?_
  rintro en w4 ⟨rfl, hw4, hbn⟩
  have hb4 := hb3.trans hbn
  clear hw3 hb3 hbn c3
  have c4 := (hb4.cell (p := ⟨w.heap.size, 3, none⟩) (by show w.heap.size < w.heap.size + 1; omega)).trans (HC1.out 3 (.int .i64 a3) rfl)
  go_wp2_with fail
  refine (wnumberP (w.heap.size + 1) [] [(a0, 6), (a1, 6), (a2, 6)] [(a0, 6), (a1, 6), (a2, 6), (a3, 4)] a3 4 rfl _ hw4 (by simp)).mono ?_
  rintro en w5 ⟨rfl, hw5, hbn⟩
  have hb5 := hb4.trans hbn
  clear hw4 hb4 hbn c4
  have c5 := (hb5.cell (p := ⟨w.heap.size, 4, none⟩) (by show w.heap.size < w.heap.size + 1; omega)).trans (HC1.out 4 (.string r) rfl)
  go_wp2_with fail
  refine (wbytes_any (w.heap.size + 1) ([] ++ laidL (superPs a0 a1 a2 a3)) (errL 0 (superPs a0 a1 a2 a3)) r _ hw5 (by have := laidL_le (superPs a0 a1 a2 a3); rw [HR.out, List.nil_append]; simp [superPs] at this ⊢; omega)).mono ?_
  rintro en w6 ⟨rfl, hw6, hbn⟩
  have hb6 := hb5.trans hbn
  clear hw5 hb5 hbn c5
  rw [List.nil_append] at hw6
  have hb6' : Below w.heap.size w w6 := hb0.trans (hb6.mono (show w.heap.size ≤ w.heap.size + 1 by omega))
  clear hb6 hb0
  rw [errL_ok (superPs a0 a1 a2 a3) rfl] at hw6
  cases ho : laidOk (superPs a0 a1 a2 a3) with
  | false =>
    rw [ho, if_neg (by decide)] at hw6
    have HO : Hid (laidOk (superPs a0 a1 a2 a3) = false) := ho
    clear ho
    go_wp2_with fail
    refine (wrecord_no (w.heap.size + 1) _ 2 448 _ hw6 rfl).mono ?_
    rintro en w7 ⟨rfl, hb7⟩
    go_wp2
    go_ret2
    refine ⟨?_, hb6'.trans (hb7.mono hb6'.size)⟩
    unfold superS superE
    rw [if_neg (by rw [HO.out]; simp), if_pos HR.out, recE_no HO.out]
    rfl
  | true =>
    rw [ho, if_pos rfl] at hw6
    have HO : Hid (laidOk (superPs a0 a1 a2 a3) = true) := ho
    clear ho
    go_wp2_with fail
    have hl : (laidL (superPs a0 a1 a2 a3) ++ r.data.toList).length + 394 = 448 := by
      rw [List.length_append, laidL_length _ HO.out, show r.data.toList.length = r.size by simp, HR.out]; rfl
    refine (wrecord_fit (w.heap.size + 1) _ 448 394 (by decide) hl _ hw6).mono ?_
    clear hl
    rintro en w7 ⟨rfl, hb7⟩
    go_wp2
    go_ret2
    refine ⟨?_, hb6'.trans (hb7.mono hb6'.size)⟩
    unfold superS superE
    rw [if_pos ⟨HR.out, HO.out⟩, if_pos HR.out, recE_ok HO.out]
    rfl

theorem super_any (a0 a1 a2 a3 : Int) (r : ByteArray) (w : World) :
    Calls Tryz.prog 68 #[.agg #[.int .i64 a0, .int .i64 a1, .int .i64 a2, .int .i64 a3, .string r]] w fun e w' => e = .returned (.tuple #[.string (superS a0 a1 a2 a3 r), .int .i64 (superE a0 a1 a2 a3 r)]) ∧ Below w.heap.size w w' := by
  by_cases hr : r.size = 32
  · exact super_in a0 a1 a2 a3 r hr w
  · have e1 : superS a0 a1 a2 a3 r = ByteArray.empty := by unfold superS; rw [if_neg (fun h => hr h.1)]
    have e2 : superE a0 a1 a2 a3 r = 1 := by unfold superE; rw [if_neg hr]
    rw [e1, e2]
    exact super_arg a0 a1 a2 a3 r (by simp; omega) w
end Go.Proofs.YtdngoicpcocnnaaGreatDoor

namespace Go.Proofs.YtdngoicpcocnnaaGreatDoor
set_option maxRecDepth 20000
open Go.RowKit

theorem bytes_row {w : World} {g : Nat} {s : ByteArray} {Y : Array Value} {t : TypeId} (h : w.heap[g]? = some (.cells Y t (0, 0))) (hY : Y.toList = Lib.byteCells s.data.toList) (j : Nat) (x : UInt8) (hx : s.data.toList[j]? = some x) :
    w.cell? ((⟨g, 0, none⟩ : Addr).add j) = some (.int .u8 x.toNat) :=
  Lib.cells_of_row h Y.toList.length j _ (by rw [List.take_length, hY, Lib.byteCells, List.getElem?_map, hx]; rfl)

set_option maxHeartbeats 1000000 in
theorem pkSlClone_any (s : ByteArray) (hs : s.size ≤ 4096) (w : World) :
    Calls Tryz.prog 86 #[.string s] w fun e w' => e = .returned (.string s) ∧ Below w.heap.size w w' := by
  by_cases h0 : s.size = 0
  · obtain rfl : s = ByteArray.empty := by simpa using h0
    go_enter Tryz.func86, Tryz.ntmps86
    go_wp2
    go_ret
    exact ⟨rfl, Below.refl _ _⟩
  obtain ⟨i0, hi, hz0, hz1, hz2⟩ := info_parts info5
  have i1 : ¬ (s.size : Int) = 0 := by omega
  have i1' : ((s.size : Int) == 0) = false := by simpa using h0
  go_enter Tryz.func86, Tryz.ntmps86
  go_wp2_with (at_make; refine wpList_make_full _ rfl _ _ 92 rfl w.heap.size 5 i0 (.int .u8 0) 1 Tryz.underlying92 hi hz0 hz1 .i64 .i64 _ _ s.size rfl rfl rfl rfl ?c1 ?c2 (Nat.le_refl _) ?_)
  case c1 => first | omega | (rw [hz2]; omega)
  case c2 => unfold maxLen; omega
  intro w1 hown hgrow
  have hb1 : Below w.heap.size w w1 := (Below.refl _ _).grown hgrow (Nat.le_refl _) (fun k hk => by simp at hk)
  rcases hown.2 with ⟨h', _⟩ | ⟨g, cap, cur, h', _, hg, _, _, hsz, _⟩
  · simp at h'
  simp only [Value.slice.injEq, Option.some.injEq, Addr.mk.injEq, and_true, true_and] at h'
  obtain ⟨rfl, rfl⟩ := h'
  rw [Nat.mul_one] at hsz
  clear hown hgrow
  have hcp := Lib.run_copy_row_string (P := Tryz.prog) w1 92 9 3 5 w.heap.size 0 s.size s.size s cur 5 Tryz.underlying92 (by kernel_rfl) hg (Nat.le_refl _) (by omega)
  obtain ⟨Y, hY⟩ : ∃ Y, Y = (cur.toList.take 0 ++ Lib.byteCells s.data.toList ++ cur.toList.drop (0 + s.size)).toArray := ⟨_, rfl⟩
  rw [← hY] at hcp
  have hYl : Y.toList = Lib.byteCells s.data.toList := by
    rw [hY, List.toList_toArray, List.take_zero, List.nil_append, List.drop_of_length_le (by rw [Array.length_toList]; omega), List.append_nil]
  have hYs : Y.size = s.size := by rw [← Array.length_toList, hYl, Lib.byteCells_length, ← Lib.size_eq]
  have hgY := setRow_heap w1 w.heap.size cur Y 5 (0, 0) hg
  have hb2 : Below w.heap.size w (w1.setRow w.heap.size Y) := hb1.trans ⟨rfl, rfl, rfl, by simp [World.setRow], fun k hk => setRow_other _ _ _ _ (by omega)⟩
  have hus := Lib.run_unsafeString_row (P := Tryz.prog) (w1.setRow w.heap.size Y) 169 3 9 5 Tryz.underlying169 (by kernel_rfl) w.heap.size Y.size (by unfold World.shape?; rw [hgY]) s.data.toList (fun e => h0 (by rw [Lib.size_eq, e]; rfl)) (by rw [← Lib.size_eq]; omega) (by rw [← Lib.size_eq]; omega)
    (fun j x hx => bytes_row hgY hYl j x hx)
  rw [← Lib.size_eq] at hus
  clear hY hYl hgY hg
  go_wp2
  go_ret
  exact ⟨rfl, Lib.below_freeze hb2 (p := ⟨w.heap.size, 0, none⟩) (Nat.le_refl _) _⟩

theorem pkClone_any (s : ByteArray) (hs : s.size ≤ 4096) (w : World) :
    Calls Tryz.prog 52 #[.string s] w fun e w' => e = .returned (.string s) ∧ Below w.heap.size w w' := by
  go_enter Tryz.func52, Tryz.ntmps52
  go_wp2_with fail
  refine (pkSlClone_any s hs _).mono ?_
  rintro e w1 ⟨rfl, hb1⟩
  go_wp2
  go_ret
  exact ⟨rfl, hb1⟩
end Go.Proofs.YtdngoicpcocnnaaGreatDoor
