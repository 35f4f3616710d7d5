/- slices.Grow of nothing, slices.Concat of two lists of numbers; slices.Sort and slices.Compact of a list that is owned. -/
import Derived.Test.YtcmbphppeobhfabCtSort
import Derived.Test.YtcmbphppeobhfabCtInts
import Derived.Test.YtcmbphppeobhfabCtBoth
import Derived.Lib.OwnBridge
import Derived.Sort.OwnSortedInts
import Derived.Laws.AppendOwnNone
import Derived.Room.Entries
namespace Go.Proofs.Ytcmbphppeobhfab
set_option maxRecDepth 20000
open Go.RowKit

theorem grow_0 (w : World) : Calls Try.prog 36 #[.slice none 0 0, .int .i64 0] w fun e w' => e = .returned (.slice none 0 0) ∧ w' = w := by
  go_enter Try.func36, Try.ntmps36
  go_wp2
  go_ret
  exact ⟨rfl, rfl⟩
theorem conc_make (k : Nat) (h : k ≤ 4000000) (w : World) : (Instr.makeSlice 22 (.int .i64 (k : Int)) (.int .i64 (k : Int))).run Try.prog w = .ok (.slice (some ⟨w.heap.size, 0, none⟩) k k) (w.alloc (.cells (madeCells #[.int .i64 0] k) 3)) :=
  run_make_row' (P := Try.prog) 22 3 (.int .i64 0) 8 Try.underlying22 ct_info_int rfl .i64 .i64 k (by omega) (by omega) w
set_option maxHeartbeats 1000000 in
theorem grow_any (k : Nat) (h0 : 0 < k) (h : k ≤ 4000000) (w : World) : Calls Try.prog 36 #[.slice none 0 0, .int .i64 (k : Int)] w fun e w' => ∃ g cap, e = .returned (.slice (some ⟨g, 0, none⟩) 0 cap) ∧ IZ w' w.heap.size (.slice (some ⟨g, 0, none⟩) 0 cap) [] ∧ Below w.heap.size w w' := by
  obtain ⟨i0, hi0, hz0, hz1, hz2⟩ := info_parts ct_info_int
  have hm := conc_make k h
  have k0 : (0 : Int) < k := by omega
  have k1 : ¬ (k : Int) < 0 := by omega
  have tb : Try.t3.bytes = 8 := by kernel_rfl
  have kb : ¬ 281474976710656 < (k : Int) * 8 := by omega
  have kz : ¬ k = 0 := by omega
  have nb : ¬ 281474976710656 < Builtin.nextslicecap k 0 * 8 := by
    have := Room.nextslicecap_le' h0
    omega
  have km : (k : Int) ≤ 9223372036854775807 := by omega
  obtain ⟨c, hc⟩ : ∃ c, c = grownCap w k 0 3 := ⟨_, rfl⟩
  have HC : Hid (k ≤ c ∧ c ≤ maxLen) := by rw [hc]; exact ⟨grownCap_ge _ _ _ _, grownCap_le_maxLen _ _ _ _ (by unfold maxLen; omega)⟩
  have hc' : (Question.appendCap k 0 3).cut (w.tape w.drawn (Question.appendCap k 0 3)) = c := hc.symm
  clear hc
  go_enter Try.func36, Try.ntmps36
  go_wp2_with fail
  go_ret
  refine ⟨_, _, rfl, ⟨rfl, .inr ⟨w.heap.size, c, _, rfl, Nat.le_refl _, heap_alloc_new w _, Nat.zero_le _, HC.out.2, ?_, ?_⟩⟩, ct_drewN ((Below.refl _ _).alloc (Nat.le_refl _) _) 1⟩
  · have := HC.out.1
    simp [Builtin.zeroCells]
    omega
  · rfl
theorem grow_all (k : Nat) (h : k ≤ 4000000) (w : World) : Calls Try.prog 36 #[.slice none 0 0, .int .i64 (k : Int)] w fun e w' => ∃ oa cap, e = .returned (.slice oa 0 cap) ∧ IZ w' w.heap.size (.slice oa 0 cap) [] ∧ Below w.heap.size w w' := by
  by_cases h0 : k = 0
  · subst h0
    exact (grow_0 w).mono fun e w' ⟨he, hw⟩ => ⟨_, _, he, IZ.nil _ _, by rw [hw]; exact Below.refl _ _⟩
  · exact (grow_any k (by omega) h w).mono fun e w' ⟨g, cap, he, hi, hb⟩ => ⟨_, _, he, hi, hb⟩
theorem sort_own (w : World) (base : Nat) (v : Value) (l : List Int) (h : IZ w base v l) (hl : l.length ≤ 4000000) :
    Calls Try.prog 25 #[v] w fun e w' => e = .returned (.tuple #[]) ∧ IZ w' base v (l.mergeSort fun x y => decide (x ≤ y)) ∧ Below base w w' := by
  rcases h.2 with ⟨e, h0⟩ | ⟨g, cap, cur, e, hb, hg, h1, h2, h3, h4⟩
  · subst e
    obtain rfl := List.eq_nil_of_length_eq_zero h0
    refine (ct_slices_Sort_int_none none 0 w).mono fun e w' ⟨he, hw⟩ => ⟨he, ?_, ?_⟩
    · rw [hw, List.mergeSort_nil]; exact IZ.nil _ _
    · rw [hw]; exact Below.refl _ _
  · subst e
    have hH := Go.holds_of_blockI (ss := l) hg (by rw [Nat.mul_one] at h4; exact h4)
    refine (ct_slices_Sort_int g 0 cap l w hH (lt_of_block hg) (by omega)).mono fun e w' ⟨he, n, os, hw⟩ => ⟨he, ?_, ?_⟩
    · rw [hw]
      have hml : (l.mergeSort fun x y => decide (x ≤ y)).length = l.length := List.length_mergeSort _
      unfold IZ
      rw [hml]
      exact Go.ownsRow_sortedI (base := base) (os := os) (n := n) (ss := l) hml hb hg h1 h2 h3
    · rw [hw]
      exact (Below.refl base w).grown (Go.grownBy_sortedI _) (Nat.le_trans hb (Nat.le_of_lt (lt_of_block hg))) (fun k hk => by cases hk; exact hb)
theorem compact_own (w : World) (base : Nat) (v : Value) (l : List Int) (h : IZ w base v l) (hl : l.length ≤ 4000000) :
    Calls Try.prog 27 #[v] w fun e w' => ∃ v', e = .returned v' ∧ IZ w' base v' (Lib.compact l) ∧ Below base w w' := by
  rcases h.2 with ⟨e, h0⟩ | ⟨g, cap, cur, e, hb, hg, h1, h2, h3, h4⟩
  · subst e
    obtain rfl := List.eq_nil_of_length_eq_zero h0
    refine (ct_slices_Compact_int_empty none 0 w).mono fun e w' ⟨he, hw⟩ => ⟨_, he, ?_, ?_⟩
    · rw [hw]; exact IZ.nil _ _
    · rw [hw]; exact Below.refl _ _
  · subst e
    have hH := Go.holds_of_blockI (ss := l) hg (by rw [Nat.mul_one] at h4; exact h4)
    refine (ct_slices_Compact_int g 0 cap l w hH (by omega) h1).mono fun e w' ⟨he, q, hw⟩ => ⟨_, he, ?_, ?_⟩
    · rw [hw]
      have hcl : (Lib.compact l).length ≤ l.length := by
        unfold Lib.compact Lib.compactUpTo
        rw [List.length_map]
        exact Nat.le_trans (List.length_filter_le _ _) (by simp)
      have := Lib.ownsRow_putRow (q := q) (k := (Lib.compact l).length) (ys := Lib.compact l ++ List.replicate (l.length - (Lib.compact l).length) 0) h (by simp; omega) hcl
      rw [List.take_left' rfl] at this
      exact this
    · rw [hw]
      exact Lib.below_putRow (Below.refl _ _) hb
/-- What is nil has no place. -/
def NilOk (v : Value) : Prop := ∀ len cap, v = .slice none len cap → cap = 0
theorem List1.news {W : World} {ad : Addr} {len cap : Nat} {l : List Int} (h : List1 (Value.int .i64) W (.slice (some ad) len cap) l) : ∀ j u, (intZ l)[j]? = some u → W.cell? (ad.add j) = some u := fun j u hu => by
  rcases h with ⟨oa', cap', e, rfl⟩ | ⟨g, o, cap', e, hg, hx⟩
  · simp [intZ] at hu
  · simp only [Value.slice.injEq, Option.some.injEq] at e
    obtain ⟨rfl, _, _⟩ := e
    unfold intZ at hu
    rw [List.getElem?_map, Option.map_eq_some_iff] at hu
    obtain ⟨x, hx1, rfl⟩ := hu
    have hadd : (⟨g, o, none⟩ : Addr).add j = ⟨g, o + j, none⟩ := by unfold Addr.add; split <;> simp_all
    rw [hadd]
    exact hx j x hx1
theorem List1.nil_of_none {W : World} {len cap : Nat} {l : List Int} (h : List1 (Value.int .i64) W (.slice none len cap) l) : len = 0 ∧ l = [] := by
  rcases h with ⟨oa', cap', e, rfl⟩ | ⟨g, o, cap', e, hg, hx⟩
  · simp only [Value.slice.injEq] at e; exact ⟨e.2.1, rfl⟩
  · simp at e
theorem intZ_one (l : List Int) : ∀ u ∈ intZ l, u.oneCell' = true := fun u hu => by
  unfold intZ at hu
  obtain ⟨x, _, rfl⟩ := List.mem_map.1 hu
  rfl
def cL (a b : List Int) : Nat → List Int
  | 0 => []
  | 1 => a
  | _ => a ++ b
def cN (la lb : Nat) : Nat → Nat
  | 0 => 0
  | 1 => la
  | _ => la + lb
set_option maxHeartbeats 2000000 in
theorem concat_any (w : World) (va vb : Value) (a b : List Int) (B : Nat) (ha : List1 (Value.int .i64) w va a) (hb : List1 (Value.int .i64) w vb b) (hB : w.heap[B]? = some (.cells #[va, vb] 22 (0, 0))) (hla : a.length ≤ 1000000) (hlb : b.length ≤ 1000000) (hna : NilOk va) (hnb : NilOk vb) :
    Calls Try.prog 24 #[.slice (some ⟨B, 0, none⟩) 2 2] w fun e w' => ∃ v, e = .returned v ∧ IZ w' w.heap.size v (a ++ b) ∧ Below w.heap.size w w' := by
  obtain ⟨i0, hi0, hz0, hz1, hz2⟩ := info_parts ct_info_int
  obtain ⟨oa, ca, rfl⟩ := ha.form
  obtain ⟨ob, cb, rfl⟩ := hb.form
  have HV : Hid (List1 (Value.int .i64) w (.slice oa a.length ca) a ∧ List1 (Value.int .i64) w (.slice ob b.length cb) b ∧ (oa = none → ca = 0) ∧ (ob = none → cb = 0)) := ⟨ha, hb, fun e => hna _ _ (by rw [e]), fun e => hnb _ _ (by rw [e])⟩
  have hB0 : w.cell? ⟨B, 0, none⟩ = some (.slice oa a.length ca) := by rw [World.cell?]; simp [hB]
  have hB1 : w.cell? ⟨B, 1, none⟩ = some (.slice ob b.length cb) := by rw [World.cell?]; simp [hB]
  have HBl : Hid (B < w.heap.size) := lt_of_block hB
  clear ha hb hB hna hnb
  obtain ⟨la, hla'⟩ : ∃ la, la = a.length := ⟨_, rfl⟩
  obtain ⟨lb, hlb'⟩ : ∃ lb, lb = b.length := ⟨_, rfl⟩
  have HE : Hid (la = a.length ∧ lb = b.length) := ⟨hla', hlb'⟩
  rw [← hla'] at hla hB0
  rw [← hlb'] at hlb hB1
  clear hla' hlb'
  have HC : Hid (∀ wr, Below w.heap.size w wr → wr.cell? ⟨B, 0, none⟩ = some (.slice oa la ca) ∧ wr.cell? ⟨B, 1, none⟩ = some (.slice ob lb cb)) := fun wr h => ⟨(cell_kept_1 (h.block B HBl.out) 0).trans hB0, (cell_kept_1 (h.block B HBl.out) 1).trans hB1⟩
  go_enter Try.func24, Try.ntmps24
  go_wp2_with fail
  go_loopw [3, 11] (fun sv iv wr => wr = w ∧ ((iv = .int .i64 0 ∧ sv = .int .i64 0) ∨ (iv = .int .i64 1 ∧ sv = .int .i64 (la : Int)) ∨ (iv = .int .i64 2 ∧ sv = .int .i64 ((la + lb : Nat) : Int)))) (fun _ iv _ => 2 - (intOf iv).toNat)
  case atStart => exact ⟨rfl, .inl ⟨rfl, rfl⟩⟩
  case round =>
    obtain ⟨hw, hrel⟩ := hrel
    have hw' := hw.symm
    subst hw'
    rcases hrel with ⟨rfl, rfl⟩ | ⟨rfl, rfl⟩ | ⟨rfl, rfl⟩
    · have z : ¬ (la : Int) < 0 := by omega
      go_wp2
      go_roundw
      case rel => exact ⟨trivial, .inr (.inl ⟨rfl, by go_num⟩)⟩
      case measure => simp [intOf]
    · have z : ¬ (la : Int) + (lb : Int) < 0 := by omega
      go_wp2
      go_roundw
      case rel => exact ⟨trivial, .inr (.inr ⟨rfl, by go_num⟩)⟩
      case measure => simp [intOf]
    · have hgr := grow_all (la + lb) (by omega) w
      rw [show ((la + lb : Nat) : Int) = (la : Int) + (lb : Int) by omega] at hgr
      go_wp2_with fail
      refine hgr.mono ?_
      rintro e w1 ⟨og, cg, rfl, hg1, hb1⟩
      have H1 : Hid (IZ w1 w.heap.size (.slice og 0 cg) [] ∧ Below w.heap.size w w1) := ⟨hg1, hb1⟩
      have hB0 := (HC.out w1 hb1).1
      have hB1 := (HC.out w1 hb1).2
      clear hgr hg1 hb1
      go_wp2_with fail
      go_loopw [6, 27] (fun pv iv wr => ∃ (j : Nat) (ad : Option Addr) (c : Nat), j ≤ 2 ∧ iv = .int .i64 (j : Int) ∧ pv = .slice ad (cN la lb j) c ∧ IZ wr w.heap.size pv (cL a b j) ∧ Below w.heap.size w wr) (fun _ iv _ => 2 - (intOf iv).toNat)
      case atStart => exact ⟨0, og, cg, by omega, rfl, rfl, H1.out⟩
      case round =>
        clear H1 hB0 hB1
        obtain ⟨j, ad, c, hj, rfl, rfl, hown, hb⟩ := hrel
        have HB : Hid (IZ wr w.heap.size (.slice ad (cN la lb j) c) (cL a b j) ∧ Below w.heap.size w wr) := ⟨hown, hb⟩
        have hLl : (cL a b j).length = cN la lb j := by have := HE.out; unfold cL cN; rcases j with _ | _ | j <;> simp <;> omega
        have hcells := HC.out wr hb
        have hbs := hb.size
        unfold IZ at hown
        rw [hLl] at hown
        by_cases hlt : j < 2
        · have HS : Hid (∃ x : List Int, ∃ ox cx lx, wr.cell? ⟨B, j, none⟩ = some (.slice ox lx cx) ∧ lx = x.length ∧ List1 (Value.int .i64) wr (.slice ox lx cx) x ∧ (ox = none → cx = 0) ∧ cL a b (j + 1) = cL a b j ++ x ∧ cN la lb (j + 1) = cN la lb j + lx ∧ lx ≤ 1000000) := by
            rcases (show j = 0 ∨ j = 1 by omega) with rfl | rfl
            · exact ⟨a, oa, ca, la, hcells.1, HE.out.1, by rw [HE.out.1]; exact HV.out.1.below hb, HV.out.2.2.1, by simp [cL], by simp [cN], hla⟩
            · exact ⟨b, ob, cb, lb, hcells.2, HE.out.2, by rw [HE.out.2]; exact HV.out.2.1.below hb, HV.out.2.2.2, rfl, rfl, hlb⟩
          obtain ⟨x, ox, cx, lx, hcell, hlx, hx, hnil, hcL, hcN, hlx2⟩ := HS.out
          have hn3 : cN la lb j ≤ 3000000 := by unfold cN; split <;> omega
          have j1 : (j : Int) < 2 := by omega
          have HX : Hid (lx = x.length ∧ cL a b (j + 1) = cL a b j ++ x ∧ cN la lb (j + 1) = cN la lb j + lx) := ⟨hlx, hcL, hcN⟩
          clear hlx hcL hcN HS hcells HC HV hb
          generalize cL a b j = L at *
          generalize cN la lb j = n at *
          rcases ox with _ | ad2
          · obtain ⟨hl0, hx0⟩ := hx.nil_of_none
            have hc0 := hnil rfl
            subst hl0 hx0 hc0
            have HF : Hid (IZ wr w.heap.size (.slice ad (cN la lb (j + 1)) c) (cL a b (j + 1)) ∧ Below w.heap.size w wr ∧ cN la lb (j + 1) = n) := by
              rw [HX.out.2.1, HX.out.2.2, List.append_nil]
              exact ⟨HB.out.1, HB.out.2, rfl⟩
            clear hx hnil
            go_wp2_with (first | (at_builtin; (refine wpList_append_own_none rfl _ _ 22 rfl w.heap.size 3 i0 1 Try.underlying22 hi0 (.slice ad n c) n (intZ L) rfl hown rfl ?_)))
            go_wp2
            go_roundw
            case rel => exact ⟨j + 1, ad, c, by omega, by go_num, by rw [HF.out.2.2], by rw [← HF.out.2.2]; exact HF.out.1, HF.out.2.1⟩
            case measure => simp [intOf]; omega
          · have hnews := hx.news
            have hnl : (intZ x).length = lx * 1 := by rw [intZ_length, ← HX.out.1, Nat.mul_one]
            clear hx hnil
            go_wp2_with (first | (at_builtin; (refine wpList_append_own _ rfl _ _ 22 rfl w.heap.size 3 i0 (.int .i64 0) 1 8 Try.underlying22 hi0 hz0 hz1 hz2 rfl (by decide) (.slice ad n c) n (intZ L) rfl hown ad2 lx cx (intZ x) rfl hnl hnews (intZ_one _) (by unfold maxLen; omega) (by omega) (by omega) ?_)))
            intro v1 wB hown1 hgrow1 _
            have hTB : Below w.heap.size w wB := HB.out.2.grown hgrow1 (by omega) fun k hk => (hown.lt k hk).1
            obtain ⟨ad1, cap1, rfl⟩ : ∃ ad1 cap1, v1 = .slice ad1 (n + lx) cap1 := by
              rcases hown1.2 with ⟨e, h0⟩ | ⟨g1, c1, cur, e, _⟩
              · exact ⟨none, 0, by rw [e, h0]⟩
              · exact ⟨_, c1, e⟩
            have HF : Hid (IZ wB w.heap.size (.slice ad1 (n + lx) cap1) (cL a b (j + 1)) ∧ Below w.heap.size w wB) := by
              unfold IZ
              rw [HX.out.2.1, intZ_append, List.length_append, hLl, ← HX.out.1]
              exact ⟨hown1, hTB⟩
            clear hown hown1 hgrow1 hTB hnews hnl
            go_wp2
            go_roundw
            case rel => exact ⟨j + 1, ad1, cap1, by omega, by go_num, by rw [HX.out.2.2], HF.out⟩
            case measure => simp [intOf]; omega
        · obtain rfl : j = 2 := by omega
          have HF : Hid (IZ wr w.heap.size (.slice ad (cN la lb 2) c) (a ++ b) ∧ Below w.heap.size w wr) := HB.out
          generalize cN la lb 2 = n at *
          clear hown hb hcells
          go_wp2
          go_ret
          exact ⟨_, rfl, HF.out⟩
end Go.Proofs.Ytcmbphppeobhfab
