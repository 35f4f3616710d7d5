/- The document's Check, where its first question is answered. -/
import Derived.Test.YtgokehbdappcdaaDoorMg19
import Derived.Deep.AppendLies
namespace Go.Proofs.YtgokehbdappcdaaDoor
set_option maxRecDepth 20000
open Go.RowKit

theorem climb_size2 {h : ByteArray → ByteArray} (hh : ∀ x, (h x).size = 32) : ∀ (p : List Stp) (b : ByteArray), b.size = 32 → (climb h b p).size = 32
  | [], _, hb => hb
  | _ :: p, _, _ => climb_size2 hh p _ (hh _)
section
variable {R : World → Prop} {h : ByteArray → ByteArray} {B : Nat}
set_option maxHeartbeats 8000000 in
theorem rcheck_yes (Q : RV R h B) (hh : ∀ x, (h x).size = 32) (w : World) (top s : ByteArray) (n i : Nat) (oa : Option Addr) (c : Nat) (p : List Stp) (h1 : i < n) (h2 : n ≤ 32768) (h3 : ¬ top.size = 0) (hp : p.length ≤ 12) (hP : PathIn w (fun _ => False) oa p) (hs : s.size ≤ 1000) (hr : R w) :
    Calls Tryd.prog 13 #[.pointer (some ⟨B, 0, none⟩), .string top, .int .i64 (n : Int), .int .i64 (i : Int), .string s, .slice oa p.length c] w fun e w' => e = .returned (.bool (chkB h top n i s p)) ∧ Below w.heap.size w w' := by
  obtain ⟨i0, hi, hz0, hz1, hz2⟩ := info_parts tr_info_string
  have he : top.toList.isEmpty = false := by rw [empty_is]; simpa using h3
  have HR : Hid (∀ w', Below w.heap.size w w' → R w') := fun w' hb => Q.keep hr hb
  have HP : Hid (∀ w', Below w.heap.size w w' → PathIn w' (fun _ => False) oa p) := fun w' hb => hP.touch (Touch.of_below hb)
  have HBAD : Hid (∀ (k : Nat) (x : Stp), p[k]? = some x → ¬ (2 ≤ upK n k ∧ fitP x (upK n k) (iK i k)) → chkB h top n i s p = false) := fun k x hx hn => chk_bad hx hn
  have HEND : Hid (FitTo n i p p.length → chkB h top n i s p = (decide (upK n p.length = 1) && decide (h (rootT n (climb h (h (leafT s)) p)) = top))) := fun hf => chk_end h1 h2 h3 hf
  have hadd : ∀ w', (Op.stringOp .add ⟨#[0]⟩ s).run Tryd.prog w' = .ok (.string (leafT s)) w' := fun w' => run_string_add_sum (P := Tryd.prog) (w := w') ⟨#[0]⟩ s (by show 1 + s.size ≤ _; omega)
  have hcl := Q.call (leafT s) (by unfold leafT; rw [ByteArray.size_append]; show 1 + s.size ≤ _; omega) w hr
  have hzs := hh (leafT s)
  obtain ⟨b0, hb0⟩ : ∃ b0, b0 = h (leafT s) := ⟨_, rfl⟩
  have HB0 : Hid (b0 = h (leafT s)) := hb0
  rw [← hb0] at hcl hzs HEND
  generalize leafT s = ls at *
  obtain ⟨C, hC⟩ : ∃ C, C = chkB h top n i s p := ⟨_, rfl⟩
  rw [← hC] at HBAD HEND ⊢
  obtain ⟨pl, hpl⟩ : ∃ pl, pl = p.length := ⟨_, rfl⟩
  have HPL : Hid (pl = p.length) := hpl
  rw [← hpl] at hp ⊢
  have a1 : ¬ (i : Int) < 0 := by omega
  have a2 : ¬ (n : Int) ≤ i := by omega
  have a3 : (i : Int) < n := by omega
  have a4 : ¬ (32768 : Int) < n := by omega
  clear hr hP hb0 hC hpl
  go_enter Tryd.func13, Tryd.ntmps13
  go_wp2_with fail
  refine hcl.mono ?_
  rintro e w1 ⟨rfl, hb1⟩
  have HB1 : Hid (Below w.heap.size w w1) := hb1
  clear hcl hb1 hadd
  go_wp2_with fail
  go_loopw [13, 14, 15, 16] (fun hv av mv kv wr => ∃ k : Nat, k ≤ pl ∧ kv = .int .i64 (k : Int) ∧ av = .int .i64 (iK i k : Nat) ∧ mv = .int .i64 (upK n k : Nat) ∧ hv = .string (climb h b0 (p.take k)) ∧ FitTo n i p k ∧ Below w.heap.size w wr) (fun _ _ _ kv _ => pl - (intOf kv).toNat)
  case atStart => exact ⟨0, Nat.zero_le _, rfl, rfl, rfl, rfl, fun j s hj => absurd hj (Nat.not_lt_zero j), HB1.out⟩
  case round =>
    clear HB1
    obtain ⟨k, hk, rfl, rfl, rfl, rfl, hfit, hb⟩ := hrel
    have hax : iK i k < upK n k := iK_lt h1 k
    have hmx : upK n k ≤ n := upK_le n k
    have HNX : Hid (iK i k / 4 = iK i (k + 1) ∧ upN (upK n k) = upK n (k + 1)) := ⟨rfl, rfl⟩
    obtain ⟨a, ha⟩ : ∃ a, a = iK i k := ⟨_, rfl⟩
    obtain ⟨m, hm⟩ : ∃ m, m = upK n k := ⟨_, rfl⟩
    have HAM : Hid (a = iK i k ∧ m = upK n k) := ⟨ha, hm⟩
    rw [← ha, ← hm] at hax HNX
    rw [← hm] at hmx
    rw [← ha, ← hm]
    clear ha hm
    have hcz : (climb h b0 (p.take k)).size = 32 := climb_size2 hh _ _ hzs
    by_cases hlt : k < pl
    · have k1 : (k : Int) < pl := by omega
      obtain ⟨x, hx⟩ : ∃ x, p[k]? = some x := ⟨_, List.getElem?_eq_getElem (by rw [← HPL.out]; exact hlt)⟩
      obtain ⟨bk, o, rfl, hbk, _, c1, ob, cb, c2, q3, q4, q5, q6⟩ := HP.out wr hb k x hx
      have HX : Hid (p[k]? = some x ∧ climb h b0 (p.take (k + 1)) = h (nodeT (below x (climb h b0 (p.take k))))) := ⟨hx, by rw [List.take_add_one, hx]; show climb h b0 (p.take k ++ [x]) = _; rw [climb_append]; rfl⟩
      have HFT : Hid (FitTo n i p k) := hfit
      obtain ⟨hc, hhc⟩ : ∃ hc, hc = climb h b0 (p.take k) := ⟨_, rfl⟩
      rw [← hhc] at hcz HX ⊢
      have hsd : Sd wr ob x.sides := fun j y hy => by obtain ⟨b2, o2, e1, e2, _, e4⟩ := q6 j y hy; exact ⟨b2, o2, e1, e2, e4⟩
      have HSD : Hid (Sd wr ob x.sides) := hsd
      obtain ⟨xa, hxa⟩ : ∃ xa, xa = x.at_ := ⟨_, rfl⟩
      obtain ⟨sl, hsl⟩ : ∃ sl, sl = x.sides.length := ⟨_, rfl⟩
      have HXX : Hid (xa = x.at_ ∧ sl = x.sides.length) := ⟨hxa, hsl⟩
      rw [← hxa] at c1
      rw [← hsl] at c2 q3
      obtain ⟨r, hr⟩ : ∃ r : Nat, r = a % 4 := ⟨_, rfl⟩
      have n1 : ((a : Int).tmod 4) = r := by rw [Int.tmod_eq_emod_of_nonneg (by omega)]; omega
      have n2 : ((a : Int) % 4) = r := by omega
      have n3 : IntKind.i64.wrap (r : Int) = r := by rw [IntKind.wrap_i64]; omega
      obtain ⟨f, hf⟩ : ∃ f : Nat, f = 4 * (a / 4) := ⟨_, rfl⟩
      have n4 : IntKind.i64.wrap ((a : Int) - r) = f := by rw [IntKind.wrap_i64]; omega
      obtain ⟨z, hz⟩ : ∃ z : Nat, z = m - f := ⟨_, rfl⟩
      have n5 : IntKind.i64.wrap ((m : Int) - f) = z := by rw [IntKind.wrap_i64]; omega
      have HB : Hid (Below w.heap.size w wr) := hb
      have HRF : Hid (r = a % 4 ∧ f = 4 * (a / 4) ∧ z = m - f) := ⟨hr, hf, hz⟩
      clear hfit hb hx hhc hsd hxa hsl q6 hr hf hz
      --BODY
      obtain ⟨wx, hwx⟩ : ∃ wx, wr.alloc (.cells #[.int .i64 xa, .slice ob sl cb] 41) = wx := ⟨_, rfl⟩
      have gX : wx.heap[wr.heap.size]? = some (.cells #[.int .i64 xa, .slice ob sl cb] 41 (0, 0)) := by rw [← hwx]; exact heap_alloc_new wr _
      have hbx : Below wr.heap.size wr wx := by rw [← hwx]; exact (Below.refl _ _).alloc (Nat.le_refl _) _
      have hbX : Below w.heap.size w wx := HB.out.trans (hbx.mono HB.out.size)
      have HBX : Hid (Below w.heap.size w wx) := hbX
      have HSX : Hid (Sd wx ob x.sides) := fun j y hy => by obtain ⟨b2, o2, e1, e2, e4⟩ := HSD.out j y hy; exact ⟨b2, o2, e1, Nat.lt_of_lt_of_le e2 hbx.size, (hbx.cell (p := ⟨b2, o2 + j, none⟩) e2).trans e4⟩
      obtain ⟨q, hqd⟩ : ∃ q, q = fourN m a := ⟨_, rfl⟩
      have hq1 : q = min 4 z := by rw [hqd]; unfold fourN; rw [HRF.out.2.2, HRF.out.2.1]
      have hq0 : r < q := by have := HRF.out; omega
      have HFIT : Hid (¬ (2 ≤ m ∧ xa = (r : Int) ∧ sl = q - 1 ∧ ∀ y, y ∈ x.sides → y.size = 32) → C = false) := fun hn => HBAD.out k x HX.out.1 fun hh => hn (by
        rw [← HAM.out.1, ← HAM.out.2] at hh
        obtain ⟨g1, g2, g3, g4⟩ := hh
        exact ⟨g1, by rw [HXX.out.1, g2, HRF.out.1], by rw [HXX.out.2, g3, hqd], g4⟩)
      have HFS : Hid ((2 ≤ m ∧ xa = (r : Int) ∧ sl = q - 1 ∧ ∀ y, y ∈ x.sides → y.size = 32) → FitTo n i p (k + 1)) := fun hh j y hj hy => by
        by_cases e : j = k
        · subst e
          rw [HX.out.1] at hy
          obtain rfl := Option.some.inj hy
          obtain ⟨g1, g2, g3, g4⟩ := hh
          rw [← HAM.out.1, ← HAM.out.2]
          exact ⟨g1, by rw [← HXX.out.1, g2, HRF.out.1], by rw [← HXX.out.2, g3, hqd], g4⟩
        · exact HFT.out j y (by omega) hy
      have s1 : IntKind.i64.wrap ((z : Int) - 1) = ((z : Int) - 1) := by have := HRF.out; rw [IntKind.wrap_i64]; omega
      have s2 : IntKind.i64.wrap ((4 : Int) - 1) = 3 := by decide
      have cx0 : wx.cell? ⟨wr.heap.size, 0, none⟩ = some (.int .i64 xa) := cell_of_row _ _ _ _ _ _ gX
      have cx1 : wx.cell? ⟨wr.heap.size, 1, none⟩ = some (.slice ob sl cb) := cell_of_row _ _ _ _ _ _ gX
      have lX := lt_of_block gX
      have hZ : (4 < z ∧ q = 4) ∨ (¬ 4 < z ∧ q = z) := by omega
      have hz1' : 1 ≤ z := by omega
      have HZ0 : Hid (q = min 4 z ∧ q = fourN m a) := ⟨hq1, hqd⟩
      clear hqd hq1 hbx hbX gX
      by_cases hm2 : m < 2
      · have t1 : (m : Int) < 2 := by omega
        have hCf := HFIT.out fun hh => absurd hh.1 (by omega)
        subst hCf
        rcases hZ with ⟨z1, _⟩ | ⟨z1, _⟩
        case' inl => have z2 : (4 : Int) < z := by omega
        case' inr => have z2 : ¬ (4 : Int) < z := by omega
        all_goals
          clear HFIT HFS HBAD HEND
          go_wp2
          go_ret
          exact ⟨rfl, HBX.out⟩
      have t1 : ¬ (m : Int) < 2 := by omega
      by_cases hxr : xa = (r : Int)
      case neg =>
        have hCf := HFIT.out fun hh => hxr hh.2.1
        subst hCf
        rcases hZ with ⟨z1, _⟩ | ⟨z1, _⟩
        case' inl => have z2 : (4 : Int) < z := by omega
        case' inr => have z2 : ¬ (4 : Int) < z := by omega
        all_goals
          clear HFIT HFS HBAD HEND
          go_wp2
          go_ret
          exact ⟨rfl, HBX.out⟩
      subst hxr
      by_cases hsq : sl = q - 1
      case neg =>
        have hCf := HFIT.out fun hh => hsq hh.2.2.1
        subst hCf
        rcases hZ with ⟨z1, hq4⟩ | ⟨z1, hq4⟩
        case' inl =>
          have z2 : (4 : Int) < z := by omega
          have z3 : ¬ (sl : Int) = 3 := by omega
        case' inr =>
          have z2 : ¬ (4 : Int) < z := by omega
          have z3 : ¬ (sl : Int) = (z : Int) - 1 := by omega
        all_goals
          clear HFIT HFS HBAD HEND hq4
          go_wp2
          go_ret
          exact ⟨rfl, HBX.out⟩
      have HSQ : Hid (sl = q - 1) := hsq
      have hsl3 : sl ≤ 3 := by have := HZ0.out.1; omega
      have hrs : r ≤ sl := by omega
      obtain ⟨a4, ha4⟩ : ∃ a4, a4 = a / 4 := ⟨_, rfl⟩
      obtain ⟨m4, hm4⟩ : ∃ m4, m4 = upN m := ⟨_, rfl⟩
      have HA4 : Hid (a / 4 = a4) := ha4.symm
      have HM4 : Hid (upN m = m4) := hm4.symm
      have v1 : ((a : Int).tdiv 4) = a4 := by rw [Int.tdiv_eq_ediv_of_nonneg (by omega)]; omega
      have v2 : ((a : Int) / 4) = a4 := by omega
      have v3 : IntKind.i64.wrap (a4 : Int) = a4 := by rw [IntKind.wrap_i64]; omega
      have v4 : IntKind.i64.wrap ((m : Int) + 3) = (m : Int) + 3 := by rw [IntKind.wrap_i64]; omega
      have v5 : ((m : Int) + 3).tdiv 4 = m4 := by rw [Int.tdiv_eq_ediv_of_nonneg (by omega), hm4, upN]; omega
      have v6 : ((m : Int) + 3) / 4 = m4 := by rw [hm4, upN]; omega
      have v7 : IntKind.i64.wrap (m4 : Int) = m4 := by rw [IntKind.wrap_i64, hm4, upN]; omega
      have z4 : (4 < z ∧ (sl : Int) = 3) ∨ (¬ 4 < z ∧ (sl : Int) = (z : Int) - 1) := by omega
      clear ha4 hm4 hZ hsq
      rcases z4 with ⟨z1, z3⟩ | ⟨z1, z3⟩
      · have z2 : (4 : Int) < z := by omega
        go_wp2_with fail
        clear z3 s1 s2 hwx c1 c2 HSD
        generalize wr = wo at *
        go_loopw [19] (fun jv wr' => ∃ j : Nat, j ≤ sl ∧ jv = .int .i64 (j : Int) ∧ (∀ (t : Nat) (y : ByteArray), t < j → x.sides[t]? = some y → y.size = 32) ∧ wr' = wx) (fun jv _ => sl - (intOf jv).toNat)
        case atStart => exact ⟨0, Nat.zero_le _, rfl, fun t y ht => absurd ht (Nat.not_lt_zero t), rfl⟩
        case round =>
          obtain ⟨j, hj, rfl, h32, hwrx⟩ := hrel
          subst hwrx
          by_cases hlt2 : j < sl
          · have j1 : (j : Int) < sl := by omega
            have hjs : j < x.sides.length := by rw [← HXX.out.2]; exact hlt2
            obtain ⟨b2, o2, rfl, _, hcj⟩ := HSX.out j _ (List.getElem?_eq_getElem hjs)
            have H32 : Hid (∀ (t : Nat) (y : ByteArray), t < j → x.sides[t]? = some y → y.size = 32) := h32
            by_cases hy32 : (x.sides[j]).size = 32
            · have HF : Hid (∀ (t : Nat) (y : ByteArray), t < j + 1 → x.sides[t]? = some y → y.size = 32) := fun t y ht hy => by
                by_cases e : t = j
                · subst e
                  rw [List.getElem?_eq_getElem hjs] at hy
                  rw [← Option.some.inj hy]
                  exact hy32
                · exact H32.out t y (by omega) hy
              have y1 : ((x.sides[j]).size : Int) = 32 := by omega
              generalize x.sides[j] = y at *
              clear h32
              go_wp2
              go_roundw
              case rel => exact ⟨j + 1, by omega, by go_num, HF.out, trivial⟩
              case measure => simp [intOf]; omega
            · have hCf := HFIT.out fun hh => hy32 (hh.2.2.2 _ (List.getElem_mem hjs))
              subst hCf
              have y1 : ¬ ((x.sides[j]).size : Int) = 32 := by omega
              generalize x.sides[j] = y at *
              clear h32 HFIT HFS HBAD HEND
              go_wp2
              go_ret
              exact ⟨rfl, HBX.out⟩
          · obtain rfl : sl = j := by omega
            have j1 : ¬ (sl : Int) < sl := by omega
            have h32a : ∀ y, y ∈ x.sides → y.size = 32 := fun y hy => by
              obtain ⟨t, ht, e⟩ := List.mem_iff_getElem.1 hy
              exact h32 t y (by rw [HXX.out.2]; exact ht) (by rw [List.getElem?_eq_getElem ht, e])
            have HFS2 : Hid (FitTo n i p (k + 1)) := HFS.out ⟨by omega, trivial, HSQ.out, h32a⟩
            have hbl : (below x hc).length = sl + 1 := by rw [below_length]; have := HXX.out.2; omega
            have HNEXT : Hid (∀ w5 v5, w5.ownsRow wr.heap.size 9 1 v5 (sl + 1) ((below x hc).map Value.string) → Below w.heap.size w w5 → ∃ gg cap, v5 = .slice (some ⟨gg, 0, none⟩) (sl + 1) cap ∧ Calls Tryd.prog 32 #[.pointer (some ⟨B, 0, none⟩), .slice (some ⟨gg, 0, none⟩) (sl + 1) cap] w5 fun e w' => e = .returned (.string (h (nodeT (below x hc)))) ∧ Below w5.heap.size w5 w') := fun w5 v5 ho hb5 => by
              obtain ⟨gg, cap, e, hcap, hgl, hcell⟩ := owns_formG ho (by omega)
              refine ⟨gg, cap, e, ?_⟩
              have := tdfour_any Q w5 gg 0 cap (below x hc) (fun t y hy => by rw [Nat.zero_add]; exact hcell t _ (by rw [List.getElem?_map, hy]; rfl)) (by omega) (fun y hy => by have := below_sizes hcz h32a y hy; omega) (HR.out w5 hb5)
              rw [hbl] at this
              exact this
            have HBl : Hid (below x hc = x.sides.take r ++ hc :: x.sides.drop r) := by show _ = _; unfold below; rw [← HXX.out.1, Int.toNat_natCast]
            have hyl := HXX.out.2
            clear h32 h32a hbl HFIT HBAD HEND HFS HZ0 HSQ
            cases ob with
            | none =>
              obtain rfl : cb = 0 := q5 rfl
              have hj0 : sl = 0 := by omega
              have hr0 : r = 0 := by omega
              have hn1 : x.sides = [] := List.eq_nil_of_length_eq_zero (by omega)
              have HM1 : Hid ((below x hc).map Value.string = [.string hc] ∧ sl + 1 = 1) := ⟨by rw [HBl.out, hn1]; simp, by omega⟩
              clear hyl hn1
              subst hr0
              subst hj0
              rw [show ((0 : Nat) : Int) = 0 from rfl] at *
              obtain ⟨w2, hw2⟩ : ∃ w2, wr.alloc (.cells #[.string hc] 9) = w2 := ⟨_, rfl⟩
              have hown2 : w2.ownsRow wr.heap.size 9 1 (.slice none 0 0) 0 [] := World.ownsRow_nil _ _ _ _
              have hn2 : ∀ i u, ([.string hc] : List Value)[i]? = some u → w2.cell? ((⟨wr.heap.size, 0, none⟩ : Addr).add i) = some u := by rw [← hw2]; exact cell_one_new wr (.string hc) 9
              have ho2 : ∀ u ∈ ([.string hc] : List Value), u.oneCell' = true := by intro u hu; simp at hu; rw [hu]; rfl
              have hb2 : Below wr.heap.size wr w2 := by rw [← hw2]; exact (Below.refl _ _).alloc (Nat.le_refl _) _
              have HK : Hid (∀ ww, Below wr.heap.size wr ww → ww.cell? ⟨wo.heap.size, 0, none⟩ = some (.int .i64 0) ∧ ww.cell? ⟨wo.heap.size, 1, none⟩ = some (.slice none 0 0)) := fun ww hb => ⟨(cell_kept_2 (hb.block _ lX) 0).trans cx0, (cell_kept_2 (hb.block _ lX) 1).trans cx1⟩
              have HB2 : Hid (Below wr.heap.size wr w2) := hb2
              clear hb2 HBl
              go_wp2_with (at_builtin; first | (refine wpList_append_own_none rfl _ _ 22 rfl wr.heap.size 9 i0 1 Tryd.underlying22 hi (.slice none 0 0) 0 [] rfl (World.ownsRow_nil _ _ _ _) rfl ?_) | (refine wpList_append_own _ rfl _ _ 22 rfl wr.heap.size 9 i0 (.string ⟨#[]⟩) 1 16 Tryd.underlying22 hi hz0 hz1 hz2 rfl (by decide) (.slice none 0 0) 0 [] rfl hown2 ⟨wr.heap.size, 0, none⟩ 1 1 [.string hc] rfl rfl hn2 ho2 ?b2u1 ?b3u1 ?b4u1 ?_))
              case b2u1 => decide
              case b4u1 => exact HB2.out.size
              intro v3 w3 hown3 hgrow3 _
              have hb3 : Below wr.heap.size wr w3 := HB2.out.grown hgrow3 HB2.out.size (fun k hk => by simp [Value.ownBlock] at hk)
              clear cx0 cx1
              obtain ⟨cx0, cx1⟩ := HK.out w3 hb3
              have hB5 : Below w.heap.size w w3 := HBX.out.trans (hb3.mono HBX.out.size)
              have HB5 : Hid (Below w.heap.size w w3) := hB5
              obtain ⟨gg, cap, rfl, hfo⟩ := HNEXT.out w3 v3 (by rw [HM1.out.1]; simpa using hown3) hB5
              have hown4 : w3.ownsRow wr.heap.size 9 1 (.slice (some ⟨gg, 0, none⟩) 1 cap) 1 [.string hc] := by simpa using hown3
              clear hown3 hgrow3 hb3 hB5 hown2 hn2 ho2 hw2
              go_wp2_with (at_builtin; refine wpList_append_own_none rfl _ _ 22 rfl wr.heap.size 9 i0 1 Tryd.underlying22 hi (.slice (some ⟨gg, 0, none⟩) 1 cap) 1 [.string hc] rfl hown4 rfl ?_)
              clear hown4 cx0 cx1
              go_wp2_with fail
              refine hfo.mono ?_
              rintro e w6 ⟨rfl, hb6⟩
              have HF : Hid (Below w.heap.size w w6) := HB5.out.trans (hb6.mono HB5.out.size)
              clear hfo hb6 HB5
              go_wp2
              go_roundw
              case rel => exact ⟨k + 1, by omega, by go_num, by rw [← HNX.out.1, HA4.out], by rw [← HNX.out.2, HM4.out], by rw [HX.out.2], HFS2.out, HF.out⟩
              case measure => simp [intOf]; omega
            | some ad =>
              obtain ⟨b2, o2, sp⟩ := ad
              obtain ⟨L, hL⟩ : ∃ L, L = x.sides.map Value.string := ⟨_, rfl⟩
              have hLl : L.length = sl := by rw [hL, List.length_map]; exact hyl.symm
              have HN : Hid (∀ w', Below wr.heap.size wr w' → ∀ t u, L[t]? = some u → w'.cell? ((⟨b2, o2, sp⟩ : Addr).add t) = some u) := fun w' hb t u hu => by
                rw [hL, List.getElem?_map] at hu
                obtain ⟨y, hy, rfl⟩ := Option.map_eq_some_iff.1 hu
                obtain ⟨b, of, e, hlt, hc⟩ := HSX.out t y hy
                obtain ⟨rfl, rfl, rfl⟩ := Addr.mk.inj (Option.some.inj e)
                have h0 := (hb.cell (p := ⟨b2, o2 + t, none⟩) hlt).trans hc
                rw [Addr.add_lit]
                exact h0
              have h1c : ∀ u ∈ L, u.oneCell' = true := fun u hu => by
                rw [hL] at hu
                obtain ⟨y, _, rfl⟩ := List.mem_map.1 hu
                rfl
              have HBm : Hid ((below x hc).map Value.string = L.take r ++ [.string hc] ++ L.drop r ∧ sl + 1 = r + 1 + (sl - r)) := by
                rw [HBl.out, hL]
                refine ⟨by simp, by omega⟩
              have HSP : Hid (∀ t u, L[t]? = some u → sp = none) := fun t u hu => by
                rw [hL, List.getElem?_map] at hu
                obtain ⟨y, hy, rfl⟩ := Option.map_eq_some_iff.1 hu
                obtain ⟨b, of, e, hlt, hc⟩ := HSX.out t y hy
                exact (Addr.mk.inj (Option.some.inj e)).2.2
              have HK : Hid (∀ ww, Below wr.heap.size wr ww → ww.cell? ⟨wo.heap.size, 0, none⟩ = some (.int .i64 (r : Int)) ∧ ww.cell? ⟨wo.heap.size, 1, none⟩ = some (.slice (some ⟨b2, o2, sp⟩) sl cb)) := fun ww hb => ⟨(cell_kept_2 (hb.block _ lX) 0).trans cx0, (cell_kept_2 (hb.block _ lX) 1).trans cx1⟩
              have HW : Hid (∀ ww, Below wr.heap.size wr ww → Below w.heap.size w ww) := fun ww hb => HBX.out.trans (hb.mono HBX.out.size)
              have HOB : Hid (∀ (v : Value) (ww : World) (k nn : Nat) (xs : List Value), ww.ownsRow wr.heap.size 9 1 v nn xs → v.ownBlock = some k → wr.heap.size ≤ k) := fun v ww k nn xs ho hk => (owns_ltG ho k hk).1
              have e1 : (r : Int) ≤ (sl : Int) := by omega
              have e2 : (sl : Int) ≤ (cb : Int) := by omega
              have e3 : (r : Int) ≤ (cb : Int) := by omega
              have hown1 : wr.ownsRow wr.heap.size 9 1 (.slice none 0 0) 0 [] := World.ownsRow_nil _ _ _ _
              have hn1 : ∀ t u, (L.take r)[t]? = some u → wr.cell? ((⟨b2, o2, sp⟩ : Addr).add t) = some u := fun t u hu => HN.out wr (Below.refl _ _) t u (by
                rw [List.getElem?_take] at hu
                split at hu
                · exact hu
                · cases hu)
              have ht1 : (L.take r).length = r * 1 := by rw [List.length_take, hLl]; omega
              have ho1 : ∀ u ∈ L.take r, u.oneCell' = true := fun u hu => h1c u (List.mem_of_mem_take hu)
              clear hyl hL HBl q5
              go_wp2_with (at_builtin; (refine wpList_append_own _ rfl _ _ 22 rfl wr.heap.size 9 i0 (.string ⟨#[]⟩) 1 16 Tryd.underlying22 hi hz0 hz1 hz2 rfl (by decide) (.slice none 0 0) 0 [] rfl hown1 ⟨b2, o2, sp⟩ r cb (L.take r) rfl ht1 hn1 ho1 ?b2u2 ?b3u2 ?b4u2 ?_))
              case b2u2 => unfold maxLen; omega
              case b3u2 => omega
              intro v2 w2 hown2 hgrow2 _
              have hb2 : Below wr.heap.size wr w2 := (Below.refl _ _).grown hgrow2 (Nat.le_refl _) (fun k hk => by simp [Value.ownBlock] at hk)
              obtain ⟨d0, d1⟩ := HK.out w2 hb2
              have HB2 : Hid (Below wr.heap.size wr w2) := hb2
              obtain ⟨w3, hw3⟩ : ∃ w3, w2.alloc (.cells #[.string hc] 9) = w3 := ⟨_, rfl⟩
              have hb3 : Below wr.heap.size wr w3 := by rw [← hw3]; exact hb2.alloc hb2.size _
              have hown2' : w2.ownsRow wr.heap.size 9 1 v2 r (L.take r) := by simpa using hown2
              obtain ⟨ov, cv, rfl⟩ := owns_slice3 hown2'
              have hown3 : w3.ownsRow wr.heap.size 9 1 (.slice ov r cv) r (L.take r) := by rw [← hw3]; exact hown2'.alloc _
              have hn3 : ∀ t u, ([.string hc] : List Value)[t]? = some u → w3.cell? ((⟨w2.heap.size, 0, none⟩ : Addr).add t) = some u := by rw [← hw3]; exact cell_one_new w2 (.string hc) 9
              have ho3 : ∀ u ∈ ([.string hc] : List Value), u.oneCell' = true := by intro u hu; simp at hu; rw [hu]; rfl
              have HB3 : Hid (Below wr.heap.size wr w3) := hb3
              clear hown1 hgrow2 hn1 ht1 ho1 hb2 hb3 cx0 cx1 hown2 hown2'
              go_wp2_with (at_builtin; (refine wpList_append_own _ rfl _ _ 22 rfl wr.heap.size 9 i0 (.string ⟨#[]⟩) 1 16 Tryd.underlying22 hi hz0 hz1 hz2 rfl (by decide) (.slice ov r cv) r (L.take r) rfl hown3 ⟨w2.heap.size, 0, none⟩ 1 1 [.string hc] rfl rfl hn3 ho3 ?b2u3 ?b3u3 ?b4u3 ?_))
              case b2u3 => unfold maxLen; omega
              case b3u3 => omega
              case b4u3 => exact HB3.out.size
              intro v4 w4 hown4 hgrow4 _
              have hb4 : Below wr.heap.size wr w4 := HB3.out.grown hgrow4 HB3.out.size (fun k hk => HOB.out _ w3 k _ _ hown3 hk)
              obtain ⟨cx0, cx1⟩ := HK.out w4 hb4
              have HB4 : Hid (Below wr.heap.size wr w4) := hb4
              obtain ⟨oz, cz, rfl⟩ := owns_slice3 hown4
              have hn4 : ∀ (ad : Addr), (∀ t u, L[r + t]? = some u → ad.add t = (⟨b2, o2, sp⟩ : Addr).add (r + t)) → ∀ t u, (L.drop r)[t]? = some u → w4.cell? (ad.add t) = some u := fun ad had t u hu => by
                rw [List.getElem?_drop] at hu
                rw [had t u hu]
                exact HN.out w4 HB4.out (r + t) u hu
              have ht4 : (L.drop r).length = (sl - r) * 1 := by rw [List.length_drop, hLl]; omega
              have ho4 : ∀ u ∈ L.drop r, u.oneCell' = true := fun u hu => h1c u (List.mem_of_mem_drop hu)
              clear hown3 hgrow4 hn3 ho3 hb4 hw3 d0 d1
              by_cases hcm : cb = r
              · have hnm : sl = r := by omega
                have hLd : L.drop r = [] := List.drop_of_length_le (by omega)
                have HLD : Hid (L.drop r = [] ∧ sl = r) := ⟨hLd, hnm⟩
                clear hLd hn4 ht4 ho4
                go_wp2_with (at_builtin; (refine wpList_append_own _ rfl _ _ 22 rfl wr.heap.size 9 i0 (.string ⟨#[]⟩) 1 16 Tryd.underlying22 hi hz0 hz1 hz2 rfl (by decide) (.slice oz (r + 1) cz) (r + 1) (L.take r ++ [.string hc]) rfl hown4 ⟨b2, o2, sp⟩ 0 0 [] rfl rfl (fun j u hu => by simp at hu) (fun u hu => by simp at hu) ?b2u4 ?b3u4 ?b4u4 ?_))
                case b2u4 => unfold maxLen; omega
                case b3u4 => omega
                case b4u4 => exact HB4.out.size
                intro v5 w5 hown5 hgrow5 _
                have hb5 : Below wr.heap.size wr w5 := HB4.out.grown hgrow5 HB4.out.size (fun k hk => HOB.out _ w4 k _ _ hown4 hk)
                have hB5 := HW.out _ hb5
                have HB5 : Hid (Below w.heap.size w w5) := hB5
                obtain ⟨gg, cap, rfl, hfo⟩ := HNEXT.out w5 v5 (by rw [HBm.out.1, HBm.out.2, HLD.out.1, HLD.out.2, Nat.sub_self]; simpa using hown5) hB5
                rw [hnm] at hfo
                clear hown5 hgrow5 hb5 hown4 cx0 cx1 hB5
                go_wp2_with fail
                refine hfo.mono ?_
                rintro e w6 ⟨rfl, hb6⟩
                have HF : Hid (Below w.heap.size w w6) := HB5.out.trans (hb6.mono HB5.out.size)
                clear hfo hb6 HB5
                go_wp2
                go_roundw
                case rel => exact ⟨k + 1, by omega, by go_num, by rw [← HNX.out.1, HA4.out], by rw [← HNX.out.2, HM4.out], by rw [HX.out.2], HFS2.out, HF.out⟩
                case measure => simp [intOf]; omega
              · have hn5 := hn4 ((⟨b2, o2, sp⟩ : Addr).add r) fun t u hu => by
                  obtain rfl := HSP.out _ _ hu
                  rw [Addr.add_lit, Addr.add_lit, Addr.add_lit, Nat.add_assoc]
                go_wp2_with (at_builtin; (refine wpList_append_own _ rfl _ _ 22 rfl wr.heap.size 9 i0 (.string ⟨#[]⟩) 1 16 Tryd.underlying22 hi hz0 hz1 hz2 rfl (by decide) (.slice oz (r + 1) cz) (r + 1) (L.take r ++ [.string hc]) rfl hown4 ((⟨b2, o2, sp⟩ : Addr).add r) (sl - r) (cb - r) (L.drop r) rfl ht4 hn5 ho4 ?b2u5 ?b3u5 ?b4u5 ?_))
                case b2u5 => unfold maxLen; omega
                case b3u5 => omega
                case b4u5 => exact HB4.out.size
                intro v5 w5 hown5 hgrow5 _
                have hb5 : Below wr.heap.size wr w5 := HB4.out.grown hgrow5 HB4.out.size (fun k hk => HOB.out _ w4 k _ _ hown4 hk)
                have hB5 := HW.out _ hb5
                have HB5 : Hid (Below w.heap.size w w5) := hB5
                obtain ⟨gg, cap, hv5, hfo⟩ := HNEXT.out w5 v5 (by rw [HBm.out.1, HBm.out.2, List.append_assoc]; simpa using hown5) hB5
                subst hv5
                clear hown5 hgrow5 hb5 hown4 cx0 cx1 hB5 hn4 hn5 ht4 ho4
                go_wp2_with fail
                refine hfo.mono ?_
                rintro e w6 ⟨rfl, hb6⟩
                have HF : Hid (Below w.heap.size w w6) := HB5.out.trans (hb6.mono HB5.out.size)
                clear hfo hb6 HB5
                go_wp2
                go_roundw
                case rel => exact ⟨k + 1, by omega, by go_num, by rw [← HNX.out.1, HA4.out], by rw [← HNX.out.2, HM4.out], by rw [HX.out.2], HFS2.out, HF.out⟩
                case measure => simp [intOf]; omega
      · have z2 : ¬ (4 : Int) < z := by omega
        go_wp2_with fail
        clear z3 s1 s2 hwx c1 c2 HSD
        generalize wr = wo at *
        go_loopw [19] (fun jv wr' => ∃ j : Nat, j ≤ sl ∧ jv = .int .i64 (j : Int) ∧ (∀ (t : Nat) (y : ByteArray), t < j → x.sides[t]? = some y → y.size = 32) ∧ wr' = wx) (fun jv _ => sl - (intOf jv).toNat)
        case atStart => exact ⟨0, Nat.zero_le _, rfl, fun t y ht => absurd ht (Nat.not_lt_zero t), rfl⟩
        case round =>
          obtain ⟨j, hj, rfl, h32, hwrx⟩ := hrel
          subst hwrx
          by_cases hlt2 : j < sl
          · have j1 : (j : Int) < sl := by omega
            have hjs : j < x.sides.length := by rw [← HXX.out.2]; exact hlt2
            obtain ⟨b2, o2, rfl, _, hcj⟩ := HSX.out j _ (List.getElem?_eq_getElem hjs)
            have H32 : Hid (∀ (t : Nat) (y : ByteArray), t < j → x.sides[t]? = some y → y.size = 32) := h32
            by_cases hy32 : (x.sides[j]).size = 32
            · have HF : Hid (∀ (t : Nat) (y : ByteArray), t < j + 1 → x.sides[t]? = some y → y.size = 32) := fun t y ht hy => by
                by_cases e : t = j
                · subst e
                  rw [List.getElem?_eq_getElem hjs] at hy
                  rw [← Option.some.inj hy]
                  exact hy32
                · exact H32.out t y (by omega) hy
              have y1 : ((x.sides[j]).size : Int) = 32 := by omega
              generalize x.sides[j] = y at *
              clear h32
              go_wp2
              go_roundw
              case rel => exact ⟨j + 1, by omega, by go_num, HF.out, trivial⟩
              case measure => simp [intOf]; omega
            · have hCf := HFIT.out fun hh => hy32 (hh.2.2.2 _ (List.getElem_mem hjs))
              subst hCf
              have y1 : ¬ ((x.sides[j]).size : Int) = 32 := by omega
              generalize x.sides[j] = y at *
              clear h32 HFIT HFS HBAD HEND
              go_wp2
              go_ret
              exact ⟨rfl, HBX.out⟩
          · obtain rfl : sl = j := by omega
            have j1 : ¬ (sl : Int) < sl := by omega
            have h32a : ∀ y, y ∈ x.sides → y.size = 32 := fun y hy => by
              obtain ⟨t, ht, e⟩ := List.mem_iff_getElem.1 hy
              exact h32 t y (by rw [HXX.out.2]; exact ht) (by rw [List.getElem?_eq_getElem ht, e])
            have HFS2 : Hid (FitTo n i p (k + 1)) := HFS.out ⟨by omega, trivial, HSQ.out, h32a⟩
            have hbl : (below x hc).length = sl + 1 := by rw [below_length]; have := HXX.out.2; omega
            have HNEXT : Hid (∀ w5 v5, w5.ownsRow wr.heap.size 9 1 v5 (sl + 1) ((below x hc).map Value.string) → Below w.heap.size w w5 → ∃ gg cap, v5 = .slice (some ⟨gg, 0, none⟩) (sl + 1) cap ∧ Calls Tryd.prog 32 #[.pointer (some ⟨B, 0, none⟩), .slice (some ⟨gg, 0, none⟩) (sl + 1) cap] w5 fun e w' => e = .returned (.string (h (nodeT (below x hc)))) ∧ Below w5.heap.size w5 w') := fun w5 v5 ho hb5 => by
              obtain ⟨gg, cap, e, hcap, hgl, hcell⟩ := owns_formG ho (by omega)
              refine ⟨gg, cap, e, ?_⟩
              have := tdfour_any Q w5 gg 0 cap (below x hc) (fun t y hy => by rw [Nat.zero_add]; exact hcell t _ (by rw [List.getElem?_map, hy]; rfl)) (by omega) (fun y hy => by have := below_sizes hcz h32a y hy; omega) (HR.out w5 hb5)
              rw [hbl] at this
              exact this
            have HBl : Hid (below x hc = x.sides.take r ++ hc :: x.sides.drop r) := by show _ = _; unfold below; rw [← HXX.out.1, Int.toNat_natCast]
            have hyl := HXX.out.2
            clear h32 h32a hbl HFIT HBAD HEND HFS HZ0 HSQ
            cases ob with
            | none =>
              obtain rfl : cb = 0 := q5 rfl
              have hj0 : sl = 0 := by omega
              have hr0 : r = 0 := by omega
              have hn1 : x.sides = [] := List.eq_nil_of_length_eq_zero (by omega)
              have HM1 : Hid ((below x hc).map Value.string = [.string hc] ∧ sl + 1 = 1) := ⟨by rw [HBl.out, hn1]; simp, by omega⟩
              clear hyl hn1
              subst hr0
              subst hj0
              rw [show ((0 : Nat) : Int) = 0 from rfl] at *
              obtain ⟨w2, hw2⟩ : ∃ w2, wr.alloc (.cells #[.string hc] 9) = w2 := ⟨_, rfl⟩
              have hown2 : w2.ownsRow wr.heap.size 9 1 (.slice none 0 0) 0 [] := World.ownsRow_nil _ _ _ _
              have hn2 : ∀ i u, ([.string hc] : List Value)[i]? = some u → w2.cell? ((⟨wr.heap.size, 0, none⟩ : Addr).add i) = some u := by rw [← hw2]; exact cell_one_new wr (.string hc) 9
              have ho2 : ∀ u ∈ ([.string hc] : List Value), u.oneCell' = true := by intro u hu; simp at hu; rw [hu]; rfl
              have hb2 : Below wr.heap.size wr w2 := by rw [← hw2]; exact (Below.refl _ _).alloc (Nat.le_refl _) _
              have HK : Hid (∀ ww, Below wr.heap.size wr ww → ww.cell? ⟨wo.heap.size, 0, none⟩ = some (.int .i64 0) ∧ ww.cell? ⟨wo.heap.size, 1, none⟩ = some (.slice none 0 0)) := fun ww hb => ⟨(cell_kept_2 (hb.block _ lX) 0).trans cx0, (cell_kept_2 (hb.block _ lX) 1).trans cx1⟩
              have HB2 : Hid (Below wr.heap.size wr w2) := hb2
              clear hb2 HBl
              go_wp2_with (at_builtin; first | (refine wpList_append_own_none rfl _ _ 22 rfl wr.heap.size 9 i0 1 Tryd.underlying22 hi (.slice none 0 0) 0 [] rfl (World.ownsRow_nil _ _ _ _) rfl ?_) | (refine wpList_append_own _ rfl _ _ 22 rfl wr.heap.size 9 i0 (.string ⟨#[]⟩) 1 16 Tryd.underlying22 hi hz0 hz1 hz2 rfl (by decide) (.slice none 0 0) 0 [] rfl hown2 ⟨wr.heap.size, 0, none⟩ 1 1 [.string hc] rfl rfl hn2 ho2 ?b2u6 ?b3u6 ?b4u6 ?_))
              case b2u6 => decide
              case b4u6 => exact HB2.out.size
              intro v3 w3 hown3 hgrow3 _
              have hb3 : Below wr.heap.size wr w3 := HB2.out.grown hgrow3 HB2.out.size (fun k hk => by simp [Value.ownBlock] at hk)
              clear cx0 cx1
              obtain ⟨cx0, cx1⟩ := HK.out w3 hb3
              have hB5 : Below w.heap.size w w3 := HBX.out.trans (hb3.mono HBX.out.size)
              have HB5 : Hid (Below w.heap.size w w3) := hB5
              obtain ⟨gg, cap, rfl, hfo⟩ := HNEXT.out w3 v3 (by rw [HM1.out.1]; simpa using hown3) hB5
              have hown4 : w3.ownsRow wr.heap.size 9 1 (.slice (some ⟨gg, 0, none⟩) 1 cap) 1 [.string hc] := by simpa using hown3
              clear hown3 hgrow3 hb3 hB5 hown2 hn2 ho2 hw2
              go_wp2_with (at_builtin; refine wpList_append_own_none rfl _ _ 22 rfl wr.heap.size 9 i0 1 Tryd.underlying22 hi (.slice (some ⟨gg, 0, none⟩) 1 cap) 1 [.string hc] rfl hown4 rfl ?_)
              clear hown4 cx0 cx1
              go_wp2_with fail
              refine hfo.mono ?_
              rintro e w6 ⟨rfl, hb6⟩
              have HF : Hid (Below w.heap.size w w6) := HB5.out.trans (hb6.mono HB5.out.size)
              clear hfo hb6 HB5
              go_wp2
              go_roundw
              case rel => exact ⟨k + 1, by omega, by go_num, by rw [← HNX.out.1, HA4.out], by rw [← HNX.out.2, HM4.out], by rw [HX.out.2], HFS2.out, HF.out⟩
              case measure => simp [intOf]; omega
            | some ad =>
              obtain ⟨b2, o2, sp⟩ := ad
              obtain ⟨L, hL⟩ : ∃ L, L = x.sides.map Value.string := ⟨_, rfl⟩
              have hLl : L.length = sl := by rw [hL, List.length_map]; exact hyl.symm
              have HN : Hid (∀ w', Below wr.heap.size wr w' → ∀ t u, L[t]? = some u → w'.cell? ((⟨b2, o2, sp⟩ : Addr).add t) = some u) := fun w' hb t u hu => by
                rw [hL, List.getElem?_map] at hu
                obtain ⟨y, hy, rfl⟩ := Option.map_eq_some_iff.1 hu
                obtain ⟨b, of, e, hlt, hc⟩ := HSX.out t y hy
                obtain ⟨rfl, rfl, rfl⟩ := Addr.mk.inj (Option.some.inj e)
                have h0 := (hb.cell (p := ⟨b2, o2 + t, none⟩) hlt).trans hc
                rw [Addr.add_lit]
                exact h0
              have h1c : ∀ u ∈ L, u.oneCell' = true := fun u hu => by
                rw [hL] at hu
                obtain ⟨y, _, rfl⟩ := List.mem_map.1 hu
                rfl
              have HBm : Hid ((below x hc).map Value.string = L.take r ++ [.string hc] ++ L.drop r ∧ sl + 1 = r + 1 + (sl - r)) := by
                rw [HBl.out, hL]
                refine ⟨by simp, by omega⟩
              have HSP : Hid (∀ t u, L[t]? = some u → sp = none) := fun t u hu => by
                rw [hL, List.getElem?_map] at hu
                obtain ⟨y, hy, rfl⟩ := Option.map_eq_some_iff.1 hu
                obtain ⟨b, of, e, hlt, hc⟩ := HSX.out t y hy
                exact (Addr.mk.inj (Option.some.inj e)).2.2
              have HK : Hid (∀ ww, Below wr.heap.size wr ww → ww.cell? ⟨wo.heap.size, 0, none⟩ = some (.int .i64 (r : Int)) ∧ ww.cell? ⟨wo.heap.size, 1, none⟩ = some (.slice (some ⟨b2, o2, sp⟩) sl cb)) := fun ww hb => ⟨(cell_kept_2 (hb.block _ lX) 0).trans cx0, (cell_kept_2 (hb.block _ lX) 1).trans cx1⟩
              have HW : Hid (∀ ww, Below wr.heap.size wr ww → Below w.heap.size w ww) := fun ww hb => HBX.out.trans (hb.mono HBX.out.size)
              have HOB : Hid (∀ (v : Value) (ww : World) (k nn : Nat) (xs : List Value), ww.ownsRow wr.heap.size 9 1 v nn xs → v.ownBlock = some k → wr.heap.size ≤ k) := fun v ww k nn xs ho hk => (owns_ltG ho k hk).1
              have e1 : (r : Int) ≤ (sl : Int) := by omega
              have e2 : (sl : Int) ≤ (cb : Int) := by omega
              have e3 : (r : Int) ≤ (cb : Int) := by omega
              have hown1 : wr.ownsRow wr.heap.size 9 1 (.slice none 0 0) 0 [] := World.ownsRow_nil _ _ _ _
              have hn1 : ∀ t u, (L.take r)[t]? = some u → wr.cell? ((⟨b2, o2, sp⟩ : Addr).add t) = some u := fun t u hu => HN.out wr (Below.refl _ _) t u (by
                rw [List.getElem?_take] at hu
                split at hu
                · exact hu
                · cases hu)
              have ht1 : (L.take r).length = r * 1 := by rw [List.length_take, hLl]; omega
              have ho1 : ∀ u ∈ L.take r, u.oneCell' = true := fun u hu => h1c u (List.mem_of_mem_take hu)
              clear hyl hL HBl q5
              go_wp2_with (at_builtin; (refine wpList_append_own _ rfl _ _ 22 rfl wr.heap.size 9 i0 (.string ⟨#[]⟩) 1 16 Tryd.underlying22 hi hz0 hz1 hz2 rfl (by decide) (.slice none 0 0) 0 [] rfl hown1 ⟨b2, o2, sp⟩ r cb (L.take r) rfl ht1 hn1 ho1 ?b2u7 ?b3u7 ?b4u7 ?_))
              case b2u7 => unfold maxLen; omega
              case b3u7 => omega
              intro v2 w2 hown2 hgrow2 _
              have hb2 : Below wr.heap.size wr w2 := (Below.refl _ _).grown hgrow2 (Nat.le_refl _) (fun k hk => by simp [Value.ownBlock] at hk)
              obtain ⟨d0, d1⟩ := HK.out w2 hb2
              have HB2 : Hid (Below wr.heap.size wr w2) := hb2
              obtain ⟨w3, hw3⟩ : ∃ w3, w2.alloc (.cells #[.string hc] 9) = w3 := ⟨_, rfl⟩
              have hb3 : Below wr.heap.size wr w3 := by rw [← hw3]; exact hb2.alloc hb2.size _
              have hown2' : w2.ownsRow wr.heap.size 9 1 v2 r (L.take r) := by simpa using hown2
              obtain ⟨ov, cv, rfl⟩ := owns_slice3 hown2'
              have hown3 : w3.ownsRow wr.heap.size 9 1 (.slice ov r cv) r (L.take r) := by rw [← hw3]; exact hown2'.alloc _
              have hn3 : ∀ t u, ([.string hc] : List Value)[t]? = some u → w3.cell? ((⟨w2.heap.size, 0, none⟩ : Addr).add t) = some u := by rw [← hw3]; exact cell_one_new w2 (.string hc) 9
              have ho3 : ∀ u ∈ ([.string hc] : List Value), u.oneCell' = true := by intro u hu; simp at hu; rw [hu]; rfl
              have HB3 : Hid (Below wr.heap.size wr w3) := hb3
              clear hown1 hgrow2 hn1 ht1 ho1 hb2 hb3 cx0 cx1 hown2 hown2'
              go_wp2_with (at_builtin; (refine wpList_append_own _ rfl _ _ 22 rfl wr.heap.size 9 i0 (.string ⟨#[]⟩) 1 16 Tryd.underlying22 hi hz0 hz1 hz2 rfl (by decide) (.slice ov r cv) r (L.take r) rfl hown3 ⟨w2.heap.size, 0, none⟩ 1 1 [.string hc] rfl rfl hn3 ho3 ?b2u8 ?b3u8 ?b4u8 ?_))
              case b2u8 => unfold maxLen; omega
              case b3u8 => omega
              case b4u8 => exact HB3.out.size
              intro v4 w4 hown4 hgrow4 _
              have hb4 : Below wr.heap.size wr w4 := HB3.out.grown hgrow4 HB3.out.size (fun k hk => HOB.out _ w3 k _ _ hown3 hk)
              obtain ⟨cx0, cx1⟩ := HK.out w4 hb4
              have HB4 : Hid (Below wr.heap.size wr w4) := hb4
              obtain ⟨oz, cz, rfl⟩ := owns_slice3 hown4
              have hn4 : ∀ (ad : Addr), (∀ t u, L[r + t]? = some u → ad.add t = (⟨b2, o2, sp⟩ : Addr).add (r + t)) → ∀ t u, (L.drop r)[t]? = some u → w4.cell? (ad.add t) = some u := fun ad had t u hu => by
                rw [List.getElem?_drop] at hu
                rw [had t u hu]
                exact HN.out w4 HB4.out (r + t) u hu
              have ht4 : (L.drop r).length = (sl - r) * 1 := by rw [List.length_drop, hLl]; omega
              have ho4 : ∀ u ∈ L.drop r, u.oneCell' = true := fun u hu => h1c u (List.mem_of_mem_drop hu)
              clear hown3 hgrow4 hn3 ho3 hb4 hw3 d0 d1
              by_cases hcm : cb = r
              · have hnm : sl = r := by omega
                have hLd : L.drop r = [] := List.drop_of_length_le (by omega)
                have HLD : Hid (L.drop r = [] ∧ sl = r) := ⟨hLd, hnm⟩
                clear hLd hn4 ht4 ho4
                go_wp2_with (at_builtin; (refine wpList_append_own _ rfl _ _ 22 rfl wr.heap.size 9 i0 (.string ⟨#[]⟩) 1 16 Tryd.underlying22 hi hz0 hz1 hz2 rfl (by decide) (.slice oz (r + 1) cz) (r + 1) (L.take r ++ [.string hc]) rfl hown4 ⟨b2, o2, sp⟩ 0 0 [] rfl rfl (fun j u hu => by simp at hu) (fun u hu => by simp at hu) ?b2u9 ?b3u9 ?b4u9 ?_))
                case b2u9 => unfold maxLen; omega
                case b3u9 => omega
                case b4u9 => exact HB4.out.size
                intro v5 w5 hown5 hgrow5 _
                have hb5 : Below wr.heap.size wr w5 := HB4.out.grown hgrow5 HB4.out.size (fun k hk => HOB.out _ w4 k _ _ hown4 hk)
                have hB5 := HW.out _ hb5
                have HB5 : Hid (Below w.heap.size w w5) := hB5
                obtain ⟨gg, cap, rfl, hfo⟩ := HNEXT.out w5 v5 (by rw [HBm.out.1, HBm.out.2, HLD.out.1, HLD.out.2, Nat.sub_self]; simpa using hown5) hB5
                rw [hnm] at hfo
                clear hown5 hgrow5 hb5 hown4 cx0 cx1 hB5
                go_wp2_with fail
                refine hfo.mono ?_
                rintro e w6 ⟨rfl, hb6⟩
                have HF : Hid (Below w.heap.size w w6) := HB5.out.trans (hb6.mono HB5.out.size)
                clear hfo hb6 HB5
                go_wp2
                go_roundw
                case rel => exact ⟨k + 1, by omega, by go_num, by rw [← HNX.out.1, HA4.out], by rw [← HNX.out.2, HM4.out], by rw [HX.out.2], HFS2.out, HF.out⟩
                case measure => simp [intOf]; omega
              · have hn5 := hn4 ((⟨b2, o2, sp⟩ : Addr).add r) fun t u hu => by
                  obtain rfl := HSP.out _ _ hu
                  rw [Addr.add_lit, Addr.add_lit, Addr.add_lit, Nat.add_assoc]
                go_wp2_with (at_builtin; (refine wpList_append_own _ rfl _ _ 22 rfl wr.heap.size 9 i0 (.string ⟨#[]⟩) 1 16 Tryd.underlying22 hi hz0 hz1 hz2 rfl (by decide) (.slice oz (r + 1) cz) (r + 1) (L.take r ++ [.string hc]) rfl hown4 ((⟨b2, o2, sp⟩ : Addr).add r) (sl - r) (cb - r) (L.drop r) rfl ht4 hn5 ho4 ?b2u10 ?b3u10 ?b4u10 ?_))
                case b2u10 => unfold maxLen; omega
                case b3u10 => omega
                case b4u10 => exact HB4.out.size
                intro v5 w5 hown5 hgrow5 _
                have hb5 : Below wr.heap.size wr w5 := HB4.out.grown hgrow5 HB4.out.size (fun k hk => HOB.out _ w4 k _ _ hown4 hk)
                have hB5 := HW.out _ hb5
                have HB5 : Hid (Below w.heap.size w w5) := hB5
                obtain ⟨gg, cap, hv5, hfo⟩ := HNEXT.out w5 v5 (by rw [HBm.out.1, HBm.out.2, List.append_assoc]; simpa using hown5) hB5
                subst hv5
                clear hown5 hgrow5 hb5 hown4 cx0 cx1 hB5 hn4 hn5 ht4 ho4
                go_wp2_with fail
                refine hfo.mono ?_
                rintro e w6 ⟨rfl, hb6⟩
                have HF : Hid (Below w.heap.size w w6) := HB5.out.trans (hb6.mono HB5.out.size)
                clear hfo hb6 HB5
                go_wp2
                go_roundw
                case rel => exact ⟨k + 1, by omega, by go_num, by rw [← HNX.out.1, HA4.out], by rw [← HNX.out.2, HM4.out], by rw [HX.out.2], HFS2.out, HF.out⟩
                case measure => simp [intOf]; omega
    · obtain rfl : pl = k := by omega
      have k1 : ¬ (pl : Int) < pl := by omega
      have hpt : p.take pl = p := by rw [HPL.out, List.take_length]
      have hCe := HEND.out (by rw [← HPL.out]; exact hfit)
      rw [← HPL.out, ← HAM.out.2] at hCe
      rw [hpt] at hcz ⊢
      have htp := rtopped_any Q wr n (climb h b0 p) (by omega) (by omega) (HR.out wr hb)
      have HB : Hid (Below w.heap.size w wr) := hb
      have hcm := cmp_is (h (rootT n (climb h b0 p))) top
      by_cases hm1 : m = 1
      · have t1 : (m : Int) = 1 := by omega
        rw [decide_eq_true hm1, Bool.true_and] at hCe
        rw [← hCe] at hcm
        have HCM : Hid (((h (rootT n (climb h b0 p))).toList == top.toList) = C) := hcm
        generalize h (rootT n (climb h b0 p)) = Y at *
        generalize climb h b0 p = hc at *
        clear hCe hcm hb hfit hpt HBAD HEND
        go_wp2_with fail
        refine htp.mono ?_
        rintro e w2 ⟨rfl, hb2⟩
        have HF : Hid (Below w.heap.size w w2) := HB.out.trans (hb2.mono HB.out.size)
        clear htp hb2
        go_wp2
        go_ret
        exact ⟨congrArg (fun b => Ending.returned (Value.bool b)) HCM.out, HF.out⟩
      · have t1 : ¬ (m : Int) = 1 := by omega
        rw [decide_eq_false hm1, Bool.false_and] at hCe
        subst hCe
        generalize climb h b0 p = hc at *
        clear hcm hb hfit hpt HBAD HEND htp
        go_wp2
        go_ret
        exact ⟨rfl, HB.out⟩
end
end Go.Proofs.YtgokehbdappcdaaDoor
