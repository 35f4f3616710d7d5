/- The document's Rows and Root. -/
import Derived.Test.YtgokehbdappcdaaDoorMg10
import Derived.Test.YtgokehbdappcdaaDoorMg17
namespace Go.Proofs.YtgokehbdappcdaaDoor
set_option maxRecDepth 20000
open Go.RowKit

theorem owns_keepG {w w' : World} {b : Nat} {e : TypeId} {z n : Nat} {v : Value} {xs : List Value} (h : w.ownsRow b e z v n xs) (hb : ∀ g, v.ownBlock = some g → w'.heap[g]? = w.heap[g]?) : w'.ownsRow b e z v n xs := by
  refine ⟨h.1, ?_⟩
  rcases h.2 with hn | ⟨g, cap, cur, rfl, h0, hg, hr⟩
  · exact .inl hn
  · exact .inr ⟨g, cap, cur, rfl, h0, (hb g rfl).trans hg, hr⟩
theorem owns_ltG {w : World} {b : Nat} {e : TypeId} {z n : Nat} {v : Value} {xs : List Value} (h : w.ownsRow b e z v n xs) (g : Nat) (hv : v.ownBlock = some g) : b ≤ g ∧ g < w.heap.size := by
  rcases h.2 with ⟨rfl, _⟩ | ⟨g', cap, cur, rfl, h0, hg, hr⟩
  · cases hv
  · cases hv; exact ⟨h0, lt_of_block hg⟩
theorem owns_formG {w : World} {b : Nat} {e : TypeId} {z n : Nat} {v : Value} {xs : List Value} (h : w.ownsRow b e z v n xs) (hn : 0 < n) : ∃ g cap, v = .slice (some ⟨g, 0, none⟩) n cap ∧ n ≤ cap ∧ g < w.heap.size ∧ ∀ i u, xs[i]? = some u → w.cell? ⟨g, i, none⟩ = some u := by
  have h' : w.ownsRow 0 e z v n xs := ⟨h.1, h.2.imp id fun ⟨g, cap, cur, e, h0, r⟩ => ⟨g, cap, cur, e, Nat.zero_le _, r⟩⟩
  obtain ⟨g, cap, rfl, h1, h2⟩ := owns_form h' hn
  exact ⟨g, cap, rfl, h1, owns_lt h' g rfl, h2⟩
/-- The document's rows: lists of their own, and a list of them. -/
structure RowsAt (w : World) (base : Nat) (v : Value) (vs : List Value) (rows : List (List ByteArray)) : Prop where
  owns : w.ownsRow base 62 1 v rows.length vs
  len : vs.length = rows.length
  row : ∀ (k : Nat) (u : Value) (r : List ByteArray), vs[k]? = some u → rows[k]? = some r → OwnL w base u r
  nR : ∀ (u : Value), u ∈ vs → ∀ g, u.ownBlock = some g → v.ownBlock ≠ some g
theorem RowsAt.below {w w' : World} {base : Nat} {v : Value} {vs : List Value} {rows : List (List ByteArray)} (t : RowsAt w base v vs rows) (hb : Below w.heap.size w w') : RowsAt w' base v vs rows :=
  ⟨owns_keepG t.owns fun g hg => hb.block g (owns_ltG t.owns g hg).2, t.len, fun k u r h1 h2 => OwnL.keep (t.row k u r h1 h2) fun q _ hq _ => hb.block q hq, t.nR⟩
theorem RowsAt.append {w w' : World} {base : Nat} {v v' : Value} {vs : List Value} {rows : List (List ByteArray)} {u : Value} {r : List ByteArray} {x : Obj} (t : RowsAt w base v vs rows) (hu : OwnL w base u r) (hn : ∀ g, u.ownBlock = some g → v.ownBlock ≠ some g)
    (hown : w'.ownsRow base 62 1 v' (rows.length + 1) (vs ++ [u])) (hgr : (w.alloc x).grownBy w' v.ownBlock) (hat : v'.ownBlock = v.ownBlock ∨ v'.ownBlock = some (w.alloc x).heap.size) : RowsAt w' base v' (vs ++ [u]) (rows ++ [r]) := by
  have hz : (w.alloc x).heap.size = w.heap.size + 1 := by simp
  have kp : ∀ k, k < w.heap.size → v.ownBlock ≠ some k → w'.heap[k]? = w.heap[k]? := fun k hk hn => (hgr.block k (by omega) fun e => hn e.symm).trans (Below.heap_alloc w x k hk)
  have ho' : ∀ k, k < w.heap.size → v.ownBlock ≠ some k → v'.ownBlock ≠ some k := fun k hk hn => by
    rcases hat with e | e
    · rw [e]; exact hn
    · rw [e]; intro e2; have := Option.some.inj e2; omega
  refine ⟨by rw [List.length_append]; exact hown, by simp [t.len], ?_, ?_⟩
  · intro k u' r' h1 h2
    by_cases hk : k < vs.length
    · rw [List.getElem?_append_left hk] at h1
      rw [List.getElem?_append_left (by rw [← t.len]; exact hk)] at h2
      exact OwnL.keep (t.row k u' r' h1 h2) fun q _ hq hq2 => kp q hq (t.nR u' (List.mem_of_getElem? h1) q hq2)
    · have hk2 : k = vs.length := by
        have := (List.getElem?_eq_some_iff.1 h1).1
        simp at this
        omega
      subst hk2
      rw [List.getElem?_append_right (Nat.le_refl _), Nat.sub_self] at h1
      rw [t.len, List.getElem?_append_right (Nat.le_refl _), Nat.sub_self] at h2
      obtain rfl : u = u' := Option.some.inj h1
      obtain rfl : r = r' := Option.some.inj h2
      exact OwnL.keep hu fun q _ hq hq2 => kp q hq (hn q hq2)
  · intro u' hu' g hg
    rcases List.mem_append.1 hu' with h | h
    · obtain ⟨k, hk, e⟩ := List.mem_iff_getElem.1 h
      have h1 : vs[k]? = some u' := by rw [List.getElem?_eq_getElem hk, e]
      have h2 : k < rows.length := by rw [← t.len]; exact hk
      exact ho' g (OwnL.lt (t.row k u' _ h1 (List.getElem?_eq_getElem h2)) hg).2 (t.nR u' h g hg)
    · obtain rfl := List.mem_singleton.1 h
      exact ho' g (OwnL.lt hu hg).2 (hn g hg)
theorem td_info_row : (Tryd.prog.info? 62).map (fun i => (i.zero, i.size, i.bytes)) = some (some (.agg #[.slice none 0 0]), 1, 24) := by kernel_rfl
theorem td_first {w : World} {base : Nat} {u : Value} {r : List ByteArray} (hu : OwnL w base u r) (hb : base ≤ w.heap.size) : RowsAt (w.alloc (.cells #[u] 62)) base (.slice (some ⟨w.heap.size, 0, none⟩) 1 1) [u] [r] := by
  refine ⟨⟨rfl, .inr ⟨w.heap.size, 1, #[u], rfl, hb, heap_alloc_new w _, Nat.le_refl _, by decide, rfl, rfl⟩⟩, rfl, ?_, ?_⟩
  · intro k u' r' e1 e2
    cases k with
    | zero =>
      obtain rfl : u = u' := Option.some.inj e1
      obtain rfl : r = r' := Option.some.inj e2
      exact OwnL.keep hu fun q _ hq _ => Below.heap_alloc w _ q hq
    | succ k => simp at e1
  · intro u' hu' g hg
    obtain rfl := List.mem_singleton.1 hu'
    have := (OwnL.lt hu hg).2
    simp [Value.ownBlock]
    omega
theorem rowAt_size {h : ByteArray → ByteArray} (hh : ∀ x, (h x).size = 32) (l : List ByteArray) : ∀ (k : Nat) (x : ByteArray), x ∈ rowAt h l k → x.size = 32
  | 0, x, hx => by
    obtain ⟨i, hi, e⟩ := List.mem_iff_getElem.1 hx
    have h1 : (rowAt h l 0)[i]? = some x := by rw [List.getElem?_eq_getElem hi, e]
    rw [rowAt_get0] at h1
    obtain ⟨s, _, rfl⟩ := Option.map_eq_some_iff.1 h1
    exact hh _
  | k + 1, x, hx => by
    obtain ⟨i, hi, e⟩ := List.mem_iff_getElem.1 hx
    have h1 : (upRow h (rowAt h l k))[i]? = some x := by rw [← e]; exact List.getElem?_eq_getElem hi
    have hi2 : i < upN (rowAt h l k).length := by rw [← upRow_length h]; exact hi
    rw [upRow_get h _ _ hi2] at h1
    rw [← Option.some.inj h1]
    exact hh _
def lenOf : Value → Nat
  | .slice _ n _ => n
  | _ => 0
section
variable {R : World → Prop} {h : ByteArray → ByteArray} {B : Nat}
set_option maxHeartbeats 4000000 in
theorem rrows_any (Q : RV R h B) (hh : ∀ x, (h x).size = 32) (w : World) (oa : Option Addr) (c : Nat) (l : List ByteArray) (hlv : Lv w (fun _ => False) oa l) (hlen : l.length ≤ 200) (hs : ∀ x, x ∈ l → x.size ≤ 1000) (hr : R w) :
    Calls Tryd.prog 25 #[.pointer (some ⟨B, 0, none⟩), .slice oa l.length c] w fun e w' => (∃ v vs, e = .returned v ∧ RowsAt w' w.heap.size v vs (rowsUp h l (hgt l.length))) ∧ Below w.heap.size w w' := by
  obtain ⟨i0, hi, hz0, hz1, hz2⟩ := info_parts tr_info_string
  obtain ⟨i1, hi1, hy0, hy1, hy2⟩ := info_parts td_info_row
  obtain ⟨m, hm⟩ : ∃ m, m = l.length := ⟨_, rfl⟩
  have HM : Hid (m = l.length) := hm
  have HLV : Hid (Lv w (fun _ => False) oa l) := hlv
  have HS : Hid (∀ x, x ∈ l → x.size ≤ 1000) := hs
  have HR : Hid (∀ w', Below w.heap.size w w' → R w') := fun w' hb => Q.keep hr hb
  rw [← hm] at hlen ⊢
  clear hr hlv hs hm
  go_enter Tryd.func25, Tryd.ntmps25
  go_wp2_with fail
  go_loopw [5, 6] (fun ov kv wr => ∃ j : Nat, j ≤ m ∧ kv = .int .i64 (j : Int) ∧ wr.ownsRow w.heap.size 9 1 ov j (((l.take j).map fun s => h (leafT s)).map Value.string) ∧ Below w.heap.size w wr) (fun _ kv _ => m - (intOf kv).toNat)
  case atStart => exact ⟨0, Nat.zero_le _, rfl, World.ownsRow_nil _ _ _ _, Below.refl _ _⟩
  case round =>
    obtain ⟨j, hj, rfl, hown, hb⟩ := hrel
    by_cases hlt : j < m
    · have j1 : (j : Int) < m := by omega
      have hjl : j < l.length := by rw [← HM.out]; exact hlt
      obtain ⟨g, o, rfl, hg, _, hc0⟩ := HLV.out j l[j] (List.getElem?_eq_getElem hjl)
      have hc := (hb.cell (p := ⟨g, o + j, none⟩) hg).trans hc0
      have hxz := HS.out l[j] (List.getElem_mem hjl)
      have hadd : ∀ w', (Op.stringOp .add ⟨#[0]⟩ l[j]).run Tryd.prog w' = .ok (.string (leafT l[j])) w' := fun w' => run_string_add_sum (P := Tryd.prog) (w := w') ⟨#[0]⟩ l[j] (by show 1 + l[j].size ≤ _; omega)
      have hcl := Q.call (leafT l[j]) (by unfold leafT; rw [ByteArray.size_append]; show 1 + l[j].size ≤ _; omega) wr (HR.out wr hb)
      have HX : Hid (((l.take (j + 1)).map fun s => h (leafT s)).map Value.string = ((l.take j).map fun s => h (leafT s)).map Value.string ++ [.string (h (leafT l[j]))]) := by
        show _ = _
        rw [List.take_add_one, List.getElem?_eq_getElem hjl, List.map_append, List.map_append]
        rfl
      obtain ⟨y, hy⟩ : ∃ y, y = h (leafT l[j]) := ⟨_, rfl⟩
      rw [← hy] at hcl HX
      generalize leafT l[j] = lt at *
      generalize l[j] = x at *
      obtain ⟨ob, cb, rfl⟩ := owns_slice3 hown
      generalize ((l.take j).map fun s => h (leafT s)).map Value.string = ys at *
      have HJ : Hid (wr.ownsRow w.heap.size 9 1 (.slice ob j cb) j ys ∧ Below w.heap.size w wr) := ⟨hown, hb⟩
      clear hc0 hy hown hb
      go_wp2_with fail
      refine hcl.mono ?_
      rintro e w1 ⟨rfl, hb1⟩
      obtain ⟨w2, hw2⟩ : ∃ w2, w1.alloc (.cells #[.string y] 9) = w2 := ⟨_, rfl⟩
      have hown1 : w1.ownsRow w.heap.size 9 1 (.slice ob j cb) j ys := owns_keepG HJ.out.1 fun g hg => hb1.block g (owns_ltG HJ.out.1 g hg).2
      have hown2 : w2.ownsRow w.heap.size 9 1 (.slice ob j cb) j ys := by rw [← hw2]; exact hown1.alloc _
      have hn2 : ∀ i u, ([.string y] : List Value)[i]? = some u → w2.cell? ((⟨w1.heap.size, 0, none⟩ : Addr).add i) = some u := by rw [← hw2]; exact cell_one_new w1 (.string y) 9
      have ho2 : ∀ u ∈ ([.string y] : List Value), u.oneCell' = true := by intro u hu; simp at hu; rw [hu]; rfl
      have hB1 : Below w.heap.size w w1 := HJ.out.2.trans (hb1.mono HJ.out.2.size)
      have HB : Hid (Below w.heap.size w w2) := by rw [← hw2]; exact hB1.alloc hB1.size _
      clear hown1 hB1 hb1 HJ hc hcl
      go_wp2_with (at_builtin; refine wpList_append_own _ rfl _ _ 22 rfl w.heap.size 9 i0 (.string ⟨#[]⟩) 1 16 Tryd.underlying22 hi hz0 hz1 hz2 rfl (by decide) (.slice ob j cb) j ys rfl hown2 ⟨w1.heap.size, 0, none⟩ 1 1 _ rfl rfl hn2 ho2 ?b2 ?b3 ?b4 ?_)
      case b2 => unfold maxLen; omega
      case b3 => omega
      case b4 => exact HB.out.size
      intro v3 w3 hown3 hgrow3 _
      have hb3 : Below w.heap.size w w3 := HB.out.grown hgrow3 HB.out.size (fun k hk => (owns_ltG hown2 k hk).1)
      have HF : Hid (w3.ownsRow w.heap.size 9 1 v3 (j + 1) (((l.take (j + 1)).map fun s => h (leafT s)).map Value.string) ∧ Below w.heap.size w w3) := by
        refine ⟨?_, hb3⟩
        rw [HX.out]
        exact hown3
      clear hown2 hn2 ho2 hown3 hgrow3 hb3 hw2 HB
      go_wp2
      go_roundw
      case rel => exact ⟨j + 1, by omega, by go_num, HF.out⟩
      case measure => simp [intOf]; omega
    · obtain rfl : j = m := by omega
      have j1 : ¬ (j : Int) < j := by omega
      have e0 : (l.take j).map (fun s => h (leafT s)) = rowAt h l 0 := by
        rw [HM.out, List.take_length]
        apply List.ext_getElem?
        intro i
        rw [rowAt_get0, List.getElem?_map]
      have hr0 : OwnL wr w.heap.size u5 (rowAt h l 0) := by
        unfold OwnL
        rw [← e0]
        have : ((l.take j).map (fun s => h (leafT s))).length = j := by rw [List.length_map, HM.out, List.take_length]
        rw [this]
        exact hown
      have hr1 := td_first hr0 hb.size
      obtain ⟨w4, hw4⟩ : ∃ w4, wr.alloc (.cells #[u5] 62) = w4 := ⟨_, rfl⟩
      rw [hw4] at hr1
      have hb4 : Below w.heap.size w w4 := by rw [← hw4]; exact hb.alloc hb.size _
      obtain ⟨oq, cq, rfl⟩ := OwnL.form hr0
      have hq0 : (rowAt h l 0).length = upK j 0 := by rw [rowAt_length, HM.out]
      rw [hq0] at hr1 hw4 ⊢
      have HI : Hid (RowsAt w4 w.heap.size (.slice (some ⟨wr.heap.size, 0, none⟩) 1 1) [.slice oq (upK j 0) cq] [rowAt h l 0] ∧ Below w.heap.size w w4) := ⟨hr1, hb4⟩
      obtain ⟨q0, hqq⟩ : ∃ q0, q0 = upK j 0 := ⟨_, rfl⟩
      have HQ0 : Hid (q0 = upK j 0) := hqq
      rw [← hqq] at hw4 ⊢
      have HMM : Hid (∀ i, i ≤ hgt j → (1 < upK j i → i < hgt j) ∧ (¬ 1 < upK j i → i = hgt j) ∧ upK j i ≤ j) := fun i hi => by
        obtain ⟨a1, a2, a3⟩ := upK_hgt j
        refine ⟨fun h => ?_, fun h => ?_, upK_le j i⟩
        · by_cases e : i = hgt j
          · rw [e] at h; omega
          · omega
        · by_cases e : i < hgt j
          · exact absurd (a3 i e) h
          · omega
      clear hown hr0 hr1 hb hb4 hq0 e0 hqq
      generalize wr = w9 at *
      go_wp2_with fail
      try rw [hw4]
      clear hw4
      go_loopw [5, 7] (fun lv ov wr => ∃ (i : Nat) (cq : Nat) (oq : Option Addr) (vs : List Value), i ≤ hgt j ∧ lv = .slice oq (upK j i) cq ∧ vs[i]? = some (.slice oq (upK j i) cq) ∧ RowsAt wr w.heap.size ov vs (rowsUp h l i) ∧ Below w.heap.size w wr) (fun lv _ _ => lenOf lv)
      case atStart => exact ⟨0, cq, oq, _, Nat.zero_le _, by rw [← HQ0.out], rfl, HI.out⟩
      case round =>
        clear HI HQ0
        obtain ⟨i, cr, or, vs, hiM, rfl, hvs, hra, hbr⟩ := hrel
        obtain ⟨x1, x2, x3⟩ := HMM.out i hiM
        have hrow : OwnL wr w.heap.size (.slice or (upK j i) cr) (rowAt h l i) := hra.row i _ _ hvs (rowsUp_get h l i i (Nat.le_refl _))
        obtain ⟨q, hq⟩ : ∃ q, q = upK j i := ⟨_, rfl⟩
        have HQ : Hid (q = upK j i) := hq
        have hrl : (rowAt h l i).length = q := by rw [rowAt_length, hq, HM.out]
        rw [← hq] at x1 x2 x3 hvs hrow ⊢
        by_cases h1 : 1 < q
        · have h1i : (1 : Int) < q := by omega
          have hiL := x1 h1
          have hrow' := hrow
          unfold OwnL at hrow'
          rw [hrl] at hrow'
          obtain ⟨g, cap, eg, hqc, hgz, hcell⟩ := owns_formG hrow' (by omega)
          obtain ⟨rfl, _, rfl⟩ := Value.slice.inj eg
          have HRA : Hid (RowsAt wr w.heap.size u7 vs (rowsUp h l i) ∧ Below w.heap.size w wr ∧ vs[i]? = some (.slice (some ⟨g, 0, none⟩) q cr)) := ⟨hra, hbr, hvs⟩
          have HCL : Hid (∀ k x, (rowAt h l i)[k]? = some x → wr.cell? ⟨g, k, none⟩ = some (.string x)) := fun k x hx => hcell k _ (by rw [List.getElem?_map, hx]; rfl)
          have HRL : Hid ((rowAt h l i).length = q) := hrl
          have HRZ : Hid (∀ x, x ∈ rowAt h l i → x.size = 32) := rowAt_size hh l i
          have hzw := hbr.size
          obtain ⟨r, hrr⟩ : ∃ r, r = rowAt h l i := ⟨_, rfl⟩
          have HRR : Hid (r = rowAt h l i) := hrr
          rw [← hrr] at HCL HRL HRZ
          generalize wr = wo at *
          clear hra hbr hvs hrow hrow' hcell hrl hrr eg hq x1 x2
          go_wp2_with fail
          go_loopw [8, 9] (fun uv av wr => ∃ t : Nat, t ≤ upN q ∧ av = .int .i64 (4 * t : Nat) ∧ wr.ownsRow wo.heap.size 9 1 uv t (((List.range t).map fun k => h (nodeT (grp r k))).map Value.string) ∧ Below wo.heap.size wo wr) (fun _ av _ => q + 4 - (intOf av).toNat)
          case atStart => exact ⟨0, Nat.zero_le _, rfl, World.ownsRow_nil _ _ _ _, Below.refl _ _⟩
          case round =>
            obtain ⟨t, ht, rfl, hown, hbt⟩ := hrel
            by_cases hlt : 4 * t < q
            · have t1 : ((4 * t : Nat) : Int) < q := by omega
              have t2 : (4 : Int) * (t : Int) < q := by omega
              have hgp := rgroup_any wr g 0 cr q (4 * t) hlt (by omega) hqc
              rw [show 4 * (4 * t / 4) = 4 * t by omega] at hgp
              have hgl : (grp r t).length = min 4 (q - 4 * t) := by rw [grp_length, HRL.out]
              have hfo := tdfour_any Q wr g (0 + 4 * t) (cr - 4 * t) (grp r t) (fun k x hx => by
                have hk : k < 4 := by have := (List.getElem?_eq_some_iff.1 hx).1; omega
                rw [grp_get _ _ _ hk] at hx
                rw [Nat.zero_add]
                exact (hbt.cell (p := ⟨g, 4 * t + k, none⟩) hgz).trans (HCL.out _ _ hx)) (by omega) (fun x hx => by
                have := HRZ.out x (List.mem_of_mem_drop (List.mem_of_mem_take hx))
                omega) (HR.out wr (HRA.out.2.1.trans (hbt.mono hzw)))
              rw [hgl] at hfo
              have HX : Hid (((List.range (t + 1)).map fun k => h (nodeT (grp r k))).map Value.string = ((List.range t).map fun k => h (nodeT (grp r k))).map Value.string ++ [.string (h (nodeT (grp r t)))]) := by
                show _ = _
                rw [List.range_succ, List.map_append, List.map_append]
                rfl
              generalize min 4 (q - 4 * t) = gl at *
              generalize 0 + 4 * t = go at *
              generalize cr - 4 * t = gc at *
              generalize h (nodeT (grp r t)) = y at *
              generalize ((List.range t).map fun k => h (nodeT (grp r k))).map Value.string = ys at *
              obtain ⟨ob, cb, rfl⟩ := owns_slice3 hown
              have HJ : Hid (wr.ownsRow wo.heap.size 9 1 (.slice ob t cb) t ys ∧ Below wo.heap.size wo wr) := ⟨hown, hbt⟩
              have hub : upN q ≤ 300 := by unfold upN; omega
              clear hown hbt hgl
              go_wp2_with fail
              refine hgp.mono ?_
              rintro e w0 ⟨rfl, rfl⟩
              clear hgp
              go_wp2_with fail
              refine hfo.mono ?_
              rintro e w1 ⟨rfl, hb1⟩
              obtain ⟨w2, hw2⟩ : ∃ w2, w1.alloc (.cells #[.string y] 9) = w2 := ⟨_, rfl⟩
              have hown1 : w1.ownsRow wo.heap.size 9 1 (.slice ob t cb) t ys := owns_keepG HJ.out.1 fun g hg => hb1.block g (owns_ltG HJ.out.1 g hg).2
              have hown2 : w2.ownsRow wo.heap.size 9 1 (.slice ob t cb) t ys := by rw [← hw2]; exact hown1.alloc _
              have hn2 : ∀ i u, ([.string y] : List Value)[i]? = some u → w2.cell? ((⟨w1.heap.size, 0, none⟩ : Addr).add i) = some u := by rw [← hw2]; exact cell_one_new w1 (.string y) 9
              have ho2 : ∀ u ∈ ([.string y] : List Value), u.oneCell' = true := by intro u hu; simp at hu; rw [hu]; rfl
              have hB1 : Below wo.heap.size wo w1 := HJ.out.2.trans (hb1.mono HJ.out.2.size)
              have HB : Hid (Below wo.heap.size wo w2) := by rw [← hw2]; exact hB1.alloc hB1.size _
              clear hown1 hB1 hb1 HJ hfo
              go_wp2_with (at_builtin; refine wpList_append_own _ rfl _ _ 22 rfl wo.heap.size 9 i0 (.string ⟨#[]⟩) 1 16 Tryd.underlying22 hi hz0 hz1 hz2 rfl (by decide) (.slice ob t cb) t ys rfl hown2 ⟨w1.heap.size, 0, none⟩ 1 1 _ rfl rfl hn2 ho2 ?b2 ?b3 ?b4 ?_)
              case b2 => unfold maxLen; omega
              case b3 => omega
              case b4 => exact HB.out.size
              intro v3 w3 hown3 hgrow3 _
              have hb3 : Below wo.heap.size wo w3 := HB.out.grown hgrow3 HB.out.size (fun k hk => (owns_ltG hown2 k hk).1)
              have HF : Hid (w3.ownsRow wo.heap.size 9 1 v3 (t + 1) (((List.range (t + 1)).map fun k => h (nodeT (grp r k))).map Value.string) ∧ Below wo.heap.size wo w3) := by
                refine ⟨?_, hb3⟩
                rw [HX.out]
                exact hown3
              clear hown2 hn2 ho2 hown3 hgrow3 hb3 hw2 HB
              go_wp2
              go_roundw
              case rel => exact ⟨t + 1, by unfold upN; omega, by go_num, HF.out⟩
              case measure => simp [intOf]; omega
            · have hte : t = upN q := by unfold upN at *; omega
              have t1 : ¬ ((4 * t : Nat) : Int) < q := by omega
              have t2 : ¬ (4 : Int) * (t : Int) < q := by omega
              have e1 : ((List.range t).map fun k => h (nodeT (grp r k))) = rowAt h l (i + 1) := by
                show _ = upRow h (rowAt h l i)
                rw [← HRR.out, upRow, HRL.out, hte]
              have hul : (rowAt h l (i + 1)).length = t := by rw [← e1]; simp
              have hou : OwnL wr w.heap.size u8 (rowAt h l (i + 1)) := by
                unfold OwnL
                rw [hul, ← e1]
                exact ⟨hown.1, hown.2.imp id fun ⟨g, cap, cur, e, h0, rr⟩ => ⟨g, cap, cur, e, Nat.le_trans hzw h0, rr⟩⟩
              obtain ⟨hra, hbr, hvs⟩ := HRA.out
              have hra2 := hra.below hbt
              have hne : ∀ g, u8.ownBlock = some g → u7.ownBlock ≠ some g := fun g h1 h2 => by
                have a1 := (owns_ltG hown g h1).1
                have a2 := (owns_ltG hra.owns g h2).2
                omega
              have hbr2 : Below w.heap.size w wr := hbr.trans (hbt.mono hzw)
              obtain ⟨ou, cu, rfl⟩ := owns_slice3 hown
              have hrn : (rowsUp h l i).length = i + 1 := rowsUp_length h l i
              have hown7 := hra2.owns
              rw [hrn] at hown7
              obtain ⟨o7, c7, rfl⟩ := owns_slice3 hown7
              obtain ⟨w2, hw2⟩ : ∃ w2, wr.alloc (.cells #[.slice ou t cu] 62) = w2 := ⟨_, rfl⟩
              have hown2 : w2.ownsRow w.heap.size 62 1 (.slice o7 (i + 1) c7) (i + 1) vs := by rw [← hw2]; exact hown7.alloc _
              have hn2 : ∀ i u, ([.slice ou t cu] : List Value)[i]? = some u → w2.cell? ((⟨wr.heap.size, 0, none⟩ : Addr).add i) = some u := by rw [← hw2]; exact cell_one_new wr (.slice ou t cu) 62
              have ho2 : ∀ u ∈ ([.slice ou t cu] : List Value), u.oneCell' = true := by intro u hu; simp at hu; rw [hu]; rfl
              have HB : Hid (Below w.heap.size w w2) := by rw [← hw2]; exact hbr2.alloc hbr2.size _
              have HG2 : Hid (RowsAt wr w.heap.size (.slice o7 (i + 1) c7) vs (rowsUp h l i) ∧ OwnL wr w.heap.size (.slice ou t cu) (rowAt h l (i + 1)) ∧ (∀ g, (Value.slice ou t cu).ownBlock = some g → (Value.slice o7 (i + 1) c7).ownBlock ≠ some g) ∧ vs.length = i + 1 ∧ t = upK j (i + 1)) := ⟨hra2, hou, hne, by rw [hra.len, hrn], by rw [hte, HQ.out]; rfl⟩
              have hi200 : i ≤ 200 := by have := hgt_le j; omega
              have HW2 : Hid (wr.alloc (.cells #[.slice ou t cu] 62) = w2) := hw2
              have htq : t < q := by rw [hte]; unfold upN; omega
              clear hown hbt e1 hul hou hra hbr hvs hra2 hne hbr2 hrn hown7 HRA hte
              go_wp2_with (at_builtin; (refine wpList_append_own_at _ rfl _ _ 59 rfl w.heap.size 62 i1 (.agg #[.slice none 0 0]) 1 24 Tryd.underlying59 hi1 hy0 hy1 hy2 rfl (by decide) (.slice o7 (i + 1) c7) (i + 1) vs rfl hown2 ⟨wr.heap.size, 0, none⟩ 1 1 _ rfl rfl hn2 ho2 ?b2 ?b3 ?b4 ?_))
              case b2 => unfold maxLen; omega
              case b3 => omega
              case b4 => exact HB.out.size
              intro v3 w3 hown3 hgrow3 _ hat3
              have hb3 : Below w.heap.size w w3 := HB.out.grown hgrow3 HB.out.size (fun k hk => (owns_ltG hown2 k hk).1)
              have HF : Hid (RowsAt w3 w.heap.size v3 (vs ++ [.slice ou t cu]) (rowsUp h l (i + 1)) ∧ Below w.heap.size w w3) := by
                refine ⟨?_, hb3⟩
                obtain ⟨g1, g2, g3, g4, g5⟩ := HG2.out
                rw [rowsUp_succ]
                try rw [← HW2.out] at hgrow3
                try rw [← HW2.out] at hat3
                exact g1.append g2 g3 (by rw [rowsUp_length]; exact hown3) hgrow3 hat3
              clear hown2 hn2 ho2 hown3 hgrow3 hat3 hb3 hw2 HB HW2
              go_wp2
              go_roundw
              case rel =>
                obtain ⟨g1, g2, g3, g4, g5⟩ := HG2.out
                exact ⟨i + 1, cu, ou, _, by omega, by rw [g5], by rw [← g5, ← g4, List.getElem?_append_right (Nat.le_refl _), Nat.sub_self]; rfl, HF.out⟩
              case measure => simp [lenOf]; omega
        · have h1i : ¬ (1 : Int) < q := by omega
          obtain rfl := x2 h1
          have HF : Hid (RowsAt wr w.heap.size u7 vs (rowsUp h l (hgt j)) ∧ Below w.heap.size w wr) := ⟨hra, hbr⟩
          clear hra hbr hrow hvs hrl
          go_wp2
          go_ret
          exact ⟨⟨u7, rfl, vs, HF.out.1⟩, HF.out.2⟩
end
end Go.Proofs.YtgokehbdappcdaaDoor
