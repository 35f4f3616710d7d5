/- The law TreeKept, called with any list of texts and any place, returns true, and changes nothing that was there. -/
import Derived.Test.YtmmgpidmeeabeaaShownWalk7
namespace Go.Proofs.Ytmmgpidmeeabeaa
set_option maxRecDepth 20000
open Go.RowKit

/-- How a path looks whose texts may have been bent. -/
def PSh (w : World) (base : Nat) (oa : Option Addr) (ns : List Nat) (bs : Nat → Nat) (ok : Bool) : Prop :=
  ∀ (k n : Nat), ns[k]? = some n → ∃ b, oa = some ⟨b, 0, none⟩ ∧ base ≤ b ∧ b < w.heap.size ∧ w.cell? ⟨b, k * 2 + 1, none⟩ = some (.slice (some ⟨bs k, 0, none⟩) n n) ∧ base ≤ bs k ∧ bs k ≠ b ∧ ∃ r, RowS w (bs k) r ∧ r.length = n ∧ (ok = true → ∀ x, x ∈ r → x.size = 32)
theorem PSh.keep {w w' : World} {base : Nat} {oa : Option Addr} {ns : List Nat} {bs : Nat → Nat} {ok : Bool} (h : PSh w base oa ns bs ok) (hz : w.heap.size ≤ w'.heap.size) (hk : ∀ k, base ≤ k → k < w.heap.size → w'.heap[k]? = w.heap[k]?) : PSh w' base oa ns bs ok := fun k n hn => by
  obtain ⟨b, h1, h2, h3, h4, h5, h6, r, h7, h8, h9⟩ := h k n hn
  exact ⟨b, h1, h2, Nat.lt_of_lt_of_le h3 hz, (cell_kept_1 (hk b h2 h3) _).trans h4, h5, h6, r, h7.keep (hk _ h5 h7.lt), h8, h9⟩
theorem PSh.bend {w : World} {base : Nat} {oa : Option Addr} {ns : List Nat} {bs : Nat → Nat} (h : PSh w base oa ns bs false) {k n : Nat} (hn : ns[k]? = some n) (j : Nat) (y : ByteArray) : PSh (w.setCell ⟨bs k, j, none⟩ (.string y)) base oa ns bs false := fun k' n' hn' => by
  obtain ⟨b0, e1, e2, e3, e4, e5, e6, r0, e7, e8, _⟩ := h k n hn
  obtain ⟨b, h1, h2, h3, h4, h5, h6, r, h7, h8, _⟩ := h k' n' hn'
  obtain rfl : b0 = b := by rw [e1] at h1; exact congrArg Addr.block (Option.some.inj h1)
  refine ⟨b0, e1, e2, by rw [size_setCell]; exact e3, (cell_kept_1 (Below.heap_setCell w ⟨bs k, j, none⟩ _ b0 (fun e => e6 e.symm)) _).trans h4, h5, h6, ?_⟩
  by_cases e : bs k' = bs k
  · rw [e] at h7 ⊢
    exact ⟨_, h7.set j y, by rw [List.length_set]; exact h8, fun hh => by cases hh⟩
  · exact ⟨r, h7.off e j _, h8, fun hh => by cases hh⟩
theorem OwnL.set {w : World} {base g i : Nat} {cap : Nat} {l : List ByteArray} (h : OwnL w base (.slice (some ⟨g, 0, none⟩) l.length cap) l) (y : ByteArray) : OwnL (w.setCell ⟨g, i, none⟩ (.string y)) base (.slice (some ⟨g, 0, none⟩) l.length cap) (l.set i y) := by
  unfold OwnL
  rw [List.length_set]
  refine ⟨by simp, ?_⟩
  rcases h.2 with ⟨e, h0⟩ | ⟨g', cap', cur, e, h0, hg, h1, h2, h3, h4⟩
  · cases e
  · obtain ⟨e1, e2, e3⟩ := Value.slice.inj e
    have e4 := congrArg Addr.block (Option.some.inj e1)
    simp at e4
    subst e4 e3
    refine .inr ⟨g, cap, cur.setIfInBounds i (.string y), rfl, h0, heap_setCell_same w g i cur 9 (.string y) hg, h1, h2, by simp [h3], ?_⟩
    rw [Array.toList_setIfInBounds, List.take_set, h4, List.map_set]
section
variable {σ : Type} {K : HK σ}
def pathF (l : List ByteArray) (i : Int) : Int := if 0 ≤ i ∧ i < (l.length : Nat) then 0 else 2
theorem path_sh (o : HKOk K) {w0 w : World} {F G H : Nat → Prop} {B T : Nat} {S : σ} {l : List ByteArray} (t : TrOn K w0 w F G H B T S l) (i : Int) (hl : l.length ≤ 200) (hn : K.n S ≤ 2000000) :
    Calls Try.prog 11 #[.pointer (some ⟨T, 0, none⟩), .int .i64 i] w fun e w' => (∃ oa ns bs, e = .returned (.tuple #[.slice oa ns.length ns.length, .int .i64 (pathF l i)]) ∧ ns.length ≤ 200 ∧ (∀ n, n ∈ ns → n ≤ 4) ∧ PSh w' w.heap.size oa ns bs true) ∧ Below w.heap.size w w' := by
  by_cases hi : 0 ≤ i ∧ i < (l.length : Nat)
  · obtain ⟨k, rfl⟩ : ∃ k : Nat, i = k := ⟨i.toNat, by omega⟩
    have hk : k < l.length := by omega
    refine (path_yes t k hl hk).mono ?_
    rintro e w' ⟨⟨b, bs, rfl, hpo⟩, hb⟩
    have hlp := path_leads t.tin (fun x hx => o.size S x hx hn) k hk
    refine ⟨⟨some ⟨b, 0, none⟩, (pathOf (K.h S) l k).map (·.sides.length), bs, ?_, ?_, ?_, ?_⟩, hb⟩
    · unfold pathF; rw [if_pos hi, List.length_map]
    · rw [List.length_map, pathOf_length]; have := hgt_le l.length; omega
    · intro n hn'
      obtain ⟨s, hs, rfl⟩ := List.mem_map.1 hn'
      obtain ⟨j, hj, rfl⟩ := List.mem_iff_getElem.1 hs
      have := (hlp.2 j _ (List.getElem?_eq_getElem hj)).2.1
      unfold fourN at this
      omega
    · intro j n hj
      rw [List.getElem?_map] at hj
      obtain ⟨s, hs, rfl⟩ := Option.map_eq_some_iff.1 hj
      have hjl := (List.getElem?_eq_some_iff.1 hs).1
      exact ⟨b, rfl, hpo.low, Row.lt hpo.row, (hpo.cells hs).2, (hpo.lows j hjl).1, (hpo.lows j hjl).2, s.sides, hpo.sides j s hjl hs, rfl, fun _ => (hlp.2 j s hs).2.2⟩
  · refine (path_no t i hi).mono ?_
    rintro e w' ⟨rfl, rfl⟩
    refine ⟨⟨none, [], fun _ => 0, ?_, by simp, fun n hn => by simp at hn, fun k n hn => by simp at hn⟩, Below.refl _ _⟩
    unfold pathF
    rw [if_neg hi]
    rfl
theorem TrOn.apart (o : HKOk K) {w0 w w' : World} {F G H : Nat → Prop} {B T : Nat} {S : σ} {l : List ByteArray} (t : TrOn K w0 w F G H B T S l) (hz : w.heap.size ≤ w'.heap.size) (hk : ∀ k, k < w.heap.size → F k ∨ H k → w'.heap[k]? = w.heap[k]?) (hb : Below w0.heap.size w0 w') : TrOn K w0 w' F G H B T S l := by
  obtain ⟨rv, gs, htr⟩ := t.tree
  exact ⟨o.keep t.v fun k h1 h2 => hk k h1 (.inl h2), ⟨rv, gs, htr.keep fun k h1 h2 => hk k h1 (.inr h2)⟩, t.tin, t.gH, fun k h => ⟨(t.gLow k h).1, Nat.lt_of_lt_of_le (t.gLow k h).2 hz⟩, fun k h => ⟨(t.hLow k h).1, Nat.lt_of_lt_of_le (t.hLow k h).2 hz⟩, fun k h => ⟨(t.fH k h).1, Nat.lt_of_lt_of_le (t.fH k h).2 hz⟩, hb⟩
end
def bentT : ByteArray := ⟨#[98, 101, 110, 116]⟩
theorem bent_list : bentT.toList = [98, 101, 110, 116] := by rw [ByteArray.toList_eq]; rfl
theorem not_bent {x : ByteArray} (h : x.size = 32) : (x.toList == [98, 101, 110, 116]) = false := by
  rw [← bent_list, cmp_is]
  refine decide_eq_false fun e => ?_
  rw [e] at h
  exact absurd h (by decide)
set_option maxHeartbeats 4000000 in
theorem walk_treeKept (v : Value) (l0 : List ByteArray) (i : Int) (w : World) (hv : StrsV w v l0) :
    Calls Try.prog 6 #[v, .int .i64 i] w fun e w' => e = .returned (.bool true) ∧ Below w.heap.size w w' := by
  have hs1 := some_any v l0 30 (by decide) w hv
  obtain ⟨l, hA⟩ : ∃ l, l = someL l0 30 := ⟨_, rfl⟩
  have hal : l.length ≤ 30 := by rw [hA, someL_length]; omega
  have haz : ∀ x, x ∈ l → x.size ≤ 1000 := fun x hx => by rw [hA] at hx; have := someL_size l0 30 x hx; omega
  rw [← hA] at hs1
  clear hv hA
  go_enter Try.func6, Try.ntmps6
  go_wp2_with fail
  refine hs1.mono ?_
  rintro e w1 ⟨⟨va1, rfl, ho1⟩, hb1⟩
  obtain ⟨oa, ca, rfl⟩ := OwnL.form ho1
  clear hs1
  go_wp2_with fail
  refine (ideal_any w1).mono ?_
  rintro e w2 ⟨B, rfl, hp2, hb2⟩
  have hz1 := hb1.size
  have hz2 := hb2.size
  have oA : OwnL w2 w.heap.size (.slice oa l.length ca) l := OwnL.keep ho1 fun k _ hk _ => hb2.block k hk
  have nA : ∀ k, (Value.slice oa l.length ca).ownBlock = some k → k < w1.heap.size := fun k hk => (OwnL.lt ho1 hk).2
  have hnw := new_on idealOk (w0 := w) (w := w2) (F := fun k => w1.heap.size ≤ k ∧ k < w2.heap.size) (G := fun k => w1.heap.size ≤ k ∧ k < w2.heap.size) (B := B) (S := newV) oa ca l (oA.lv fun k hk hg => absurd (nA k hk) (by omega)) (by omega) haz (by decide) (fun k hk => by omega) (fun k hk => by omega) ⟨hp2, fun _ h => h⟩ (hb1.trans (hb2.mono hz1))
  clear hb1 hb2 ho1 hp2
  go_wp2_with fail
  refine hnw.mono ?_
  rintro e w3 ⟨S3, T, rfl, on3, t3, x3, n3⟩
  have n3' : idealK.n S3 ≤ 40200 := by have : idealK.n newV = 0 := rfl; omega
  have hrt := root_on idealOk on3 (by omega) (by omega)
  have oA3 : OwnL w3 w.heap.size (.slice oa l.length ca) l := OwnL.keep oA fun k _ hk hk2 => t3.2 k hk fun hg => absurd (nA k hk2) (by omega)
  have hz3 := t3.size
  have HFA : Hid (∀ k, (fun k => w1.heap.size ≤ k ∧ k < w2.heap.size) k ∨ (fun k => w2.heap.size ≤ k ∧ k < w3.heap.size) k → (Value.slice oa l.length ca).ownBlock ≠ some k) := fun k hk e => by have := nA k e; simp only at hk; omega
  have HGA : Hid (∀ k, (Value.slice oa l.length ca).ownBlock = some k → ¬ (fun k => w1.heap.size ≤ k ∧ k < w2.heap.size) k) := fun k hk hg => absurd (nA k hk) (Nat.not_lt_of_le hg.1)
  generalize (fun k => w2.heap.size ≤ k ∧ k < w3.heap.size) = H at *
  generalize (fun k => w1.heap.size ≤ k ∧ k < w2.heap.size) = F at *
  clear hnw x3 n3 t3 oA
  go_wp2_with fail
  refine hrt.mono ?_
  rintro e w4 ⟨S4, rfl, on4, t4, x4, d4, n4⟩
  have hpt := path_sh idealOk on4 i (by omega) (by omega)
  have oA4 : OwnL w4 w.heap.size (.slice oa l.length ca) l := OwnL.keep oA3 fun k _ hk hk2 => t4.2 k hk (HGA.out k hk2)
  have nA4 : ∀ k, (Value.slice oa l.length ca).ownBlock = some k → k < w4.heap.size := fun k hk => (OwnL.lt oA4 hk).2
  obtain ⟨RA, hRA⟩ : ∃ R, R = idealK.h S4 (rootT l.length (topS (idealK.h S4) l)) := ⟨_, rfl⟩
  have HRA : Hid (RA = idealK.h S4 (rootT l.length (topS (idealK.h S4) l)) ∧ idealK.D S4 (rootT l.length (topS (idealK.h S4) l))) := ⟨hRA, d4⟩
  have HON4 : Hid (TrOn idealK w w4 F F H B T S4 l) := on4
  have HOA4 : Hid (OwnL w4 w.heap.size (.slice oa l.length ca) l) := oA4
  rw [← hRA]
  obtain ⟨pf, hpf⟩ : ∃ x, x = pathF l i := ⟨_, rfl⟩
  have HPF : Hid (pathF l i = pf) := hpf.symm
  rw [← hpf] at hpt
  clear hpf
  obtain ⟨n, hn⟩ : ∃ n, n = l.length := ⟨_, rfl⟩
  have HN : Hid (n = l.length) := hn
  rw [← hn] at hal nA4 HOA4 HFA ⊢
  clear hrt on3 on4 t4 x4 d4 oA3 oA4 hRA HGA nA hn
  go_wp2_with fail
  refine hpt.mono ?_
  rintro e w5 ⟨⟨op, ns, bs, rfl, hnl, hns, hsh⟩, hb5⟩
  have HI : Hid (PSh w5 w4.heap.size op ns bs false ∧ Below w4.heap.size w4 w5) := ⟨fun k n hn => by obtain ⟨b, h1, h2, h3, h4, h5, h6, r, h7, h8, h9⟩ := hsh k n hn; exact ⟨b, h1, h2, h3, h4, h5, h6, r, h7, h8, fun h => by cases h⟩, hb5⟩
  clear hpt hsh hb5
  go_wp2_with fail
  go_loopw [10] (fun kv wr => ∃ k : Nat, k ≤ ns.length ∧ kv = .int .i64 (k : Int) ∧ PSh wr w4.heap.size op ns bs false ∧ Below w4.heap.size w4 wr) (fun kv _ => ns.length - (intOf kv).toNat)
  case atStart => exact ⟨0, Nat.zero_le _, rfl, HI.out⟩
  case round =>
    clear HI
    obtain ⟨k, hk, rfl, hsh, hbr⟩ := hrel
    by_cases hlt : k < ns.length
    · have k1 : (k : Int) < (ns.length : Nat) := by omega
      obtain ⟨m, hm⟩ : ∃ m, ns[k]? = some m := ⟨_, List.getElem?_eq_getElem hlt⟩
      have hm4 : m ≤ 4 := hns m (List.mem_of_getElem? hm)
      have HI : Hid (PSh wr w4.heap.size op ns bs false ∧ Below w4.heap.size w4 wr) := ⟨hsh, hbr⟩
      obtain ⟨b, rfl, _⟩ := hsh k m hm
      generalize wr = wo at *
      clear hsh hbr
      go_wp2_with fail
      go_loopw [11] (fun jv wr => ∃ j : Nat, j ≤ m ∧ jv = .int .i64 (j : Int) ∧ PSh wr w4.heap.size (some ⟨b, 0, none⟩) ns bs false ∧ Below w4.heap.size w4 wr) (fun jv _ => m - (intOf jv).toNat)
      case atStart => exact ⟨0, Nat.zero_le _, rfl, HI.out⟩
      case round =>
        clear HI
        obtain ⟨j, hj, rfl, hsh, hbr⟩ := hrel
        obtain ⟨b', eb, h2, h3, h4, h5, h6, r, h7, h8, _⟩ := hsh k m hm
        obtain rfl : b = b' := congrArg Addr.block (Option.some.inj eb)
        by_cases hlt2 : j < m
        · have j1 : (j : Int) < m := by omega
          have cj := h7.cell (i := j) (x := r[j]) (List.getElem?_eq_getElem (by omega))
          have fj := h7.frozen j
          have HF : Hid (PSh (wr.setCell ⟨bs k, j, none⟩ (.string bentT)) w4.heap.size (some ⟨b, 0, none⟩) ns bs false ∧ Below w4.heap.size w4 (wr.setCell ⟨bs k, j, none⟩ (.string bentT))) := ⟨hsh.bend hm j bentT, hbr.setCell (p := ⟨bs k, j, none⟩) h5 _⟩
          generalize r[j] = rj at *
          generalize bs k = bk at *
          clear hsh hbr h7 h8 h6 h5
          go_wp2
          go_roundw
          case rel => exact ⟨j + 1, by omega, by go_num, HF.out⟩
          case measure => simp [intOf]; omega
        · obtain rfl : j = m := by omega
          have j1 : ¬ (j : Int) < j := by omega
          have HF : Hid (PSh wr w4.heap.size (some ⟨b, 0, none⟩) ns bs false ∧ Below w4.heap.size w4 wr) := ⟨hsh, hbr⟩
          generalize hbk : bs k = bk at h4
          clear hsh hbr h7 h6 h5
          go_wp2
          go_roundw
          case rel => exact ⟨k + 1, by omega, by go_num, HF.out⟩
          case measure => simp [intOf]; omega
    · obtain rfl : k = ns.length := by omega
      have k1 : ¬ ((ns.length : Nat) : Int) < ((ns.length : Nat) : Int) := by omega
      have on6 := HON4.out.beneath idealOk hbr
      have hpt := path_sh idealOk on6 i (by rw [← HN.out]; omega) (by omega)
      rw [HPF.out] at hpt
      have HB6 : Hid (Below w4.heap.size w4 wr) := hbr
      have HON6 : Hid (TrOn idealK w wr F F H B T S4 l) := on6
      have hz6 := hbr.size
      generalize wr = w6 at *
      clear hsh hbr on6
      go_wp2_with fail
      refine hpt.mono ?_
      rintro e w7 ⟨⟨oq, ms, cs, rfl, hml, hms, hsh⟩, hb7⟩
      have hz7 := hb7.size
      have oA7 : OwnL w7 w.heap.size (.slice oa n ca) l := by
        have h1 := HOA4.out
        rw [HN.out] at h1 ⊢
        exact OwnL.keep h1 fun q _ hq _ => (hb7.block q (by omega)).trans (HB6.out.block q hq)
      have HON7 : Hid (TrOn idealK w w7 F F H B T S4 l) := HON6.out.beneath idealOk hb7
      have HSH : Hid (PSh w7 w6.heap.size oq ms cs true) := hsh
      have HI : Hid (OwnL w7 w.heap.size (.slice oa n ca) l) := oA7
      clear hpt hsh hb7 HON6 HB6 oA7
      go_wp2_with fail
      go_loopw [14] (fun kv wr => ∃ (k : Nat) (l' : List ByteArray), k ≤ n ∧ kv = .int .i64 (k : Int) ∧ l'.length = n ∧ OwnL wr w.heap.size (.slice oa l'.length ca) l' ∧ (∀ q, (Value.slice oa n ca).ownBlock ≠ some q → wr.heap[q]? = w7.heap[q]?) ∧ wr.heap.size = w7.heap.size ∧ Below w.heap.size w wr) (fun kv _ => n - (intOf kv).toNat)
      case atStart => exact ⟨0, l, Nat.zero_le _, rfl, HN.out.symm, by rw [← HN.out]; exact HI.out, fun _ _ => rfl, rfl, HON7.out.below⟩
      case round =>
        clear HI
        obtain ⟨k, l', hk', rfl, hl', hown, hoth, hsz, hbr⟩ := hrel
        by_cases hlt3 : k < n
        · have k3 : (k : Int) < n := by omega
          obtain ⟨g, rfl, hg1, hg2, hc, hf⟩ := hown.cell (List.getElem?_eq_getElem (show k < l'.length by omega))
          have HF : Hid (OwnL (wr.setCell ⟨g, k, none⟩ (.string bentT)) w.heap.size (.slice (some ⟨g, 0, none⟩) (l'.set k bentT).length ca) (l'.set k bentT) ∧ (l'.set k bentT).length = n ∧ (∀ q, (Value.slice (some ⟨g, 0, none⟩) n ca).ownBlock ≠ some q → (wr.setCell ⟨g, k, none⟩ (.string bentT)).heap[q]? = w7.heap[q]?) ∧ (wr.setCell ⟨g, k, none⟩ (.string bentT)).heap.size = w7.heap.size ∧ Below w.heap.size w (wr.setCell ⟨g, k, none⟩ (.string bentT))) := by
            refine ⟨?_, by rw [List.length_set]; exact hl', fun q hq => ?_, by rw [size_setCell]; exact hsz, hbr.setCell (p := ⟨g, k, none⟩) hg1 _⟩
            · have := hown.set (i := k) bentT
              rw [List.length_set]
              exact this
            · rw [Below.heap_setCell wr ⟨g, k, none⟩ _ q (fun e => hq (by rw [e]; rfl))]
              exact hoth q hq
          generalize l'[k] = lk at *
          clear hown hoth hbr
          go_wp2
          go_roundw
          case rel => exact ⟨k + 1, _, by omega, by go_num, HF.out.2.1, HF.out.1, HF.out.2.2⟩
          case measure => simp [intOf]; omega
        · obtain rfl : k = n := by omega
          have k3 : ¬ (k : Int) < k := by omega
          have HON8 : Hid (TrOn idealK w wr F F H B T S4 l) := HON7.out.apart idealOk (by omega) (fun q _ hq => hoth q (HFA.out q hq)) hbr
          have HSH8 : Hid (PSh wr w6.heap.size oq ms cs true) := HSH.out.keep (by omega) fun q hq _ => hoth q fun e => absurd (nA4 q e) (by omega)
          generalize wr = w8 at *
          clear hown hoth hbr HON7 HSH
          go_wp2_with fail
          go_loopw [15, 16] (fun bv kv wr => ∃ k' : Nat, k' ≤ ms.length ∧ kv = .int .i64 (k' : Int) ∧ bv = .bool false ∧ wr = w8) (fun _ kv _ => ms.length - (intOf kv).toNat)
          case atStart => exact ⟨0, Nat.zero_le _, rfl, rfl, rfl⟩
          case round =>
            obtain ⟨k', hk'', rfl, rfl, rfl⟩ := hrel
            by_cases hlt4 : k' < ms.length
            · have k4 : (k' : Int) < (ms.length : Nat) := by omega
              obtain ⟨m, hm⟩ : ∃ m, ms[k']? = some m := ⟨_, List.getElem?_eq_getElem hlt4⟩
              have hm4 : m ≤ 4 := hms m (List.mem_of_getElem? hm)
              obtain ⟨b, rfl, h2, h3, h4, h5, h6, r, h7, h8, h9⟩ := HSH8.out k' m hm
              have HR : Hid (RowS wr (cs k') r ∧ r.length = m ∧ ∀ x, x ∈ r → x.size = 32) := ⟨h7, h8, h9 rfl⟩
              generalize wr = wo at *
              generalize hck : cs k' = ck at *
              clear h7 h8 h9 h6 h5
              go_wp2_with fail
              go_loopw [15, 17] (fun bv jv wr => ∃ j : Nat, j ≤ m ∧ jv = .int .i64 (j : Int) ∧ bv = .bool false ∧ wr = wo) (fun _ jv _ => m - (intOf jv).toNat)
              case atStart => exact ⟨0, Nat.zero_le _, rfl, rfl, rfl⟩
              case round =>
                obtain ⟨j, hj, rfl, rfl, rfl⟩ := hrel
                by_cases hlt5 : j < m
                · have j1 : (j : Int) < m := by omega
                  have cj := HR.out.1.cell (i := j) (x := r[j]'(by have := HR.out.2.1; omega)) (List.getElem?_eq_getElem _)
                  have hb32 := not_bent (HR.out.2.2 (r[j]'(by have := HR.out.2.1; omega)) (List.getElem_mem _))
                  generalize r[j]'(by have := HR.out.2.1; omega) = rj at *
                  have HB33 : Hid ((rj.toList == [98, 101, 110, 116]) = false) := hb32
                  clear hb32
                  go_wp2
                  go_roundw
                  case rel => exact ⟨j + 1, by omega, by go_num, congrArg Value.bool HB33.out, trivial⟩
                  case measure => simp [intOf]; omega
                · obtain rfl : j = m := by omega
                  have j1 : ¬ (j : Int) < j := by omega
                  go_wp2
                  go_roundw
                  case rel => exact ⟨k' + 1, by omega, by go_num, rfl, trivial⟩
                  case measure => simp [intOf]; omega
            · obtain rfl : k' = ms.length := by omega
              have k4 : ¬ ((ms.length : Nat) : Int) < ((ms.length : Nat) : Int) := by omega
              have hrt := root_on idealOk HON8.out (by rw [← HN.out]; omega) (by omega)
              go_wp2_with fail
              refine hrt.mono ?_
              rintro e w9 ⟨S9, rfl, on9, t9, x9, d9, n9⟩
              have hcm := cmp_is (idealK.h S9 (rootT l.length (topS (idealK.h S9) l))) RA
              have hde : idealK.h S9 (rootT l.length (topS (idealK.h S9) l)) = RA := by
                have t4 : TreeIn (idealK.D S4) (idealK.h S4) l := HON4.out.tin
                rw [HRA.out.1, top_same t4 fun x hx => (x9 x hx).2, (x9 _ HRA.out.2).2]
              rw [decide_eq_true hde] at hcm
              have HB9 : Hid (Below w.heap.size w w9) := on9.below
              generalize idealK.h S9 (rootT l.length (topS (idealK.h S9) l)) = RB at *
              clear hde on9 t9 x9 d9 n9 hrt
              go_wp2_with fail
              refine (tawake_any _).mono ?_
              rintro e w10 ⟨rfl, hb10⟩
              have HF : Hid (Below w.heap.size w w10) := HB9.out.trans (hb10.mono HB9.out.size)
              clear hb10
              go_wp2
              go_ret
              exact ⟨rfl, HF.out⟩
end Go.Proofs.Ytmmgpidmeeabeaa
