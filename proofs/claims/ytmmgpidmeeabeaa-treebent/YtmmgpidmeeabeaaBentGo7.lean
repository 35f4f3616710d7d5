/- The law TreeBent, called with any texts and any question, returns true, and changes nothing that was there: the walk. -/
import Derived.Test.YtmmgpidmeeabeaaBentWalk7
namespace Go.Proofs.Ytmmgpidmeeabeaa
set_option maxRecDepth 20000
open Go.RowKit

theorem bent_path {w : World} {base b a bk ok : Nat} {bs : Nat → Nat} {p : List Stp} {G : Nat → Prop} {st : Stp} (h : PathOwn w base b bs p p.length) (hG : ∀ k, G k → k < base) (hz : ∀ s, s ∈ p → s.sides.length ≤ 1000000) (hst : StepIn w G bk ok st) (hlow : ∀ (ob : Option Addr) (cb : Nat), w.cell? ⟨bk, ok + 1, none⟩ = some (.slice ob st.sides.length cb) → ∀ b2 o2, ob = some ⟨b2, o2, none⟩ → 0 < st.sides.length → b2 < base) {ob : Option Addr} {cb : Nat} (hc : w.cell? ⟨bk, ok + 1, none⟩ = some (.slice ob st.sides.length cb)) :
    PathIn ((w.setCell ⟨b, a * 2, none⟩ (.int .i64 st.at_)).setCell ⟨b, a * 2 + 1, none⟩ (.slice ob st.sides.length cb)) G (some ⟨b, 0, none⟩) (p.set a st) := fun k s hs => by
  have hrow := Row.setF (Row.setF h.row (a * 2) (.int .i64 st.at_)) (a * 2 + 1) (.slice ob st.sides.length cb)
  have hkl : k < p.length := by have := (List.getElem?_eq_some_iff.1 hs).1; simpa using this
  have hsz : ((w.setCell ⟨b, a * 2, none⟩ (.int .i64 st.at_)).setCell ⟨b, a * 2 + 1, none⟩ (.slice ob st.sides.length cb)).heap.size = w.heap.size := by rw [size_setCell, size_setCell]
  have hoff : ∀ q, q ≠ b → ((w.setCell ⟨b, a * 2, none⟩ (.int .i64 st.at_)).setCell ⟨b, a * 2 + 1, none⟩ (.slice ob st.sides.length cb)).heap[q]? = w.heap[q]? := fun q hq => by
    rw [Below.heap_setCell _ _ _ _ (show q ≠ (⟨b, a * 2 + 1, none⟩ : Addr).block from hq), Below.heap_setCell _ _ _ _ (show q ≠ (⟨b, a * 2, none⟩ : Addr).block from hq)]
  refine ⟨b, 0, rfl, by rw [hsz]; exact Row.lt h.row, fun hg => absurd (hG b hg) (Nat.not_lt_of_le h.low), ?_⟩
  rw [Nat.zero_add]
  have c1 := Row.cellF hrow (k * 2) (by omega)
  have c2 := Row.cellF hrow (k * 2 + 1) (by omega)
  by_cases e : k = a
  · subst e
    rw [List.getElem?_set_self hkl] at hs
    obtain rfl := Option.some.inj hs
    rw [if_neg (by omega), if_pos rfl] at c1
    rw [if_pos rfl] at c2
    obtain ⟨_, ob', cb', h2, h3, h4, h5, h6⟩ := hst
    rw [hc] at h2
    obtain ⟨rfl, _, rfl⟩ := Value.slice.inj (Option.some.inj h2)
    refine ⟨c1, ob, cb, c2, h3, h4, h5, fun i x hx => ?_⟩
    obtain ⟨b2, o2, e1, e2, e3, e4⟩ := h6 i x hx
    have hb2 := hlow ob cb hc b2 o2 e1 (Nat.lt_of_le_of_lt (Nat.zero_le i) (List.getElem?_eq_some_iff.1 hx).1)
    exact ⟨b2, o2, e1, by rw [hsz]; exact e2, e3, (World.cell?_of_block (a := ⟨b2, o2 + i, none⟩) (hoff b2 (by have := h.low; omega))).trans e4⟩
  · rw [List.getElem?_set_ne (fun h => e h.symm)] at hs
    rw [if_neg (by omega), if_neg (by omega)] at c1
    rw [if_neg (by omega), if_neg (by omega)] at c2
    obtain ⟨g1, g2⟩ := h.cells hs
    have r1 := Row.cellF h.row (k * 2) (by omega)
    have r2 := Row.cellF h.row (k * 2 + 1) (by omega)
    rw [← r1, g1] at c1
    rw [← r2, g2] at c2
    have hlz := hz s (List.mem_of_getElem? hs)
    refine ⟨c1, _, _, c2, Nat.le_refl _, by omega, (fun e => by cases e), fun i x hx => ?_⟩
    have hr := h.sides k s hkl hs
    exact ⟨bs k, 0, rfl, by rw [hsz]; exact hr.lt, fun hg => absurd (hG _ hg) (Nat.not_lt_of_le (h.lows k hkl).1), by rw [Nat.zero_add]; exact (World.cell?_of_block (a := ⟨bs k, i, none⟩) (hoff _ (h.lows k hkl).2)).trans (hr.cell hx)⟩
theorem trOn_apart {σ : Type} {K : HK σ} (o : HKOk K) {w0 w w' : World} {F G H : Nat → Prop} {B T : Nat} {S : σ} {l : List ByteArray} (t : TrOn K w0 w F G H B T S l) (hz : w.heap.size ≤ w'.heap.size) (hk : ∀ k, k < w.heap.size → F k ∨ H k → w'.heap[k]? = w.heap[k]?) (hb : Below w0.heap.size w0 w') : TrOn K w0 w' F G H B T S l := by
  obtain ⟨rv, gs, htr⟩ := t.tree
  exact ⟨o.keep t.v fun k h1 h2 => hk k h1 (.inl h2), ⟨rv, gs, htr.keep fun k h1 h2 => hk k h1 (.inr h2)⟩, t.tin, t.gH, fun k h => ⟨(t.gLow k h).1, Nat.lt_of_lt_of_le (t.gLow k h).2 hz⟩, fun k h => ⟨(t.hLow k h).1, Nat.lt_of_lt_of_le (t.hLow k h).2 hz⟩, fun k h => ⟨(t.fH k h).1, Nat.lt_of_lt_of_le (t.fH k h).2 hz⟩, hb⟩
set_option maxHeartbeats 8000000 in
theorem walk_treeBent (x : BendV) (w : World) (hx : x.Ok w) :
    Calls Try.prog 4 #[.agg x.arr] w fun e w' => e = .returned (.bool true) ∧ Below w.heap.size w w' := by
  obtain ⟨vL, L0, I, s, vP, P0, At, Nn, Pl⟩ := x
  have hL : StrsV w vL L0 := hx.1
  have hP : StepsV w vP P0 := hx.2
  simp only [BendV.arr]
  clear hx
  obtain ⟨oP, cP, rfl⟩ := hP.form
  obtain ⟨oL, cL, rfl⟩ := hL.form
  obtain ⟨W0, hW0⟩ : ∃ W0, w.alloc (.cells #[.slice oL L0.length cL, .int .i64 I, .string s, .slice oP P0.length cP, .int .i64 At, .int .i64 Nn, .int .i64 Pl] 37) = W0 := ⟨_, rfl⟩
  have g0 : W0.heap[w.heap.size]? = some (.cells #[.slice oL L0.length cL, .int .i64 I, .string s, .slice oP P0.length cP, .int .i64 At, .int .i64 Nn, .int .i64 Pl] 37 (0, 0)) := by rw [← hW0]; exact heap_alloc_new w _
  have hB0 : Below w.heap.size w W0 := by rw [← hW0]; exact (Below.refl _ _).alloc (Nat.le_refl _) _
  have l0 := lt_of_block g0
  have hs1 := some_any (.slice oL L0.length cL) L0 60 (by decide) W0 (StrsV.later hL hB0)
  have c0 : W0.cell? ⟨w.heap.size, 0, none⟩ = some (.slice oL L0.length cL) := cell_of_row _ _ _ _ _ _ g0
  obtain ⟨l, hA⟩ : ∃ l, l = someL L0 60 := ⟨_, rfl⟩
  have hal : l.length ≤ 60 := by rw [hA, someL_length]; omega
  have haz : ∀ x, x ∈ l → x.size ≤ 1000 := fun x hx => by rw [hA] at hx; have := someL_size L0 60 x hx; omega
  rw [← hA] at hs1
  have HB0 : Hid (Below w.heap.size w W0) := hB0
  have HP : Hid (StepsV w (.slice oP P0.length cP) P0) := hP
  clear hL hP hA hB0
  obtain ⟨p0, hp0⟩ : ∃ p0, p0 = P0.length := ⟨_, rfl⟩
  have HP0 : Hid (p0 = P0.length) := hp0
  rw [← hp0] at g0 hW0 ⊢
  clear hp0
  generalize L0.length = L0l at *
  go_enter Try.func4, Try.ntmps4
  go_wp2_with fail
  try rw [hW0]
  refine hs1.mono ?_
  rintro e w1 ⟨⟨va1, rfl, ho1⟩, hb1⟩
  obtain ⟨oa, ca, rfl⟩ := OwnL.form ho1
  have g1 := (hb1.block _ l0).trans g0
  have c1 : w1.cell? ⟨w.heap.size, 1, none⟩ = some (.int .i64 I) := cell_of_row _ _ _ _ _ _ g1
  have c2 : w1.cell? ⟨w.heap.size, 2, none⟩ = some (.string s) := cell_of_row _ _ _ _ _ _ g1
  have c3 : w1.cell? ⟨w.heap.size, 3, none⟩ = some (.slice oP p0 cP) := cell_of_row _ _ _ _ _ _ g1
  have c4 : w1.cell? ⟨w.heap.size, 4, none⟩ = some (.int .i64 At) := cell_of_row _ _ _ _ _ _ g1
  have c5 : w1.cell? ⟨w.heap.size, 5, none⟩ = some (.int .i64 Nn) := cell_of_row _ _ _ _ _ _ g1
  have c6 : w1.cell? ⟨w.heap.size, 6, none⟩ = some (.int .i64 Pl) := cell_of_row _ _ _ _ _ _ g1
  have HB1 : Hid (Below w.heap.size w w1) := HB0.out.trans (hb1.mono HB0.out.size)
  have HO1 : Hid (OwnL w1 W0.heap.size (.slice oa l.length ca) l) := ho1
  have hz1 := hb1.size
  clear hs1 hW0 c0 hb1 ho1 g0 g1
  go_wp2_with fail
  go_quiet (fail)
  clear c1 c2 c3 c4 c5 c6
  by_cases hsm : s.size ≤ 64 ∧ p0 ≤ 12
  case neg =>
    have hway : (64 : Int) < s.size ∨ (¬ (64 : Int) < s.size ∧ (12 : Int) < (p0 : Nat)) := by omega
    rcases hway with h1 | ⟨h1, h2⟩
    all_goals
      go_wp2_with fail
      refine (tawake_any _).mono ?_
      rintro e w8 ⟨rfl, hb8⟩
      have HF : Hid (Below w.heap.size w w8) := (below_drewN HB1.out _).trans (hb8.mono HB1.out.size)
      clear hb8
      go_wp2
      go_ret
      exact ⟨rfl, HF.out⟩
  obtain ⟨hs64, hp12⟩ := hsm
  have n1 : ¬ (64 : Int) < s.size := by omega
  have n2 : ¬ (12 : Int) < (p0 : Nat) := by omega
  have HBD : Hid (Below w.heap.size w (w1.drewN nq) ∧ OwnL (w1.drewN nq) W0.heap.size (.slice oa l.length ca) l ∧ (w1.drewN nq).heap.size = w1.heap.size) := ⟨below_drewN HB1.out nq, OwnL.keep HO1.out fun _ _ _ _ => rfl, rfl⟩
  go_wp2_with fail
  generalize w1.drewN nq = wd at *
  refine (ideal_any wd).mono ?_
  rintro e w2 ⟨B, rfl, hp2, hb2⟩
  obtain ⟨hbd, hod, hzd⟩ := HBD.out
  have hz0 := HB0.out.size
  have hz2 := hb2.size
  have oA : OwnL w2 W0.heap.size (.slice oa l.length ca) l := OwnL.keep hod fun k _ hk _ => hb2.block k hk
  have nA : ∀ k, (Value.slice oa l.length ca).ownBlock = some k → k < wd.heap.size := fun k hk => (OwnL.lt hod hk).2
  have hnw := new_on idealOk (w0 := w) (w := w2) (F := fun k => wd.heap.size ≤ k ∧ k < w2.heap.size) (G := fun k => wd.heap.size ≤ k ∧ k < w2.heap.size) (B := B) (S := newV) oa ca l (oA.lv fun k hk hg => absurd (nA k hk) (by omega)) (by omega) haz (by decide) (fun k hk => by omega) (fun k hk => by omega) ⟨hp2, fun _ h => h⟩ (hbd.trans (hb2.mono hbd.size))
  have HP2 : Hid (StepsV w (.slice oP P0.length cP) P0) := HP.out
  obtain ⟨n, hn⟩ : ∃ n, n = l.length := ⟨_, rfl⟩
  have HN : Hid (n = l.length) := hn
  have HOA : Hid (OwnL w2 W0.heap.size (.slice oa l.length ca) l) := oA
  rw [← hn] at hnw hal nA ⊢
  clear hbd hod oA hn hp2 hb2 HBD HB1 HO1 HP
  go_wp2_with fail
  refine hnw.mono ?_
  rintro e w3 ⟨S3, T, rfl, on3, t3, x3, n3⟩
  have n3' : idealK.n S3 ≤ 40200 := by have : idealK.n newV = 0 := rfl; omega
  have hz3 := t3.size
  have HG : Hid (∀ k, (fun k => wd.heap.size ≤ k ∧ k < w2.heap.size) k → w.heap.size ≤ k ∧ k < w3.heap.size ∧ (Value.slice oa n ca).ownBlock ≠ some k) := fun k hk => ⟨by have := hk.1; omega, by have := hk.2; omega, fun e => absurd (nA k e) (Nat.not_lt_of_le hk.1)⟩
  have HOA3 : Hid (OwnL w3 W0.heap.size (.slice oa l.length ca) l) := OwnL.keep HOA.out fun k _ hk hk2 => t3.2 k hk fun hg => absurd (nA k (by rw [HN.out]; exact hk2)) (by omega)
  have HPI3 : Hid (PathIn w3 (fun k => wd.heap.size ≤ k ∧ k < w2.heap.size) oP P0) := (HP2.out.pathIn (G := fun k => wd.heap.size ≤ k ∧ k < w2.heap.size) (fun k hk hg => by omega)).touch ⟨on3.below.mono (Nat.zero_le _), fun k hk _ => on3.below.block k hk⟩
  have HH : Hid (∀ k, (fun k => w2.heap.size ≤ k ∧ k < w3.heap.size) k → k < w3.heap.size) := fun k hk => hk.2
  have HOL : Hid (∀ k, (Value.slice oa l.length ca).ownBlock = some k → k < w3.heap.size) := fun k hk => by have := nA k (by rw [HN.out]; exact hk); omega
  generalize (fun k => w2.heap.size ≤ k ∧ k < w3.heap.size) = H at *
  generalize (fun k => wd.heap.size ≤ k ∧ k < w2.heap.size) = F at *
  have HON3 : Hid (TrOn idealK w w3 F F H B T S3 l) := on3
  clear hnw x3 n3 t3 HOA on3
  by_cases hin : 0 ≤ I ∧ I < (n : Int)
  · obtain ⟨k, rfl⟩ : ∃ k : Nat, I = k := ⟨I.toNat, by omega⟩
    have hk : k < l.length := by rw [← HN.out]; omega
    have hpy := path_yes HON3.out k (by rw [← HN.out]; omega) hk
    obtain ⟨P, hP⟩ : ∃ P, P = pathOf (idealK.h S3) l k := ⟨_, rfl⟩
    have HSL : Hid (∀ s, s ∈ P → s.sides.length ≤ 1000000) := by rw [hP]; exact sides_len _ _ _
    have hPl : P.length ≤ 1000000 := by rw [hP, pathOf_length]; have := hgt_le l.length; rw [← HN.out] at *; omega
    rw [← hP] at hpy
    clear hP
    go_wp2_with fail
    refine hpy.mono ?_
    rintro e w4 ⟨⟨b, bs, rfl, hpo⟩, hb4⟩
    have HON4 : Hid (TrOn idealK w w4 F F H B T S3 l) := HON3.out.beneath idealOk hb4
    have HOA4 : Hid (OwnL w4 W0.heap.size (.slice oa l.length ca) l) := OwnL.keep HOA3.out fun q _ hq _ => hb4.block q hq
    have HPI4 : Hid (PathIn w4 F oP P0) := HPI3.out.touch (Touch.of_below hb4)
    have HPO : Hid (PathOwn w4 w3.heap.size b bs P P.length) := hpo
    have HB4 : Hid (Below w3.heap.size w3 w4) := hb4
    have hz4 := hb4.size
    clear hpy hpo hb4 HOA3 HON3 hin
    by_cases hbd : 0 ≤ At ∧ At < (P.length : Nat) ∧ At < (p0 : Int)
    · obtain ⟨a, rfl⟩ : ∃ a : Nat, At = a := ⟨At.toNat, by omega⟩
      obtain ⟨a1, a2, a3⟩ := hbd
      have haP : a < P.length := by omega
      have ha0 : a < P0.length := by have := HP0.out; omega
      obtain ⟨st, hst⟩ : ∃ st, P0[a]? = some st := ⟨_, List.getElem?_eq_getElem ha0⟩
      obtain ⟨bk, ok, rfl, lbk, nbk, hin3⟩ := HPI3.out a st hst
      have hin4 : StepIn w4 F bk (ok + a * 2) st := hin3.touch (Touch.of_below HB4.out) lbk nbk
      obtain ⟨q1, ob, cb, q2, q3, q4, q5, q6⟩ := hin3
      have s1 := (cell_kept_1 (HB4.out.block bk lbk) (ok + a * 2)).trans q1
      have s2 := (cell_kept_1 (HB4.out.block bk lbk) (ok + a * 2 + 1)).trans q2
      have d1 := Row.cellF HPO.out.row (a * 2) (by omega)
      have d2 := Row.cellF HPO.out.row (a * 2 + 1) (by omega)
      have f1 := Row.frozen HPO.out.row (a * 2)
      have f2 := Row.frozen HPO.out.row (a * 2 + 1)
      have lb := Row.lt HPO.out.row
      have lbw := HPO.out.low
      obtain ⟨wR, hwR⟩ : ∃ wR, (w4.setCell ⟨b, a * 2, none⟩ (.int .i64 st.at_)).setCell ⟨b, a * 2 + 1, none⟩ (.slice ob st.sides.length cb) = wR := ⟨_, rfl⟩
      have HPI : Hid (PathIn wR F (some ⟨b, 0, none⟩) (P.set a st)) := by
        rw [← hwR]
        exact bent_path HPO.out (fun q hq => (HG.out q hq).2.1) HSL.out hin4 (fun ob' cb' hc b2 o2 e h0 => by
          rw [s2] at hc
          obtain ⟨rfl, _, _⟩ := Value.slice.inj (Option.some.inj hc)
          obtain ⟨b2', o2', e1, e2, _⟩ := q6 0 _ (List.getElem?_eq_getElem h0)
          rw [e] at e1
          have := congrArg Addr.block (Option.some.inj e1)
          simp at this
          omega) s2
      have hoff : ∀ q, q < w3.heap.size → wR.heap[q]? = w4.heap[q]? := fun q hq => by
        have hne : q ≠ b := by omega
        rw [← hwR, Below.heap_setCell _ _ _ _ (show q ≠ (⟨b, a * 2 + 1, none⟩ : Addr).block from hne), Below.heap_setCell _ _ _ _ (show q ≠ (⟨b, a * 2, none⟩ : Addr).block from hne)]
      have hzR : wR.heap.size = w4.heap.size := by rw [← hwR, size_setCell, size_setCell]
      have HON : Hid (TrOn idealK w wR F F H B T S3 l) := by
        refine trOn_apart idealOk HON4.out (by omega) (fun q hq h => ?_) ?_
        · rcases h with h | h
          · exact hoff q (HG.out q h).2.1
          · exact hoff q (HH.out q h)
        · rw [← hwR]
          exact (HON4.out.below.setCell (p := ⟨b, a * 2, none⟩) (show w.heap.size ≤ b by omega) _).setCell (p := ⟨b, a * 2 + 1, none⟩) (show w.heap.size ≤ b by omega) _
      have HOA : Hid (OwnL wR W0.heap.size (.slice oa l.length ca) l) := OwnL.keep HOA4.out fun q _ hq hq2 => hoff q (HOL.out q hq2)
      obtain ⟨PR, hPR⟩ : ∃ PR, PR = P.set a st := ⟨_, rfl⟩
      obtain ⟨pl, hpl⟩ : ∃ pl, pl = P.length := ⟨_, rfl⟩
      have HPL : Hid (pl = PR.length) := by rw [hPR, List.length_set]; exact hpl
      rw [← hPR] at HPI
      rw [← hpl] at a2 hPl ⊢
      generalize st.sides.length = sl at *
      generalize st.at_ = sa at *
      generalize pcell P bs P.length (a * 2) = u1 at *
      generalize pcell P bs P.length (a * 2 + 1) = u2 at *
      clear HPI4 HPO HON4 HOA4 hPR hpl hoff q1 q2 q3 q4 q5 q6 hin4 hst HPI3 HB4 haP ha0 HSL
      go_wp2_with fail
      obtain ⟨oR, hoR⟩ : ∃ oR, oR = some (⟨b, 0, none⟩ : Addr) := ⟨_, rfl⟩
      rw [← hoR] at HPI ⊢
      skip
      have hPR : PR.length ≤ 1000000 := by rw [← HPL.out]; exact hPl
      --REST
      clear hwR s1 s2 d1 d2 f1 f2 hoR
      refine (root_on idealOk HON.out (by rw [← HN.out]; omega) (by omega)).mono ?_
      rintro e w6 ⟨S6, rfl, on6, t6, x6, d6, n6⟩
      have HPI6 : PathIn w6 F oR PR := HPI.out.touch t6
      have oA6 : OwnL w6 W0.heap.size (.slice oa l.length ca) l := OwnL.keep HOA.out fun q _ hq hq2 => t6.2 q hq fun hf => (HG.out q hf).2.2 (by rw [HN.out]; exact hq2)
      have d6' : idealK.D S6 (rootT l.length (topS (idealK.h S6) l)) := d6
      obtain ⟨RA, hRA⟩ : ∃ R, R = idealK.h S6 (rootT l.length (topS (idealK.h S6) l)) := ⟨_, rfl⟩
      have hck := check_on idealOk on6 RA Nn Pl s oR pl PR hPR HPI6 (by omega) (by omega)
      rw [← HPL.out] at hck
      rw [← hRA]
      have H6 : Hid (OwnL w6 W0.heap.size (.slice oa l.length ca) l ∧ TreeInK (idealK.D S6) (idealK.h S6) l (hgt l.length) ∧ idealK.D S6 (rootT l.length (topS (idealK.h S6) l)) ∧ RA = idealK.h S6 (rootT l.length (topS (idealK.h S6) l))) := ⟨oA6, on6.tin, d6', hRA⟩
      clear on6 t6 x6 d6 oA6 d6' hRA HPI6 HON HPI HOA
      go_wp2_with fail
      refine hck.mono ?_
      rintro e w7 ⟨S7, rfl, on7, t7, x7, n7, c7⟩
      have HB7 : Hid (Below w.heap.size w w7) := on7.below
      by_cases hB : chkB (idealK.h S7) RA Nn Pl s PR = true
      · obtain ⟨oA6, tin6, d6, hRA⟩ := H6.out
        obtain ⟨j, rfl, rfl, hj, hlj⟩ := bent_chk (by rw [← HN.out]; omega) tin6 d6 x7 (by omega) (by rw [← hRA]; exact c7) (by rw [← hRA]; exact hB)
        have oA7 : OwnL w7 W0.heap.size (.slice oa l.length ca) l := OwnL.keep oA6 fun q _ hq hq2 => t7.2 q hq fun hf => (HG.out q hf).2.2 (by rw [HN.out]; exact hq2)
        obtain ⟨g, rfl, hg1, hg2, hgc, _⟩ := oA7.cell hlj
        have hcm := cmp_is s s
        rw [decide_eq_true rfl] at hcm
        rw [hB, ← HN.out]
        have j1 : (0 : Int) ≤ (j : Nat) := by omega
        have j2 : ((j : Nat) : Int) < (n : Nat) := by rw [HN.out]; omega
        have j3 : j < n := by omega
        clear oA7 oA6 tin6 d6 hRA hlj hck on7 t7 x7 n7 c7 hB H6 hj
        go_wp2_with fail
        refine (tawake_any _).mono ?_
        rintro e w8 ⟨rfl, hb8⟩
        have HF : Hid (Below w.heap.size w w8) := HB7.out.trans (hb8.mono HB7.out.size)
        clear hb8
        go_wp2
        go_ret
        exact ⟨rfl, HF.out⟩
      · have hBf : chkB (idealK.h S7) RA Nn Pl s PR = false := by simpa using hB
        rw [hBf]
        clear hck on7 t7 x7 n7 c7 hB hBf H6
        go_wp2_with fail
        refine (tawake_any _).mono ?_
        rintro e w8 ⟨rfl, hb8⟩
        have HF : Hid (Below w.heap.size w w8) := HB7.out.trans (hb8.mono HB7.out.size)
        clear hb8
        go_wp2
        go_ret
        exact ⟨rfl, HF.out⟩
    · have HPI : Hid (PathIn w4 F (some ⟨b, 0, none⟩) P) := HPO.out.pathIn (fun q hq => (HG.out q hq).2.1) HSL.out
      have HON : Hid (TrOn idealK w w4 F F H B T S3 l) := HON4.out
      have HOA : Hid (OwnL w4 W0.heap.size (.slice oa l.length ca) l) := HOA4.out
      have hPR : P.length ≤ 1000000 := hPl
      generalize P = PR at *
      obtain ⟨pl, hpl⟩ : ∃ pl, pl = PR.length := ⟨_, rfl⟩
      have HPL : Hid (pl = PR.length) := hpl
      rw [← hpl] at hPl hbd ⊢
      clear HPI4 HPO HON4 HOA4 hpl HPI3 HB4 HSL
      have hway : ¬ (0 : Int) ≤ At ∨ ((0 : Int) ≤ At ∧ ¬ At < (pl : Nat)) ∨ ((0 : Int) ≤ At ∧ At < (pl : Nat) ∧ ¬ At < (p0 : Nat)) := by omega
      clear hbd
      rcases hway with v1 | ⟨v1, v2⟩ | ⟨v1, v2, v3⟩
      all_goals
        go_wp2_with fail
        obtain ⟨oR, hoR⟩ : ∃ oR, oR = some (⟨b, 0, none⟩ : Addr) := ⟨_, rfl⟩
        rw [← hoR] at HPI ⊢
        skip
        clear hoR
        refine (root_on idealOk HON.out (by rw [← HN.out]; omega) (by omega)).mono ?_
        rintro e w6 ⟨S6, rfl, on6, t6, x6, d6, n6⟩
        have HPI6 : PathIn w6 F oR PR := HPI.out.touch t6
        have oA6 : OwnL w6 W0.heap.size (.slice oa l.length ca) l := OwnL.keep HOA.out fun q _ hq hq2 => t6.2 q hq fun hf => (HG.out q hf).2.2 (by rw [HN.out]; exact hq2)
        have d6' : idealK.D S6 (rootT l.length (topS (idealK.h S6) l)) := d6
        obtain ⟨RA, hRA⟩ : ∃ R, R = idealK.h S6 (rootT l.length (topS (idealK.h S6) l)) := ⟨_, rfl⟩
        have hck := check_on idealOk on6 RA Nn Pl s oR pl PR hPR HPI6 (by omega) (by omega)
        rw [← HPL.out] at hck
        rw [← hRA]
        have H6 : Hid (OwnL w6 W0.heap.size (.slice oa l.length ca) l ∧ TreeInK (idealK.D S6) (idealK.h S6) l (hgt l.length) ∧ idealK.D S6 (rootT l.length (topS (idealK.h S6) l)) ∧ RA = idealK.h S6 (rootT l.length (topS (idealK.h S6) l))) := ⟨oA6, on6.tin, d6', hRA⟩
        clear on6 t6 x6 d6 oA6 d6' hRA HPI6 HON HPI HOA
        go_wp2_with fail
        refine hck.mono ?_
        rintro e w7 ⟨S7, rfl, on7, t7, x7, n7, c7⟩
        have HB7 : Hid (Below w.heap.size w w7) := on7.below
        by_cases hB : chkB (idealK.h S7) RA Nn Pl s PR = true
        · obtain ⟨oA6, tin6, d6, hRA⟩ := H6.out
          obtain ⟨j, rfl, rfl, hj, hlj⟩ := bent_chk (by rw [← HN.out]; omega) tin6 d6 x7 (by omega) (by rw [← hRA]; exact c7) (by rw [← hRA]; exact hB)
          have oA7 : OwnL w7 W0.heap.size (.slice oa l.length ca) l := OwnL.keep oA6 fun q _ hq hq2 => t7.2 q hq fun hf => (HG.out q hf).2.2 (by rw [HN.out]; exact hq2)
          obtain ⟨g, rfl, hg1, hg2, hgc, _⟩ := oA7.cell hlj
          have hcm := cmp_is s s
          rw [decide_eq_true rfl] at hcm
          rw [hB, ← HN.out]
          have j1 : (0 : Int) ≤ (j : Nat) := by omega
          have j2 : ((j : Nat) : Int) < (n : Nat) := by rw [HN.out]; omega
          have j3 : j < n := by omega
          clear oA7 oA6 tin6 d6 hRA hlj hck on7 t7 x7 n7 c7 hB H6 hj
          go_wp2_with fail
          refine (tawake_any _).mono ?_
          rintro e w8 ⟨rfl, hb8⟩
          have HF : Hid (Below w.heap.size w w8) := HB7.out.trans (hb8.mono HB7.out.size)
          clear hb8
          go_wp2
          go_ret
          exact ⟨rfl, HF.out⟩
        · have hBf : chkB (idealK.h S7) RA Nn Pl s PR = false := by simpa using hB
          rw [hBf]
          clear hck on7 t7 x7 n7 c7 hB hBf H6
          go_wp2_with fail
          refine (tawake_any _).mono ?_
          rintro e w8 ⟨rfl, hb8⟩
          have HF : Hid (Below w.heap.size w w8) := HB7.out.trans (hb8.mono HB7.out.size)
          clear hb8
          go_wp2
          go_ret
          exact ⟨rfl, HF.out⟩
  · have hpn := path_no HON3.out I (by rw [← HN.out]; exact hin)
    clear hin
    go_wp2_with fail
    refine hpn.mono ?_
    rintro e w4 ⟨rfl, rfl⟩
    have HPI : Hid (PathIn w4 F oP P0) := HPI3.out
    have HON : Hid (TrOn idealK w w4 F F H B T S3 l) := HON3.out
    have HOA : Hid (OwnL w4 W0.heap.size (.slice oa l.length ca) l) := HOA3.out
    have hPR : P0.length ≤ 1000000 := by rw [← HP0.out]; omega
    have HPL : Hid (p0 = P0.length) := HP0.out
    generalize P0 = PR at *
    generalize oP = oR at *
    generalize cP = cR at *
    generalize p0 = pl at *
    clear HPI3 HON3 HOA3 hpn
    go_wp2_with fail
    refine (root_on idealOk HON.out (by rw [← HN.out]; omega) (by omega)).mono ?_
    rintro e w6 ⟨S6, rfl, on6, t6, x6, d6, n6⟩
    have HPI6 : PathIn w6 F oR PR := HPI.out.touch t6
    have oA6 : OwnL w6 W0.heap.size (.slice oa l.length ca) l := OwnL.keep HOA.out fun q _ hq hq2 => t6.2 q hq fun hf => (HG.out q hf).2.2 (by rw [HN.out]; exact hq2)
    have d6' : idealK.D S6 (rootT l.length (topS (idealK.h S6) l)) := d6
    obtain ⟨RA, hRA⟩ : ∃ R, R = idealK.h S6 (rootT l.length (topS (idealK.h S6) l)) := ⟨_, rfl⟩
    have hck := check_on idealOk on6 RA Nn Pl s oR cR PR hPR HPI6 (by omega) (by omega)
    rw [← HPL.out] at hck
    rw [← hRA]
    have H6 : Hid (OwnL w6 W0.heap.size (.slice oa l.length ca) l ∧ TreeInK (idealK.D S6) (idealK.h S6) l (hgt l.length) ∧ idealK.D S6 (rootT l.length (topS (idealK.h S6) l)) ∧ RA = idealK.h S6 (rootT l.length (topS (idealK.h S6) l))) := ⟨oA6, on6.tin, d6', hRA⟩
    clear on6 t6 x6 d6 oA6 d6' hRA HPI6 HON HPI HOA
    go_wp2_with fail
    refine hck.mono ?_
    rintro e w7 ⟨S7, rfl, on7, t7, x7, n7, c7⟩
    have HB7 : Hid (Below w.heap.size w w7) := on7.below
    by_cases hB : chkB (idealK.h S7) RA Nn Pl s PR = true
    · obtain ⟨oA6, tin6, d6, hRA⟩ := H6.out
      obtain ⟨j, rfl, rfl, hj, hlj⟩ := bent_chk (by rw [← HN.out]; omega) tin6 d6 x7 (by omega) (by rw [← hRA]; exact c7) (by rw [← hRA]; exact hB)
      have oA7 : OwnL w7 W0.heap.size (.slice oa l.length ca) l := OwnL.keep oA6 fun q _ hq hq2 => t7.2 q hq fun hf => (HG.out q hf).2.2 (by rw [HN.out]; exact hq2)
      obtain ⟨g, rfl, hg1, hg2, hgc, _⟩ := oA7.cell hlj
      have hcm := cmp_is s s
      rw [decide_eq_true rfl] at hcm
      rw [hB, ← HN.out]
      have j1 : (0 : Int) ≤ (j : Nat) := by omega
      have j2 : ((j : Nat) : Int) < (n : Nat) := by rw [HN.out]; omega
      have j3 : j < n := by omega
      clear oA7 oA6 tin6 d6 hRA hlj hck on7 t7 x7 n7 c7 hB H6 hj
      go_wp2_with fail
      refine (tawake_any _).mono ?_
      rintro e w8 ⟨rfl, hb8⟩
      have HF : Hid (Below w.heap.size w w8) := HB7.out.trans (hb8.mono HB7.out.size)
      clear hb8
      go_wp2
      go_ret
      exact ⟨rfl, HF.out⟩
    · have hBf : chkB (idealK.h S7) RA Nn Pl s PR = false := by simpa using hB
      rw [hBf]
      clear hck on7 t7 x7 n7 c7 hB hBf H6
      go_wp2_with fail
      refine (tawake_any _).mono ?_
      rintro e w8 ⟨rfl, hb8⟩
      have HF : Hid (Below w.heap.size w w8) := HB7.out.trans (hb8.mono HB7.out.size)
      clear hb8
      go_wp2
      go_ret
      exact ⟨rfl, HF.out⟩
end Go.Proofs.Ytmmgpidmeeabeaa
