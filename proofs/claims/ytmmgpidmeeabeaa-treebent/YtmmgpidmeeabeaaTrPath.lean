/- tree's Path. -/
import Derived.Test.YtmmgpidmeeabeaaTrStep
import Derived.Test.YtmmgpidmeeabeaaBxRow
import Derived.OwnWalk
namespace Go.Proofs.Ytmmgpidmeeabeaa
set_option maxRecDepth 20000
open Go.RowKit

def pcell (p : List Stp) (bs : Nat → Nat) (j x : Nat) : Value :=
  if x / 2 < j then (if x % 2 = 0 then .int .i64 (p.getD (x / 2) default).at_ else .slice (some ⟨bs (x / 2), 0, none⟩) (p.getD (x / 2) default).sides.length (p.getD (x / 2) default).sides.length) else (if x % 2 = 0 then .int .i64 0 else .slice none 0 0)
theorem made_two (n : Nat) (a b : Value) : (madeCells #[a, b] n).toList = rowF n fun x => if x % 2 = 0 then a else b := by
  apply List.ext_getElem?
  intro i
  by_cases hi : i < n
  · rw [rowF_get _ _ _ hi]
    rcases Nat.mod_two_eq_zero_or_one i with h | h <;> simp [madeCells, hi, h]
  · rw [List.getElem?_eq_none (by simp [madeCells]; omega), List.getElem?_eq_none (by rw [rowF_length]; omega)]
theorem pcell_set (p : List Stp) (bs : Nat → Nat) (j b n : Nat) : (rowF n fun k => if k = j * 2 + 1 then Value.slice (some ⟨b, 0, none⟩) (p.getD j default).sides.length (p.getD j default).sides.length else if k = j * 2 then Value.int .i64 (p.getD j default).at_ else pcell p bs j k) = rowF n (pcell p (fun k => if k = j then b else bs k) (j + 1)) := by
  refine rowF_congr fun k _ => ?_
  by_cases h1 : k = j * 2 + 1
  · have e1 : k / 2 = j := by omega
    have e2 : ¬ k % 2 = 0 := by omega
    rw [if_pos h1]
    simp only [pcell]
    rw [e1]
    simp [e2]
  · rw [if_neg h1]
    by_cases h2 : k = j * 2
    · have e1 : k / 2 = j := by omega
      have e2 : k % 2 = 0 := by omega
      rw [if_pos h2]
      simp only [pcell]
      rw [e1]
      simp [e2]
    · rw [if_neg h2]
      simp only [pcell]
      by_cases h3 : k / 2 < j
      · rw [if_pos h3, if_pos (show k / 2 < j + 1 by omega)]
        have h4 : ¬ k / 2 = j := by omega
        simp [h4]
      · rw [if_neg h3, if_neg (show ¬ k / 2 < j + 1 by omega)]
/-- A path of one's own, in the block b. -/
structure PathOwn (w : World) (base b : Nat) (bs : Nat → Nat) (p : List Stp) (j : Nat) : Prop where
  row : Row w b 39 (rowF (p.length * 2) (pcell p bs j))
  low : base ≤ b
  sides : ∀ (k : Nat) (s : Stp), k < j → p[k]? = some s → RowS w (bs k) s.sides
  lows : ∀ k, k < j → base ≤ bs k ∧ bs k ≠ b
  inj : ∀ k k', k < j → k' < j → bs k = bs k' → k = k'
theorem PathOwn.keep {w w' : World} {base b : Nat} {bs : Nat → Nat} {p : List Stp} {j : Nat} (h : PathOwn w base b bs p j) (hk : ∀ k, base ≤ k → k < w.heap.size → w'.heap[k]? = w.heap[k]?) : PathOwn w' base b bs p j :=
  ⟨(hk b h.low (Row.lt h.row)).trans h.row, h.low, fun k s hkj hs => (h.sides k s hkj hs).keep (hk _ (h.lows k hkj).1 (h.sides k s hkj hs).lt), h.lows, h.inj⟩
theorem PathOwn.cells {w : World} {base b : Nat} {bs : Nat → Nat} {p : List Stp} (h : PathOwn w base b bs p p.length) {k : Nat} {s : Stp} (hs : p[k]? = some s) : w.cell? ⟨b, k * 2, none⟩ = some (.int .i64 s.at_) ∧ w.cell? ⟨b, k * 2 + 1, none⟩ = some (.slice (some ⟨bs k, 0, none⟩) s.sides.length s.sides.length) := by
  obtain ⟨hk, e⟩ := List.getElem?_eq_some_iff.1 hs
  have hd : p.getD k default = s := by simp [List.getD, hs]
  have h1 := Row.cellF h.row (k * 2) (by omega)
  have h2 := Row.cellF h.row (k * 2 + 1) (by omega)
  unfold pcell at h1 h2
  rw [show k * 2 / 2 = k by omega, if_pos hk, if_pos (by omega), hd] at h1
  rw [show (k * 2 + 1) / 2 = k by omega, if_pos hk, if_neg (by omega), hd] at h2
  exact ⟨h1, h2⟩
theorem PathOwn.pathIn {w : World} {base b : Nat} {bs : Nat → Nat} {p : List Stp} (h : PathOwn w base b bs p p.length) {G : Nat → Prop} (hG : ∀ k, G k → k < base) (hz : ∀ s, s ∈ p → s.sides.length ≤ 1000000) : PathIn w G (some ⟨b, 0, none⟩) p := fun k s hs => by
  obtain ⟨c1, c2⟩ := h.cells hs
  have hk := (List.getElem?_eq_some_iff.1 hs).1
  have hlz := hz s (List.mem_of_getElem? hs)
  refine ⟨b, 0, rfl, Row.lt h.row, fun hg => absurd (hG b hg) (Nat.not_lt_of_le h.low), ?_⟩
  rw [Nat.zero_add]
  refine ⟨c1, _, _, c2, Nat.le_refl _, by omega, (fun e => by cases e), fun i x hx => ?_⟩
  exact ⟨bs k, 0, rfl, (h.sides k s hk hs).lt, fun hg => absurd (hG _ hg) (Nat.not_lt_of_le (h.lows k hk).1), by rw [Nat.zero_add]; exact (h.sides k s hk hs).cell hx⟩
theorem tr_info_step : (Try.prog.info? 39).map (fun i => (i.zero, i.size, i.bytes)) = some (some (.agg #[.int .i64 0, .slice none 0 0]), 2, 32) := by kernel_rfl
section
variable {σ : Type} {K : HK σ}
theorem path_no {w0 w : World} {F G H : Nat → Prop} {B T : Nat} {S : σ} {l : List ByteArray} (t : TrOn K w0 w F G H B T S l) (i : Int) (hi : ¬ (0 ≤ i ∧ i < (l.length : Nat))) :
    Calls Try.prog 11 #[.pointer (some ⟨T, 0, none⟩), .int .i64 i] w fun e w' => e = .returned (.tuple #[.slice none 0 0, .int .i64 2]) ∧ w' = w := by
  have hh := has_on t i
  rw [decide_eq_false hi] at hh
  clear t hi
  go_enter Try.func11, Try.ntmps11
  go_wp2_with fail
  refine hh.mono ?_
  rintro e w1 ⟨rfl, rfl⟩
  go_wp2
  go_ret2
  exact ⟨rfl, rfl⟩
theorem pathOf_get (h : ByteArray → ByteArray) (l : List ByteArray) (i k : Nat) (hk : k < hgt l.length) : (pathOf h l i)[k]? = some (stepOf (rowAt h l k) (iK i k)) := by
  rw [pathOf, List.getElem?_map, List.getElem?_range hk]
  rfl
theorem pathOf_length (h : ByteArray → ByteArray) (l : List ByteArray) (i : Nat) : (pathOf h l i).length = hgt l.length := by simp [pathOf]
set_option maxHeartbeats 2000000 in
theorem path_yes {w0 w : World} {F G H : Nat → Prop} {B T : Nat} {S : σ} {l : List ByteArray} (t : TrOn K w0 w F G H B T S l) (i : Nat) (hl : l.length ≤ 200) (hi : i < l.length) :
    Calls Try.prog 11 #[.pointer (some ⟨T, 0, none⟩), .int .i64 (i : Int)] w fun e w' => (∃ b bs, e = .returned (.tuple #[.slice (some ⟨b, 0, none⟩) (pathOf (K.h S) l i).length (pathOf (K.h S) l i).length, .int .i64 0]) ∧ PathOwn w' w.heap.size b bs (pathOf (K.h S) l i) (pathOf (K.h S) l i).length) ∧ Below w.heap.size w w' := by
  have hh := has_on t i
  rw [decide_eq_true ⟨by omega, by omega⟩] at hh
  obtain ⟨rv, gs, htr⟩ := t.tree
  have hgl := hgt_le l.length
  obtain ⟨M, hM⟩ : ∃ M, M = hgt l.length := ⟨_, rfl⟩
  rw [← hM] at htr hgl
  have hrl : (rowsUp (K.h S) l M).length = M + 1 := rowsUp_length _ _ _
  obtain ⟨ra, cap, rfl, hcap, hcell⟩ := htr.form (by omega)
  have c1 := htr.c1
  rw [hrl] at c1
  have hpl : (pathOf (K.h S) l i).length = M := by rw [pathOf_length, hM]
  have HROW : Hid (∀ wr, Below w.heap.size w wr → ∀ k, k ≤ M → ∃ g, wr.cell? ⟨ra, k, none⟩ = some (.slice (some ⟨g, 0, none⟩) (rowAt (K.h S) l k).length (rowAt (K.h S) l k).length) ∧ RowS wr g (rowAt (K.h S) l k)) := fun wr hb k hk => by
    have hr := rowsUp_get (K.h S) l M k hk
    obtain ⟨g, hg⟩ := htr.gs0 hr
    have hrow := htr.row k g _ hg hr
    have lra : ra < w.heap.size := owns_lt htr.owns ra rfl
    exact ⟨g, (hb.cell (p := ⟨ra, k, none⟩) lra).trans (hcell k g _ hg hr), hrow.keep (hb.block g hrow.lt)⟩
  have lT := lt_of_block htr.obj
  have HT1 : Hid (∀ wr, Below w.heap.size w wr → wr.cell? ⟨T, 1, none⟩ = some (.slice (some ⟨ra, 0, none⟩) (M + 1) cap)) := fun wr hb => (hb.cell (p := ⟨T, 1, none⟩) lT).trans c1
  have HP : Hid (∀ k, k < M → (pathOf (K.h S) l i)[k]? = some (stepOf (rowAt (K.h S) l k) (iK i k))) := fun k hk => pathOf_get _ _ _ _ (by rw [← hM]; exact hk)
  have HRL : Hid (∀ k, (rowAt (K.h S) l k).length ≤ 200 ∧ iK i k < (rowAt (K.h S) l k).length) := fun k => by
    have h1 := upK_le l.length k
    have h2 := iK_lt hi k
    rw [rowAt_length]
    exact ⟨by omega, h2⟩
  have hM2 : M ≤ 200 := by omega
  generalize pathOf (K.h S) l i = P at *
  rw [hpl]
  clear t htr hM hcell hi hl hrl
  have m1 : IntKind.i64.wrap (((M + 1 : Nat) : Int) - 1) = (M : Int) := by rw [IntKind.wrap_i64]; omega
  have m2 : ((M + 1 : Nat) : Int) - 1 = (M : Int) := by omega
  have m3 : IntKind.i64.wrap ((M : Int) + 1 - 1) = (M : Int) := by rw [IntKind.wrap_i64]; omega
  obtain ⟨t0, hi0, hz⟩ := Option.map_eq_some_iff.1 tr_info_step
  simp only [Prod.mk.injEq] at hz
  obtain ⟨hz0, hz1, hz2⟩ := hz
  go_enter Try.func11, Try.ntmps11
  go_wp2_with fail
  refine hh.mono ?_
  rintro e w1 ⟨rfl, rfl⟩
  go_wp2_with (at_make; refine wpList_make_full _ rfl _ _ 28 rfl w1.heap.size 39 t0 (.agg #[.int .i64 0, .slice none 0 0]) 2 Try.underlying28 hi0 hz0 hz1 .i64 .i64 _ _ M rfl rfl rfl rfl ?a1 ?a2 ?a3 ?_)
  case a1 => rw [hz2]; omega
  case a2 => unfold maxLen; omega
  case a3 => exact Nat.le_refl _
  intro w2 hown2 hgrow2
  have hb2 : Below w1.heap.size w1 w2 := (Below.refl _ _).grown hgrow2 (Nat.le_refl _) (fun k hk => by simp at hk)
  have r2 : Row w2 w1.heap.size 39 (rowF (P.length * 2) (pcell P (fun _ => 0) 0)) := by
    rcases hown2.2 with ⟨e, _⟩ | ⟨g', cap', cur, e, hg', h3, h4, h5, h6, h7⟩
    · cases e
    · obtain ⟨e1, e2, e3⟩ := Value.slice.inj e
      have e4 := congrArg Addr.block (Option.some.inj e1)
      simp at e4
      subst e4 e3
      have e5 : cur.toList = (madeCells #[.int .i64 0, .slice none 0 0] (M * 2)).toList := by
        rw [← List.take_of_length_le (l := cur.toList) (i := M * 2) (by simp [h6])]
        exact h7
      unfold Row
      rw [h3]
      have e6 : rowF (P.length * 2) (pcell P (fun _ => 0) 0) = cur.toList := by
        rw [e5, made_two, hpl]
        rfl
      rw [e6]
  have HI : Hid (PathOwn w2 w1.heap.size w1.heap.size (fun _ => 0) P 0 ∧ Below w1.heap.size w1 w2) := ⟨⟨r2, Nat.le_refl _, fun k s hk => absurd hk (Nat.not_lt_zero k), fun k hk => absurd hk (Nat.not_lt_zero k), fun k k' hk => absurd hk (Nat.not_lt_zero k)⟩, hb2⟩
  clear hh hown2 hgrow2 hb2 r2 hz0 hz1 hz2 hi0 c1
  go_wp2_with fail
  go_loopw [1, 21] (fun iv kv wr => ∃ (j : Nat) (bs : Nat → Nat), j ≤ M ∧ kv = .int .i64 (j : Int) ∧ iv = .int .i64 (iK i j : Nat) ∧ PathOwn wr w1.heap.size w1.heap.size bs P j ∧ Below w1.heap.size w1 wr) (fun _ kv _ => M - (intOf kv).toNat)
  case atStart => exact ⟨0, _, Nat.zero_le _, rfl, rfl, HI.out⟩
  case round =>
    clear HI
    obtain ⟨j, bs, hj, rfl, rfl, hpo, hb⟩ := hrel
    by_cases hlt : j < M
    · have j1 : (j : Int) < M := by omega
      have j2 : (j : Int) < ((M + 1 : Nat) : Int) := by omega
      have j3 : (j : Int) < (M : Int) + 1 := by omega
      obtain ⟨g, cg, hrow⟩ := HROW.out wr hb j (by omega)
      have cT := HT1.out wr hb
      have hrl := HRL.out j
      have hst := step_any wr g (iK i j) (rowAt (K.h S) l j) hrow (by omega) hrl.2
      have hPj := HP.out j hlt
      obtain ⟨st, hst'⟩ : ∃ st, st = stepOf (rowAt (K.h S) l j) (iK i j) := ⟨_, rfl⟩
      rw [← hst'] at hst hPj
      have hgd : P.getD j default = st := by simp [List.getD, hPj]
      have d1 := Row.cellF hpo.row (j * 2) (by rw [hpl]; omega)
      have d2 := Row.cellF hpo.row (j * 2 + 1) (by rw [hpl]; omega)
      have f1 := Row.frozen hpo.row (j * 2)
      have f2 := Row.frozen hpo.row (j * 2 + 1)
      have lb := Row.lt hpo.row
      have m4 : ((iK i j : Nat) : Int).tdiv 4 = ((iK i (j + 1) : Nat) : Int) := by rw [Int.tdiv_eq_ediv_of_nonneg (by omega)]; show _ = ((iK i j / 4 : Nat) : Int); omega
      have m5 : ((iK i j : Nat) : Int) / 4 = ((iK i (j + 1) : Nat) : Int) := by show _ = ((iK i j / 4 : Nat) : Int); omega
      have m6 : IntKind.i64.wrap ((iK i (j + 1) : Nat) : Int) = ((iK i (j + 1) : Nat) : Int) := by
        have : iK i (j + 1) ≤ iK i j := Nat.div_le_self _ _
        rw [IntKind.wrap_i64]
        omega
      have HPO : Hid (PathOwn wr w1.heap.size w1.heap.size bs P j ∧ Below w1.heap.size w1 wr) := ⟨hpo, hb⟩
      generalize (rowAt (K.h S) l j).length = rl at *
      generalize pcell P bs j (j * 2) = u1 at *
      generalize pcell P bs j (j * 2 + 1) = u2 at *
      obtain ⟨i2, hi2⟩ : ∃ x, x = iK i (j + 1) := ⟨_, rfl⟩
      have HI2 : Hid (i2 = iK i (j + 1)) := hi2
      rw [← hi2] at m4 m5 m6
      clear hi2
      generalize iK i j = i1 at *
      generalize hsl : st.sides.length = sl at *
      generalize hsa : st.at_ = sa at *
      have HGD : Hid ((P.getD j default).sides.length = sl ∧ (P.getD j default).at_ = sa ∧ P[j]? = some st) := ⟨by rw [hgd]; exact hsl, by rw [hgd]; exact hsa, hPj⟩
      clear hpo hb hst' hgd hrow hsl hsa hPj hrl
      go_wp2_with fail
      refine hst.mono ?_
      rintro e w3 ⟨⟨b', rfl, hr3, hl3, hl4⟩, hb3⟩
      have e1 := (cell_kept_1 (hb3.block _ lb) (j * 2)).trans d1
      have e2 := (cell_kept_1 (hb3.block _ lb) (j * 2 + 1)).trans d2
      have e3 := (World.frozen?_of_block (a := ⟨w1.heap.size, j * 2, none⟩) (hb3.block _ lb)).trans f1
      have e4 := (World.frozen?_of_block (a := ⟨w1.heap.size, j * 2 + 1, none⟩) (hb3.block _ lb)).trans f2
      obtain ⟨w4, hw4⟩ : ∃ w4, (w3.setCell ⟨w1.heap.size, j * 2, none⟩ (.int .i64 sa)).setCell ⟨w1.heap.size, j * 2 + 1, none⟩ (.slice (some ⟨b', 0, none⟩) sl sl) = w4 := ⟨_, rfl⟩
      have HF : Hid (PathOwn w4 w1.heap.size w1.heap.size (fun k => if k = j then b' else bs k) P (j + 1) ∧ Below w1.heap.size w1 w4) := by
        obtain ⟨hpo, hb⟩ := HPO.out
        obtain ⟨g1, g2, g3⟩ := HGD.out
        have hz := hb.size
        have hkeep : ∀ k, k ≠ w1.heap.size → w4.heap[k]? = w3.heap[k]? := fun k hk => by
          rw [← hw4, Below.heap_setCell _ _ _ _ (show k ≠ (⟨w1.heap.size, j * 2 + 1, none⟩ : Addr).block from hk), Below.heap_setCell _ _ _ _ (show k ≠ (⟨w1.heap.size, j * 2, none⟩ : Addr).block from hk)]
        refine ⟨⟨?_, Nat.le_refl _, ?_, ?_, ?_⟩, ?_⟩
        · have h1 := Row.setF (Row.setF (show Row w3 w1.heap.size 39 _ from (hb3.block _ lb).trans hpo.row) (j * 2) (.int .i64 sa)) (j * 2 + 1) (.slice (some ⟨b', 0, none⟩) sl sl)
          rw [hw4, ← g1, ← g2, pcell_set] at h1
          exact h1
        · intro k s hk hs
          by_cases e : k = j
          · subst e
            rw [g3] at hs
            obtain rfl := Option.some.inj hs
            rw [if_pos rfl]
            exact hr3.keep (hkeep b' (by omega))
          · rw [if_neg e]
            have h1 := hpo.sides k s (by omega) hs
            exact h1.keep ((hkeep _ (hpo.lows k (by omega)).2).trans (hb3.block _ h1.lt))
        · intro k hk
          by_cases e : k = j
          · rw [if_pos e]; exact ⟨by omega, by omega⟩
          · rw [if_neg e]; exact hpo.lows k (by omega)
        · intro k k' hk hk'
          by_cases e : k = j
          · rw [if_pos e]
            by_cases e' : k' = j
            · intro _; omega
            · rw [if_neg e']
              intro h
              obtain ⟨s, hs⟩ : ∃ s, P[k']? = some s := ⟨_, List.getElem?_eq_getElem (by omega)⟩
              have := (hpo.sides k' s (by omega) hs).lt
              omega
          · rw [if_neg e]
            by_cases e' : k' = j
            · rw [if_pos e']
              intro h
              obtain ⟨s, hs⟩ : ∃ s, P[k]? = some s := ⟨_, List.getElem?_eq_getElem (by omega)⟩
              have := (hpo.sides k s (by omega) hs).lt
              omega
            · rw [if_neg e']
              exact hpo.inj k k' (by omega) (by omega)
        · rw [← hw4]
          exact ((hb.trans (hb3.mono hz)).setCell (p := ⟨w1.heap.size, j * 2, none⟩) (Nat.le_refl _) _).setCell (p := ⟨w1.heap.size, j * 2 + 1, none⟩) (Nat.le_refl _) _
      have c9 : (w3.setCell ⟨w1.heap.size, j * 2, none⟩ (.int .i64 sa)).cell? ⟨w1.heap.size, j * 2 + 1, none⟩ = some u2 := by
        have h1 := Row.setF (show Row w3 w1.heap.size 39 _ from (hb3.block _ lb).trans HPO.out.1.row) (j * 2) (.int .i64 sa)
        have h2 := Row.cellF h1 (j * 2 + 1) (by rw [hpl]; omega)
        rw [if_neg (by omega)] at h2
        have h3 := Row.cellF (show Row w3 w1.heap.size 39 _ from (hb3.block _ lb).trans HPO.out.1.row) (j * 2 + 1) (by rw [hpl]; omega)
        rw [e2] at h3
        rw [h2, ← h3]
      have f9 : (w3.setCell ⟨w1.heap.size, j * 2, none⟩ (.int .i64 sa)).frozen? ⟨w1.heap.size, j * 2 + 1, none⟩ = false := Row.frozen (Row.setF (show Row w3 w1.heap.size 39 _ from (hb3.block _ lb).trans HPO.out.1.row) (j * 2) (.int .i64 sa)) (j * 2 + 1)
      clear hst hr3 hl3 hl4 hb3 HPO HGD d1 d2 f1 f2 cg cT
      go_wp2
      go_roundw
      case rel => exact ⟨j + 1, _, by omega, by go_num, by rw [HI2.out], HF.out⟩
      case measure => simp [intOf]; omega
    · obtain rfl : j = M := by omega
      have j1 : ¬ (j : Int) < j := by omega
      have HF : Hid (PathOwn wr w1.heap.size w1.heap.size bs P j ∧ Below w1.heap.size w1 wr) := ⟨hpo, hb⟩
      generalize iK i j = i1 at *
      clear hpo hb
      go_wp2
      go_ret2
      first
        | exact ⟨⟨_, _, rfl, HF.out.1⟩, HF.out.2⟩
        | exact ⟨⟨_, rfl, _, HF.out.1⟩, HF.out.2⟩
end
end Go.Proofs.Ytmmgpidmeeabeaa
