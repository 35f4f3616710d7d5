/- tree's step. · tree's Path. · The document's Path; the laws' same. · The document's Path. · The document's Check. -/
import Derived.Test.YtgokehbdappcdaaDoorMg15
import Derived.Laws.CopyRow
import Derived.Test.YtgokehbdappcdaaDoorMg04
import Derived.OwnWalk
import Derived.Test.YtgokehbdappcdaaDoorMg18
import Derived.BigQuiet
import Derived.Deep.AppendLies
import Derived.Test.YtgokehbdappcdaaDoorMg14
namespace Go.Proofs.YtgokehbdappcdaaDoor
set_option maxRecDepth 20000
open Go.RowKit

theorem row_setRow {w : World} {b : Nat} {t : TypeId} {l : List Value} (h : Row w b t l) (l' : List Value) : Row (w.setRow b l'.toArray) b t l' := setRow_heap _ _ _ _ _ _ h
theorem step_sides (r : List ByteArray) (i : Nat) (hi : i < r.length) : (stepOf r i).sides = (r.drop (4 * (i / 4))).take (i % 4) ++ (r.drop (i + 1)).take (min (4 * (i / 4) + 4) r.length - (i + 1)) := by
  show ((r.drop (4 * (i / 4))).take 4).eraseIdx (i % 4) = _
  have e1 : 4 * (i / 4) + (i % 4 + 1) = i + 1 := by omega
  rw [List.eraseIdx_eq_take_drop_succ, List.take_take, Nat.min_eq_left (by omega), List.drop_take, List.drop_drop, e1]
  congr 1
  by_cases h : 4 * (i / 4) + 4 ≤ r.length
  · rw [Nat.min_eq_left h, show 4 * (i / 4) + 4 - (i + 1) = 4 - (i % 4 + 1) by omega]
  · rw [Nat.min_eq_right (by omega), List.take_of_length_le (by rw [List.length_drop]; omega), List.take_of_length_le (by rw [List.length_drop]; exact Nat.le_refl _)]
theorem tr_size1 : (Tryd.prog.info? 9).map (·.size) = some 1 := by kernel_rfl
end Go.Proofs.YtgokehbdappcdaaDoor

namespace Go.Proofs.YtgokehbdappcdaaDoor
set_option maxRecDepth 20000
open Go.RowKit

def pcell (p : List Stp) (bs : Nat → Nat) (j x : Nat) : Value :=
  if x / 2 < j then (if x % 2 = 0 then .int .i64 (p.getD (x / 2) default).at_ else .slice (some ⟨bs (x / 2), 0, none⟩) (p.getD (x / 2) default).sides.length (p.getD (x / 2) default).sides.length) else (if x % 2 = 0 then .int .i64 0 else .slice none 0 0)
theorem made_two (n : Nat) (a b : Value) : (madeCells #[a, b] n).toList = rowF n fun x => if x % 2 = 0 then a else b := by
  apply List.ext_getElem?
  intro i
  by_cases hi : i < n
  · rw [rowF_get _ _ _ hi]
    rcases Nat.mod_two_eq_zero_or_one i with h | h <;> simp [madeCells, hi, h]
  · rw [List.getElem?_eq_none (by simp [madeCells]; omega), List.getElem?_eq_none (by rw [rowF_length]; omega)]
theorem pcell_set (p : List Stp) (bs : Nat → Nat) (j b n : Nat) : (rowF n fun k => if k = j * 2 + 1 then Value.slice (some ⟨b, 0, none⟩) (p.getD j default).sides.length (p.getD j default).sides.length else if k = j * 2 then Value.int .i64 (p.getD j default).at_ else pcell p bs j k) = rowF n (pcell p (fun k => if k = j then b else bs k) (j + 1)) := by
  refine rowF_congr fun k _ => ?_
  by_cases h1 : k = j * 2 + 1
  · have e1 : k / 2 = j := by omega
    have e2 : ¬ k % 2 = 0 := by omega
    rw [if_pos h1]
    simp only [pcell]
    rw [e1]
    simp [e2]
  · rw [if_neg h1]
    by_cases h2 : k = j * 2
    · have e1 : k / 2 = j := by omega
      have e2 : k % 2 = 0 := by omega
      rw [if_pos h2]
      simp only [pcell]
      rw [e1]
      simp [e2]
    · rw [if_neg h2]
      simp only [pcell]
      by_cases h3 : k / 2 < j
      · rw [if_pos h3, if_pos (show k / 2 < j + 1 by omega)]
        have h4 : ¬ k / 2 = j := by omega
        simp [h4]
      · rw [if_neg h3, if_neg (show ¬ k / 2 < j + 1 by omega)]
/-- A path of one's own, in the block b. -/
structure PathOwn (w : World) (base b : Nat) (bs : Nat → Nat) (p : List Stp) (j : Nat) : Prop where
  row : Row w b 41 (rowF (p.length * 2) (pcell p bs j))
  low : base ≤ b
  sides : ∀ (k : Nat) (s : Stp), k < j → p[k]? = some s → RowS w (bs k) s.sides
  lows : ∀ k, k < j → base ≤ bs k ∧ bs k ≠ b
  inj : ∀ k k', k < j → k' < j → bs k = bs k' → k = k'
theorem PathOwn.keep {w w' : World} {base b : Nat} {bs : Nat → Nat} {p : List Stp} {j : Nat} (h : PathOwn w base b bs p j) (hk : ∀ k, base ≤ k → k < w.heap.size → w'.heap[k]? = w.heap[k]?) : PathOwn w' base b bs p j :=
  ⟨(hk b h.low (Row.lt h.row)).trans h.row, h.low, fun k s hkj hs => (h.sides k s hkj hs).keep (hk _ (h.lows k hkj).1 (h.sides k s hkj hs).lt), h.lows, h.inj⟩
theorem PathOwn.cells {w : World} {base b : Nat} {bs : Nat → Nat} {p : List Stp} (h : PathOwn w base b bs p p.length) {k : Nat} {s : Stp} (hs : p[k]? = some s) : w.cell? ⟨b, k * 2, none⟩ = some (.int .i64 s.at_) ∧ w.cell? ⟨b, k * 2 + 1, none⟩ = some (.slice (some ⟨bs k, 0, none⟩) s.sides.length s.sides.length) := by
  obtain ⟨hk, e⟩ := List.getElem?_eq_some_iff.1 hs
  have hd : p.getD k default = s := by simp [List.getD, hs]
  have h1 := Row.cellF h.row (k * 2) (by omega)
  have h2 := Row.cellF h.row (k * 2 + 1) (by omega)
  unfold pcell at h1 h2
  rw [show k * 2 / 2 = k by omega, if_pos hk, if_pos (by omega), hd] at h1
  rw [show (k * 2 + 1) / 2 = k by omega, if_pos hk, if_neg (by omega), hd] at h2
  exact ⟨h1, h2⟩
theorem PathOwn.pathIn {w : World} {base b : Nat} {bs : Nat → Nat} {p : List Stp} (h : PathOwn w base b bs p p.length) {G : Nat → Prop} (hG : ∀ k, G k → k < base) (hz : ∀ s, s ∈ p → s.sides.length ≤ 1000000) : PathIn w G (some ⟨b, 0, none⟩) p := fun k s hs => by
  obtain ⟨c1, c2⟩ := h.cells hs
  have hk := (List.getElem?_eq_some_iff.1 hs).1
  have hlz := hz s (List.mem_of_getElem? hs)
  refine ⟨b, 0, rfl, Row.lt h.row, fun hg => absurd (hG b hg) (Nat.not_lt_of_le h.low), ?_⟩
  rw [Nat.zero_add]
  refine ⟨c1, _, _, c2, Nat.le_refl _, by omega, (fun e => by cases e), fun i x hx => ?_⟩
  exact ⟨bs k, 0, rfl, (h.sides k s hk hs).lt, fun hg => absurd (hG _ hg) (Nat.not_lt_of_le (h.lows k hk).1), by rw [Nat.zero_add]; exact (h.sides k s hk hs).cell hx⟩
theorem tr_info_step : (Tryd.prog.info? 41).map (fun i => (i.zero, i.size, i.bytes)) = some (some (.agg #[.int .i64 0, .slice none 0 0]), 2, 32) := by kernel_rfl
section
variable {σ : Type} {K : HK σ}
theorem pathOf_get (h : ByteArray → ByteArray) (l : List ByteArray) (i k : Nat) (hk : k < hgt l.length) : (pathOf h l i)[k]? = some (stepOf (rowAt h l k) (iK i k)) := by
  rw [pathOf, List.getElem?_map, List.getElem?_range hk]
  rfl
theorem pathOf_length (h : ByteArray → ByteArray) (l : List ByteArray) (i : Nat) : (pathOf h l i).length = hgt l.length := by simp [pathOf]
end
end Go.Proofs.YtgokehbdappcdaaDoor

namespace Go.Proofs.YtgokehbdappcdaaDoor
set_option maxRecDepth 20000
open Go.RowKit

/-- A path that is read. -/
def StepR (w : World) (bk o : Nat) (s : Stp) : Prop := w.cell? ⟨bk, o, none⟩ = some (.int .i64 s.at_) ∧ ∃ ob cb, w.cell? ⟨bk, o + 1, none⟩ = some (.slice ob s.sides.length cb) ∧ ∀ (i : Nat) (x : ByteArray), s.sides[i]? = some x → ∃ b2 o2, ob = some ⟨b2, o2, none⟩ ∧ w.cell? ⟨b2, o2 + i, none⟩ = some (.string x)
def PathR (w : World) (oa : Option Addr) (p : List Stp) : Prop := ∀ (k : Nat) (s : Stp), p[k]? = some s → ∃ bk o, oa = some ⟨bk, o, none⟩ ∧ StepR w bk (o + k * 2) s
theorem PathR.keep {w w' : World} {oa : Option Addr} {p : List Stp} (h : PathR w oa p) (e : ∀ a, w'.cell? a = w.cell? a) : PathR w' oa p := fun k s hs => by
  obtain ⟨bk, o, h1, h2, ob, cb, h3, h4⟩ := h k s hs
  exact ⟨bk, o, h1, (e _).trans h2, ob, cb, (e _).trans h3, fun i x hx => by obtain ⟨b2, o2, g1, g2⟩ := h4 i x hx; exact ⟨b2, o2, g1, (e _).trans g2⟩⟩
theorem PathIn.read {w : World} {G : Nat → Prop} {oa : Option Addr} {p : List Stp} (h : PathIn w G oa p) : PathR w oa p := fun k s hs => by
  obtain ⟨bk, o, h1, _, _, h2, ob, cb, h3, _, _, _, h4⟩ := h k s hs
  exact ⟨bk, o, h1, h2, ob, cb, h3, fun i x hx => by obtain ⟨b2, o2, g1, _, _, g2⟩ := h4 i x hx; exact ⟨b2, o2, g1, g2⟩⟩
end Go.Proofs.YtgokehbdappcdaaDoor

namespace Go.Proofs.YtgokehbdappcdaaDoor
set_option maxRecDepth 20000
open Go.RowKit

def cellsP : List Value → List Stp → List Value
  | u :: us, s :: p => .int .i64 s.at_ :: u :: cellsP us p
  | _, _ => []
theorem cellsP_snoc : ∀ (us : List Value) (p : List Stp) (u : Value) (s : Stp), us.length = p.length → cellsP (us ++ [u]) (p ++ [s]) = cellsP us p ++ [.int .i64 s.at_, u]
  | [], [], u, s, _ => rfl
  | x :: us, y :: p, u, s, h => by
    show Value.int .i64 y.at_ :: x :: cellsP (us ++ [u]) (p ++ [s]) = _
    rw [cellsP_snoc us p u s (by simpa using h)]
    rfl
theorem cellsP_get : ∀ (us : List Value) (p : List Stp) (k : Nat) (u : Value) (s : Stp), us[k]? = some u → p[k]? = some s → (cellsP us p)[k * 2]? = some (.int .i64 s.at_) ∧ (cellsP us p)[k * 2 + 1]? = some u
  | [], _, k, u, s, h, _ => by simp at h
  | _ :: _, [], k, u, s, _, h => by simp at h
  | x :: us, y :: p, 0, u, s, h1, h2 => by
    simp at h1 h2
    subst h1 h2
    exact ⟨rfl, rfl⟩
  | x :: us, y :: p, k + 1, u, s, h1, h2 => by
    have := cellsP_get us p k u s (by simpa using h1) (by simpa using h2)
    rw [show (k + 1) * 2 = k * 2 + 1 + 1 by omega]
    exact this
structure PathAt (w : World) (base : Nat) (v : Value) (us : List Value) (p : List Stp) : Prop where
  owns : w.ownsRow base 41 2 v p.length (cellsP us p)
  len : us.length = p.length
  row : ∀ (k : Nat) (u : Value) (s : Stp), us[k]? = some u → p[k]? = some s → OwnL w base u s.sides
  nR : ∀ (u : Value), u ∈ us → ∀ g, u.ownBlock = some g → v.ownBlock ≠ some g
theorem PathAt.below {w w' : World} {base : Nat} {v : Value} {us : List Value} {p : List Stp} (t : PathAt w base v us p) (hb : Below w.heap.size w w') : PathAt w' base v us p :=
  ⟨owns_keepG t.owns fun g hg => hb.block g (owns_ltG t.owns g hg).2, t.len, fun k u r h1 h2 => OwnL.keep (t.row k u r h1 h2) fun q _ hq _ => hb.block q hq, t.nR⟩
theorem PathAt.append {w w' : World} {base : Nat} {v v' : Value} {us : List Value} {p : List Stp} {u : Value} {s : Stp} {x : Obj} (t : PathAt w base v us p) (hu : OwnL w base u s.sides) (hn : ∀ g, u.ownBlock = some g → v.ownBlock ≠ some g)
    (hown : w'.ownsRow base 41 2 v' (p.length + 1) (cellsP us p ++ [.int .i64 s.at_, u])) (hgr : (w.alloc x).grownBy w' v.ownBlock) (hat : v'.ownBlock = v.ownBlock ∨ v'.ownBlock = some (w.alloc x).heap.size) : PathAt w' base v' (us ++ [u]) (p ++ [s]) := by
  have hz : (w.alloc x).heap.size = w.heap.size + 1 := by simp
  have kp : ∀ k, k < w.heap.size → v.ownBlock ≠ some k → w'.heap[k]? = w.heap[k]? := fun k hk hn => (hgr.block k (by omega) fun e => hn e.symm).trans (Below.heap_alloc w x k hk)
  have ho' : ∀ k, k < w.heap.size → v.ownBlock ≠ some k → v'.ownBlock ≠ some k := fun k hk hn => by
    rcases hat with e | e
    · rw [e]; exact hn
    · rw [e]; intro e2; have := Option.some.inj e2; omega
  refine ⟨by rw [List.length_append, cellsP_snoc _ _ _ _ t.len]; exact hown, by simp [t.len], ?_, ?_⟩
  · intro k u' r' h1 h2
    by_cases hk : k < us.length
    · rw [List.getElem?_append_left hk] at h1
      rw [List.getElem?_append_left (by rw [← t.len]; exact hk)] at h2
      exact OwnL.keep (t.row k u' r' h1 h2) fun q _ hq hq2 => kp q hq (t.nR u' (List.mem_of_getElem? h1) q hq2)
    · have hk2 : k = us.length := by
        have := (List.getElem?_eq_some_iff.1 h1).1
        simp at this
        omega
      subst hk2
      rw [List.getElem?_append_right (Nat.le_refl _), Nat.sub_self] at h1
      rw [t.len, List.getElem?_append_right (Nat.le_refl _), Nat.sub_self] at h2
      obtain rfl : u = u' := Option.some.inj h1
      obtain rfl : s = r' := Option.some.inj h2
      exact OwnL.keep hu fun q _ hq hq2 => kp q hq (hn q hq2)
  · intro u' hu' g hg
    rcases List.mem_append.1 hu' with h | h
    · obtain ⟨k, hk, e⟩ := List.mem_iff_getElem.1 h
      have h1 : us[k]? = some u' := by rw [List.getElem?_eq_getElem hk, e]
      have h2 : k < p.length := by rw [← t.len]; exact hk
      exact ho' g (OwnL.lt (t.row k u' _ h1 (List.getElem?_eq_getElem h2)) hg).2 (t.nR u' h g hg)
    · obtain rfl := List.mem_singleton.1 h
      exact ho' g (OwnL.lt hu hg).2 (hn g hg)
theorem PathAt.read {w : World} {base : Nat} {v : Value} {us : List Value} {p : List Stp} (t : PathAt w base v us p) : ∃ oa cap, v = .slice oa p.length cap ∧ PathR w oa p := by
  obtain ⟨oa, cap, rfl⟩ := owns_slice3 t.owns
  refine ⟨oa, cap, rfl, fun k s hs => ?_⟩
  have hk := (List.getElem?_eq_some_iff.1 hs).1
  obtain ⟨g, cap', e, _, _, hcell⟩ := owns_formG t.owns (by omega)
  obtain ⟨rfl, _, _⟩ := Value.slice.inj e
  obtain ⟨u, hu⟩ : ∃ u, us[k]? = some u := ⟨_, List.getElem?_eq_getElem (by rw [t.len]; exact hk)⟩
  obtain ⟨c1, c2⟩ := cellsP_get us p k u s hu hs
  have hrow := t.row k u s hu hs
  obtain ⟨ob, cb, rfl⟩ := OwnL.form hrow
  refine ⟨g, 0, rfl, ?_, ob, cb, ?_, fun i x hx => ?_⟩
  · rw [Nat.zero_add]; exact hcell _ _ c1
  · rw [Nat.zero_add]; exact hcell _ _ c2
  · obtain ⟨g2, rfl, _, _, h3, _⟩ := OwnL.cell hrow hx
    exact ⟨g2, 0, rfl, by rw [Nat.zero_add]; exact h3⟩
theorem erase_at {g : List ByteArray} {a j : Nat} (hj : j < g.length) (e : j = a) : (g.take (j + 1)).eraseIdx a = (g.take j).eraseIdx a := by
  subst e
  have hl : (g.take j).length = j := by rw [List.length_take]; omega
  rw [List.take_add_one, List.getElem?_eq_getElem hj]
  show (g.take j ++ [g[j]]).eraseIdx j = (g.take j).eraseIdx j
  rw [List.eraseIdx_append_of_length_le (l := g.take j) (Nat.le_of_eq hl), List.eraseIdx_of_length_le (l := g.take j) (Nat.le_of_eq hl), hl, Nat.sub_self]
  simp
theorem erase_not {g : List ByteArray} {a j : Nat} (hj : j < g.length) (e : ¬ j = a) : (g.take (j + 1)).eraseIdx a = (g.take j).eraseIdx a ++ [g[j]] := by
  have hl : (g.take j).length = j := by rw [List.length_take]; omega
  rw [List.take_add_one, List.getElem?_eq_getElem hj]
  show (g.take j ++ [g[j]]).eraseIdx a = _
  by_cases h : a < j
  · rw [List.eraseIdx_append_of_lt_length (by omega)]
  · rw [List.eraseIdx_of_length_le (by simp; omega), List.eraseIdx_of_length_le (by omega)]
section
variable {R : World → Prop} {h : ByteArray → ByteArray} {B : Nat}
end
end Go.Proofs.YtgokehbdappcdaaDoor

namespace Go.Proofs.YtgokehbdappcdaaDoor
set_option maxRecDepth 20000
open Go.RowKit

section
variable {R : World → Prop} {h : ByteArray → ByteArray} {B : Nat}
theorem chk_no {top s : ByteArray} {n i : Int} {p : List Stp} (hn : ¬ (0 ≤ i ∧ i < n ∧ n ≤ 32768 ∧ ¬ top.size = 0)) : chkB h top n i s p = false := by
  unfold chkB okB
  refine Bool.eq_false_iff.2 fun e => hn ?_
  simp only [Bool.and_eq_true, Bool.not_eq_true', decide_eq_true_eq, beq_eq_false_iff_ne, ne_eq] at e
  exact ⟨e.1.2.2.1, e.1.2.2.2.1, e.1.2.1, e.1.1⟩
/-- What the steps before a place must be. -/
def FitTo (n i : Nat) (p : List Stp) (k : Nat) : Prop := ∀ (j : Nat) (s : Stp), j < k → p[j]? = some s → 2 ≤ upK n j ∧ fitP s (upK n j) (iK i j)
theorem chk_bad {top s : ByteArray} {n i k : Nat} {p : List Stp} {x : Stp} (hx : p[k]? = some x) (hn : ¬ (2 ≤ upK n k ∧ fitP x (upK n k) (iK i k))) : chkB h top n i s p = false := by
  unfold chkB okB
  refine Bool.eq_false_iff.2 fun e => hn ?_
  simp only [Bool.and_eq_true, decide_eq_true_eq] at e
  have hl := e.1.2.2.2.2
  rw [Int.toNat_natCast, Int.toNat_natCast, leadB_iff] at hl
  have hk := (List.getElem?_eq_some_iff.1 hx).1
  rw [hl.1] at hk
  have := (upK_hgt n).2.2 k hk
  exact ⟨by omega, hl.2 k x hx⟩
theorem chk_end {top s : ByteArray} {n i : Nat} {p : List Stp} (h1 : i < n) (h2 : n ≤ 32768) (h3 : ¬ top.size = 0) (hf : FitTo n i p p.length) : chkB h top n i s p = (decide (upK n p.length = 1) && decide (h (rootT n (climb h (h (leafT s)) p)) = top)) := by
  have hlead : leadB n i p = decide (upK n p.length = 1) := by
    rw [Bool.eq_iff_iff, leadB_iff, decide_eq_true_eq]
    constructor
    · intro hl
      rw [hl.1]
      exact (upK_hgt n).2.1 (by omega)
    · intro e
      refine ⟨?_, fun k x hx => (hf k x (List.getElem?_eq_some_iff.1 hx).1 hx).2⟩
      obtain ⟨a1, a2, a3⟩ := upK_hgt n
      rcases Nat.lt_trichotomy p.length (hgt n) with hlt | heq | hgt'
      · have := a3 _ hlt
        omega
      · exact heq
      · obtain ⟨x, hx⟩ : ∃ x, p[hgt n]? = some x := ⟨_, List.getElem?_eq_getElem hgt'⟩
        have := (hf _ x hgt' hx).1
        omega
  unfold chkB okB
  rw [Int.toNat_natCast, Int.toNat_natCast, hlead]
  have e1 : decide ((n : Int) ≤ 32768) = true := decide_eq_true (by omega)
  have e2 : decide ((0 : Int) ≤ (i : Int)) = true := decide_eq_true (by omega)
  have e3 : decide ((i : Int) < (n : Int)) = true := decide_eq_true (by omega)
  have e4 : (!(top.size == 0)) = true := by simpa using h3
  rw [e1, e2, e3, e4]
  rfl
theorem rcheck_no (w : World) (top s : ByteArray) (n i : Int) (oa : Option Addr) (c pl : Nat) (hn : ¬ (0 ≤ i ∧ i < n ∧ n ≤ 32768 ∧ ¬ top.size = 0)) :
    Calls Tryd.prog 13 #[.pointer (some ⟨B, 0, none⟩), .string top, .int .i64 n, .int .i64 i, .string s, .slice oa pl c] w fun e w' => e = .returned (.bool false) ∧ w' = w := by
  have he := empty_is top
  have hway : i < 0 ∨ (¬ i < 0 ∧ n ≤ i) ∨ (¬ i < 0 ∧ ¬ n ≤ i ∧ 32768 < n) ∨ (¬ i < 0 ∧ ¬ n ≤ i ∧ ¬ 32768 < n ∧ top.size = 0) := by omega
  clear hn
  rcases hway with h1 | ⟨h1, h2⟩ | ⟨h1, h2, h3⟩ | ⟨h1, h2, h3, h4⟩
  case' inr.inr.inr => rw [h4, show ((0 : Nat) == 0) = true from rfl] at he
  case' inl => clear he
  case' inr.inl => clear he
  case' inr.inr.inl => clear he
  all_goals
    go_enter Tryd.func13, Tryd.ntmps13
    go_wp2
    go_ret
    exact ⟨rfl, rfl⟩
end
end Go.Proofs.YtgokehbdappcdaaDoor
