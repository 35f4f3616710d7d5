/- Which slots may be as they are: the arithmetic, and rows of bools; nothing of the program. -/
import Derived.Test.YtlcadhojfnanfaaDoorShNames
import Derived.Maps.OwnSet
import Derived.Maps.OwnOps
import Derived.Maps.Views
namespace Go.Proofs.YtlcadhojfnanfaaDoor
set_option maxRecDepth 20000
open Go.RowKit Go.Maps

/-- May the slot at a place be as it is? -/
def rightB (l : List En) (i : Nat) (x : En) : Bool := if frE x = true then decide (x.ino = 0) && decide (x.gen = 0) else decide (nmL x.nm.data.toList = 0) && decide (fstI (hasN x.nm) l = (i : Int))
def rightL (l : List En) : List Bool := (List.range l.length).map fun i => rightB l i (l.getD i default)
theorem rightL_len (l : List En) : (rightL l).length = l.length := by simp [rightL]
theorem rightL_get {l : List En} {i : Nat} (hi : i < l.length) : (rightL l)[i]'(by rw [rightL_len]; exact hi) = rightB l i l[i] := by
  simp [rightL, List.getD, hi]
/-- How often a name stands in the first slots. -/
def cnt (l : List En) (k : Nat) (s : ByteArray) : Nat := ((l.take k).filter (hasN s)).length
theorem cnt_le (l : List En) (k : Nat) (s : ByteArray) : cnt l k s ≤ k := Nat.le_trans (List.length_filter_le _ _) (by rw [List.length_take]; omega)
theorem cnt_succ {l : List En} {k : Nat} (hk : k < l.length) (s : ByteArray) : cnt l (k + 1) s = if hasN s l[k] = true then cnt l k s + 1 else cnt l k s := by
  unfold cnt
  rw [List.take_add_one, List.getElem?_eq_getElem hk]
  show ((l.take k ++ [l[k]]).filter _).length = _
  rw [List.filter_append, List.length_append]
  by_cases h : hasN s l[k] = true
  · rw [if_pos h]; simp [h]
  · rw [if_neg h]; simp [h]
theorem cnt_zero {l : List En} {k : Nat} {s : ByteArray} (hk : k < l.length) (h : hasN s l[k] = true) : cnt l k s = 0 ↔ fstI (hasN s) l = (k : Int) := by
  constructor
  · intro h0
    refine fstI_hit hk h fun j hj => ?_
    unfold cnt at h0
    have h1 := List.eq_nil_of_length_eq_zero h0
    rw [List.filter_eq_nil_iff] at h1
    have := h1 (l[j]'(by omega)) (List.mem_iff_getElem.2 ⟨j, by rw [List.length_take]; omega, by simp⟩)
    simpa using this
  · intro h0
    unfold cnt
    rw [List.length_eq_zero_iff, List.filter_eq_nil_iff]
    intro x hx hp
    obtain ⟨j, hj, rfl⟩ := List.mem_iff_getElem.1 hx
    rw [List.length_take] at hj
    unfold fstI at h0
    split at h0
    · next i hi =>
      have := (List.findIdx?_eq_some_iff_getElem.1 hi).2.2 j (by omega)
      simp at hp
      simp [hp] at this
    · omega
theorem hasN_self {x : En} (h : frE x = false) : hasN x.nm x = true := by
  unfold hasN
  have : x.nm.toList.isEmpty = false := h
  rw [this]
  simp
theorem hasN_other {s : ByteArray} {x : En} (h : s ≠ x.nm) : hasN s x = false := by
  unfold hasN
  have : (x.nm.toList == s.toList) = false := by
    rw [beq_eq_false_iff_ne]
    intro e
    apply h
    rw [ByteArray.toList_eq, ByteArray.toList_eq] at e
    exact (ByteArray.ext (Array.toList_inj.1 e)).symm
  rw [this]
  simp
theorem hasN_free {s : ByteArray} {x : En} (h : frE x = true) : hasN s x = false := by
  unfold hasN
  have : x.nm.toList.isEmpty = true := h
  rw [this]
  rfl
/-- What a map of counts says of the first slots. -/
def CntD (D : DataW Unit) (l : List En) (k : Nat) : Prop := IsMap D ∧ ∀ s : ByteArray, D.atKey (.string s.data.toList) (.lit (.int .i64 0)) = .lit (.int .i64 (cnt l k s : Nat))
theorem CntD.free {D : DataW Unit} {l : List En} {k : Nat} (h : CntD D l k) (hk : k < l.length) (hf : frE l[k] = true) : CntD D l (k + 1) :=
  ⟨h.1, fun s => by rw [cnt_succ hk, if_neg (by rw [hasN_free hf]; decide)]; exact h.2 s⟩
theorem CntD.put {D : DataW Unit} {l : List En} {k : Nat} (h : CntD D l k) (hk : k < l.length) (hf : frE l[k] = false) : CntD (D.put (.string l[k].nm.data.toList) (.lit (.int .i64 ((cnt l k l[k].nm + 1 : Nat) : Int)))) l (k + 1) := by
  refine ⟨h.1.put _ _, fun s => ?_⟩
  rw [cnt_succ hk]
  by_cases e : s = l[k].nm
  · subst e
    rw [if_pos (hasN_self hf)]
    exact atKey_put_same h.1 (by first | exact trivial | simp [WideAt.IsKeyLit]) _ _
  · rw [if_neg (by rw [hasN_other e]; decide), atKey_put_other (fun e2 => e (by
      have := Lit.string.inj e2
      exact ByteArray.ext (Array.toList_inj.1 this)))]
    exact h.2 s
def RowB (w : World) (g : Nat) (B : List Bool) : Prop := w.heap[g]? = some (.cells (B.map Value.bool).toArray 4 (0, 0))
theorem RowB.lt {w : World} {g : Nat} {B : List Bool} (h : RowB w g B) : g < w.heap.size := lt_of_block h
theorem RowB.at {w : World} {g : Nat} {B : List Bool} (h : RowB w g B) {i : Nat} (hi : i < B.length) : w.cell? ⟨g, i, none⟩ = some (.bool B[i]) := by
  rw [cell_of_row _ _ _ _ _ _ h, List.getElem?_toArray, List.getElem?_map, List.getElem?_eq_getElem hi]
  rfl
theorem RowB.frozen {w : World} {g : Nat} {B : List Bool} (h : RowB w g B) (i : Nat) : w.frozen? ⟨g, i, none⟩ = false := frozen_of_row w g i _ _ h
theorem RowB.set {w : World} {g : Nat} {B : List Bool} (h : RowB w g B) (i : Nat) (b : Bool) : RowB (w.setCell ⟨g, i, none⟩ (.bool b)) g (B.set i b) := by
  have e := heap_setCell_same w g i _ 4 (.bool b) h
  unfold RowB
  rw [e]
  simp
end Go.Proofs.YtlcadhojfnanfaaDoor
