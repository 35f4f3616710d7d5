/- Lists of texts: that came in, that were made; the same texts; the first of them. -/
import Derived.Test.YtlcadhojfnanfaaDoorPtName
import Derived.Test.YtlcadhojfnanfaaDoorGrArgs
import Derived.Maps.AppendAt
import Derived.Deep.OwnRows
import Derived.Deep.AppendLies
import Derived.OwnWalk
namespace Go.Proofs.YtlcadhojfnanfaaDoor
set_option maxRecDepth 20000
open Go.ChangeShapes Go.WideShapes Go.RowKit Go.Deep

/-- A slice is as a slice is: no longer than its place. -/
def Capped (v : Value) : Prop := ∀ oa len cap, v = .slice oa len cap → len ≤ cap ∧ cap ≤ maxLen
def LS (w : World) (v : Value) (l : List ByteArray) : Prop := List1 Value.string w v l
section
variable {H : Type} {enc : TypeId × Value → H} {W : World}
end
theorem List1.below {α : Type} {f : α → Value} {w w' : World} {v : Value} {l : List α} (h : List1 f w v l) (hb : Below w.heap.size w w') : List1 f w' v l := by
  rcases h with h | ⟨g, o, cap, e, hg, hx⟩
  · exact .inl h
  · exact .inr ⟨g, o, cap, e, Nat.lt_of_lt_of_le hg hb.size, fun i x hi => (cell_kept_1 (hb.block g hg) _).trans (hx i x hi)⟩
/-- The element at a place of a list. -/
theorem List1.at {α : Type} {f : α → Value} {W : World} {oa : Option Addr} {cap : Nat} {l : List α} (h : List1 f W (.slice oa l.length cap) l) {i : Nat} (hi : i < l.length) : ∃ g o, oa = some ⟨g, o, none⟩ ∧ g < W.heap.size ∧ W.cell? ⟨g, o + i, none⟩ = some (f l[i]) := by
  obtain ⟨g, o, e, hg, hx⟩ := h.get hi
  exact ⟨g, o, e, hg, hx i _ (List.getElem?_eq_getElem hi)⟩
theorem List1.cut {α : Type} {f : α → Value} {W : World} {oa : Option Addr} {cap : Nat} {l : List α} (h : List1 f W (.slice oa l.length cap) l) (k : Nat) (hk : k < l.length) (c : Nat) : List1 f W (.slice oa k c) (l.take k) := by
  obtain ⟨g, o, rfl, hg, hx⟩ := h.get hk
  refine .inr ⟨g, o, c, by rw [List.length_take, Nat.min_eq_left (by omega)], hg, fun i x hi => hx i x ?_⟩
  rw [List.getElem?_take] at hi
  split at hi
  · exact hi
  · cases hi
/-- A list of texts of one's own. -/
def SZ (w : World) (base : Nat) (v : Value) (l : List ByteArray) : Prop := w.ownsRow base 9 1 v l.length (l.map Value.string)
theorem SZ.nil (w : World) (base : Nat) : SZ w base (.slice none 0 0) [] := World.ownsRow_nil _ _ _ _
theorem SZ.form {w : World} {base : Nat} {v : Value} {l : List ByteArray} (h : SZ w base v l) : ∃ oa cap, v = .slice oa l.length cap := by
  rcases h.2 with ⟨e, h0⟩ | ⟨g, cap, cur, e, _⟩
  · exact ⟨none, 0, by rw [e, h0]⟩
  · exact ⟨_, _, e⟩
theorem SZ.below {w w' : World} {base : Nat} {v : Value} {l : List ByteArray} (h : SZ w base v l) (hb : Below w.heap.size w w') : SZ w' base v l := by
  refine ⟨h.1, ?_⟩
  rcases h.2 with h0 | ⟨g, cap, cur, e, h0, hg, h1, h2, h3, h4⟩
  · exact .inl h0
  · exact .inr ⟨g, cap, cur, e, h0, (hb.block g (lt_of_block hg)).trans hg, h1, h2, h3, h4⟩
theorem SZ.list1 {w : World} {base : Nat} {v : Value} {l : List ByteArray} (h : SZ w base v l) : LS w v l := by
  have hh := h
  unfold SZ at hh
  rcases h.2 with ⟨e, h0⟩ | ⟨g, cap, cur, e, h0, hg, h1, h2, h3, h4⟩
  · exact .inl ⟨none, 0, e, List.eq_nil_of_length_eq_zero h0⟩
  · refine .inr ⟨g, 0, cap, e, lt_of_block hg, fun i x hx => ?_⟩
    subst e
    have hi := (List.getElem?_eq_some_iff.1 hx).1
    have := hh.cellAt i (by omega)
    rw [Nat.zero_add, this, List.getElem?_map, hx]
    rfl
theorem pt_info_str : (Tryd.prog.info? 9).map (fun i => (i.zero, i.size, i.bytes)) = some (some (.string ByteArray.empty), 1, 16) := by kernel_rfl
/-- A block of texts that was just made. -/
theorem made_list (w : World) (l : List ByteArray) (c : Nat) : LS (w.alloc (.cells (l.map Value.string).toArray 9)) (.slice (some ⟨w.heap.size, 0, none⟩) l.length c) l := by
  have hb : (w.alloc (.cells (l.map Value.string).toArray 9)).heap[w.heap.size]? = _ := heap_alloc_new w _
  refine .inr ⟨w.heap.size, 0, c, rfl, lt_of_block hb, fun i x hx => ?_⟩
  rw [Nat.zero_add, cell_of_row _ _ _ _ _ _ hb, List.getElem?_toArray, List.getElem?_map, hx]
  rfl
end Go.Proofs.YtlcadhojfnanfaaDoor
