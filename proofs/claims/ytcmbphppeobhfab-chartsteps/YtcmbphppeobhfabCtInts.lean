/- Lists of numbers: that came in, that were made; the same numbers. -/
import Derived.Test.YtcmbphppeobhfabGrArgs
import Derived.Maps.AppendAt
import Derived.Deep.OwnRows
import Derived.Deep.AppendLies
import Derived.OwnWalk
namespace Go.Proofs.Ytcmbphppeobhfab
set_option maxRecDepth 20000
open Go.RowKit

def intZ (l : List Int) : List Value := l.map (Value.int .i64)
theorem intZ_length (l : List Int) : (intZ l).length = l.length := List.length_map _
theorem intZ_append (l m : List Int) : intZ (l ++ m) = intZ l ++ intZ m := List.map_append
theorem ct_info_int : (Try.prog.info? 3).map (fun i => (i.zero, i.size, i.bytes)) = some (some (.int .i64 0), 1, 8) := by kernel_rfl
/-- A slice in blocks from base on that holds these numbers. -/
def IZ (w : World) (base : Nat) (v : Value) (l : List Int) : Prop := w.ownsRow base 3 1 v l.length (intZ l)
theorem IZ.nil (w : World) (base : Nat) : IZ w base (.slice none 0 0) [] := World.ownsRow_nil _ _ _ _
theorem IZ.keep {w w' : World} {base : Nat} {v : Value} {l : List Int} (h : IZ w base v l) (hk : ∀ k, base ≤ k → k < w.heap.size → w'.heap[k]? = w.heap[k]?) : IZ w' base v l := by
  refine ⟨h.1, ?_⟩
  rcases h.2 with h0 | ⟨g, cap, cur, e, h0, hg, h1, h2, h3, h4⟩
  · exact .inl h0
  · exact .inr ⟨g, cap, cur, e, h0, (hk g h0 (lt_of_block hg)).trans hg, h1, h2, h3, h4⟩
theorem IZ.form {w : World} {base : Nat} {v : Value} {l : List Int} (h : IZ w base v l) : ∃ oa cap, v = .slice oa l.length cap := by
  rcases h.2 with ⟨e, h0⟩ | ⟨g, cap, cur, e, _⟩
  · exact ⟨none, 0, by rw [e, h0]⟩
  · exact ⟨_, _, e⟩
theorem IZ.base {w : World} {base base' : Nat} {v : Value} {l : List Int} (h : IZ w base v l) (hb : base' ≤ base) : IZ w base' v l := by
  refine ⟨h.1, ?_⟩
  rcases h.2 with h0 | ⟨g, cap, cur, e, h0, hr⟩
  · exact .inl h0
  · exact .inr ⟨g, cap, cur, e, Nat.le_trans hb h0, hr⟩
theorem IZ.below {w w' : World} {base : Nat} {v : Value} {l : List Int} (h : IZ w base v l) (hb : Below w.heap.size w w') : IZ w' base v l := h.keep fun k _ hk => hb.block k hk
theorem IZ.list1 {w : World} {base : Nat} {v : Value} {l : List Int} (h : IZ w base v l) : List1 (Value.int .i64) w v l := by
  have hh := h
  unfold IZ at hh
  rcases h.2 with ⟨e, h0⟩ | ⟨g, cap, cur, e, h0, hg, h1, h2, h3, h4⟩
  · exact .inl ⟨none, 0, e, List.eq_nil_of_length_eq_zero h0⟩
  · refine .inr ⟨g, 0, cap, e, lt_of_block hg, fun i x hx => ?_⟩
    subst e
    have hi := (List.getElem?_eq_some_iff.1 hx).1
    have := hh.cellAt i (by omega)
    rw [Nat.zero_add, this, intZ, List.getElem?_map, hx]
    rfl
theorem List1.below {α : Type} {f : α → Value} {w w' : World} {v : Value} {l : List α} (h : List1 f w v l) (hb : Below w.heap.size w w') : List1 f w' v l := by
  rcases h with h | ⟨g, o, cap, e, hg, hx⟩
  · exact .inl h
  · exact .inr ⟨g, o, cap, e, Nat.lt_of_lt_of_le hg hb.size, fun i x hi => (cell_kept_1 (hb.block g hg) _).trans (hx i x hi)⟩
theorem List1.below' {α : Type} {f : α → Value} {w w' : World} {v : Value} {l : List α} (h : List1 f w v l) {k : Nat} (hk : w.heap.size ≤ k) (hb : Below k w w') : List1 f w' v l := h.below (hb.mono hk)
/-- The element at a place of a list. -/
theorem List1.at {α : Type} {f : α → Value} {W : World} {oa : Option Addr} {cap : Nat} {l : List α} (h : List1 f W (.slice oa l.length cap) l) {i : Nat} (hi : i < l.length) : ∃ g o, oa = some ⟨g, o, none⟩ ∧ g < W.heap.size ∧ W.cell? ⟨g, o + i, none⟩ = some (f (l[i]'hi)) := by
  obtain ⟨g, o, e, hg, hx⟩ := h.get hi
  exact ⟨g, o, e, hg, hx i _ (List.getElem?_eq_getElem hi)⟩
end Go.Proofs.Ytcmbphppeobhfab
