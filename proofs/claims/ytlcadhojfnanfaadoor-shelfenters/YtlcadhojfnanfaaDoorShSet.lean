/- An entry stored into a list of one's own. -/
import Derived.Test.YtlcadhojfnanfaaDoorShMath
import Derived.Test.YtlcadhojfnanfaaDoorShNil
namespace Go.Proofs.YtlcadhojfnanfaaDoor
set_option maxRecDepth 20000
open Go.RowKit

theorem EZ.block {w : World} {base : Nat} {oa : Option Addr} {n cap : Nat} {l : List En} (h : EZ w base (.slice oa n cap) l) (hl : 0 < l.length) : ∃ g, oa = some ⟨g, 0, none⟩ ∧ base ≤ g ∧ g < w.heap.size := by
  rcases h.2 with ⟨e, h0⟩ | ⟨g, cap', cur, e, h0, hg, _⟩
  · omega
  · simp only [Value.slice.injEq] at e
    exact ⟨g, e.1, h0, lt_of_block hg⟩
theorem EZ.at {w : World} {base g cap : Nat} {l : List En} (h : EZ w base (.slice (some ⟨g, 0, none⟩) l.length cap) l) {i : Nat} (hi : i < l.length) : EnAt w g (i * 3) l[i] := by
  unfold EZ at h
  have k : ∀ c, c < 3 → w.cell? ⟨g, i * 3 + c, none⟩ = (l[i]).cells[c]? := fun c hc => by
    rw [h.cellAt (i * 3 + c) (by omega), flat_at l i _ (List.getElem?_eq_getElem hi) c hc]
  exact ⟨k 0 (by omega), k 1 (by omega), k 2 (by omega)⟩
theorem EZ.frozen {w : World} {base g cap : Nat} {l : List En} (h : EZ w base (.slice (some ⟨g, 0, none⟩) l.length cap) l) (j : Nat) : w.frozen? ⟨g, j, none⟩ = false := by
  unfold EZ at h
  exact h.frozenAt j
theorem EZ.set {w : World} {base g cap : Nat} {l : List En} (h : EZ w base (.slice (some ⟨g, 0, none⟩) l.length cap) l) {i : Nat} (hi : i < l.length) (x : En) :
    EZ (((w.setCell ⟨g, i * 3, none⟩ (.string x.nm)).setCell ⟨g, i * 3 + 1, none⟩ (.int .i64 x.ino)).setCell ⟨g, i * 3 + 2, none⟩ (.int .i64 x.gen)) base (.slice (some ⟨g, 0, none⟩) l.length cap) (l.set i x) := by
  rcases h.2 with ⟨e, h0⟩ | ⟨g', cap', cur, e, h0, hg, h1, h2, h3, h4⟩
  · cases e
  · simp only [Value.slice.injEq, Option.some.injEq, Addr.mk.injEq] at e
    obtain ⟨⟨rfl, _⟩, _, rfl⟩ := e
    have e0 := heap_setCell_same w g (i * 3) _ 28 (.string x.nm) hg
    have e1 := heap_setCell_same _ g (i * 3 + 1) _ 28 (.int .i64 x.ino) e0
    have e2 := heap_setCell_same _ g (i * 3 + 2) _ 28 (.int .i64 x.gen) e1
    refine ⟨flat_len _, .inr ⟨g, cap, _, by rw [List.length_set], h0, e2, by rw [List.length_set]; exact h1, h2, by simp [h3], ?_⟩⟩
    rw [List.length_set, ← flat_set l i x hi, ← h4]
    simp only [Array.toList_setIfInBounds, List.take_set]
end Go.Proofs.YtlcadhojfnanfaaDoor
