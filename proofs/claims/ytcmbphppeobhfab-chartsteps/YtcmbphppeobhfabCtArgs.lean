/- Lists of numbers that came in, and how long they are; the first of them. -/
import Derived.Test.YtcmbphppeobhfabCtInts
namespace Go.Proofs.Ytcmbphppeobhfab
set_option maxRecDepth 20000
open Go.ChangeShapes Go.WideShapes Go.RowKit Go.Deep

/-- A slice is as a slice is: no longer than its place. -/
def Capped (v : Value) : Prop := ∀ oa len cap, v = .slice oa len cap → len ≤ cap ∧ cap ≤ maxLen
section
variable {H : Type} {enc : TypeId × Value → H} {W : World}
theorem intsc_of_trod {v : Value} {d : DataW H} {p : List MemPlace} {base : Nat} (hok : Value.okWide Try.prog W .any base 22 v) (h : DataW.Trod enc Try.prog W 0 (fun _ => true) true 22 v d p) : ∃ l, List1 (Value.int .i64) W v l ∧ (Capped v ∧ ∀ x ∈ l, (Lit.int .i64 x).wf = true) := by
  obtain ⟨l, h1, h2⟩ := ints_of_trod hok h
  refine ⟨l, h1, fun oa len cap e => ?_, h2⟩
  subst e
  obtain ⟨fuel, hf⟩ := h
  rcases open_slice1 Try.underlying22 (by kernel_rfl) hf with ⟨hcs, _⟩ | ⟨a, len', cap', m, n, V, D, Pl, hcs, _, hl, hm, _⟩
  · simp [Value.cells] at hcs
    obtain ⟨rfl, rfl, rfl⟩ := hcs
    exact ⟨Nat.le_refl _, Nat.zero_le _⟩
  · simp [Value.cells] at hcs
    obtain ⟨rfl, rfl, rfl⟩ := hcs
    exact ⟨hl, hm⟩
end
theorem List1.cut {W : World} {oa : Option Addr} {cap : Nat} {l : List Int} (h : List1 (Value.int .i64) W (.slice oa l.length cap) l) (k : Nat) (hk : k < l.length) (c : Nat) : List1 (Value.int .i64) W (.slice oa k c) (l.take k) := by
  obtain ⟨g, o, rfl, hg, hx⟩ := h.get hk
  refine .inr ⟨g, o, c, by rw [List.length_take, Nat.min_eq_left (by omega)], hg, fun i x hi => hx i x ?_⟩
  rw [List.getElem?_take] at hi
  split at hi
  · exact hi
  · cases hi
end Go.Proofs.Ytcmbphppeobhfab
