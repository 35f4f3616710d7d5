/- What a call changes: blocks of a set, and new ones; rows of cells that are owned. -/
import Derived.Test.YtlcadhojfnanfaaDoorBxRow
import Derived.Maps.AppendAt
namespace Go.Proofs.YtlcadhojfnanfaaDoor
set_option maxRecDepth 20000
open Go.RowKit

/-- Nothing that was there is changed but blocks of F; the blocks of F, and those that are new. -/
def Touch (F : Nat → Prop) (w w' : World) : Prop := Below 0 w w' ∧ ∀ k, k < w.heap.size → ¬ F k → w'.heap[k]? = w.heap[k]?
def grow (F : Nat → Prop) (w w' : World) : Nat → Prop := fun k => F k ∨ (w.heap.size ≤ k ∧ k < w'.heap.size)
theorem Touch.refl (F : Nat → Prop) (w : World) : Touch F w w := ⟨Below.refl _ _, fun _ _ _ => rfl⟩
theorem Touch.size {F : Nat → Prop} {w w' : World} (h : Touch F w w') : w.heap.size ≤ w'.heap.size := h.1.size
theorem Touch.trans {F : Nat → Prop} {w w1 w2 : World} (h : Touch F w w1) (k : Touch (grow F w w1) w1 w2) : Touch F w w2 :=
  ⟨h.1.trans k.1, fun i hi hF => (k.2 i (Nat.lt_of_lt_of_le hi h.size) (fun hg => hg.elim hF fun hg => by omega)).trans (h.2 i hi hF)⟩
theorem Touch.of_below {F : Nat → Prop} {w w' : World} (h : Below w.heap.size w w') : Touch F w w' := ⟨h.mono (Nat.zero_le _), fun k hk _ => h.block k hk⟩
theorem Touch.mono {F F' : Nat → Prop} {w w' : World} (h : Touch F w w') (hF : ∀ k, F k → F' k) : Touch F' w w' := ⟨h.1, fun k hk hn => h.2 k hk fun hf => hn (hF k hf)⟩
theorem Touch.drew {F : Nat → Prop} {w w' : World} (h : Touch F w w') : Touch F w w'.drew := ⟨h.1.drew, fun k hk hb => h.2 k hk hb⟩
theorem Touch.setCell {F : Nat → Prop} {w w' : World} (h : Touch F w w') (b i : Nat) (v : Value) (hb : F b ∨ w.heap.size ≤ b) : Touch F w (w'.setCell ⟨b, i, none⟩ v) :=
  ⟨h.1.setCell (p := ⟨b, i, none⟩) (Nat.zero_le _) _, fun k hk hn => (Below.heap_setCell w' ⟨b, i, none⟩ _ k (fun e => by
    subst e
    rcases hb with hb | hb
    · exact hn hb
    · exact absurd hb (Nat.not_le.2 hk))).trans (h.2 k hk hn)⟩
theorem Touch.below {F : Nat → Prop} {w w' : World} (h : Touch F w w') {B : Nat} (hB : B ≤ w.heap.size) (hF : ∀ k, F k → B ≤ k) : Below B w w' :=
  ⟨h.1.os, h.1.tape, h.1.output, h.1.size, fun k hk => h.2 k (by omega) fun hf => absurd (hF k hf) (by omega)⟩

theorem Row.setL {w : World} {g t : Nat} {l : List Value} (h : Row w g t l) (i : Nat) (v : Value) : Row (w.setCell ⟨g, i, none⟩ v) g t (l.set i v) := by
  have h1 := heap_setCell_same w g i _ t v h
  rw [List.setIfInBounds_toArray] at h1
  exact h1
theorem Row.off {w : World} {g t b : Nat} {l : List Value} (h : Row w g t l) (hb : g ≠ b) (i : Nat) (v : Value) : Row (w.setCell ⟨b, i, none⟩ v) g t l := (Below.heap_setCell w ⟨b, i, none⟩ _ g hb).trans h
theorem owns_keep {w w' : World} {e : TypeId} {z n : Nat} {v : Value} {xs : List Value} (h : w.ownsRow 0 e z v n xs) (hb : ∀ g, v.ownBlock = some g → w'.heap[g]? = w.heap[g]?) : w'.ownsRow 0 e z v n xs := by
  refine ⟨h.1, ?_⟩
  rcases h.2 with hn | ⟨g, cap, cur, rfl, h0, hg, hr⟩
  · exact .inl hn
  · exact .inr ⟨g, cap, cur, rfl, h0, (hb g rfl).trans hg, hr⟩
theorem owns_lt {w : World} {e : TypeId} {z n : Nat} {v : Value} {xs : List Value} (h : w.ownsRow 0 e z v n xs) (g : Nat) (hv : v.ownBlock = some g) : g < w.heap.size := by
  rcases h.2 with ⟨rfl, _⟩ | ⟨g', cap, cur, rfl, h0, hg, hr⟩
  · cases hv
  · cases hv; exact lt_of_block hg
theorem owns_form {w : World} {e : TypeId} {z n : Nat} {v : Value} {xs : List Value} (h : w.ownsRow 0 e z v n xs) (hn : 0 < n) : ∃ g cap, v = .slice (some ⟨g, 0, none⟩) n cap ∧ n ≤ cap ∧ ∀ i u, xs[i]? = some u → w.cell? ⟨g, i, none⟩ = some u := by
  rcases h.2 with ⟨rfl, h0⟩ | ⟨g, cap, cur, rfl, h0, hg, hc, hm, hs, ht⟩
  · omega
  · refine ⟨g, cap, rfl, hc, fun i u hu => ?_⟩
    rw [cell_of_row _ _ _ _ _ _ hg]
    rw [← ht, List.getElem?_take] at hu
    split at hu
    · simpa using hu
    · cases hu
theorem owns_off {w : World} {e : TypeId} {z n b : Nat} {v : Value} {xs : List Value} (h : w.ownsRow 0 e z v n xs) (hb : v.ownBlock ≠ some b) (i : Nat) (u : Value) : (w.setCell ⟨b, i, none⟩ u).ownsRow 0 e z v n xs :=
  owns_keep h fun g hg => Below.heap_setCell w ⟨b, i, none⟩ _ g fun e => hb (by rw [hg, e])

theorem owns_slice {w : World} {e : TypeId} {z n : Nat} {v : Value} {xs : List Value} (h : w.ownsRow 0 e z v n xs) : ∃ oa cap, v = .slice oa n cap := by
  rcases h.2 with ⟨rfl, h0⟩ | ⟨g, cap, cur, rfl, _⟩
  · exact ⟨none, 0, by rw [h0]⟩
  · exact ⟨_, _, rfl⟩
end Go.Proofs.YtlcadhojfnanfaaDoor
