/- Rising lists: what they have, and that they are one if they have the same. Nothing of the program's steps. -/
import Derived.Test.YtcmbphppeobhfabCtBoth
namespace Go.Proofs.Ytcmbphppeobhfab
set_option maxRecDepth 20000
open Go.RowKit

theorem bothL_mem (a b : List Int) (x : Int) : x ∈ bothL a b ↔ x ∈ a ∨ x ∈ b := by
  fun_induction bothL a b with
  | case1 b => simp
  | case2 a h => simp
  | case3 p a q b h ih => simp only [List.mem_cons, ih, or_assoc]
  | case4 p a q b h1 h2 ih =>
    simp only [List.mem_cons, ih]
    constructor
    · rintro (h | (h | h) | h) <;> simp [h]
    · rintro ((h | h) | (h | h)) <;> simp [h]
  | case5 p a q b h1 h2 ih =>
    have : p = q := by omega
    subst this
    simp only [List.mem_cons, ih]
    constructor
    · rintro (h | h | h) <;> simp [h]
    · rintro ((h | h) | (h | h)) <;> simp [h]
theorem bothL_rise (a b : List Int) (ha : a.Pairwise (· < ·)) (hb : b.Pairwise (· < ·)) : (bothL a b).Pairwise (· < ·) := by
  fun_induction bothL a b with
  | case1 b => exact hb
  | case2 a h => exact ha
  | case3 p a q b h ih =>
    rw [List.pairwise_cons] at ha
    refine List.pairwise_cons.2 ⟨fun x hx => ?_, ih ha.2 hb⟩
    rcases (bothL_mem _ _ _).1 hx with h1 | h1
    · exact ha.1 x h1
    · rcases List.mem_cons.1 h1 with rfl | h2
      · exact h
      · exact Int.lt_trans h ((List.pairwise_cons.1 hb).1 x h2)
  | case4 p a q b h1 h2 ih =>
    have hb' := List.pairwise_cons.1 hb
    refine List.pairwise_cons.2 ⟨fun x hx => ?_, ih ha hb'.2⟩
    rcases (bothL_mem _ _ _).1 hx with h | h
    · rcases List.mem_cons.1 h with rfl | h3
      · exact h2
      · exact Int.lt_trans h2 ((List.pairwise_cons.1 ha).1 x h3)
    · exact hb'.1 x h
  | case5 p a q b h1 h2 ih =>
    have e : p = q := by omega
    subst e
    have ha' := List.pairwise_cons.1 ha
    have hb' := List.pairwise_cons.1 hb
    refine List.pairwise_cons.2 ⟨fun x hx => ?_, ih ha'.2 hb'.2⟩
    rcases (bothL_mem _ _ _).1 hx with h | h
    · exact ha'.1 x h
    · exact hb'.1 x h
theorem rise_ext : ∀ (a b : List Int), a.Pairwise (· < ·) → b.Pairwise (· < ·) → (∀ x, x ∈ a ↔ x ∈ b) → a = b
  | [], [], _, _, _ => rfl
  | [], y :: b, _, _, h => by have := (h y).2 (by simp); simp at this
  | x :: a, [], _, _, h => by have := (h x).1 (by simp); simp at this
  | x :: a, y :: b, ha, hb, h => by
    have ha' := List.pairwise_cons.1 ha
    have hb' := List.pairwise_cons.1 hb
    have e : x = y := by
      rcases List.mem_cons.1 ((h x).1 (by simp)) with e | h1
      · exact e
      · rcases List.mem_cons.1 ((h y).2 (by simp)) with e | h2
        · exact e.symm
        · have := ha'.1 y h2; have := hb'.1 x h1; omega
    subst e
    have : a = b := rise_ext a b ha'.2 hb'.2 fun z => by
      constructor
      · intro hz
        rcases List.mem_cons.1 ((h z).1 (List.mem_cons_of_mem _ hz)) with e | h1
        · subst e; exact absurd (ha'.1 z hz) (by omega)
        · exact h1
      · intro hz
        rcases List.mem_cons.1 ((h z).2 (List.mem_cons_of_mem _ hz)) with e | h1
        · subst e; exact absurd (hb'.1 z hz) (by omega)
        · exact h1
    rw [this]
end Go.Proofs.Ytcmbphppeobhfab
