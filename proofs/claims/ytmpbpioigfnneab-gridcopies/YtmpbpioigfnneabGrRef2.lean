/- The document's grid: Free and Body. -/
import Derived.Test.YtmpbpioigfnneabGrRef
namespace Go.Proofs.Ytmpbpioigfnneab
set_option maxRecDepth 20000
open Go.RowKit

/-- The first j bools. -/
def cutU (u : Nat → Bool) (j : Nat) : Nat → Bool := fun i => decide (i < j) && u i
theorem cutU_zero (u : Nat → Bool) : cutU u 0 = noneU := by funext i; simp [cutU, noneU]
theorem cutU_all (u : Nat → Bool) (n : Nat) (h : ∀ i, n ≤ i → u i = false) : cutU u n = u := by
  funext i
  by_cases e : i < n
  · simp [cutU, e]
  · simp [cutU, e, h i (by omega)]
theorem cutU_succ (u : Nat → Bool) (j : Nat) : cutU u (j + 1) = putU (cutU u j) j (u j) := by
  funext i
  unfold putU cutU
  by_cases e : i = j
  · rw [if_pos e, e]; simp
  · rw [if_neg e]
    congr 1
    by_cases h : i < j
    · simp [h]; omega
    · simp [h]; omega
theorem cutU_at (u : Nat → Bool) (j : Nat) : cutU u j j = false := by simp [cutU]
theorem gB_add : ∀ b0 b1 b2 b3 b4 b5 b6 b7 : Bool, ∀ j : Fin 8, pick8 b0 b1 b2 b3 b4 b5 b6 b7 j.val = false → gB b0 b1 b2 b3 b4 b5 b6 b7 + 2 ^ j.val = gB b0 b1 b2 b3 b4 b5 b6 b7 ||| 2 ^ j.val := by decide +kernel
theorem gByte_add (u : Nat → Bool) (i : Nat) (h : u i = false) : gByte u (i / 8) + 2 ^ (i % 8) = gByte (putU u i true) (i / 8) := by
  have h1 := gByte_or u (i / 8) (i % 8) (by omega)
  rw [show 8 * (i / 8) + i % 8 = i by omega] at h1
  rw [← h1]
  refine gB_add _ _ _ _ _ _ _ _ ⟨i % 8, by omega⟩ ?_
  rw [pick8_at u (i / 8) (i % 8) (by omega), show 8 * (i / 8) + i % 8 = i by omega]
  exact h
def ByteRow (w : World) (g : Nat) (u : Nat → Bool) : Prop := Row w g 5 (rowF 448 fun k => .int .u8 ((gByte u k : Nat) : Int))
theorem ByteRow.set {w : World} {g : Nat} {u : Nat → Bool} (h : ByteRow w g u) (i : Nat) (b : Bool) (x : Nat) (hx : x = gByte (putU u i b) (i / 8)) : ByteRow (w.setCell ⟨g, i / 8, none⟩ (.int .u8 (x : Int))) g (putU u i b) := by
  refine Row.congr (Row.setF h (i / 8) _) (rowF_congr fun k _ => ?_)
  by_cases e : k = i / 8
  · rw [if_pos e, e, hx]
  · rw [if_neg e, gByte_far _ _ _ _ e]
theorem u8_add : ∀ x : Fin 256, ∀ j : Fin 8, x.val + 2 ^ j.val < 256 → (((x.val : Nat) : Int) + 2 ^ j.val % 256) % 256 = ((x.val + 2 ^ j.val : Nat) : Int) := by decide +kernel
theorem made_bytes (w : World) : ByteRow (w.alloc (.cells (madeCells #[.int .u8 0] 448) 5)) w.heap.size noneU := by
  have e : (rowF 448 fun k => Value.int .u8 ((gByte noneU k : Nat) : Int)) = List.replicate 448 (.int .u8 0) := by
    rw [rowF]
    simp only [gByte_none]
    rw [List.map_const', List.length_range]
    rfl
  unfold ByteRow
  rw [e, Row, ← toList_madeCells_one]
  exact heap_alloc_new w _
end Go.Proofs.Ytmpbpioigfnneab
