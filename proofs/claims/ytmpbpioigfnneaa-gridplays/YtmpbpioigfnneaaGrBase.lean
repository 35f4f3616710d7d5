/- A grid in memory; grid's Size, tells, bit, Has. -/
import Derived.Test.YtmpbpioigfnneaaGrMath
namespace Go.Proofs.Ytmpbpioigfnneaa
set_option maxRecDepth 20000
open Go.RowKit

/-- A grid of n in block B, of which those are used that u says. -/
def GridAt (w : World) (B n : Nat) (u : Nat → Bool) : Prop := Row w B 58 (.int .i64 (n : Int) :: rowF 448 fun k => .int .u8 ((gByte u k : Nat) : Int))
theorem GridAt.lt {w : World} {B n : Nat} {u : Nat → Bool} (h : GridAt w B n u) : B < w.heap.size := Row.lt h
theorem GridAt.keep {w w' : World} {B n : Nat} {u : Nat → Bool} (h : GridAt w B n u) (k : w'.heap[B]? = w.heap[B]?) : GridAt w' B n u := k.trans h
theorem GridAt.size {w : World} {B n : Nat} {u : Nat → Bool} (h : GridAt w B n u) : w.cell? ⟨B, 0, none⟩ = some (.int .i64 (n : Int)) := (Row.cell h 0).trans rfl
theorem GridAt.byte {w : World} {B n : Nat} {u : Nat → Bool} (h : GridAt w B n u) (k : Nat) (hk : k < 448) : w.cell? ⟨B, 1 + k, none⟩ = some (.int .u8 ((gByte u k : Nat) : Int)) := by
  have := Row.cell h (k + 1)
  rw [List.getElem?_cons_succ, rowF_get _ _ _ hk, Nat.add_comm] at this
  exact this
theorem GridAt.frozen {w : World} {B n : Nat} {u : Nat → Bool} (h : GridAt w B n u) (i : Nat) : w.frozen? ⟨B, i, none⟩ = false := Row.frozen h i
theorem size_any (w : World) (B n : Nat) (u : Nat → Bool) (h : GridAt w B n u) :
    Calls Try.prog 12 #[.pointer (some ⟨B, 0, none⟩)] w fun e w' => e = .returned (.int .i64 (n : Int)) ∧ w' = w := by
  have c0 := h.size
  clear h
  go_enter Try.func12, Try.ntmps12
  go_wp2
  go_ret
  exact ⟨rfl, rfl⟩
theorem size_nil (w : World) : Calls Try.prog 12 #[.pointer none] w fun e w' => e = .returned (.int .i64 0) ∧ w' = w := by
  go_enter Try.func12, Try.ntmps12
  go_wp2
  go_ret
  exact ⟨rfl, rfl⟩
def tellsP (n : Nat) (i : Int) : Bool := decide (0 ≤ i ∧ i < (n : Int))
theorem tells_any (w : World) (B n : Nat) (u : Nat → Bool) (h : GridAt w B n u) (i : Int) :
    Calls Try.prog 29 #[.pointer (some ⟨B, 0, none⟩), .int .i64 i] w fun e w' => e = .returned (.bool (tellsP n i)) ∧ w' = w := by
  have hs := size_any w B n u h
  clear h
  by_cases h0 : 0 ≤ i
  · have e : tellsP n i = decide (i < (n : Int)) := by simp [tellsP, h0]
    rw [e]
    go_enter Try.func29, Try.ntmps29
    go_wp2_with fail
    refine hs.mono ?_
    rintro e w1 ⟨rfl, rfl⟩
    go_wp2
    go_ret
    exact ⟨rfl, rfl⟩
  · have e : tellsP n i = false := by simp [tellsP, h0]
    rw [e]
    go_enter Try.func29, Try.ntmps29
    go_wp2
    go_ret
    exact ⟨rfl, rfl⟩
theorem tells_nil (w : World) (i : Int) :
    Calls Try.prog 29 #[.pointer none, .int .i64 i] w fun e w' => e = .returned (.bool false) ∧ w' = w := by
  by_cases h0 : 0 ≤ i
  · have h1 : decide (i < 0) = false := decide_eq_false (by omega)
    go_enter Try.func29, Try.ntmps29
    go_wp2_with fail
    refine (size_nil w).mono ?_
    rintro e w1 ⟨rfl, rfl⟩
    go_wp2
    go_ret
    exact ⟨rfl, rfl⟩
  · go_enter Try.func29, Try.ntmps29
    go_wp2
    go_ret
    exact ⟨rfl, rfl⟩
theorem wraps_u8 (n : Int) (h0 : 0 ≤ n) (h1 : n < 2 ^ 8) : IntKind.u8.wrap n = n := by rw [IntKind.wrap_u8]; omega
theorem u8_and_nat (a b : Nat) (ha : a < 256) (hb : b < 256) : bits .and .u8 (a : Int) (b : Int) = ((a &&& b : Nat) : Int) := (bits_nat .u8 8 (by decide) wraps_u8 a b ha hb).1
theorem u8_or_nat (a b : Nat) (ha : a < 256) (hb : b < 256) : bits .or .u8 (a : Int) (b : Int) = ((a ||| b : Nat) : Int) := (bits_nat .u8 8 (by decide) wraps_u8 a b ha hb).2
theorem int_div_pow (x r : Nat) : ((x : Int) / 2 ^ r) = ((x / 2 ^ r : Nat) : Int) := by rw [Int.natCast_ediv, Int.natCast_pow]; rfl
theorem and_bit (x r : Nat) (hx : x < 256) : (bits .and .u8 ((x : Int) / 2 ^ r) 1 == 1) = (x / 2 ^ r % 2 == 1) := by
  have h1 : x / 2 ^ r < 256 := Nat.lt_of_le_of_lt (Nat.div_le_self _ _) hx
  rw [int_div_pow, show (1 : Int) = ((1 : Nat) : Int) from rfl, u8_and_nat _ _ h1 (by decide), Nat.and_one_is_mod]
  by_cases e : x / 2 ^ r % 2 = 1
  · rw [e]; rfl
  · have e0 : x / 2 ^ r % 2 = 0 := by omega
    rw [e0]; rfl
theorem bit_any (w : World) (B n : Nat) (u : Nat → Bool) (h : GridAt w B n u) (i : Nat) (hi : i < 3584) :
    Calls Try.prog 27 #[.pointer (some ⟨B, 0, none⟩), .int .i64 (i : Int)] w fun e w' => e = .returned (.bool (u i)) ∧ w' = w := by
  have cb := h.byte (i / 8) (by omega)
  have hb := gByte_bit u (i / 8) (i % 8) (by omega)
  have hl := gByte_lt u (i / 8)
  rw [show 8 * (i / 8) + i % 8 = i by omega] at hb
  clear h
  generalize gByte u (i / 8) = x at *
  have ha := and_bit x (i % 8) hl
  rw [hb] at ha
  have hu : ((u i).toNat == 1) = u i := by cases u i <;> rfl
  rw [hu] at ha
  clear hb hu hl
  go_enter Try.func27, Try.ntmps27
  go_wp2
  go_ret
  exact ⟨rfl, rfl⟩
theorem has_any (w : World) (B n : Nat) (u : Nat → Bool) (h : GridAt w B n u) (i : Nat) (hn : n ≤ 3584) (hi : i < n) :
    Calls Try.prog 24 #[.pointer (some ⟨B, 0, none⟩), .int .i64 (i : Int)] w fun e w' => e = .returned (.bool (u i)) ∧ w' = w := by
  have ht := tells_any w B n u h i
  rw [show tellsP n (i : Int) = true by simp [tellsP]; omega] at ht
  have hb := bit_any w B n u h i (by omega)
  clear h
  go_enter Try.func24, Try.ntmps24
  go_wp2_with fail
  refine ht.mono ?_
  rintro e w1 ⟨rfl, rfl⟩
  clear ht
  go_wp2_with fail
  refine hb.mono ?_
  rintro e w2 ⟨rfl, rfl⟩
  go_wp2
  go_ret
  exact ⟨rfl, rfl⟩
theorem has_no (w : World) (B n : Nat) (u : Nat → Bool) (h : GridAt w B n u) (i : Int) (hi : tellsP n i = false) :
    Calls Try.prog 24 #[.pointer (some ⟨B, 0, none⟩), .int .i64 i] w fun e w' => e = .returned (.bool false) ∧ w' = w := by
  have ht := tells_any w B n u h i
  rw [hi] at ht
  clear h hi
  go_enter Try.func24, Try.ntmps24
  go_wp2_with fail
  refine ht.mono ?_
  rintro e w1 ⟨rfl, rfl⟩
  go_wp2
  go_ret
  exact ⟨rfl, rfl⟩
theorem has_nil (w : World) (i : Int) :
    Calls Try.prog 24 #[.pointer none, .int .i64 i] w fun e w' => e = .returned (.bool false) ∧ w' = w := by
  have ht := tells_nil w i
  go_enter Try.func24, Try.ntmps24
  go_wp2_with fail
  refine ht.mono ?_
  rintro e w1 ⟨rfl, rfl⟩
  go_wp2
  go_ret
  exact ⟨rfl, rfl⟩
/-- Whether i is there and used. -/
def hasU (n : Nat) (u : Nat → Bool) (i : Int) : Bool := tellsP n i && u i.toNat
theorem has_all (w : World) (B n : Nat) (u : Nat → Bool) (h : GridAt w B n u) (i : Int) (hn : n ≤ 3584) :
    Calls Try.prog 24 #[.pointer (some ⟨B, 0, none⟩), .int .i64 i] w fun e w' => e = .returned (.bool (hasU n u i)) ∧ w' = w := by
  by_cases hi : 0 ≤ i ∧ i < (n : Int)
  · obtain ⟨k, rfl⟩ : ∃ k : Nat, i = k := ⟨i.toNat, by omega⟩
    have := has_any w B n u h k hn (by omega)
    rw [show hasU n u (k : Int) = u k by simp [hasU, tellsP]; omega]
    exact this
  · have e : tellsP n i = false := decide_eq_false hi
    rw [show hasU n u i = false by simp [hasU, e]]
    exact has_no w B n u h i e
end Go.Proofs.Ytmpbpioigfnneaa
