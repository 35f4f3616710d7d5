/- The document's low and right: a number's word; a word turned to the right; and its 64 numbers k. -/
import Derived.Test.YtfndgiddoijdeaaDoorShaFill
import Derived.Test.YtfndgiddoijdeaaDoorShaRow
import Derived.WalkKit
import Derived.Laws.BitsAllLaws
import Derived.Laws.BitsLemmas
namespace Go.Proofs.YtfndgiddoijdeaaDoor
open Go.RowKit

theorem wraps_i64 (n : Int) (h0 : 0 ≤ n) (h1 : n < 2 ^ 63) : IntKind.i64.wrap n = n := by rw [IntKind.wrap_i64]; omega
theorem i64_and_nat (a b : Nat) (ha : a < 9223372036854775808) (hb : b < 9223372036854775808) : bits .and .i64 (a : Int) (b : Int) = ((a &&& b : Nat) : Int) := (bits_nat .i64 63 (by decide) wraps_i64 a b ha hb).1
theorem i64_or_nat (a b : Nat) (ha : a < 9223372036854775808) (hb : b < 9223372036854775808) : bits .or .i64 (a : Int) (b : Int) = ((a ||| b : Nat) : Int) := (bits_nat .i64 63 (by decide) wraps_i64 a b ha hb).2
theorem i64_xor_nat (a b : Nat) (ha : a < 9223372036854775808) (hb : b < 9223372036854775808) : bits .xor .i64 (a : Int) (b : Int) = ((a ^^^ b : Nat) : Int) := by
  have hx : a ^^^ b < 2 ^ 63 := Nat.xor_lt_two_pow ha hb
  show IntKind.i64.wrap ((BitVec.ofInt 64 (a : Int) ^^^ BitVec.ofInt 64 (b : Int)).toNat : Int) = _
  rw [BitVec.toNat_xor, ofInt_u64 a (by omega), ofInt_u64 b (by omega)]
  exact wraps_i64 _ (Int.natCast_nonneg _) (by exact_mod_cast hx)

theorem low_any (n : Nat) (h : n < 9223372036854775808) (w : World) :
    Calls Tryd.prog 28 #[.int .i64 n] w fun e w' => e = .returned (.int .i64 ((n % 4294967296 : Nat) : Int)) ∧ w' = w := by
  have hb : bits .and .i64 (n : Int) 4294967295 = ((n % 4294967296 : Nat) : Int) := by
    rw [show (4294967295 : Int) = ((4294967295 : Nat) : Int) from rfl, i64_and_nat n _ h (by decide), nat_mask32]
  go_enter Tryd.func28, Tryd.ntmps28
  go_wp2
  go_ret
  exact ⟨congrArg (fun z => Ending.returned (.int .i64 z)) (by first | rfl | exact hb), rfl⟩

theorem low_z (z : Int) (n : Nat) (hz : z = (n : Int)) (h : n < 9223372036854775808) (w : World) :
    Calls Tryd.prog 28 #[.int .i64 z] w fun e w' => e = .returned (.int .i64 ((n % 4294967296 : Nat) : Int)) ∧ w' = w := by
  subst hz
  exact low_any n h w
theorem turn_lt (x n : Nat) (hx : x < 4294967296) (h1 : 2 ≤ n) : x * 2 ^ (32 - n) < 4611686018427387904 := by
  have h2 : 2 ^ (32 - n) ≤ 2 ^ 30 := Nat.pow_le_pow_right (by decide) (by omega)
  have h3 : x * 2 ^ (32 - n) ≤ x * 2 ^ 30 := Nat.mul_le_mul_left x h2
  have h4 : (2 : Nat) ^ 30 = 1073741824 := by decide
  rw [h4] at h3
  omega
theorem turn_bits (x n : Nat) (hx : x < 4294967296) (h1 : 2 ≤ n) : bits .or .i64 ((x : Int) / 2 ^ n) (IntKind.i64.wrap ((x : Int) * 2 ^ (32 - n))) = ((x / 2 ^ n ||| x * 2 ^ (32 - n) : Nat) : Int) := by
  have hl := turn_lt x n hx h1
  have e1 : (x : Int) / 2 ^ n = ((x / 2 ^ n : Nat) : Int) := by rw [Int.natCast_ediv, Int.natCast_pow]; rfl
  have e2 : (x : Int) * 2 ^ (32 - n) = ((x * 2 ^ (32 - n) : Nat) : Int) := by rw [Int.natCast_mul, Int.natCast_pow]; rfl
  have hd : x / 2 ^ n ≤ x := Nat.div_le_self _ _
  rw [e1, e2, wraps_i64 _ (Int.natCast_nonneg _) (by omega), i64_or_nat _ _ (by omega) (by omega)]

set_option maxHeartbeats 400000 in
theorem rright_any (x n : Nat) (hx : x < 4294967296) (h1 : 2 ≤ n) (h2 : n ≤ 31) (w : World) :
    Calls Tryd.prog 27 #[.int .i64 x, .int .i64 n] w fun e w' => e = .returned (.int .i64 (rotr x n : Nat)) ∧ w' = w.drew := by
  have hlt : x / 2 ^ n ||| x * 2 ^ (32 - n) < 9223372036854775808 := by
    have h1' := turn_lt x n hx h1
    have hd : x / 2 ^ n ≤ x := Nat.div_le_self _ _
    exact Nat.or_lt_two_pow (n := 63) (by omega) (by omega)
  have e1 : IntKind.i64.wrap (32 - (n : Int)) = ((32 - n : Nat) : Int) := by rw [IntKind.wrap_i64]; omega
  have e2 : ¬ (n : Int) < 0 := by omega
  have e3 : ¬ ((32 - n : Nat) : Int) < 0 := by omega
  have e4 : (0 : Int) ≤ ((32 - n : Nat) : Int) := by omega
  go_enter Tryd.func27, Tryd.ntmps27
  go_wp2_with fail
  go_region_held3 (fun _ => True) (simp [go_sem, *]) (first | (go_at_call 28; refine (low_z _ (x / 2 ^ n ||| x * 2 ^ (32 - n)) (turn_bits x n hx h1) hlt _).mono ?_; rintro e w1 ⟨rfl, rfl⟩))
  go_wp2
  go_ret
  exact ⟨rfl, rfl⟩

theorem keys_any (w : World) :
    Calls Tryd.prog 25 #[] w fun e w' => e = .returned (.slice (some ⟨w.heap.size, 0, none⟩) 64 64) ∧ Row w' w.heap.size 3 (keyL.map fun (x : Nat) => Value.int .i64 (x : Int)) ∧ Below w.heap.size w w' := by
  go_enter Tryd.func25, Tryd.ntmps25
  go_wp2
  go_ret
  exact ⟨rfl, heap_alloc_new w _, (Below.refl _ _).alloc (Nat.le_refl _) _⟩
end Go.Proofs.YtfndgiddoijdeaaDoor
