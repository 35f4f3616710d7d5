/- The document's low, left and word. -/
import Derived.Test.YtdhiopbomnfmnaaGreatDoorMg34
namespace Go.Proofs.YtdhiopbomnfmnaaGreatDoor.Bx
set_option maxRecDepth 20000
open Go.RowKit

theorem rlow_any (n : Nat) (h : n < 9223372036854775808) (w : World) :
    Calls Tryz.prog 83 #[.int .i64 n] w fun e w' => e = .returned (.int .i64 ((n % 4294967296 : Nat) : Int)) ∧ w' = w := by
  have hb : bits .and .i64 (n : Int) 4294967295 = ((n % 4294967296 : Nat) : Int) := by
    rw [show (4294967295 : Int) = ((4294967295 : Nat) : Int) from rfl, i64_and_nat n _ h (by decide), nat_mask32]
  go_enter Tryz.func83, Tryz.ntmps83
  go_wp2
  go_ret
  exact ⟨congrArg (fun z => Ending.returned (.int .i64 z)) (by first | rfl | exact hb), rfl⟩
theorem rlow_z (z : Int) (n : Nat) (hz : z = (n : Int)) (h : n < 9223372036854775808) (m : Nat) (hm : m = n % 4294967296) (w : World) :
    Calls Tryz.prog 83 #[.int .i64 z] w fun e w' => e = .returned (.int .i64 (m : Int)) ∧ w' = w := by
  subst hz hm
  exact rlow_any n h w
theorem left_bits (x n : Nat) (hx : x < 4294967296) (h2 : n ≤ 30) : bits .or .i64 (IntKind.i64.wrap ((x : Int) * 2 ^ n)) ((x : Int) / 2 ^ (32 - n)) = ((x * 2 ^ n ||| x / 2 ^ (32 - n) : Nat) : Int) ∧ (x * 2 ^ n ||| x / 2 ^ (32 - n)) < 9223372036854775808 := by
  have h3 : 2 ^ n ≤ 2 ^ 30 := Nat.pow_le_pow_right (by decide) h2
  have h4 : x * 2 ^ n ≤ x * 2 ^ 30 := Nat.mul_le_mul_left x h3
  have h5 : x * 2 ^ n < 4611686018427387904 := by omega
  have hd : x / 2 ^ (32 - n) ≤ x := Nat.div_le_self _ _
  have e1 : (x : Int) * 2 ^ n = ((x * 2 ^ n : Nat) : Int) := by rw [Int.natCast_mul, Int.natCast_pow]; rfl
  have e2 : (x : Int) / 2 ^ (32 - n) = ((x / 2 ^ (32 - n) : Nat) : Int) := by rw [Int.natCast_ediv, Int.natCast_pow]; rfl
  rw [e1, e2, wraps_i64 _ (Int.natCast_nonneg _) (by omega), i64_or_nat _ _ (by omega) (by omega)]
  exact ⟨rfl, Nat.or_lt_two_pow (n := 63) (by omega) (by omega)⟩

set_option maxHeartbeats 400000 in
theorem rleft_any (x n : Nat) (hx : x < 4294967296) (h1 : 1 ≤ n) (h2 : n ≤ 30) (w : World) :
    Calls Tryz.prog 96 #[.int .i64 x, .int .i64 n] w fun e w' => e = .returned (.int .i64 (rotl x n : Nat)) ∧ w' = w.drew := by
  obtain ⟨hb, hlt⟩ := left_bits x n hx h2
  have e1 : IntKind.i64.wrap (32 - (n : Int)) = ((32 - n : Nat) : Int) := by rw [IntKind.wrap_i64]; omega
  have e2 : ¬ (n : Int) < 0 := by omega
  have e3 : ¬ ((32 - n : Nat) : Int) < 0 := by omega
  have e4 : (0 : Int) ≤ ((32 - n : Nat) : Int) := by omega
  have e5 : (0 : Int) ≤ (n : Int) := by omega
  have hc := fun w => rlow_z _ _ hb hlt (rotl x n) rfl w
  clear hb hlt
  go_enter Tryz.func96, Tryz.ntmps96
  go_wp2_with fail
  go_region_held3 (fun _ => True) (simp [go_sem, *]) (first | (go_at_call 83; refine (hc _).mono ?_; rintro e w1 ⟨rfl, rfl⟩))
  go_wp2
  go_ret
  exact ⟨rfl, rfl⟩

set_option maxHeartbeats 1000000 in
theorem rword_any (s : ByteArray) (p : Nat) (hp : p + 4 ≤ s.size) (hs : s.size ≤ 1048576) (w : World) :
    Calls Tryz.prog 81 #[.string s, .int .i64 p] w fun e w' => e = .returned (.int .i64 (wordL (numsOf s) p : Nat)) ∧ ∃ n, w' = w.drewN n := by
  have p0 : p < s.size := by omega
  have p1 : p + 1 < s.size := by omega
  have p2 : p + 2 < s.size := by omega
  have p3 : p + 3 < s.size := by omega
  have b0 := s[p].toNat_lt
  have b1 := s[p + 1].toNat_lt
  have b2 := s[p + 2].toNat_lt
  have b3 := s[p + 3].toNat_lt
  have HE : Hid (((wordL (numsOf s) p : Nat) : Int) = (s[p].toNat : Int) + s[p + 1].toNat * 256 + s[p + 2].toNat * 65536 + s[p + 3].toNat * 16777216) := by
    show _ = _
    unfold wordL
    rw [nums_at s p p0, nums_at s (p + 1) p1, nums_at s (p + 2) p2, nums_at s (p + 3) p3]
    omega
  have i0 : (p : Int) < s.size := by omega
  have i1 : (p : Int) + 1 < s.size := by omega
  have i2 : (p : Int) + 2 < s.size := by omega
  have i3 : (p : Int) + 3 < s.size := by omega
  have t1 : ((p : Int) + 1).toNat = p + 1 := by omega
  have t2 : ((p : Int) + 2).toNat = p + 2 := by omega
  have t3 : ((p : Int) + 3).toNat = p + 3 := by omega
  have q1 : IntKind.i64.wrap ((p : Int) + 1) = p + 1 := by rw [IntKind.wrap_i64]; omega
  have q2 : IntKind.i64.wrap ((p : Int) + 2) = p + 2 := by rw [IntKind.wrap_i64]; omega
  have q3 : IntKind.i64.wrap ((p : Int) + 3) = p + 3 := by rw [IntKind.wrap_i64]; omega
  have r1 : (0 : Int) ≤ (p : Int) + 1 := by omega
  have r2 : (0 : Int) ≤ (p : Int) + 2 := by omega
  have r3 : (0 : Int) ≤ (p : Int) + 3 := by omega
  rw [HE.out]
  go_enter Tryz.func81, Tryz.ntmps81
  go_wp2_with fail
  go_quiet (fail)
  go_wp2
  go_ret
  exact ⟨rfl, _, rfl⟩
end Go.Proofs.YtdhiopbomnfmnaaGreatDoor.Bx
