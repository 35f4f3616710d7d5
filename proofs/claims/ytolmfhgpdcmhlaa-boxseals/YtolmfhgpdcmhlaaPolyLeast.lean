/- box's wide.least: the two low words of a number modulo 2^130 - 5. -/
import Derived.Test.YtolmfhgpdcmhlaaPolyOf
namespace Go.Proofs.Ytolmfhgpdcmhlaa
open Go.RowKit

theorem least_math (h0 h1 h2 x y z k1 k2 k3 : Nat) (l0 : h0 < 18446744073709551616) (l1 : h1 < 18446744073709551616) (l2 : h2 ≤ 4) (lx : x < 18446744073709551616) (ly : y < 18446744073709551616) (lz : z < 18446744073709551616) (lk : k3 ≤ 1)
    (e1 : h0 + k1 * 18446744073709551616 = 18446744073709551611 + x) (e2 : h1 + k2 * 18446744073709551616 = 18446744073709551615 + k1 + y) (e3 : h2 + k3 * 18446744073709551616 = 3 + k2 + z) :
    (k3 = 1 → h0 + h1 * 18446744073709551616 = (h0 + h1 * 18446744073709551616 + h2 * 340282366920938463463374607431768211456) % polyP % 340282366920938463463374607431768211456) ∧
    (k3 = 0 → x + y * 18446744073709551616 = (h0 + h1 * 18446744073709551616 + h2 * 340282366920938463463374607431768211456) % polyP % 340282366920938463463374607431768211456) := by
  constructor
  · rintro rfl
    have h : h0 + h1 * 18446744073709551616 + h2 * 340282366920938463463374607431768211456 < polyP := by unfold polyP; omega
    rw [Nat.mod_eq_of_lt h]
    clear e1 e2 e3 h
    omega
  · rintro rfl
    have h : h0 + h1 * 18446744073709551616 + h2 * 340282366920938463463374607431768211456 = polyP + (x + y * 18446744073709551616 + z * 340282366920938463463374607431768211456) := by unfold polyP; omega
    have h' : x + y * 18446744073709551616 + z * 340282366920938463463374607431768211456 < polyP := by unfold polyP at h ⊢; omega
    rw [h, Nat.add_mod_left, Nat.mod_eq_of_lt h']
    clear e1 e2 e3 h h'
    omega
theorem xor_back (x y : Nat) (hx : x < 18446744073709551616) (hy : y < 18446744073709551616) : ∃ e : Nat, bits .xor .u64 (x : Int) (y : Int) = e ∧ bits .and .u64 (e : Int) 18446744073709551615 = e ∧ bits .and .u64 (e : Int) 0 = 0 ∧ bits .xor .u64 (x : Int) (e : Int) = y ∧ bits .xor .u64 (x : Int) 0 = x := by
  have he : x ^^^ y < 18446744073709551616 := Nat.xor_lt_two_pow (n := 64) hx hy
  refine ⟨x ^^^ y, u64_xor_nat x y hx hy, ?_, ?_, ?_, ?_⟩
  · have h := u64_and_nat (x ^^^ y) 18446744073709551615 he (by decide)
    rw [show (x ^^^ y) &&& 18446744073709551615 = (x ^^^ y) % 18446744073709551616 from Nat.and_two_pow_sub_one_eq_mod _ 64, Nat.mod_eq_of_lt he] at h
    exact h
  · have h := u64_and_nat (x ^^^ y) 0 he (by decide)
    rw [Nat.and_zero] at h
    exact h
  · rw [u64_xor_nat x _ hx he, ← Nat.xor_assoc, Nat.xor_self, Nat.zero_xor]
  · have h := u64_xor_nat x 0 hx (by decide)
    rw [Nat.xor_zero] at h
    exact h

set_option maxHeartbeats 1000000 in
theorem least_any (h0 h1 h2 : Nat) (l0 : h0 < 18446744073709551616) (l1 : h1 < 18446744073709551616) (l2 : h2 ≤ 4) : ∃ a b : Nat, a < 18446744073709551616 ∧ b < 18446744073709551616 ∧ a + b * 18446744073709551616 = (h0 + h1 * 18446744073709551616 + h2 * 340282366920938463463374607431768211456) % polyP % 340282366920938463463374607431768211456 ∧
    ∀ (B o : Nat) (w : World), w.cell? ⟨B, o, none⟩ = some (.int .u64 h0) → w.cell? ⟨B, o + 1, none⟩ = some (.int .u64 h1) → w.cell? ⟨B, o + 2, none⟩ = some (.int .u64 h2) →
    Calls Try.prog 44 #[.pointer (some ⟨B, o, none⟩)] w fun e w' => e = .returned (.tuple #[.int .u64 a, .int .u64 b]) ∧ ∃ n, w' = w.drewN n := by
  obtain ⟨k1, x, r1, e1, lx, g1⟩ := sub64_c h0 18446744073709551611 0 l0 (by decide) (by decide)
  obtain ⟨k2, y, r2, e2, ly, g2⟩ := sub64_c h1 18446744073709551615 k1 l1 (by decide) g1
  obtain ⟨k3, z, r3, e3, lz, g3⟩ := sub64_c h2 3 k2 (by clear e1 e2; omega) (by decide) g2
  obtain ⟨m1, m0⟩ := least_math h0 h1 h2 x y z k1 k2 k3 l0 l1 l2 lx ly lz g3 (by clear e2 e3; omega) e2 e3
  obtain ⟨ex, p1, p2, p3, p4, p5⟩ := xor_back x h0 lx l0
  obtain ⟨ey, q1, q2, q3, q4, q5⟩ := xor_back y h1 ly l1
  have r1' : ∀ w, (callFunc 59 #[.int .u64 h0, .int .u64 18446744073709551611, .int .u64 0]).run Try.prog w = .ok (.value (.tuple #[.int .u64 x, .int .u64 k1])) w := r1
  have r2' : ∀ w, (callFunc 59 #[.int .u64 h1, .int .u64 18446744073709551615, .int .u64 k1]).run Try.prog w = .ok (.value (.tuple #[.int .u64 y, .int .u64 k2])) w := r2
  have r3' : ∀ w, (callFunc 59 #[.int .u64 h2, .int .u64 3, .int .u64 k2]).run Try.prog w = .ok (.value (.tuple #[.int .u64 z, .int .u64 k3])) w := r3
  clear r1 r2 r3 e1 e2 e3
  have hk : k3 = 1 ∨ k3 = 0 := by clear m1 m0; omega
  rcases hk with rfl | rfl
  · refine ⟨h0, h1, l0, l1, m1 rfl, fun B o w c0 c1 c2 => ?_⟩
    clear m0 m1
    have v : IntKind.u64.wrap (-1) = 18446744073709551615 := by rw [IntKind.wrap_u64]; rfl
    go_enter Try.func44, Try.ntmps44
    go_wp2_with fail
    go_quiet (fail)
    go_wp2
    go_ret2
    exact ⟨rfl, _, rfl⟩
  · refine ⟨x, y, lx, ly, m0 rfl, fun B o w c0 c1 c2 => ?_⟩
    clear m0 m1
    have v : IntKind.u64.wrap 0 = 0 := by rw [IntKind.wrap_u64]; rfl
    go_enter Try.func44, Try.ntmps44
    go_wp2_with fail
    go_quiet (fail)
    go_wp2
    go_ret2
    exact ⟨rfl, _, rfl⟩
end Go.Proofs.Ytolmfhgpdcmhlaa
