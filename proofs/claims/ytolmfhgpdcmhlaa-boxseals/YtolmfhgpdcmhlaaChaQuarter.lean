/- math/bits.RotateLeft32; box.quarter. -/
import Derived.Test.YtolmfhgpdcmhlaaChaMath
namespace Go.Proofs.Ytolmfhgpdcmhlaa
open Go.RowKit

theorem rot_turn (n : Nat) (h2 : n ≤ 31) : bits .and .u64 (n : Int) 31 = (n : Int) := by
  rw [show (31 : Int) = ((31 : Nat) : Int) from rfl, u64_and_nat _ _ (by omega) (by decide), nat_mask5, Nat.mod_eq_of_lt (by omega)]
theorem rot_bits (x n m : Nat) (hx : x < 4294967296) (hm : m = 32 - n) : bits .or .u32 ((x : Int) * 2 ^ n % 4294967296) ((x : Int) / 2 ^ m) = ((rotl x n : Nat) : Int) := by
  subst hm
  have e1 : (x : Int) * 2 ^ n % 4294967296 = ((x * 2 ^ n % 4294967296 : Nat) : Int) := by
    rw [Int.natCast_emod, Int.natCast_mul, Int.natCast_pow]; rfl
  have e2 : (x : Int) / 2 ^ (32 - n) = ((x / 2 ^ (32 - n) : Nat) : Int) := by
    rw [Int.natCast_ediv, Int.natCast_pow]; rfl
  rw [e1, e2, u32_or_nat _ _ (Nat.mod_lt _ (by decide)) (Nat.lt_of_le_of_lt (Nat.div_le_self _ _) hx), rotl_or x n hx]

set_option maxHeartbeats 1000000 in
theorem rot32_any (x n : Nat) (hx : x < 4294967296) (h1 : 1 ≤ n) (h2 : n ≤ 31) (w : World) :
    Calls Try.prog 65 #[.int .u32 x, .int .i64 n] w fun e w' => e = .returned (.int .u32 (rotl x n : Nat)) ∧ w' = w := by
  obtain ⟨m, hm⟩ : ∃ m, m = 32 - n := ⟨_, rfl⟩
  have ht := rot_turn n h2
  have hb := rot_bits x n m hx hm
  have v1 : IntKind.u64.wrap (n : Int) = n := by rw [IntKind.wrap_u64]; omega
  have v2 : IntKind.u64.wrap (32 - (n : Int)) = m := by rw [IntKind.wrap_u64]; omega
  have v3 : IntKind.u32.wrap ((x : Int) * 2 ^ n) = (x : Int) * 2 ^ n % 4294967296 := IntKind.wrap_u32 _
  have v4 : min m 32 = m := by omega
  clear hm
  go_enter Try.func65, Try.ntmps65
  go_wp2
  go_ret
  exact ⟨rfl, rfl⟩

theorem add_u32 (a b : Nat) : IntKind.u32.wrap ((a : Int) + b) = (((a + b) % 4294967296 : Nat) : Int) := by rw [IntKind.wrap_u32]; omega

set_option maxHeartbeats 1000000 in
theorem quarter_any (a b c d : Nat) (hb : b < 4294967296) (hd : d < 4294967296) (w : World) :
    Calls Try.prog 62 #[.int .u32 a, .int .u32 b, .int .u32 c, .int .u32 d] w fun e w' => e = .returned (.tuple #[.int .u32 (qA a b c d : Nat), .int .u32 (qB a b c d : Nat), .int .u32 (qC a b c d : Nat), .int .u32 (qD a b c d : Nat)]) ∧ w' = w := by
  obtain ⟨a1, ha1⟩ : ∃ a1, a1 = qa a b := ⟨_, rfl⟩
  have la1 : a1 < 4294967296 := by rw [ha1]; exact qa_lt _ _
  obtain ⟨d1, hd1⟩ : ∃ d1, d1 = qd a b d := ⟨_, rfl⟩
  have ld1 : d1 < 4294967296 := by rw [hd1]; exact qd_lt _ _ _
  obtain ⟨c1, hc1⟩ : ∃ c1, c1 = qc a b c d := ⟨_, rfl⟩
  have lc1 : c1 < 4294967296 := by rw [hc1]; exact qc_lt _ _ _ _
  obtain ⟨b1, hb1⟩ : ∃ b1, b1 = qb a b c d := ⟨_, rfl⟩
  have lb1 : b1 < 4294967296 := by rw [hb1]; exact qb_lt _ _ _ _
  obtain ⟨a2, ha2⟩ : ∃ a2, a2 = qA a b c d := ⟨_, rfl⟩
  have la2 : a2 < 4294967296 := by rw [ha2]; exact qA_lt _ _ _ _
  obtain ⟨d2, hd2⟩ : ∃ d2, d2 = qD a b c d := ⟨_, rfl⟩
  have ld2 : d2 < 4294967296 := by rw [hd2]; exact qD_lt _ _ _ _
  obtain ⟨c2, hc2⟩ : ∃ c2, c2 = qC a b c d := ⟨_, rfl⟩
  have lc2 : c2 < 4294967296 := by rw [hc2]; exact qC_lt _ _ _ _
  obtain ⟨b2, hb2⟩ : ∃ b2, b2 = qB a b c d := ⟨_, rfl⟩
  have lb2 : b2 < 4294967296 := by rw [hb2]; exact qB_lt _ _ _ _
  rw [← ha2, ← hb2, ← hc2, ← hd2]
  have va1 : IntKind.u32.wrap ((a : Int) + b) = a1 := by rw [add_u32, ha1]; rfl
  have vd1 : bits .xor .u32 (d : Int) (a1 : Int) = ((d ^^^ a1 : Nat) : Int) := u32_xor_nat _ _ hd la1
  have rd1 : ∀ w, Calls Try.prog 65 #[.int .u32 (d ^^^ a1 : Nat), .int .i64 16] w fun e w' => e = .returned (.int .u32 d1) ∧ w' = w := fun w => by
    rw [hd1, ha1]
    exact rot32_any _ 16 (xor_lt hd (qa_lt _ _)) (by decide) (by decide) w
  have vc1 : IntKind.u32.wrap ((c : Int) + d1) = c1 := by rw [add_u32, hc1, hd1]; rfl
  have vb1 : bits .xor .u32 (b : Int) (c1 : Int) = ((b ^^^ c1 : Nat) : Int) := u32_xor_nat _ _ hb lc1
  have rb1 : ∀ w, Calls Try.prog 65 #[.int .u32 (b ^^^ c1 : Nat), .int .i64 12] w fun e w' => e = .returned (.int .u32 b1) ∧ w' = w := fun w => by
    rw [hb1, hc1]
    exact rot32_any _ 12 (xor_lt hb (qc_lt _ _ _ _)) (by decide) (by decide) w
  have va2 : IntKind.u32.wrap ((a1 : Int) + b1) = a2 := by rw [add_u32, ha2, ha1, hb1]; rfl
  have vd2 : bits .xor .u32 (d1 : Int) (a2 : Int) = ((d1 ^^^ a2 : Nat) : Int) := u32_xor_nat _ _ ld1 la2
  have rd2 : ∀ w, Calls Try.prog 65 #[.int .u32 (d1 ^^^ a2 : Nat), .int .i64 8] w fun e w' => e = .returned (.int .u32 d2) ∧ w' = w := fun w => by
    rw [hd2, hd1, ha2]
    exact rot32_any _ 8 (xor_lt (qd_lt _ _ _) (qA_lt _ _ _ _)) (by decide) (by decide) w
  have vc2 : IntKind.u32.wrap ((c1 : Int) + d2) = c2 := by rw [add_u32, hc2, hc1, hd2]; rfl
  have vb2 : bits .xor .u32 (b1 : Int) (c2 : Int) = ((b1 ^^^ c2 : Nat) : Int) := u32_xor_nat _ _ lb1 lc2
  have rb2 : ∀ w, Calls Try.prog 65 #[.int .u32 (b1 ^^^ c2 : Nat), .int .i64 7] w fun e w' => e = .returned (.int .u32 b2) ∧ w' = w := fun w => by
    rw [hb2, hb1, hc2]
    exact rot32_any _ 7 (xor_lt (qb_lt _ _ _ _) (qC_lt _ _ _ _)) (by decide) (by decide) w
  generalize d ^^^ a1 = xd1 at *
  generalize b ^^^ c1 = xb1 at *
  generalize d1 ^^^ a2 = xd2 at *
  generalize b1 ^^^ c2 = xb2 at *
  clear ha1 hd1 hc1 hb1 ha2 hd2 hc2 hb2 la1 ld1 lc1 lb1 la2 ld2 lc2 lb2
  go_enter Try.func62, Try.ntmps62
  go_wp2_with fail
  refine (rd1 _).mono ?_
  rintro e w' ⟨rfl, rfl⟩
  clear rd1
  go_wp2_with fail
  refine (rb1 _).mono ?_
  rintro e w' ⟨rfl, rfl⟩
  clear rb1
  go_wp2_with fail
  refine (rd2 _).mono ?_
  rintro e w' ⟨rfl, rfl⟩
  clear rd2
  go_wp2_with fail
  refine (rb2 _).mono ?_
  rintro e w' ⟨rfl, rfl⟩
  clear rb2
  go_wp2
  exact bodyPost_ret (v := .tuple #[.int .u32 a2, .int .u32 b2, .int .u32 c2, .int .u32 d2]) (by simp [results, Try.results62]) rfl ⟨rfl, rfl⟩
end Go.Proofs.Ytolmfhgpdcmhlaa
