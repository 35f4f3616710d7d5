/- A number that is laid as bytes, the lowest first, is the number of these bytes. -/
import Derived.Test.YtlcadhojfnanfaaDoorMath
namespace Go.Proofs.YtlcadhojfnanfaaDoor
set_option maxRecDepth 20000
theorem leVal_leI : ∀ (k : Nat) (n : Int), 0 ≤ n → n < 256 ^ k → leVal ((leI k n).map fun x => UInt8.ofNat x.toNat) = n
  | 0, n, h, h' => by simp at h'; simp [leI, leVal]; omega
  | k + 1, n, h, h' => by
    rw [leI_succ, List.map_append, List.map_cons, List.map_nil, leVal_snoc, List.length_map, leI_length]
    have hp : (0 : Int) < 256 ^ k := Int.pow_pos (by decide)
    have hq : n / 256 ^ k < 256 := Int.ediv_lt_of_lt_mul hp (by rw [Int.pow_succ, Int.mul_comm] at h'; exact h')
    have hq0 : 0 ≤ n / 256 ^ k := Int.ediv_nonneg h (Int.le_of_lt hp)
    have hlow : leI k n = leI k (n % 256 ^ k) := by
      unfold leI
      apply List.map_congr_left
      intro i hi
      have hik : i < k := List.mem_range.1 hi
      have e : (256 : Int) ^ k = 256 ^ i * 256 ^ (k - i) := by rw [← Int.pow_add]; congr 1; omega
      have e2 : (256 : Int) ^ (k - i) = 256 * 256 ^ (k - i - 1) := by rw [Int.mul_comm, ← Int.pow_succ]; congr 1; omega
      have hi0 : (0 : Int) < 256 ^ i := Int.pow_pos (by decide)
      conv => lhs; rw [← Int.mul_ediv_add_emod n (256 ^ k)]
      rw [e, Int.mul_assoc, Int.add_comm, Int.add_mul_ediv_left _ _ (by omega), e2, Int.mul_assoc, Int.add_mul_emod_self_left]
    rw [hlow, leVal_leI k (n % 256 ^ k) (Int.emod_nonneg _ (by omega)) (Int.emod_lt_of_pos _ hp)]
    rw [Int.emod_eq_of_lt hq0 hq]
    have hb : ((UInt8.ofNat (n / 256 ^ k).toNat).toNat : Int) = n / 256 ^ k := by
      rw [UInt8.toNat_ofNat', Nat.mod_eq_of_lt (by omega)]; omega
    rw [hb, Int.mul_comm, Int.add_comm]
    exact Int.mul_ediv_add_emod n (256 ^ k)
end Go.Proofs.YtlcadhojfnanfaaDoor
