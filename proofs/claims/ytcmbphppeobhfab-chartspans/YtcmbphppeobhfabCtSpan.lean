/- How many indices a size has, and which are touched: chart's Span and Touched and the document's. -/
import Derived.Test.YtcmbphppeobhfabCtInts
import Derived.Test.YtcmbphppeobhfabCtUp
namespace Go.Proofs.Ytcmbphppeobhfab
set_option maxRecDepth 20000
open Go.RowKit

def spN (n : Int) : Int := if 0 ≤ n ∧ n ≤ 5675264 then ((n.toNat + 448 - 1) / 448 : Nat) else 0
def spE (n : Int) : Int := if 0 ≤ n ∧ n ≤ 5675264 then 0 else 2
theorem span_all (n : Int) (w : World) : Calls Try.prog 12 #[.int .i64 n] w fun e w' => e = .returned (.tuple #[.int .i64 (spN n), .int .i64 (spE n)]) ∧ w' = w := by
  unfold spN spE
  by_cases h : 0 ≤ n ∧ n ≤ 5675264
  · rw [if_pos h, if_pos h]
    obtain ⟨m, rfl⟩ : ∃ m : Nat, n = m := ⟨n.toNat, by omega⟩
    have r := roundUp_any m 448 (by omega) (by decide) (by decide)
    rw [Int.toNat_natCast]
    generalize (m + 448 - 1) / 448 = k at *
    have a1 : ¬ (m : Int) < 0 := by omega
    have a2 : ¬ 5675264 < (m : Int) := by omega
    go_enter Try.func12, Try.ntmps12
    go_wp2_with fail
    refine (r _).mono ?_
    rintro e w1 ⟨rfl, rfl⟩
    go_wp2
    go_ret2
    exact ⟨rfl, rfl⟩
  · rw [if_neg h, if_neg h]
    by_cases h0 : n < 0
    · go_enter Try.func12, Try.ntmps12
      go_wp2
      go_ret2
      exact ⟨rfl, rfl⟩
    · have h1 : 5675264 < n := by omega
      go_enter Try.func12, Try.ntmps12
      go_wp2
      go_ret2
      exact ⟨rfl, rfl⟩
theorem rspan_all (n : Int) (w : World) : Calls Try.prog 13 #[.int .i64 n] w fun e w' => e = .returned (.tuple #[.int .i64 (spN n), .int .i64 (spE n)]) ∧ w' = w := by
  unfold spN spE
  by_cases h : 0 ≤ n ∧ n ≤ 5675264
  · rw [if_pos h, if_pos h]
    obtain ⟨m, rfl⟩ : ∃ m : Nat, n = m := ⟨n.toNat, by omega⟩
    have r := rup_any m 448 (by omega) (by decide) (by decide)
    rw [Int.toNat_natCast]
    generalize (m + 448 - 1) / 448 = k at *
    have a1 : ¬ (m : Int) < 0 := by omega
    have a2 : ¬ 5675264 < (m : Int) := by omega
    go_enter Try.func13, Try.ntmps13
    go_wp2_with fail
    refine (r _).mono ?_
    rintro e w1 ⟨rfl, rfl⟩
    go_wp2
    go_ret2
    exact ⟨rfl, rfl⟩
  · rw [if_neg h, if_neg h]
    by_cases h0 : n < 0
    · go_enter Try.func13, Try.ntmps13
      go_wp2
      go_ret2
      exact ⟨rfl, rfl⟩
    · have h1 : 5675264 < n := by omega
      go_enter Try.func13, Try.ntmps13
      go_wp2
      go_ret2
      exact ⟨rfl, rfl⟩
end Go.Proofs.Ytcmbphppeobhfab
