/- A quotient, rounded up: chart's and the document's. -/
import Derived.Test.YtcmbphppeobhfabBxRow
namespace Go.Proofs.Ytcmbphppeobhfab
set_option maxRecDepth 20000
open Go.RowKit

theorem up_num (a s : Nat) (ha : a ≤ 6000000) (hs : 0 < s) (hs2 : s ≤ 1000) : ∃ k d : Nat, (a : Int) + s - 1 = (k : Int) ∧ k ≤ 6001000 ∧ (k : Int) / (s : Int) = (d : Int) ∧ d ≤ 6001000 ∧ d = (a + s - 1) / s :=
  ⟨a + s - 1, (a + s - 1) / s, by omega, by omega, by norm_cast, Nat.le_trans (Nat.div_le_self _ _) (by omega), rfl⟩
theorem roundUp_any (a s : Nat) (ha : a ≤ 6000000) (hs : 0 < s) (hs2 : s ≤ 1000) (w : World) :
    Calls Try.prog 28 #[.int .i64 (a : Int), .int .i64 (s : Int)] w fun e w' => e = .returned (.int .i64 (((a + s - 1) / s : Nat) : Int)) ∧ w' = w := by
  have h0 : (s : Int) ≠ 0 := by omega
  obtain ⟨k, d, h1, h2, h3, h4, h5⟩ := up_num a s ha hs hs2
  rw [← h5]
  clear h5
  go_enter Try.func28, Try.ntmps28
  go_wp2
  go_ret
  exact ⟨rfl, rfl⟩
theorem rup_any (a s : Nat) (ha : a ≤ 6000000) (hs : 0 < s) (hs2 : s ≤ 1000) (w : World) :
    Calls Try.prog 29 #[.int .i64 (a : Int), .int .i64 (s : Int)] w fun e w' => e = .returned (.int .i64 (((a + s - 1) / s : Nat) : Int)) ∧ w' = w := by
  have h0 : (s : Int) ≠ 0 := by omega
  obtain ⟨k, d, h1, h2, h3, h4, h5⟩ := up_num a s ha hs hs2
  rw [← h5]
  clear h5
  go_enter Try.func29, Try.ntmps29
  go_wp2
  go_ret
  exact ⟨rfl, rfl⟩
end Go.Proofs.Ytcmbphppeobhfab
