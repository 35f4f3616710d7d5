/- Where an index is told: chart's Place and the document's. -/
import Derived.Test.YtcmbphppeobhfabBxRow
namespace Go.Proofs.Ytcmbphppeobhfab
set_option maxRecDepth 20000
open Go.RowKit

def plL (i : Int) : Int := if i < 0 ∨ 12668 ≤ i then 0 else if i < 12 then 0 else if i < 124 then 1 else 2
def plA (i : Int) : Int := if i < 0 ∨ 12668 ≤ i then 0 else if i < 12 then i else if i < 124 then i - 12 else (i - 124) / 112
def plB (i : Int) : Int := if i < 0 ∨ 12668 ≤ i then 0 else if i < 12 then 0 else if i < 124 then 0 else (i - 124) % 112
def plE (i : Int) : Int := if i < 0 ∨ 12668 ≤ i then 2 else 0
theorem place_bad (i : Int) (hi : i < 0 ∨ 12668 ≤ i) (w : World) :
    Calls Try.prog 22 #[.int .i64 i] w fun e w' => e = .returned (.tuple #[.int .i64 0, .int .i64 0, .int .i64 0, .int .i64 2]) ∧ w' = w := by
  rcases hi with h | h
  · go_enter Try.func22, Try.ntmps22
    go_wp2
    exact bodyPost_ret (by simp [results, Try.results22]) rfl ⟨rfl, rfl⟩
  · have h0 : ¬ i < 0 := by omega
    have h1 : (12667 : Int) < i := by omega
    go_enter Try.func22, Try.ntmps22
    go_wp2
    exact bodyPost_ret (by simp [results, Try.results22]) rfl ⟨rfl, rfl⟩
theorem place_0 (i : Int) (h0 : 0 ≤ i) (h1 : i < 12) (w : World) :
    Calls Try.prog 22 #[.int .i64 i] w fun e w' => e = .returned (.tuple #[.int .i64 0, .int .i64 i, .int .i64 0, .int .i64 0]) ∧ w' = w := by
  have a1 : ¬ i < 0 := by omega
  have a2 : ¬ 12668 ≤ i := by omega
  have a3 : ¬ 12667 < i := by omega
  go_enter Try.func22, Try.ntmps22
  go_wp2
  exact bodyPost_ret (by simp [results, Try.results22]) rfl ⟨rfl, rfl⟩
theorem place_1 (i : Int) (h0 : 12 ≤ i) (h1 : i < 124) (w : World) :
    Calls Try.prog 22 #[.int .i64 i] w fun e w' => e = .returned (.tuple #[.int .i64 1, .int .i64 (i - 12), .int .i64 0, .int .i64 0]) ∧ w' = w := by
  have a1 : ¬ i < 0 := by omega
  have a2 : ¬ 12668 ≤ i := by omega
  have a3 : ¬ 12667 < i := by omega
  have a4 : ¬ i < 12 := by omega
  go_enter Try.func22, Try.ntmps22
  go_wp2
  exact bodyPost_ret (by simp [results, Try.results22]) rfl ⟨rfl, rfl⟩
theorem place_2 (i : Int) (h0 : 124 ≤ i) (h1 : i < 12668) (w : World) :
    Calls Try.prog 22 #[.int .i64 i] w fun e w' => e = .returned (.tuple #[.int .i64 2, .int .i64 ((i - 124) / 112), .int .i64 ((i - 124) % 112), .int .i64 0]) ∧ w' = w := by
  have a1 : ¬ i < 0 := by omega
  have a2 : ¬ 12668 ≤ i := by omega
  have a3 : ¬ 12667 < i := by omega
  have a4 : ¬ i < 12 := by omega
  have a5 : ¬ i < 124 := by omega
  go_enter Try.func22, Try.ntmps22
  go_wp2
  exact bodyPost_ret (by simp [results, Try.results22]) rfl ⟨rfl, rfl⟩
theorem place_all (i : Int) (w : World) :
    Calls Try.prog 22 #[.int .i64 i] w fun e w' => e = .returned (.tuple #[.int .i64 (plL i), .int .i64 (plA i), .int .i64 (plB i), .int .i64 (plE i)]) ∧ w' = w := by
  by_cases h0 : i < 0 ∨ 12668 ≤ i
  · simp only [plL, plA, plB, plE, if_pos h0]; exact place_bad i h0 w
  by_cases h1 : i < 12
  · simp only [plL, plA, plB, plE, if_neg h0, if_pos h1]; exact place_0 i (by omega) h1 w
  by_cases h2 : i < 124
  · simp only [plL, plA, plB, plE, if_neg h0, if_neg h1, if_pos h2]; exact place_1 i (by omega) h2 w
  · simp only [plL, plA, plB, plE, if_neg h0, if_neg h1, if_neg h2]; exact place_2 i (by omega) (by omega) w
end Go.Proofs.Ytcmbphppeobhfab
