/- The laws ChartPlaces and ChartUnlike, called with any numbers, return true, and change nothing that was there. -/
import Derived.Test.YtcmbphppeobhfaaCtLaw
namespace Go.Proofs.Ytcmbphppeobhfaa
set_option maxRecDepth 20000
open Go.RowKit

set_option maxHeartbeats 1000000 in
theorem walk_chartPlaces (i : Int) (w : World) :
    Calls Try.prog 5 #[.int .i64 i] w fun e w' => e = .returned (.bool true) ∧ Below w.heap.size w w' := by
  have h1 := place_all i
  have h2 := rplace_all i
  generalize plL i = a at *
  generalize plA i = b at *
  generalize plB i = c at *
  generalize plE i = d at *
  go_enter Try.func5, Try.ntmps5
  go_wp2_with fail
  refine (h1 _).mono ?_
  rintro e w1 ⟨rfl, rfl⟩
  go_wp2_with fail
  refine (h2 _).mono ?_
  rintro e w1 ⟨rfl, rfl⟩
  go_wp2_with fail
  refine (cawake_any _).mono ?_
  rintro e w3 ⟨rfl, hb3⟩
  go_wp2
  go_ret
  exact ⟨rfl, hb3⟩
theorem plE_in {i : Int} (h : 0 ≤ i ∧ i < 12668) : plE i = 0 := by unfold plE; rw [if_neg (by omega)]
theorem plE_out {i : Int} (h : ¬ (0 ≤ i ∧ i < 12668)) : plE i = 2 := by unfold plE; rw [if_pos (by omega)]
theorem pl_lt (i : Int) (hi : 0 ≤ i ∧ i < 12668) : plA i < 112 ∧ plB i < 112 := by
  refine ⟨?_, ?_⟩
  · simp only [plA, if_neg (show ¬ (i < 0 ∨ 12668 ≤ i) by omega)]
    split
    · omega
    · split <;> omega
  · simp only [plB, if_neg (show ¬ (i < 0 ∨ 12668 ≤ i) by omega)]
    split
    · omega
    · split <;> omega
theorem pl_inj (i j : Int) (hi : 0 ≤ i ∧ i < 12668) (hj : 0 ≤ j ∧ j < 12668) (h1 : plL i = plL j) (h2 : plA i = plA j) (h3 : plB i = plB j) : i = j := by
  simp only [plL, plA, plB, if_neg (show ¬ (i < 0 ∨ 12668 ≤ i) by omega), if_neg (show ¬ (j < 0 ∨ 12668 ≤ j) by omega)] at h1 h2 h3
  by_cases a1 : i < 12 <;> by_cases a2 : i < 124 <;> by_cases b1 : j < 12 <;> by_cases b2 : j < 124 <;> simp only [a1, a2, b1, b2, if_true, if_false] at h1 h2 h3 <;> omega
theorem pl_cases (i j : Int) (hi : 0 ≤ i ∧ i < 12668) (hj : 0 ≤ j ∧ j < 12668) : i = j ∨ (¬ i = j ∧ (¬ plL i = plL j ∨ (plL i = plL j ∧ ¬ plA i = plA j) ∨ (plL i = plL j ∧ plA i = plA j ∧ ¬ plB i = plB j))) := by
  by_cases h : i = j
  · exact .inl h
  refine .inr ⟨h, ?_⟩
  by_cases h1 : plL i = plL j
  · by_cases h2 : plA i = plA j
    · exact .inr (.inr ⟨h1, h2, fun h3 => h (pl_inj i j hi hj h1 h2 h3)⟩)
    · exact .inr (.inl ⟨h1, h2⟩)
  · exact .inl h1
set_option maxHeartbeats 1000000 in
theorem unlike_in (i j a b c a' b' c' : Int) (hb : b < 112) (hc : c < 112) (hs : (i = j ∧ a = a' ∧ b = b' ∧ c = c') ∨ (¬ i = j ∧ (¬ a = a' ∨ (a = a' ∧ ¬ b = b') ∨ (a = a' ∧ b = b' ∧ ¬ c = c')))) (w : World)
    (h1 : ∀ w, Calls Try.prog 12 #[.int .i64 i] w fun e w' => e = .returned (.tuple #[.int .i64 a, .int .i64 b, .int .i64 c, .int .i64 0]) ∧ w' = w)
    (h2 : ∀ w, Calls Try.prog 12 #[.int .i64 j] w fun e w' => e = .returned (.tuple #[.int .i64 a', .int .i64 b', .int .i64 c', .int .i64 0]) ∧ w' = w) :
    Calls Try.prog 6 #[.int .i64 i, .int .i64 j] w fun e w' => e = .returned (.bool true) ∧ Below w.heap.size w w' := by
  rcases hs with ⟨rfl, rfl, rfl, rfl⟩ | ⟨hne, hs⟩
  · clear h2
    go_enter Try.func6, Try.ntmps6
    go_wp2_with fail
    refine (h1 _).mono ?_
    rintro e w1 ⟨rfl, rfl⟩
    go_wp2_with fail
    refine (h1 _).mono ?_
    rintro e w1 ⟨rfl, rfl⟩
    go_wp2_with fail
    refine (cawake_any _).mono ?_
    rintro e w3 ⟨rfl, hb3⟩
    go_wp2
    go_ret
    exact ⟨rfl, hb3⟩
  · have hij : (i == j) = false := beq_false_of_ne hne
    rcases hs with h | ⟨rfl, h⟩ | ⟨rfl, rfl, h⟩
    all_goals
      have hx := beq_false_of_ne h
      go_enter Try.func6, Try.ntmps6
      go_wp2_with fail
      refine (h1 _).mono ?_
      rintro e w1 ⟨rfl, rfl⟩
      go_wp2_with fail
      refine (h2 _).mono ?_
      rintro e w1 ⟨rfl, rfl⟩
      go_wp2_with fail
      refine (cawake_any _).mono ?_
      rintro e w3 ⟨rfl, hb3⟩
      go_wp2
      go_ret
      exact ⟨rfl, hb3⟩
set_option maxHeartbeats 1000000 in
theorem walk_chartUnlike (i j : Int) (w : World) :
    Calls Try.prog 6 #[.int .i64 i, .int .i64 j] w fun e w' => e = .returned (.bool true) ∧ Below w.heap.size w w' := by
  have h1 := place_all i
  have h2 := place_all j
  by_cases hi : 0 ≤ i ∧ i < 12668
  · by_cases hj : 0 ≤ j ∧ j < 12668
    · rw [plE_in hi] at h1
      rw [plE_in hj] at h2
      refine unlike_in i j _ _ _ _ _ _ (pl_lt i hi).1 (pl_lt i hi).2 ?_ w h1 h2
      rcases pl_cases i j hi hj with rfl | h
      · exact .inl ⟨rfl, rfl, rfl, rfl⟩
      · exact .inr h
    · rw [plE_in hi] at h1
      rw [plE_out hj] at h2
      clear hi hj
      go_enter Try.func6, Try.ntmps6
      go_wp2_with fail
      refine (h1 _).mono ?_
      rintro e w1 ⟨rfl, rfl⟩
      go_wp2_with fail
      refine (h2 _).mono ?_
      rintro e w1 ⟨rfl, rfl⟩
      go_wp2_with fail
      refine (cawake_any _).mono ?_
      rintro e w3 ⟨rfl, hb3⟩
      go_wp2
      go_ret
      exact ⟨rfl, hb3⟩
  · rw [plE_out hi] at h1
    clear hi
    go_enter Try.func6, Try.ntmps6
    go_wp2_with fail
    refine (h1 _).mono ?_
    rintro e w1 ⟨rfl, rfl⟩
    go_wp2_with fail
    refine (h2 _).mono ?_
    rintro e w1 ⟨rfl, rfl⟩
    go_wp2_with fail
    refine (cawake_any _).mono ?_
    rintro e w3 ⟨rfl, hb3⟩
    go_wp2
    go_ret
    exact ⟨rfl, hb3⟩
end Go.Proofs.Ytcmbphppeobhfaa
