/- The laws ChartSpans, ChartTouches and ChartParts, called with any numbers, return true, and change nothing that was there. -/
import Derived.Test.YtcmbphppeobhfabCtSet
import Derived.Test.YtcmbphppeobhfabCtTou
import Derived.Test.YtcmbphppeobhfabCtSpan
import Derived.Test.YtcmbphppeobhfabCtLaw
namespace Go.Proofs.Ytcmbphppeobhfab
set_option maxRecDepth 20000
open Go.RowKit

theorem riseL_mem (a k : Nat) (x : Int) : x ∈ riseL a k ↔ (a : Int) ≤ x ∧ x < a + k := by
  unfold riseL
  simp only [List.mem_map, List.mem_range]
  constructor
  · rintro ⟨i, hi, rfl⟩; omega
  · intro h; exact ⟨(x - a).toNat, by omega, by omega⟩
theorem riseL_rise (a k : Nat) : (riseL a k).Pairwise (· < ·) := by
  unfold riseL
  rw [List.pairwise_map]
  exact List.Pairwise.imp (by intro i j h; omega) List.pairwise_lt_range
theorem parts_eq (a n m : Nat) : bothL (riseL (a / 448) (touK a n)) (riseL ((a + n) / 448) (touK (a + n) m)) = riseL (a / 448) (touK a (n + m)) := by
  refine rise_ext _ _ (bothL_rise _ _ (riseL_rise _ _) (riseL_rise _ _)) (riseL_rise _ _) fun x => ?_
  rw [bothL_mem, riseL_mem, riseL_mem, riseL_mem]
  unfold touK
  by_cases h1 : n = 0 <;> by_cases h2 : m = 0 <;> simp only [h1, h2, if_true, if_false, Nat.add_zero, Nat.zero_add] <;> (try rw [if_neg (by omega)]) <;> omega
theorem touL_len (a n : Int) : (touL a n).length ≤ 1000000 := by
  unfold touL
  split
  · rename_i h; rw [riseL_length]; exact Nat.le_trans (touK_le _ _ (by omega)) (by decide)
  · simp
set_option maxHeartbeats 1000000 in
theorem walk_chartTouches (a n : Int) (w : World) (hn : (Lit.int .i64 n).wf = true) :
    Calls Try.prog 5 #[.int .i64 a, .int .i64 n] w fun e w' => e = .returned (.bool true) ∧ Below w.heap.size w w' := by
  have h1 := touched_all a n (wf_int hn).2
  have h2 := rtouched_all a n
  have hl := touL_len a n
  clear hn
  generalize touL a n = L at *
  generalize touE a n = E at *
  go_enter Try.func5, Try.ntmps5
  go_wp2_with fail
  refine (h1 _).mono ?_
  rintro e w1 ⟨v1, rfl, hv1, hb1⟩
  clear h1
  go_wp2_with fail
  refine (h2 _).mono ?_
  rintro e w2 ⟨v2, rfl, hv2, hb2⟩
  clear h2
  have hs := csame_any w2 v1 v2 L (hv1.below hb2).list1 hv2.list1 (by omega)
  have HB : Hid (Below w.heap.size w w2) := hb1.trans (hb2.mono hb1.size)
  clear hv1 hv2 hb1 hb2
  go_wp2_with fail
  refine hs.mono ?_
  rintro e w3 ⟨rfl, hb3⟩
  have HB3 : Hid (Below w.heap.size w w3) := HB.out.trans (hb3.mono HB.out.size)
  clear hs hb3 HB
  go_wp2_with fail
  refine (cawake_any _).mono ?_
  rintro e w4 ⟨rfl, hb4⟩
  have HF : Hid (Below w.heap.size w w4) := HB3.out.trans (hb4.mono HB3.out.size)
  clear hb4 HB3
  go_wp2
  go_ret
  exact ⟨rfl, HF.out⟩
set_option maxHeartbeats 1000000 in
theorem walk_chartSpans (n : Int) (w : World) :
    Calls Try.prog 4 #[.int .i64 n] w fun e w' => e = .returned (.bool true) ∧ Below w.heap.size w w' := by
  have h1 := span_all n
  have h2 := rspan_all n
  by_cases hn : 0 ≤ n ∧ n ≤ 5675264
  · have e1 : spE n = 0 := if_pos hn
    rw [e1] at h1 h2
    obtain ⟨m, rfl⟩ : ∃ m : Nat, n = m := ⟨n.toNat, by omega⟩
    have e2 : spN (m : Int) = (((m + 448 - 1) / 448 : Nat) : Int) := by unfold spN; rw [if_pos hn, Int.toNat_natCast]
    rw [e2] at h1 h2
    by_cases h0 : m = 0
    · subst h0
      clear e1 e2
      go_enter Try.func4, Try.ntmps4
      go_wp2_with fail
      refine (h1 _).mono ?_
      rintro e w1 ⟨rfl, rfl⟩
      go_wp2_with fail
      refine (h2 _).mono ?_
      rintro e w1 ⟨rfl, rfl⟩
      go_wp2_with fail
      refine (cawake_any _).mono ?_
      rintro e w3 ⟨rfl, hb3⟩
      go_wp2
      go_ret
      exact ⟨rfl, hb3⟩
    · have h3 := touched_any (m - 1) 1 (by omega)
      have e3 : touK (m - 1) 1 = 1 := by unfold touK; rw [if_neg (by decide)]; omega
      have e4 : riseL ((m - 1) / 448) 1 = [(((m - 1) / 448 : Nat) : Int)] := by simp [riseL]
      have e5 : (((m + 448 - 1) / 448 : Nat) : Int) - 1 = (((m - 1) / 448 : Nat) : Int) := by omega
      have e6 : ((m - 1 : Nat) : Int) = (m : Int) - 1 := by omega
      have e7 : (m + 448 - 1) / 448 ≤ 12668 := by omega
      have m0 : ¬ (m : Int) = 0 := by omega
      rw [e3, e4, e6] at h3
      generalize (m + 448 - 1) / 448 = k at *
      generalize (m - 1) / 448 = q at *
      clear e1 e2 e3 e4 e6
      go_enter Try.func4, Try.ntmps4
      go_wp2_with fail
      refine (h1 _).mono ?_
      rintro e w1 ⟨rfl, rfl⟩
      go_wp2_with fail
      refine (h2 _).mono ?_
      rintro e w1 ⟨rfl, rfl⟩
      clear h1 h2
      go_wp2_with fail
      refine (h3 _).mono ?_
      rintro e w2 ⟨v, rfl, hv, hb⟩
      have hv1 := hv.list1
      obtain ⟨oa, ca, rfl⟩ := hv.form
      obtain ⟨g, o, rfl, hg, hc⟩ := hv1.at (i := 0) (by simp)
      simp only [List.getElem_cons_zero, Nat.add_zero, List.length_singleton] at hc ⊢
      have HB : Hid (Below w1.heap.size w1 w2) := hb
      clear h3 hv hv1 hb
      go_wp2_with fail
      refine (cawake_any _).mono ?_
      rintro e w4 ⟨rfl, hb4⟩
      have HF : Hid (Below w1.heap.size w1 w4) := HB.out.trans (hb4.mono HB.out.size)
      clear hb4 HB
      go_wp2
      go_ret
      exact ⟨rfl, HF.out⟩
  · have e1 : spE n = 2 := if_neg hn
    rw [e1] at h1 h2
    clear hn e1
    generalize spN n = k at *
    go_enter Try.func4, Try.ntmps4
    go_wp2_with fail
    refine (h1 _).mono ?_
    rintro e w1 ⟨rfl, rfl⟩
    go_wp2_with fail
    refine (h2 _).mono ?_
    rintro e w1 ⟨rfl, rfl⟩
    go_wp2_with fail
    refine (cawake_any _).mono ?_
    rintro e w3 ⟨rfl, hb3⟩
    go_wp2
    go_ret
    exact ⟨rfl, hb3⟩
set_option maxHeartbeats 2000000 in
theorem walk_chartParts (a n m : Int) (w : World) (hn : (Lit.int .i64 n).wf = true) :
    Calls Try.prog 6 #[.int .i64 a, .int .i64 n, .int .i64 m] w fun e w' => e = .returned (.bool true) ∧ Below w.heap.size w w' := by
  have h1 := touched_all a n (wf_int hn).2
  clear hn
  by_cases h0 : 0 ≤ a ∧ 0 ≤ n ∧ a + n ≤ 5675264
  · obtain ⟨a, rfl⟩ : ∃ k : Nat, a = k := ⟨a.toNat, by omega⟩
    obtain ⟨n, rfl⟩ : ∃ k : Nat, n = k := ⟨n.toNat, by omega⟩
    have e1 : touE (a : Int) (n : Int) = 0 := if_pos h0
    have e2 : touL (a : Int) (n : Int) = riseL (a / 448) (touK a n) := if_pos h0
    rw [e1, e2] at h1
    clear e1 e2
    have k1 := touK_le a n (by omega)
    have hlr := riseL_length (a / 448) (touK a n)
    by_cases hm : 0 ≤ m ∧ m ≤ 5675264 - a - n
    · obtain ⟨m, rfl⟩ : ∃ k : Nat, m = k := ⟨m.toNat, by omega⟩
      have h2 := touched_any (a + n) m (by omega)
      have h3 := touched_any a (n + m) (by omega)
      have k2 := touK_le (a + n) m (by omega)
      have k3 := touK_le a (n + m) (by omega)
      have hlr2 := riseL_length ((a + n) / 448) (touK (a + n) m)
      have hlr3 := riseL_length (a / 448) (touK a (n + m))
      have HP : Hid (bothL (riseL (a / 448) (touK a n)) (riseL ((a + n) / 448) (touK (a + n) m)) = riseL (a / 448) (touK a (n + m))) := parts_eq a n m
      rw [show ((a + n : Nat) : Int) = (a : Int) + n by omega] at h2
      rw [show ((n + m : Nat) : Int) = (n : Int) + m by omega] at h3
      have HN : Hid ((riseL (a / 448) (touK a n)).length ≤ 1000000 ∧ (riseL ((a + n) / 448) (touK (a + n) m)).length ≤ 1000000 ∧ (riseL (a / 448) (touK a (n + m))).length ≤ 1000000) := ⟨by omega, by omega, by omega⟩
      clear k1 k2 k3 hlr hlr2 hlr3
      generalize riseL (a / 448) (touK a n) = L1 at *
      generalize riseL ((a + n) / 448) (touK (a + n) m) = L2 at *
      generalize riseL (a / 448) (touK a (n + m)) = L3 at *
      have m1 : ¬ (m : Int) < 0 := by omega
      have m2 : ¬ 5675264 - (a : Int) - n < m := by omega
      go_enter Try.func6, Try.ntmps6
      go_wp2_with fail
      refine (h1 _).mono ?_
      rintro e w1 ⟨v1, rfl, hv1, hb1⟩
      clear h1
      go_wp2_with fail
      refine (h2 _).mono ?_
      rintro e w2 ⟨v2, rfl, hv2, hb2⟩
      clear h2
      have H2 : Hid (IZ w2 w.heap.size v1 L1 ∧ IZ w2 w1.heap.size v2 L2 ∧ Below w.heap.size w w2) := ⟨hv1.below hb2, hv2, hb1.trans (hb2.mono hb1.size)⟩
      clear hv1 hv2 hb1 hb2
      go_wp2_with fail
      refine (h3 _).mono ?_
      rintro e w3 ⟨v3, rfl, hv3, hb3⟩
      clear h3
      have hbo := both_any w3 v1 v2 L1 L2 (H2.out.1.below hb3).list1 (H2.out.2.1.below hb3).list1 HN.out.1 HN.out.2.1
      rw [HP.out] at hbo
      have H3 : Hid (IZ w3 w2.heap.size v3 L3 ∧ Below w.heap.size w w3) := ⟨hv3, H2.out.2.2.trans (hb3.mono H2.out.2.2.size)⟩
      clear hv3 hb3 H2
      go_wp2_with fail
      refine hbo.mono ?_
      rintro e w4 ⟨v4, rfl, hv4, hb4⟩
      have hs := csame_any w4 v4 v3 L3 hv4.list1 (H3.out.1.below hb4).list1 (by have := HN.out.2.2; omega)
      have HB : Hid (Below w.heap.size w w4) := H3.out.2.trans (hb4.mono H3.out.2.size)
      clear hbo hv4 hb4 H3
      go_wp2_with fail
      refine hs.mono ?_
      rintro e w5 ⟨rfl, hb5⟩
      have HB3 : Hid (Below w.heap.size w w5) := HB.out.trans (hb5.mono HB.out.size)
      clear hs hb5 HB
      go_wp2_with fail
      refine (cawake_any _).mono ?_
      rintro e w6 ⟨rfl, hb6⟩
      have HF : Hid (Below w.heap.size w w6) := HB3.out.trans (hb6.mono HB3.out.size)
      clear hb6 HB3
      go_wp2
      go_ret
      exact ⟨rfl, HF.out⟩
    · have hm2 : m < 0 ∨ (¬ m < 0 ∧ 5675264 - (a : Int) - n < m) := by omega
      generalize riseL (a / 448) (touK a n) = L1 at *
      clear hm hlr k1
      rcases hm2 with m1 | ⟨m1, m2⟩
      all_goals
        go_enter Try.func6, Try.ntmps6
        go_wp2_with fail
        refine (h1 _).mono ?_
        rintro e w1 ⟨v1, rfl, hv1, hb1⟩
        clear h1 hv1
        go_wp2_with fail
        refine (cawake_any _).mono ?_
        rintro e w6 ⟨rfl, hb6⟩
        have HF : Hid (Below w.heap.size w w6) := hb1.trans (hb6.mono hb1.size)
        clear hb6 hb1
        go_wp2
        go_ret
        exact ⟨rfl, HF.out⟩
  · have e1 : touE a n = 2 := if_neg h0
    rw [e1] at h1
    clear e1 h0
    generalize touL a n = L1 at *
    go_enter Try.func6, Try.ntmps6
    go_wp2_with fail
    refine (h1 _).mono ?_
    rintro e w1 ⟨v1, rfl, hv1, hb1⟩
    clear h1 hv1
    go_wp2_with fail
    refine (cawake_any _).mono ?_
    rintro e w6 ⟨rfl, hb6⟩
    have HF : Hid (Below w.heap.size w w6) := hb1.trans (hb6.mono hb1.size)
    clear hb6 hb1
    go_wp2
    go_ret
    exact ⟨rfl, HF.out⟩
end Go.Proofs.Ytcmbphppeobhfab
