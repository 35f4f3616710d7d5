/- The document's More. -/
import Derived.Test.YtcmbphppeobhfaaCtMore
import Derived.Test.YtcmbphppeobhfaaCtRBlk
namespace Go.Proofs.Ytcmbphppeobhfaa
set_option maxRecDepth 20000
open Go.RowKit

theorem blkN_in {l : List Int} (h : riseP l) : blkN l = ((cntN l : Nat) : Int) := if_pos h
open Classical in
set_option maxHeartbeats 2000000 in
theorem rmore_any (w : World) (va vb : Value) (a b : List Int) (ha : List1 (Value.int .i64) w va a) (hb : List1 (Value.int .i64) w vb b) (hla : a.length ≤ 100000) (hlb : b.length ≤ 100000) :
    Calls Try.prog 17 #[va, vb] w fun e w' => e = .returned (.tuple #[.int .i64 (moreN a b), .int .i64 (moreE a b)]) ∧ Below w.heap.size w w' := by
  have r1 := rrising_any w va a ha (by omega)
  obtain ⟨oa, ca, rfl⟩ := ha.form
  obtain ⟨ob, cb, rfl⟩ := hb.form
  have HV : Hid (List1 (Value.int .i64) w (.slice oa a.length ca) a ∧ List1 (Value.int .i64) w (.slice ob b.length cb) b) := ⟨ha, hb⟩
  clear ha hb
  unfold moreN moreE
  by_cases h1 : riseP a
  · rw [decide_eq_true h1] at r1
    by_cases h2 : riseP b
    · rw [if_pos ⟨h1, h2⟩, if_pos ⟨h1, h2⟩]
      have HS : Hid (riseP a ∧ riseP b ∧ (bothL a b).length ≤ 200000 ∧ a.length ≤ 100000 ∧ b.length ≤ 100000) := ⟨h1, h2, by have := bothL_len a b; omega, hla, hlb⟩
      have hcn := cntN_le (bothL a b)
      have hcm := cntN_le a
      have hn1 : cntN (bothL a b) ≤ 600000 := by have := HS.out.2.2.1; omega
      have hn2 : cntN a ≤ 300000 := by omega
      obtain ⟨N, hN⟩ : ∃ N, N = cntN (bothL a b) := ⟨_, rfl⟩
      obtain ⟨M, hM⟩ : ∃ M, M = cntN a := ⟨_, rfl⟩
      have HNM : Hid (N = cntN (bothL a b) ∧ M = cntN a) := ⟨hN, hM⟩
      rw [← hN] at hn1
      rw [← hM] at hn2
      clear hN hM hcn hcm h1 h2
      go_enter Try.func17, Try.ntmps17
      go_wp2_with fail
      refine r1.mono ?_
      rintro e w1 ⟨rfl, hb1⟩
      clear r1
      have r2 := rrising_any w1 _ b (HV.out.2.below hb1) (by omega)
      rw [decide_eq_true HS.out.2.1] at r2
      have H1 : Hid (Below w.heap.size w w1) := hb1
      clear hb1
      go_wp2_with fail
      refine r2.mono ?_
      rintro e w2 ⟨rfl, hb2⟩
      clear r2
      have H2 : Hid (Below w.heap.size w w2) := H1.out.trans (hb2.mono H1.out.size)
      have k1 := rblocks_any w2 _ a (HV.out.1.below H2.out) (by omega)
      rw [blkN_in HS.out.1, ← HNM.out.2] at k1
      generalize blkE a = E1 at *
      clear hb2 H1
      go_wp2_with fail
      refine k1.mono ?_
      rintro e w3 ⟨rfl, hb3⟩
      clear k1
      have H3 : Hid (Below w.heap.size w w3) := H2.out.trans (hb3.mono H2.out.size)
      have k2 := both_any w3 _ _ a b (HV.out.1.below H3.out) (HV.out.2.below H3.out) (by omega) (by omega)
      clear hb3 H2
      go_wp2_with fail
      refine k2.mono ?_
      rintro e w4 ⟨v4, rfl, hv4, hb4⟩
      clear k2
      have H4 : Hid (Below w.heap.size w w4) := H3.out.trans (hb4.mono H3.out.size)
      have k3 := rblocks_any w4 v4 _ hv4.list1 (by have := HS.out.2.2.1; omega)
      rw [blkN_in (riseP_both HS.out.1 HS.out.2.1), ← HNM.out.1] at k3
      generalize blkE (bothL a b) = E2 at *
      clear hb4 H3 hv4
      go_wp2_with fail
      refine k3.mono ?_
      rintro e w5 ⟨rfl, hb5⟩
      have H5 : Hid (Below w.heap.size w w5) := H4.out.trans (hb5.mono H4.out.size)
      clear k3 hb5 H4
      go_wp2
      go_ret2
      exact ⟨by rw [← HNM.out.1, ← HNM.out.2]; rfl, H5.out⟩
    · rw [if_neg (fun h => h2 h.2), if_neg (fun h => h2 h.2)]
      have HN : Hid (¬ riseP b) := h2
      clear h1 h2
      go_enter Try.func17, Try.ntmps17
      go_wp2_with fail
      refine r1.mono ?_
      rintro e w1 ⟨rfl, hb1⟩
      clear r1
      have r2 := rrising_any w1 _ b (HV.out.2.below hb1) (by omega)
      rw [decide_eq_false HN.out] at r2
      have H1 : Hid (Below w.heap.size w w1) := hb1
      clear hb1
      go_wp2_with fail
      refine r2.mono ?_
      rintro e w2 ⟨rfl, hb2⟩
      clear r2
      have H2 : Hid (Below w.heap.size w w2) := H1.out.trans (hb2.mono H1.out.size)
      clear hb2 H1
      go_wp2
      go_ret2
      exact ⟨rfl, H2.out⟩
  · rw [decide_eq_false h1] at r1
    rw [if_neg (fun h => h1 h.1), if_neg (fun h => h1 h.1)]
    clear h1
    go_enter Try.func17, Try.ntmps17
    go_wp2_with fail
    refine r1.mono ?_
    rintro e w1 ⟨rfl, hb1⟩
    clear r1
    go_wp2
    go_ret2
    exact ⟨rfl, hb1⟩
end Go.Proofs.Ytcmbphppeobhfaa
