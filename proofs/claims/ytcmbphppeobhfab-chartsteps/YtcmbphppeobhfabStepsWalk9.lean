/- The law ChartSteps, called with any lists, returns true, and changes nothing that was there. -/
import Derived.Test.YtcmbphppeobhfabCtMore
import Derived.Test.YtcmbphppeobhfabCtRCnt
import Derived.Test.YtcmbphppeobhfabCtLaw
namespace Go.Proofs.Ytcmbphppeobhfab
set_option maxRecDepth 20000
open Go.RowKit

theorem both_assoc {h a b : List Int} (hh : riseP h) (ha : riseP a) (hb : riseP b) : bothL (bothL h a) b = bothL h (bothL a b) := by
  refine rise_ext _ _ (riseP_both (riseP_both hh ha) hb).1 (riseP_both hh (riseP_both ha hb)).1 fun x => ?_
  rw [bothL_mem, bothL_mem, bothL_mem, bothL_mem, or_assoc]
theorem steps_num {h a b : List Int} (hh : riseP h) (ha : riseP a) (hb : riseP b) : moreN h a + moreN (bothL h a) b = moreN h (bothL a b) ∧ moreE h a = 0 ∧ moreE (bothL h a) b = 0 ∧ moreE h (bothL a b) = 0 := by
  have h1 := riseP_both hh ha
  have h2 := riseP_both ha hb
  unfold moreN moreE
  rw [if_pos ⟨hh, ha⟩, if_pos ⟨h1, hb⟩, if_pos ⟨hh, h2⟩, if_pos ⟨hh, ha⟩, if_pos ⟨h1, hb⟩, if_pos ⟨hh, h2⟩, both_assoc hh ha hb]
  exact ⟨by omega, rfl, rfl, rfl⟩
theorem moreN_lt (a b : List Int) (ha : a.length ≤ 100000) (hb : b.length ≤ 100000) : -1000000 ≤ moreN a b ∧ moreN a b ≤ 1000000 := by
  unfold moreN
  split
  · have h1 := cntN_le (bothL a b)
    have h2 := cntN_le a
    have h3 := bothL_len a b
    omega
  · omega
open Classical in
set_option maxHeartbeats 4000000 in
theorem walk_chartSteps (vh : Value) (h : List Int) (va : Value) (a : List Int) (vb : Value) (b : List Int) (w : World) (hh : List1 (Value.int .i64) w vh h) (hch : Capped vh ∧ NilOk vh) (ha : List1 (Value.int .i64) w va a) (hca : Capped va ∧ NilOk va) (hb : List1 (Value.int .i64) w vb b) (hcb : Capped vb ∧ NilOk vb) :
    Calls Try.prog 3 #[vh, va, vb] w fun e w' => e = .returned (.bool true) ∧ Below w.heap.size w w' := by
  obtain ⟨oh, ch, rfl⟩ := hh.form
  obtain ⟨oa, ca, rfl⟩ := ha.form
  obtain ⟨ob, cb, rfl⟩ := hb.form
  have HV : Hid (List1 (Value.int .i64) w (.slice oh h.length ch) h ∧ List1 (Value.int .i64) w (.slice oa a.length ca) a ∧ List1 (Value.int .i64) w (.slice ob b.length cb) b) := ⟨hh, ha, hb⟩
  have HN : Hid (NilOk (.slice oh h.length ch) ∧ NilOk (.slice oa a.length ca) ∧ NilOk (.slice ob b.length cb)) := ⟨hch.2, hca.2, hcb.2⟩
  clear hh ha hb hch hca hcb
  obtain ⟨lh, hlh⟩ : ∃ n, n = h.length := ⟨_, rfl⟩
  obtain ⟨la, hla⟩ : ∃ n, n = a.length := ⟨_, rfl⟩
  obtain ⟨lb, hlb⟩ : ∃ n, n = b.length := ⟨_, rfl⟩
  have HE : Hid (lh = h.length ∧ la = a.length ∧ lb = b.length) := ⟨hlh, hla, hlb⟩
  rw [← hlh, ← hla, ← hlb]
  have HB : Hid (Below w.heap.size w w) := Below.refl _ _
  by_cases p1 : 100 < lh
  · have q1 : (100 : Int) < (lh : Nat) := by omega
    clear hlh hla hlb p1
    go_enter Try.func3, Try.ntmps3
    go_wp2_with fail
    refine (cawake_any _).mono ?_
    rintro e w9 ⟨rfl, hb9⟩
    have HF : Hid (Below w.heap.size w w9) := HB.out.trans (hb9.mono HB.out.size)
    clear hb9 HB
    go_wp2
    go_ret
    exact ⟨rfl, HF.out⟩
  have q1 : ¬ (100 : Int) < (lh : Nat) := by omega
  by_cases p2 : 100 < la
  · have q2 : (100 : Int) < (la : Nat) := by omega
    clear hlh hla hlb p1 p2
    go_enter Try.func3, Try.ntmps3
    go_wp2_with fail
    refine (cawake_any _).mono ?_
    rintro e w9 ⟨rfl, hb9⟩
    have HF : Hid (Below w.heap.size w w9) := HB.out.trans (hb9.mono HB.out.size)
    clear hb9 HB
    go_wp2
    go_ret
    exact ⟨rfl, HF.out⟩
  have q2 : ¬ (100 : Int) < (la : Nat) := by omega
  by_cases p3 : 100 < lb
  · have q3 : (100 : Int) < (lb : Nat) := by omega
    clear hlh hla hlb p1 p2 p3
    go_enter Try.func3, Try.ntmps3
    go_wp2_with fail
    refine (cawake_any _).mono ?_
    rintro e w9 ⟨rfl, hb9⟩
    have HF : Hid (Below w.heap.size w w9) := HB.out.trans (hb9.mono HB.out.size)
    clear hb9 HB
    go_wp2
    go_ret
    exact ⟨rfl, HF.out⟩
  have q3 : ¬ (100 : Int) < (lb : Nat) := by omega
  have HL : Hid (h.length ≤ 100 ∧ a.length ≤ 100 ∧ b.length ≤ 100) := ⟨by omega, by omega, by omega⟩
  clear hlh hla hlb p1 p2 p3
  by_cases hr1 : riseP h
  · by_cases hr2 : riseP a
    · by_cases hr3 : riseP b
      · have HR : Hid (riseP h ∧ riseP a ∧ riseP b) := ⟨hr1, hr2, hr3⟩
        clear hr1 hr2 hr3
        go_enter Try.func3, Try.ntmps3
        have r1 := rrising_any w _ h (HV.out.1.below HB.out) (by have := HL.out; omega)
        rw [decide_eq_true HR.out.1] at r1
        rw [← HE.out.1] at r1
        go_wp2_with fail
        refine r1.mono ?_
        rintro e w1 ⟨rfl, hb1⟩
        have HB' : Hid (Below w.heap.size w w1) := HB.out.trans (hb1.mono HB.out.size)
        clear r1 hb1 HB
        have HB : Hid (Below w.heap.size w w1) := HB'.out
        clear HB' 
        have r2 := rrising_any w1 _ a (HV.out.2.1.below HB.out) (by have := HL.out; omega)
        rw [decide_eq_true HR.out.2.1] at r2
        rw [← HE.out.2.1] at r2
        go_wp2_with fail
        refine r2.mono ?_
        rintro e w2 ⟨rfl, hb2⟩
        have HB' : Hid (Below w.heap.size w w2) := HB.out.trans (hb2.mono HB.out.size)
        clear r2 hb2 HB
        have HB : Hid (Below w.heap.size w w2) := HB'.out
        clear HB' 
        have r3 := rrising_any w2 _ b (HV.out.2.2.below HB.out) (by have := HL.out; omega)
        rw [decide_eq_true HR.out.2.2] at r3
        rw [← HE.out.2.2] at r3
        go_wp2_with fail
        refine r3.mono ?_
        rintro e w3 ⟨rfl, hb3⟩
        have HB' : Hid (Below w.heap.size w w3) := HB.out.trans (hb3.mono HB.out.size)
        clear r3 hb3 HB
        have HB : Hid (Below w.heap.size w w3) := HB'.out
        clear HB' 
        have m1 := more_any w3 _ _ h a (HV.out.1.below HB.out) (HV.out.2.1.below HB.out) (by have := HL.out; omega) (by have := HL.out; omega) HN.out.1 HN.out.2.1
        obtain ⟨sn, se1, se2, se3⟩ := steps_num HR.out.1 HR.out.2.1 HR.out.2.2
        have b1 := moreN_lt h a (by have := HL.out; omega) (by have := HL.out; omega)
        have b2 := moreN_lt (bothL h a) b (by have := HL.out; have := bothL_len h a; omega) (by have := HL.out; omega)
        obtain ⟨N1, hN1⟩ : ∃ N, N = moreN h a := ⟨_, rfl⟩
        obtain ⟨N2, hN2⟩ : ∃ N, N = moreN (bothL h a) b := ⟨_, rfl⟩
        obtain ⟨N3, hN3⟩ : ∃ N, N = moreN h (bothL a b) := ⟨_, rfl⟩
        have HNN : Hid (N2 = moreN (bothL h a) b ∧ N3 = moreN h (bothL a b) ∧ moreE (bothL h a) b = 0 ∧ moreE h (bothL a b) = 0) := ⟨hN2, hN3, se2, se3⟩
        rw [← hN1, ← hN2, ← hN3] at sn
        rw [← hN1] at b1 m1
        rw [← hN2] at b2
        rw [se1, ← HE.out.1, ← HE.out.2.1] at m1
        clear hN1 hN2 hN3 se1 se2 se3
        go_wp2_with fail
        refine m1.mono ?_
        rintro e w4 ⟨rfl, hb4⟩
        have H4 : Hid (Below w.heap.size w w4) := HB.out.trans (hb4.mono HB.out.size)
        have k1 := both_any w4 _ _ h a (HV.out.1.below H4.out) (HV.out.2.1.below H4.out) (by have := HL.out; omega) (by have := HL.out; omega)
        rw [← HE.out.1, ← HE.out.2.1] at k1
        clear m1 hb4 HB
        go_wp2_with fail
        refine k1.mono ?_
        rintro e w5 ⟨v5, rfl, hv5, hb5⟩
        have H5 : Hid (Below w.heap.size w w5) := H4.out.trans (hb5.mono H4.out.size)
        have m2 := more_any w5 _ _ (bothL h a) b hv5.list1 (HV.out.2.2.below H5.out) (by have := HL.out; have := bothL_len h a; omega) (by have := HL.out; omega) hv5.nilOk HN.out.2.2
        rw [← HNN.out.1, HNN.out.2.2.1, ← HE.out.2.2] at m2
        clear k1 hb5 H4 hv5
        go_wp2_with fail
        refine m2.mono ?_
        rintro e w6 ⟨rfl, hb6⟩
        have H6 : Hid (Below w.heap.size w w6) := H5.out.trans (hb6.mono H5.out.size)
        have k2 := both_any w6 _ _ a b (HV.out.2.1.below H6.out) (HV.out.2.2.below H6.out) (by have := HL.out; omega) (by have := HL.out; omega)
        rw [← HE.out.2.1, ← HE.out.2.2] at k2
        clear m2 hb6 H5
        go_wp2_with fail
        refine k2.mono ?_
        rintro e w7 ⟨v7, rfl, hv7, hb7⟩
        have H7 : Hid (Below w.heap.size w w7) := H6.out.trans (hb7.mono H6.out.size)
        have m3 := more_any w7 _ _ h (bothL a b) (HV.out.1.below H7.out) hv7.list1 (by have := HL.out; omega) (by have := HL.out; have := bothL_len a b; omega) HN.out.1 hv7.nilOk
        rw [← HNN.out.2.1, HNN.out.2.2.2, ← HE.out.1] at m3
        clear k2 hb7 H6 hv7
        go_wp2_with fail
        refine m3.mono ?_
        rintro e w8 ⟨rfl, hb8⟩
        have HB : Hid (Below w.heap.size w w8) := H7.out.trans (hb8.mono H7.out.size)
        clear m3 hb8 H7
        go_wp2_with fail
        refine (cawake_any _).mono ?_
        rintro e w9 ⟨rfl, hb9⟩
        have HF : Hid (Below w.heap.size w w9) := HB.out.trans (hb9.mono HB.out.size)
        clear hb9 HB
        go_wp2
        go_ret
        exact ⟨rfl, HF.out⟩
      · have HR : Hid (riseP h ∧ riseP a ∧ ¬ riseP b) := ⟨hr1, hr2, hr3⟩
        clear hr1 hr2 hr3
        go_enter Try.func3, Try.ntmps3
        have r1 := rrising_any w _ h (HV.out.1.below HB.out) (by have := HL.out; omega)
        rw [decide_eq_true HR.out.1] at r1
        rw [← HE.out.1] at r1
        go_wp2_with fail
        refine r1.mono ?_
        rintro e w1 ⟨rfl, hb1⟩
        have HB' : Hid (Below w.heap.size w w1) := HB.out.trans (hb1.mono HB.out.size)
        clear r1 hb1 HB
        have HB : Hid (Below w.heap.size w w1) := HB'.out
        clear HB' 
        have r2 := rrising_any w1 _ a (HV.out.2.1.below HB.out) (by have := HL.out; omega)
        rw [decide_eq_true HR.out.2.1] at r2
        rw [← HE.out.2.1] at r2
        go_wp2_with fail
        refine r2.mono ?_
        rintro e w2 ⟨rfl, hb2⟩
        have HB' : Hid (Below w.heap.size w w2) := HB.out.trans (hb2.mono HB.out.size)
        clear r2 hb2 HB
        have HB : Hid (Below w.heap.size w w2) := HB'.out
        clear HB' 
        have r3 := rrising_any w2 _ b (HV.out.2.2.below HB.out) (by have := HL.out; omega)
        rw [decide_eq_false HR.out.2.2] at r3
        rw [← HE.out.2.2] at r3
        go_wp2_with fail
        refine r3.mono ?_
        rintro e w3 ⟨rfl, hb3⟩
        have HB' : Hid (Below w.heap.size w w3) := HB.out.trans (hb3.mono HB.out.size)
        clear r3 hb3 HB
        have HB : Hid (Below w.heap.size w w3) := HB'.out
        clear HB' 
        go_wp2_with fail
        refine (cawake_any _).mono ?_
        rintro e w9 ⟨rfl, hb9⟩
        have HF : Hid (Below w.heap.size w w9) := HB.out.trans (hb9.mono HB.out.size)
        clear hb9 HB
        go_wp2
        go_ret
        exact ⟨rfl, HF.out⟩
    · have HR : Hid (riseP h ∧ ¬ riseP a) := ⟨hr1, hr2⟩
      clear hr1 hr2
      go_enter Try.func3, Try.ntmps3
      have r1 := rrising_any w _ h (HV.out.1.below HB.out) (by have := HL.out; omega)
      rw [decide_eq_true HR.out.1] at r1
      rw [← HE.out.1] at r1
      go_wp2_with fail
      refine r1.mono ?_
      rintro e w1 ⟨rfl, hb1⟩
      have HB' : Hid (Below w.heap.size w w1) := HB.out.trans (hb1.mono HB.out.size)
      clear r1 hb1 HB
      have HB : Hid (Below w.heap.size w w1) := HB'.out
      clear HB' 
      have r2 := rrising_any w1 _ a (HV.out.2.1.below HB.out) (by have := HL.out; omega)
      rw [decide_eq_false HR.out.2] at r2
      rw [← HE.out.2.1] at r2
      go_wp2_with fail
      refine r2.mono ?_
      rintro e w2 ⟨rfl, hb2⟩
      have HB' : Hid (Below w.heap.size w w2) := HB.out.trans (hb2.mono HB.out.size)
      clear r2 hb2 HB
      have HB : Hid (Below w.heap.size w w2) := HB'.out
      clear HB' 
      go_wp2_with fail
      refine (cawake_any _).mono ?_
      rintro e w9 ⟨rfl, hb9⟩
      have HF : Hid (Below w.heap.size w w9) := HB.out.trans (hb9.mono HB.out.size)
      clear hb9 HB
      go_wp2
      go_ret
      exact ⟨rfl, HF.out⟩
  · have HR : Hid (¬ riseP h) := hr1
    clear hr1
    go_enter Try.func3, Try.ntmps3
    have r1 := rrising_any w _ h (HV.out.1.below HB.out) (by have := HL.out; omega)
    rw [decide_eq_false HR.out] at r1
    rw [← HE.out.1] at r1
    go_wp2_with fail
    refine r1.mono ?_
    rintro e w1 ⟨rfl, hb1⟩
    have HB' : Hid (Below w.heap.size w w1) := HB.out.trans (hb1.mono HB.out.size)
    clear r1 hb1 HB
    have HB : Hid (Below w.heap.size w w1) := HB'.out
    clear HB' 
    go_wp2_with fail
    refine (cawake_any _).mono ?_
    rintro e w9 ⟨rfl, hb9⟩
    have HF : Hid (Below w.heap.size w w9) := HB.out.trans (hb9.mono HB.out.size)
    clear hb9 HB
    go_wp2
    go_ret
    exact ⟨rfl, HF.out⟩
end Go.Proofs.Ytcmbphppeobhfab
