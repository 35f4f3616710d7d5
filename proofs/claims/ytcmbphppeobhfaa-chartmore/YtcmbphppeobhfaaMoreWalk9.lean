/- The law ChartMore, called with any lists, returns true, and changes nothing that was there. -/
import Derived.Test.YtcmbphppeobhfaaCtRMore
import Derived.Test.YtcmbphppeobhfaaCtLaw
namespace Go.Proofs.Ytcmbphppeobhfaa
set_option maxRecDepth 20000
open Go.RowKit

theorem more_E (a b : List Int) : (moreE a b = 0 ∧ 0 ≤ moreN a b) ∨ moreE a b = 1 := by
  unfold moreE moreN
  by_cases h : riseP a ∧ riseP b
  · rw [if_pos h, if_pos h]; exact .inl ⟨rfl, by have := cntN_both h.1 h.2; omega⟩
  · rw [if_neg h]; exact .inr rfl
set_option maxHeartbeats 1000000 in
theorem moreLaw_00 (oa ob : Option Addr) (ka kb ca cb : Nat) (N E : Int) (w : World) (hE : (E = 0 ∧ 0 ≤ N) ∨ E = 1) (pa : ¬ 200 < ka) (pb : ¬ 200 < kb)
    (h1 : Calls Try.prog 16 #[.slice oa ka ca, .slice ob kb cb] w fun e w' => e = .returned (.tuple #[.int .i64 N, .int .i64 E]) ∧ Below w.heap.size w w')
    (HR : Hid (∀ w1, Below w.heap.size w w1 → Calls Try.prog 17 #[.slice oa ka ca, .slice ob kb cb] w1 fun e w' => e = .returned (.tuple #[.int .i64 N, .int .i64 E]) ∧ Below w1.heap.size w1 w')) :
    Calls Try.prog 8 #[.slice oa ka ca, .slice ob kb cb] w fun e w' => e = .returned (.bool true) ∧ Below w.heap.size w w' := by
  have pa' : ¬ (200 : Int) < (ka : Nat) := by omega
  have pb' : ¬ (200 : Int) < (kb : Nat) := by omega
  clear pa pb
  go_enter Try.func8, Try.ntmps8
  go_wp2_with fail
  refine h1.mono ?_
  rintro e w1 ⟨rfl, hb1⟩
  clear h1
  have h2 := HR.out w1 hb1
  have H1 : Hid (Below w.heap.size w w1) := hb1
  clear hb1 HR
  go_wp2_with fail
  refine h2.mono ?_
  rintro e w2 ⟨rfl, hb2⟩
  have H2 : Hid (Below w.heap.size w w2) := H1.out.trans (hb2.mono H1.out.size)
  clear h2 hb2 H1
  rcases hE with ⟨rfl, hN⟩ | rfl
  all_goals
    go_wp2_with fail
    refine (cawake_any _).mono ?_
    rintro e w6 ⟨rfl, hb6⟩
    have HF : Hid (Below w.heap.size w w6) := H2.out.trans (hb6.mono H2.out.size)
    clear hb6 H2
    go_wp2
    go_ret
    exact ⟨rfl, HF.out⟩
set_option maxHeartbeats 1000000 in
theorem moreLaw_01 (oa ob : Option Addr) (ka kb ca cb : Nat) (N E : Int) (w : World) (hE : (E = 0 ∧ 0 ≤ N) ∨ E = 1) (pa : ¬ 200 < ka) (pb : 200 < kb) (qb : 200 ≤ cb) (mb : cb ≤ 9223372036854775807) (gb : ∃ g o, ob = some ⟨g, o, none⟩)
    (h1 : Calls Try.prog 16 #[.slice oa ka ca, .slice ob 200 cb] w fun e w' => e = .returned (.tuple #[.int .i64 N, .int .i64 E]) ∧ Below w.heap.size w w')
    (HR : Hid (∀ w1, Below w.heap.size w w1 → Calls Try.prog 17 #[.slice oa ka ca, .slice ob 200 cb] w1 fun e w' => e = .returned (.tuple #[.int .i64 N, .int .i64 E]) ∧ Below w1.heap.size w1 w')) :
    Calls Try.prog 8 #[.slice oa ka ca, .slice ob kb cb] w fun e w' => e = .returned (.bool true) ∧ Below w.heap.size w w' := by
  have pa' : ¬ (200 : Int) < (ka : Nat) := by omega
  have pb' : (200 : Int) < (kb : Nat) := by omega
  obtain ⟨g2, o2, rfl⟩ := gb
  clear pa pb
  go_enter Try.func8, Try.ntmps8
  go_wp2_with fail
  refine h1.mono ?_
  rintro e w1 ⟨rfl, hb1⟩
  clear h1
  have h2 := HR.out w1 hb1
  have H1 : Hid (Below w.heap.size w w1) := hb1
  clear hb1 HR
  go_wp2_with fail
  refine h2.mono ?_
  rintro e w2 ⟨rfl, hb2⟩
  have H2 : Hid (Below w.heap.size w w2) := H1.out.trans (hb2.mono H1.out.size)
  clear h2 hb2 H1
  rcases hE with ⟨rfl, hN⟩ | rfl
  all_goals
    go_wp2_with fail
    refine (cawake_any _).mono ?_
    rintro e w6 ⟨rfl, hb6⟩
    have HF : Hid (Below w.heap.size w w6) := H2.out.trans (hb6.mono H2.out.size)
    clear hb6 H2
    go_wp2
    go_ret
    exact ⟨rfl, HF.out⟩
set_option maxHeartbeats 1000000 in
theorem moreLaw_10 (oa ob : Option Addr) (ka kb ca cb : Nat) (N E : Int) (w : World) (hE : (E = 0 ∧ 0 ≤ N) ∨ E = 1) (pa : 200 < ka) (qa : 200 ≤ ca) (ma : ca ≤ 9223372036854775807) (ga : ∃ g o, oa = some ⟨g, o, none⟩) (pb : ¬ 200 < kb)
    (h1 : Calls Try.prog 16 #[.slice oa 200 ca, .slice ob kb cb] w fun e w' => e = .returned (.tuple #[.int .i64 N, .int .i64 E]) ∧ Below w.heap.size w w')
    (HR : Hid (∀ w1, Below w.heap.size w w1 → Calls Try.prog 17 #[.slice oa 200 ca, .slice ob kb cb] w1 fun e w' => e = .returned (.tuple #[.int .i64 N, .int .i64 E]) ∧ Below w1.heap.size w1 w')) :
    Calls Try.prog 8 #[.slice oa ka ca, .slice ob kb cb] w fun e w' => e = .returned (.bool true) ∧ Below w.heap.size w w' := by
  have pa' : (200 : Int) < (ka : Nat) := by omega
  have pb' : ¬ (200 : Int) < (kb : Nat) := by omega
  obtain ⟨g1, o1, rfl⟩ := ga
  clear pa pb
  go_enter Try.func8, Try.ntmps8
  go_wp2_with fail
  refine h1.mono ?_
  rintro e w1 ⟨rfl, hb1⟩
  clear h1
  have h2 := HR.out w1 hb1
  have H1 : Hid (Below w.heap.size w w1) := hb1
  clear hb1 HR
  go_wp2_with fail
  refine h2.mono ?_
  rintro e w2 ⟨rfl, hb2⟩
  have H2 : Hid (Below w.heap.size w w2) := H1.out.trans (hb2.mono H1.out.size)
  clear h2 hb2 H1
  rcases hE with ⟨rfl, hN⟩ | rfl
  all_goals
    go_wp2_with fail
    refine (cawake_any _).mono ?_
    rintro e w6 ⟨rfl, hb6⟩
    have HF : Hid (Below w.heap.size w w6) := H2.out.trans (hb6.mono H2.out.size)
    clear hb6 H2
    go_wp2
    go_ret
    exact ⟨rfl, HF.out⟩
set_option maxHeartbeats 1000000 in
theorem moreLaw_11 (oa ob : Option Addr) (ka kb ca cb : Nat) (N E : Int) (w : World) (hE : (E = 0 ∧ 0 ≤ N) ∨ E = 1) (pa : 200 < ka) (qa : 200 ≤ ca) (ma : ca ≤ 9223372036854775807) (ga : ∃ g o, oa = some ⟨g, o, none⟩) (pb : 200 < kb) (qb : 200 ≤ cb) (mb : cb ≤ 9223372036854775807) (gb : ∃ g o, ob = some ⟨g, o, none⟩)
    (h1 : Calls Try.prog 16 #[.slice oa 200 ca, .slice ob 200 cb] w fun e w' => e = .returned (.tuple #[.int .i64 N, .int .i64 E]) ∧ Below w.heap.size w w')
    (HR : Hid (∀ w1, Below w.heap.size w w1 → Calls Try.prog 17 #[.slice oa 200 ca, .slice ob 200 cb] w1 fun e w' => e = .returned (.tuple #[.int .i64 N, .int .i64 E]) ∧ Below w1.heap.size w1 w')) :
    Calls Try.prog 8 #[.slice oa ka ca, .slice ob kb cb] w fun e w' => e = .returned (.bool true) ∧ Below w.heap.size w w' := by
  have pa' : (200 : Int) < (ka : Nat) := by omega
  have pb' : (200 : Int) < (kb : Nat) := by omega
  obtain ⟨g1, o1, rfl⟩ := ga
  obtain ⟨g2, o2, rfl⟩ := gb
  clear pa pb
  go_enter Try.func8, Try.ntmps8
  go_wp2_with fail
  refine h1.mono ?_
  rintro e w1 ⟨rfl, hb1⟩
  clear h1
  have h2 := HR.out w1 hb1
  have H1 : Hid (Below w.heap.size w w1) := hb1
  clear hb1 HR
  go_wp2_with fail
  refine h2.mono ?_
  rintro e w2 ⟨rfl, hb2⟩
  have H2 : Hid (Below w.heap.size w w2) := H1.out.trans (hb2.mono H1.out.size)
  clear h2 hb2 H1
  rcases hE with ⟨rfl, hN⟩ | rfl
  all_goals
    go_wp2_with fail
    refine (cawake_any _).mono ?_
    rintro e w6 ⟨rfl, hb6⟩
    have HF : Hid (Below w.heap.size w w6) := H2.out.trans (hb6.mono H2.out.size)
    clear hb6 H2
    go_wp2
    go_ret
    exact ⟨rfl, HF.out⟩
theorem List1.someAt {W : World} {oa : Option Addr} {cap : Nat} {l : List Int} (h : List1 (Value.int .i64) W (.slice oa l.length cap) l) (hl : 200 < l.length) : ∃ g o, oa = some ⟨g, o, none⟩ := by
  obtain ⟨g, o, e, _⟩ := h.get hl
  exact ⟨g, o, e⟩
theorem nilOk_some {oa : Option Addr} {n c : Nat} (h : ∃ g o, oa = some ⟨g, o, none⟩) : NilOk (.slice oa n c) := fun len cap e => by
  obtain ⟨g, o, rfl⟩ := h
  simp at e
theorem walk_chartMore (va : Value) (a : List Int) (vb : Value) (b : List Int) (w : World) (ha : List1 (Value.int .i64) w va a) (hca : Capped va ∧ NilOk va) (hb : List1 (Value.int .i64) w vb b) (hcb : Capped vb ∧ NilOk vb) :
    Calls Try.prog 8 #[va, vb] w fun e w' => e = .returned (.bool true) ∧ Below w.heap.size w w' := by
  obtain ⟨oa, ca, rfl⟩ := ha.form
  obtain ⟨ob, cb, rfl⟩ := hb.form
  have hpa := hca.1 _ _ _ rfl
  have hpb := hcb.1 _ _ _ rfl
  unfold maxLen at hpa hpb
  have ta : ∀ l : List Int, (l.take 200).length ≤ 100000 := fun l => by rw [List.length_take]; omega
  by_cases pa : 200 < a.length <;> by_cases pb : 200 < b.length
  · have va := ha.cut 200 pa ca
    have vb := hb.cut 200 pb cb
    have ga := ha.someAt pa
    have gb := hb.someAt pb
    exact moreLaw_11 oa ob _ _ ca cb _ _ w (more_E (a.take 200) (b.take 200)) pa (by omega) (by omega) ga pb (by omega) (by omega) gb (more_any w _ _ _ _ va vb (ta a) (ta b) (nilOk_some ga) (nilOk_some gb)) (fun w1 h => rmore_any w1 _ _ _ _ (va.below h) (vb.below h) (ta a) (ta b))
  · have va := ha.cut 200 pa ca
    have ga := ha.someAt pa
    exact moreLaw_10 oa ob _ _ ca cb _ _ w (more_E (a.take 200) b) pa (by omega) (by omega) ga pb (more_any w _ _ _ _ va hb (ta a) (by omega) (nilOk_some ga) hcb.2) (fun w1 h => rmore_any w1 _ _ _ _ (va.below h) (hb.below h) (ta a) (by omega))
  · have vb := hb.cut 200 pb cb
    have gb := hb.someAt pb
    exact moreLaw_01 oa ob _ _ ca cb _ _ w (more_E a (b.take 200)) pa pb (by omega) (by omega) gb (more_any w _ _ _ _ ha vb (by omega) (ta b) hca.2 (nilOk_some gb)) (fun w1 h => rmore_any w1 _ _ _ _ (ha.below h) (vb.below h) (by omega) (ta b))
  · exact moreLaw_00 oa ob _ _ ca cb _ _ w (more_E a b) pa pb (more_any w _ _ _ _ ha hb (by omega) (by omega) hca.2 hcb.2) (fun w1 h => rmore_any w1 _ _ _ _ (ha.below h) (hb.below h) (by omega) (by omega))
end Go.Proofs.Ytcmbphppeobhfaa
