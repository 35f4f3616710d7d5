/- The law PathBelow, called with any two texts, returns true, and changes nothing that was there. -/
import Derived.Test.YtjpgmbebdkiofaaDoorPtWithin
namespace Go.Proofs.YtjpgmbebdkiofaaDoor
set_option maxRecDepth 20000
open Go.RowKit

theorem sp_len (l : List UInt8) : ((spL l).map mkB).length ≤ 1000000000 := by
  rw [List.length_map]
  unfold spL
  split
  · rename_i h
    have := (sp_form h.1).1
    have := cut_len l.tail
    rw [List.length_tail] at this
    omega
  · simp
theorem below_root (s n : ByteArray) (h : s.data.toList = [47]) : ∃ R, (spL ((⟨#[47]⟩ : ByteArray) ++ n).data.toList).map mkB = (spL s.data.toList).map mkB ++ R := by
  rw [h, sp_root.2]
  exact ⟨_, rfl⟩
theorem below_else (s n : ByteArray) (h : ¬ s.data.toList = [47]) (h1 : spE s.data.toList = 0) (h2 : spE (s ++ (⟨#[47]⟩ : ByteArray) ++ n).data.toList = 0) : ∃ R, (spL (s ++ (⟨#[47]⟩ : ByteArray) ++ n).data.toList).map mkB = (spL s.data.toList).map mkB ++ R := by
  obtain ⟨_, x, hx, _⟩ := sp_form h1
  have e : (s ++ (⟨#[47]⟩ : ByteArray) ++ n).data.toList = 47 :: (x ++ 47 :: n.data.toList) := by
    simp [ByteArray.data_append, hx]
  rw [e] at h2 ⊢
  rw [hx] at h1 h ⊢
  obtain ⟨r, _, hr⟩ := sp_below (y := n.data.toList) (fun e => h (by rw [e])) h1 h2
  exact ⟨r.map mkB, by rw [hr, List.map_append]⟩
theorem within_yes (A R : List ByteArray) : decide ((A ++ R).take A.length = A) = true := decide_eq_true (List.take_left' rfl)
theorem within_not (A R : List ByteArray) (h : R ≠ []) : decide (A.take (A ++ R).length = A ++ R) = false := decide_eq_false fun e => by
  have := congrArg List.length e
  rw [List.length_take, List.length_append] at this
  have := List.length_pos_iff.2 h
  omega
set_option maxHeartbeats 2000000 in
theorem walk_pathBelow (s n : ByteArray) (hs : s.size ≤ 140737488355328) (hn : n.size ≤ 140737488355328) (w : World) :
    Calls Tryd.prog 8 #[.string s, .string n] w fun e w' => e = .returned (.bool true) ∧ Below w.heap.size w w' := by
  have h1 := psplit_any s
  have k1 := sp_len s.data.toList
  have hgo : ∃ T : ByteArray, (s.toList = [47] ∧ T = (⟨#[47]⟩ : ByteArray) ++ n ∨ ¬ s.toList = [47] ∧ T = s ++ (⟨#[47]⟩ : ByteArray) ++ n) ∧ (spE s.data.toList = 0 → spE T.data.toList = 0 → ∃ R, (spL T.data.toList).map mkB = (spL s.data.toList).map mkB ++ R) := by
    by_cases h : s.toList = [47]
    · exact ⟨_, .inl ⟨h, rfl⟩, fun _ _ => below_root s n (by rw [← Lib.toList_data]; exact h)⟩
    · exact ⟨_, .inr ⟨h, rfl⟩, fun a b => below_else s n (by rw [← Lib.toList_data]; exact h) a b⟩
  obtain ⟨T, hT, hR⟩ := hgo
  have h2 := psplit_any T
  have k2 := sp_len T.data.toList
  have HR : Hid (spE s.data.toList = 0 → spE T.data.toList = 0 → ∃ R, (spL T.data.toList).map mkB = (spL s.data.toList).map mkB ++ R) := hR
  clear hR
  generalize spE s.data.toList = E1 at *
  generalize spE T.data.toList = E2 at *
  generalize (spL s.data.toList).map mkB = A at *
  generalize (spL T.data.toList).map mkB = B at *
  by_cases g1 : E1 = 0
  · subst g1
    by_cases g2 : E2 = 0
    · subst g2
      obtain ⟨R, hB⟩ := HR.out rfl rfl
      subst hB
      clear HR
      have y1 := within_yes A R
      have y2 := within_not A R
      have hlen : (A ++ R).length = A.length + R.length := List.length_append
      rcases hT with ⟨hq, hT⟩ | ⟨hq, hT⟩
      · have hq' : (s.toList == [47]) = true := beq_iff_eq.2 hq
        have HT : Hid (T = (⟨#[47]⟩ : ByteArray) ++ n) := hT
        clear hq hT
        go_enter Tryd.func8, Tryd.ntmps8
        go_wp2_with fail
        refine (h1 _).mono ?_
        rintro e w1 ⟨v1, rfl, l1, b1, f1⟩
        clear h1
        go_wp2_with fail
        rw [← HT.out]
        refine (h2 _).mono ?_
        rintro e w2 ⟨v2, rfl, l2, b2, f2⟩
        clear h2 HT
        have kW1 := within_any v2 (A ++ R) v1 A w2 l2 (l1.below b2) k2 f2
        rw [y1] at kW1
        have kW2 : Hid (∀ w', Below w2.heap.size w2 w' → Calls Tryd.prog 17 #[v1, v2] w' fun e w'' => e = .returned (.bool (decide (A.take (A ++ R).length = A ++ R))) ∧ Below w'.heap.size w' w'') := fun w' h => within_any v1 A v2 (A ++ R) w' ((l1.below b2).below h) (l2.below h) k1 f1
        have B2 : Hid (Below w.heap.size w w2) := b1.trans (b2.mono b1.size)
        obtain ⟨o1, c1, rfl⟩ := l1.form
        obtain ⟨o2, c2, rfl⟩ := l2.form
        clear l1 l2 b1 b2 f1 f2 y1
        rw [hlen] at kW1 kW2 ⊢
        rw [hlen] at y2 k2
        clear hlen
        go_wp2_with fail
        refine kW1.mono ?_
        rintro e w3 ⟨rfl, b3⟩
        have hk := kW2.out w3 b3
        have B3 : Hid (Below w.heap.size w w3) := B2.out.trans (b3.mono B2.out.size)
        clear kW1 kW2 b3
        by_cases h0 : R = []
        · have z : R.length = 0 := by rw [h0]; rfl
          rw [z, Nat.add_zero] at *
          clear hk y2 z h0
          go_wp2_with fail
          refine (pawake_any _).mono ?_
          rintro e w5 ⟨rfl, b5⟩
          have B5 : Hid (Below w.heap.size w w5) := B3.out.trans (b5.mono B3.out.size)
          clear b5
          go_wp2
          go_ret
          exact ⟨rfl, B5.out⟩
        · have z : ¬ ((A.length + R.length : Nat) : Int) = (A.length : Nat) := by have := List.length_pos_iff.2 h0; omega
          have z2 : ((A.length : Nat) : Int) ≤ (A.length + R.length : Nat) := by omega
          rw [y2 h0] at hk
          clear y2 h0
          generalize A.length + R.length = nb at *
          generalize A.length = na at *
          go_wp2_with fail
          refine hk.mono ?_
          rintro e w4 ⟨rfl, b4⟩
          have B4 : Hid (Below w.heap.size w w4) := B3.out.trans (b4.mono B3.out.size)
          clear hk b4 B3
          go_wp2_with fail
          refine (pawake_any _).mono ?_
          rintro e w5 ⟨rfl, b5⟩
          have B5 : Hid (Below w.heap.size w w5) := B4.out.trans (b5.mono B4.out.size)
          clear b5
          go_wp2
          go_ret
          exact ⟨rfl, B5.out⟩
      · have hq' : (s.toList == [47]) = false := beq_eq_false_iff_ne.2 hq
        have HT : Hid (T = s ++ (⟨#[47]⟩ : ByteArray) ++ n) := hT
        clear hq hT
        go_enter Tryd.func8, Tryd.ntmps8
        go_wp2_with fail
        refine (h1 _).mono ?_
        rintro e w1 ⟨v1, rfl, l1, b1, f1⟩
        clear h1
        go_wp2_with fail
        rw [← HT.out]
        refine (h2 _).mono ?_
        rintro e w2 ⟨v2, rfl, l2, b2, f2⟩
        clear h2 HT
        have kW1 := within_any v2 (A ++ R) v1 A w2 l2 (l1.below b2) k2 f2
        rw [y1] at kW1
        have kW2 : Hid (∀ w', Below w2.heap.size w2 w' → Calls Tryd.prog 17 #[v1, v2] w' fun e w'' => e = .returned (.bool (decide (A.take (A ++ R).length = A ++ R))) ∧ Below w'.heap.size w' w'') := fun w' h => within_any v1 A v2 (A ++ R) w' ((l1.below b2).below h) (l2.below h) k1 f1
        have B2 : Hid (Below w.heap.size w w2) := b1.trans (b2.mono b1.size)
        obtain ⟨o1, c1, rfl⟩ := l1.form
        obtain ⟨o2, c2, rfl⟩ := l2.form
        clear l1 l2 b1 b2 f1 f2 y1
        rw [hlen] at kW1 kW2 ⊢
        rw [hlen] at y2 k2
        clear hlen
        go_wp2_with fail
        refine kW1.mono ?_
        rintro e w3 ⟨rfl, b3⟩
        have hk := kW2.out w3 b3
        have B3 : Hid (Below w.heap.size w w3) := B2.out.trans (b3.mono B2.out.size)
        clear kW1 kW2 b3
        by_cases h0 : R = []
        · have z : R.length = 0 := by rw [h0]; rfl
          rw [z, Nat.add_zero] at *
          clear hk y2 z h0
          go_wp2_with fail
          refine (pawake_any _).mono ?_
          rintro e w5 ⟨rfl, b5⟩
          have B5 : Hid (Below w.heap.size w w5) := B3.out.trans (b5.mono B3.out.size)
          clear b5
          go_wp2
          go_ret
          exact ⟨rfl, B5.out⟩
        · have z : ¬ ((A.length + R.length : Nat) : Int) = (A.length : Nat) := by have := List.length_pos_iff.2 h0; omega
          have z2 : ((A.length : Nat) : Int) ≤ (A.length + R.length : Nat) := by omega
          rw [y2 h0] at hk
          clear y2 h0
          generalize A.length + R.length = nb at *
          generalize A.length = na at *
          go_wp2_with fail
          refine hk.mono ?_
          rintro e w4 ⟨rfl, b4⟩
          have B4 : Hid (Below w.heap.size w w4) := B3.out.trans (b4.mono B3.out.size)
          clear hk b4 B3
          go_wp2_with fail
          refine (pawake_any _).mono ?_
          rintro e w5 ⟨rfl, b5⟩
          have B5 : Hid (Below w.heap.size w w5) := B4.out.trans (b5.mono B4.out.size)
          clear b5
          go_wp2
          go_ret
          exact ⟨rfl, B5.out⟩
    · clear HR k1 k2
      rcases hT with ⟨hq, hT⟩ | ⟨hq, hT⟩
      · have hq' : (s.toList == [47]) = true := beq_iff_eq.2 hq
        have HT : Hid (T = (⟨#[47]⟩ : ByteArray) ++ n) := hT
        clear hq hT
        go_enter Tryd.func8, Tryd.ntmps8
        go_wp2_with fail
        refine (h1 _).mono ?_
        rintro e w1 ⟨v1, rfl, l1, b1, f1⟩
        clear h1
        go_wp2_with fail
        rw [← HT.out]
        refine (h2 _).mono ?_
        rintro e w2 ⟨v2, rfl, l2, b2, f2⟩
        clear h2 HT
        have B2 : Hid (Below w.heap.size w w2) := b1.trans (b2.mono b1.size)
        clear l1 l2 b1 b2 f1 f2
        go_wp2_with fail
        refine (pawake_any _).mono ?_
        rintro e w3 ⟨rfl, b3⟩
        have B3 : Hid (Below w.heap.size w w3) := B2.out.trans (b3.mono B2.out.size)
        clear b3
        go_wp2
        go_ret
        exact ⟨rfl, B3.out⟩
      · have hq' : (s.toList == [47]) = false := beq_eq_false_iff_ne.2 hq
        have HT : Hid (T = s ++ (⟨#[47]⟩ : ByteArray) ++ n) := hT
        clear hq hT
        go_enter Tryd.func8, Tryd.ntmps8
        go_wp2_with fail
        refine (h1 _).mono ?_
        rintro e w1 ⟨v1, rfl, l1, b1, f1⟩
        clear h1
        go_wp2_with fail
        rw [← HT.out]
        refine (h2 _).mono ?_
        rintro e w2 ⟨v2, rfl, l2, b2, f2⟩
        clear h2 HT
        have B2 : Hid (Below w.heap.size w w2) := b1.trans (b2.mono b1.size)
        clear l1 l2 b1 b2 f1 f2
        go_wp2_with fail
        refine (pawake_any _).mono ?_
        rintro e w3 ⟨rfl, b3⟩
        have B3 : Hid (Below w.heap.size w w3) := B2.out.trans (b3.mono B2.out.size)
        clear b3
        go_wp2
        go_ret
        exact ⟨rfl, B3.out⟩
  · clear HR k1 k2
    rcases hT with ⟨hq, hT⟩ | ⟨hq, hT⟩
    · have hq' : (s.toList == [47]) = true := beq_iff_eq.2 hq
      have HT : Hid (T = (⟨#[47]⟩ : ByteArray) ++ n) := hT
      clear hq hT
      go_enter Tryd.func8, Tryd.ntmps8
      go_wp2_with fail
      refine (h1 _).mono ?_
      rintro e w1 ⟨v1, rfl, l1, b1, f1⟩
      clear h1
      go_wp2_with fail
      rw [← HT.out]
      refine (h2 _).mono ?_
      rintro e w2 ⟨v2, rfl, l2, b2, f2⟩
      clear h2 HT
      have B2 : Hid (Below w.heap.size w w2) := b1.trans (b2.mono b1.size)
      clear l1 l2 b1 b2 f1 f2
      go_wp2_with fail
      refine (pawake_any _).mono ?_
      rintro e w3 ⟨rfl, b3⟩
      have B3 : Hid (Below w.heap.size w w3) := B2.out.trans (b3.mono B2.out.size)
      clear b3
      go_wp2
      go_ret
      exact ⟨rfl, B3.out⟩
    · have hq' : (s.toList == [47]) = false := beq_eq_false_iff_ne.2 hq
      have HT : Hid (T = s ++ (⟨#[47]⟩ : ByteArray) ++ n) := hT
      clear hq hT
      go_enter Tryd.func8, Tryd.ntmps8
      go_wp2_with fail
      refine (h1 _).mono ?_
      rintro e w1 ⟨v1, rfl, l1, b1, f1⟩
      clear h1
      go_wp2_with fail
      rw [← HT.out]
      refine (h2 _).mono ?_
      rintro e w2 ⟨v2, rfl, l2, b2, f2⟩
      clear h2 HT
      have B2 : Hid (Below w.heap.size w w2) := b1.trans (b2.mono b1.size)
      clear l1 l2 b1 b2 f1 f2
      go_wp2_with fail
      refine (pawake_any _).mono ?_
      rintro e w3 ⟨rfl, b3⟩
      have B3 : Hid (Below w.heap.size w w3) := B2.out.trans (b3.mono B2.out.size)
      clear b3
      go_wp2
      go_ret
      exact ⟨rfl, B3.out⟩
end Go.Proofs.YtjpgmbebdkiofaaDoor
