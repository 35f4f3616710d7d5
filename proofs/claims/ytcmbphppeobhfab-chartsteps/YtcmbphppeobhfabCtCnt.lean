/- chart's rising, brought, count, Blocks. -/
import Derived.Test.YtcmbphppeobhfabCtCntM
import Derived.Test.YtcmbphppeobhfabCtInts
namespace Go.Proofs.Ytcmbphppeobhfab
set_option maxRecDepth 20000
open Go.RowKit

set_option maxHeartbeats 1000000 in
theorem brought_any (a x : Int) (hx : 0 ≤ x ∧ x < 12668) (w : World) :
    Calls Try.prog 39 #[.int .i64 a, .int .i64 x] w fun e w' => e = .returned (.int .i64 ((broN a x : Nat) : Int)) ∧ w' = w := by
  have hp := place_all x w
  rw [plL_of hx] at hp
  generalize plA x = pa at *
  generalize plB x = pb at *
  generalize plE x = pe at *
  have m0 : 0 ≤ (x - 12) % 112 := by omega
  have m1 : (x - 12) % 112 < 112 := by omega
  by_cases h1 : x < 12
  · rw [if_pos h1] at hp
    have e : broN a x = 1 := by unfold broN; rw [if_neg (by omega), if_neg (by omega)]
    rw [e]
    go_enter Try.func39, Try.ntmps39
    go_wp2_with fail
    refine hp.mono ?_
    rintro e w1 ⟨rfl, rfl⟩
    go_wp2
    go_ret
    exact ⟨rfl, rfl⟩
  rw [if_neg h1] at hp
  by_cases h3 : a < x - (x - 12) % 112
  · by_cases h2 : x < 124
    · rw [if_pos h2] at hp
      have e : broN a x = 2 := by unfold broN; rw [if_neg (by omega), if_pos ⟨by omega, h3⟩]
      rw [e]
      go_enter Try.func39, Try.ntmps39
      go_wp2_with fail
      refine hp.mono ?_
      rintro e w1 ⟨rfl, rfl⟩
      go_wp2
      go_ret
      exact ⟨rfl, rfl⟩
    · rw [if_neg h2] at hp
      by_cases h4 : a < 124
      · have e : broN a x = 3 := by unfold broN; rw [if_pos (by omega), if_pos ⟨by omega, h3⟩]
        rw [e]
        go_enter Try.func39, Try.ntmps39
        go_wp2_with fail
        refine hp.mono ?_
        rintro e w1 ⟨rfl, rfl⟩
        go_wp2
        go_ret
        exact ⟨rfl, rfl⟩
      · have e : broN a x = 2 := by unfold broN; rw [if_neg (by omega), if_pos ⟨by omega, h3⟩]
        rw [e]
        go_enter Try.func39, Try.ntmps39
        go_wp2_with fail
        refine hp.mono ?_
        rintro e w1 ⟨rfl, rfl⟩
        go_wp2
        go_ret
        exact ⟨rfl, rfl⟩
  · by_cases h2 : x < 124
    · rw [if_pos h2] at hp
      have e : broN a x = 1 := by unfold broN; rw [if_neg (by omega), if_neg (by omega)]
      rw [e]
      go_enter Try.func39, Try.ntmps39
      go_wp2_with fail
      refine hp.mono ?_
      rintro e w1 ⟨rfl, rfl⟩
      go_wp2
      go_ret
      exact ⟨rfl, rfl⟩
    · rw [if_neg h2] at hp
      by_cases h4 : a < 124
      · exfalso; omega
      · have e : broN a x = 1 := by unfold broN; rw [if_neg (by omega), if_neg (by omega)]
        rw [e]
        go_enter Try.func39, Try.ntmps39
        go_wp2_with fail
        refine hp.mono ?_
        rintro e w1 ⟨rfl, rfl⟩
        go_wp2
        go_ret
        exact ⟨rfl, rfl⟩
set_option maxHeartbeats 1000000 in
theorem count_any (w : World) (v : Value) (l : List Int) (h : List1 (Value.int .i64) w v l) (hr : riseP l) (hl : l.length ≤ 1000000) :
    Calls Try.prog 26 #[v] w fun e w' => e = .returned (.int .i64 ((cntN l : Nat) : Int)) ∧ w' = w := by
  obtain ⟨oa, ca, rfl⟩ := h.form
  have H1 : Hid (List1 (Value.int .i64) w (.slice oa l.length ca) l ∧ riseP l) := ⟨h, hr⟩
  clear h hr
  obtain ⟨len, hle⟩ : ∃ len, len = l.length := ⟨_, rfl⟩
  have HE : Hid (len = l.length) := hle
  rw [← hle] at hl ⊢
  clear hle
  go_enter Try.func26, Try.ntmps26
  go_wp2_with fail
  go_loopw [3, 4, 9] (fun bv lv iv wr => ∃ j : Nat, j ≤ len ∧ iv = .int .i64 (j : Int) ∧ bv = .int .i64 ((cntN (l.take j) : Nat) : Int) ∧ lv = .int .i64 (lastZ (l.take j)) ∧ wr = w) (fun _ _ iv _ => len - (intOf iv).toNat)
  case atStart => exact ⟨0, Nat.zero_le _, rfl, rfl, rfl, rfl⟩
  case round =>
    obtain ⟨j, hj, rfl, rfl, rfl, rfl⟩ := hrel
    by_cases hlt : j < len
    · have j1 : (j : Int) < (len : Nat) := by omega
      have hlt' : j < l.length := by rw [← HE.out]; exact hlt
      obtain ⟨g, o, rfl, hg, hc⟩ := H1.out.1.at (i := j) hlt'
      have ht := take_snoc hlt'
      have hr := rise_take H1.out.2 (j + 1)
      rw [ht] at hr
      have hx := (rise_lt hr).2
      have hcl := cntN_le (l.take j)
      have htl : (l.take j).length ≤ j := by rw [List.length_take]; omega
      have HS : Hid (cntN (l.take (j + 1)) = cntN (l.take j) + broN (lastZ (l.take j)) (l[j]'hlt') ∧ lastZ (l.take (j + 1)) = l[j]'hlt') := by rw [ht]; exact ⟨cntN_snoc _ _, lastZ_snoc _ _⟩
      have hbr := brought_any (lastZ (l.take j)) (l[j]'hlt') hx
      have hb3 := broN_le (lastZ (l.take j)) (l[j]'hlt')
      have hn : cntN (l.take j) ≤ 3000000 := by omega
      clear ht hr hcl htl
      generalize l[j]'hlt' = x at *
      generalize lastZ (l.take j) = a at *
      generalize cntN (l.take j) = n at *
      generalize broN a x = d at *
      go_wp2_with fail
      refine (hbr _).mono ?_
      rintro e w1 ⟨rfl, rfl⟩
      go_wp2
      go_roundw
      case rel => exact ⟨j + 1, by omega, by go_num, by rw [HS.out.1]; go_num, by rw [HS.out.2], trivial⟩
      case measure => simp [intOf]; omega
    · obtain rfl : j = len := by omega
      have j1 : ¬ (j : Int) < j := by omega
      have ht : l.take j = l := by rw [HE.out]; exact List.take_length
      rw [ht]
      obtain ⟨n, hn⟩ : ∃ n, n = cntN l := ⟨_, rfl⟩
      have HN : Hid (n = cntN l) := hn
      rw [← hn]
      clear hn
      generalize lastZ l = a at *
      go_wp2
      go_ret
      exact ⟨by rw [← HN.out]; rfl, rfl⟩
open Classical in
set_option maxHeartbeats 1000000 in
theorem rising_any (w : World) (v : Value) (l : List Int) (h : List1 (Value.int .i64) w v l) (hl : l.length ≤ 1000000) :
    Calls Try.prog 23 #[v] w fun e w' => e = .returned (.bool (decide (riseP l))) ∧ w' = w := by
  obtain ⟨oa, ca, rfl⟩ := h.form
  have H1 : Hid (List1 (Value.int .i64) w (.slice oa l.length ca) l) := h
  clear h
  obtain ⟨len, hle⟩ : ∃ len, len = l.length := ⟨_, rfl⟩
  have HE : Hid (len = l.length) := hle
  rw [← hle] at hl ⊢
  clear hle
  obtain ⟨P, hP⟩ : ∃ P, P = decide (riseP l) := ⟨_, rfl⟩
  have HP : Hid (P = decide (riseP l)) := hP
  rw [← hP]
  clear hP
  go_enter Try.func23, Try.ntmps23
  go_wp2_with fail
  go_loopw [3, 8] (fun lv iv wr => ∃ j : Nat, j ≤ len ∧ iv = .int .i64 (j : Int) ∧ lv = .int .i64 (lastZ (l.take j)) ∧ riseP (l.take j) ∧ wr = w) (fun _ iv _ => len - (intOf iv).toNat)
  case atStart => exact ⟨0, Nat.zero_le _, rfl, rfl, ⟨List.Pairwise.nil, by simp⟩, rfl⟩
  case round =>
    obtain ⟨j, hj, rfl, rfl, hr, rfl⟩ := hrel
    by_cases hlt : j < len
    · have j1 : (j : Int) < (len : Nat) := by omega
      have hlt' : j < l.length := by rw [← HE.out]; exact hlt
      obtain ⟨g, o, rfl, hg, hc⟩ := H1.out.at (i := j) hlt'
      have ht := take_snoc hlt'
      have HL : Hid (lastZ (l.take (j + 1)) = l[j]'hlt') := by rw [ht]; exact lastZ_snoc _ _
      have HY : Hid (lastZ (l.take j) < l[j]'hlt' → l[j]'hlt' < 12668 → riseP (l.take (j + 1))) := fun h1 h2 => by rw [ht]; exact rise_step hr h1 h2
      have HN : Hid (l[j]'hlt' ≤ lastZ (l.take j) ∨ 12668 ≤ l[j]'hlt' → P = false) := fun h => by rw [HP.out]; exact decide_eq_false (rise_stop hlt' h)
      clear ht hr
      generalize l[j]'hlt' = x at *
      generalize lastZ (l.take j) = a at *
      by_cases h1 : x ≤ a
      · have hp := HN.out (.inl h1)
        subst hp
        go_wp2
        go_ret
        exact ⟨rfl, rfl⟩
      by_cases h2 : 12668 ≤ x
      · have hp := HN.out (.inr h2)
        subst hp
        go_wp2
        go_ret
        exact ⟨rfl, rfl⟩
      · have HR : Hid (riseP (l.take (j + 1))) := HY.out (by omega) (by omega)
        go_wp2
        go_roundw
        case rel => exact ⟨j + 1, by omega, by go_num, by rw [HL.out], HR.out, trivial⟩
        case measure => simp [intOf]; omega
    · obtain rfl : j = len := by omega
      have j1 : ¬ (j : Int) < j := by omega
      have ht : l.take j = l := by rw [HE.out]; exact List.take_length
      rw [ht] at hr
      have hp : P = true := by rw [HP.out]; exact decide_eq_true hr
      subst hp
      clear hr ht
      generalize lastZ (l.take j) = a at *
      go_wp2
      go_ret
      exact ⟨rfl, rfl⟩
open Classical in
noncomputable def blkN (l : List Int) : Int := if riseP l then ((cntN l : Nat) : Int) else 0
open Classical in
noncomputable def blkE (l : List Int) : Int := if riseP l then 0 else 1
end Go.Proofs.Ytcmbphppeobhfab
