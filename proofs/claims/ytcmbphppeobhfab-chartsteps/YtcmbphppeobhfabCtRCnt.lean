/- The document's Rising and Blocks. -/
import Derived.Test.YtcmbphppeobhfabCtCnt
import Derived.Test.YtcmbphppeobhfabCtBoth
namespace Go.Proofs.Ytcmbphppeobhfab
set_option maxRecDepth 20000
open Go.RowKit

open Classical in
set_option maxHeartbeats 4000000 in
theorem rrising_any (w : World) (v : Value) (l : List Int) (h : List1 (Value.int .i64) w v l) (hl : l.length ≤ 1000000) :
    Calls Try.prog 8 #[v] w fun e w' => e = .returned (.bool (decide (riseP l))) ∧ Below w.heap.size w w' := by
  obtain ⟨oa, ca, rfl⟩ := h.form
  have H1 : Hid (List1 (Value.int .i64) w (.slice oa l.length ca) l) := h
  clear h
  obtain ⟨len, hle⟩ : ∃ len, len = l.length := ⟨_, rfl⟩
  have HE : Hid (len = l.length) := hle
  rw [← hle] at hl ⊢
  clear hle
  obtain ⟨P, hP⟩ : ∃ P, P = decide (riseP l) := ⟨_, rfl⟩
  have HP : Hid (P = decide (riseP l)) := hP
  rw [← hP]
  clear hP
  go_enter Try.func8, Try.ntmps8
  go_wp2_with fail
  go_loopw [3] (fun iv wr => ∃ j : Nat, j ≤ len ∧ iv = .int .i64 (j : Int) ∧ riseP (l.take j) ∧ Below w.heap.size w wr) (fun iv _ => len - (intOf iv).toNat)
  case atStart => exact ⟨0, Nat.zero_le _, rfl, ⟨List.Pairwise.nil, by simp⟩, Below.refl _ _⟩
  case round =>
    obtain ⟨j, hj, rfl, hr, hb⟩ := hrel
    have HB : Hid (Below w.heap.size w wr) := hb
    by_cases hlt : j < len
    · have j1 : (j : Int) < (len : Nat) := by omega
      have hlt' : j < l.length := by rw [← HE.out]; exact hlt
      obtain ⟨g, o, rfl, hg, hc0⟩ := H1.out.at (i := j) hlt'
      have hc := (cell_kept_1 (hb.block g hg) _).trans hc0
      have ht := take_snoc hlt'
      have hlo := lastZ_low hr
      have HY : Hid (lastZ (l.take j) < l[j]'hlt' → l[j]'hlt' < 12668 → riseP (l.take (j + 1))) := fun h1 h2 => by rw [ht]; exact rise_step hr h1 h2
      have HN : Hid (l[j]'hlt' ≤ lastZ (l.take j) ∨ 12668 ≤ l[j]'hlt' → P = false) := fun h => by rw [HP.out]; exact decide_eq_false (rise_stop hlt' h)
      clear ht hr hc0
      by_cases h0 : j = 0
      · subst h0
        have e0 : lastZ (l.take 0) = -1 := rfl
        rw [e0] at HY HN hlo
        generalize l[0]'hlt' = x at *
        rw [Nat.add_zero] at hc
        have z1 : (0 : Int) < (len : Nat) := by omega
        clear hb e0 hj hlt hlt' j1
        by_cases h1 : x < 0
        · have hp := HN.out (.inl (by omega))
          subst hp
          have d1 : decide (x < 0) = true := decide_eq_true h1
          clear h1 hlo HY HN
          go_wp2_with fail
          go_quiet (fail)
          have hb2 := ct_drewN HB.out nq
          clear HB
          generalize wr.drewN nq = wq at *
          have HB : Hid (Below w.heap.size w wq) := hb2
          clear hb2
          go_wp2
          go_ret
          exact ⟨rfl, HB.out⟩
        by_cases h2 : 12667 < x
        · have hp := HN.out (.inr (by omega))
          subst hp
          have d1 : decide (x < 0) = false := decide_eq_false h1
          have d2 : decide (12667 < x) = true := decide_eq_true h2
          clear h1 h2 hlo HY HN
          go_wp2_with fail
          go_quiet (fail)
          have hb2 := ct_drewN HB.out nq
          clear HB
          generalize wr.drewN nq = wq at *
          have HB : Hid (Below w.heap.size w wq) := hb2
          clear hb2
          go_wp2
          go_ret
          exact ⟨rfl, HB.out⟩
        · have HR : Hid (riseP (l.take (0 + 1))) := HY.out (by omega) (by omega)
          have d1 : decide (x < 0) = false := decide_eq_false h1
          have d2 : decide (12667 < x) = false := decide_eq_false h2
          clear h1 h2 hlo HY HN
          go_wp2_with fail
          go_quiet (fail)
          have hb2 := ct_drewN HB.out nq
          clear HB
          generalize wr.drewN nq = wq at *
          have HB : Hid (Below w.heap.size w wq) := hb2
          clear hb2
          go_wp2
          go_roundw
          case rel => exact ⟨0 + 1, by omega, by go_num, HR.out, HB.out⟩
          case measure => simp [intOf]; omega
      · obtain ⟨k, hk⟩ : ∃ k, j = k + 1 := ⟨j - 1, by omega⟩
        have hlk : k < l.length := by omega
        obtain ⟨g', o', eg, _, hd0⟩ := H1.out.at (i := k) hlk
        obtain ⟨rfl, rfl⟩ : g = g' ∧ o = o' := by simp at eg; exact eg
        have hd := (cell_kept_1 (hb.block g hg) _).trans hd0
        have e0 : lastZ (l.take j) = l[k]'hlk := by rw [hk, take_snoc hlk]; exact lastZ_snoc _ _
        rw [e0] at HY HN hlo
        generalize l[j]'hlt' = x at *
        generalize l[k]'hlk = y at *
        have jk : (j : Int) - 1 = (k : Int) := by omega
        have jp : (0 : Int) < j := by omega
        have k1 : (k : Int) < (len : Nat) := by omega
        have HK : Hid (j = k + 1) := hk
        clear hb e0 hd0 eg hk hlk h0
        by_cases h1 : x < 0
        · have hp := HN.out (.inl (by omega))
          subst hp
          have d1 : decide (x < 0) = true := decide_eq_true h1
          clear h1 hlo HY HN
          go_wp2_with fail
          go_quiet (fail)
          have hb2 := ct_drewN HB.out nq
          clear HB
          generalize wr.drewN nq = wq at *
          have HB : Hid (Below w.heap.size w wq) := hb2
          clear hb2
          go_wp2
          go_ret
          exact ⟨rfl, HB.out⟩
        by_cases h2 : 12667 < x
        · have hp := HN.out (.inr (by omega))
          subst hp
          have d1 : decide (x < 0) = false := decide_eq_false h1
          have d2 : decide (12667 < x) = true := decide_eq_true h2
          clear h1 h2 hlo HY HN
          go_wp2_with fail
          go_quiet (fail)
          have hb2 := ct_drewN HB.out nq
          clear HB
          generalize wr.drewN nq = wq at *
          have HB : Hid (Below w.heap.size w wq) := hb2
          clear hb2
          go_wp2
          go_ret
          exact ⟨rfl, HB.out⟩
        by_cases h3 : x ≤ y
        · have hp := HN.out (.inl h3)
          subst hp
          have d1 : decide (x < 0) = false := decide_eq_false h1
          have d2 : decide (12667 < x) = false := decide_eq_false h2
          have d3 : decide (0 < j) = true := decide_eq_true (by omega)
          have d4 : decide (x ≤ y) = true := decide_eq_true h3
          clear h1 h2 h3 hlo HY HN jp
          go_wp2_with fail
          go_quiet (fail)
          have hb2 := ct_drewN HB.out nq
          clear HB
          generalize wr.drewN nq = wq at *
          have HB : Hid (Below w.heap.size w wq) := hb2
          clear hb2
          go_wp2
          go_ret
          exact ⟨rfl, HB.out⟩
        · have HR : Hid (riseP (l.take (j + 1))) := HY.out (by omega) (by omega)
          have d1 : decide (x < 0) = false := decide_eq_false h1
          have d2 : decide (12667 < x) = false := decide_eq_false h2
          have d3 : decide (0 < j) = true := decide_eq_true (by omega)
          have d4 : decide (x ≤ y) = false := decide_eq_false h3
          clear h1 h2 h3 hlo HY HN jp
          go_wp2_with fail
          go_quiet (fail)
          have hb2 := ct_drewN HB.out nq
          clear HB
          generalize wr.drewN nq = wq at *
          have HB : Hid (Below w.heap.size w wq) := hb2
          clear hb2
          go_wp2
          go_roundw
          case rel => exact ⟨j + 1, by omega, by go_num, HR.out, HB.out⟩
          case measure => simp [intOf]; omega
    · obtain rfl : j = len := by omega
      have j1 : ¬ (j : Int) < j := by omega
      have ht : l.take j = l := by rw [HE.out]; exact List.take_length
      rw [ht] at hr
      have hp : P = true := by rw [HP.out]; exact decide_eq_true hr
      subst hp
      clear hr ht hb
      go_wp2
      go_ret
      exact ⟨rfl, HB.out⟩
end Go.Proofs.Ytcmbphppeobhfab
