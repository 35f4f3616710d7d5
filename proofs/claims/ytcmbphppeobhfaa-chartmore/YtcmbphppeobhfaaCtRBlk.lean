/- The document's Blocks. -/
import Derived.Test.YtcmbphppeobhfaaCtRCnt
namespace Go.Proofs.Ytcmbphppeobhfaa
set_option maxRecDepth 20000
open Go.RowKit

theorem any_take {l : List Int} {j : Nat} (h : j < l.length) (f : Int → Bool) : (l.take (j + 1)).any f = ((l.take j).any f || f (l[j])) := by rw [take_snoc h, List.any_append]; simp
open Classical in
set_option maxHeartbeats 4000000 in
theorem rblocks_any (w : World) (v : Value) (l : List Int) (h : List1 (Value.int .i64) w v l) (hl : l.length ≤ 1000000) :
    Calls Try.prog 15 #[v] w fun e w' => e = .returned (.tuple #[.int .i64 (blkN l), .int .i64 (blkE l)]) ∧ Below w.heap.size w w' := by
  have hr := rrising_any w v l h hl
  unfold blkN blkE
  by_cases hp : riseP l
  · rw [if_pos hp, if_pos hp]
    rw [decide_eq_true hp] at hr
    have hce := cnt_eq l hp
    rw [hce]
    obtain ⟨oa, ca, rfl⟩ := h.form
    have H1 : Hid (List1 (Value.int .i64) w (.slice oa l.length ca) l) := h
    clear h hp hce
    obtain ⟨len, hle⟩ : ∃ len, len = l.length := ⟨_, rfl⟩
    have HE : Hid (len = l.length) := hle
    rw [← hle] at hl hr ⊢
    clear hle
    go_enter Try.func15, Try.ntmps15
    go_wp2_with fail
    refine hr.mono ?_
    rintro e w1 ⟨rfl, hb1⟩
    have HL1 : Hid (∀ wr, Below w.heap.size w wr → ∀ i (h : i < l.length), ∃ g o, oa = some ⟨g, o, none⟩ ∧ wr.cell? ⟨g, o + i, none⟩ = some (.int .i64 (l[i]'h))) := fun wr hb i h => by
      obtain ⟨g, o, e, hg, hc⟩ := H1.out.at (i := i) h
      exact ⟨g, o, e, (cell_kept_1 (hb.block g hg) _).trans hc⟩
    have HB1 : Hid (Below w.heap.size w w1) := hb1
    clear hr hb1 H1
    go_wp2_with fail
    go_loopw [4, 5] (fun nv pv wr => ∃ q : Nat, q ≤ 114 ∧ pv = .int .i64 ((q : Int) - 2) ∧ nv = .int .i64 ((len + cntU (hasQ l) q : Nat) : Int) ∧ Below w.heap.size w wr) (fun _ pv _ => 114 - (intOf pv + 2).toNat)
    case atStart => exact ⟨0, Nat.zero_le _, rfl, rfl, HB1.out⟩
    case round =>
      clear HB1
      obtain ⟨q, hq, rfl, rfl, hb⟩ := hrel
      generalize wr = wo at *
      have HB : Hid (Below w.heap.size w wo) := hb
      clear hb
      have hcu := cntU_le (hasQ l) q
      have HCS : Hid (cntU (hasQ l) (q + 1) = cntU (hasQ l) q + (hasQ l q).toNat) := rfl
      obtain ⟨n, hn⟩ : ∃ n, n = len + cntU (hasQ l) q := ⟨_, rfl⟩
      have HN : Hid (n = len + cntU (hasQ l) q) := hn
      have hn2 : n ≤ 2000000 := by omega
      rw [← hn]
      clear hn hcu
      obtain ⟨p, hp⟩ : ∃ p : Int, p = (q : Int) - 2 := ⟨_, rfl⟩
      have HP : Hid (p = (q : Int) - 2) := hp
      rw [← hp]
      have hp2 : -2 ≤ p := by omega
      have hp3 : p ≤ 112 := by omega
      clear hp
      by_cases hlt : q < 114
      · have p1 : p < 112 := by have := HP.out; omega
        go_wp2_with fail
        go_loopw [6, 7] (fun sv iv wr => ∃ i : Nat, i ≤ len ∧ iv = .int .i64 (i : Int) ∧ sv = .bool ((l.take i).any (inQ q)) ∧ Below w.heap.size w wr) (fun _ iv _ => len - (intOf iv).toNat)
        case atStart => exact ⟨0, Nat.zero_le _, rfl, rfl, HB.out⟩
        case round =>
          clear HB
          obtain ⟨i, hi, rfl, rfl, hb⟩ := hrel
          have HB : Hid (Below w.heap.size w wr) := hb
          clear hb
          by_cases hil : i < len
          · have i1 : (i : Int) < (len : Nat) := by omega
            have hil' : i < l.length := by rw [← HE.out]; exact hil
            obtain ⟨g, o, rfl, hc⟩ := HL1.out wr HB.out i hil'
            have hpl := rplace_all (l[i]'hil')
            have HA : Hid ((l.take (i + 1)).any (inQ q) = ((l.take i).any (inQ q) || inQ q (l[i]'hil'))) := any_take hil' _
            have HQ : Hid (inQ q (l[i]'hil') = ((q == 0 && plL (l[i]'hil') == 1) || (q == 1 && plL (l[i]'hil') == 2) || (decide (2 ≤ q) && plL (l[i]'hil') == 2 && plA (l[i]'hil') == (q : Int) - 2))) := rfl
            generalize (l.take i).any (inQ q) = S at *
            generalize inQ q (l[i]'hil') = b at *
            generalize plL (l[i]'hil') = L at *
            generalize plA (l[i]'hil') = A at *
            generalize plB (l[i]'hil') = B at *
            generalize plE (l[i]'hil') = E at *
            generalize l[i]'hil' = x at *
            rcases (show q = 0 ∨ q = 1 ∨ 2 ≤ q by omega) with h0 | h0 | h0
            · have ep : p = -2 := by have := HP.out; omega
              have eb : b = (L == 1) := by rw [HQ.out]; subst h0; simp
              subst ep
              by_cases hL : L = 1
              · have HV : Hid ((l.take (i + 1)).any (inQ q) = true) := (show (l.take (i + 1)).any (inQ q) = true by rw [HA.out, eb, hL]; simp)
                clear eb
                go_wp2_with fail
                refine (hpl _).mono ?_
                rintro e w2 ⟨rfl, rfl⟩
                go_wp2
                go_roundw
                case rel => exact ⟨i + 1, by omega, by go_num, by rw [HV.out], HB.out⟩
                case measure => simp [intOf]; omega
              · have HV : Hid ((l.take (i + 1)).any (inQ q) = S) := (show (l.take (i + 1)).any (inQ q) = S by rw [HA.out, eb, beq_false_of_ne hL]; simp)
                have dL := beq_false_of_ne hL
                clear eb
                go_wp2_with fail
                refine (hpl _).mono ?_
                rintro e w2 ⟨rfl, rfl⟩
                go_wp2
                go_roundw
                case rel => exact ⟨i + 1, by omega, by go_num, by rw [HV.out], HB.out⟩
                case measure => simp [intOf]; omega
            · have ep : p = -1 := by have := HP.out; omega
              have eb : b = (L == 2) := by rw [HQ.out]; subst h0; simp
              subst ep
              by_cases hL : L = 2
              · have HV : Hid ((l.take (i + 1)).any (inQ q) = true) := (show (l.take (i + 1)).any (inQ q) = true by rw [HA.out, eb, hL]; simp)
                clear eb
                go_wp2_with fail
                refine (hpl _).mono ?_
                rintro e w2 ⟨rfl, rfl⟩
                go_wp2
                go_roundw
                case rel => exact ⟨i + 1, by omega, by go_num, by rw [HV.out], HB.out⟩
                case measure => simp [intOf]; omega
              · have HV : Hid ((l.take (i + 1)).any (inQ q) = S) := (show (l.take (i + 1)).any (inQ q) = S by rw [HA.out, eb, beq_false_of_ne hL]; simp)
                have dL := beq_false_of_ne hL
                clear eb
                go_wp2_with fail
                refine (hpl _).mono ?_
                rintro e w2 ⟨rfl, rfl⟩
                go_wp2
                go_roundw
                case rel => exact ⟨i + 1, by omega, by go_num, by rw [HV.out], HB.out⟩
                case measure => simp [intOf]; omega
            · have q0 : ((q == 0) : Bool) = false := beq_false_of_ne (by omega)
              have q1 : ((q == 1) : Bool) = false := beq_false_of_ne (by omega)
              have eb : b = (L == 2 && A == p) := by rw [HQ.out, q0, q1, decide_eq_true h0, HP.out]; simp
              have z1 : (p == -2) = false := beq_false_of_ne (by have := HP.out; omega)
              have z2 : (p == -1) = false := beq_false_of_ne (by have := HP.out; omega)
              have z3 : decide (0 ≤ p) = true := decide_eq_true (by have := HP.out; omega)
              by_cases hL : L = 2
              · by_cases hA : A = p
                · have HV : Hid ((l.take (i + 1)).any (inQ q) = true) := (show (l.take (i + 1)).any (inQ q) = true by rw [HA.out, eb, hL, hA]; simp)
                  clear eb
                  go_wp2_with fail
                  refine (hpl _).mono ?_
                  rintro e w2 ⟨rfl, rfl⟩
                  go_wp2
                  go_roundw
                  case rel => exact ⟨i + 1, by omega, by go_num, by rw [HV.out], HB.out⟩
                  case measure => simp [intOf]; omega
                · have HV : Hid ((l.take (i + 1)).any (inQ q) = S) := (show (l.take (i + 1)).any (inQ q) = S by rw [HA.out, eb, beq_false_of_ne hA]; simp)
                  have dA := beq_false_of_ne hA
                  clear eb
                  go_wp2_with fail
                  refine (hpl _).mono ?_
                  rintro e w2 ⟨rfl, rfl⟩
                  go_wp2
                  go_roundw
                  case rel => exact ⟨i + 1, by omega, by go_num, by rw [HV.out], HB.out⟩
                  case measure => simp [intOf]; omega
              · have HV : Hid ((l.take (i + 1)).any (inQ q) = S) := (show (l.take (i + 1)).any (inQ q) = S by rw [HA.out, eb, beq_false_of_ne hL]; simp)
                have dL := beq_false_of_ne hL
                clear eb
                go_wp2_with fail
                refine (hpl _).mono ?_
                rintro e w2 ⟨rfl, rfl⟩
                go_wp2
                go_roundw
                case rel => exact ⟨i + 1, by omega, by go_num, by rw [HV.out], HB.out⟩
                case measure => simp [intOf]; omega
          · obtain rfl : i = len := by omega
            have i1 : ¬ (i : Int) < i := by omega
            have ht : l.take i = l := by rw [HE.out]; exact List.take_length
            rw [ht, show l.any (inQ q) = hasQ l q from rfl]
            clear ht
            generalize hasQ l q = S at *
            cases S
            · go_wp2
              go_roundw
              case rel => exact ⟨q + 1, by omega, by have := HP.out; go_num, by rw [HCS.out]; have := HN.out; simp; omega, HB.out⟩
              case measure => simp [intOf]; have := HP.out; omega
            · go_wp2
              go_roundw
              case rel => exact ⟨q + 1, by omega, by have := HP.out; go_num, by rw [HCS.out]; have := HN.out; simp; omega, HB.out⟩
              case measure => simp [intOf]; have := HP.out; omega
      · have p1 : ¬ p < 112 := by have := HP.out; omega
        have HR : Hid (n = nB l) := (show n = nB l by have h1 := HN.out; have h2 := HE.out; rw [show q = 114 by omega] at h1; unfold nB; omega)
        go_wp2
        go_ret2
        exact ⟨by rw [← HR.out]; rfl, HB.out⟩
  · rw [if_neg hp, if_neg hp]
    rw [decide_eq_false hp] at hr
    obtain ⟨oa, ca, rfl⟩ := h.form
    clear h hp
    go_enter Try.func15, Try.ntmps15
    go_wp2_with fail
    refine hr.mono ?_
    rintro e w1 ⟨rfl, hb1⟩
    go_wp2
    go_ret2
    exact ⟨rfl, hb1⟩
end Go.Proofs.Ytcmbphppeobhfaa
