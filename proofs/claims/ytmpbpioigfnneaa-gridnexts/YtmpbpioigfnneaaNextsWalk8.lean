/- The laws GridNexts and GridTakes, called with any numbers and any list of them, return true, and change nothing that was there. -/
import Derived.Test.YtmpbpioigfnneaaHasWalk8
namespace Go.Proofs.Ytmpbpioigfnneaa
set_option maxRecDepth 20000
open Go.RowKit

theorem freeTo_first (u : Nat → Bool) (n : Nat) (f : Int) (i : Nat) (h : FirstU u n f.toNat i) : freeTo u f 1 n = [i] := by
  obtain ⟨h1, h2, h3, h4⟩ := h
  have e0 : freeTo u f 1 f.toNat = [] := by
    by_cases h0 : 0 ≤ f
    · exact freeTo_below u f 1 f.toNat (by omega)
    · rw [show f.toNat = 0 by omega]; rfl
  have e1 := freeTo_hit u f 1 f.toNat i h1 (fun j a b => h4 j a b) h3 (by omega) (by rw [e0]; decide)
  have e2 := freeTo_full u f 1 (i + 1) (by rw [e1, e0]; exact Int.le_refl _) (n - (i + 1))
  rw [show i + 1 + (n - (i + 1)) = n by omega] at e2
  rw [e2, e1, e0]
  rfl
theorem freeTo_none (u : Nat → Bool) (n : Nat) (f k : Int) (h : NoneU u n f.toNat) : freeTo u f k n = [] := by
  have e0 : freeTo u f k f.toNat = [] := by
    by_cases h0 : 0 ≤ f
    · exact freeTo_below u f k f.toNat (by omega)
    · rw [show f.toNat = 0 by omega]; rfl
  rcases Nat.lt_or_ge n f.toNat with h1 | h1
  · exact freeTo_below u f k n (by omega)
  · have := freeTo_skip u f k f.toNat (n - f.toNat) fun j a b => h j a (by omega)
    rwa [show f.toNat + (n - f.toNat) = n by omega, e0] at this
set_option maxHeartbeats 4000000 in
theorem walk_gridNexts (n : Int) (v : Value) (l : List Int) (full : Bool) (from_ : Int) (w : World) (hv : List1 (Value.int .i64) w v l) (hw : (Lit.int .i64 from_).wf = true) :
    Calls Try.prog 7 #[.int .i64 n, v, .bool full, .int .i64 from_] w fun e w' => e = .returned (.bool true) ∧ Below w.heap.size w w' := by
  have hfr := (wf_int hw).2
  clear hw
  by_cases hn : n < 0 ∨ 3584 < n
  · go_enter Try.func7, Try.ntmps7
    go_wp2_with fail
    refine (filled_bad n hn v _).mono ?_
    rintro e w1 ⟨rfl, rfl⟩
    have hq := eq_nil_none
    go_wp2_with fail
    refine (gawake_any _).mono ?_
    rintro e w3 ⟨rfl, hb3⟩
    go_wp2
    go_ret
    exact ⟨rfl, hb3⟩
  · obtain ⟨m, rfl⟩ : ∃ m : Nat, n = m := ⟨n.toNat, by omega⟩
    have hm : m ≤ 3584 := by omega
    have hf := filled_any m hm v l w hv
    clear hn hv
    go_enter Try.func7, Try.ntmps7
    go_wp2_with fail
    refine hf.mono ?_
    rintro e w1 ⟨B, b, u, rfl, hd, hb⟩
    have hq := eq_nil_some
    have HI : Hid (Duo w1 w.heap.size B b m u ∧ Below w.heap.size w w1) := ⟨hd, hb⟩
    clear hf hd hb
    go_wp2_with fail
    go_loopw [11] (fun iv wr => ∃ (j : Nat) (u : Nat → Bool), j ≤ m ∧ iv = .int .i64 (j : Int) ∧ Duo wr w.heap.size B b m u ∧ Below w.heap.size w wr) (fun iv _ => m - (intOf iv).toNat)
    case atStart => exact ⟨0, u, Nat.zero_le _, rfl, HI.out⟩
    case round =>
      clear HI u
      obtain ⟨j, u, hj, rfl, hd, hb⟩ := hrel
      have HI : Hid (Duo wr w.heap.size B b m u ∧ Below w.heap.size w wr) := ⟨hd, hb⟩
      by_cases hlt : j < m ∧ full = true
      · obtain ⟨hlt, rfl⟩ := hlt
        have j1 : (j : Int) < (m : Nat) := by omega
        by_cases hc : j % 9 = 8 ∧ ¬ j < 64
        · have c1 : ((j : Int) % 9 == 8) = true := by simp; omega
          have c2 : decide ((j : Int) < 64) = false := decide_eq_false (by omega)
          have c3 : (j : Int) % 9 = 8 := by omega
          clear hd hb hc c1
          go_wp2
          go_roundw
          case rel => exact ⟨j + 1, u, by omega, by go_num, HI.out⟩
          case measure => simp [intOf]; omega
        · have hp := put_any wr B m u hd.grid j true hm hlt
          clear hd hb
          by_cases h9 : j % 9 = 8
          · have c1 : (j : Int) % 9 = 8 := by omega
            have c2 : (j : Int) < 64 := by omega
            clear hc
            go_wp2_with fail
            refine hp.mono ?_
            rintro e w3 ⟨rfl, hg3, ho3⟩
            have hr3 : BoolsAt w3 b m u := HI.out.1.ref.keep (ho3.2 _ HI.out.1.ref.lt (fun e => HI.out.1.apart e.symm))
            have hcj := hr3.cell j hlt
            have hfj := hr3.frozen j
            have HF : Hid (Duo (w3.setCell ⟨b, j, none⟩ (.bool true)) w.heap.size B b m (putU u j true) ∧ Below w.heap.size w (w3.setCell ⟨b, j, none⟩ (.bool true))) :=
              ⟨⟨hg3.keep (Below.heap_setCell w3 ⟨b, j, none⟩ _ _ HI.out.1.apart), hr3.set j true, HI.out.1.B_low, HI.out.1.b_low, HI.out.1.apart, putU_out HI.out.1.out hlt⟩, (HI.out.2.trans ((ho3.below (Nat.le_of_lt HI.out.1.grid.lt)).mono HI.out.1.B_low)).setCell (p := ⟨b, j, none⟩) HI.out.1.b_low _⟩
            generalize u j = y at *
            clear hp hg3 ho3 hr3
            go_wp2
            go_roundw
            case rel => exact ⟨j + 1, _, by omega, by go_num, HF.out⟩
            case measure => simp [intOf]; omega
          · have c1 : ((j : Int) % 9 == 8) = false := by simp; omega
            have c3 : ¬ (j : Int) % 9 = 8 := by omega
            clear hc
            go_wp2_with fail
            refine hp.mono ?_
            rintro e w3 ⟨rfl, hg3, ho3⟩
            have hr3 : BoolsAt w3 b m u := HI.out.1.ref.keep (ho3.2 _ HI.out.1.ref.lt (fun e => HI.out.1.apart e.symm))
            have hcj := hr3.cell j hlt
            have hfj := hr3.frozen j
            have HF : Hid (Duo (w3.setCell ⟨b, j, none⟩ (.bool true)) w.heap.size B b m (putU u j true) ∧ Below w.heap.size w (w3.setCell ⟨b, j, none⟩ (.bool true))) :=
              ⟨⟨hg3.keep (Below.heap_setCell w3 ⟨b, j, none⟩ _ _ HI.out.1.apart), hr3.set j true, HI.out.1.B_low, HI.out.1.b_low, HI.out.1.apart, putU_out HI.out.1.out hlt⟩, (HI.out.2.trans ((ho3.below (Nat.le_of_lt HI.out.1.grid.lt)).mono HI.out.1.B_low)).setCell (p := ⟨b, j, none⟩) HI.out.1.b_low _⟩
            generalize u j = y at *
            clear hp hg3 ho3 hr3
            go_wp2
            go_roundw
            case rel => exact ⟨j + 1, _, by omega, by go_num, HF.out⟩
            case measure => simp [intOf]; omega
      · have hnx := next_any wr B m u hd.grid hm from_ hfr
        have hfr2 := rfree_any wr b m u hd.ref hm from_ 1
        have HX : Hid (∀ i, FirstU u m from_.toNat i → freeTo u from_ 1 m = [i]) := fun i h => freeTo_first u m from_ i h
        have HY : Hid (NoneU u m from_.toNat → freeTo u from_ 1 m = []) := fun h => freeTo_none u m from_ 1 h
        clear hd hb
        generalize freeTo u from_ 1 m = L at *
        have hj2 : (¬ (j : Int) < (m : Nat)) ∨ ((j : Int) < (m : Nat) ∧ full = false) := by
          by_cases h : j < m
          · exact .inr ⟨by omega, by cases full; rfl; exact absurd ⟨h, rfl⟩ hlt⟩
          · exact .inl (by omega)
        clear hlt
        rcases hj2 with j1 | ⟨j1, rfl⟩
        all_goals
          go_wp2_with fail
          refine hnx.mono ?_
          rintro e w2 ⟨hres, rfl⟩
          clear hnx
          rcases hres with ⟨i, hi, rfl⟩ | ⟨hno, rfl⟩
          · have hL := HX.out i hi
            subst hL
            clear hi
            go_wp2_with fail
            refine hfr2.mono ?_
            rintro e w3 ⟨v3, rfl, hv3, hb3⟩
            obtain ⟨oa, ca, rfl⟩ := hv3.form
            obtain ⟨g, rfl, _, _, hc0⟩ := hv3.cell (i := 0) (x := i) rfl
            have HB : Hid (Below w.heap.size w w3) := HI.out.2.trans (hb3.mono HI.out.2.size)
            clear hfr2 hv3 hb3
            go_wp2_with fail
            refine (gawake_any _).mono ?_
            rintro e w5 ⟨rfl, hb5⟩
            have HB5 : Hid (Below w.heap.size w w5) := HB.out.trans (hb5.mono HB.out.size)
            clear hb5 HB
            go_wp2
            go_ret
            exact ⟨rfl, HB5.out⟩
          · have hL := HY.out hno
            subst hL
            clear hno
            go_wp2_with fail
            refine hfr2.mono ?_
            rintro e w3 ⟨v3, rfl, hv3, hb3⟩
            obtain ⟨oa, ca, rfl⟩ := hv3.form
            have HB : Hid (Below w.heap.size w w3) := HI.out.2.trans (hb3.mono HI.out.2.size)
            clear hfr2 hv3 hb3
            go_wp2_with fail
            refine (gawake_any _).mono ?_
            rintro e w5 ⟨rfl, hb5⟩
            have HB5 : Hid (Below w.heap.size w w5) := HB.out.trans (hb5.mono HB.out.size)
            clear hb5 HB
            go_wp2
            go_ret
            exact ⟨rfl, HB5.out⟩
end Go.Proofs.Ytmpbpioigfnneaa
