/- The laws GridNews, GridHas, called with any numbers and any list of them, return true, and change nothing that was there. -/
import Derived.Test.YtmpbpioigfnneaaGrLaw
namespace Go.Proofs.Ytmpbpioigfnneaa
set_option maxRecDepth 20000
open Go.RowKit

theorem cmp_text (s : ByteArray) : (s.toList == s.toList) = true := by simp
set_option maxHeartbeats 1000000 in
theorem walk_gridNews (n : Int) (w : World) :
    Calls Try.prog 3 #[.int .i64 n] w fun e w' => e = .returned (.bool true) ∧ Below w.heap.size w w' := by
  by_cases hn : n < 0 ∨ 3584 < n
  · go_enter Try.func3, Try.ntmps3
    go_wp2_with fail
    refine (gnew_bad n hn _).mono ?_
    rintro e w1 ⟨rfl, rfl⟩
    go_wp2_with fail
    refine (rnew_bad n hn _).mono ?_
    rintro e w2 ⟨rfl, rfl⟩
    go_wp2_with fail
    refine (gawake_any _).mono ?_
    rintro e w3 ⟨rfl, hb3⟩
    go_wp2
    go_ret
    exact ⟨rfl, hb3⟩
  · obtain ⟨m, rfl⟩ : ∃ m : Nat, n = m := ⟨n.toNat, by omega⟩
    have hm : m ≤ 3584 := by omega
    clear hn
    go_enter Try.func3, Try.ntmps3
    go_wp2_with fail
    refine (gnew_any m hm _).mono ?_
    rintro e w1 ⟨rfl, hg1, hb1, hz1⟩
    have HG1 : Hid (GridAt w1 w.heap.size m noneU ∧ Below w.heap.size w w1) := ⟨hg1, hb1⟩
    have hy1 : w.heap.size < w1.heap.size := by omega
    clear hg1 hb1 hz1
    go_wp2_with fail
    refine (rnew_any m hm _).mono ?_
    rintro e w2 ⟨rfl, hr2, hb2, hz2⟩
    have hg2 := HG1.out.1.keep (hb2.block _ HG1.out.1.lt)
    have HB : Hid (Below w.heap.size w w2) := HG1.out.2.trans (hb2.mono (by omega))
    have h1 := size_any _ _ _ _ hg2
    have h2 := gcount_any _ _ _ _ hg2
    rw [show cntU noneU 3584 = 0 from cntU_beyond noneU 0 (fun _ _ => rfl) 3584] at h2
    have h3 := gbody_any _ _ _ _ hg2
    have h4 := rbody_any _ _ _ _ hr2 hm (fun _ _ => rfl)
    have hct := cmp_text (bodyU noneU)
    generalize bodyU noneU = s at *
    clear hg2 hr2 hb2 hz2 HG1
    go_wp2_with fail
    refine h1.mono ?_
    rintro e w3 ⟨rfl, rfl⟩
    clear h1
    go_wp2_with fail
    refine h2.mono ?_
    rintro e w4 ⟨rfl, rfl⟩
    clear h2
    go_wp2_with fail
    refine h3.mono ?_
    rintro e w5 ⟨rfl, rfl⟩
    clear h3
    go_wp2_with fail
    refine h4.mono ?_
    rintro e w6 ⟨rfl, hb6⟩
    have HB6 : Hid (Below w.heap.size w w6) := HB.out.trans (hb6.mono HB.out.size)
    clear h4 hb6 HB
    go_wp2_with fail
    refine (gawake_any _).mono ?_
    rintro e w7 ⟨rfl, hb7⟩
    have HB7 : Hid (Below w.heap.size w w7) := HB6.out.trans (hb7.mono HB6.out.size)
    clear hb7 HB6
    go_wp2
    go_ret
    exact ⟨rfl, HB7.out⟩
set_option maxHeartbeats 1000000 in
theorem walk_gridHas (n : Int) (v : Value) (l : List Int) (at_ : Int) (w : World) (hv : List1 (Value.int .i64) w v l) :
    Calls Try.prog 6 #[.int .i64 n, v, .int .i64 at_] w fun e w' => e = .returned (.bool true) ∧ Below w.heap.size w w' := by
  by_cases hn : n < 0 ∨ 3584 < n
  · go_enter Try.func6, Try.ntmps6
    go_wp2_with fail
    refine (filled_bad n hn v _).mono ?_
    rintro e w1 ⟨rfl, rfl⟩
    have hq := eq_nil_none
    go_wp2_with fail
    refine (gawake_any _).mono ?_
    rintro e w3 ⟨rfl, hb3⟩
    go_wp2
    go_ret
    exact ⟨rfl, hb3⟩
  · obtain ⟨m, rfl⟩ : ∃ m : Nat, n = m := ⟨n.toNat, by omega⟩
    have hm : m ≤ 3584 := by omega
    have hf := filled_any m hm v l w hv
    clear hn hv
    go_enter Try.func6, Try.ntmps6
    go_wp2_with fail
    refine hf.mono ?_
    rintro e w1 ⟨B, b, u, rfl, hd, hb⟩
    have hh := has_all _ _ _ _ hd.grid at_ hm
    have hq := eq_nil_some
    have HB : Hid (Below w.heap.size w w1) := hb
    clear hf
    by_cases hin : 0 ≤ at_ ∧ at_ < (m : Int)
    · obtain ⟨k, rfl⟩ : ∃ k : Nat, at_ = k := ⟨at_.toNat, by omega⟩
      have k1 : (k : Int) < (m : Nat) := hin.2
      have hc := hd.ref.cell k (by omega)
      rw [show hasU m u (k : Int) = u k by simp [hasU, tellsP]; omega] at hh
      clear hd hb hin
      generalize u k = y at *
      go_wp2_with fail
      refine hh.mono ?_
      rintro e w2 ⟨rfl, rfl⟩
      clear hh
      go_wp2_with fail
      refine (gawake_any _).mono ?_
      rintro e w7 ⟨rfl, hb7⟩
      have HB7 : Hid (Below w.heap.size w w7) := HB.out.trans (hb7.mono HB.out.size)
      clear hb7 HB
      go_wp2
      go_ret
      exact ⟨rfl, HB7.out⟩
    · have ht : tellsP m at_ = false := decide_eq_false hin
      rw [show hasU m u at_ = false by simp [hasU, ht]] at hh
      clear hd hb ht
      by_cases h0 : 0 ≤ at_
      · have m1 : decide (at_ < (m : Int)) = false := decide_eq_false (by omega)
        clear hin
        go_wp2_with fail
        refine hh.mono ?_
        rintro e w2 ⟨rfl, rfl⟩
        clear hh
        go_wp2_with fail
        refine (gawake_any _).mono ?_
        rintro e w7 ⟨rfl, hb7⟩
        have HB7 : Hid (Below w.heap.size w w7) := HB.out.trans (hb7.mono HB.out.size)
        clear hb7 HB
        go_wp2
        go_ret
        exact ⟨rfl, HB7.out⟩
      · have m1 : decide (0 ≤ at_) = false := decide_eq_false h0
        clear hin
        go_wp2_with fail
        refine hh.mono ?_
        rintro e w2 ⟨rfl, rfl⟩
        clear hh
        go_wp2_with fail
        refine (gawake_any _).mono ?_
        rintro e w7 ⟨rfl, hb7⟩
        have HB7 : Hid (Below w.heap.size w w7) := HB.out.trans (hb7.mono HB.out.size)
        clear hb7 HB
        go_wp2
        go_ret
        exact ⟨rfl, HB7.out⟩
end Go.Proofs.Ytmpbpioigfnneaa
