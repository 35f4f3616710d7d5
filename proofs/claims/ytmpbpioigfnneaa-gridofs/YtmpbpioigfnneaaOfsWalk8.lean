/- The law GridOfs, called with any bytes and any number, returns true, and changes nothing that was there. -/
import Derived.Test.YtmpbpioigfnneaaGrOf
import Derived.Test.YtmpbpioigfnneaaHasWalk8
namespace Go.Proofs.Ytmpbpioigfnneaa
set_option maxRecDepth 20000
open Go.RowKit

def cut500 (s : ByteArray) : ByteArray := if 500 < s.size then s.extract 0 500 else s
set_option maxHeartbeats 2000000 in
theorem walk_gridOfs (a : ByteArray) (n : Int) (w : World) :
    Calls Try.prog 4 #[.string a, .int .i64 n] w fun e w' => e = .returned (.bool true) ∧ Below w.heap.size w w' := by
  have hcut : (500 < a.size ∧ a.extract 0 500 = cut500 a) ∨ (¬ 500 < a.size ∧ a = cut500 a) := by
    by_cases h : 500 < a.size
    · exact .inl ⟨h, by simp [cut500, h]⟩
    · exact .inr ⟨h, by simp [cut500, h]⟩
  generalize cut500 a = s at *
  have hall := of_cases s n
  rcases hcut with ⟨hc, he⟩ | ⟨hc, he⟩
  case' inl =>
    have hc1 : (500 : Int) < a.size := by omega
    have hc2 : (500 : Int) ≤ a.size := by omega
    go_enter Try.func4, Try.ntmps4
  case' inr =>
    have hc1 : ¬ (500 : Int) < a.size := by omega
    have he := he.symm
    subst he
    go_enter Try.func4, Try.ntmps4
  all_goals
    rcases hall with ⟨er, hne, h1, h2⟩ | ⟨m, rfl, hm, hs, hcl, h1, h2⟩
    · have hz : (er == 0) = false := by simp [hne]
      clear hne
      go_wp2_with fail
      refine (h1 _).mono ?_
      rintro e w1 ⟨rfl, hb1⟩
      clear h1
      go_wp2_with fail
      refine (h2 _).mono ?_
      rintro e w2 ⟨rfl, hb2⟩
      clear h2
      have HB : Hid (Below w.heap.size w w2) := hb1.trans (hb2.mono hb1.size)
      clear hb1 hb2
      go_wp2_with fail
      refine (gawake_any _).mono ?_
      rintro e w3 ⟨rfl, hb3⟩
      have HB3 : Hid (Below w.heap.size w w3) := HB.out.trans (hb3.mono HB.out.size)
      clear hb3 HB
      go_wp2
      go_ret
      exact ⟨rfl, HB3.out⟩
    · have HS : Hid (s.size = 448 ∧ ClearFrom (bitsOf s) m) := ⟨hs, hcl⟩
      clear hs hcl
      go_wp2_with fail
      refine (h1 _).mono ?_
      rintro e w1 ⟨rfl, hg1, hb1⟩
      clear h1
      go_wp2_with fail
      refine (h2 _).mono ?_
      rintro e w2 ⟨rfl, hr2, hb2⟩
      have hg2 := hg1.keep (hb2.block _ hg1.lt)
      have k1 := size_any _ _ _ _ hg2
      have k2 := gbody_any _ _ _ _ hg2
      rw [bodyU_bitsOf s HS.out.1] at k2
      have k3 := gcount_any _ _ _ _ hg2
      have k4 := rcount_any _ _ _ _ hr2 hm
      have e : cntU (bitsOf s) 3584 = cntU (bitsOf s) m := by
        have := cntU_beyond (bitsOf s) m HS.out.2 (3584 - m)
        rwa [show m + (3584 - m) = 3584 by omega] at this
      rw [e] at k3
      have hct := cmp_text s
      generalize cntU (bitsOf s) m = c at *
      have HB : Hid (Below w.heap.size w w2) := hb1.trans (hb2.mono hb1.size)
      clear hb1 hb2 h2 hg1 hg2 hr2 e
      go_wp2_with fail
      refine k1.mono ?_
      rintro e w3 ⟨rfl, rfl⟩
      clear k1
      go_wp2_with fail
      refine k2.mono ?_
      rintro e w4 ⟨rfl, rfl⟩
      clear k2
      go_wp2_with fail
      refine k3.mono ?_
      rintro e w4 ⟨rfl, rfl⟩
      clear k3
      go_wp2_with fail
      refine k4.mono ?_
      rintro e w4 ⟨rfl, rfl⟩
      clear k4
      go_wp2_with fail
      refine (gawake_any _).mono ?_
      rintro e w5 ⟨rfl, hb5⟩
      have HB5 : Hid (Below w.heap.size w w5) := HB.out.trans (hb5.mono HB.out.size)
      clear hb5 HB
      go_wp2
      go_ret
      exact ⟨rfl, HB5.out⟩
end Go.Proofs.Ytmpbpioigfnneaa
