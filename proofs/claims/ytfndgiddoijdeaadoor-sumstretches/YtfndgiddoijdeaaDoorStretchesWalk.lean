/- The law SumStretches, called with any pass phrase, salt and numbers where the program's two tables stand, returns true, and changes nothing that was there. -/
import Derived.Test.YtfndgiddoijdeaaDoorRefStretch
namespace Go.Proofs.YtfndgiddoijdeaaDoor
open Go.RowKit

theorem Stretch_any (pass salt : ByteArray) (rounds n : Int) (hk : pass.size < 1099511627776) (hi : salt.size ≤ 1048576) : ∃ X c, (∀ w, First w → Cubes w → Calls Tryd.prog 21 #[.string pass, .string salt, .int .i64 rounds, .int .i64 n] w fun e w' => e = .returned (.tuple #[.string X, .int .i64 c]) ∧ Below w.heap.size w w') ∧ (∀ w, Calls Tryd.prog 22 #[.string pass, .string salt, .int .i64 rounds, .int .i64 n] w fun e w' => e = .returned (.tuple #[.string X, .int .i64 c]) ∧ Below w.heap.size w w') := by
  by_cases hn : rounds < 1 ∨ 1000 < rounds ∨ n < 0 ∨ 1024 < n
  · exact ⟨_, _, fun w _ _ => Stretch_out pass salt rounds n hn w, fun w => rStretch_out pass salt rounds n hn w⟩
  · obtain ⟨m, rfl⟩ := Int.eq_ofNat_of_zero_le (show 0 ≤ n by omega)
    obtain ⟨r, rfl⟩ := Int.eq_ofNat_of_zero_le (show 0 ≤ rounds by omega)
    exact ⟨_, _, fun w hf hq => Stretch_in pass salt r m (by omega) (by omega) (by omega) hk hi w hf hq, fun w => rStretch_in pass salt r m (by omega) (by omega) (by omega) hk hi w⟩

set_option maxRecDepth 10000 in
set_option maxHeartbeats 1000000 in
theorem walk_sumStretches (pass salt : ByteArray) (rounds n : Int) (w : World) (hf : First w) (hq : Cubes w) :
    Calls Tryd.prog 7 #[.string pass, .string salt, .int .i64 rounds, .int .i64 n] w fun e w' => e = .returned (.bool true) ∧ Below w.heap.size w w' := by
  have HK : Hid (First w ∧ Cubes w) := ⟨hf, hq⟩
  clear hf hq
  go_enter Tryd.func7, Tryd.ntmps7
  go_wp2_with fail
  refine (cut_z pass 256 _ rfl _).mono ?_
  rintro e w1 ⟨rfl, rfl⟩
  go_wp2_with fail
  refine (cut_z salt 256 _ rfl _).mono ?_
  rintro e w2 ⟨rfl, rfl⟩
  have hk := cutS_size pass 256
  have hs := cutS_size salt 256
  generalize cutS pass 256 = k at *
  generalize cutS salt 256 = t at *
  have hall : ∀ r : Int, Hid (∃ X c, (∀ w, First w → Cubes w → Calls Tryd.prog 21 #[.string k, .string t, .int .i64 r, .int .i64 n] w fun e w' => e = .returned (.tuple #[.string X, .int .i64 c]) ∧ Below w.heap.size w w') ∧ (∀ w, Calls Tryd.prog 22 #[.string k, .string t, .int .i64 r, .int .i64 n] w fun e w' => e = .returned (.tuple #[.string X, .int .i64 c]) ∧ Below w.heap.size w w')) := fun r => Stretch_any k t r n (by omega) (by omega)
  have HALL : Hid (∀ r : Int, Hid (∃ X c, (∀ w, First w → Cubes w → Calls Tryd.prog 21 #[.string k, .string t, .int .i64 r, .int .i64 n] w fun e w' => e = .returned (.tuple #[.string X, .int .i64 c]) ∧ Below w.heap.size w w') ∧ (∀ w, Calls Tryd.prog 22 #[.string k, .string t, .int .i64 r, .int .i64 n] w fun e w' => e = .returned (.tuple #[.string X, .int .i64 c]) ∧ Below w.heap.size w w'))) := hall
  clear hall
  by_cases hA : 20 < rounds ∧ rounds ≤ 1000
  · obtain ⟨hA1, hA2⟩ := hA
    have i1 : decide (20 < rounds) = true := decide_eq_true hA1
    have i2 : decide (rounds ≤ 1000) = true := decide_eq_true hA2
    obtain ⟨X, c, hE, hR⟩ := (HALL.out 20).out
    have HE : Hid (∀ w, First w → Cubes w → Calls Tryd.prog 21 #[.string k, .string t, .int .i64 20, .int .i64 n] w fun e w' => e = .returned (.tuple #[.string X, .int .i64 c]) ∧ Below w.heap.size w w') := hE
    have HR : Hid (∀ w, Calls Tryd.prog 22 #[.string k, .string t, .int .i64 20, .int .i64 n] w fun e w' => e = .returned (.tuple #[.string X, .int .i64 c]) ∧ Below w.heap.size w w') := hR
    clear hE hR HALL
    go_wp2_with fail
    refine (HE.out w2 HK.out.1 HK.out.2).mono ?_
    rintro e w3 ⟨rfl, hb3⟩
    go_wp2_with fail
    refine (HR.out w3).mono ?_
    rintro e w4 ⟨rfl, hb4⟩
    have hb4' := hb3.trans (hb4.mono hb3.size)
    clear hb3 hb4 HE HR
    have H4 : Hid (First w4 ∧ Cubes w4) := ⟨HK.out.1.below hb4' HK.out.1.1, HK.out.2.below hb4' HK.out.2.1⟩
    go_wp2_with fail
    refine (awake_any w4 H4.out.1 H4.out.2).mono ?_
    rintro e w7 ⟨rfl, hb7⟩
    have hb7' := hb4'.trans (hb7.mono hb4'.size)
    clear hb4' hb7
    go_wp2
    go_ret
    exact ⟨rfl, hb7'⟩
  · obtain ⟨X, c, hE, hR⟩ := (HALL.out rounds).out
    have HE : Hid (∀ w, First w → Cubes w → Calls Tryd.prog 21 #[.string k, .string t, .int .i64 rounds, .int .i64 n] w fun e w' => e = .returned (.tuple #[.string X, .int .i64 c]) ∧ Below w.heap.size w w') := hE
    have HR : Hid (∀ w, Calls Tryd.prog 22 #[.string k, .string t, .int .i64 rounds, .int .i64 n] w fun e w' => e = .returned (.tuple #[.string X, .int .i64 c]) ∧ Below w.heap.size w w') := hR
    clear hE hR HALL
    have hcase : ¬ 20 < rounds ∨ (20 < rounds ∧ ¬ rounds ≤ 1000) := by omega
    rcases hcase with hB | ⟨hB, hC⟩
    all_goals
      go_wp2_with fail
      refine (HE.out w2 HK.out.1 HK.out.2).mono ?_
      rintro e w3 ⟨rfl, hb3⟩
      go_wp2_with fail
      refine (HR.out w3).mono ?_
      rintro e w4 ⟨rfl, hb4⟩
      have hb4' := hb3.trans (hb4.mono hb3.size)
      clear hb3 hb4 HE HR
      have H4 : Hid (First w4 ∧ Cubes w4) := ⟨HK.out.1.below hb4' HK.out.1.1, HK.out.2.below hb4' HK.out.2.1⟩
      go_wp2_with fail
      refine (awake_any w4 H4.out.1 H4.out.2).mono ?_
      rintro e w7 ⟨rfl, hb7⟩
      have hb7' := hb4'.trans (hb7.mono hb4'.size)
      clear hb4' hb7
      go_wp2
      go_ret
      exact ⟨rfl, hb7'⟩
end Go.Proofs.YtfndgiddoijdeaaDoor
