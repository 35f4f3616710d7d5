/- The law SumMacs, called with any key and text where the program's two tables stand, returns true, and changes nothing that was there. -/
import Derived.Test.YtfndgiddoijdeaaDoorRefMacLong
namespace Go.Proofs.YtfndgiddoijdeaaDoor
open Go.RowKit

set_option maxRecDepth 10000 in
set_option maxHeartbeats 1000000 in
theorem walk_sumMacs (key s : ByteArray) (w : World) (hf : First w) (hq : Cubes w) :
    Calls Tryd.prog 4 #[.string key, .string s] w fun e w' => e = .returned (.bool true) ∧ Below w.heap.size w w' := by
  have HK : Hid (First w ∧ Cubes w) := ⟨hf, hq⟩
  clear hf hq
  go_enter Tryd.func4, Tryd.ntmps4
  go_wp2_with fail
  refine (cut_z key 16384 _ rfl _).mono ?_
  rintro e w1 ⟨rfl, rfl⟩
  go_wp2_with fail
  refine (cut_z s 16384 _ rfl _).mono ?_
  rintro e w2 ⟨rfl, rfl⟩
  have hk := cutS_size key 16384
  have hs := cutS_size s 16384
  generalize cutS key 16384 = k at *
  generalize cutS s 16384 = t at *
  go_wp2_with fail
  refine (Mac_any k t (by omega) (by omega) w2 HK.out.1 HK.out.2).mono ?_
  rintro e w3 ⟨rfl, hb3⟩
  go_wp2_with fail
  refine (rMac_any k t (by omega) (by omega) w3).mono ?_
  rintro e w4 ⟨rfl, hb4⟩
  have hb4' := hb3.trans (hb4.mono hb3.size)
  clear hb3 hb4
  obtain ⟨X, hX⟩ : ∃ X, X = macS k t := ⟨_, rfl⟩
  have HX : Hid (X = macS k t) := hX
  rw [← hX]
  clear hX
  have H4 : Hid (First w4 ∧ Cubes w4) := ⟨HK.out.1.below hb4' HK.out.1.1, HK.out.2.below hb4' HK.out.2.1⟩
  go_wp2_with fail
  refine (Extract_any k t (by omega) (by omega) w4 H4.out.1 H4.out.2).mono ?_
  rintro e w5 ⟨rfl, hb5⟩
  rw [← HX.out]
  have hb5' := hb4'.trans (hb5.mono hb4'.size)
  clear hb4' hb5 H4
  go_wp2_with fail
  refine (rMac_any k t (by omega) (by omega) w5).mono ?_
  rintro e w6 ⟨rfl, hb6⟩
  rw [← HX.out]
  have hb6' := hb5'.trans (hb6.mono hb5'.size)
  clear hb5' hb6
  have H6 : Hid (First w6 ∧ Cubes w6) := ⟨HK.out.1.below hb6' HK.out.1.1, HK.out.2.below hb6' HK.out.2.1⟩
  go_wp2_with fail
  refine (awake_any w6 H6.out.1 H6.out.2).mono ?_
  rintro e w7 ⟨rfl, hb7⟩
  have hb7' := hb6'.trans (hb7.mono hb6'.size)
  clear hb6' hb7
  go_wp2
  go_ret
  exact ⟨rfl, hb7'⟩
end Go.Proofs.YtfndgiddoijdeaaDoor
