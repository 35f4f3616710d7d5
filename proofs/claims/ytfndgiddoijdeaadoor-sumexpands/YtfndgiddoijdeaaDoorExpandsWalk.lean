/- The law SumExpands, called with any key, purpose and number where the program's two tables stand, returns true, and changes nothing that was there. -/
import Derived.Test.YtfndgiddoijdeaaDoorRefExpand
namespace Go.Proofs.YtfndgiddoijdeaaDoor
open Go.RowKit

theorem Expand_any (key info : ByteArray) (n : Int) (hk : key.size < 1099511627776) (hi : info.size ≤ 1048576) : ∃ X c, (∀ w, First w → Cubes w → Calls Tryd.prog 19 #[.string key, .string info, .int .i64 n] w fun e w' => e = .returned (.tuple #[.string X, .int .i64 c]) ∧ Below w.heap.size w w') ∧ (∀ w, Calls Tryd.prog 20 #[.string key, .string info, .int .i64 n] w fun e w' => e = .returned (.tuple #[.string X, .int .i64 c]) ∧ Below w.heap.size w w') := by
  by_cases hn : n < 0 ∨ 8160 < n
  · exact ⟨_, _, fun w _ _ => Expand_out key info n hn w, fun w => rExpand_out key info n hn w⟩
  · obtain ⟨m, rfl⟩ := Int.eq_ofNat_of_zero_le (show 0 ≤ n by omega)
    exact ⟨_, _, fun w hf hq => Expand_in key info m (by omega) hk hi w hf hq, fun w => rExpand_in key info m (by omega) hk hi w⟩

set_option maxRecDepth 10000 in
set_option maxHeartbeats 1000000 in
theorem walk_sumExpands (key info : ByteArray) (n : Int) (w : World) (hf : First w) (hq : Cubes w) :
    Calls Tryd.prog 6 #[.string key, .string info, .int .i64 n] w fun e w' => e = .returned (.bool true) ∧ Below w.heap.size w w' := by
  have HK : Hid (First w ∧ Cubes w) := ⟨hf, hq⟩
  clear hf hq
  go_enter Tryd.func6, Tryd.ntmps6
  go_wp2_with fail
  refine (cut_z key 512 _ rfl _).mono ?_
  rintro e w1 ⟨rfl, rfl⟩
  go_wp2_with fail
  refine (cut_z info 512 _ rfl _).mono ?_
  rintro e w2 ⟨rfl, rfl⟩
  have hk := cutS_size key 512
  have hs := cutS_size info 512
  generalize cutS key 512 = k at *
  generalize cutS info 512 = t at *
  obtain ⟨X, c, hE, hR⟩ := Expand_any k t n (by omega) (by omega)
  have HE : Hid (∀ w, First w → Cubes w → Calls Tryd.prog 19 #[.string k, .string t, .int .i64 n] w fun e w' => e = .returned (.tuple #[.string X, .int .i64 c]) ∧ Below w.heap.size w w') := hE
  have HR : Hid (∀ w, Calls Tryd.prog 20 #[.string k, .string t, .int .i64 n] w fun e w' => e = .returned (.tuple #[.string X, .int .i64 c]) ∧ Below w.heap.size w w') := hR
  clear hE hR
  go_wp2_with fail
  refine (HE.out w2 HK.out.1 HK.out.2).mono ?_
  rintro e w3 ⟨rfl, hb3⟩
  go_wp2_with fail
  refine (HR.out w3).mono ?_
  rintro e w4 ⟨rfl, hb4⟩
  have hb4' := hb3.trans (hb4.mono hb3.size)
  clear hb3 hb4 HE HR
  have H4 : Hid (First w4 ∧ Cubes w4) := ⟨HK.out.1.below hb4' HK.out.1.1, HK.out.2.below hb4' HK.out.2.1⟩
  go_wp2_with fail
  refine (awake_any w4 H4.out.1 H4.out.2).mono ?_
  rintro e w7 ⟨rfl, hb7⟩
  have hb7' := hb4'.trans (hb7.mono hb4'.size)
  clear hb4' hb7
  go_wp2
  go_ret
  exact ⟨rfl, hb7'⟩
end Go.Proofs.YtfndgiddoijdeaaDoor
