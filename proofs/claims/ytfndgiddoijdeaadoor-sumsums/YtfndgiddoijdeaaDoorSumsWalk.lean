/- The law SumSums, called with any text where the program's two tables stand, returns true, and changes nothing that was there. -/
import Derived.Test.YtfndgiddoijdeaaDoorRefSum
import Derived.Test.YtfndgiddoijdeaaDoorShaSumAll
import Derived.Test.YtfndgiddoijdeaaDoorSumCut
namespace Go.Proofs.YtfndgiddoijdeaaDoor
open Go.RowKit

set_option maxRecDepth 10000 in
set_option maxHeartbeats 1000000 in
theorem walk_sumSums (s : ByteArray) (w : World) (hf : First w) (hq : Cubes w) :
    Calls Tryd.prog 3 #[.string s] w fun e w' => e = .returned (.bool true) ∧ Below w.heap.size w w' := by
  have HK : Hid (First w ∧ Cubes w) := ⟨hf, hq⟩
  clear hf hq
  go_enter Tryd.func3, Tryd.ntmps3
  go_wp2_with fail
  refine (cut_z s 65536 _ rfl _).mono ?_
  rintro e w1 ⟨rfl, rfl⟩
  have hc := cutS_size s 65536
  generalize cutS s 65536 = c at *
  go_wp2_with fail
  refine (sum_any c (by omega) w1 HK.out.1 HK.out.2).mono ?_
  rintro e w2 ⟨rfl, hb2⟩
  go_wp2_with fail
  refine (rsum_any c (by omega) w2).mono ?_
  rintro e w3 ⟨rfl, hb3⟩
  have hb3' := hb2.trans (hb3.mono hb2.size)
  clear hb2 hb3
  generalize shaS (numsOf c) = S at *
  have HK3 : Hid (First w3 ∧ Cubes w3) := ⟨HK.out.1.below hb3' HK.out.1.1, HK.out.2.below hb3' HK.out.2.1⟩
  go_wp2_with fail
  refine (awake_any w3 HK3.out.1 HK3.out.2).mono ?_
  rintro e w4 ⟨rfl, hb4⟩
  have hb4' := hb3'.trans (hb4.mono hb3'.size)
  clear hb3' hb4
  go_wp2
  go_ret
  exact ⟨rfl, hb4'⟩
end Go.Proofs.YtfndgiddoijdeaaDoor
