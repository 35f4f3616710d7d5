/- The law BoxTags, called with any texts, returns true, and changes nothing that was there. -/
import Derived.Test.YtolmfhgpdcmhlaaRefTag
import Derived.Test.YtolmfhgpdcmhlaaBoxCut
namespace Go.Proofs.Ytolmfhgpdcmhlaa
open Go.RowKit

set_option maxRecDepth 10000 in
set_option maxHeartbeats 1000000 in
theorem walk_boxTags (key s : ByteArray) (w : World) :
    Calls Try.prog 4 #[.string key, .string s] w fun e w' => e = .returned (.bool true) ∧ Below w.heap.size w w' := by
  go_enter Try.func4, Try.ntmps4
  go_wp2_with fail
  refine (cut_z s 2048 _ rfl _).mono ?_
  rintro e w1 ⟨rfl, rfl⟩
  have hs := cutS_size s 2048
  generalize cutS s 2048 = c at *
  have h1 := fun w => Tag_any key c w
  have h2 := fun w => rTag_any key c (by omega) w
  generalize tagS key c = t at *
  generalize tagE key = f at *
  go_wp2_with fail
  refine (h1 _).mono ?_
  rintro e w4 ⟨rfl, hb4⟩
  clear h1
  go_wp2_with fail
  refine (h2 _).mono ?_
  rintro e w5 ⟨rfl, hb5⟩
  have hb5' := hb4.trans (hb5.mono hb4.size)
  clear hb4 hb5 h2
  go_wp2_with fail
  refine (awake_any w5).mono ?_
  rintro e w6 ⟨rfl, hb6⟩
  have hb6' := hb5'.trans (hb6.mono hb5'.size)
  clear hb5' hb6
  go_wp2
  go_ret
  exact ⟨rfl, hb6'⟩
end Go.Proofs.Ytolmfhgpdcmhlaa
