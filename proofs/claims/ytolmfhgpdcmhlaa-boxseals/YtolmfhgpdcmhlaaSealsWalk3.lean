/- The laws BoxSeals and BoxOpens, called with any texts, return true, and change nothing that was there. -/
import Derived.Test.YtolmfhgpdcmhlaaRefSeal
import Derived.Test.YtolmfhgpdcmhlaaBoxCut
import Derived.Test.YtolmfhgpdcmhlaaPolyAll
namespace Go.Proofs.Ytolmfhgpdcmhlaa
open Go.RowKit

set_option maxRecDepth 10000 in
set_option maxHeartbeats 1000000 in
theorem walk_boxSeals (key nonce ad s : ByteArray) (w : World) :
    Calls Try.prog 5 #[.string key, .string nonce, .string ad, .string s] w fun e w' => e = .returned (.bool true) ∧ Below w.heap.size w w' := by
  go_enter Try.func5, Try.ntmps5
  go_wp2_with fail
  refine (cut_z ad 1024 _ rfl _).mono ?_
  rintro e w0 ⟨rfl, rfl⟩
  have hd := cutS_size ad 1024
  generalize cutS ad 1024 = d at *
  go_wp2_with fail
  refine (cut_z s 1024 _ rfl _).mono ?_
  rintro e w1 ⟨rfl, rfl⟩
  have hs := cutS_size s 1024
  generalize cutS s 1024 = c at *
  have h1 := fun w => Seal_any key nonce d c (by omega) (by omega) w
  have h2 := fun w => rSeal_any key nonce d c (by omega) (by omega) w
  generalize sealS key nonce d c = t at *
  generalize sealE key nonce = f at *
  go_wp2_with fail
  refine (h1 _).mono ?_
  rintro e w4 ⟨rfl, hb4⟩
  clear h1
  go_wp2_with fail
  refine (h2 _).mono ?_
  rintro e w5 ⟨rfl, hb5⟩
  have hb5' := hb4.trans (hb5.mono hb4.size)
  clear hb4 hb5 h2
  go_wp2_with fail
  refine (awake_any w5).mono ?_
  rintro e w6 ⟨rfl, hb6⟩
  have hb6' := hb5'.trans (hb6.mono hb5'.size)
  clear hb5' hb6
  go_wp2
  go_ret
  exact ⟨rfl, hb6'⟩

set_option maxRecDepth 10000 in
set_option maxHeartbeats 1000000 in
theorem walk_boxOpens (key nonce ad s : ByteArray) (w : World) :
    Calls Try.prog 6 #[.string key, .string nonce, .string ad, .string s] w fun e w' => e = .returned (.bool true) ∧ Below w.heap.size w w' := by
  go_enter Try.func6, Try.ntmps6
  go_wp2_with fail
  refine (cut_z ad 1024 _ rfl _).mono ?_
  rintro e w0 ⟨rfl, rfl⟩
  have hd := cutS_size ad 1024
  generalize cutS ad 1024 = d at *
  go_wp2_with fail
  refine (cut_z s 1024 _ rfl _).mono ?_
  rintro e w1 ⟨rfl, rfl⟩
  have hs := cutS_size s 1024
  generalize cutS s 1024 = c at *
  have h1 := fun w => Open_any key nonce d c (by omega) (by omega) w
  have h2 := fun w => rOpen_any key nonce d c (by omega) (by omega) w
  generalize openS key nonce d c = t at *
  generalize openE key nonce d c = f at *
  go_wp2_with fail
  refine (h1 _).mono ?_
  rintro e w4 ⟨rfl, hb4⟩
  clear h1
  go_wp2_with fail
  refine (h2 _).mono ?_
  rintro e w5 ⟨rfl, hb5⟩
  have hb5' := hb4.trans (hb5.mono hb4.size)
  clear hb4 hb5 h2
  go_wp2_with fail
  refine (awake_any w5).mono ?_
  rintro e w6 ⟨rfl, hb6⟩
  have hb6' := hb5'.trans (hb6.mono hb5'.size)
  clear hb5' hb6
  go_wp2
  go_ret
  exact ⟨rfl, hb6'⟩
end Go.Proofs.Ytolmfhgpdcmhlaa
