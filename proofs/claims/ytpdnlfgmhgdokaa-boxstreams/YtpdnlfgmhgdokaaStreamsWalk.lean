/- The law BoxStreams, called with any texts and number, returns true, and changes nothing that was there. -/
import Derived.Test.YtpdnlfgmhgdokaaRefStream
namespace Go.Proofs.Ytpdnlfgmhgdokaa
open Go.RowKit

set_option maxRecDepth 10000 in
set_option maxHeartbeats 1000000 in
theorem walk_boxStreams (key nonce : ByteArray) (at_ : Int) (s : ByteArray) (w : World) :
    Calls Try.prog 3 #[.string key, .string nonce, .int .i64 at_, .string s] w fun e w' => e = .returned (.bool true) ∧ Below w.heap.size w w' := by
  go_enter Try.func3, Try.ntmps3
  go_wp2_with fail
  refine (cut_z s 4096 _ rfl _).mono ?_
  rintro e w1 ⟨rfl, rfl⟩
  have hs := cutS_size s 4096
  generalize cutS s 4096 = c at *
  have h1 := fun w => Stream_any key nonce c (by omega) at_ w
  have h2 := fun w => rStream_any key nonce c (by omega) at_ w
  generalize strmS key nonce at_ c = t at *
  generalize strmE key nonce at_ c = f at *
  go_wp2_with fail
  refine (h1 _).mono ?_
  rintro e w4 ⟨rfl, hb4⟩
  clear h1
  go_wp2_with fail
  refine (h2 _).mono ?_
  rintro e w5 ⟨rfl, hb5⟩
  have hb5' := hb4.trans (hb5.mono hb4.size)
  clear hb4 hb5 h2
  go_wp2_with fail
  refine (awake_any w5).mono ?_
  rintro e w6 ⟨rfl, hb6⟩
  have hb6' := hb5'.trans (hb6.mono hb5'.size)
  clear hb5' hb6
  go_wp2
  go_ret
  exact ⟨rfl, hb6'⟩
end Go.Proofs.Ytpdnlfgmhgdokaa
