/- The law ShelfPages, called with any text, returns true, and changes nothing that was there. -/
import Derived.Test.YtndjnecjnfcapaaDoorShAwake
import Derived.Test.YtndjnecjnfcapaaDoorShRPage
import Derived.Test.YtndjnecjnfcapaaDoorShSame
namespace Go.Proofs.YtndjnecjnfcapaaDoor
set_option maxRecDepth 20000
open Go.RowKit

theorem pageL_len (s : ByteArray) : (pageL s).length ≤ 16 := by
  unfold pageL
  split
  · rw [pageF_len]; exact Nat.le_refl _
  · exact Nat.zero_le _
set_option maxHeartbeats 1000000 in
theorem walk_shelfPages (s : ByteArray) (w : World) :
    Calls Tryd.prog 3 #[.string s] w fun e w' => e = .returned (.bool true) ∧ Below w.heap.size w w' := by
  have h1 := page_any s
  have h2 := rpage_any s
  have hl := pageL_len s
  generalize pageE s = x at *
  generalize pageL s = L at *
  go_enter Tryd.func3, Tryd.ntmps3
  go_wp2_with fail
  refine (h1 _).mono ?_
  rintro e w1 ⟨v1, rfl, z1, b1⟩
  clear h1
  go_wp2_with fail
  refine (h2 _).mono ?_
  rintro e w2 ⟨v2, rfl, z2, b2⟩
  clear h2
  have hs := same_any v1 L v2 L w2 (z1.ens.below b2) z2.ens (by omega)
  rw [decide_eq_true rfl] at hs
  have B2 : Hid (Below w.heap.size w w2) := b1.trans (b2.mono b1.size)
  clear b1 b2 z1 z2
  go_wp2_with fail
  refine hs.mono ?_
  rintro e w3 ⟨rfl, b3⟩
  have B3 : Hid (Below w.heap.size w w3) := B2.out.trans (b3.mono B2.out.size)
  clear b3 hs
  go_wp2_with fail
  refine (awake_any _).mono ?_
  rintro e w4 ⟨rfl, b4⟩
  have B4 : Hid (Below w.heap.size w w4) := B3.out.trans (b4.mono B3.out.size)
  clear b4
  go_wp2
  go_ret
  exact ⟨rfl, B4.out⟩
end Go.Proofs.YtndjnecjnfcapaaDoor
