/- The law ShelfBodies, called with any list of entries, returns true, and changes nothing that was there. -/
import Derived.Test.YtndjnecjnfcapaaDoorShAwake
import Derived.Test.YtndjnecjnfcapaaDoorShRBody
namespace Go.Proofs.YtndjnecjnfcapaaDoor
set_option maxRecDepth 20000
open Go.RowKit

set_option maxHeartbeats 1000000 in
theorem walk_shelfBodies (v : Value) (l : List En) (w : World) (hv : Ens w v l ∧ (∀ x ∈ l, x.Ok) ∧ Capped v) :
    Calls Tryd.prog 4 #[v] w fun e w' => e = .returned (.bool true) ∧ Below w.heap.size w w' := by
  obtain ⟨hv, hok, _⟩ := hv
  have h1 := body_any v l w hv
  have h2 : ∀ w', Below w.heap.size w w' → _ := fun w' hb => rbody_any v l w' (hv.below hb) hok
  generalize bodyE l = x at *
  generalize bodyS l = S at *
  clear hv hok
  go_enter Tryd.func4, Tryd.ntmps4
  go_wp2_with fail
  refine h1.mono ?_
  rintro e w1 ⟨rfl, b1⟩
  clear h1
  have h2 := h2 w1 b1
  have B1 : Hid (Below w.heap.size w w1) := b1
  clear b1
  go_wp2_with fail
  refine h2.mono ?_
  rintro e w2 ⟨rfl, b2⟩
  clear h2
  have B2 : Hid (Below w.heap.size w w2) := B1.out.trans (b2.mono B1.out.size)
  clear b2
  go_wp2_with fail
  refine (awake_any _).mono ?_
  rintro e w4 ⟨rfl, b4⟩
  have B4 : Hid (Below w.heap.size w w4) := B2.out.trans (b4.mono B2.out.size)
  clear b4
  go_wp2
  go_ret
  exact ⟨rfl, B4.out⟩
end Go.Proofs.YtndjnecjnfcapaaDoor
