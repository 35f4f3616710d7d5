/- vault.inBytes and vault.wide: a number as so many bytes. -/
import Derived.Test.YtkopbpbmfdogfaaDoorPad
import Derived.Test.YtkopbpbmfdogfaaDoorVtNum
namespace Go.Proofs.YtkopbpbmfdogfaaDoor
set_option maxRecDepth 20000
open Go.RowKit

theorem inBytes_any (n : Nat) (w : World) :
    Calls Tryd.prog 96 #[.int .i64 (n : Nat)] w fun e w' => e = .returned (.string (putS n 6)) ∧ Below w.heap.size w w' := by
  go_enter Tryd.func96, Tryd.ntmps96
  go_wp2_with fail
  refine (put_any n 6 _).mono ?_
  rintro e w1 ⟨rfl, hb⟩
  go_wp2
  go_ret
  exact ⟨rfl, hb⟩
theorem wide_any (n k : Nat) (hn : n < 281474976710656) (hk : 6 ≤ k) (hk2 : k ≤ 4096) (w : World) :
    Calls Tryd.prog 94 #[.int .i64 (n : Nat), .int .i64 (k : Nat)] w fun e w' => e = .returned (.string (wideS n k)) ∧ Below w.heap.size w w' := by
  have HP : Hid (padS (putS n 6) k = wideS n k) := pad_wide hn hk hk2
  generalize hs : putS n 6 = s at *
  have hi := inBytes_any n w
  rw [hs] at hi
  clear hs
  go_enter Tryd.func94, Tryd.ntmps94
  go_wp2_with fail
  refine hi.mono ?_
  rintro e w1 ⟨rfl, hb⟩
  clear hi
  go_wp2_with fail
  refine (pad_any s k _).mono ?_
  rintro e w2 ⟨rfl, hb2⟩
  rw [HP.out]
  have HB : Hid (Below w.heap.size w w2) := hb.trans (hb2.mono hb.size)
  clear hb hb2
  go_wp2
  go_ret
  exact ⟨rfl, HB.out⟩
end Go.Proofs.YtkopbpbmfdogfaaDoor
