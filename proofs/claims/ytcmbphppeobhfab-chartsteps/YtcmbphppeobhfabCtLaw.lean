/- The laws' awake. -/
import Derived.Test.YtcmbphppeobhfabCtLay
import Derived.Test.YtcmbphppeobhfabCtPlace
namespace Go.Proofs.Ytcmbphppeobhfab
set_option maxRecDepth 20000
open Go.RowKit

theorem layA_one (n q s t : Nat) : (layA n q s t).all (·.oneCell') = true := by simp [layA, Value.oneCell']
set_option maxHeartbeats 2000000 in
theorem cawake_any (w : World) : Calls Try.prog 9 #[] w fun e w' => e = .returned (.bool true) ∧ Below w.heap.size w w' := by
  have h1 := layout_any 48 (by decide) (by decide)
  have h2 := place_1 12 (by decide) (by decide)
  rw [show layA 48 (layQ 48) (layS 48) (layT 48) = #[.int .i64 48, .int .i64 2, .int .i64 3, .int .i64 27, .int .i64 28, .int .i64 29, .int .i64 6, .int .i64 35, .int .i64 1, .int .i64 36, .int .i64 37, .int .i64 48, .int .i64 49, .int .i64 1, .int .i64 50, .int .i64 98] from rfl] at h1
  go_enter Try.func9, Try.ntmps9
  go_wp2_with fail
  refine (h1 _).mono ?_
  rintro e w1 ⟨rfl, hb1⟩
  clear h1
  go_wp2_with fail
  refine (h2 _).mono ?_
  rintro e w2 ⟨rfl, rfl⟩
  clear h2
  have hb2 := hb1.trans ((Below.refl _ _).alloc (w := w1) (Nat.le_refl _) (.cells #[.int .i64 48, .int .i64 2, .int .i64 3, .int .i64 27, .int .i64 28, .int .i64 29, .int .i64 6, .int .i64 35, .int .i64 1, .int .i64 36, .int .i64 37, .int .i64 48, .int .i64 49, .int .i64 1, .int .i64 50, .int .i64 98] 42) |>.mono hb1.size)
  have HB : Hid (Below w.heap.size w _) := hb2
  clear hb1 hb2
  go_wp2_with fail
  go_ret
  exact ⟨rfl, HB.out⟩
end Go.Proofs.Ytcmbphppeobhfab
