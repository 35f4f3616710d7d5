/- The laws ChartLayouts and ChartApart, called with any numbers, return true, and change nothing that was there. -/
import Derived.Test.YtcmbphppeobhfaaCtLaw
import Derived.Test.YtcmbphppeobhfaaCtRLay
namespace Go.Proofs.Ytcmbphppeobhfaa
set_option maxRecDepth 20000
open Go.RowKit

theorem layV_form (n : Int) : ∃ x0 x1 x2 x3 x4 x5 x6 x7 x8 x9 x10 x11 x12 x13 x14 x15 : Int, layV n = #[.int .i64 x0, .int .i64 x1, .int .i64 x2, .int .i64 x3, .int .i64 x4, .int .i64 x5, .int .i64 x6, .int .i64 x7, .int .i64 x8, .int .i64 x9, .int .i64 x10, .int .i64 x11, .int .i64 x12, .int .i64 x13, .int .i64 x14, .int .i64 x15] := by
  unfold layV
  split
  · exact ⟨_, _, _, _, _, _, _, _, _, _, _, _, _, _, _, _, rfl⟩
  · exact ⟨_, _, _, _, _, _, _, _, _, _, _, _, _, _, _, _, rfl⟩
set_option maxHeartbeats 2000000 in
theorem walk_chartLayouts (n : Int) (w : World) :
    Calls Try.prog 3 #[.int .i64 n] w fun e w' => e = .returned (.bool true) ∧ Below w.heap.size w w' := by
  have h1 := layout_all n
  have h2 := rlayout_all n
  obtain ⟨x0, x1, x2, x3, x4, x5, x6, x7, x8, x9, x10, x11, x12, x13, x14, x15, hx⟩ := layV_form n
  rw [hx] at h1 h2
  clear hx
  generalize layE n = y at *
  go_enter Try.func3, Try.ntmps3
  go_wp2_with fail
  refine (h1 _).mono ?_
  rintro e w1 ⟨rfl, hb1⟩
  clear h1
  go_wp2_with fail
  refine (h2 _).mono ?_
  rintro e w2 ⟨rfl, hb2⟩
  clear h2
  have hc0 := (hb2.block w1.heap.size (by simp)).trans (heap_alloc_new w1 _)
  have hl0 := hb2.size
  rw [World.size_alloc] at hl0
  have hc1 := (Below.heap_alloc w2 (.cells #[.int .i64 x0, .int .i64 x1, .int .i64 x2, .int .i64 x3, .int .i64 x4, .int .i64 x5, .int .i64 x6, .int .i64 x7, .int .i64 x8, .int .i64 x9, .int .i64 x10, .int .i64 x11, .int .i64 x12, .int .i64 x13, .int .i64 x14, .int .i64 x15] 23) w1.heap.size (by omega)).trans hc0
  have HB : Hid (Below w.heap.size w (w2.alloc (.cells #[.int .i64 x0, .int .i64 x1, .int .i64 x2, .int .i64 x3, .int .i64 x4, .int .i64 x5, .int .i64 x6, .int .i64 x7, .int .i64 x8, .int .i64 x9, .int .i64 x10, .int .i64 x11, .int .i64 x12, .int .i64 x13, .int .i64 x14, .int .i64 x15] 23))) := (hb1.trans (((Below.refl _ _).alloc (Nat.le_refl _) _).mono hb1.size |>.trans (hb2.mono (by rw [World.size_alloc]; exact Nat.le_succ_of_le hb1.size)))).alloc (by have := hb1.size; omega) _
  clear hb1 hb2 hc0
  go_wp2_with (refine wpList_load_row rfl 23 _ rfl w1.heap.size rfl 23 _ (0, 0) _ hc1 Try.underlying23 rfl (by kernel_rfl) ?_)
  refine (cawake_any _).mono ?_
  rintro e w4 ⟨rfl, hb4⟩
  have HF : Hid (Below w.heap.size w w4) := HB.out.trans (hb4.mono HB.out.size)
  clear HB hb4 hc1 hl0
  go_wp2
  go_ret
  exact ⟨rfl, HF.out⟩
end Go.Proofs.Ytcmbphppeobhfaa
