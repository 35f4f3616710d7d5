/- The law PackHeads, called with any head, returns true, and changes nothing that was there. -/
import Derived.Test.YtjlilbkddgggoaaAwake
import Derived.Test.YtjlilbkddgggoaaHead
import Derived.Test.YtjlilbkddgggoaaRefHead
import Derived.Test.YtjlilbkddgggoaaOpenHead
namespace Go.Proofs.Ytjlilbkddgggoaa
open Go.RowKit
theorem int_le8 {x : Int} (h : IsInt x) : x ≤ 9223372036854775807 := by
  simp [IsInt, Lit.wf, IntKind.min, IntKind.max, IntKind.signed, IntKind.bits] at h
  omega

set_option maxHeartbeats 400000 in
theorem walk_packHeads (a0 a1 a2 a3 a4 a5 a6 a7 : Int) (h : IsInt a0 ∧ IsInt a1 ∧ IsInt a2 ∧ IsInt a3 ∧ IsInt a4 ∧ IsInt a5 ∧ IsInt a6 ∧ IsInt a7) (w : World) :
    Calls Try.prog 7 #[.agg #[.int .i64 a0, .int .i64 a1, .int .i64 a2, .int .i64 a3, .int .i64 a4, .int .i64 a5, .int .i64 a6, .int .i64 a7]] w fun e w' => e = .returned (.bool true) ∧ Below w.heap.size w w' := by
  have HM : Hid (∀ p ∈ headPs a0 a1 a2 a3 a4 a5 a6 a7, p.1 ≤ 9223372036854775807) := by
    obtain ⟨h0, h1, h2, h3, h4, h5, h6, h7⟩ := h
    intro p hp
    simp only [headPs, List.mem_cons, List.mem_nil_iff, or_false] at hp
    rcases hp with rfl | rfl | rfl | rfl | rfl | rfl | rfl | rfl
    all_goals (apply int_le8; assumption)
  clear h
  go_enter Try.func7, Try.ntmps7
  go_wp2_with fail
  refine (head_any a0 a1 a2 a3 a4 a5 a6 a7 _).mono ?_
  rintro e w1 ⟨rfl, hb1⟩
  have c0 := cells_kept hb1 0 _ rfl
  have c1 := cells_kept hb1 1 _ rfl
  have c2 := cells_kept hb1 2 _ rfl
  have c3 := cells_kept hb1 3 _ rfl
  have c4 := cells_kept hb1 4 _ rfl
  have c5 := cells_kept hb1 5 _ rfl
  have c6 := cells_kept hb1 6 _ rfl
  have c7 := cells_kept hb1 7 _ rfl
  have hb1' : Below w.heap.size w w1 := ((Below.refl _ _).alloc (Nat.le_refl _) _).trans (hb1.mono (by simp))
  clear hb1
  go_wp2_with fail
  refine (rhead_any a0 a1 a2 a3 a4 a5 a6 a7 HM.out _).mono ?_
  rintro e w2 ⟨rfl, hb2⟩
  clear c0 c1 c2 c3 c4 c5 c6 c7
  go_wp2_with fail
  refine (awake_any _).mono ?_
  rintro e w3 ⟨rfl, hb3⟩
  go_wp2
  go_ret
  exact ⟨rfl, hb1'.trans ((hb2.mono hb1'.size).trans (hb3.mono (Nat.le_trans hb1'.size hb2.size)))⟩
end Go.Proofs.Ytjlilbkddgggoaa
