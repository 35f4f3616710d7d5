/- The law PackSupers, called with any superblock, returns true, and changes nothing that was there. -/
import Derived.Test.YtjlilbkddgggoabAwake
import Derived.Test.YtjlilbkddgggoabSuper
import Derived.Test.YtjlilbkddgggoabRefSuper
import Derived.Test.YtjlilbkddgggoabOpenSuper
namespace Go.Proofs.Ytjlilbkddgggoab
open Go.RowKit

set_option maxHeartbeats 400000 in
theorem walk_packSupers (a0 a1 a2 a3 : Int) (r : ByteArray) (h : IsInt a0 ∧ IsInt a1 ∧ IsInt a2 ∧ IsInt a3 ∧ r.size ≤ maxLen) (w : World) :
    Calls Try.prog 5 #[.agg #[.int .i64 a0, .int .i64 a1, .int .i64 a2, .int .i64 a3, .string r]] w fun e w' => e = .returned (.bool true) ∧ Below w.heap.size w w' := by
  have HM : Hid (∀ p ∈ superPs a0 a1 a2 a3, p.1 ≤ 9223372036854775807) := by
    obtain ⟨h0, h1, h2, h3, _⟩ := h
    intro p hp
    simp only [superPs, List.mem_cons, List.mem_nil_iff, or_false] at hp
    rcases hp with rfl | rfl | rfl | rfl
    all_goals (apply int_le8; assumption)
  clear h
  go_enter Try.func5, Try.ntmps5
  go_wp2_with fail
  refine (super_any a0 a1 a2 a3 r _).mono ?_
  rintro e w1 ⟨rfl, hb1⟩
  have c0 := cells_kept hb1 0 _ rfl
  have c1 := cells_kept hb1 1 _ rfl
  have c2 := cells_kept hb1 2 _ rfl
  have c3 := cells_kept hb1 3 _ rfl
  have c4 := cells_kept hb1 4 _ rfl
  have hb1' : Below w.heap.size w w1 := ((Below.refl _ _).alloc (Nat.le_refl _) _).trans (hb1.mono (by simp))
  clear hb1
  go_wp2_with fail
  refine (rsuper_any a0 a1 a2 a3 r HM.out _).mono ?_
  rintro e w2 ⟨rfl, hb2⟩
  clear c0 c1 c2 c3 c4
  go_wp2_with fail
  refine (awake_any _).mono ?_
  rintro e w3 ⟨rfl, hb3⟩
  go_wp2
  go_ret
  exact ⟨rfl, hb1'.trans ((hb2.mono hb1'.size).trans (hb3.mono (Nat.le_trans hb1'.size hb2.size)))⟩
end Go.Proofs.Ytjlilbkddgggoab
