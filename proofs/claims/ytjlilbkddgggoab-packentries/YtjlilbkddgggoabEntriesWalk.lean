/- The law PackEntries, called with any entry, returns true, and changes nothing that was there. -/
import Derived.Test.YtjlilbkddgggoabAwake
import Derived.Test.YtjlilbkddgggoabEntry
import Derived.Test.YtjlilbkddgggoabRefEntry
import Derived.Test.YtjlilbkddgggoabOpenEntry
namespace Go.Proofs.Ytjlilbkddgggoab
open Go.RowKit

set_option maxHeartbeats 400000 in
theorem walk_packEntries (s : ByteArray) (a1 a2 : Int) (h : s.size ≤ maxLen ∧ IsInt a1 ∧ IsInt a2) (w : World) :
    Calls Try.prog 4 #[.agg #[.string s, .int .i64 a1, .int .i64 a2]] w fun e w' => e = .returned (.bool true) ∧ Below w.heap.size w w' := by
  have HM : Hid (∀ p ∈ entPs a1 a2, p.1 ≤ 9223372036854775807) := by
    obtain ⟨_, h1, h2⟩ := h
    intro p hp
    simp only [entPs, List.mem_cons, List.mem_nil_iff, or_false] at hp
    rcases hp with rfl | rfl
    all_goals (apply int_le8; assumption)
  clear h
  go_enter Try.func4, Try.ntmps4
  go_wp2_with fail
  refine (entry_any s a1 a2 _).mono ?_
  rintro e w1 ⟨rfl, hb1⟩
  have c0 := cells_kept hb1 0 _ rfl
  have c1 := cells_kept hb1 1 _ rfl
  have c2 := cells_kept hb1 2 _ rfl
  have hb1' : Below w.heap.size w w1 := ((Below.refl _ _).alloc (Nat.le_refl _) _).trans (hb1.mono (by simp))
  clear hb1
  go_wp2_with fail
  refine (rentry_any s a1 a2 HM.out _).mono ?_
  rintro e w2 ⟨rfl, hb2⟩
  clear c0 c1 c2
  go_wp2_with fail
  refine (awake_any _).mono ?_
  rintro e w3 ⟨rfl, hb3⟩
  go_wp2
  go_ret
  exact ⟨rfl, hb1'.trans ((hb2.mono hb1'.size).trans (hb3.mono (Nat.le_trans hb1'.size hb2.size)))⟩
end Go.Proofs.Ytjlilbkddgggoab
