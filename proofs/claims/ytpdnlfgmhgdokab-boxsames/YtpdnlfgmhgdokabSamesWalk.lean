/- The law BoxSames, called with any two texts, returns true, and changes nothing that was there. -/
import Derived.Test.YtpdnlfgmhgdokabBoxSame
namespace Go.Proofs.Ytpdnlfgmhgdokab
open Go.RowKit

theorem text_ne {a b : ByteArray} (h : a ≠ b) : (a.toList == b.toList) = false := by
  rw [beq_eq_false_iff_ne]
  intro e
  rw [ByteArray.toList_eq, ByteArray.toList_eq] at e
  exact h (ByteArray.ext (Array.toList_inj.1 e))

set_option maxRecDepth 10000 in
set_option maxHeartbeats 1000000 in
theorem walk_boxSames (a b : ByteArray) (ha : a.size ≤ maxLen) (w : World) :
    Calls Try.prog 4 #[.string a, .string b] w fun e w' => e = .returned (.bool true) ∧ Below w.heap.size w w' := by
  have h1 := fun w => same_any a b ha w
  have h2 := fun w => same_any a a ha w
  rw [decide_eq_true (rfl : a = a)] at h2
  by_cases he : a = b
  · subst he
    clear h1
    go_enter Try.func4, Try.ntmps4
    go_wp2_with fail
    refine (h2 _).mono ?_
    rintro e w1 ⟨rfl, hb1⟩
    go_wp2_with fail
    refine (h2 _).mono ?_
    rintro e w2 ⟨rfl, hb2⟩
    have hb2' := hb1.trans (hb2.mono hb1.size)
    clear hb1 hb2 h2
    go_wp2_with fail
    refine (awake_any w2).mono ?_
    rintro e w3 ⟨rfl, hb3⟩
    have hb3' := hb2'.trans (hb3.mono hb2'.size)
    clear hb2' hb3
    go_wp2
    go_ret
    exact ⟨rfl, hb3'⟩
  · rw [decide_eq_false he] at h1
    have he' := text_ne he
    go_enter Try.func4, Try.ntmps4
    go_wp2_with fail
    refine (h1 _).mono ?_
    rintro e w1 ⟨rfl, hb1⟩
    clear h1
    go_wp2_with fail
    refine (h2 _).mono ?_
    rintro e w2 ⟨rfl, hb2⟩
    have hb2' := hb1.trans (hb2.mono hb1.size)
    clear hb1 hb2 h2
    go_wp2_with fail
    refine (awake_any w2).mono ?_
    rintro e w3 ⟨rfl, hb3⟩
    have hb3' := hb2'.trans (hb3.mono hb2'.size)
    clear hb2' hb3
    go_wp2
    go_ret
    exact ⟨rfl, hb3'⟩
end Go.Proofs.Ytpdnlfgmhgdokab
