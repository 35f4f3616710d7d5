/- pack.namedOrFree, called with any entry, tells whether it has a name, or no numbers, and changes nothing that was there. -/
import Derived.Test.YtlcadhojfnanfaaDoorWrMath
import Derived.Test.YtlcadhojfnanfaaDoorPut
namespace Go.Proofs.YtlcadhojfnanfaaDoor
set_option maxRecDepth 20000
open Go.RowKit Go.Lib

theorem named_any (s : ByteArray) (a1 a2 : Int) (w : World) :
    Calls Tryd.prog 27 #[.agg #[.string s, .int .i64 a1, .int .i64 a2]] w fun e w' => e = .returned (.bool (entFree s a1 a2)) ∧ Below w.heap.size w w' := by
  by_cases hs : s.size = 0
  · obtain rfl : s = ByteArray.empty := by simpa using hs
    by_cases h1 : a1 = 0
    · subst h1
      go_enter Tryd.func27, Tryd.ntmps27
      go_wp2
      go_ret
      exact ⟨by simp [entFree], (Below.refl _ _).alloc (Nat.le_refl _) _⟩
    · have h1b : (a1 == 0) = false := by simpa using h1
      go_enter Tryd.func27, Tryd.ntmps27
      go_wp2
      go_ret
      exact ⟨by simp [entFree, h1], (Below.refl _ _).alloc (Nat.le_refl _) _⟩
  · have he := toList_some hs
    go_enter Tryd.func27, Tryd.ntmps27
    go_wp2
    go_ret
    exact ⟨by simp [entFree, hs], (Below.refl _ _).alloc (Nat.le_refl _) _⟩
end Go.Proofs.YtlcadhojfnanfaaDoor
