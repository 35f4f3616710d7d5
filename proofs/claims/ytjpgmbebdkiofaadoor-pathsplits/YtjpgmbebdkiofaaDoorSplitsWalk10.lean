/- The law PathSplits, called with any text, returns true, and changes nothing that was there. -/
import Derived.Test.YtjpgmbebdkiofaaDoorPtLaw
namespace Go.Proofs.YtjpgmbebdkiofaaDoor
set_option maxRecDepth 20000
open Go.RowKit

theorem walk_pathSplits (s : ByteArray) (w : World) :
    Calls Tryd.prog 4 #[.string s] w fun e w' => e = .returned (.bool true) ∧ Below w.heap.size w w' := by
  have h1 := psplit_any s
  have h2 := rsplit_any s
  have hl : ((spL s.data.toList).map mkB).length ≤ 1000000000 := by
    rw [List.length_map]
    unfold spL
    split
    · rename_i h
      have := (sp_form h.1).1
      have := cut_len s.data.toList.tail
      rw [List.length_tail] at this
      omega
    · simp
  generalize (spL s.data.toList).map mkB = L at *
  generalize spE s.data.toList = x at *
  go_enter Tryd.func4, Tryd.ntmps4
  go_wp2_with fail
  refine (h1 _).mono ?_
  rintro e w1 ⟨v1, rfl, l1, b1, _⟩
  clear h1
  go_wp2_with fail
  refine (h2 _).mono ?_
  rintro e w2 ⟨v2, rfl, l2, b2⟩
  clear h2
  have l1' := l1.below b2
  have hs := psame_any v1 L v2 L w2 l1' l2 hl
  rw [decide_eq_true rfl] at hs
  have B2 : Hid (Below w.heap.size w w2) := b1.trans (b2.mono b1.size)
  clear l1 l2 l1' b1 b2 hl
  go_wp2_with fail
  refine hs.mono ?_
  rintro e w3 ⟨rfl, b3⟩
  have B3 : Hid (Below w.heap.size w w3) := B2.out.trans (b3.mono B2.out.size)
  clear b3 hs
  go_wp2_with fail
  refine (pawake_any _).mono ?_
  rintro e w4 ⟨rfl, b4⟩
  have B4 : Hid (Below w.heap.size w w4) := B3.out.trans (b4.mono B3.out.size)
  clear b4
  go_wp2
  go_ret
  exact ⟨rfl, B4.out⟩
end Go.Proofs.YtjpgmbebdkiofaaDoor
