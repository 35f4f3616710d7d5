/- The law PathWithin, called with any two lists of texts, returns true, and changes nothing that was there. -/
import Derived.Test.YtjpgmbebdkiofaaDoorPtWithin
namespace Go.Proofs.YtjpgmbebdkiofaaDoor
set_option maxRecDepth 20000
open Go.RowKit

set_option maxHeartbeats 1000000 in
theorem walk_pathWithin (va : Value) (la : List ByteArray) (vb : Value) (lb : List ByteArray) (w : World) (ha : LS w va la ∧ Capped va) (hb : LS w vb lb ∧ Capped vb) :
    Calls Tryd.prog 6 #[va, vb] w fun e w' => e = .returned (.bool true) ∧ Below w.heap.size w w' := by
  obtain ⟨oa, ca, rfl⟩ := ha.1.form
  obtain ⟨ob, cb, rfl⟩ := hb.1.form
  by_cases h1 : 200 < la.length
  · have h1' : (200 : Int) < la.length := by omega
    clear ha hb h1
    go_enter Tryd.func6, Tryd.ntmps6
    go_wp2_with fail
    refine (pawake_any _).mono ?_
    rintro e w3 ⟨rfl, b3⟩
    go_wp2
    go_ret
    exact ⟨rfl, b3⟩
  · have h1' : ¬ (200 : Int) < la.length := by omega
    by_cases h2 : 200 < lb.length
    · have h2' : (200 : Int) < lb.length := by omega
      clear ha hb h1 h2
      go_enter Tryd.func6, Tryd.ntmps6
      go_wp2_with fail
      refine (pawake_any _).mono ?_
      rintro e w3 ⟨rfl, b3⟩
      go_wp2
      go_ret
      exact ⟨rfl, b3⟩
    · have h2' : ¬ (200 : Int) < lb.length := by omega
      have k1 := within_any _ la _ lb w ha.1 hb.1 (by omega) (fit_slice (ha.2 _ _ _ rfl).1)
      have k2 : ∀ w', Below w.heap.size w w' → Calls Tryd.prog 18 #[.slice oa la.length ca, .slice ob lb.length cb] w' fun e w'' => e = .returned (.bool (decide (la.take lb.length = lb))) ∧ Below w'.heap.size w' w'' := fun w' h => rwithin_any _ la _ lb w' (ha.1.below h) (hb.1.below h) (by omega)
      clear ha hb h1 h2
      generalize decide (la.take lb.length = lb) = X at *
      go_enter Tryd.func6, Tryd.ntmps6
      go_wp2_with fail
      refine k1.mono ?_
      rintro e w1 ⟨rfl, b1⟩
      have hk := k2 w1 b1
      clear k1 k2
      go_wp2_with fail
      refine hk.mono ?_
      rintro e w2 ⟨rfl, b2⟩
      have B2 : Hid (Below w.heap.size w w2) := b1.trans (b2.mono b1.size)
      clear hk b1 b2
      go_wp2_with fail
      refine (pawake_any _).mono ?_
      rintro e w3 ⟨rfl, b3⟩
      have B3 : Hid (Below w.heap.size w w3) := B2.out.trans (b3.mono B2.out.size)
      clear b3
      go_wp2
      go_ret
      exact ⟨rfl, B3.out⟩
end Go.Proofs.YtjpgmbebdkiofaaDoor
