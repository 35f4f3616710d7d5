/- The law PathJoins, called with any list of texts, returns true, and changes nothing that was there. -/
import Derived.Test.YtjpgmbebdkiofaaDoorPtRJoin
namespace Go.Proofs.YtjpgmbebdkiofaaDoor
set_option maxRecDepth 20000
open Go.RowKit

set_option maxHeartbeats 1000000 in
theorem walk_pathJoins (v : Value) (l : List ByteArray) (w : World) (hv : LS w v l ∧ Capped v) :
    Calls Tryd.prog 5 #[v] w fun e w' => e = .returned (.bool true) ∧ Below w.heap.size w w' := by
  obtain ⟨oa, ca, rfl⟩ := hv.1.form
  by_cases h2 : 200 < l.length
  · have h2' : (200 : Int) < l.length := by omega
    have hc2 : (200 : Int) ≤ ca := by have := (hv.2 _ _ _ rfl).1; omega
    have l2 : LS w (.slice oa 200 ca) (l.take 200) := hv.1.cut 200 h2 ca
    have n2 : (l.take 200).length ≤ 200 := by rw [List.length_take]; omega
    have k1 := pjoin_any _ _ w l2 (by omega)
    have k2 : ∀ w', Below w.heap.size w w' → Calls Tryd.prog 16 #[.slice oa 200 ca] w' fun e w'' => e = .returned (.tuple #[.string (mkB (jn (lsts (l.take 200))).1), .int .i64 (jn (lsts (l.take 200))).2]) ∧ Below w'.heap.size w' w'' := fun w' h => rjoin_any _ _ w' (l2.below h) (by omega)
    generalize mkB (jn (lsts (l.take 200))).1 = T at *
    generalize (jn (lsts (l.take 200))).2 = E at *
    clear hv l2 n2 h2
    go_enter Tryd.func5, Tryd.ntmps5
    go_wp2_with fail
    refine k1.mono ?_
    rintro e w1 ⟨rfl, b1⟩
    have hk := k2 w1 b1
    clear k1 k2
    go_wp2_with fail
    refine hk.mono ?_
    rintro e w2 ⟨rfl, b2⟩
    have B2 : Hid (Below w.heap.size w w2) := b1.trans (b2.mono b1.size)
    clear hk b1 b2
    go_wp2_with fail
    refine (pawake_any _).mono ?_
    rintro e w3 ⟨rfl, b3⟩
    have B3 : Hid (Below w.heap.size w w3) := B2.out.trans (b3.mono B2.out.size)
    clear b3
    go_wp2
    go_ret
    exact ⟨rfl, B3.out⟩
  · have h2' : ¬ (200 : Int) < l.length := by omega
    have l2 : LS w (.slice oa l.length ca) l := hv.1
    have n2 : l.length ≤ 200 := by omega
    have k1 := pjoin_any _ _ w l2 (by omega)
    have k2 : ∀ w', Below w.heap.size w w' → Calls Tryd.prog 16 #[.slice oa l.length ca] w' fun e w'' => e = .returned (.tuple #[.string (mkB (jn (lsts (l))).1), .int .i64 (jn (lsts (l))).2]) ∧ Below w'.heap.size w' w'' := fun w' h => rjoin_any _ _ w' (l2.below h) (by omega)
    generalize mkB (jn (lsts (l))).1 = T at *
    generalize (jn (lsts (l))).2 = E at *
    clear hv l2 n2 h2
    go_enter Tryd.func5, Tryd.ntmps5
    go_wp2_with fail
    refine k1.mono ?_
    rintro e w1 ⟨rfl, b1⟩
    have hk := k2 w1 b1
    clear k1 k2
    go_wp2_with fail
    refine hk.mono ?_
    rintro e w2 ⟨rfl, b2⟩
    have B2 : Hid (Below w.heap.size w w2) := b1.trans (b2.mono b1.size)
    clear hk b1 b2
    go_wp2_with fail
    refine (pawake_any _).mono ?_
    rintro e w3 ⟨rfl, b3⟩
    have B3 : Hid (Below w.heap.size w w3) := B2.out.trans (b3.mono B2.out.size)
    clear b3
    go_wp2
    go_ret
    exact ⟨rfl, B3.out⟩
end Go.Proofs.YtjpgmbebdkiofaaDoor
