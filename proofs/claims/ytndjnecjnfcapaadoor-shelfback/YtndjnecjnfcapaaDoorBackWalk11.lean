/- The law ShelfBack, called with any entries and any text, returns true, and changes nothing that was there. -/
import Derived.Test.YtndjnecjnfcapaaDoorShBack
import Derived.Test.YtndjnecjnfcapaaDoorPagesWalk11
namespace Go.Proofs.YtndjnecjnfcapaaDoor
set_option maxRecDepth 20000
open Go.RowKit

set_option maxHeartbeats 4000000 in
theorem walk_shelfBack (v : Value) (l : List En) (s : ByteArray) (w : World) (hv : Ens w v l ∧ (∀ x ∈ l, x.Ok) ∧ Capped v) :
    Calls Tryd.prog 5 #[v, .string s] w fun e w' => e = .returned (.bool true) ∧ Below w.heap.size w w' := by
  obtain ⟨hv, _, _⟩ := hv
  have h1 := body_any v l w hv
  have h2 := page_any (bodyS l)
  have h3 := page_any s
  have h4 : ∀ v' w', Ens w' v' (pageL s) → _ := fun v' w' h => body_any v' (pageL s) w' h
  have hA : bodyE l = 0 → pageE (bodyS l) = 0 ∧ pageL (bodyS l) = l := page_body
  have hB : pageE s = 0 → bodyE (pageL s) = 0 ∧ bodyS (pageL s) = s := body_page
  have hn := pageL_len (bodyS l)
  have HV : Hid (Ens w v l) := hv
  generalize pageE (bodyS l) = F at *
  generalize pageL (bodyS l) = M at *
  generalize bodyE l = E at *
  generalize bodyS l = S at *
  generalize bodyE (pageL s) = H at *
  generalize bodyS (pageL s) = T at *
  generalize pageE s = G at *
  generalize pageL s = N at *
  clear hv
  by_cases gE : E = 0
  · have hE : E = 0 := gE
    subst hE
    obtain ⟨hF, hM⟩ := hA rfl
    subst hF
    subst hM
    clear hA gE
    by_cases gG : G = 0
    · have hG : G = 0 := gG
      subst hG
      obtain ⟨hH, hT⟩ := hB rfl
      subst hH
      rw [hT] at h4
      clear hB gG
      go_enter Tryd.func5, Tryd.ntmps5
      go_wp2_with fail
      refine h1.mono ?_
      rintro e w1 ⟨rfl, b1⟩
      have B1 : Hid (Below w.heap.size w w1) := b1
      clear h1 b1
      go_wp2_with fail
      refine (h2 _).mono ?_
      rintro e w2 ⟨v2, rfl, z2, b2⟩
      have B2 : Hid (Below w.heap.size w w2) := B1.out.trans (b2.mono B1.out.size)
      have Z2 : Hid (Ens w2 v2 M) := z2.ens
      clear h2 b2 z2 B1
      go_wp2_with fail
      refine (h3 _).mono ?_
      rintro e w3 ⟨v3, rfl, z3, b3⟩
      have B3 : Hid (Below w.heap.size w w3) := B2.out.trans (b3.mono B2.out.size)
      have Z3 : Hid (Ens w3 v2 M) := Z2.out.below b3
      have k4 := h4 v3 w3 z3.ens
      clear h3 h4 b3 z3 B2 Z2
      go_wp2_with fail
      refine k4.mono ?_
      rintro e w4 ⟨rfl, b4⟩
      have B4 : Hid (Below w.heap.size w w4) := B3.out.trans (b4.mono B3.out.size)
      have Z4 : Hid (Ens w4 v2 M) := Z3.out.below b4
      clear k4 b4 B3 Z3
      have ks := same_any v2 _ v _ w4 Z4.out (HV.out.below B4.out) (by omega)
      rw [decide_eq_true rfl] at ks
      go_wp2_with fail
      refine ks.mono ?_
      rintro e w5 ⟨rfl, b5⟩
      have B5 : Hid (Below w.heap.size w w5) := B4.out.trans (b5.mono B4.out.size)
      clear ks b5 B4 Z4
      go_wp2_with fail
      refine (awake_any _).mono ?_
      rintro e w6 ⟨rfl, b6⟩
      have B6 : Hid (Below w.heap.size w w6) := B5.out.trans (b6.mono B5.out.size)
      clear b6
      go_wp2
      go_ret
      exact ⟨rfl, B6.out⟩
    · have hG : ¬ G = 0 := gG
      clear hB gG
      go_enter Tryd.func5, Tryd.ntmps5
      go_wp2_with fail
      refine h1.mono ?_
      rintro e w1 ⟨rfl, b1⟩
      have B1 : Hid (Below w.heap.size w w1) := b1
      clear h1 b1
      go_wp2_with fail
      refine (h2 _).mono ?_
      rintro e w2 ⟨v2, rfl, z2, b2⟩
      have B2 : Hid (Below w.heap.size w w2) := B1.out.trans (b2.mono B1.out.size)
      have Z2 : Hid (Ens w2 v2 M) := z2.ens
      clear h2 b2 z2 B1
      go_wp2_with fail
      refine (h3 _).mono ?_
      rintro e w3 ⟨v3, rfl, z3, b3⟩
      have B3 : Hid (Below w.heap.size w w3) := B2.out.trans (b3.mono B2.out.size)
      have Z3 : Hid (Ens w3 v2 M) := Z2.out.below b3
      have k4 := h4 v3 w3 z3.ens
      clear h3 h4 b3 z3 B2 Z2
      go_wp2_with fail
      refine k4.mono ?_
      rintro e w4 ⟨rfl, b4⟩
      have B4 : Hid (Below w.heap.size w w4) := B3.out.trans (b4.mono B3.out.size)
      have Z4 : Hid (Ens w4 v2 M) := Z3.out.below b4
      clear k4 b4 B3 Z3
      have ks := same_any v2 _ v _ w4 Z4.out (HV.out.below B4.out) (by omega)
      rw [decide_eq_true rfl] at ks
      go_wp2_with fail
      refine ks.mono ?_
      rintro e w5 ⟨rfl, b5⟩
      have B5 : Hid (Below w.heap.size w w5) := B4.out.trans (b5.mono B4.out.size)
      clear ks b5 B4 Z4
      go_wp2_with fail
      refine (awake_any _).mono ?_
      rintro e w6 ⟨rfl, b6⟩
      have B6 : Hid (Below w.heap.size w w6) := B5.out.trans (b6.mono B5.out.size)
      clear b6
      go_wp2
      go_ret
      exact ⟨rfl, B6.out⟩
  · have hE : ¬ E = 0 := gE
    clear hA gE
    by_cases gG : G = 0
    · have hG : G = 0 := gG
      subst hG
      obtain ⟨hH, hT⟩ := hB rfl
      subst hH
      rw [hT] at h4
      clear hB gG
      go_enter Tryd.func5, Tryd.ntmps5
      go_wp2_with fail
      refine h1.mono ?_
      rintro e w1 ⟨rfl, b1⟩
      have B1 : Hid (Below w.heap.size w w1) := b1
      clear h1 b1
      go_wp2_with fail
      refine (h2 _).mono ?_
      rintro e w2 ⟨v2, rfl, z2, b2⟩
      have B2 : Hid (Below w.heap.size w w2) := B1.out.trans (b2.mono B1.out.size)
      have Z2 : Hid (Ens w2 v2 M) := z2.ens
      clear h2 b2 z2 B1
      go_wp2_with fail
      refine (h3 _).mono ?_
      rintro e w3 ⟨v3, rfl, z3, b3⟩
      have B3 : Hid (Below w.heap.size w w3) := B2.out.trans (b3.mono B2.out.size)
      have Z3 : Hid (Ens w3 v2 M) := Z2.out.below b3
      have k4 := h4 v3 w3 z3.ens
      clear h3 h4 b3 z3 B2 Z2
      go_wp2_with fail
      refine k4.mono ?_
      rintro e w4 ⟨rfl, b4⟩
      have B4 : Hid (Below w.heap.size w w4) := B3.out.trans (b4.mono B3.out.size)
      have Z4 : Hid (Ens w4 v2 M) := Z3.out.below b4
      clear k4 b4 B3 Z3
      have B5 := B4
      clear Z4
      go_wp2_with fail
      refine (awake_any _).mono ?_
      rintro e w6 ⟨rfl, b6⟩
      have B6 : Hid (Below w.heap.size w w6) := B5.out.trans (b6.mono B5.out.size)
      clear b6
      go_wp2
      go_ret
      exact ⟨rfl, B6.out⟩
    · have hG : ¬ G = 0 := gG
      clear hB gG
      go_enter Tryd.func5, Tryd.ntmps5
      go_wp2_with fail
      refine h1.mono ?_
      rintro e w1 ⟨rfl, b1⟩
      have B1 : Hid (Below w.heap.size w w1) := b1
      clear h1 b1
      go_wp2_with fail
      refine (h2 _).mono ?_
      rintro e w2 ⟨v2, rfl, z2, b2⟩
      have B2 : Hid (Below w.heap.size w w2) := B1.out.trans (b2.mono B1.out.size)
      have Z2 : Hid (Ens w2 v2 M) := z2.ens
      clear h2 b2 z2 B1
      go_wp2_with fail
      refine (h3 _).mono ?_
      rintro e w3 ⟨v3, rfl, z3, b3⟩
      have B3 : Hid (Below w.heap.size w w3) := B2.out.trans (b3.mono B2.out.size)
      have Z3 : Hid (Ens w3 v2 M) := Z2.out.below b3
      have k4 := h4 v3 w3 z3.ens
      clear h3 h4 b3 z3 B2 Z2
      go_wp2_with fail
      refine k4.mono ?_
      rintro e w4 ⟨rfl, b4⟩
      have B4 : Hid (Below w.heap.size w w4) := B3.out.trans (b4.mono B3.out.size)
      have Z4 : Hid (Ens w4 v2 M) := Z3.out.below b4
      clear k4 b4 B3 Z3
      have B5 := B4
      clear Z4
      go_wp2_with fail
      refine (awake_any _).mono ?_
      rintro e w6 ⟨rfl, b6⟩
      have B6 : Hid (Below w.heap.size w w6) := B5.out.trans (b6.mono B5.out.size)
      clear b6
      go_wp2
      go_ret
      exact ⟨rfl, B6.out⟩
end Go.Proofs.YtndjnecjnfcapaaDoor
