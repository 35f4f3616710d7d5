/- The law ShelfNames, called with any list of entries, returns true, and changes nothing that was there. -/
import Derived.Test.YtndjnecjnfcapaaDoorFindsWalk11
import Derived.Test.YtndjnecjnfcapaaDoorShRNames
import Derived.Test.YtndjnecjnfcapaaDoorShSame
namespace Go.Proofs.YtndjnecjnfcapaaDoor
set_option maxRecDepth 20000
open Go.RowKit

set_option maxHeartbeats 2000000 in
theorem walk_shelfNames (v : Value) (l : List En) (w : World) (hv : Ens w v l ∧ (∀ x ∈ l, x.Ok) ∧ Capped v) :
    Calls Tryd.prog 7 #[v] w fun e w' => e = .returned (.bool true) ∧ Below w.heap.size w w' := by
  obtain ⟨hv, hok, hcap⟩ := hv
  obtain ⟨oa, cap, rfl, hcut⟩ := cut_ens hv
  obtain ⟨hc1, hc2⟩ := hcap _ _ _ rfl
  have key : ∀ (m : Nat) (L : List En), Ens w (.slice oa m cap) L → L.length ≤ 300 → (∀ x ∈ L, x.Ok) → (∀ w', Below w.heap.size w w' → Calls Tryd.prog 19 #[.slice oa m cap] w' fun e w'' => ∃ v', e = .returned v' ∧ EZ w'' w'.heap.size v' (namedL L) ∧ Below w'.heap.size w' w'') ∧ (∀ w', Below w.heap.size w w' → Calls Tryd.prog 20 #[.slice oa m cap] w' fun e w'' => ∃ v', e = .returned v' ∧ EZ w'' w'.heap.size v' (namedL L) ∧ Below w'.heap.size w' w'') ∧ (namedL L).length ≤ 300 :=
    fun m L hL hl hk => ⟨fun w' hb => names_any _ L w' (hL.below hb) (fun x hx => (hk x hx).nm) (by omega), fun w' hb => rnames_any _ L w' (hL.below hb) (by omega), Nat.le_trans (List.length_filter_le _ _) hl⟩
  by_cases hbig : l.length ≤ 300
  · have h300 : ¬ (300 : Int) < l.length := by omega
    obtain ⟨h1, h2, h3⟩ := key _ l hv hbig hok
    generalize namedL l = L at *
    generalize l.length = m at *
    clear hcut hv key hok
    go_enter Tryd.func7, Tryd.ntmps7
    go_wp2_with fail
    refine (h1 _ (Below.refl _ _)).mono ?_
    rintro e w1 ⟨v1, rfl, z1, b1⟩
    clear h1
    have h2 := h2 w1 b1
    have B1 : Hid (Below w.heap.size w w1) := b1
    clear b1
    go_wp2_with fail
    refine h2.mono ?_
    rintro e w2 ⟨v2, rfl, z2, b2⟩
    clear h2
    have hs := same_any v1 L v2 L w2 (z1.ens.below b2) z2.ens (by omega)
    rw [decide_eq_true rfl] at hs
    have B2 : Hid (Below w.heap.size w w2) := B1.out.trans (b2.mono B1.out.size)
    clear b2 z1 z2
    go_wp2_with fail
    refine hs.mono ?_
    rintro e w3 ⟨rfl, b3⟩
    have B3 : Hid (Below w.heap.size w w3) := B2.out.trans (b3.mono B2.out.size)
    clear b3 hs
    go_wp2_with fail
    refine (awake_any _).mono ?_
    rintro e w4 ⟨rfl, b4⟩
    have B4 : Hid (Below w.heap.size w w4) := B3.out.trans (b4.mono B3.out.size)
    clear b4
    go_wp2
    go_ret
    exact ⟨rfl, B4.out⟩
  · have h300 : (300 : Int) < l.length := by omega
    have hcp : 300 ≤ cap := by omega
    have hcpi : (300 : Int) ≤ cap := by omega
    obtain ⟨h1, h2, h3⟩ := key _ (l.take 300) (hcut hbig) (by rw [List.length_take]; omega) (fun x hx => hok x (List.mem_of_mem_take hx))
    generalize namedL (l.take 300) = L at *
    generalize l.length = m at *
    clear hcut hv key hok
    go_enter Tryd.func7, Tryd.ntmps7
    go_wp2_with fail
    refine (h1 _ (Below.refl _ _)).mono ?_
    rintro e w1 ⟨v1, rfl, z1, b1⟩
    clear h1
    have h2 := h2 w1 b1
    have B1 : Hid (Below w.heap.size w w1) := b1
    clear b1
    go_wp2_with fail
    refine h2.mono ?_
    rintro e w2 ⟨v2, rfl, z2, b2⟩
    clear h2
    have hs := same_any v1 L v2 L w2 (z1.ens.below b2) z2.ens (by omega)
    rw [decide_eq_true rfl] at hs
    have B2 : Hid (Below w.heap.size w w2) := B1.out.trans (b2.mono B1.out.size)
    clear b2 z1 z2
    go_wp2_with fail
    refine hs.mono ?_
    rintro e w3 ⟨rfl, b3⟩
    have B3 : Hid (Below w.heap.size w w3) := B2.out.trans (b3.mono B2.out.size)
    clear b3 hs
    go_wp2_with fail
    refine (awake_any _).mono ?_
    rintro e w4 ⟨rfl, b4⟩
    have B4 : Hid (Below w.heap.size w w4) := B3.out.trans (b4.mono B3.out.size)
    clear b4
    go_wp2
    go_ret
    exact ⟨rfl, B4.out⟩
end Go.Proofs.YtndjnecjnfcapaaDoor
