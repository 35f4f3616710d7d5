/- The law ShelfFinds, called with any list of entries and any text, returns true, and changes nothing that was there. -/
import Derived.Test.YtndjnecjnfcapaaDoorShAwake
import Derived.Test.YtndjnecjnfcapaaDoorShRSpare
namespace Go.Proofs.YtndjnecjnfcapaaDoor
set_option maxRecDepth 20000
open Go.RowKit

/-- A list cut to 300 slots. -/
theorem cut_ens {w : World} {v : Value} {l : List En} (hv : Ens w v l) : ∃ oa cap, v = .slice oa l.length cap ∧ (¬ l.length ≤ 300 → Ens w (.slice oa 300 cap) (l.take 300)) := by
  obtain ⟨oa, cap, rfl⟩ := hv.form
  exact ⟨oa, cap, rfl, fun h => hv.cut 300 (by omega) cap⟩
set_option maxHeartbeats 1000000 in
theorem finds_rest (oa : Option Addr) (m cap : Nat) (l : List En) (n : ByteArray) (w : World) (hv : Ens w (.slice oa m cap) l) (hl : l.length ≤ 300) :
    (∀ w', Below w.heap.size w w' → Calls Tryd.prog 15 #[.slice oa m cap, .string n] w' fun e w'' => e = .returned (.int .i64 (fstI (hasN n) l)) ∧ Below w'.heap.size w' w'') ∧
    (∀ w', Below w.heap.size w w' → Calls Tryd.prog 16 #[.slice oa m cap, .string n] w' fun e w'' => e = .returned (.int .i64 (fstI (hasN n) l)) ∧ Below w'.heap.size w' w'') ∧
    (∀ w', Below w.heap.size w w' → Calls Tryd.prog 17 #[.slice oa m cap] w' fun e w'' => e = .returned (.int .i64 (spareI l)) ∧ Below w'.heap.size w' w'') ∧
    (∀ w', Below w.heap.size w w' → Calls Tryd.prog 18 #[.slice oa m cap] w' fun e w'' => e = .returned (.int .i64 (spareI l)) ∧ Below w'.heap.size w' w'') :=
  ⟨fun w' hb => find_any _ l n w' (hv.below hb) (by omega), fun w' hb => rfind_any _ l n w' (hv.below hb) (by omega), fun w' hb => spare_any _ l w' (hv.below hb) (by omega), fun w' hb => rspare_any _ l w' (hv.below hb) (by omega)⟩
set_option maxHeartbeats 2000000 in
theorem walk_shelfFinds (v : Value) (l : List En) (n : ByteArray) (w : World) (hv : Ens w v l ∧ (∀ x ∈ l, x.Ok) ∧ Capped v) :
    Calls Tryd.prog 6 #[v, .string n] w fun e w' => e = .returned (.bool true) ∧ Below w.heap.size w w' := by
  obtain ⟨hv, _, hcap⟩ := hv
  obtain ⟨oa, cap, rfl, hcut⟩ := cut_ens hv
  obtain ⟨hc1, hc2⟩ := hcap _ _ _ rfl
  by_cases hbig : l.length ≤ 300
  · have h300 : ¬ (300 : Int) < l.length := by omega
    obtain ⟨h1, h2, h3, h4⟩ := finds_rest oa _ cap l n w hv hbig
    generalize fstI (hasN n) l = x at *
    generalize spareI l = y at *
    generalize l.length = m at *
    clear hcut hv
    go_enter Tryd.func6, Tryd.ntmps6
    go_wp2_with fail
    refine (h1 _ (Below.refl _ _)).mono ?_
    rintro e w1 ⟨rfl, b1⟩
    clear h1
    have h2 := h2 w1 b1
    have B1 : Hid (Below w.heap.size w w1) := b1
    clear b1
    go_wp2_with fail
    refine h2.mono ?_
    rintro e w2 ⟨rfl, b2⟩
    clear h2
    have b2 := B1.out.trans (b2.mono B1.out.size)
    have h3 := h3 w2 b2
    have B2 : Hid (Below w.heap.size w w2) := b2
    clear b2
    go_wp2_with fail
    refine h3.mono ?_
    rintro e w3 ⟨rfl, b3⟩
    clear h3
    have b3 := B2.out.trans (b3.mono B2.out.size)
    have h4 := h4 w3 b3
    have B3 : Hid (Below w.heap.size w w3) := b3
    clear b3
    go_wp2_with fail
    refine h4.mono ?_
    rintro e w4 ⟨rfl, b4⟩
    clear h4
    have B4 : Hid (Below w.heap.size w w4) := B3.out.trans (b4.mono B3.out.size)
    clear b4
    go_wp2_with fail
    refine (awake_any _).mono ?_
    rintro e w5 ⟨rfl, b5⟩
    have B5 : Hid (Below w.heap.size w w5) := B4.out.trans (b5.mono B4.out.size)
    clear b5
    go_wp2
    go_ret
    exact ⟨rfl, B5.out⟩
  · have h300 : (300 : Int) < l.length := by omega
    have hcp : 300 ≤ cap := by omega
    have hcpi : (300 : Int) ≤ cap := by omega
    obtain ⟨h1, h2, h3, h4⟩ := finds_rest oa _ cap (l.take 300) n w (hcut hbig) (by rw [List.length_take]; omega)
    generalize fstI (hasN n) (l.take 300) = x at *
    generalize spareI (l.take 300) = y at *
    generalize l.length = m at *
    clear hcut hv
    go_enter Tryd.func6, Tryd.ntmps6
    go_wp2_with fail
    refine (h1 _ (Below.refl _ _)).mono ?_
    rintro e w1 ⟨rfl, b1⟩
    clear h1
    have h2 := h2 w1 b1
    have B1 : Hid (Below w.heap.size w w1) := b1
    clear b1
    go_wp2_with fail
    refine h2.mono ?_
    rintro e w2 ⟨rfl, b2⟩
    clear h2
    have b2 := B1.out.trans (b2.mono B1.out.size)
    have h3 := h3 w2 b2
    have B2 : Hid (Below w.heap.size w w2) := b2
    clear b2
    go_wp2_with fail
    refine h3.mono ?_
    rintro e w3 ⟨rfl, b3⟩
    clear h3
    have b3 := B2.out.trans (b3.mono B2.out.size)
    have h4 := h4 w3 b3
    have B3 : Hid (Below w.heap.size w w3) := b3
    clear b3
    go_wp2_with fail
    refine h4.mono ?_
    rintro e w4 ⟨rfl, b4⟩
    clear h4
    have B4 : Hid (Below w.heap.size w w4) := B3.out.trans (b4.mono B3.out.size)
    clear b4
    go_wp2_with fail
    refine (awake_any _).mono ?_
    rintro e w5 ⟨rfl, b5⟩
    have B5 : Hid (Below w.heap.size w w5) := B4.out.trans (b5.mono B4.out.size)
    clear b5
    go_wp2
    go_ret
    exact ⟨rfl, B5.out⟩
end Go.Proofs.YtndjnecjnfcapaaDoor
