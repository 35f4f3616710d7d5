/- The law VaultIdeals, called with any script, returns true, and changes nothing that was there. -/
import Derived.Test.YtfmaajfohieneaaVtDuo
namespace Go.Proofs.Ytfmaajfohieneaa
open Go.RowKit

def playV (l : List OpV) : Nat → VS
  | 0 => newV
  | j + 1 => stepV (playV l j) (l.getD j default)
theorem playV_len (l : List OpV) : ∀ j, (playV l j).texts.length ≤ j ∧ (playV l j).marks.length ≤ j ∧ (playV l j).seals.length ≤ j
  | 0 => ⟨Nat.le_refl _, Nat.le_refl _, Nat.le_refl _⟩
  | j + 1 => by
    have h1 := playV_len l j
    have h2 := stepV_len (playV l j) (l.getD j default)
    show (stepV _ _).texts.length ≤ _ ∧ (stepV _ _).marks.length ≤ _ ∧ (stepV _ _).seals.length ≤ _
    omega

set_option maxRecDepth 100000 in
set_option maxHeartbeats 4000000 in
theorem walk_vaultIdeals (v0 : Value) (l : List OpV) (w : World) (hl : OpsV w v0 l) :
    Calls Try.prog 3 #[v0] w fun e w' => e = .returned (.bool true) ∧ Below w.heap.size w w' := by
  obtain ⟨oa, ca, rfl⟩ := hl.form
  have HOK : Hid (∀ x ∈ l, x.Ok) := hl.1
  have HL : Hid (OpsV w (.slice oa l.length ca) l) := hl
  clear hl
  obtain ⟨J, hJ, hcase⟩ : ∃ J, (J ≤ l.length ∧ J ≤ 60) ∧ ((¬ (J : Int) < (l.length : Nat)) ∨ ((J : Int) < (l.length : Nat) ∧ ¬ (J : Int) < 60)) := ⟨min l.length 60, by omega, by omega⟩
  have HOP : Hid (∀ j, j < J → (∃ g o, oa = some ⟨g, o, none⟩ ∧ g < w.heap.size ∧ OpVAt w g (o + j * 6) (l.getD j default)) ∧ (l.getD j default).Ok) := fun j hj => by
    obtain ⟨g, o, e, hg, hx⟩ := HL.out.get (by omega)
    rw [List.getD_eq_getElem?_getD, List.getElem?_eq_getElem (by omega)]
    exact ⟨⟨g, o, e, hg, hx j _ (List.getElem?_eq_getElem (by omega))⟩, HOK.out _ (List.getElem_mem _)⟩
  clear HL HOK
  rcases hcase with hcs | ⟨hcs, hcs2⟩
  all_goals
    go_enter Try.func3, Try.ntmps3
    go_wp2_with fail
    refine (ideal_any w).mono ?_
    rintro e w1 ⟨B, rfl, hp, hb⟩
    have hd := duo_new hp hb
    have hT2 := hb.alloc hb.size (.cells #[.bool true, .string ⟨#[]⟩, .slice none 0 0, .slice none 0 0, .slice none 0 0] 30)
    obtain ⟨w2, hw2⟩ : ∃ w2, w1.alloc (.cells #[.bool true, .string ⟨#[]⟩, .slice none 0 0, .slice none 0 0, .slice none 0 0] 30) = w2 := ⟨_, rfl⟩
    rw [hw2] at hd hT2
    have HB : Hid (DuoV w2 (fun k => w.heap.size ≤ k) B w1.heap.size (playV l 0) ∧ Below w.heap.size w w2) := ⟨hd.mono fun k _ h => h.1, hT2⟩
    clear hp hb hd hT2
    go_wp2_with fail
    try rw [hw2]
    go_loopw [5] (fun v wr => ∃ j : Nat, j ≤ J ∧ v = .int .i64 j ∧ DuoV wr (fun k => w.heap.size ≤ k) B w1.heap.size (playV l j) ∧ Below w.heap.size w wr) (fun v _ => J - (intOf v).toNat)
    case atStart => exact ⟨0, Nat.zero_le _, rfl, HB.out.1, HB.out.2⟩
    case round =>
      clear HB
      obtain ⟨j, hj, rfl, hp, hT⟩ := hrel
      by_cases hlt : j < J
      · have j1 : (j : Int) < (l.length : Nat) := by omega
        have j2 : (j : Int) < 60 := by omega
        obtain ⟨⟨g, o, rfl, hg, hx0⟩, hok⟩ := HOP.out j hlt
        have hx := hx0.later hg hT
        obtain ⟨l1, l2, l3⟩ := playV_len l j
        have hst := step_duo B w1.heap.size _ (playV l j) (l.getD j default) hok (by omega) (by omega) (by omega) wr hp
        rw [show stepV (playV l j) (l.getD j default) = playV l (j + 1) from rfl] at hst
        generalize l.getD j default = x at *
        obtain ⟨k, z, a, b, c, d⟩ := x
        obtain ⟨c0, c1, c2, c3, c4, c5⟩ := hx
        simp only [OpV.cells] at c0 c1 c2 c3 c4 c5 hst
        have HT : Hid (Below w.heap.size w wr) := hT
        clear hx0 hok hp hT
        go_wp2_with fail
        refine hst.mono ?_
        rintro e wi ⟨rfl, hpi, hti⟩
        have HF : Hid (DuoV wi (fun k => w.heap.size ≤ k) B w1.heap.size (playV l (j + 1)) ∧ Below w.heap.size w wi) := ⟨hpi.mono fun k _ hk => hk.elim id fun x => Nat.le_trans HT.out.size x.1, HT.out.trans (hti.below HT.out.size fun _ h => h)⟩
        clear hst hpi hti HT c0 c1 c2 c3 c4 c5
        go_wp2
        go_roundw
        case rel => exact ⟨j + 1, by omega, by go_num, HF.out.1, HF.out.2⟩
        case measure => simp [intOf]; omega
      · obtain rfl : j = J := by omega
        have HT : Hid (Below w.heap.size w wr) := hT
        clear hp hT HOP
        go_wp2_with fail
        refine (awake_any _).mono ?_
        rintro e wz ⟨rfl, hk⟩
        have HF : Hid (Below w.heap.size w wz) := HT.out.trans (hk.mono HT.out.size)
        clear hk HT
        go_wp2
        go_ret
        exact ⟨rfl, HF.out⟩
end Go.Proofs.Ytfmaajfohieneaa
