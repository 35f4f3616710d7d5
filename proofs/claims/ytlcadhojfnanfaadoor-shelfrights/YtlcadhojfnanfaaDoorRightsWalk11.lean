/- The law ShelfRights, called with any list of entries, returns true, and changes nothing that was there. -/
import Derived.Test.YtlcadhojfnanfaaDoorShRRight
import Derived.Test.YtlcadhojfnanfaaDoorShAwake
import Derived.Test.YtlcadhojfnanfaaDoorShSame
namespace Go.Proofs.YtlcadhojfnanfaaDoor
set_option maxRecDepth 20000
open Go.RowKit

theorem BZ.blk {w : World} {base : Nat} {g len cap : Nat} {B : List Bool} (h : BZ w base (.slice (some ⟨g, 0, none⟩) len cap) B) : g < w.heap.size := by
  rcases h.2 with ⟨e, h0⟩ | ⟨g', cap', cur, e, h0, hg, _⟩
  · cases e
  · simp only [Value.slice.injEq, Option.some.injEq, Addr.mk.injEq] at e
    obtain ⟨⟨rfl, _⟩, _⟩ := e
    exact lt_of_block hg
/-- What the law does once its list is cut. -/
structure RgOn (w : World) (va : Value) (L : List Bool) : Prop where
  n : L.length ≤ 300
  a : ∀ w', Below w.heap.size w w' → Calls Tryd.prog 6 #[va] w' fun e w'' => ∃ g, e = .returned (.slice (some ⟨g, 0, none⟩) L.length L.length) ∧ RowB w'' g L ∧ Below w'.heap.size w' w''
  b : ∀ w', Below w.heap.size w w' → Calls Tryd.prog 7 #[va] w' fun e w'' => ∃ v', e = .returned v' ∧ BZ w'' w'.heap.size v' L ∧ Below w'.heap.size w' w''
set_option maxHeartbeats 2000000 in
theorem walk_shelfRights (v : Value) (l : List En) (w : World) (hv : Ens w v l ∧ (∀ x ∈ l, x.Ok) ∧ Capped v) :
    Calls Tryd.prog 3 #[v] w fun e w' => e = .returned (.bool true) ∧ Below w.heap.size w w' := by
  obtain ⟨hv, hok, hcap⟩ := hv
  obtain ⟨oa, cap, rfl⟩ := hv.form
  have hcut : ¬ l.length ≤ 300 → Ens w (.slice oa 300 cap) (l.take 300) := fun h => hv.cut 300 (by omega) cap
  obtain ⟨hc1, hc2⟩ := hcap _ _ _ rfl
  have key : ∀ (m : Nat) (L : List En), Ens w (.slice oa m cap) L → L.length ≤ 300 → (∀ x ∈ L, x.Ok) → RgOn w (.slice oa m cap) (rightL L) :=
    fun m L hL hl hk => ⟨by rw [rightL_len]; exact hl, fun w' hb => by rw [rightL_len]; exact right_any _ L w' (hL.below hb) (fun x hx => (hk x hx).nm) hl, fun w' hb => rright_any _ L w' (hL.below hb) hl⟩
  by_cases hbig : l.length ≤ 300
  · have h300 : ¬ (300 : Int) < l.length := by omega
    have H := key _ l hv hbig hok
    generalize rightL l = L at *
    generalize l.length = m at *
    clear hcut hv key hok
    obtain ⟨hn, h1, h2⟩ := H
    have HT : Hid ((Value.bool true) = .bool true) := rfl
    go_enter Tryd.func3, Tryd.ntmps3
    go_wp2_with fail
    refine (h1 _ (Below.refl _ _)).mono ?_
    rintro e w1 ⟨g, rfl, z1, b1⟩
    clear h1
    have h2 := h2 w1 b1
    have B1 : Hid (Below w.heap.size w w1) := b1
    clear b1
    go_wp2_with fail
    refine h2.mono ?_
    rintro e w2 ⟨v2, rfl, z2, b2⟩
    clear h2
    obtain ⟨ob, cb, rfl⟩ := z2.form
    have H1 : Hid (RowB w2 g L ∧ BZ w2 w1.heap.size (.slice ob L.length cb) L) := ⟨(b2.block g z1.lt).trans z1, z2⟩
    have B2 : Hid (Below w.heap.size w w2) := B1.out.trans (b2.mono B1.out.size)
    clear b2 z1 z2
    go_wp2_with fail
    go_loopw [5] (fun v wr => ∃ j : Nat, j ≤ L.length ∧ v = .int .i64 (j : Int) ∧ Hid (Below w2.heap.size w2 wr)) (fun v _ => L.length - (intOf v).toNat)
    case atStart => exact ⟨0, Nat.zero_le _, rfl, Below.refl _ _⟩
    case round =>
      obtain ⟨j, hj, rfl, HR⟩ := hrel
      by_cases hlt : j < L.length
      · have j1 : (j : Int) < L.length := by omega
        have a0 := (cell_kept_1 (HR.out.block g H1.out.1.lt) _).trans (H1.out.1.at hlt)
        obtain ⟨gb, rfl, c0⟩ := H1.out.2.at hlt
        have b0 := (cell_kept_1 (HR.out.block gb H1.out.2.blk) _).trans c0
        clear c0
        generalize L[j] = x at *
        go_wp2_with fail
        go_quiet (fail)
        go_wp2
        go_roundw
        case rel => exact ⟨j + 1, by omega, by go_num, below_drewN HR.out _⟩
        case measure => simp [intOf]; omega
      · have j1 : ¬ (j : Int) < L.length := by omega
        have B3 : Hid (Below w.heap.size w wr) := B2.out.trans (HR.out.mono B2.out.size)
        go_wp2_with fail
        refine (awake_any _).mono ?_
        rintro e w4 ⟨rfl, b4⟩
        have B4 : Hid (Below w.heap.size w w4) := B3.out.trans (b4.mono B3.out.size)
        clear b4
        go_wp2
        go_ret
        exact ⟨rfl, B4.out⟩
  · have h300 : (300 : Int) < l.length := by omega
    have hcp : 300 ≤ cap := by omega
    have hcpi : (300 : Int) ≤ cap := by omega
    have H := key _ (l.take 300) (hcut hbig) (by rw [List.length_take]; omega) (fun x hx => hok x (List.mem_of_mem_take hx))
    generalize rightL (l.take 300) = L at *
    generalize l.length = m at *
    clear hcut hv key hok
    obtain ⟨hn, h1, h2⟩ := H
    have HT : Hid ((Value.bool true) = .bool true) := rfl
    go_enter Tryd.func3, Tryd.ntmps3
    go_wp2_with fail
    refine (h1 _ (Below.refl _ _)).mono ?_
    rintro e w1 ⟨g, rfl, z1, b1⟩
    clear h1
    have h2 := h2 w1 b1
    have B1 : Hid (Below w.heap.size w w1) := b1
    clear b1
    go_wp2_with fail
    refine h2.mono ?_
    rintro e w2 ⟨v2, rfl, z2, b2⟩
    clear h2
    obtain ⟨ob, cb, rfl⟩ := z2.form
    have H1 : Hid (RowB w2 g L ∧ BZ w2 w1.heap.size (.slice ob L.length cb) L) := ⟨(b2.block g z1.lt).trans z1, z2⟩
    have B2 : Hid (Below w.heap.size w w2) := B1.out.trans (b2.mono B1.out.size)
    clear b2 z1 z2
    go_wp2_with fail
    go_loopw [5] (fun v wr => ∃ j : Nat, j ≤ L.length ∧ v = .int .i64 (j : Int) ∧ Hid (Below w2.heap.size w2 wr)) (fun v _ => L.length - (intOf v).toNat)
    case atStart => exact ⟨0, Nat.zero_le _, rfl, Below.refl _ _⟩
    case round =>
      obtain ⟨j, hj, rfl, HR⟩ := hrel
      by_cases hlt : j < L.length
      · have j1 : (j : Int) < L.length := by omega
        have a0 := (cell_kept_1 (HR.out.block g H1.out.1.lt) _).trans (H1.out.1.at hlt)
        obtain ⟨gb, rfl, c0⟩ := H1.out.2.at hlt
        have b0 := (cell_kept_1 (HR.out.block gb H1.out.2.blk) _).trans c0
        clear c0
        generalize L[j] = x at *
        go_wp2_with fail
        go_quiet (fail)
        go_wp2
        go_roundw
        case rel => exact ⟨j + 1, by omega, by go_num, below_drewN HR.out _⟩
        case measure => simp [intOf]; omega
      · have j1 : ¬ (j : Int) < L.length := by omega
        have B3 : Hid (Below w.heap.size w wr) := B2.out.trans (HR.out.mono B2.out.size)
        go_wp2_with fail
        refine (awake_any _).mono ?_
        rintro e w4 ⟨rfl, b4⟩
        have B4 : Hid (Below w.heap.size w w4) := B3.out.trans (b4.mono B3.out.size)
        clear b4
        go_wp2
        go_ret
        exact ⟨rfl, B4.out⟩
end Go.Proofs.YtlcadhojfnanfaaDoor
