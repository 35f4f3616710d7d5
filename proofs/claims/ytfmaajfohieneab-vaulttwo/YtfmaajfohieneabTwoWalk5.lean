/- The law VaultTwo, called with any two scripts, returns true, and changes nothing that was there. -/
import Derived.Test.YtfmaajfohieneabVtDuo
namespace Go.Proofs.Ytfmaajfohieneab
open Go.RowKit

/-- Two pairs of vaults, apart from each other. -/
def TwoD (w wr : World) (B1 B2 B3 B4 : Nat) (SA SB : VS) : Prop :=
  ∃ FA FB : Nat → Prop, DuoV wr FA B1 B2 SA ∧ DuoV wr FB B3 B4 SB ∧ (∀ k, FA k → ¬ FB k) ∧ (∀ k, FA k ∨ FB k → w.heap.size ≤ k ∧ k < wr.heap.size) ∧ Below w.heap.size w wr
def lenV (S : VS) (n : Nat) : Prop := S.texts.length ≤ n ∧ S.marks.length ≤ n ∧ S.seals.length ≤ n
theorem two_left {w wr : World} {B1 B2 B3 B4 : Nat} {SA SB : VS} (x : OpV) (hx : x.Ok) (hl : lenV SA 1000000) (h : TwoD w wr B1 B2 B3 B4 SA SB) :
    Calls Try.prog 6 #[.pointer (some ⟨B1, 0, none⟩), .pointer (some ⟨B2, 0, none⟩), .agg x.cells.toArray] wr fun e w' => e = .returned (.bool true) ∧ TwoD w w' B1 B2 B3 B4 (stepV SA x) SB := by
  obtain ⟨FA, FB, ha, hb, dj, lt, hT⟩ := h
  refine (step_duo B1 B2 FA SA x hx hl.1 hl.2.1 hl.2.2 wr ha).mono fun e w' ⟨he, hd, ht⟩ => ⟨he, fun k => grow FA wr w' k ∧ k < w'.heap.size, FB, hd.mono fun k hk h => ⟨h, hk⟩, hb.keep ht.size fun k hk hf => ht.2 k hk fun h => dj k h hf, fun k h1 h2 => ?_, fun k h => ?_, hT.trans (ht.below hT.size fun k hk => (lt k (.inl hk)).1)⟩
  · rcases h1.1 with h1 | h1
    · exact dj k h1 h2
    · have := (lt k (.inr h2)).2; omega
  · have := ht.size
    have := hT.size
    rcases h with h | h
    · rcases h.1 with h1 | h1
      · exact ⟨(lt k (.inl h1)).1, h.2⟩
      · exact ⟨by omega, h.2⟩
    · have := lt k (.inr h); omega
theorem TwoD.swap {w wr : World} {B1 B2 B3 B4 : Nat} {SA SB : VS} (h : TwoD w wr B1 B2 B3 B4 SA SB) : TwoD w wr B3 B4 B1 B2 SB SA := by
  obtain ⟨FA, FB, ha, hb, dj, lt, hT⟩ := h
  exact ⟨FB, FA, hb, ha, fun k h1 h2 => dj k h2 h1, fun k h => lt k h.symm, hT⟩
theorem two_right {w wr : World} {B1 B2 B3 B4 : Nat} {SA SB : VS} (x : OpV) (hx : x.Ok) (hl : lenV SB 1000000) (h : TwoD w wr B1 B2 B3 B4 SA SB) :
    Calls Try.prog 6 #[.pointer (some ⟨B3, 0, none⟩), .pointer (some ⟨B4, 0, none⟩), .agg x.cells.toArray] wr fun e w' => e = .returned (.bool true) ∧ TwoD w w' B1 B2 B3 B4 SA (stepV SB x) :=
  (two_left x hx hl h.swap).mono fun _ _ ⟨he, h⟩ => ⟨he, h.swap⟩
def playT (l : List OpV) : Nat → VS
  | 0 => newV
  | j + 1 => if j < l.length then stepV (playT l j) (l.getD j default) else playT l j
theorem playT_len (l : List OpV) : ∀ j, lenV (playT l j) j
  | 0 => ⟨Nat.le_refl _, Nat.le_refl _, Nat.le_refl _⟩
  | j + 1 => by
    have h1 := playT_len l j
    have h2 := stepV_len (playT l j) (l.getD j default)
    unfold lenV at h1 ⊢
    unfold playT
    split <;> omega
theorem playT_on {l : List OpV} {j : Nat} (h : j < l.length) : playT l (j + 1) = stepV (playT l j) (l.getD j default) := by
  show (if j < l.length then _ else _) = _
  rw [if_pos h]
theorem playT_off {l : List OpV} {j : Nat} (h : ¬ j < l.length) : playT l (j + 1) = playT l j := by
  show (if j < l.length then _ else _) = _
  rw [if_neg h]
theorem twod_new {w w1 w2 : World} {B1 B3 : Nat} (h1 : Ideal w1 (fun k => w.heap.size ≤ k ∧ k < w1.heap.size) B1 newV) (hb1 : Below w.heap.size w w1) (h2 : Ideal w2 (fun k => w1.heap.size ≤ k ∧ k < w2.heap.size) B3 newV) (hb2 : Below w1.heap.size w1 w2) :
    TwoD w ((w2.alloc (.cells #[.bool true, .string ⟨#[]⟩, .slice none 0 0, .slice none 0 0, .slice none 0 0] 30)).alloc (.cells #[.bool true, .string ⟨#[]⟩, .slice none 0 0, .slice none 0 0, .slice none 0 0] 30)) B1 w2.heap.size B3 (w2.heap.size + 1) newV newV := by
  have e1 : (w2.alloc (.cells #[.bool true, .string ⟨#[]⟩, .slice none 0 0, .slice none 0 0, .slice none 0 0] 30)).heap.size = w2.heap.size + 1 := by simp
  have s1 := hb1.size
  have s2 := hb2.size
  have b3 : Below w2.heap.size w2 (w2.alloc (.cells #[.bool true, .string ⟨#[]⟩, .slice none 0 0, .slice none 0 0, .slice none 0 0] 30)) := (Below.refl _ _).alloc (Nat.le_refl _) _
  have r3 := refv_new w2
  have r4 := refv_new (w2.alloc (.cells #[.bool true, .string ⟨#[]⟩, .slice none 0 0, .slice none 0 0, .slice none 0 0] 30))
  have b4 : Below (w2.heap.size + 1) (w2.alloc (.cells #[.bool true, .string ⟨#[]⟩, .slice none 0 0, .slice none 0 0, .slice none 0 0] 30)) ((w2.alloc (.cells #[.bool true, .string ⟨#[]⟩, .slice none 0 0, .slice none 0 0, .slice none 0 0] 30)).alloc (.cells #[.bool true, .string ⟨#[]⟩, .slice none 0 0, .slice none 0 0, .slice none 0 0] 30)) := (Below.refl _ _).alloc (by rw [e1]; exact Nat.le_refl _) _
  have e2 : ((w2.alloc (.cells #[.bool true, .string ⟨#[]⟩, .slice none 0 0, .slice none 0 0, .slice none 0 0] 30)).alloc (.cells #[.bool true, .string ⟨#[]⟩, .slice none 0 0, .slice none 0 0, .slice none 0 0] 30)).heap.size = w2.heap.size + 2 := by simp
  rw [e1] at r4
  generalize w2.alloc (.cells #[.bool true, .string ⟨#[]⟩, .slice none 0 0, .slice none 0 0, .slice none 0 0] 30) = w3 at *
  generalize w3.alloc (.cells #[.bool true, .string ⟨#[]⟩, .slice none 0 0, .slice none 0 0, .slice none 0 0] 30) = w4 at *
  have b34 : Below w2.heap.size w2 w4 := b3.trans (b4.mono (by omega))
  have i1 : Ideal w4 (fun k => w.heap.size ≤ k ∧ k < w1.heap.size) B1 newV := (h1.below hb2).keep fun k hk _ => b34.block k hk
  have i2 : Ideal w4 (fun k => w1.heap.size ≤ k ∧ k < w2.heap.size) B3 newV := h2.below b34
  have q3 : RefV w4 (fun k => k = w2.heap.size) w2.heap.size newV := r3.keep fun k hk _ => b4.block k (by omega)
  refine ⟨fun k => (w.heap.size ≤ k ∧ k < w1.heap.size) ∨ k = w2.heap.size, fun k => (w1.heap.size ≤ k ∧ k < w2.heap.size) ∨ k = w2.heap.size + 1, ⟨_, _, i1, q3, fun k h => .inl h, fun k h => .inr h, fun k a b => by omega, fun k h => by omega⟩, ⟨_, _, i2, r4, fun k h => .inl h, fun k h => .inr h, fun k a b => by omega, fun k h => by omega⟩, fun k a b => by omega, fun k h => by omega, hb1.trans ((hb2.trans (b34.mono s2)).mono s1)⟩

set_option maxRecDepth 100000 in
set_option maxHeartbeats 4000000 in
theorem walk_vaultTwo (v0 : Value) (l : List OpV) (v1 : Value) (m : List OpV) (w : World) (hl : OpsV w v0 l) (hm : OpsV w v1 m) :
    Calls Try.prog 3 #[v0, v1] w fun e w' => e = .returned (.bool true) ∧ Below w.heap.size w w' := by
  obtain ⟨oa, ca, rfl⟩ := hl.form
  obtain ⟨ob, cb, rfl⟩ := hm.form
  have key : ∀ (oa : Option Addr) (ca : Nat) (l : List OpV), OpsV w (.slice oa l.length ca) l → ∀ j, j < l.length → (∃ g o, oa = some ⟨g, o, none⟩ ∧ g < w.heap.size ∧ OpVAt w g (o + j * 6) (l.getD j default)) ∧ (l.getD j default).Ok := fun oa ca l hl j hj => by
    obtain ⟨g, o, e, hg, hx⟩ := hl.get (by omega)
    rw [List.getD_eq_getElem?_getD, List.getElem?_eq_getElem hj]
    exact ⟨⟨g, o, e, hg, hx j _ (List.getElem?_eq_getElem hj)⟩, hl.1 _ (List.getElem_mem _)⟩
  have HA : Hid (∀ j, j < l.length → (∃ g o, oa = some ⟨g, o, none⟩ ∧ g < w.heap.size ∧ OpVAt w g (o + j * 6) (l.getD j default)) ∧ (l.getD j default).Ok) := key oa ca l hl
  have HC : Hid (∀ j, j < m.length → (∃ g o, ob = some ⟨g, o, none⟩ ∧ g < w.heap.size ∧ OpVAt w g (o + j * 6) (m.getD j default)) ∧ (m.getD j default).Ok) := key ob cb m hm
  clear key hl hm
  go_enter Try.func3, Try.ntmps3
  go_wp2_with fail
  refine (ideal_any w).mono ?_
  rintro e w1 ⟨B, rfl, hp1, hb1⟩
  go_wp2_with fail
  refine (ideal_any w1).mono ?_
  rintro e w2 ⟨C, rfl, hp2, hb2⟩
  have hd := twod_new hp1 hb1 hp2 hb2
  obtain ⟨w4, hw4⟩ : ∃ w4, (w2.alloc (.cells #[.bool true, .string ⟨#[]⟩, .slice none 0 0, .slice none 0 0, .slice none 0 0] 30)).alloc (.cells #[.bool true, .string ⟨#[]⟩, .slice none 0 0, .slice none 0 0, .slice none 0 0] 30) = w4 := ⟨_, rfl⟩
  rw [hw4] at hd
  have HB : Hid (TwoD w w4 B w2.heap.size C (w2.heap.size + 1) newV newV) := hd
  clear hp1 hb1 hp2 hb2 hd
  go_wp2_with fail
  try rw [hw4]
  go_loopw [9] (fun v wr => ∃ j : Nat, j ≤ 30 ∧ v = .int .i64 j ∧ TwoD w wr B w2.heap.size C (w2.heap.size + 1) (playT l j) (playT m j)) (fun v _ => 30 - (intOf v).toNat)
  case atStart => exact ⟨0, Nat.zero_le _, rfl, HB.out⟩
  case round =>
    clear HB
    obtain ⟨j, hj, rfl, hp⟩ := hrel
    by_cases hlt : j < 30
    case neg =>
      obtain rfl : j = 30 := by omega
      obtain ⟨_, _, _, _, _, _, hT⟩ := hp
      have HT : Hid (Below w.heap.size w wr) := hT
      clear hT HA HC
      go_wp2_with fail
      refine (awake_any _).mono ?_
      rintro e wz ⟨rfl, hk⟩
      have HF : Hid (Below w.heap.size w wz) := HT.out.trans (hk.mono HT.out.size)
      clear hk HT
      go_wp2
      go_ret
      exact ⟨rfl, HF.out⟩
    have j1 : (j : Int) < 30 := by omega
    have lA := playT_len l j
    have lB := playT_len m j
    have bA : lenV (playT l j) 1000000 := ⟨by have := lA.1; omega, by have := lA.2.1; omega, by have := lA.2.2; omega⟩
    have bB : lenV (playT m j) 1000000 := ⟨by have := lB.1; omega, by have := lB.2.1; omega, by have := lB.2.2; omega⟩
    have hTb : ∀ {SA SB : VS} {W : World}, TwoD w W B w2.heap.size C (w2.heap.size + 1) SA SB → Below w.heap.size w W := fun ⟨_, _, _, _, _, _, h⟩ => h
    by_cases ha : j < l.length
    · have ha1 : (j : Int) < (l.length : Nat) := by omega
      obtain ⟨⟨g, o, rfl, hg, hx0⟩, hok⟩ := HA.out j ha
      have hx := hx0.later hg (hTb hp)
      have hst := two_left (l.getD j default) hok bA hp
      rw [← playT_on ha] at hst
      generalize l.getD j default = x at *
      obtain ⟨k, z, a, b, c, d⟩ := x
      obtain ⟨c0, c1, c2, c3, c4, c5⟩ := hx
      simp only [OpV.cells] at c0 c1 c2 c3 c4 c5 hst
      clear hx0 hok hp
      go_wp2_with fail
      refine hst.mono ?_
      rintro e wi ⟨rfl, hpi⟩
      clear hst c0 c1 c2 c3 c4 c5
      by_cases hb : j < m.length
      · have hb1 : (j : Int) < (m.length : Nat) := by omega
        obtain ⟨⟨g2, o2, rfl, hg2, hy0⟩, hok⟩ := HC.out j hb
        have hy := hy0.later hg2 (hTb hpi)
        have hst := two_right (m.getD j default) hok bB hpi
        rw [← playT_on hb] at hst
        generalize m.getD j default = y at *
        obtain ⟨k, z, a, b, c, d⟩ := y
        obtain ⟨c0, c1, c2, c3, c4, c5⟩ := hy
        simp only [OpV.cells] at c0 c1 c2 c3 c4 c5 hst
        clear hy0 hok hpi
        go_wp2_with fail
        refine hst.mono ?_
        rintro e wk ⟨rfl, hpk⟩
        have HF : Hid _ := hpk
        clear hst hpk c0 c1 c2 c3 c4 c5 HA HC
        go_wp2
        go_roundw
        case rel => exact ⟨j + 1, by omega, by go_num, HF.out⟩
        case measure => simp [intOf]; omega
      · have hb1 : ¬ (j : Int) < (m.length : Nat) := by omega
        have HF : Hid (TwoD w wi B w2.heap.size C (w2.heap.size + 1) (playT l (j + 1)) (playT m (j + 1))) := by rw [playT_off hb]; exact hpi
        clear hpi HA HC
        go_wp2
        go_roundw
        case rel => exact ⟨j + 1, by omega, by go_num, HF.out⟩
        case measure => simp [intOf]; omega
    · have ha1 : ¬ (j : Int) < (l.length : Nat) := by omega
      by_cases hb : j < m.length
      · have hb1 : (j : Int) < (m.length : Nat) := by omega
        obtain ⟨⟨g2, o2, rfl, hg2, hy0⟩, hok⟩ := HC.out j hb
        have hy := hy0.later hg2 (hTb hp)
        have hst := two_right (m.getD j default) hok bB hp
        rw [← playT_on hb, ← playT_off ha] at hst
        generalize m.getD j default = y at *
        obtain ⟨k, z, a, b, c, d⟩ := y
        obtain ⟨c0, c1, c2, c3, c4, c5⟩ := hy
        simp only [OpV.cells] at c0 c1 c2 c3 c4 c5 hst
        clear hy0 hok hp
        go_wp2_with fail
        refine hst.mono ?_
        rintro e wk ⟨rfl, hpk⟩
        have HF : Hid _ := hpk
        clear hst hpk c0 c1 c2 c3 c4 c5 HA HC
        go_wp2
        go_roundw
        case rel => exact ⟨j + 1, by omega, by go_num, HF.out⟩
        case measure => simp [intOf]; omega
      · have hb1 : ¬ (j : Int) < (m.length : Nat) := by omega
        have HF : Hid (TwoD w wr B w2.heap.size C (w2.heap.size + 1) (playT l (j + 1)) (playT m (j + 1))) := by rw [playT_off hb, playT_off ha]; exact hp
        clear hp HA HC
        go_wp2
        go_roundw
        case rel => exact ⟨j + 1, by omega, by go_num, HF.out⟩
        case measure => simp [intOf]; omega
end Go.Proofs.Ytfmaajfohieneab
