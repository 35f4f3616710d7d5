/- The law ShelfKept, called with any list of entries and any text, returns true, and changes nothing that was there. -/
import Derived.Test.YtlcadhojfnanfaaDoorShRight
import Derived.Test.YtlcadhojfnanfaaDoorShAwake
import Derived.Test.YtlcadhojfnanfaaDoorShSame
import Derived.Test.YtlcadhojfnanfaaDoorShNames
import Derived.Test.YtlcadhojfnanfaaDoorShBody
import Derived.Test.YtlcadhojfnanfaaDoorShSet
namespace Go.Proofs.YtlcadhojfnanfaaDoor
set_option maxRecDepth 20000
open Go.RowKit

/-- What the law does once its list is cut. -/
structure KpOn (w : World) (va : Value) (m : Nat) (L : List En) (n : ByteArray) : Prop where
  len : L.length = m
  le : m ≤ 100
  ens : Ens w va L
  nil : NilEn va
  a : ∀ w', Below w.heap.size w w' → Calls Tryd.prog 6 #[va] w' fun e w'' => ∃ u, e = .returned u ∧ Below w'.heap.size w' w''
  b : ∀ w', Below w.heap.size w w' → Calls Tryd.prog 11 #[va] w' fun e w'' => ∃ v', e = .returned v' ∧ EZ w'' w'.heap.size v' (namedL L) ∧ Below w'.heap.size w' w''
  c : ∀ w', Below w.heap.size w w' → Calls Tryd.prog 9 #[va, .string n] w' fun e w'' => ∃ u, e = .returned u ∧ Below w'.heap.size w' w''
  d : ∀ w', Below w.heap.size w w' → Calls Tryd.prog 12 #[va] w' fun e w'' => ∃ u, e = .returned u ∧ Below w'.heap.size w' w''
set_option maxHeartbeats 2000000 in
theorem walk_shelfKept (v : Value) (l : List En) (n : ByteArray) (w : World) (hv : Ens w v l ∧ (∀ x ∈ l, x.Ok) ∧ Capped v ∧ NilEn v) :
    Calls Tryd.prog 5 #[v, .string n] w fun e w' => e = .returned (.bool true) ∧ Below w.heap.size w w' := by
  obtain ⟨hv, hok, hcap, hnil⟩ := hv
  obtain ⟨oa, cap, rfl⟩ := hv.form
  have hcut : ¬ l.length ≤ 100 → Ens w (.slice oa 100 cap) (l.take 100) := fun h => hv.cut 100 (by omega) cap
  obtain ⟨hc1, hc2⟩ := hcap _ _ _ rfl
  have key : ∀ (m : Nat) (L : List En), L.length = m → Ens w (.slice oa m cap) L → m ≤ 100 → (∀ x ∈ L, x.Ok) → KpOn w (.slice oa m cap) m L n := fun m L hm hL hl hk => by
    subst hm
    exact ⟨rfl, hl, hL, fun _ _ e => by simp only [Value.slice.injEq] at e; obtain ⟨rfl, rfl, rfl⟩ := e; exact hnil _ _ rfl,
      fun w' hb => (right_any _ L w' (hL.below hb) (fun x hx => (hk x hx).nm) (by omega)).mono fun e w'' ⟨g, h1, _, h2⟩ => ⟨_, h1, h2⟩,
      fun w' hb => names_any _ L w' (hL.below hb) (fun x hx => (hk x hx).nm) (by omega),
      fun w' hb => (find_any _ L n w' (hL.below hb) (by omega)).mono fun e w'' ⟨h1, h2⟩ => ⟨_, h1, h2⟩,
      fun w' hb => (body_any _ L w' (hL.below hb)).mono fun e w'' ⟨h1, h2⟩ => ⟨_, h1, h2⟩⟩
  by_cases hbig : l.length ≤ 100
  · have h100 : ¬ (100 : Int) < l.length := by omega
    have H := key _ l rfl hv hbig hok
    generalize l.length = m at *
    clear hcut hv key hok hnil hcap
    obtain ⟨hlen, hle, hens, hnl, h1, h2, h3, h4⟩ := H
    have HE : Hid (Ens w _ l ∧ l.length ≤ 100) := ⟨hens, by omega⟩
    have hz : EZ (w.alloc (.cells #[] 28)) w.heap.size (.slice (some ⟨w.heap.size, 0, none⟩) 0 0) [] := ⟨rfl, .inr ⟨_, 0, #[], rfl, Nat.le_refl _, heap_alloc_new w _, Nat.le_refl _, Nat.zero_le _, rfl, rfl⟩⟩
    have hb0 : Below w.heap.size w (w.alloc (.cells #[] 28)) := (Below.refl _ _).alloc (Nat.le_refl _) _
    have hsrc := hens.below hb0
    go_enter Tryd.func5, Tryd.ntmps5
    go_wp2_with (first | (at_builtin; refine wpList_append_ens rfl _ _ rfl w.heap.size _ rfl hz _ l rfl hsrc hnl (by omega) (by simp) ?_))
    intro v1 w1 z1 g1
    have b1 : Below w.heap.size w w1 := hb0.grown g1 (by simp) (fun k hk => by simp [Value.ownBlock] at hk; omega)
    have HZ : Hid (EZ w1 w.heap.size v1 l) := z1
    have B1 : Hid (Below w.heap.size w w1) := b1
    have h1 := h1 w1 b1
    clear z1 g1 b1 hz hb0 hsrc hens
    go_wp2_with fail
    refine h1.mono ?_
    rintro e w2 ⟨u2, rfl, b2⟩
    clear h1
    have HZ2 : Hid (EZ w2 w.heap.size v1 l) := HZ.out.below b2
    have B2 : Hid (Below w.heap.size w w2) := B1.out.trans (b2.mono B1.out.size)
    have h2 := h2 w2 B2.out
    clear b2 HZ B1
    go_wp2_with fail
    refine h2.mono ?_
    rintro e w3 ⟨v3, rfl, z3, b3⟩
    clear h2
    obtain ⟨ob, cb, rfl⟩ := z3.form
    have HN : Hid (EZ w3 w2.heap.size (.slice ob (namedL l).length cb) (namedL l) ∧ Below w2.heap.size w2 w3) := ⟨z3, b3⟩
    have hnn : (namedL l).length ≤ 100 := Nat.le_trans (List.length_filter_le _ _) HE.out.2
    clear z3 b3
    generalize namedL l = M at *
    obtain ⟨N, hN⟩ : ∃ N, N = M.length := ⟨_, rfl⟩
    rw [← hN] at HN hnn ⊢
    have HM : Hid (N = M.length) := hN
    clear hN
    go_wp2_with fail
    go_loopw [7] (fun v wr => ∃ (j : Nat) (M' : List En), j ≤ N ∧ v = .int .i64 (j : Int) ∧ Hid (M'.length = N ∧ EZ wr w2.heap.size (.slice ob N cb) M' ∧ Below w2.heap.size w2 wr)) (fun v _ => N - (intOf v).toNat)
    case atStart => exact ⟨0, M, Nat.zero_le _, rfl, HM.out.symm, HN.out.1, HN.out.2⟩
    case round =>
      clear HN HM
      obtain ⟨j, M', hj, rfl, HR⟩ := hrel
      by_cases hlt : j < N
      · have j1 : (j : Int) < N := by omega
        have hlt' : j < M'.length := by rw [HR.out.1]; exact hlt
        obtain ⟨g, rfl, hg1, hg2⟩ := HR.out.2.1.block (by omega)
        have hez : EZ wr w2.heap.size (.slice (some ⟨g, 0, none⟩) M'.length cb) M' := by rw [HR.out.1]; exact HR.out.2.1
        obtain ⟨c0, c1, c2⟩ := hez.at hlt'
        have f0 := hez.frozen (j * 3)
        have f1 := hez.frozen (j * 3 + 1)
        have f2 := hez.frozen (j * 3 + 2)
        have hset := hez.set hlt' ⟨⟨#[98, 101, 110, 116]⟩, 0, 0⟩
        rw [HR.out.1] at hset
        have HS : Hid _ := hset
        clear hset
        clear hez
        go_wp2
        go_roundw
        case rel => exact ⟨j + 1, _, by omega, by go_num, by rw [List.length_set]; exact HR.out.1, HS.out, below_set3 HR.out.2.2 hg1 _ _ _ _ _ _⟩
        case measure => simp [intOf]; omega
      · have j1 : ¬ (j : Int) < N := by omega
        have B3 : Hid (Below w.heap.size w wr) := B2.out.trans (HR.out.2.2.mono B2.out.size)
        have HZ3 : Hid (EZ wr w.heap.size v1 l) := HZ2.out.below HR.out.2.2
        have h3 := h3 wr B3.out
        clear HR HZ2 B2
        go_wp2_with fail
        refine h3.mono ?_
        rintro e w4 ⟨u4, rfl, b4⟩
        clear h3
        have B4 : Hid (Below w.heap.size w w4) := B3.out.trans (b4.mono B3.out.size)
        have HZ4 : Hid (EZ w4 w.heap.size v1 l) := HZ3.out.below b4
        have h4 := h4 w4 B4.out
        clear b4 B3 HZ3
        go_wp2_with fail
        refine h4.mono ?_
        rintro e w5 ⟨u5, rfl, b5⟩
        clear h4
        have B5 : Hid (Below w.heap.size w w5) := B4.out.trans (b5.mono B4.out.size)
        have HZ5 : Hid (EZ w5 w.heap.size v1 l) := HZ4.out.below b5
        have hs := same_any _ l v1 l w5 (HE.out.1.below B5.out) HZ5.out.ens (by omega)
        rw [decide_eq_true rfl] at hs
        clear b5 B4 HZ4
        go_wp2_with fail
        refine hs.mono ?_
        rintro e w6 ⟨rfl, b6⟩
        have B6 : Hid (Below w.heap.size w w6) := B5.out.trans (b6.mono B5.out.size)
        clear b6 hs
        go_wp2_with fail
        refine (awake_any _).mono ?_
        rintro e w7 ⟨rfl, b7⟩
        have B7 : Hid (Below w.heap.size w w7) := B6.out.trans (b7.mono B6.out.size)
        clear b7
        go_wp2
        go_ret
        exact ⟨rfl, B7.out⟩
  · have h100 : (100 : Int) < l.length := by omega
    have hcp : 100 ≤ cap := by omega
    have hcpi : (100 : Int) ≤ cap := by omega
    have H := key 100 (l.take 100) (by rw [List.length_take]; omega) (hcut hbig) (Nat.le_refl _) (fun x hx => hok x (List.mem_of_mem_take hx))
    generalize l.take 100 = l at *
    generalize l.length = m at *
    clear hcut hv key hok hnil hcap
    obtain ⟨hlen, hle, hens, hnl, h1, h2, h3, h4⟩ := H
    have HE : Hid (Ens w _ l ∧ l.length ≤ 100) := ⟨hens, by omega⟩
    have hz : EZ (w.alloc (.cells #[] 28)) w.heap.size (.slice (some ⟨w.heap.size, 0, none⟩) 0 0) [] := ⟨rfl, .inr ⟨_, 0, #[], rfl, Nat.le_refl _, heap_alloc_new w _, Nat.le_refl _, Nat.zero_le _, rfl, rfl⟩⟩
    have hb0 : Below w.heap.size w (w.alloc (.cells #[] 28)) := (Below.refl _ _).alloc (Nat.le_refl _) _
    have hsrc := hens.below hb0
    go_enter Tryd.func5, Tryd.ntmps5
    go_wp2_with (first | (at_builtin; refine wpList_append_ens rfl _ _ rfl w.heap.size _ rfl hz _ l rfl hsrc hnl (by omega) (by simp) ?_))
    intro v1 w1 z1 g1
    have b1 : Below w.heap.size w w1 := hb0.grown g1 (by simp) (fun k hk => by simp [Value.ownBlock] at hk; omega)
    have HZ : Hid (EZ w1 w.heap.size v1 l) := z1
    have B1 : Hid (Below w.heap.size w w1) := b1
    have h1 := h1 w1 b1
    clear z1 g1 b1 hz hb0 hsrc hens
    go_wp2_with fail
    refine h1.mono ?_
    rintro e w2 ⟨u2, rfl, b2⟩
    clear h1
    have HZ2 : Hid (EZ w2 w.heap.size v1 l) := HZ.out.below b2
    have B2 : Hid (Below w.heap.size w w2) := B1.out.trans (b2.mono B1.out.size)
    have h2 := h2 w2 B2.out
    clear b2 HZ B1
    go_wp2_with fail
    refine h2.mono ?_
    rintro e w3 ⟨v3, rfl, z3, b3⟩
    clear h2
    obtain ⟨ob, cb, rfl⟩ := z3.form
    have HN : Hid (EZ w3 w2.heap.size (.slice ob (namedL l).length cb) (namedL l) ∧ Below w2.heap.size w2 w3) := ⟨z3, b3⟩
    have hnn : (namedL l).length ≤ 100 := Nat.le_trans (List.length_filter_le _ _) HE.out.2
    clear z3 b3
    generalize namedL l = M at *
    obtain ⟨N, hN⟩ : ∃ N, N = M.length := ⟨_, rfl⟩
    rw [← hN] at HN hnn ⊢
    have HM : Hid (N = M.length) := hN
    clear hN
    go_wp2_with fail
    go_loopw [7] (fun v wr => ∃ (j : Nat) (M' : List En), j ≤ N ∧ v = .int .i64 (j : Int) ∧ Hid (M'.length = N ∧ EZ wr w2.heap.size (.slice ob N cb) M' ∧ Below w2.heap.size w2 wr)) (fun v _ => N - (intOf v).toNat)
    case atStart => exact ⟨0, M, Nat.zero_le _, rfl, HM.out.symm, HN.out.1, HN.out.2⟩
    case round =>
      clear HN HM
      obtain ⟨j, M', hj, rfl, HR⟩ := hrel
      by_cases hlt : j < N
      · have j1 : (j : Int) < N := by omega
        have hlt' : j < M'.length := by rw [HR.out.1]; exact hlt
        obtain ⟨g, rfl, hg1, hg2⟩ := HR.out.2.1.block (by omega)
        have hez : EZ wr w2.heap.size (.slice (some ⟨g, 0, none⟩) M'.length cb) M' := by rw [HR.out.1]; exact HR.out.2.1
        obtain ⟨c0, c1, c2⟩ := hez.at hlt'
        have f0 := hez.frozen (j * 3)
        have f1 := hez.frozen (j * 3 + 1)
        have f2 := hez.frozen (j * 3 + 2)
        have hset := hez.set hlt' ⟨⟨#[98, 101, 110, 116]⟩, 0, 0⟩
        rw [HR.out.1] at hset
        have HS : Hid _ := hset
        clear hset
        clear hez
        go_wp2
        go_roundw
        case rel => exact ⟨j + 1, _, by omega, by go_num, by rw [List.length_set]; exact HR.out.1, HS.out, below_set3 HR.out.2.2 hg1 _ _ _ _ _ _⟩
        case measure => simp [intOf]; omega
      · have j1 : ¬ (j : Int) < N := by omega
        have B3 : Hid (Below w.heap.size w wr) := B2.out.trans (HR.out.2.2.mono B2.out.size)
        have HZ3 : Hid (EZ wr w.heap.size v1 l) := HZ2.out.below HR.out.2.2
        have h3 := h3 wr B3.out
        clear HR HZ2 B2
        go_wp2_with fail
        refine h3.mono ?_
        rintro e w4 ⟨u4, rfl, b4⟩
        clear h3
        have B4 : Hid (Below w.heap.size w w4) := B3.out.trans (b4.mono B3.out.size)
        have HZ4 : Hid (EZ w4 w.heap.size v1 l) := HZ3.out.below b4
        have h4 := h4 w4 B4.out
        clear b4 B3 HZ3
        go_wp2_with fail
        refine h4.mono ?_
        rintro e w5 ⟨u5, rfl, b5⟩
        clear h4
        have B5 : Hid (Below w.heap.size w w5) := B4.out.trans (b5.mono B4.out.size)
        have HZ5 : Hid (EZ w5 w.heap.size v1 l) := HZ4.out.below b5
        have hs := same_any _ l v1 l w5 (HE.out.1.below B5.out) HZ5.out.ens (by omega)
        rw [decide_eq_true rfl] at hs
        clear b5 B4 HZ4
        go_wp2_with fail
        refine hs.mono ?_
        rintro e w6 ⟨rfl, b6⟩
        have B6 : Hid (Below w.heap.size w w6) := B5.out.trans (b6.mono B5.out.size)
        clear b6 hs
        go_wp2_with fail
        refine (awake_any _).mono ?_
        rintro e w7 ⟨rfl, b7⟩
        have B7 : Hid (Below w.heap.size w w7) := B6.out.trans (b7.mono B6.out.size)
        clear b7
        go_wp2
        go_ret
        exact ⟨rfl, B7.out⟩
end Go.Proofs.YtlcadhojfnanfaaDoor
