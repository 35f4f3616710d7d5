/- tree's Check, over any vault whose Hash is told. -/
import Derived.Test.YtgokehbdappcdaaDoorMg13
namespace Go.Proofs.YtgokehbdappcdaaDoor
set_option maxRecDepth 20000
open Go.RowKit

def okB (top : ByteArray) (n i : Int) (p : List Stp) : Bool := !(top.size == 0) && (decide (n ≤ 32768) && (decide (0 ≤ i) && (decide (i < n) && leadB n.toNat i.toNat p)))
def chkB (h : ByteArray → ByteArray) (top : ByteArray) (n i : Int) (s : ByteArray) (p : List Stp) : Bool := okB top n i p && decide (h (rootT n.toNat (climb h (h (leafT s)) p)) = top)
def ChkPost {σ : Type} (K : HK σ) (w : World) (F G : Nat → Prop) (B : Nat) (S : σ) (top : ByteArray) (n i : Int) (s : ByteArray) (p : List Stp) (e : Ending) (w' : World) : Prop :=
  ∃ S', e = .returned (.bool (chkB (K.h S') top n i s p)) ∧ K.V w' F G B S' ∧ Touch G w w' ∧ K.ext S S' ∧ K.n S' ≤ K.n S + 32770 ∧ (okB top n i p = true → ClimbIn (K.D S') (K.h S') s p ∧ K.D S' (rootT n.toNat (climb (K.h S') (K.h S' (leafT s)) p)))
theorem empty_is (t : ByteArray) : t.toList.isEmpty = (t.size == 0) := by
  rw [ByteArray.toList_eq]
  cases h : t.data.toList with
  | nil =>
    have : t.size = 0 := by rw [← ByteArray.size_data, ← Array.length_toList, h]; rfl
    rw [this]
    rfl
  | cons a l =>
    have : t.size = l.length + 1 := by rw [← ByteArray.size_data, ← Array.length_toList, h]; rfl
    rw [this]
    rfl
section
variable {σ : Type} {K : HK σ}
set_option maxHeartbeats 1000000 in
theorem check_no (o : HKOk K) (w : World) (F G : Nat → Prop) (B : Nat) (S : σ) (top : ByteArray) (n i : Int) (s : ByteArray) (oa : Option Addr) (c : Nat) (p : List Stp) (hp : p.length ≤ 1000000) (hP : PathIn w G oa p) (v : K.V w F G B S) (hok : okB top n i p = false) :
    Calls Tryd.prog 12 #[.pointer (some ⟨B, 0, none⟩), .string top, .int .i64 n, .int .i64 i, .string s, .slice oa p.length c] w (ChkPost K w F G B S top n i s p) := by
  have HF : Hid (∀ w', Below w.heap.size w w' → ChkPost K w F G B S top n i s p (.returned (.bool false)) w') := fun w' hb => ⟨S, by unfold chkB; rw [hok]; rfl, o.below v hb, Touch.of_below hb, K.ext_refl S, by omega, fun h => by rw [hok] at h; cases h⟩
  have h0 := empty_is top
  have hway : (top.size == 0) = true ∨ ((top.size == 0) = false ∧ 32768 < n) ∨ ((top.size == 0) = false ∧ ¬ 32768 < n ∧ i < 0) ∨ ((top.size == 0) = false ∧ ¬ 32768 < n ∧ ¬ i < 0 ∧ n ≤ i) ∨ ((top.size == 0) = false ∧ ¬ 32768 < n ∧ ¬ i < 0 ∧ ¬ n ≤ i ∧ leadB n.toNat i.toNat p = false) := by
    cases h1 : (top.size == 0)
    · by_cases h2 : 32768 < n
      · exact .inr (.inl ⟨rfl, h2⟩)
      by_cases h3 : i < 0
      · exact .inr (.inr (.inl ⟨rfl, h2, h3⟩))
      by_cases h4 : n ≤ i
      · exact .inr (.inr (.inr (.inl ⟨rfl, h2, h3, h4⟩)))
      refine .inr (.inr (.inr (.inr ⟨rfl, h2, h3, h4, ?_⟩)))
      unfold okB at hok
      rw [h1, decide_eq_true (show n ≤ 32768 by omega), decide_eq_true (show 0 ≤ i by omega), decide_eq_true (show i < n by omega)] at hok
      exact hok
    · exact .inl rfl
  clear v hok
  rcases hway with h1 | ⟨h1, h2⟩ | ⟨h1, h2, h3⟩ | ⟨h1, h2, h3, h4⟩ | ⟨h1, h2, h3, h4, h5⟩
  case' inr.inr.inr.inr =>
    obtain ⟨a, rfl⟩ : ∃ a : Nat, n = a := ⟨n.toNat, by omega⟩
    obtain ⟨b, rfl⟩ : ∃ b : Nat, i = b := ⟨i.toNat, by omega⟩
    have hl := leads_any a b (by omega) (by omega) G oa c p hp w hP
    rw [show leadB a b p = false from h5] at hl
  all_goals
    rw [h1] at h0
    generalize p.length = m at *
    clear hP h1
  case' inr.inr.inr.inr =>
    go_enter Tryd.func12, Tryd.ntmps12
    go_wp2_with fail
    refine hl.mono ?_
    rintro e w1 ⟨rfl, hb⟩
    clear hl
    go_wp2
    go_ret
    exact HF.out _ hb
  all_goals
    go_enter Tryd.func12, Tryd.ntmps12
    go_wp2
    go_ret
    exact HF.out _ (Below.refl _ _)
theorem cmp_is (a b : ByteArray) : (a.toList == b.toList) = decide (a = b) := by
  rw [ByteArray.toList_eq, ByteArray.toList_eq]
  by_cases h : a = b
  · subst h; simp
  · rw [decide_eq_false h]
    refine beq_false_of_ne fun e => h ?_
    cases a; cases b
    congr 1
    exact Array.toList_inj.1 e
set_option maxHeartbeats 2000000 in
theorem check_yes (o : HKOk K) (w : World) (F G : Nat → Prop) (B : Nat) (S : σ) (top : ByteArray) (a i : Nat) (s : ByteArray) (oa : Option Addr) (c : Nat) (p : List Stp) (hP : PathIn w G oa p) (hs : s.size ≤ 1000) (hn : K.n S ≤ 500000) (v : K.V w F G B S) (hok : okB top a i p = true) :
    Calls Tryd.prog 12 #[.pointer (some ⟨B, 0, none⟩), .string top, .int .i64 (a : Int), .int .i64 (i : Int), .string s, .slice oa p.length c] w (ChkPost K w F G B S top a i s p) := by
  have h0 := empty_is top
  have HOK : Hid (okB top a i p = true) := hok
  unfold okB at hok
  simp only [Bool.and_eq_true, Bool.not_eq_true', decide_eq_true_eq, Int.toNat_natCast] at hok
  obtain ⟨k0, k1, _, k3, k4⟩ := hok
  rw [k0] at h0
  have hlp := leadB_iff.1 k4
  have hgl := hgt_le a
  have hl := leads_any a i (by omega) (by omega) G oa c p (by rw [hlp.1]; omega) w hP
  rw [k4] at hl
  obtain ⟨m, hm⟩ : ∃ m, m = p.length := ⟨_, rfl⟩
  have hml : m ≤ 32768 := by rw [hm, hlp.1]; omega
  have HLP : Hid (∀ k t, p[k]? = some t → fitP t (upK a k) (iK i k)) := hlp.2
  have HM : Hid (m = p.length) := hm
  have HP : Hid (PathIn w G oa p) := hP
  have HV : Hid (K.V w F G B S) := v
  rw [← hm] at hl ⊢
  have n1 : ¬ (32768 : Int) < a := by omega
  have n2 : ¬ (i : Int) < 0 := by omega
  have n3 : ¬ (a : Int) ≤ i := by omega
  clear v k4 hlp hm hP k0
  go_enter Tryd.func12, Tryd.ntmps12
  go_wp2_with fail
  refine hl.mono ?_
  rintro e w1 ⟨rfl, hb1⟩
  have hlf := leafHash_any o w1 F G B S s (by omega) (by omega) (o.below HV.out hb1)
  clear hl n1 n2 n3
  go_wp2_with fail
  refine hlf.mono ?_
  rintro e w2 ⟨S2, rfl, p1, p2, p3, p4, p5⟩
  have HI : Hid (K.V w2 F G B S2 ∧ ClimbInK (K.D S2) (K.h S2) s p 0 ∧ Touch G w w2 ∧ K.ext S S2 ∧ K.n S2 ≤ K.n S + (0 + 1)) := ⟨p1, ⟨p4, fun k t hk => absurd hk (Nat.not_lt_zero k)⟩, p2.pre hb1, p3, p5⟩
  clear hlf p1 p2 p3 p4 p5 hb1
  go_wp2_with fail
  go_loopw [13, 42] (fun xv kv wr => ∃ (k : Nat) (Sk : σ), k ≤ m ∧ kv = .int .i64 (k : Int) ∧ xv = .string (climb (K.h Sk) (K.h Sk (leafT s)) (p.take k)) ∧ K.V wr F G B Sk ∧ ClimbInK (K.D Sk) (K.h Sk) s p k ∧ Touch G w wr ∧ K.ext S Sk ∧ K.n Sk ≤ K.n S + (k + 1)) (fun _ kv _ => m - (intOf kv).toNat)
  case atStart => exact ⟨0, S2, Nat.zero_le _, rfl, rfl, HI.out⟩
  case round =>
    clear HI
    obtain ⟨k, Sk, hk, rfl, rfl, hv, hC, ht, hx, hnk⟩ := hrel
    have hxz : (climb (K.h Sk) (K.h Sk (leafT s)) (p.take k)).size = 32 := by
      cases k with
      | zero => exact o.size Sk _ hC.1 (by omega)
      | succ k =>
        by_cases hkp : k < p.length
        · obtain ⟨t, ht'⟩ : ∃ t, p[k]? = some t := ⟨_, List.getElem?_eq_getElem hkp⟩
          have hq : p.take (k + 1) = p.take k ++ [t] := by rw [List.take_add_one, ht']; rfl
          rw [hq, climb_append]
          exact o.size Sk _ (hC.2 k t (by omega) ht') (by omega)
        · exact absurd hk (by rw [HM.out]; omega)
    by_cases hlt : k < m
    · have k1' : (k : Int) < m := by omega
      have hkl : k < p.length := by rw [← HM.out]; exact hlt
      obtain ⟨st, hst⟩ : ∃ st, p[k]? = some st := ⟨_, List.getElem?_eq_getElem hkl⟩
      obtain ⟨f1, f2, f3⟩ := HLP.out k st hst
      have hil := iK_lt (show i < a by omega) k
      obtain ⟨bk, of, rfl, hbk, hgk, hsi⟩ := (HP.out.touch ht) k st hst
      obtain ⟨c1, ob, cb, c2, h3, h4, h5, h6⟩ := hsi
      obtain ⟨X, hX⟩ : ∃ X, X = climb (K.h Sk) (K.h Sk (leafT s)) (p.take k) := ⟨_, rfl⟩
      have hml' : iK i k % 4 ≤ st.sides.length := by rw [f2]; unfold fourN; omega
      have hsl : st.sides.length ≤ 3 := by rw [f2]; unfold fourN; omega
      have hbl := below_any st X ob cb (iK i k % 4) f1 hml' hsl h3 h4 h5 wr fun j x hx => by
        obtain ⟨b2, o2, e1, e2, _, e4⟩ := h6 j x hx
        exact ⟨b2, o2, e1, e2, e4⟩
      have hbs : ∀ y, y ∈ below st X → y.size = 32 := below_sizes (by rw [hX]; exact hxz) f3
      have hbz : (catB (below st X)).size ≤ 1048000 := by
        have h1 := catB_size_le (l := below st X) fun y hy => by rw [hbs y hy]; decide
        have h2 := below_length st X
        omega
      have hbl3 : (below st X).length ≤ 1000000 := by rw [below_length]; omega
      have HJ : Hid (K.V wr F G B Sk ∧ ClimbInK (K.D Sk) (K.h Sk) s p k ∧ Touch G w wr ∧ K.ext S Sk ∧ K.n Sk ≤ K.n S + (k + 1) ∧ X = climb (K.h Sk) (K.h Sk (leafT s)) (p.take k) ∧ p[k]? = some st) := ⟨hv, hC, ht, hx, hnk, hX, hst⟩
      rw [← hX]
      generalize st.sides.length = sl at *
      generalize st.at_ = sa at *
      clear hv hC ht hx hX hst h6 h5 f1 f2 f3 hxz
      go_wp2_with fail
      refine hbl.mono ?_
      rintro e w3 ⟨⟨g, cap, rfl, hcap, hglt, hcl⟩, hb3⟩
      have hnh := nodeHash_any o w3 F G B Sk g 0 cap (below st X) hcl hglt hcap hbl3 hbz (by omega) (o.below HJ.out.1 hb3)
      clear hbl hcl
      generalize hLL : (below st X).length = LL at *
      clear hLL
      go_wp2_with fail
      refine hnh.mono ?_
      rintro e w4 ⟨S4, rfl, p1, p2, p3, p4, p5⟩
      have HF : Hid (K.h S4 (nodeT (below st X)) = climb (K.h S4) (K.h S4 (leafT s)) (p.take (k + 1)) ∧ K.V w4 F G B S4 ∧ ClimbInK (K.D S4) (K.h S4) s p (k + 1) ∧ Touch G w w4 ∧ K.ext S S4 ∧ K.n S4 ≤ K.n S + (k + 1 + 1)) := by
        obtain ⟨_, hC, ht, hx, hnk, hX, hst⟩ := HJ.out
        have hq : p.take (k + 1) = p.take k ++ [st] := by rw [List.take_add_one, hst]; rfl
        have eX : climb (K.h S4) (K.h S4 (leafT s)) (p.take k) = X := by rw [hX]; exact climb_sameK hC (fun x hx => (p3 x hx).2) k (Nat.le_refl _)
        refine ⟨?_, p1, ?_, ht.trans ((p2.pre hb3).mono fun _ h => .inl h), HK.ext_trans hx p3, by omega⟩
        · rw [hq, climb_append, eX]
          rfl
        · have hm := hC.mono p3
          refine ⟨hm.1, fun k' t hk' ht' => ?_⟩
          by_cases e : k' = k
          · subst e
            rw [hst] at ht'
            obtain rfl := Option.some.inj ht'
            rw [eX]
            exact p4
          · exact hm.2 k' t (by omega) ht'
      generalize hZ : K.h S4 (nodeT (below st X)) = Z at *
      clear hnh p1 p2 p3 p4 p5 hb3 HJ hZ
      go_wp2
      go_roundw
      case rel => exact ⟨k + 1, S4, by omega, by go_num, by rw [HF.out.1], HF.out.2⟩
      case measure => simp [intOf]; omega
    · obtain rfl : k = m := by omega
      have k1' : ¬ (k : Int) < k := by omega
      have hpt : p.take k = p := List.take_of_length_le (by rw [HM.out]; exact Nat.le_refl _)
      obtain ⟨X, hX⟩ : ∃ X, X = climb (K.h Sk) (K.h Sk (leafT s)) p := ⟨_, rfl⟩
      rw [hpt, ← hX] at hxz ⊢
      have hrh := rootHash_any o wr F G B Sk a X (by omega) (by omega) (by omega) hv
      have HJ : Hid (ClimbInK (K.D Sk) (K.h Sk) s p k ∧ Touch G w wr ∧ K.ext S Sk ∧ K.n Sk ≤ K.n S + (k + 1) ∧ X = climb (K.h Sk) (K.h Sk (leafT s)) p) := ⟨hC, ht, hx, hnk, hX⟩
      clear hv hC ht hx hnk hX hpt
      go_wp2_with fail
      refine hrh.mono ?_
      rintro e w4 ⟨S4, rfl, p1, p2, p3, p4, p5⟩
      have HF : Hid (decide (K.h S4 (rootT a X) = top) = chkB (K.h S4) top a i s p ∧ K.V w4 F G B S4 ∧ Touch G w w4 ∧ K.ext S S4 ∧ K.n S4 ≤ K.n S + 32770 ∧ (okB top a i p = true → ClimbIn (K.D S4) (K.h S4) s p ∧ K.D S4 (rootT (a : Int).toNat (climb (K.h S4) (K.h S4 (leafT s)) p)))) := by
        obtain ⟨hC, ht, hx, hnk, hX⟩ := HJ.out
        rw [HM.out] at hC
        have eX : climb (K.h S4) (K.h S4 (leafT s)) p = X := by
          have := climb_sameK hC (fun x hx => (p3 x hx).2) p.length (Nat.le_refl _)
          rw [List.take_length] at this
          rw [hX, this]
        refine ⟨?_, p1, ht.trans (p2.mono fun _ h => .inl h), HK.ext_trans hx p3, by omega, fun _ => ⟨(hC.mono p3).all, ?_⟩⟩
        · unfold chkB
          rw [HOK.out, eX, Int.toNat_natCast, Bool.true_and]
        · rw [eX, Int.toNat_natCast]
          exact p4
      have hcm := cmp_is (K.h S4 (rootT a X)) top
      rw [HF.out.1] at hcm
      generalize K.h S4 (rootT a X) = Z at *
      obtain ⟨R, hR⟩ : ∃ R, R = chkB (K.h S4) top a i s p := ⟨_, rfl⟩
      have HR : Hid (R = chkB (K.h S4) top a i s p) := hR
      rw [← hR] at hcm
      clear hrh p1 p2 p3 p4 p5 HJ hR
      go_wp2
      go_ret
      exact ⟨S4, by rw [← HR.out]; rfl, HF.out.2⟩
theorem check_any (o : HKOk K) (w : World) (F G : Nat → Prop) (B : Nat) (S : σ) (top : ByteArray) (n i : Int) (s : ByteArray) (oa : Option Addr) (c : Nat) (p : List Stp) (hp : p.length ≤ 1000000) (hP : PathIn w G oa p) (hs : s.size ≤ 1000) (hn : K.n S ≤ 500000) (v : K.V w F G B S) :
    Calls Tryd.prog 12 #[.pointer (some ⟨B, 0, none⟩), .string top, .int .i64 n, .int .i64 i, .string s, .slice oa p.length c] w (ChkPost K w F G B S top n i s p) := by
  cases hok : okB top n i p
  · exact check_no o w F G B S top n i s oa c p hp hP v hok
  · have hk := hok
    unfold okB at hk
    simp only [Bool.and_eq_true, decide_eq_true_eq] at hk
    obtain ⟨a, rfl⟩ : ∃ a : Nat, n = a := ⟨n.toNat, by omega⟩
    obtain ⟨b, rfl⟩ : ∃ b : Nat, i = b := ⟨i.toNat, by omega⟩
    exact check_yes o w F G B S top a b s oa c p hP hs hn v hok
end
end Go.Proofs.YtgokehbdappcdaaDoor
