/- The law GridPlays, called with any number and any script, returns true, and changes nothing that was there. -/
import Derived.Test.YtmpbpioigfnneaaHasWalk8
import Derived.Test.YtmpbpioigfnneaaGrOps
namespace Go.Proofs.Ytmpbpioigfnneaa
set_option maxRecDepth 20000
open Go.RowKit

theorem putL_far (l : List Nat) : ∀ (u : Nat → Bool) (m : Nat), (∀ x, x ∈ l → x < m) → (∀ i, m ≤ i → u i = false) → ∀ i, m ≤ i → putL u l i = false := by
  induction l with
  | nil => exact fun u m _ h => h
  | cons a l ih =>
    intro u m hl h
    exact ih (putU u a true) m (fun x hx => hl x (List.mem_cons_of_mem _ hx)) (putU_out h (hl a List.mem_cons_self))
/-- A step in memory. -/
def OpAtB (w : World) (z : Nat) (kd at_ nn : Int) (us : Bool) : Prop := Row w z 43 [.int .i64 kd, .int .i64 at_, .int .i64 nn, .bool us]
theorem OpAtB.cells {w : World} {z : Nat} {kd at_ nn : Int} {us : Bool} (h : OpAtB w z kd at_ nn us) : w.cell? ⟨z, 0, none⟩ = some (.int .i64 kd) ∧ w.cell? ⟨z, 1, none⟩ = some (.int .i64 at_) ∧ w.cell? ⟨z, 2, none⟩ = some (.int .i64 nn) ∧ w.cell? ⟨z, 3, none⟩ = some (.bool us) := ⟨(Row.cell h 0).trans rfl, (Row.cell h 1).trans rfl, (Row.cell h 2).trans rfl, (Row.cell h 3).trans rfl⟩
theorem OpAtB.keep {w w' : World} {z : Nat} {kd at_ nn : Int} {us : Bool} (h : OpAtB w z kd at_ nn us) (k : w'.heap[z]? = w.heap[z]?) : OpAtB w' z kd at_ nn us := k.trans h
/-- What stands behind the step has been read. -/
theorem op_read {w wr : World} {base B b m : Nat} {u : Nat → Bool} (hd : Duo wr base B b m u) (hb : Below base w wr) (hz : base ≤ wr.heap.size) (kd at_ nn : Int) (us : Bool) :
    Duo (wr.alloc (.cells #[.int .i64 kd, .int .i64 at_, .int .i64 nn, .bool us] 43)) base B b m u ∧ OpAtB (wr.alloc (.cells #[.int .i64 kd, .int .i64 at_, .int .i64 nn, .bool us] 43)) wr.heap.size kd at_ nn us ∧ Below base w (wr.alloc (.cells #[.int .i64 kd, .int .i64 at_, .int .i64 nn, .bool us] 43)) :=
  ⟨hd.keep (Below.heap_alloc wr _ _ hd.grid.lt) (Below.heap_alloc wr _ _ hd.ref.lt), heap_alloc_new wr _, hb.alloc hz _⟩
set_option maxHeartbeats 4000000 in
theorem walk_gridPlays (n : Int) (v : Value) (l : List GOp) (w : World) (hv : GOps w v l) (hl : ∀ x ∈ l, x.Ok) :
    Calls Try.prog 5 #[.int .i64 n, v] w fun e w' => e = .returned (.bool true) ∧ Below w.heap.size w w' := by
  by_cases hn : n < 0 ∨ 3584 < n
  · go_enter Try.func5, Try.ntmps5
    go_wp2_with fail
    refine (filled_bad n hn _ _).mono ?_
    rintro e w1 ⟨rfl, rfl⟩
    have hq := eq_nil_none
    go_wp2_with fail
    refine (gawake_any _).mono ?_
    rintro e w3 ⟨rfl, hb3⟩
    go_wp2
    go_ret
    exact ⟨rfl, hb3⟩
  · obtain ⟨m, rfl⟩ : ∃ m : Nat, n = m := ⟨n.toNat, by omega⟩
    have hm : m ≤ 3584 := by omega
    have hf := filled_any m hm (.slice none 0 0) [] w (.inl ⟨none, 0, rfl, rfl⟩)
    have HV : Hid (GOps w v l) := hv
    obtain ⟨oa, cap, rfl⟩ := hv.form
    clear hn hv
    obtain ⟨len, hle⟩ : ∃ len, len = l.length := ⟨_, rfl⟩
    have HN : Hid (len = l.length) := hle
    rw [← hle]
    clear hle
    go_enter Try.func5, Try.ntmps5
    go_wp2_with fail
    refine hf.mono ?_
    rintro e w1 ⟨B, b, u, rfl, hd, hb⟩
    have hq := eq_nil_some
    have HI : Hid (Duo w1 w.heap.size B b m u ∧ Below w.heap.size w w1) := ⟨hd, hb⟩
    clear hf hd hb
    by_cases hk : 200 < m
    · have k1 : (200 : Int) < (m : Int) := by omega
      go_wp2_with fail
      refine (gawake_any _).mono ?_
      rintro e w5 ⟨rfl, hb5⟩
      have HB5 : Hid (Below w.heap.size w w5) := HI.out.2.trans (hb5.mono HI.out.2.size)
      clear hb5 HI
      go_wp2
      go_ret
      exact ⟨rfl, HB5.out⟩
    · have k1 : decide ((200 : Int) < (m : Int)) = false := decide_eq_false (by omega)
      have k2 : ¬ 200 < m := hk
      have k3 : ¬ (200 : Int) < (m : Int) := by omega
      go_wp2_with fail
      go_loopw [7] (fun iv wr => ∃ (j : Nat) (u : Nat → Bool), j ≤ len ∧ iv = .int .i64 (j : Int) ∧ Duo wr w.heap.size B b m u ∧ Below w.heap.size w wr) (fun iv _ => len - (intOf iv).toNat)
      case atStart => exact ⟨0, u, Nat.zero_le _, rfl, HI.out⟩
      case round =>
        clear HI u k1 k2 k3
        obtain ⟨j, u, hj, rfl, hd, hb⟩ := hrel
        have HI : Hid (Duo wr w.heap.size B b m u ∧ Below w.heap.size w wr) := ⟨hd, hb⟩
        by_cases hlt : j < len ∧ j < 60
        · have j1 : (j : Int) < (len : Nat) := by omega
          have j2 : (j : Int) < 60 := by omega
          obtain ⟨g, o, e, hg, hx⟩ := (show GOps w (.slice oa l.length cap) l from HV.out).get (i := j) (by rw [← HN.out]; exact hlt.1)
          subst e
          obtain ⟨x, hxj⟩ : ∃ x, l[j]? = some x := ⟨_, List.getElem?_eq_getElem (by rw [← HN.out]; exact hlt.1)⟩
          obtain ⟨c0, c1, c2, c3⟩ := (hx j x hxj).keep (hb.block g hg)
          have hok := hl x (List.mem_of_getElem? hxj)
          have HOK : Hid (x.at_ < 9223372036854775808) := (wf_int hok.at_).2
          obtain ⟨kd, at_, nn, us⟩ := x
          simp only at c0 c1 c2 c3 HOK
          clear hd hb hx hxj hlt hok
          obtain ⟨z, hz⟩ : ∃ z, z = wr.heap.size := ⟨_, rfl⟩
          have hzB : z ≠ B := by have := HI.out.1.grid.lt; omega
          have hzb : z ≠ b := by have := HI.out.1.ref.lt; omega
          have hzw : w.heap.size ≤ z := by rw [hz]; exact HI.out.2.size
          have HR : Hid (Duo (wr.alloc (.cells #[.int .i64 kd, .int .i64 at_, .int .i64 nn, .bool us] 43)) w.heap.size B b m u ∧ OpAtB (wr.alloc (.cells #[.int .i64 kd, .int .i64 at_, .int .i64 nn, .bool us] 43)) z kd at_ nn us ∧ Below w.heap.size w (wr.alloc (.cells #[.int .i64 kd, .int .i64 at_, .int .i64 nn, .bool us] 43)) ∧ wr.heap.size = z) := by
            obtain ⟨h1, h2, h3⟩ := op_read HI.out.1 HI.out.2 HI.out.2.size kd at_ nn us
            rw [← hz] at h2
            exact ⟨h1, h2, h3, hz.symm⟩
          clear HI hz
          by_cases hkd : kd = 2
          · subst hkd
            go_wp2_with fail
            have hd2 := HR.out.1
            have ho2 := HR.out.2.1
            have hb2 := HR.out.2.2.1
            rw [HR.out.2.2.2]
            clear HR
            generalize wr.alloc (.cells #[.int .i64 2, .int .i64 at_, .int .i64 nn, .bool us] 43) = w2 at *
            have htk := take_all w2 B m u hd2.grid hm nn at_ HOK.out
            obtain ⟨er, her⟩ : ∃ er, er = takeE u m nn at_ := ⟨_, rfl⟩
            have HE : Hid (er = takeE u m nn at_) := her
            obtain ⟨L, hL⟩ : ∃ L, L = takeL u m nn at_ := ⟨_, rfl⟩
            have HL : Hid (L = takeL u m nn at_) := hL
            rw [← her, ← hL] at htk
            clear her hL
            refine htk.mono ?_
            rintro e w3 ⟨v3, rfl, hv3, hg3, ho3⟩
            obtain ⟨oc, cc, rfl⟩ := hv3.form
            have hb3 : Below w.heap.size w w3 := hb2.trans ((ho3.below (Nat.le_of_lt hd2.grid.lt)).mono hd2.B_low)
            have hr3 : BoolsAt w3 b m u := hd2.ref.keep (ho3.2 _ hd2.ref.lt (fun e => hd2.apart e.symm))
            have hop3 : OpAtB w3 z 2 at_ nn us := ho2.keep (ho3.2 _ (Row.lt ho2) hzB)
            have hfr := rfree_any w3 b m u hr3 hm at_ nn
            obtain ⟨c0', c1', c2', c3'⟩ := hop3.cells
            have hs3 : B < w3.heap.size ∧ b < w3.heap.size ∧ z < w3.heap.size := ⟨hg3.lt, hr3.lt, Row.lt hop3⟩
            have H3 : Hid (IntsAt w3 w2.heap.size (.slice oc L.length cc) L ∧ GridAt w3 B m (putL u L) ∧ BoolsAt w3 b m u ∧ OpAtB w3 z 2 at_ nn us ∧ Below w.heap.size w w3 ∧ (∀ i, m ≤ i → u i = false) ∧ w.heap.size ≤ B ∧ w.heap.size ≤ b ∧ B ≠ b) := ⟨hv3, hg3, hr3, hop3, hb3, hd2.out, hd2.B_low, hd2.b_low, hd2.apart⟩
            clear htk hv3 hg3 hr3 hop3 hb3 ho3 hd2 hb2 ho2
            obtain ⟨W, hW⟩ : ∃ W, W = freeTo u at_ nn m := ⟨_, rfl⟩
            have HW : Hid (W = freeTo u at_ nn m) := hW
            rw [← hW] at hfr
            clear hW c0 c1 c2 c3
            obtain ⟨ll, hll⟩ : ∃ ll, ll = L.length := ⟨_, rfl⟩
            have HLL : Hid (ll = L.length) := hll
            rw [← hll] at H3 ⊢
            clear hll
            go_wp2_with fail
            refine hfr.mono ?_
            rintro e w4 ⟨v4, rfl, hv4, hb4⟩
            obtain ⟨od, cd, rfl⟩ := hv4.form
            have H4 : Hid (IntsAt w4 w2.heap.size (.slice oc ll cc) L ∧ GridAt w4 B m (putL u L) ∧ BoolsAt w4 b m u ∧ OpAtB w4 z 2 at_ nn us ∧ Below w.heap.size w w4 ∧ IntsAt w4 w3.heap.size (.slice od W.length cd) W ∧ (∀ i, m ≤ i → u i = false) ∧ w.heap.size ≤ B ∧ w.heap.size ≤ b ∧ B ≠ b) :=
              ⟨H3.out.1.keep fun k _ hk => hb4.block k hk, H3.out.2.1.keep (hb4.block _ hs3.1), H3.out.2.2.1.keep (hb4.block _ hs3.2.1), H3.out.2.2.2.1.keep (hb4.block _ hs3.2.2), H3.out.2.2.2.2.1.trans (hb4.mono H3.out.2.2.2.2.1.size), hv4, H3.out.2.2.2.2.2⟩
            obtain ⟨d0, d1, d2, d3⟩ := H4.out.2.2.2.1.cells
            have hs4 := hb4.size
            obtain ⟨wl, hwl⟩ : ∃ wl, wl = W.length := ⟨_, rfl⟩
            have HWL : Hid (wl = W.length) := hwl
            have hwm : wl ≤ 3584 := by have := freeTo_len u at_ nn m; rw [hwl, HW.out]; omega
            rw [← hwl] at H4 ⊢
            clear hfr hv4 hb4 H3 hwl c0' c1' c2' c3'
            by_cases hn0 : nn < 0
            · have e1 : er = 1 := by rw [HE.out]; exact if_pos hn0
              have e2 : L = [] := by rw [HL.out]; exact if_neg (by rw [← HE.out, e1]; decide)
              have e3 : ll = 0 := by rw [HLL.out, e2]; rfl
              subst e1 e3
              have x1 : decide ((wl : Int) < nn) = false := decide_eq_false (by omega)
              have x2 : ¬ (wl : Int) < nn := by omega
              have HF : Hid (Duo w4 w.heap.size B b m u ∧ Below w.heap.size w w4) := by
                obtain ⟨_, h2, h3, _, h5, _, h7, h8, h9, h10⟩ := H4.out
                rw [e2] at h2
                exact ⟨⟨h2, h3, h8, h9, h10, h7⟩, h5⟩
              clear H4 HL HE HLL HW e2
              go_wp2
              go_roundw
              case rel => exact ⟨j + 1, u, by omega, by go_num, HF.out⟩
              case measure => simp [intOf]; omega
            · have x0 : decide (nn < 0) = false := decide_eq_false hn0
              by_cases hnw : (wl : Int) < nn
              · have e1 : er = 6 := by rw [HE.out]; unfold takeE; rw [if_neg hn0, if_pos (by rw [← HW.out, ← HWL.out]; exact hnw)]
                have e2 : L = [] := by rw [HL.out]; exact if_neg (by rw [← HE.out, e1]; decide)
                have e3 : ll = 0 := by rw [HLL.out, e2]; rfl
                subst e1 e3
                have HF : Hid (Duo w4 w.heap.size B b m u ∧ Below w.heap.size w w4) := by
                  obtain ⟨_, h2, h3, _, h5, _, h7, h8, h9, h10⟩ := H4.out
                  rw [e2] at h2
                  exact ⟨⟨h2, h3, h8, h9, h10, h7⟩, h5⟩
                clear H4 HL HE HLL HW e2
                go_wp2
                go_roundw
                case rel => exact ⟨j + 1, u, by omega, by go_num, HF.out⟩
                case measure => simp [intOf]; omega
              · have e1 : er = 0 := by rw [HE.out]; unfold takeE; rw [if_neg hn0, if_neg (by rw [← HW.out, ← HWL.out]; exact hnw)]
                have e2 : L = W := by rw [HL.out, HW.out]; exact if_pos (by rw [← HE.out, e1])
                have e3 : ll = wl := by rw [HLL.out, e2]; exact HWL.out.symm
                subst e1 e3
                have x1 : decide ((ll : Int) < nn) = false := decide_eq_false hnw
                have x2 : ¬ (ll : Int) < nn := hnw
                have hmem : ∀ x, x ∈ W → x < m := fun x hx => by rw [HW.out] at hx; exact (freeTo_mem u at_ nn m x hx).1
                have HM : Hid (∀ x, x ∈ W → x < m) := hmem
                rw [e2] at H4
                have hsm := gsame_any w4 w2.heap.size w3.heap.size (.slice oc ll cc) (.slice od ll cd) W H4.out.1 H4.out.2.2.2.2.2.1 (by rw [← HWL.out]; exact hwm)
                clear HL HE HLL HW e2 hmem
                go_wp2_with fail
                refine hsm.mono ?_
                rintro e w5 ⟨rfl, hb5⟩
                have H5 : Hid (GridAt w5 B m (putL u W) ∧ BoolsAt w5 b m (putL u (W.take 0)) ∧ Below w.heap.size w w5 ∧ IntsAt w5 w3.heap.size (.slice od ll cd) W) := by
                  obtain ⟨_, h2, h3, _, h5, h6, _⟩ := H4.out
                  exact ⟨h2.keep (hb5.block _ h2.lt), h3.keep (hb5.block _ h3.lt), h5.trans (hb5.mono h5.size), h6.keep fun k _ hk => hb5.block k hk⟩
                have HX : Hid ((∀ i, m ≤ i → u i = false) ∧ w.heap.size ≤ B ∧ w.heap.size ≤ b ∧ B ≠ b) := H4.out.2.2.2.2.2.2
                clear hsm hb5 H4 d0 d1 d2 d3
                go_wp2_with fail
                generalize wr = wo at *
                go_loopw [12] (fun iv wr => ∃ q : Nat, q ≤ ll ∧ iv = .int .i64 (q : Int) ∧ GridAt wr B m (putL u W) ∧ BoolsAt wr b m (putL u (W.take q)) ∧ Below w.heap.size w wr ∧ IntsAt wr w3.heap.size (.slice od ll cd) W) (fun iv _ => ll - (intOf iv).toNat)
                case atStart => exact ⟨0, Nat.zero_le _, rfl, H5.out⟩
                case round =>
                  clear H5
                  obtain ⟨q, hq, rfl, hg6, hr6, hb6, hv6⟩ := hrel
                  by_cases hql : q < ll
                  · have q1 : (q : Int) < (ll : Nat) := by omega
                    obtain ⟨y, hy⟩ : ∃ y, W[q]? = some y := ⟨_, List.getElem?_eq_getElem (by rw [← HWL.out]; exact hql)⟩
                    have hym := HM.out y (List.mem_of_getElem? hy)
                    have y1 : (y : Int) < (m : Nat) := by omega
                    obtain ⟨gd, rfl, hgd, _, hcy⟩ := hv6.cell hy
                    have hcb := hr6.cell y hym
                    have hfb := hr6.frozen y
                    have HF : Hid (GridAt (wr.setCell ⟨b, y, none⟩ (.bool true)) B m (putL u W) ∧ BoolsAt (wr.setCell ⟨b, y, none⟩ (.bool true)) b m (putL u (W.take (q + 1))) ∧ Below w.heap.size w (wr.setCell ⟨b, y, none⟩ (.bool true)) ∧ IntsAt (wr.setCell ⟨b, y, none⟩ (.bool true)) w3.heap.size (.slice (some ⟨gd, 0, none⟩) ll cd) W) := by
                      rw [putL_step u W q y hy]
                      exact ⟨hg6.keep (Below.heap_setCell wr ⟨b, y, none⟩ _ _ HX.out.2.2.2), hr6.set y true, hb6.setCell (p := ⟨b, y, none⟩) HX.out.2.2.1 _, hv6.keep fun k hk _ => Below.heap_setCell wr ⟨b, y, none⟩ _ k (by show k ≠ b; omega)⟩
                    generalize putL u (W.take q) y = yy at *
                    clear hg6 hr6 hb6 hv6 hy
                    go_wp2
                    go_roundw
                    case rel => exact ⟨q + 1, by omega, by go_num, HF.out⟩
                    case measure => simp [intOf]; omega
                  · obtain rfl : q = ll := by omega
                    have q1 : ¬ (q : Int) < q := by omega
                    have HF : Hid (Duo wr w.heap.size B b m (putL u W) ∧ Below w.heap.size w wr) := by
                      rw [HWL.out, List.take_length] at hr6
                      exact ⟨⟨hg6, hr6, HX.out.2.1, HX.out.2.2.1, HX.out.2.2.2, putL_far W u m HM.out HX.out.1⟩, hb6⟩
                    clear hg6 hr6 hb6 hv6
                    go_wp2
                    go_roundw
                    case rel => exact ⟨j + 1, _, by omega, by go_num, HF.out⟩
                    case measure => simp [intOf]; omega
          · have hkz : (kd == 2) = false := by simp [hkd]
            go_wp2_with fail
            have hd2 := HR.out.1
            have ho2 := HR.out.2.1
            have hb2 := HR.out.2.2.1
            rw [HR.out.2.2.2]
            clear HR
            generalize wr.alloc (.cells #[.int .i64 kd, .int .i64 at_, .int .i64 nn, .bool us] 43) = w2 at *
            have hp := put_all w2 B m u hd2.grid at_ us hm
            obtain ⟨er, her⟩ : ∃ er, er = putE m at_ := ⟨_, rfl⟩
            have HE : Hid (er = putE m at_) := her
            rw [← her] at hp
            clear her c0 c1 c2 c3
            refine hp.mono ?_
            rintro e w3 ⟨rfl, hg3, ho3⟩
            have hb3 : Below w.heap.size w w3 := hb2.trans ((ho3.below (Nat.le_of_lt hd2.grid.lt)).mono hd2.B_low)
            have hr3 : BoolsAt w3 b m u := hd2.ref.keep (ho3.2 _ hd2.ref.lt (fun e => hd2.apart e.symm))
            have hop3 : OpAtB w3 z kd at_ nn us := ho2.keep (ho3.2 _ (Row.lt ho2) hzB)
            obtain ⟨c0', c1', c2', c3'⟩ := hop3.cells
            by_cases hin : 0 ≤ at_ ∧ at_ < (m : Int)
            · obtain ⟨y, rfl⟩ : ∃ y : Nat, at_ = y := ⟨at_.toNat, by omega⟩
              have ht : tellsP m (y : Int) = true := decide_eq_true hin
              have e1 : er = 0 := by rw [HE.out]; exact if_pos ht
              subst e1
              unfold putN at hg3
              rw [if_pos ht, Int.toNat_natCast] at hg3
              have hym : y < m := by omega
              have y1 : (y : Int) < (m : Nat) := by omega
              have y2 : decide (m ≤ y) = false := decide_eq_false (by omega)
              have hcb := hr3.cell y hym
              have hfb := hr3.frozen y
              have HF : Hid (Duo (w3.setCell ⟨b, y, none⟩ (.bool us)) w.heap.size B b m (putU u y us) ∧ Below w.heap.size w (w3.setCell ⟨b, y, none⟩ (.bool us))) :=
                ⟨⟨hg3.keep (Below.heap_setCell w3 ⟨b, y, none⟩ _ _ hd2.apart), hr3.set y us, hd2.B_low, hd2.b_low, hd2.apart, putU_out hd2.out hym⟩, hb3.setCell (p := ⟨b, y, none⟩) hd2.b_low _⟩
              generalize u y = yy at *
              clear hp hg3 hr3 hb3 ho3 hop3 hd2 ho2 hb2 hin ht HE hk hkd hzB hzb hzw HOK HV HN
              go_wp2
              go_roundw
              case rel => exact ⟨j + 1, _, by omega, by go_num, HF.out⟩
              case measure => simp [intOf]; omega
            · have ht : tellsP m at_ = false := decide_eq_false hin
              have e1 : er = 2 := by rw [HE.out]; unfold putE; rw [ht]; rfl
              subst e1
              unfold putN at hg3
              rw [ht] at hg3
              have HF : Hid (Duo w3 w.heap.size B b m u ∧ Below w.heap.size w w3) := ⟨⟨hg3, hr3, hd2.B_low, hd2.b_low, hd2.apart, hd2.out⟩, hb3⟩
              clear hp hg3 hr3 hb3 ho3 hop3 hd2 ho2 hb2 ht HE
              by_cases h0 : at_ < 0
              · clear hin
                go_wp2
                go_roundw
                case rel => exact ⟨j + 1, _, by omega, by go_num, HF.out⟩
                case measure => simp [intOf]; omega
              · have y3 : decide (at_ < 0) = false := decide_eq_false h0
                have y4 : (m : Int) ≤ at_ := by omega
                clear hin
                go_wp2
                go_roundw
                case rel => exact ⟨j + 1, _, by omega, by go_num, HF.out⟩
                case measure => simp [intOf]; omega
        · have hbo := gbody_any wr B m u hd.grid
          have hro := rbody_any wr b m u hd.ref hm hd.out
          have hct := cmp_text (bodyU u)
          generalize bodyU u = S at *
          have hj2 : (¬ (j : Int) < (len : Nat)) ∨ ((j : Int) < (len : Nat) ∧ decide ((j : Int) < 60) = false) := by
            by_cases h : j < len
            · exact .inr ⟨by omega, decide_eq_false (by omega)⟩
            · exact .inl (by omega)
          clear hlt hd hb
          rcases hj2 with j1 | ⟨j1, j2⟩
          all_goals
            go_wp2_with fail
            refine hbo.mono ?_
            rintro e w2 ⟨rfl, rfl⟩
            clear hbo
            go_wp2_with fail
            refine hro.mono ?_
            rintro e w3 ⟨rfl, hb3⟩
            have hg3 := HI.out.1.grid.keep (hb3.block _ HI.out.1.grid.lt)
            have hr3 := HI.out.1.ref.keep (hb3.block _ HI.out.1.ref.lt)
            have k3 := gcount_any _ _ _ _ hg3
            have k4 := rcount_any _ _ _ _ hr3 hm
            have e : cntU u 3584 = cntU u m := by
              have := cntU_beyond u m HI.out.1.out (3584 - m)
              rwa [show m + (3584 - m) = 3584 by omega] at this
            rw [e] at k3
            generalize cntU u m = c at *
            have HB : Hid (Below w.heap.size w w3) := HI.out.2.trans (hb3.mono HI.out.2.size)
            clear hro hb3 hg3 hr3 HI e
            go_wp2_with fail
            refine k3.mono ?_
            rintro e w4 ⟨rfl, rfl⟩
            clear k3
            go_wp2_with fail
            refine k4.mono ?_
            rintro e w4 ⟨rfl, rfl⟩
            clear k4
            go_wp2_with fail
            refine (gawake_any _).mono ?_
            rintro e w5 ⟨rfl, hb5⟩
            have HB5 : Hid (Below w.heap.size w w5) := HB.out.trans (hb5.mono HB.out.size)
            clear hb5 HB
            go_wp2
            go_ret
            exact ⟨rfl, HB5.out⟩
end Go.Proofs.Ytmpbpioigfnneaa
