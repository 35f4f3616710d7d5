/- The law PathBack, called with any text and any list of texts, returns true, and changes nothing that was there. -/
import Derived.Test.YtjpgmbebdkiofaaDoorPtRJoin
namespace Go.Proofs.YtjpgmbebdkiofaaDoor
set_option maxRecDepth 20000
open Go.RowKit

theorem sp_len2 (l : List UInt8) : ((spL l).map mkB).length ≤ 1000000000 := by
  rw [List.length_map]
  unfold spL
  split
  · rename_i h
    have := (sp_form h.1).1
    have := cut_len l.tail
    rw [List.length_tail] at this
    omega
  · simp
/-- What Join tells of what Split tells. -/
theorem back_one (s : ByteArray) : ∃ (T : ByteArray) (F : Int), (∀ v w, LS w v ((spL s.data.toList).map mkB) → Calls Tryd.prog 15 #[v] w fun e w' => e = .returned (.tuple #[.string T, .int .i64 F]) ∧ Below w.heap.size w w') ∧ (spE s.data.toList = 0 → F = 0 ∧ T = s) := by
  refine ⟨mkB (jn (spL s.data.toList)).1, (jn (spL s.data.toList)).2, fun v w h => ?_, fun h => ?_⟩
  · have := pjoin_any v _ w h (sp_len2 _)
    rw [lsts_mkB] at this
    exact this
  · rw [jn_sp h]
    exact ⟨rfl, rfl⟩
/-- What Split tells of what Join tells. -/
theorem back_two (l : List ByteArray) : ∃ (U : ByteArray) (G H : Int) (L : List ByteArray), mkB (jn (lsts l)).1 = U ∧ (jn (lsts l)).2 = G ∧ (∀ w, Calls Tryd.prog 12 #[.string U] w fun e w' => ∃ v, e = .returned (.tuple #[v, .int .i64 H]) ∧ LS w' v L ∧ Below w.heap.size w w' ∧ Fit v) ∧ (G = 0 → H = 0 ∧ L = l) := by
  refine ⟨_, _, spE (jn (lsts l)).1, (spL (jn (lsts l)).1).map mkB, rfl, rfl, fun w => psplit_any (mkB (jn (lsts l)).1) w, fun h => ?_⟩
  have := sp_jn h
  exact ⟨this.1, by rw [this.2, mkB_lsts]⟩
set_option maxHeartbeats 2000000 in
theorem walk_pathBack (s : ByteArray) (v : Value) (l : List ByteArray) (w : World) (hv : LS w v l ∧ Capped v) :
    Calls Tryd.prog 7 #[.string s, v] w fun e w' => e = .returned (.bool true) ∧ Below w.heap.size w w' := by
  obtain ⟨oa, ca, rfl⟩ := hv.1.form
  have h1 := psplit_any s
  obtain ⟨T, F, k1, hT⟩ := back_one s
  generalize (spL s.data.toList).map mkB = L1 at *
  generalize spE s.data.toList = E at *
  by_cases h2 : 200 < l.length
  · have h2' : (200 : Int) < l.length := by omega
    have hc2 : (200 : Int) ≤ ca := by have := (hv.2 _ _ _ rfl).1; omega
    have l2 : LS w (.slice oa 200 ca) (l.take 200) := hv.1.cut 200 h2 ca
    have n2 : (l.take 200).length ≤ 200 := by rw [List.length_take]; omega
    clear hv h2
    obtain ⟨U, G, H, L, hU, hG, k4, hL⟩ := back_two (l.take 200)
    have k3 : ∀ w', Below w.heap.size w w' → Calls Tryd.prog 15 #[.slice oa 200 ca] w' fun e w'' => e = .returned (.tuple #[.string U, .int .i64 G]) ∧ Below w'.heap.size w' w'' := fun w' h => by
      have := pjoin_any _ _ w' (l2.below h) (by omega)
      rw [hU, hG] at this
      exact this
    clear hU hG
    obtain ⟨m, hm⟩ : ∃ m, m = l.take 200 := ⟨_, rfl⟩
    rw [← hm] at l2 n2 hL
    clear hm
    have HL2 : Hid (LS w (.slice oa 200 ca) m) := l2
    clear l2
    by_cases gE : E = 0
    · have hE : E = 0 := gE
      subst hE
      obtain ⟨hF, hT2⟩ := hT rfl
      subst hF
      rw [hT2] at k1
      clear hT hT2 gE
      by_cases gG : G = 0
      · have hG : G = 0 := gG
        subst hG
        obtain ⟨hH, hL2⟩ := hL rfl
        subst hH hL2
        clear hL gG
        go_enter Tryd.func7, Tryd.ntmps7
        go_wp2_with fail
        refine (h1 _).mono ?_
        rintro e w1 ⟨v1, rfl, l1, b1, _⟩
        clear h1
        have k1' := k1 _ _ l1
        clear k1
        go_wp2_with fail
        refine k1'.mono ?_
        rintro e w2 ⟨rfl, b2⟩
        have b2' := b1.trans (b2.mono b1.size)
        have k3' := k3 _ b2'
        clear k1' k3 l1 b1 b2
        go_wp2_with fail
        refine k3'.mono ?_
        rintro e w3 ⟨rfl, b3⟩
        have b3' := b2'.trans (b3.mono b2'.size)
        clear k3' b2' b3
        go_wp2_with fail
        refine (k4 _).mono ?_
        rintro e w4 ⟨v4, rfl, l4, b4, _⟩
        have b4' := b3'.trans (b4.mono b3'.size)
        clear k4 b3' b4
        have ks := psame_any _ _ _ _ w4 l4 (HL2.out.below b4') (by omega)
        rw [decide_eq_true rfl] at ks
        have B4 : Hid (Below w.heap.size w w4) := b4'
        clear l4 b4'
        go_wp2_with fail
        refine ks.mono ?_
        rintro e w5 ⟨rfl, b5⟩
        have B5 : Hid (Below w.heap.size w w5) := B4.out.trans (b5.mono B4.out.size)
        clear ks b5
        go_wp2_with fail
        refine (pawake_any _).mono ?_
        rintro e w6 ⟨rfl, b6⟩
        have B6 : Hid (Below w.heap.size w w6) := B5.out.trans (b6.mono B5.out.size)
        clear b6
        go_wp2
        go_ret
        exact ⟨rfl, B6.out⟩
      · have hG : ¬ G = 0 := gG
        clear hL gG
        go_enter Tryd.func7, Tryd.ntmps7
        go_wp2_with fail
        refine (h1 _).mono ?_
        rintro e w1 ⟨v1, rfl, l1, b1, _⟩
        clear h1
        have k1' := k1 _ _ l1
        clear k1
        go_wp2_with fail
        refine k1'.mono ?_
        rintro e w2 ⟨rfl, b2⟩
        have b2' := b1.trans (b2.mono b1.size)
        have k3' := k3 _ b2'
        clear k1' k3 l1 b1 b2
        go_wp2_with fail
        refine k3'.mono ?_
        rintro e w3 ⟨rfl, b3⟩
        have b3' := b2'.trans (b3.mono b2'.size)
        clear k3' b2' b3
        go_wp2_with fail
        refine (k4 _).mono ?_
        rintro e w4 ⟨v4, rfl, l4, b4, _⟩
        have b4' := b3'.trans (b4.mono b3'.size)
        clear k4 b3' b4
        have B5 : Hid (Below w.heap.size w w4) := b4'
        clear l4 b4'
        go_wp2_with fail
        refine (pawake_any _).mono ?_
        rintro e w6 ⟨rfl, b6⟩
        have B6 : Hid (Below w.heap.size w w6) := B5.out.trans (b6.mono B5.out.size)
        clear b6
        go_wp2
        go_ret
        exact ⟨rfl, B6.out⟩
    · have hE : ¬ E = 0 := gE
      clear hT gE
      by_cases gG : G = 0
      · have hG : G = 0 := gG
        subst hG
        obtain ⟨hH, hL2⟩ := hL rfl
        subst hH hL2
        clear hL gG
        go_enter Tryd.func7, Tryd.ntmps7
        go_wp2_with fail
        refine (h1 _).mono ?_
        rintro e w1 ⟨v1, rfl, l1, b1, _⟩
        clear h1
        have k1' := k1 _ _ l1
        clear k1
        go_wp2_with fail
        refine k1'.mono ?_
        rintro e w2 ⟨rfl, b2⟩
        have b2' := b1.trans (b2.mono b1.size)
        have k3' := k3 _ b2'
        clear k1' k3 l1 b1 b2
        go_wp2_with fail
        refine k3'.mono ?_
        rintro e w3 ⟨rfl, b3⟩
        have b3' := b2'.trans (b3.mono b2'.size)
        clear k3' b2' b3
        go_wp2_with fail
        refine (k4 _).mono ?_
        rintro e w4 ⟨v4, rfl, l4, b4, _⟩
        have b4' := b3'.trans (b4.mono b3'.size)
        clear k4 b3' b4
        have ks := psame_any _ _ _ _ w4 l4 (HL2.out.below b4') (by omega)
        rw [decide_eq_true rfl] at ks
        have B4 : Hid (Below w.heap.size w w4) := b4'
        clear l4 b4'
        go_wp2_with fail
        refine ks.mono ?_
        rintro e w5 ⟨rfl, b5⟩
        have B5 : Hid (Below w.heap.size w w5) := B4.out.trans (b5.mono B4.out.size)
        clear ks b5
        go_wp2_with fail
        refine (pawake_any _).mono ?_
        rintro e w6 ⟨rfl, b6⟩
        have B6 : Hid (Below w.heap.size w w6) := B5.out.trans (b6.mono B5.out.size)
        clear b6
        go_wp2
        go_ret
        exact ⟨rfl, B6.out⟩
      · have hG : ¬ G = 0 := gG
        clear hL gG
        go_enter Tryd.func7, Tryd.ntmps7
        go_wp2_with fail
        refine (h1 _).mono ?_
        rintro e w1 ⟨v1, rfl, l1, b1, _⟩
        clear h1
        have k1' := k1 _ _ l1
        clear k1
        go_wp2_with fail
        refine k1'.mono ?_
        rintro e w2 ⟨rfl, b2⟩
        have b2' := b1.trans (b2.mono b1.size)
        have k3' := k3 _ b2'
        clear k1' k3 l1 b1 b2
        go_wp2_with fail
        refine k3'.mono ?_
        rintro e w3 ⟨rfl, b3⟩
        have b3' := b2'.trans (b3.mono b2'.size)
        clear k3' b2' b3
        go_wp2_with fail
        refine (k4 _).mono ?_
        rintro e w4 ⟨v4, rfl, l4, b4, _⟩
        have b4' := b3'.trans (b4.mono b3'.size)
        clear k4 b3' b4
        have B5 : Hid (Below w.heap.size w w4) := b4'
        clear l4 b4'
        go_wp2_with fail
        refine (pawake_any _).mono ?_
        rintro e w6 ⟨rfl, b6⟩
        have B6 : Hid (Below w.heap.size w w6) := B5.out.trans (b6.mono B5.out.size)
        clear b6
        go_wp2
        go_ret
        exact ⟨rfl, B6.out⟩
  · have h2' : ¬ (200 : Int) < l.length := by omega
    have l2 : LS w (.slice oa l.length ca) l := hv.1
    have n2 : l.length ≤ 200 := by omega
    clear hv h2
    obtain ⟨U, G, H, L, hU, hG, k4, hL⟩ := back_two (l)
    have k3 : ∀ w', Below w.heap.size w w' → Calls Tryd.prog 15 #[.slice oa l.length ca] w' fun e w'' => e = .returned (.tuple #[.string U, .int .i64 G]) ∧ Below w'.heap.size w' w'' := fun w' h => by
      have := pjoin_any _ _ w' (l2.below h) (by omega)
      rw [hU, hG] at this
      exact this
    clear hU hG
    have HL2 : Hid (LS w (.slice oa l.length ca) l) := l2
    clear l2
    by_cases gE : E = 0
    · have hE : E = 0 := gE
      subst hE
      obtain ⟨hF, hT2⟩ := hT rfl
      subst hF
      rw [hT2] at k1
      clear hT hT2 gE
      by_cases gG : G = 0
      · have hG : G = 0 := gG
        subst hG
        obtain ⟨hH, hL2⟩ := hL rfl
        subst hH hL2
        clear hL gG
        go_enter Tryd.func7, Tryd.ntmps7
        go_wp2_with fail
        refine (h1 _).mono ?_
        rintro e w1 ⟨v1, rfl, l1, b1, _⟩
        clear h1
        have k1' := k1 _ _ l1
        clear k1
        go_wp2_with fail
        refine k1'.mono ?_
        rintro e w2 ⟨rfl, b2⟩
        have b2' := b1.trans (b2.mono b1.size)
        have k3' := k3 _ b2'
        clear k1' k3 l1 b1 b2
        go_wp2_with fail
        refine k3'.mono ?_
        rintro e w3 ⟨rfl, b3⟩
        have b3' := b2'.trans (b3.mono b2'.size)
        clear k3' b2' b3
        go_wp2_with fail
        refine (k4 _).mono ?_
        rintro e w4 ⟨v4, rfl, l4, b4, _⟩
        have b4' := b3'.trans (b4.mono b3'.size)
        clear k4 b3' b4
        have ks := psame_any _ _ _ _ w4 l4 (HL2.out.below b4') (by omega)
        rw [decide_eq_true rfl] at ks
        have B4 : Hid (Below w.heap.size w w4) := b4'
        clear l4 b4'
        go_wp2_with fail
        refine ks.mono ?_
        rintro e w5 ⟨rfl, b5⟩
        have B5 : Hid (Below w.heap.size w w5) := B4.out.trans (b5.mono B4.out.size)
        clear ks b5
        go_wp2_with fail
        refine (pawake_any _).mono ?_
        rintro e w6 ⟨rfl, b6⟩
        have B6 : Hid (Below w.heap.size w w6) := B5.out.trans (b6.mono B5.out.size)
        clear b6
        go_wp2
        go_ret
        exact ⟨rfl, B6.out⟩
      · have hG : ¬ G = 0 := gG
        clear hL gG
        go_enter Tryd.func7, Tryd.ntmps7
        go_wp2_with fail
        refine (h1 _).mono ?_
        rintro e w1 ⟨v1, rfl, l1, b1, _⟩
        clear h1
        have k1' := k1 _ _ l1
        clear k1
        go_wp2_with fail
        refine k1'.mono ?_
        rintro e w2 ⟨rfl, b2⟩
        have b2' := b1.trans (b2.mono b1.size)
        have k3' := k3 _ b2'
        clear k1' k3 l1 b1 b2
        go_wp2_with fail
        refine k3'.mono ?_
        rintro e w3 ⟨rfl, b3⟩
        have b3' := b2'.trans (b3.mono b2'.size)
        clear k3' b2' b3
        go_wp2_with fail
        refine (k4 _).mono ?_
        rintro e w4 ⟨v4, rfl, l4, b4, _⟩
        have b4' := b3'.trans (b4.mono b3'.size)
        clear k4 b3' b4
        have B5 : Hid (Below w.heap.size w w4) := b4'
        clear l4 b4'
        go_wp2_with fail
        refine (pawake_any _).mono ?_
        rintro e w6 ⟨rfl, b6⟩
        have B6 : Hid (Below w.heap.size w w6) := B5.out.trans (b6.mono B5.out.size)
        clear b6
        go_wp2
        go_ret
        exact ⟨rfl, B6.out⟩
    · have hE : ¬ E = 0 := gE
      clear hT gE
      by_cases gG : G = 0
      · have hG : G = 0 := gG
        subst hG
        obtain ⟨hH, hL2⟩ := hL rfl
        subst hH hL2
        clear hL gG
        go_enter Tryd.func7, Tryd.ntmps7
        go_wp2_with fail
        refine (h1 _).mono ?_
        rintro e w1 ⟨v1, rfl, l1, b1, _⟩
        clear h1
        have k1' := k1 _ _ l1
        clear k1
        go_wp2_with fail
        refine k1'.mono ?_
        rintro e w2 ⟨rfl, b2⟩
        have b2' := b1.trans (b2.mono b1.size)
        have k3' := k3 _ b2'
        clear k1' k3 l1 b1 b2
        go_wp2_with fail
        refine k3'.mono ?_
        rintro e w3 ⟨rfl, b3⟩
        have b3' := b2'.trans (b3.mono b2'.size)
        clear k3' b2' b3
        go_wp2_with fail
        refine (k4 _).mono ?_
        rintro e w4 ⟨v4, rfl, l4, b4, _⟩
        have b4' := b3'.trans (b4.mono b3'.size)
        clear k4 b3' b4
        have ks := psame_any _ _ _ _ w4 l4 (HL2.out.below b4') (by omega)
        rw [decide_eq_true rfl] at ks
        have B4 : Hid (Below w.heap.size w w4) := b4'
        clear l4 b4'
        go_wp2_with fail
        refine ks.mono ?_
        rintro e w5 ⟨rfl, b5⟩
        have B5 : Hid (Below w.heap.size w w5) := B4.out.trans (b5.mono B4.out.size)
        clear ks b5
        go_wp2_with fail
        refine (pawake_any _).mono ?_
        rintro e w6 ⟨rfl, b6⟩
        have B6 : Hid (Below w.heap.size w w6) := B5.out.trans (b6.mono B5.out.size)
        clear b6
        go_wp2
        go_ret
        exact ⟨rfl, B6.out⟩
      · have hG : ¬ G = 0 := gG
        clear hL gG
        go_enter Tryd.func7, Tryd.ntmps7
        go_wp2_with fail
        refine (h1 _).mono ?_
        rintro e w1 ⟨v1, rfl, l1, b1, _⟩
        clear h1
        have k1' := k1 _ _ l1
        clear k1
        go_wp2_with fail
        refine k1'.mono ?_
        rintro e w2 ⟨rfl, b2⟩
        have b2' := b1.trans (b2.mono b1.size)
        have k3' := k3 _ b2'
        clear k1' k3 l1 b1 b2
        go_wp2_with fail
        refine k3'.mono ?_
        rintro e w3 ⟨rfl, b3⟩
        have b3' := b2'.trans (b3.mono b2'.size)
        clear k3' b2' b3
        go_wp2_with fail
        refine (k4 _).mono ?_
        rintro e w4 ⟨v4, rfl, l4, b4, _⟩
        have b4' := b3'.trans (b4.mono b3'.size)
        clear k4 b3' b4
        have B5 : Hid (Below w.heap.size w w4) := b4'
        clear l4 b4'
        go_wp2_with fail
        refine (pawake_any _).mono ?_
        rintro e w6 ⟨rfl, b6⟩
        have B6 : Hid (Below w.heap.size w w6) := B5.out.trans (b6.mono B5.out.size)
        clear b6
        go_wp2
        go_ret
        exact ⟨rfl, B6.out⟩
end Go.Proofs.YtjpgmbebdkiofaaDoor
