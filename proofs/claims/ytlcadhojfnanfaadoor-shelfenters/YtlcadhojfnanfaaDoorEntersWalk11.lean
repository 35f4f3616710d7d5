/- The law ShelfEnters, called with any list of entries and any entry, returns true, and changes nothing that was there. -/
import Derived.Test.YtlcadhojfnanfaaDoorShEnMath
import Derived.Test.YtlcadhojfnanfaaDoorShAwake
import Derived.Test.YtlcadhojfnanfaaDoorShSet
import Derived.BigQuiet
import Derived.Deep.RegionHeld3
namespace Go.Proofs.YtlcadhojfnanfaaDoor
set_option maxRecDepth 20000
open Go.RowKit

set_option maxHeartbeats 4000000 in
theorem walk_shelfEnters (v : Value) (l : List En) (a1 : ByteArray) (a2 a3 : Int) (w : World) (hv : Ens w v l ∧ (∀ x ∈ l, x.Ok) ∧ Capped v ∧ NilEn v) (hs1 : a1.size ≤ 140737488355328) :
    Calls Tryd.prog 4 #[v, .agg #[.string a1, .int .i64 a2, .int .i64 a3]] w fun e w' => e = .returned (.bool true) ∧ Below w.heap.size w w' := by
  obtain ⟨hv, hok, hcap, hnil⟩ := hv
  obtain ⟨oa, cap, rfl⟩ := hv.form
  have b0 : Below w.heap.size w (w.alloc (.cells #[.string a1, .int .i64 a2, .int .i64 a3] 28)) := (Below.refl _ _).alloc (Nat.le_refl _) _
  have hbx : (w.alloc (.cells #[.string a1, .int .i64 a2, .int .i64 a3] 28)).heap[w.heap.size]? = some (.cells #[.string a1, .int .i64 a2, .int .i64 a3] 28 (0, 0)) := heap_alloc_new w _
  by_cases hbig : 300 < l.length
  · have h300 : (300 : Int) < l.length := by omega
    have B0 : Hid (Below w.heap.size w _) := b0
    clear hv hok hcap hnil b0
    generalize l.length = m at *
    go_enter Tryd.func4, Tryd.ntmps4
    go_wp2_with fail
    refine (awake_any _).mono ?_
    rintro e w7 ⟨rfl, b7⟩
    have B7 : Hid (Below w.heap.size w w7) := B0.out.trans (b7.mono B0.out.size)
    clear b7
    go_wp2
    go_ret
    exact ⟨rfl, B7.out⟩
  have h300 : ¬ (300 : Int) < l.length := by omega
  cases hem : a1.toList.isEmpty with
  | true =>
    have B0 : Hid (Below w.heap.size w _) := b0
    clear hv hok hcap hnil b0
    generalize l.length = m at *
    go_enter Tryd.func4, Tryd.ntmps4
    go_wp2_with fail
    refine (awake_any _).mono ?_
    rintro e w7 ⟨rfl, b7⟩
    have B7 : Hid (Below w.heap.size w w7) := B0.out.trans (b7.mono B0.out.size)
    clear b7
    go_wp2
    go_ret
    exact ⟨rfl, B7.out⟩
  | false =>
    have h1 := find_any _ l a1 _ (hv.below b0) (by omega)
    have hlt := fstI_lt (hasN a1) l
    obtain ⟨F, hF⟩ : ∃ F, F = fstI (hasN a1) l := ⟨_, rfl⟩
    rw [← hF] at h1 hlt
    by_cases hf0 : 0 ≤ F
    · have B0 : Hid (Below w.heap.size w _) := b0
      clear hv hok hcap hnil b0 hF
      generalize l.length = m at *
      go_enter Tryd.func4, Tryd.ntmps4
      go_wp2_with fail
      refine h1.mono ?_
      rintro e w1 ⟨rfl, b1⟩
      have B1 : Hid (Below w.heap.size w w1) := B0.out.trans (b1.mono B0.out.size)
      clear h1 b1 hbx
      go_wp2_with fail
      refine (awake_any _).mono ?_
      rintro e w7 ⟨rfl, b7⟩
      have B7 : Hid (Below w.heap.size w w7) := B1.out.trans (b7.mono B1.out.size)
      clear b7
      go_wp2
      go_ret
      exact ⟨rfl, B7.out⟩
    have hneg : fstI (hasN a1) l < 0 := by rw [← hF]; omega
    have hx : frE ⟨a1, a2, a3⟩ = false := hem
    obtain ⟨a, hsp, hat⟩ := spare_at l
    have h2 : ∀ W, Below w.heap.size w W → Calls Tryd.prog 10 #[.slice oa l.length cap] W fun e w' => e = .returned (.int .i64 (a : Int)) ∧ Below W.heap.size W w' := fun W hW => by rw [← hsp]; exact spare_any _ l W (hv.below hW) (by omega)
    have hale := hat.le
    have HI : Hid (Ens w (.slice oa l.length cap) l ∧ (∀ x ∈ l, x.Ok) ∧ fstI (hasN a1) l < 0 ∧ SpareAt l a) := ⟨hv, hok, hneg, hat⟩
    have B0 : Hid (Below w.heap.size w _ ∧ _) := ⟨b0, hbx⟩
    clear hv hok hcap hneg hat hsp hF b0
    go_enter Tryd.func4, Tryd.ntmps4
    go_wp2_with fail
    refine h1.mono ?_
    rintro e w1 ⟨rfl, b1⟩
    have B1 : Hid (Below w.heap.size w w1 ∧ w1.heap[w.heap.size]? = some (.cells #[.string a1, .int .i64 a2, .int .i64 a3] 28 (0, 0))) := ⟨B0.out.1.trans (b1.mono B0.out.1.size), (b1.block _ (lt_of_block hbx)).trans hbx⟩
    clear h1 b1 hbx B0
    have h2 := h2 w1 B1.out.1
    go_wp2_with fail
    refine h2.mono ?_
    rintro e w2 ⟨rfl, b2⟩
    have hB2 : w2.heap[w.heap.size]? = some (.cells #[.string a1, .int .i64 a2, .int .i64 a3] 28 (0, 0)) := (b2.block _ (lt_of_block B1.out.2)).trans B1.out.2
    have hb2 : Below w.heap.size w w2 := B1.out.1.trans (b2.mono B1.out.1.size)
    clear h2 b2 B1
    have hz : EZ (w2.alloc (.cells #[] 28)) (w.heap.size + 1) (.slice (some ⟨w2.heap.size, 0, none⟩) 0 0) [] := ⟨rfl, .inr ⟨_, 0, #[], rfl, lt_of_block hB2, heap_alloc_new w2 _, Nat.le_refl _, Nat.zero_le _, rfl, rfl⟩⟩
    have hb3 : Below w2.heap.size w2 (w2.alloc (.cells #[] 28)) := (Below.refl _ _).alloc (Nat.le_refl _) _
    have hsrc := HI.out.1.below (hb2.trans (hb3.mono hb2.size))
    have hlb := lt_of_block hB2
    go_wp2_with (first | (at_builtin; refine wpList_append_ens rfl _ _ rfl (w.heap.size + 1) _ rfl hz _ l rfl hsrc hnil (by omega) (by simp; omega) ?_))
    intro v3 w3 z3 g3
    have b3 : Below w2.heap.size w2 w3 := hb3.grown g3 (by simp) (fun k hk => by simp [Value.ownBlock] at hk; omega)
    have hB3 : w3.heap[w.heap.size]? = some (.cells #[.string a1, .int .i64 a2, .int .i64 a3] 28 (0, 0)) := (b3.block _ hlb).trans hB2
    have b4 : Below w.heap.size w w3 := hb2.trans (b3.mono hb2.size)
    have B3 : Hid (Below w.heap.size w w3 ∧ w3.heap[w.heap.size]? = some (.cells #[.string a1, .int .i64 a2, .int .i64 a3] 28 (0, 0)) ∧ EZ w3 (w.heap.size + 1) v3 l) := ⟨b4, hB3, z3⟩
    obtain ⟨om, cm, rfl⟩ := z3.form
    have d0 : w3.cell? ⟨w.heap.size, 0, none⟩ = some (.string a1) := cell_of_row _ _ _ _ _ _ hB3
    have d1 : w3.cell? ⟨w.heap.size, 1, none⟩ = some (.int .i64 a2) := cell_of_row _ _ _ _ _ _ hB3
    have d2 : w3.cell? ⟨w.heap.size, 2, none⟩ = some (.int .i64 a3) := cell_of_row _ _ _ _ _ _ hB3
    have hlw := lt_of_block hB3
    clear z3 g3 b3 hB2 hb2 hz hb3 hsrc hB3 b4 hlb hf0
    have ha0 : ¬ (a : Int) < 0 := by omega
    have ha1 : ¬ (l.length : Int) < a := by omega
    by_cases hal : a = l.length
    · obtain ⟨m, hm⟩ : ∃ m, m = l.length := ⟨_, rfl⟩
      have HM : Hid (m = l.length ∧ a = l.length) := ⟨hm, hal⟩
      rw [← hm] at hal hale ha1 h300 hbig HI B3 hlt ⊢
      subst hal
      clear hm
      have hnew : (w3.alloc (.cells #[.string a1, .int .i64 a2, .int .i64 a3] 28)).heap[w3.heap.size]? = some (.cells #[.string a1, .int .i64 a2, .int .i64 a3] 28 (0, 0)) := heap_alloc_new w3 _
      have hown : w3.ownsRow (w.heap.size + 1) 28 3 (.slice om a cm) a (l.flatMap En.cells) := by have := B3.out.2.2; unfold EZ at this; rwa [← HM.out.1] at this
      have hownC := World.ownsRow.alloc hown (.cells #[.string a1, .int .i64 a2, .int .i64 a3] 28)
      have hone : ∀ u ∈ ([.string a1, .int .i64 a2, .int .i64 a3] : List Value), u.oneCell' = true := by intro u hu; simp at hu; rcases hu with rfl | rfl | rfl <;> rfl
      obtain ⟨i0, hi0, hz0, hz1, hz2⟩ := info_parts sh_info_en
      have HO : Hid (w3.ownsRow (w.heap.size + 1) 28 3 (.slice om a cm) a (l.flatMap En.cells)) := hown
      clear hown
      go_wp2_with (first | (at_builtin; (refine wpList_append_own _ rfl _ _ 22 rfl (w.heap.size + 1) 28 i0 _ 3 32 Tryd.underlying22 hi0 hz0 hz1 hz2 rfl (by decide) (.slice om a cm) a (l.flatMap En.cells) rfl hownC ⟨w3.heap.size, 0, none⟩ 1 1 [.string a1, .int .i64 a2, .int .i64 a3] rfl rfl (World.news_of_block hnew) hone (by unfold maxLen; omega) (by omega) (by simp; omega) ?_)))
      intro v4 w4 hown4 hgrow4 _
      have hb4 : Below (w.heap.size + 1) w3 w4 := ((Below.refl _ _).alloc (by omega) _).grown hgrow4 (by simp; omega) fun k hk => (HO.out.lt k hk).1
      have HF : Hid (EZ w4 (w.heap.size + 1) v4 (l ++ [⟨a1, a2, a3⟩]) ∧ Below w.heap.size w w4 ∧ w4.heap[w.heap.size]? = some (.cells #[.string a1, .int .i64 a2, .int .i64 a3] 28 (0, 0)) ∧ Entered l (l ++ [⟨a1, a2, a3⟩]) ⟨a1, a2, a3⟩ a ∧ ∀ y ∈ l ++ [⟨a1, a2, a3⟩], y.nm.size ≤ 140737488355328) := by
        refine ⟨?_, B3.out.1.trans (hb4.mono (Nat.le_succ _)), (hb4.block _ (Nat.lt_succ_self _)).trans B3.out.2.1, ?_, fun y hy => ?_⟩
        · unfold EZ
          rw [List.length_append, List.length_singleton, List.flatMap_append, List.flatMap_singleton, ← HM.out.1]
          exact hown4
        · rw [HM.out.1]; exact entered_push hx HI.out.2.2.1
        · rcases List.mem_append.1 hy with hy | hy
          · exact (HI.out.2.1 y hy).nm
          · obtain rfl : y = ⟨a1, a2, a3⟩ := by simpa using hy
            exact hs1
      clear hownC hnew hown4 hgrow4 hb4 hone HO d0 d1 d2 hi0 hz0 hz1 hz2
      have hlen : l.length = a := HM.out.1.symm
      generalize l ++ [⟨a1, a2, a3⟩] = M at *
      clear HM B3
      go_wp2_with fail
      clear h2 hbig hale hlt ha1 hnil
      have HC : Hid (∀ (s : ByteArray), s ≠ a1 → ∀ v, (v = v4 ∨ v = .slice oa a cap) → ∀ W, Below w4.heap.size w4 W → Calls Tryd.prog 9 #[v, .string s] W fun e W' => e = .returned (.int .i64 (fstI (hasN s) l)) ∧ Below W.heap.size W W') := fun s hs v hv W hW => by
        rcases hv with rfl | rfl
        · have := find_any _ M s W (HF.out.1.ens.below hW) (by have := HF.out.2.2.2.1.len; omega)
          rw [HF.out.2.2.2.1.rest s hs] at this
          exact this
        · exact find_any _ l s W (HI.out.1.below (HF.out.2.1.trans (hW.mono HF.out.2.1.size))) (by omega)
      go_loopw [7] (fun v wr => ∃ j : Nat, j ≤ a ∧ v = .int .i64 (j : Int) ∧ Hid (Below w4.heap.size w4 wr)) (fun v _ => a - (intOf v).toNat)
      case atStart => exact ⟨0, Nat.zero_le _, rfl, Below.refl _ _⟩
      case round =>
        obtain ⟨j, hj, rfl, HR⟩ := hrel
        by_cases hltj : j < a
        · have j1 : (j : Int) < a := by omega
          have hjl : j < l.length := by omega
          have hens : Ens w (.slice oa l.length cap) l := by rw [hlen]; exact HI.out.1
          obtain ⟨gb, o, rfl, hg, hc⟩ := hens.at (i := j) hjl
          have HK : Hid (∀ W, Below w4.heap.size w4 W → W.cell? ⟨gb, o + j * 3, none⟩ = some (.string l[j].nm)) := fun W hW => (hc.below (HF.out.2.1.trans (hW.mono HF.out.2.1.size)) hg).c0
          have c0 := HK.out _ HR.out
          have hgw : gb < wr.heap.size := Nat.lt_of_lt_of_le hg (Nat.le_trans HF.out.2.1.size HR.out.size)
          clear hens hc
          cases hq : frE l[j] with
          | true =>
            have hq2 : l[j].nm.toList.isEmpty = true := hq
            clear hq HC HK
            generalize l[j] = x at *
            go_wp2_with fail
            go_quiet (fail)
            go_wp2
            go_roundw
            case rel => exact ⟨j + 1, by omega, by go_num, below_drewN HR.out _⟩
            case measure => simp [intOf]; omega
          | false =>
            have hq2 : l[j].nm.toList.isEmpty = false := hq
            have hc := HC.out l[j].nm (nm_ne HI.out.2.2.1 hjl hq)
            clear hq HC
            generalize l[j] = x at *
            generalize fstI (hasN x.nm) l = K at *
            have hb := HR.out
            clear HR
            go_wp2_with fail
            go_region_held3 (fun w' => w'.cell? ⟨gb, o + j * 3, none⟩ = some (.string x.nm)) (first | exact HK.out _ hb | exact HK.out _ hb.drew | simp [go_sem, *]) (first | (go_at_call 9; refine (hc _ (by first | exact .inl rfl | exact .inr rfl) _ (by first | exact hb | exact hb.drew)).mono ?_; rintro e wA ⟨rfl, hA⟩; have hb : Below w4.heap.size w4 wA := (by first | exact hb.trans (hA.mono hb.size) | exact hb.drew.trans (hA.mono hb.size)); have c0 : wA.cell? ⟨gb, o + j * 3, none⟩ = some (.string x.nm) := HK.out _ hb))
            all_goals
              go_wp2
              go_roundw
              case rel => exact ⟨j + 1, by omega, by go_num, by first | exact hb | exact hb.drew | exact below_drewN hb _⟩
              case measure => simp [intOf]; omega
        · have j1 : ¬ (j : Int) < a := by omega
          clear HC
          have d0 : wr.cell? ⟨w.heap.size, 0, none⟩ = some (.string a1) := cell_of_row _ _ _ _ _ _ ((HR.out.block _ (lt_of_block HF.out.2.2.1)).trans HF.out.2.2.1)
          have h1 := find_any v4 M a1 wr (HF.out.1.ens.below HR.out) (by have := HF.out.2.2.2.1.len; omega)
          rw [HF.out.2.2.2.1.find] at h1
          have h2 : ∀ W, Below wr.heap.size wr W → Calls Tryd.prog 11 #[v4] W fun e w' => ∃ o' c', e = .returned (.slice o' ((namedL l).length + 1) c') ∧ Below W.heap.size W w' := fun W hW => by
            refine (names_any v4 M W (HF.out.1.ens.below (HR.out.trans (hW.mono HR.out.size))) HF.out.2.2.2.2 (by have := HF.out.2.2.2.1.len; omega)).mono ?_
            rintro e w' ⟨v', rfl, z, b⟩
            obtain ⟨o', c', rfl⟩ := z.form
            exact ⟨o', c', by rw [HF.out.2.2.2.1.names], b⟩
          have h3 : ∀ W, Below wr.heap.size wr W → Calls Tryd.prog 11 #[.slice oa a cap] W fun e w' => ∃ o' c', e = .returned (.slice o' (namedL l).length c') ∧ Below W.heap.size W w' := fun W hW => by
            refine (names_any _ l W (HI.out.1.below ((HF.out.2.1.trans (HR.out.mono HF.out.2.1.size)).trans (hW.mono (Nat.le_trans HF.out.2.1.size HR.out.size)))) (fun y hy => (HI.out.2.1 y hy).nm) (by omega)).mono ?_
            rintro e w' ⟨v', rfl, z, b⟩
            obtain ⟨o', c', rfl⟩ := z.form
            exact ⟨o', c', rfl, b⟩
          have hnl : (namedL l).length ≤ 300 := Nat.le_trans (List.length_filter_le _ _) (by omega)
          generalize (namedL l).length = q at *
          have BW : Hid (Below w.heap.size w wr) := HF.out.2.1.trans (HR.out.mono HF.out.2.1.size)
          clear HF HI HR
          go_wp2_with fail
          refine h1.mono ?_
          rintro e w5 ⟨rfl, b5⟩
          clear h1 d0
          have h2 := h2 w5 b5
          have B5 : Hid (Below wr.heap.size wr w5) := b5
          clear b5
          go_wp2_with fail
          refine h2.mono ?_
          rintro e w6 ⟨o6, c6, rfl, b6⟩
          have B6 : Hid (Below wr.heap.size wr w6) := B5.out.trans (b6.mono B5.out.size)
          have h3 := h3 w6 B6.out
          clear h2 b6 B5
          go_wp2_with fail
          refine h3.mono ?_
          rintro e w7 ⟨o7, c7, rfl, b7⟩
          have B7 : Hid (Below w.heap.size w w7) := BW.out.trans ((B6.out.trans (b7.mono B6.out.size)).mono BW.out.size)
          clear h3 b7 B6 BW
          go_wp2_with fail
          refine (awake_any _).mono ?_
          rintro e w8 ⟨rfl, b8⟩
          have B8 : Hid (Below w.heap.size w w8) := B7.out.trans (b8.mono B7.out.size)
          clear b8
          go_wp2
          go_ret
          exact ⟨rfl, B8.out⟩
    · have hal' : a < l.length := by omega
      have hali : ((a : Int) == l.length) = false := by rw [beq_eq_false_iff_ne]; omega
      obtain ⟨g, rfl, hg1, hg2⟩ := B3.out.2.2.block (by omega)
      have hez := B3.out.2.2
      obtain ⟨c0, c1, c2⟩ := hez.at hal'
      have f0 := hez.frozen (a * 3)
      have f1 := hez.frozen (a * 3 + 1)
      have f2 := hez.frozen (a * 3 + 2)
      have hset := hez.set hal' ⟨a1, a2, a3⟩
      have hj1 : (a : Int) < l.length := by omega
      have HF0 : Hid (Entered l (l.set a ⟨a1, a2, a3⟩) ⟨a1, a2, a3⟩ a) := entered_set hal' (HI.out.2.2.2.free hal') hx HI.out.2.2.1
      have hbs : Below w.heap.size w _ := below_set3 B3.out.1 (by omega : w.heap.size ≤ g) (a * 3) (a * 3 + 1) (a * 3 + 2) (.string a1) (.int .i64 a2) (.int .i64 a3)
      have hbk : (((w3.setCell ⟨g, a * 3, none⟩ (.string a1)).setCell ⟨g, a * 3 + 1, none⟩ (.int .i64 a2)).setCell ⟨g, a * 3 + 2, none⟩ (.int .i64 a3)).heap[w.heap.size]? = some (.cells #[.string a1, .int .i64 a2, .int .i64 a3] 28 (0, 0)) := ((below_set3 (Below.refl (w.heap.size + 1) w3) hg1 (a * 3) (a * 3 + 1) (a * 3 + 2) (.string a1) (.int .i64 a2) (.int .i64 a3)).block _ (Nat.lt_succ_self _)).trans B3.out.2.1
      have HF1 : Hid (_ ∧ _ ∧ _) := ⟨hset, hbs, hbk⟩
      have hne : g ≠ w.heap.size := by omega
      clear hset hbs hbk hez
      have HS : Hid (∀ y ∈ l.set a ⟨a1, a2, a3⟩, y.nm.size ≤ 140737488355328) := fun y hy => by
        rcases List.mem_or_eq_of_mem_set hy with hy | rfl
        · exact (HI.out.2.1 y hy).nm
        · exact hs1
      go_wp2_with fail
      clear c0 c1 c2 f0 f1 f2 d0 d1 d2 B3
      generalize ((w3.setCell ⟨g, a * 3, none⟩ (.string a1)).setCell ⟨g, a * 3 + 1, none⟩ (.int .i64 a2)).setCell ⟨g, a * 3 + 2, none⟩ (.int .i64 a3) = w4 at *
      generalize l.set a ⟨a1, a2, a3⟩ = M at *
      generalize Value.slice (some ⟨g, 0, none⟩) l.length cm = v4 at *
      have HF : Hid (EZ w4 (w.heap.size + 1) v4 M ∧ Below w.heap.size w w4 ∧ w4.heap[w.heap.size]? = some (.cells #[.string a1, .int .i64 a2, .int .i64 a3] 28 (0, 0)) ∧ Entered l M ⟨a1, a2, a3⟩ a ∧ ∀ y ∈ M, y.nm.size ≤ 140737488355328) := ⟨HF1.out.1, HF1.out.2.1, HF1.out.2.2, HF0.out, HS.out⟩
      clear HF1 HF0 HS hali hal hj1 hal'
      obtain ⟨N, hlen⟩ : ∃ N, l.length = N := ⟨_, rfl⟩
      rw [hlen] at HI h300 ⊢
      clear h2 hbig hale hlt ha1 hnil
      have HC : Hid (∀ (s : ByteArray), s ≠ a1 → ∀ v, (v = v4 ∨ v = .slice oa N cap) → ∀ W, Below w4.heap.size w4 W → Calls Tryd.prog 9 #[v, .string s] W fun e W' => e = .returned (.int .i64 (fstI (hasN s) l)) ∧ Below W.heap.size W W') := fun s hs v hv W hW => by
        rcases hv with rfl | rfl
        · have := find_any _ M s W (HF.out.1.ens.below hW) (by have := HF.out.2.2.2.1.len; omega)
          rw [HF.out.2.2.2.1.rest s hs] at this
          exact this
        · exact find_any _ l s W (HI.out.1.below (HF.out.2.1.trans (hW.mono HF.out.2.1.size))) (by omega)
      go_loopw [7] (fun v wr => ∃ j : Nat, j ≤ N ∧ v = .int .i64 (j : Int) ∧ Hid (Below w4.heap.size w4 wr)) (fun v _ => N - (intOf v).toNat)
      case atStart => exact ⟨0, Nat.zero_le _, rfl, Below.refl _ _⟩
      case round =>
        obtain ⟨j, hj, rfl, HR⟩ := hrel
        by_cases hltj : j < N
        · have j1 : (j : Int) < N := by omega
          have hjl : j < l.length := by omega
          have hens : Ens w (.slice oa l.length cap) l := by rw [hlen]; exact HI.out.1
          obtain ⟨gb, o, rfl, hg, hc⟩ := hens.at (i := j) hjl
          have HK : Hid (∀ W, Below w4.heap.size w4 W → W.cell? ⟨gb, o + j * 3, none⟩ = some (.string l[j].nm)) := fun W hW => (hc.below (HF.out.2.1.trans (hW.mono HF.out.2.1.size)) hg).c0
          have c0 := HK.out _ HR.out
          have hgw : gb < wr.heap.size := Nat.lt_of_lt_of_le hg (Nat.le_trans HF.out.2.1.size HR.out.size)
          clear hens hc
          cases hq : frE l[j] with
          | true =>
            have hq2 : l[j].nm.toList.isEmpty = true := hq
            clear hq HC HK
            generalize l[j] = x at *
            go_wp2_with fail
            go_quiet (fail)
            go_wp2
            go_roundw
            case rel => exact ⟨j + 1, by omega, by go_num, below_drewN HR.out _⟩
            case measure => simp [intOf]; omega
          | false =>
            have hq2 : l[j].nm.toList.isEmpty = false := hq
            have hc := HC.out l[j].nm (nm_ne HI.out.2.2.1 hjl hq)
            clear hq HC
            generalize l[j] = x at *
            generalize fstI (hasN x.nm) l = K at *
            have hb := HR.out
            clear HR
            go_wp2_with fail
            go_region_held3 (fun w' => w'.cell? ⟨gb, o + j * 3, none⟩ = some (.string x.nm)) (first | exact HK.out _ hb | exact HK.out _ hb.drew | simp [go_sem, *]) (first | (go_at_call 9; refine (hc _ (by first | exact .inl rfl | exact .inr rfl) _ (by first | exact hb | exact hb.drew)).mono ?_; rintro e wA ⟨rfl, hA⟩; have hb : Below w4.heap.size w4 wA := (by first | exact hb.trans (hA.mono hb.size) | exact hb.drew.trans (hA.mono hb.size)); have c0 : wA.cell? ⟨gb, o + j * 3, none⟩ = some (.string x.nm) := HK.out _ hb))
            all_goals
              go_wp2
              go_roundw
              case rel => exact ⟨j + 1, by omega, by go_num, by first | exact hb | exact hb.drew | exact below_drewN hb _⟩
              case measure => simp [intOf]; omega
        · have j1 : ¬ (j : Int) < N := by omega
          clear HC
          have d0 : wr.cell? ⟨w.heap.size, 0, none⟩ = some (.string a1) := cell_of_row _ _ _ _ _ _ ((HR.out.block _ (lt_of_block HF.out.2.2.1)).trans HF.out.2.2.1)
          have h1 := find_any v4 M a1 wr (HF.out.1.ens.below HR.out) (by have := HF.out.2.2.2.1.len; omega)
          rw [HF.out.2.2.2.1.find] at h1
          have h2 : ∀ W, Below wr.heap.size wr W → Calls Tryd.prog 11 #[v4] W fun e w' => ∃ o' c', e = .returned (.slice o' ((namedL l).length + 1) c') ∧ Below W.heap.size W w' := fun W hW => by
            refine (names_any v4 M W (HF.out.1.ens.below (HR.out.trans (hW.mono HR.out.size))) HF.out.2.2.2.2 (by have := HF.out.2.2.2.1.len; omega)).mono ?_
            rintro e w' ⟨v', rfl, z, b⟩
            obtain ⟨o', c', rfl⟩ := z.form
            exact ⟨o', c', by rw [HF.out.2.2.2.1.names], b⟩
          have h3 : ∀ W, Below wr.heap.size wr W → Calls Tryd.prog 11 #[.slice oa N cap] W fun e w' => ∃ o' c', e = .returned (.slice o' (namedL l).length c') ∧ Below W.heap.size W w' := fun W hW => by
            refine (names_any _ l W (HI.out.1.below ((HF.out.2.1.trans (HR.out.mono HF.out.2.1.size)).trans (hW.mono (Nat.le_trans HF.out.2.1.size HR.out.size)))) (fun y hy => (HI.out.2.1 y hy).nm) (by omega)).mono ?_
            rintro e w' ⟨v', rfl, z, b⟩
            obtain ⟨o', c', rfl⟩ := z.form
            exact ⟨o', c', rfl, b⟩
          have hnl : (namedL l).length ≤ 300 := Nat.le_trans (List.length_filter_le _ _) (by omega)
          generalize (namedL l).length = q at *
          have BW : Hid (Below w.heap.size w wr) := HF.out.2.1.trans (HR.out.mono HF.out.2.1.size)
          clear HF HI HR
          go_wp2_with fail
          refine h1.mono ?_
          rintro e w5 ⟨rfl, b5⟩
          clear h1 d0
          have h2 := h2 w5 b5
          have B5 : Hid (Below wr.heap.size wr w5) := b5
          clear b5
          go_wp2_with fail
          refine h2.mono ?_
          rintro e w6 ⟨o6, c6, rfl, b6⟩
          have B6 : Hid (Below wr.heap.size wr w6) := B5.out.trans (b6.mono B5.out.size)
          have h3 := h3 w6 B6.out
          clear h2 b6 B5
          go_wp2_with fail
          refine h3.mono ?_
          rintro e w7 ⟨o7, c7, rfl, b7⟩
          have B7 : Hid (Below w.heap.size w w7) := BW.out.trans ((B6.out.trans (b7.mono B6.out.size)).mono BW.out.size)
          clear h3 b7 B6 BW
          go_wp2_with fail
          refine (awake_any _).mono ?_
          rintro e w8 ⟨rfl, b8⟩
          have B8 : Hid (Below w.heap.size w w8) := B7.out.trans (b8.mono B7.out.size)
          clear b8
          go_wp2
          go_ret
          exact ⟨rfl, B8.out⟩
end Go.Proofs.YtlcadhojfnanfaaDoor
