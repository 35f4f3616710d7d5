/- Right: the program's. -/
import Derived.Test.YtlcadhojfnanfaaDoorShRMath
namespace Go.Proofs.YtlcadhojfnanfaaDoor
set_option maxRecDepth 20000
open Go.RowKit Go.Maps Go.WideMaps

theorem str_key : Keyed Tryd.prog 9 := string_keyed Tryd.underlying9
theorem zero_i (w : World) : (zeroValue 3).run Tryd.prog w = .ok (.int .i64 0) w := by kernel_rfl
theorem info_b : (Tryd.prog.info? 4).map (fun i => (i.zero, i.size, i.bytes)) = some (some (.bool false), 1, 1) := by kernel_rfl
theorem map_at {w w' : World} {K : TypeId} {R : Value → Option (DataW Unit × List MemPlace)} {b n : Nat} {D : DataW Unit} (h : w.ownsMap Tryd.prog K R b n D) (hb : w'.heap[b]? = w.heap[b]?) : w'.ownsMap Tryd.prog K R b n D := by
  obtain ⟨es, clock, h1, r⟩ := h
  exact ⟨es, clock, hb.trans h1, r⟩
theorem RowB.of {w : World} {base g n : Nat} (h : w.ownsRow base 4 1 (.slice (some ⟨g, 0, none⟩) n n) n (madeCells #[.bool false] n).toList) : RowB w g (List.replicate n false) := by
  rw [toList_madeCells_one] at h
  rcases h.2 with ⟨e, _⟩ | ⟨g', cap, cur, e, h0, hg, h1, h2, h3, h4⟩
  · cases e
  · simp only [Value.slice.injEq, Option.some.injEq, Addr.mk.injEq] at e
    obtain ⟨⟨rfl, _⟩, _, rfl⟩ := e
    have : cur = ((List.replicate n false).map Value.bool).toArray := by
      rw [List.map_replicate, ← h4, List.take_of_length_le (by rw [Array.length_toList, h3]; exact Nat.le_refl _)]
    rw [this] at hg
    exact hg
theorem set_take {B R : List Bool} {k : Nat} {b : Bool} (hB : k < B.length) (hR : k < R.length) (h : B.take k = R.take k) (hb : R[k] = b) : (B.set k b).take (k + 1) = R.take (k + 1) := by
  rw [List.take_add_one, List.take_set_of_le (Nat.le_refl _), List.getElem?_set_self hB, List.take_add_one, List.getElem?_eq_getElem hR, h, hb]
theorem free_nm {x : En} (h : frE x = true) : x.nm = ByteArray.empty := by
  have h1 : x.nm.toList.isEmpty = true := h
  rw [ByteArray.toList_eq, List.isEmpty_iff] at h1
  exact ByteArray.ext (Array.toList_inj.1 h1)
theorem _root_.Go.World.ownsMap.mono_n {w : World} {K : TypeId} {R : Value → Option (DataW Unit × List MemPlace)} {b n : Nat} {D : DataW Unit} (h : w.ownsMap Tryd.prog K R b n D) : w.ownsMap Tryd.prog K R b (n + 1) D := by
  obtain ⟨es, clock, h1, h2, h3, h4⟩ := h
  exact ⟨es, clock, h1, h2, by omega, h4⟩
/-- What a round of Right knows. -/
structure RR (w : World) (l : List En) (k : Nat) (wr : World) (B : List Bool) (D : DataW Unit) : Prop where
  map : wr.ownsMap Tryd.prog 9 (plainElem Tryd.prog 3) w.heap.size k D
  cnt : CntD D l k
  len : B.length = l.length
  take : B.take k = (rightL l).take k
  row : RowB wr (w.heap.size + 1) B
  below : Below w.heap.size w wr
theorem RR.keep {w wr w' : World} {l : List En} {k : Nat} {B : List Bool} {D : DataW Unit} (h : RR w l k wr B D) (hb : Below wr.heap.size wr w') : RR w l k w' B D :=
  ⟨map_at h.map (hb.block _ h.map.lt), h.cnt, h.len, h.take, (hb.block _ h.row.lt).trans h.row, h.below.trans (hb.mono h.below.size)⟩
set_option maxHeartbeats 2000000 in
theorem right_any (v : Value) (l : List En) (w : World) (hv : Ens w v l) (hok : ∀ x ∈ l, x.nm.size ≤ 140737488355328) (hl : l.length ≤ 300) :
    Calls Tryd.prog 6 #[v] w fun e w' => ∃ g, e = .returned (.slice (some ⟨g, 0, none⟩) l.length l.length) ∧ RowB w' g (rightL l) ∧ Below w.heap.size w w' := by
  obtain ⟨oa, ca, rfl⟩ := hv.form
  obtain ⟨i0, hi0, hz0, hz1, hz2⟩ := info_parts info_b
  have hmm := @run_makeMap Tryd.prog
  obtain ⟨X, hX⟩ : ∃ X, X = rightL l := ⟨_, rfl⟩
  rw [← hX]
  have HX : Hid (X = rightL l) := hX
  have HV : Hid (Ens w (.slice oa l.length ca) l ∧ ∀ x ∈ l, x.nm.size ≤ 140737488355328) := ⟨hv, hok⟩
  clear hX hv hok
  go_enter Tryd.func6, Tryd.ntmps6
  go_wp2_with (refine wpList_make_full _ rfl _ _ 23 rfl w.heap.size 4 i0 _ 1 Tryd.underlying23 hi0 hz0 hz1 .i64 .i64 l.length l.length l.length rfl rfl rfl rfl (by rw [hz2]; omega) (by unfold maxLen; omega) (by simp) ?_)
  intro w1 hown hgr
  have hb0 : Below w.heap.size w (w.alloc (.map #[] 0)) := (Below.refl _ _).alloc (Nat.le_refl _) _
  have HI : Hid (RR w l 0 w1 (List.replicate l.length false) (.map [])) := ⟨map_at (World.ownsMap_made _ _ _ _) (hgr.block _ (by simp) (by simp)), ⟨isMap_empty, fun s => rfl⟩, List.length_replicate, rfl, RowB.of hown, hb0.grown hgr (by simp) (fun k hk => by cases hk)⟩
  clear hown hgr hb0 hi0 hz0 hz1 hz2
  go_wp2_with fail
  go_loopw [13] (fun iv wr => ∃ (k : Nat) (B : List Bool) (D : DataW Unit), k ≤ l.length ∧ iv = .int .i64 (k : Int) ∧ Hid (RR w l k wr B D)) (fun iv _ => l.length - (intOf iv).toNat)
  case atStart => exact ⟨0, _, _, Nat.zero_le _, rfl, HI⟩
  case round =>
    clear HI
    obtain ⟨k, B, D, hk, rfl, HO⟩ := hrel
    by_cases hlt : k < l.length
    · have j1 : (k : Int) < l.length := by omega
      obtain ⟨gb, o, rfl, hg, hc⟩ := HV.out.1.at (i := k) hlt
      obtain ⟨c0, c1, c2⟩ := hc.below HO.out.below hg
      have hgw := Nat.lt_of_lt_of_le hg HO.out.below.size
      have hsz := HV.out.2 _ (List.getElem_mem hlt)
      have hfr := free_any l[k]
      have HRk : Hid ((rightL l)[k]'(by rw [rightL_len]; exact hlt) = rightB l k l[k]) := rightL_get hlt
      clear hc
      cases hq : frE l[k] with
      | true =>
        rw [hq] at hfr
        have HD : Hid (CntD D l (k + 1)) := HO.out.cnt.free hlt hq
        have hnm := free_nm hq
        have HB : Hid (rightB l k l[k] = (decide (l[k].ino = 0) && decide (l[k].gen = 0))) := (show rightB l k l[k] = _ from by rw [rightB, if_pos hq])
        clear hq
        generalize l[k] = x at *
        obtain ⟨nm, a1, a2⟩ := x
        obtain rfl : nm = ByteArray.empty := hnm
        simp only at c0 c1 c2 hsz HB hfr
        go_wp2_with fail
        refine (hfr _).mono ?_
        rintro e w2 ⟨rfl, hb2⟩
        clear hfr
        have hb3 : Below wr.heap.size wr w2 := ((Below.refl _ _).alloc (Nat.le_refl _) _).trans (hb2.mono (by simp))
        have d0 := cells_kept hb2 0 _ rfl
        have d1 := cells_kept hb2 1 _ rfl
        have d2 := cells_kept hb2 2 _ rfl
        have hR2 := HO.out.keep hb3
        obtain ⟨b0, e0⟩ : ∃ b0, w2.cell? ⟨w.heap.size + 1, k, none⟩ = some (.bool b0) := ⟨_, hR2.row.at (i := k) (by rw [hR2.len]; exact hlt)⟩
        have f0 := hR2.row.frozen k
        have HR2 : Hid (RR w l k w2 B D) := hR2
        have hlt2 : wr.heap.size < w2.heap.size := by have := hb2.size; simp at this; omega
        have hne : w.heap.size + 1 < wr.heap.size := HO.out.row.lt
        clear hb2 hb3 hR2 c0 c1 c2
        simp only [List.getElem_toArray, List.getElem_cons_zero, List.getElem_cons_succ] at d0 d1 d2
        have hcase : ((a1 == 0) = true ∧ (a2 == 0) = true) ∨ (a1 == 0) = false ∨ ((a1 == 0) = true ∧ (a2 == 0) = false) := by
          cases (a1 == 0) <;> cases (a2 == 0) <;> simp
        rcases hcase with ⟨h1, h2⟩ | h1 | ⟨h1, h2⟩
        · obtain rfl : a1 = 0 := by simpa using h1
          obtain rfl : a2 = 0 := by simpa using h2
          have HF : Hid (RR w l (k + 1) (w2.setCell ⟨w.heap.size + 1, k, none⟩ (.bool true)) (B.set k true) D) := ⟨HR2.out.map.setCell (a := ⟨w.heap.size + 1, k, none⟩) (by show w.heap.size ≠ w.heap.size + 1; omega) _ |>.mono_n, HD.out, by rw [List.length_set]; exact HR2.out.len, set_take (by rw [HR2.out.len]; exact hlt) (by rw [rightL_len]; exact hlt) HR2.out.take (by rw [HRk.out, HB.out]; rfl), HR2.out.row.set k true, HR2.out.below.setCell (p := ⟨w.heap.size + 1, k, none⟩) (by show w.heap.size ≤ w.heap.size + 1; omega) _⟩
          go_wp2
          go_roundw
          case rel => exact ⟨k + 1, _, _, by omega, by go_num, HF⟩
          case measure => simp [intOf]; omega
        · have h1' : ¬ a1 = 0 := by simpa using h1
          have HF : Hid (RR w l (k + 1) (w2.setCell ⟨w.heap.size + 1, k, none⟩ (.bool false)) (B.set k false) D) := ⟨HR2.out.map.setCell (a := ⟨w.heap.size + 1, k, none⟩) (by show w.heap.size ≠ w.heap.size + 1; omega) _ |>.mono_n, HD.out, by rw [List.length_set]; exact HR2.out.len, set_take (by rw [HR2.out.len]; exact hlt) (by rw [rightL_len]; exact hlt) HR2.out.take (by rw [HRk.out, HB.out]; simp [h1']), HR2.out.row.set k false, HR2.out.below.setCell (p := ⟨w.heap.size + 1, k, none⟩) (by show w.heap.size ≤ w.heap.size + 1; omega) _⟩
          go_wp2
          go_roundw
          case rel => exact ⟨k + 1, _, _, by omega, by go_num, HF⟩
          case measure => simp [intOf]; omega
        · obtain rfl : a1 = 0 := by simpa using h1
          have h2' : ¬ a2 = 0 := by simpa using h2
          have HF : Hid (RR w l (k + 1) (w2.setCell ⟨w.heap.size + 1, k, none⟩ (.bool false)) (B.set k false) D) := ⟨HR2.out.map.setCell (a := ⟨w.heap.size + 1, k, none⟩) (by show w.heap.size ≠ w.heap.size + 1; omega) _ |>.mono_n, HD.out, by rw [List.length_set]; exact HR2.out.len, set_take (by rw [HR2.out.len]; exact hlt) (by rw [rightL_len]; exact hlt) HR2.out.take (by rw [HRk.out, HB.out]; simp [h2']), HR2.out.row.set k false, HR2.out.below.setCell (p := ⟨w.heap.size + 1, k, none⟩) (by show w.heap.size ≤ w.heap.size + 1; omega) _⟩
          go_wp2
          go_roundw
          case rel => exact ⟨k + 1, _, _, by omega, by go_num, HF⟩
          case measure => simp [intOf]; omega
      | false =>
        rw [hq] at hfr
        have HP : Hid (CntD (D.put (.string l[k].nm.data.toList) (.lit (.int .i64 ((cnt l k l[k].nm + 1 : Nat) : Int)))) l (k + 1)) := HO.out.cnt.put hlt hq
        have HB : Hid (rightB l k l[k] = (decide (nmL l[k].nm.data.toList = 0) && decide (cnt l k l[k].nm = 0))) := (show rightB l k l[k] = _ from by
          rw [rightB, if_neg (by rw [hq]; decide)]
          congr 1
          exact decide_eq_decide.2 (cnt_zero hlt (hasN_self hq)).symm)
        have hkey : keyOf Tryd.prog 9 (.string l[k].nm) = some (.string l[k].nm.data.toList) := keyOf_string_mk Tryd.underlying9 (by unfold maxLen; omega)
        have hn := name_any l[k].nm
        have HC : Hid (D.atKey (.string l[k].nm.data.toList) (.lit (.int .i64 0)) = .lit (.int .i64 (cnt l k l[k].nm : Nat))) := HO.out.cnt.2 _
        have hcl := cnt_le l k l[k].nm
        clear hq
        generalize l[k] = x at *
        generalize cnt l k x.nm = C at *
        go_wp2_with fail
        refine (hfr _).mono ?_
        rintro e w2 ⟨rfl, hb2⟩
        clear hfr
        have hb3 : Below wr.heap.size wr w2 := ((Below.refl _ _).alloc (Nat.le_refl _) _).trans (hb2.mono (by simp))
        have hblk : w2.heap[wr.heap.size]? = some (.cells #[.string x.nm, .int .i64 x.ino, .int .i64 x.gen] 28 (0, 0)) := (hb2.block wr.heap.size (by simp)).trans (heap_alloc_new wr _)
        have d0 : w2.cell? ⟨wr.heap.size, 0, none⟩ = some (.string x.nm) := cell_of_row _ _ _ _ _ _ hblk
        have HR2 : Hid (RR w l k w2 B D ∧ w2.heap[wr.heap.size]? = some (.cells #[.string x.nm, .int .i64 x.ino, .int .i64 x.gen] 28 (0, 0)) ∧ w.heap.size + 1 < wr.heap.size) := ⟨HO.out.keep hb3, hblk, HO.out.row.lt⟩
        clear hb2 hb3 hblk c0 c1 c2
        go_wp2_with fail
        refine (hn _).mono ?_
        rintro e w3 ⟨rfl, hb4⟩
        clear hn d0
        have hR3 := HR2.out.1.keep hb4
        have hblk3 := (hb4.block wr.heap.size (lt_of_block HR2.out.2.1)).trans HR2.out.2.1
        have d0 : w3.cell? ⟨wr.heap.size, 0, none⟩ = some (.string x.nm) := cell_of_row _ _ _ _ _ _ hblk3
        obtain ⟨b0, e0⟩ : ∃ b0, w3.cell? ⟨w.heap.size + 1, k, none⟩ = some (.bool b0) := ⟨_, hR3.row.at (i := k) (by rw [hR3.len]; exact hlt)⟩
        have f0 := hR3.row.frozen k
        have hne := HR2.out.2.2
        obtain ⟨c, hrun, hat, _⟩ := hR3.map.lookup_int str_key Tryd.underlying38 Tryd.underlying3 (zero_i _) hkey
        have hc : c = (C : Int) := by
          have := hat.symm.trans HC.out
          simpa using this
        subst hc
        have HR3 : Hid (RR w l k w3 B D) := hR3
        clear hb4 hR3 hblk3 hat
        have hkm : k < maxLen := by unfold maxLen; omega
        have hwf : (Lit.int .i64 ((C : Int) + 1)).wf = true := by simp [Lit.wf, IntKind.min, IntKind.max, IntKind.signed, IntKind.bits]; omega
        by_cases hnm : nmL x.nm.data.toList = 0
        · rw [hnm]
          by_cases hC : C = 0
          · rw [hnm, hC] at HB
            subst hC
            have hown4 := HR3.out.map.setCell (a := ⟨w.heap.size + 1, k, none⟩) (by show w.heap.size ≠ w.heap.size + 1; omega) (.bool true)
            obtain ⟨c2, hrun2, hat2, _⟩ := hown4.lookup_int str_key Tryd.underlying38 Tryd.underlying3 (zero_i _) hkey
            have hc2 : c2 = 0 := by have := hat2.symm.trans HC.out; simpa using this
            subst hc2
            have HR4 : Hid (RowB (w3.setCell ⟨w.heap.size + 1, k, none⟩ (.bool true)) (w.heap.size + 1) (B.set k true) ∧ Below w.heap.size w (w3.setCell ⟨w.heap.size + 1, k, none⟩ (.bool true)) ∧ (B.set k true).take (k + 1) = (rightL l).take (k + 1)) := ⟨HR3.out.row.set k true, HR3.out.below.setCell (p := ⟨w.heap.size + 1, k, none⟩) (by show w.heap.size ≤ w.heap.size + 1; omega) _, set_take (by rw [HR3.out.len]; exact hlt) (by rw [rightL_len]; exact hlt) HR3.out.take (by rw [HRk.out, HB.out]; rfl)⟩
            clear hat2 HB HRk
            go_wp2_with (first | (at_mapUpdate; refine wpList_mapUpdate_own _ rfl _ _ _ 38 rfl 9 3 str_key Tryd.underlying38 _ w.heap.size k _ rfl hown4 hkm _ _ _ rfl rfl hkey _ [] (plainElem_int Tryd.underlying3 hwf) ?_) | go_in)
            intro w5 hown5 hgrow5
            have HF : Hid (RR w l (k + 1) w5 (B.set k true) _) := ⟨hown5, HP.out, by rw [List.length_set]; exact HR3.out.len, HR4.out.2.2, (hgrow5.block _ HR4.out.1.lt (by simp)).trans HR4.out.1, HR4.out.2.1.grown hgrow5 HR4.out.2.1.size (fun j hj => by cases hj; exact Nat.le_refl _)⟩
            clear hown5 hgrow5 hown4 hrun hrun2 HP
            go_wp2
            go_roundw
            case rel => exact ⟨k + 1, _, _, by omega, by go_num, HF⟩
            case measure => simp [intOf]; omega
          · have hC' : ((C : Int) == 0) = false := by rw [beq_eq_false_iff_ne]; omega
            have hown4 := HR3.out.map.setCell (a := ⟨w.heap.size + 1, k, none⟩) (by show w.heap.size ≠ w.heap.size + 1; omega) (.bool false)
            obtain ⟨c2, hrun2, hat2, _⟩ := hown4.lookup_int str_key Tryd.underlying38 Tryd.underlying3 (zero_i _) hkey
            have hc2 : c2 = (C : Int) := by have := hat2.symm.trans HC.out; simpa using this
            subst hc2
            have HR4 : Hid (RowB (w3.setCell ⟨w.heap.size + 1, k, none⟩ (.bool false)) (w.heap.size + 1) (B.set k false) ∧ Below w.heap.size w (w3.setCell ⟨w.heap.size + 1, k, none⟩ (.bool false)) ∧ (B.set k false).take (k + 1) = (rightL l).take (k + 1)) := ⟨HR3.out.row.set k false, HR3.out.below.setCell (p := ⟨w.heap.size + 1, k, none⟩) (by show w.heap.size ≤ w.heap.size + 1; omega) _, set_take (by rw [HR3.out.len]; exact hlt) (by rw [rightL_len]; exact hlt) HR3.out.take (by rw [HRk.out, HB.out]; simp [hC])⟩
            clear hat2 HB HRk
            go_wp2_with (first | (at_mapUpdate; refine wpList_mapUpdate_own _ rfl _ _ _ 38 rfl 9 3 str_key Tryd.underlying38 _ w.heap.size k _ rfl hown4 hkm _ _ _ rfl rfl hkey _ [] (plainElem_int Tryd.underlying3 hwf) ?_) | go_in)
            intro w5 hown5 hgrow5
            have HF : Hid (RR w l (k + 1) w5 (B.set k false) _) := ⟨hown5, HP.out, by rw [List.length_set]; exact HR3.out.len, HR4.out.2.2, (hgrow5.block _ HR4.out.1.lt (by simp)).trans HR4.out.1, HR4.out.2.1.grown hgrow5 HR4.out.2.1.size (fun j hj => by cases hj; exact Nat.le_refl _)⟩
            clear hown5 hgrow5 hown4 hrun hrun2 HP
            go_wp2
            go_roundw
            case rel => exact ⟨k + 1, _, _, by omega, by go_num, HF⟩
            case measure => simp [intOf]; omega
        · have HN : Hid (¬ nmL x.nm.data.toList = 0) := hnm
          generalize hqq : nmL x.nm.data.toList = q at *
          clear hqq hnm
          have hq0 : (q == 0) = false := by rw [beq_eq_false_iff_ne]; exact HN.out
          have hown4 := HR3.out.map.setCell (a := ⟨w.heap.size + 1, k, none⟩) (by show w.heap.size ≠ w.heap.size + 1; omega) (.bool false)
          obtain ⟨c2, hrun2, hat2, _⟩ := hown4.lookup_int str_key Tryd.underlying38 Tryd.underlying3 (zero_i _) hkey
          have hc2 : c2 = (C : Int) := by have := hat2.symm.trans HC.out; simpa using this
          subst hc2
          have HR4 : Hid (RowB (w3.setCell ⟨w.heap.size + 1, k, none⟩ (.bool false)) (w.heap.size + 1) (B.set k false) ∧ Below w.heap.size w (w3.setCell ⟨w.heap.size + 1, k, none⟩ (.bool false)) ∧ (B.set k false).take (k + 1) = (rightL l).take (k + 1)) := ⟨HR3.out.row.set k false, HR3.out.below.setCell (p := ⟨w.heap.size + 1, k, none⟩) (by show w.heap.size ≤ w.heap.size + 1; omega) _, set_take (by rw [HR3.out.len]; exact hlt) (by rw [rightL_len]; exact hlt) HR3.out.take (by rw [HRk.out, HB.out]; simp [HN.out])⟩
          clear hat2 HB HRk
          go_wp2_with (first | (at_mapUpdate; refine wpList_mapUpdate_own _ rfl _ _ _ 38 rfl 9 3 str_key Tryd.underlying38 _ w.heap.size k _ rfl hown4 hkm _ _ _ rfl rfl hkey _ [] (plainElem_int Tryd.underlying3 hwf) ?_) | go_in)
          intro w5 hown5 hgrow5
          have HF : Hid (RR w l (k + 1) w5 (B.set k false) _) := ⟨hown5, HP.out, by rw [List.length_set]; exact HR3.out.len, HR4.out.2.2, (hgrow5.block _ HR4.out.1.lt (by simp)).trans HR4.out.1, HR4.out.2.1.grown hgrow5 HR4.out.2.1.size (fun j hj => by cases hj; exact Nat.le_refl _)⟩
          clear hown5 hgrow5 hown4 hrun hrun2 HP
          go_wp2
          go_roundw
          case rel => exact ⟨k + 1, _, _, by omega, by go_num, HF⟩
          case measure => simp [intOf]; omega
    · have j1 : ¬ (k : Int) < l.length := by omega
      obtain rfl : k = l.length := by omega
      have HF : Hid (B = X) := (show B = X from by
        rw [HX.out, ← List.take_length (l := B), HO.out.len, HO.out.take, List.take_of_length_le (by rw [rightL_len]; exact Nat.le_refl _)])
      go_wp2
      go_ret
      exact ⟨_, rfl, by rw [← HF.out]; exact HO.out.row, HO.out.below⟩
end Go.Proofs.YtlcadhojfnanfaaDoor
