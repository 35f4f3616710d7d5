/- Split: the document's. -/
import Derived.Test.YtjpgmbebdkiofaaDoorPtSplit
namespace Go.Proofs.YtjpgmbebdkiofaaDoor
set_option maxRecDepth 20000
open Go.RowKit

/-- How far the document's Split has come. -/
def stt (l : List UInt8) (d : List (List UInt8)) (fr i : Nat) : Prop :=
  (1 ≤ fr ∧ fr ≤ i ∧ i ≤ l.length ∧ cutL l.tail = d ++ prep ((l.drop fr).take (i - fr)) (cutL (l.drop i))) ∨ (i = l.length + 1 ∧ fr = l.length + 1 ∧ cutL l.tail = d)
theorem stt_start {l : List UInt8} (h : 1 ≤ l.length) : stt l [] 1 1 := by
  refine .inl ⟨Nat.le_refl _, Nat.le_refl _, h, ?_⟩
  rw [Nat.sub_self, List.take_zero, prep_nil (cutL_ne _), List.nil_append, List.drop_one]
theorem stt_go {l : List UInt8} {d : List (List UInt8)} {fr i : Nat} (h : stt l d fr i) (hi : i < l.length) (hc : l[i] ≠ 47) : stt l d fr (i + 1) := by
  rcases h with ⟨h1, h2, _, h3⟩ | ⟨h1, _, _⟩
  · refine .inl ⟨h1, by omega, hi, ?_⟩
    rw [h3, List.drop_eq_getElem_cons hi, cutL_cons hc, prep_cons _ _ (cutL_ne _)]
    congr 2
    rw [show i + 1 - fr = (i - fr) + 1 by omega, List.take_add_one, List.getElem?_drop, show fr + (i - fr) = i by omega, List.getElem?_eq_getElem hi]
    rfl
  · omega
theorem stt_piece {l : List UInt8} {d : List (List UInt8)} {fr i : Nat} (h : stt l d fr i) (hi : i ≤ l.length) (hc : ∀ hi : i < l.length, l[i] = 47) : (∃ r, cutL l.tail = d ++ (l.drop fr).take (i - fr) :: r) ∧ stt l (d ++ [(l.drop fr).take (i - fr)]) (i + 1) (i + 1) := by
  rcases h with ⟨h1, h2, _, h3⟩ | ⟨h1, _, _⟩
  · by_cases hlt : i < l.length
    · rw [List.drop_eq_getElem_cons hlt, hc hlt, cutL_slash] at h3
      have h4 : cutL l.tail = d ++ (l.drop fr).take (i - fr) :: cutL (l.drop (i + 1)) := by rw [h3]; simp [prep]
      refine ⟨⟨_, h4⟩, .inl ⟨by omega, Nat.le_refl _, hlt, ?_⟩⟩
      rw [h4, Nat.sub_self, List.take_zero, prep_nil (cutL_ne _)]
      simp
    · obtain rfl : i = l.length := by omega
      rw [List.drop_length] at h3
      have h4 : cutL l.tail = d ++ [(l.drop fr).take (l.length - fr)] := by rw [h3]; simp [prep, cutL]
      exact ⟨⟨[], h4⟩, .inr ⟨rfl, rfl, h4⟩⟩
  · omega
theorem stt_len {l : List UInt8} {d : List (List UInt8)} {fr i : Nat} (h : stt l d fr i) : d.length ≤ l.length + 1 := by
  have := cut_len l.tail
  rw [List.length_tail] at this
  rcases h with ⟨_, _, _, h3⟩ | ⟨_, _, h3⟩
  · rw [h3, List.length_append] at this; omega
  · rw [h3] at this; omega
theorem sub_text (s : ByteArray) (a b : Nat) : s.extract a b = mkB ((s.data.toList.drop a).take (b - a)) := by
  apply ByteArray.ext
  apply Array.toList_inj.1
  rw [Lib.extract_data]
  show _ = ((s.data.toList.drop a).take (b - a)).toArray.toList
  simp
theorem byte_at (s : ByteArray) (i : Nat) (h : i < s.size) : s[i]'h = s.data.toList[i]'(by rw [← Lib.size_eq]; exact h) := rfl
set_option maxHeartbeats 2000000 in
theorem rsplit_any (s : ByteArray) (w : World) :
    Calls Tryd.prog 13 #[.string s] w fun e w' => ∃ v, e = .returned (.tuple #[v, .int .i64 (spE s.data.toList)]) ∧ LS w' v ((spL s.data.toList).map mkB) ∧ Below w.heap.size w w' := by
  by_cases h1 : 255 < s.size
  · have hz := sp_long (l := s.data.toList) (by rw [← Lib.size_eq]; exact h1)
    rw [hz.1, hz.2]
    have h1' : (255 : Int) < s.size := by omega
    clear hz h1
    go_enter Tryd.func13, Tryd.ntmps13
    go_wp2
    go_ret2
    exact ⟨_, rfl, .inl ⟨_, _, rfl, rfl⟩, Below.refl _ _⟩
  have h1' : ¬ (255 : Int) < s.size := by omega
  have h1l : ¬ 255 < s.data.toList.length := by rw [← Lib.size_eq]; exact h1
  by_cases h2 : s.data.toList.head? = some 47
  · obtain ⟨x, hx⟩ : ∃ x, s.data.toList = 47 :: x := by
      cases hl : s.data.toList with
      | nil => rw [hl] at h2; cases h2
      | cons c l => rw [hl] at h2; exact ⟨l, by rw [(by simpa using h2 : c = 47)]⟩
    have hsz : s.size = x.length + 1 := by rw [Lib.size_eq, hx]; rfl
    have he : s.toList.isEmpty = false := by rw [Lib.toList_data, hx]; rfl
    have h0 : 0 < s.size := by omega
    have hb0 : (((s[0]'h0).toNat : Nat) : Int) = 47 := by
      have : s.data.toList[0]'(by rw [hx]; simp) = 47 := by simp [hx]
      have h2 : s[0]'h0 = 47 := (byte_at s 0 h0).trans this
      rw [h2]; rfl
    rw [hx] at h1l ⊢
    by_cases h3 : x = []
    · subst h3
      rw [sp_root.1, sp_root.2]
      have hone : (s.size : Int) = 1 := by rw [hsz]; rfl
      clear h1l hx h2 hsz h1
      go_enter Tryd.func13, Tryd.ntmps13
      go_wp2
      go_ret2
      exact ⟨_, rfl, .inl ⟨_, _, rfl, rfl⟩, Below.refl _ _⟩
    · have hz := sp_else h1l h3
      have hxl : x.length ≤ 254 := by rw [List.length_cons] at h1l; omega
      have hx1 : 1 ≤ x.length := List.length_pos_iff.2 h3
      have hone : ¬ (s.size : Int) = 1 := by omega
      obtain ⟨E, hE⟩ : ∃ E : Int, E = spE (47 :: x) := ⟨_, rfl⟩
      obtain ⟨L, hL⟩ : ∃ L, L = spL (47 :: x) := ⟨_, rfl⟩
      rw [← hE, ← hL]
      have HZ : Hid (E = fstE (cutL x) ∧ L = if fstE (cutL x) = 0 then cutL x else []) := by rw [hE, hL]; exact hz
      have HX : Hid (s.data.toList = 47 :: x ∧ s.size = x.length + 1) := ⟨hx, hsz⟩
      have HS0 : Hid (stt s.data.toList [] 1 1) := stt_start (by rw [← Lib.size_eq]; omega)
      have hsl : s.size ≤ 255 := by omega
      obtain ⟨i0, hi0, hz0, hz1, hz2⟩ := info_parts pt_info_str
      clear hz hE hL h1l h3 hx h2 h1 hsz
      go_enter Tryd.func13, Tryd.ntmps13
      go_wp2_with fail
      go_loopw [4, 5, 6] (fun pv fv iv wr => ∃ (fr i : Nat) (d : List (List UInt8)) (ad : Option Addr) (c : Nat), fv = .int .i64 (fr : Int) ∧ iv = .int .i64 (i : Int) ∧ pv = .slice ad d.length c ∧ SZ wr w.heap.size pv (d.map mkB) ∧ stt s.data.toList d fr i ∧ (∀ q ∈ d, nmL q = 0) ∧ Below w.heap.size w wr) (fun _ _ iv _ => s.size + 1 - (intOf iv).toNat)
      case atStart => exact ⟨1, 1, [], none, 0, rfl, rfl, rfl, SZ.nil _ _, HS0.out, (fun q hq => absurd hq List.not_mem_nil), Below.refl _ _⟩
      case round =>
        clear HS0 hb0 h0 he hone
        obtain ⟨fr, i, d, ad, c, rfl, rfl, rfl, hown, hst, hok, hb⟩ := hrel
        have hbs := hb.size
        by_cases hle : i ≤ s.size
        · have i1 : (i : Int) ≤ s.size := by omega
          have hlen := Lib.size_eq s
          have hfr : fr ≤ i := by
            rcases hst with ⟨_, h, _⟩ | ⟨h, h2, _⟩
            · exact h
            · omega
          have f1 : (fr : Int) ≤ i := by omega
          by_cases hgo : ∃ h : i < s.size, s[i]'h ≠ 47
          · obtain ⟨hp, hc47⟩ := hgo
            have hp' : (i : Int) < s.size := by omega
            have hbt : ¬ (((s[i]'hp).toNat : Nat) : Int) = 47 := fun e => hc47 (UInt8.toNat_inj.1 (by have : (47 : UInt8).toNat = 47 := rfl; omega))
            have HN : Hid (SZ wr w.heap.size (.slice ad d.length c) (d.map mkB) ∧ stt s.data.toList d fr (i + 1) ∧ (∀ q ∈ d, nmL q = 0) ∧ Below w.heap.size w wr) := ⟨hown, stt_go hst (by omega) (fun e => hc47 ((byte_at s i hp).trans e)), hok, hb⟩
            clear hown hst hok hb hc47 hlen
            go_wp2
            go_roundw
            case rel => exact ⟨fr, i + 1, d, ad, c, rfl, by go_num, rfl, HN.out⟩
            case measure => simp [intOf]; omega
          · have hcase : (∃ h : i < s.size, (i : Int) < s.size ∧ (((s[i]'h).toNat : Nat) : Int) = 47) ∨ ¬ (i : Int) < s.size := by
              by_cases hp : i < s.size
              · refine .inl ⟨hp, by omega, ?_⟩
                have : s[i]'hp = 47 := Classical.byContradiction fun e => hgo ⟨hp, e⟩
                rw [this]; rfl
              · exact .inr (by omega)
            obtain ⟨hpc, hst2⟩ := stt_piece hst (by omega) fun hi => Classical.byContradiction fun e => hgo ⟨by omega, fun k => e ((byte_at s i (by omega)).symm.trans k)⟩
            have hdl := stt_len hst2
            rw [List.length_append, List.length_singleton] at hdl
            have hext := sub_text s fr i
            have hn : ∀ w, Calls Tryd.prog 10 #[.string (s.extract fr i)] w fun e w' => e = .returned (.int .i64 (nmL ((s.data.toList.drop fr).take (i - fr)))) ∧ w' = w := fun w => by
              have := rname_any (s.extract fr i) w
              rw [hext, list_mkB] at this
              rw [hext]
              exact this
            have HD : Hid (stt s.data.toList d fr i ∧ (∀ q ∈ d, nmL q = 0) ∧ Below w.heap.size w wr ∧ s.extract fr i = mkB ((s.data.toList.drop fr).take (i - fr)) ∧ (∃ r, cutL s.data.toList.tail = d ++ (s.data.toList.drop fr).take (i - fr) :: r) ∧ stt s.data.toList (d ++ [(s.data.toList.drop fr).take (i - fr)]) (i + 1) (i + 1)) := ⟨hst, hok, hb, hext, hpc, hst2⟩
            clear hst hok hb hext hpc hst2 hgo
            generalize (s.data.toList.drop fr).take (i - fr) = p at *
            have hdl2 : d.length ≤ 256 := by omega
            clear hdl hlen
            rcases hcase with ⟨hp, hp', hbt⟩ | hp'
            all_goals
              by_cases hq : nmL p = 0
              · have HP : Hid (nmL p = 0) := hq
                rw [hq] at hn
                clear hq
                unfold SZ at hown
                rw [List.length_map] at hown
                have hnew : (wr.alloc (.cells #[.string (s.extract fr i)] 9)).heap[wr.heap.size]? = some (.cells #[.string (s.extract fr i)] 9 (0, 0)) := heap_alloc_new wr _
                have hownC := World.ownsRow.alloc hown (.cells #[.string (s.extract fr i)] 9)
                have hone : ∀ u ∈ ([.string (s.extract fr i)] : List Value), u.oneCell' = true := by intro u hu; simp at hu; rw [hu]; rfl
                have HO : Hid (wr.ownsRow w.heap.size 9 1 (.slice ad d.length c) d.length ((d.map mkB).map Value.string)) := hown
                clear hown
                go_wp2_with fail
                refine (hn _).mono ?_
                rintro e w1 ⟨rfl, rfl⟩
                clear hn
                go_wp2_with (first | (at_builtin; (refine wpList_append_own _ rfl _ _ 26 rfl w.heap.size 9 i0 (.string ByteArray.empty) 1 16 Tryd.underlying26 hi0 hz0 hz1 hz2 rfl (by decide) (.slice ad d.length c) d.length ((d.map mkB).map Value.string) rfl hownC ⟨w1.heap.size, 0, none⟩ 1 1 [.string (s.extract fr i)] rfl rfl (World.news_of_block hnew) hone (by unfold maxLen; omega) (by omega) (by simp; omega) ?_)))
                intro v1 wB hown1 hgrow1 _
                have hTB : Below w.heap.size w wB := (HD.out.2.2.1.alloc hbs _).grown hgrow1 (by simp; omega) fun k hk => (HO.out.lt k hk).1
                obtain ⟨g1, cap1, rfl⟩ : ∃ g1 cap1, v1 = .slice (some ⟨g1, 0, none⟩) (d.length + 1) cap1 := by obtain ⟨g1, c1, e1, _⟩ := World.ownsRow.form hown1 (by omega); exact ⟨g1, c1, e1⟩
                have HF : Hid (SZ wB w.heap.size (.slice (some ⟨g1, 0, none⟩) (d ++ [p]).length cap1) ((d ++ [p]).map mkB) ∧ Below w.heap.size w wB) := by
                  unfold SZ
                  rw [List.length_map, List.length_append, List.length_singleton, List.map_append, List.map_append, List.map_singleton, List.map_singleton, ← HD.out.2.2.2.1, List.map_map]
                  exact ⟨hown1, hTB⟩
                rw [List.length_append, List.length_singleton] at HF
                clear hownC hnew hown1 hgrow1 hTB hone HO
                go_wp2
                go_roundw
                case rel =>
                  refine ⟨i + 1, i + 1, d ++ [p], some ⟨g1, 0, none⟩, cap1, by go_num, by go_num, by simp, HF.out.1, HD.out.2.2.2.2.2, fun q hq => ?_, HF.out.2⟩
                  rcases List.mem_append.1 hq with h | h
                  · exact HD.out.2.1 q h
                  · rw [List.mem_singleton.1 h]; exact HP.out
                case measure => simp [intOf]; omega
              · have HE : Hid (E = nmL p ∧ L = []) := by
                  obtain ⟨r, hr⟩ := HD.out.2.2.2.2.1
                  rw [HX.out.1, List.tail_cons] at hr
                  have hf : fstE (cutL x) = nmL p := by rw [hr]; exact fstE_bad HD.out.2.1 hq
                  exact ⟨by rw [HZ.out.1, hf], by rw [HZ.out.2, hf, if_neg hq]⟩
                clear HZ
                generalize nmL p = q at *
                have HB : Hid (Below w.heap.size w wr) := HD.out.2.2.1
                clear HD hown
                go_wp2_with fail
                refine (hn _).mono ?_
                rintro e w1 ⟨rfl, rfl⟩
                clear hn
                go_wp2
                go_ret2
                rw [HE.out.1, HE.out.2]
                exact ⟨_, rfl, .inl ⟨_, _, rfl, rfl⟩, HB.out⟩
        · have i1 : ¬ (i : Int) ≤ s.size := by omega
          have HF : Hid (E = 0 ∧ L = d) := by
            have hlen := Lib.size_eq s
            have hd : cutL x = d := by
              rcases hst with ⟨_, _, h, _⟩ | ⟨_, _, h⟩
              · omega
              · rw [HX.out.1, List.tail_cons] at h; exact h
            have hf : fstE (cutL x) = 0 := by rw [hd]; exact fstE_ok hok
            exact ⟨by rw [HZ.out.1, hf], by rw [HZ.out.2, hf, if_pos rfl, hd]⟩
          have HL5 : Hid (LS wr (.slice ad d.length c) (d.map mkB) ∧ Below w.heap.size w wr) := ⟨hown.list1, hb⟩
          clear HZ hok hb hown hst
          go_wp2
          go_ret2
          rw [HF.out.1, HF.out.2]
          exact ⟨_, rfl, HL5.out⟩
  · have hz := sp_bare h1l h2
    rw [hz.1, hz.2]
    clear hz h1 h1l
    by_cases he0 : s.toList = []
    · clear h2
      go_enter Tryd.func13, Tryd.ntmps13
      go_wp2
      go_ret2
      exact ⟨_, rfl, .inl ⟨_, _, rfl, rfl⟩, Below.refl _ _⟩
    · have he : s.toList.isEmpty = false := by simpa using he0
      have h0 : 0 < s.size := by
        rw [Lib.size_eq, ← Lib.toList_data]
        exact List.length_pos_iff.2 he0
      have hb0 : ¬ (((s[0]'h0).toNat : Nat) : Int) = 47 := fun e => by
        apply h2
        have e1 : s[0]'h0 = 47 := UInt8.toNat_inj.1 (by have : (47 : UInt8).toNat = 47 := rfl; omega)
        rw [byte_at s 0 h0] at e1
        rw [List.head?_eq_getElem?, List.getElem?_eq_getElem (by rw [← Lib.size_eq]; exact h0), e1]
      clear h2 he0
      go_enter Tryd.func13, Tryd.ntmps13
      go_wp2
      go_ret2
      exact ⟨_, rfl, .inl ⟨_, _, rfl, rfl⟩, Below.refl _ _⟩
end Go.Proofs.YtjpgmbebdkiofaaDoor
