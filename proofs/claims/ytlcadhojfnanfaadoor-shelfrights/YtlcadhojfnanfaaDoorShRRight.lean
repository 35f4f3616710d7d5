/- Which slots may be as they are: the document's. -/
import Derived.Test.YtlcadhojfnanfaaDoorShRight
import Derived.Test.YtlcadhojfnanfaaDoorShRSpare
namespace Go.Proofs.YtlcadhojfnanfaaDoor
set_option maxRecDepth 20000
open Go.RowKit

/-- A list of bools of one's own. -/
def BZ (w : World) (base : Nat) (v : Value) (B : List Bool) : Prop := w.ownsRow base 4 1 v B.length (B.map Value.bool)
theorem BZ.nil (w : World) (base : Nat) : BZ w base (.slice none 0 0) [] := World.ownsRow_nil _ _ _ _
theorem BZ.form {w : World} {base : Nat} {v : Value} {B : List Bool} (h : BZ w base v B) : ∃ oa cap, v = .slice oa B.length cap := by
  rcases h.2 with ⟨e, h0⟩ | ⟨g, cap, cur, e, _⟩
  · exact ⟨none, 0, by rw [e, h0]⟩
  · exact ⟨_, _, e⟩
theorem BZ.below {w w' : World} {base : Nat} {v : Value} {B : List Bool} (h : BZ w base v B) (hb : Below w.heap.size w w') : BZ w' base v B := by
  refine ⟨h.1, ?_⟩
  rcases h.2 with h0 | ⟨g, cap, cur, e, h0, hg, h1, h2, h3, h4⟩
  · exact .inl h0
  · exact .inr ⟨g, cap, cur, e, h0, (hb.block g (lt_of_block hg)).trans hg, h1, h2, h3, h4⟩
theorem BZ.at {w : World} {base : Nat} {oa : Option Addr} {cap : Nat} {B : List Bool} (h : BZ w base (.slice oa B.length cap) B) {i : Nat} (hi : i < B.length) : ∃ g, oa = some ⟨g, 0, none⟩ ∧ w.cell? ⟨g, i, none⟩ = some (.bool B[i]) := by
  have hh := h
  unfold BZ at hh
  rcases h.2 with ⟨e, h0⟩ | ⟨g, cap', cur, e, h0, hg, h1, h2, h3, h4⟩
  · omega
  · simp only [Value.slice.injEq] at e
    obtain ⟨rfl, _, _⟩ := e
    refine ⟨g, rfl, ?_⟩
    have := hh.cellAt i (by omega)
    rw [this, List.getElem?_map, List.getElem?_eq_getElem hi]
    rfl
theorem right_take {l : List En} {k : Nat} (hk : k < l.length) : (rightL l).take (k + 1) = (rightL l).take k ++ [rightB l k l[k]] := by
  rw [List.take_add_one, List.getElem?_eq_getElem (by rw [rightL_len]; exact hk), rightL_get hk]
  rfl
set_option maxHeartbeats 2000000 in
theorem rright_any (v : Value) (l : List En) (w : World) (hv : Ens w v l) (hl : l.length ≤ 300) :
    Calls Tryd.prog 7 #[v] w fun e w' => ∃ v', e = .returned v' ∧ BZ w' w.heap.size v' (rightL l) ∧ Below w.heap.size w w' := by
  obtain ⟨oa, ca, rfl⟩ := hv.form
  obtain ⟨i0, hi0, hz0, hz1, hz2⟩ := info_parts info_b
  obtain ⟨X, hX⟩ : ∃ X, X = rightL l := ⟨_, rfl⟩
  rw [← hX]
  have HX : Hid (X = rightL l) := hX
  have HV : Hid (Ens w (.slice oa l.length ca) l) := hv
  clear hX hv
  go_enter Tryd.func7, Tryd.ntmps7
  go_wp2_with fail
  go_loopw [3, 4] (fun ov iv wr => ∃ (k : Nat), k ≤ l.length ∧ iv = .int .i64 (k : Int) ∧ BZ wr w.heap.size ov ((rightL l).take k) ∧ Hid (Below w.heap.size w wr)) (fun _ iv _ => l.length - (intOf iv).toNat)
  case atStart => exact ⟨0, Nat.zero_le _, rfl, BZ.nil _ _, Below.refl _ _⟩
  case round =>
    obtain ⟨k, hk, rfl, hown, HB⟩ := hrel
    obtain ⟨ob, cap, rfl⟩ := hown.form
    have hnl : ((rightL l).take k).length = k := by rw [List.length_take, rightL_len]; omega
    by_cases hlt : k < l.length
    · have j1 : (k : Int) < l.length := by omega
      obtain ⟨gb, o, rfl, hg, hc⟩ := HV.out.at (i := k) hlt
      obtain ⟨c0, c1, c2⟩ := hc.below HB.out hg
      have hgw := Nat.lt_of_lt_of_le hg HB.out.size
      clear hc
      have HN : Hid ((rightL l).take (k + 1) = (rightL l).take k ++ [rightB l k l[k]]) := right_take hlt
      have hown : wr.ownsRow w.heap.size 4 1 (.slice ob k cap) k (((rightL l).take k).map Value.bool) := by unfold BZ at hown; rwa [hnl] at hown
      have HO : Hid (wr.ownsRow w.heap.size 4 1 (.slice ob k cap) k (((rightL l).take k).map Value.bool)) := hown
      rw [hnl]
      obtain ⟨D, hD⟩ : ∃ D, D = (rightL l).take k := ⟨_, rfl⟩
      rw [← hD] at HN hown HO
      have HD : Hid (D.length = k) := by rw [hD]; exact hnl
      clear hD hnl
      have hbs := HB.out.size
      cases hq : frE l[k] with
      | true =>
        have HR : Hid (rightB l k l[k] = (decide (l[k].ino = 0) && decide (l[k].gen = 0))) := (show rightB l k l[k] = _ from by rw [rightB, if_pos hq])
        have hnm := free_nm hq
        clear hq
        generalize l[k] = x at *
        obtain ⟨nm, a1, a2⟩ := x
        obtain rfl : nm = ByteArray.empty := hnm
        simp only at c0 c1 c2 HR
        have HW : Hid (Below w.heap.size w (wr.alloc (.cells #[.string ByteArray.empty, .int .i64 a1, .int .i64 a2] 28))) := HB.out.alloc hbs _
        have hcase : ((a1 == 0) = true ∧ (a2 == 0) = true) ∨ (a1 == 0) = false ∨ ((a1 == 0) = true ∧ (a2 == 0) = false) := by
          cases (a1 == 0) <;> cases (a2 == 0) <;> simp
        rcases hcase with ⟨h1, h2⟩ | h1 | ⟨h1, h2⟩
        · obtain rfl : a1 = 0 := by simpa using h1
          obtain rfl : a2 = 0 := by simpa using h2
          have HRb : Hid (rightB l k ⟨ByteArray.empty, 0, 0⟩ = true) := (show rightB l k ⟨ByteArray.empty, 0, 0⟩ = true from by rw [HR.out]; exact (show (decide ((0 : Int) = 0) && decide ((0 : Int) = 0)) = true from rfl))
          clear HR
          have hownC := World.ownsRow.alloc (World.ownsRow.alloc hown (.cells #[.string ByteArray.empty, .int .i64 0, .int .i64 0] 28)) (.cells #[.bool true] 4)
          have hnew : ((wr.alloc (.cells #[.string ByteArray.empty, .int .i64 0, .int .i64 0] 28)).alloc (.cells #[.bool true] 4)).heap[wr.heap.size + 1]? = some (.cells #[.bool true] 4 (0, 0)) := by have := heap_alloc_new (wr.alloc (.cells #[.string ByteArray.empty, .int .i64 0, .int .i64 0] 28)) (.cells #[.bool true] 4); simpa using this
          have hone : ∀ u ∈ ([.bool true] : List Value), u.oneCell' = true := by intro u hu; simp at hu; rw [hu]; rfl
          clear hown
          go_wp2_with (first | (at_builtin; (refine wpList_append_own _ rfl _ _ 23 rfl w.heap.size 4 i0 (.bool false) 1 1 Tryd.underlying23 hi0 hz0 hz1 hz2 rfl (by decide) (.slice ob k cap) k (D.map Value.bool) rfl hownC ⟨wr.heap.size + 1, 0, none⟩ 1 1 [.bool true] rfl rfl (World.news_of_block hnew) hone (by unfold maxLen; omega) (by omega) (by simp; omega) ?_)))
          intro v1 wB hown1 hgrow1 _
          have hTB : Below w.heap.size w wB := (HW.out.alloc HW.out.size _).grown hgrow1 (by have := HW.out.size; simp at this ⊢; omega) fun j hj => (HO.out.lt j hj).1
          have HF : Hid (BZ wB w.heap.size v1 ((rightL l).take (k + 1)) ∧ Below w.heap.size w wB) := by
            unfold BZ
            rw [HN.out, HRb.out, List.length_append, List.length_singleton, List.map_append, HD.out]
            exact ⟨hown1, hTB⟩
          clear hownC hnew hown1 hgrow1 hTB hone HO
          go_wp2
          go_roundw
          case rel => exact ⟨k + 1, by omega, by go_num, HF.out.1, HF.out.2⟩
          case measure => simp [intOf]; omega
        · have h1' : ¬ a1 = 0 := by simpa using h1
          have HRb : Hid (rightB l k ⟨ByteArray.empty, a1, a2⟩ = false) := (show rightB l k ⟨ByteArray.empty, a1, a2⟩ = false from by rw [HR.out]; exact (show (decide (a1 = 0) && decide (a2 = 0)) = false from by simp [h1']))
          clear HR
          have hownC := World.ownsRow.alloc (World.ownsRow.alloc hown (.cells #[.string ByteArray.empty, .int .i64 a1, .int .i64 a2] 28)) (.cells #[.bool false] 4)
          have hnew : ((wr.alloc (.cells #[.string ByteArray.empty, .int .i64 a1, .int .i64 a2] 28)).alloc (.cells #[.bool false] 4)).heap[wr.heap.size + 1]? = some (.cells #[.bool false] 4 (0, 0)) := by have := heap_alloc_new (wr.alloc (.cells #[.string ByteArray.empty, .int .i64 a1, .int .i64 a2] 28)) (.cells #[.bool false] 4); simpa using this
          have hone : ∀ u ∈ ([.bool false] : List Value), u.oneCell' = true := by intro u hu; simp at hu; rw [hu]; rfl
          clear hown
          go_wp2_with (first | (at_builtin; (refine wpList_append_own _ rfl _ _ 23 rfl w.heap.size 4 i0 (.bool false) 1 1 Tryd.underlying23 hi0 hz0 hz1 hz2 rfl (by decide) (.slice ob k cap) k (D.map Value.bool) rfl hownC ⟨wr.heap.size + 1, 0, none⟩ 1 1 [.bool false] rfl rfl (World.news_of_block hnew) hone (by unfold maxLen; omega) (by omega) (by simp; omega) ?_)))
          intro v1 wB hown1 hgrow1 _
          have hTB : Below w.heap.size w wB := (HW.out.alloc HW.out.size _).grown hgrow1 (by have := HW.out.size; simp at this ⊢; omega) fun j hj => (HO.out.lt j hj).1
          have HF : Hid (BZ wB w.heap.size v1 ((rightL l).take (k + 1)) ∧ Below w.heap.size w wB) := by
            unfold BZ
            rw [HN.out, HRb.out, List.length_append, List.length_singleton, List.map_append, HD.out]
            exact ⟨hown1, hTB⟩
          clear hownC hnew hown1 hgrow1 hTB hone HO
          go_wp2
          go_roundw
          case rel => exact ⟨k + 1, by omega, by go_num, HF.out.1, HF.out.2⟩
          case measure => simp [intOf]; omega
        · obtain rfl : a1 = 0 := by simpa using h1
          have h2' : ¬ a2 = 0 := by simpa using h2
          have HRb : Hid (rightB l k ⟨ByteArray.empty, 0, a2⟩ = false) := (show rightB l k ⟨ByteArray.empty, 0, a2⟩ = false from by rw [HR.out]; exact (show (decide ((0 : Int) = 0) && decide (a2 = 0)) = false from by simp [h2']))
          clear HR
          have hownC := World.ownsRow.alloc (World.ownsRow.alloc hown (.cells #[.string ByteArray.empty, .int .i64 0, .int .i64 a2] 28)) (.cells #[.bool false] 4)
          have hnew : ((wr.alloc (.cells #[.string ByteArray.empty, .int .i64 0, .int .i64 a2] 28)).alloc (.cells #[.bool false] 4)).heap[wr.heap.size + 1]? = some (.cells #[.bool false] 4 (0, 0)) := by have := heap_alloc_new (wr.alloc (.cells #[.string ByteArray.empty, .int .i64 0, .int .i64 a2] 28)) (.cells #[.bool false] 4); simpa using this
          have hone : ∀ u ∈ ([.bool false] : List Value), u.oneCell' = true := by intro u hu; simp at hu; rw [hu]; rfl
          clear hown
          go_wp2_with (first | (at_builtin; (refine wpList_append_own _ rfl _ _ 23 rfl w.heap.size 4 i0 (.bool false) 1 1 Tryd.underlying23 hi0 hz0 hz1 hz2 rfl (by decide) (.slice ob k cap) k (D.map Value.bool) rfl hownC ⟨wr.heap.size + 1, 0, none⟩ 1 1 [.bool false] rfl rfl (World.news_of_block hnew) hone (by unfold maxLen; omega) (by omega) (by simp; omega) ?_)))
          intro v1 wB hown1 hgrow1 _
          have hTB : Below w.heap.size w wB := (HW.out.alloc HW.out.size _).grown hgrow1 (by have := HW.out.size; simp at this ⊢; omega) fun j hj => (HO.out.lt j hj).1
          have HF : Hid (BZ wB w.heap.size v1 ((rightL l).take (k + 1)) ∧ Below w.heap.size w wB) := by
            unfold BZ
            rw [HN.out, HRb.out, List.length_append, List.length_singleton, List.map_append, HD.out]
            exact ⟨hown1, hTB⟩
          clear hownC hnew hown1 hgrow1 hTB hone HO
          go_wp2
          go_roundw
          case rel => exact ⟨k + 1, by omega, by go_num, HF.out.1, HF.out.2⟩
          case measure => simp [intOf]; omega
      | false =>
        have HR : Hid (rightB l k l[k] = (decide (nmL l[k].nm.data.toList = 0) && decide (fstI (hasN l[k].nm) l = (k : Int)))) := (show rightB l k l[k] = _ from by rw [rightB, if_neg (by rw [hq]; decide)])
        have hq2 : l[k].nm.toList.isEmpty = false := hq
        have hn := rname_any l[k].nm
        clear hq
        generalize l[k] = x at *
        have HW : Hid (Below w.heap.size w (wr.alloc (.cells #[.string x.nm, .int .i64 x.ino, .int .i64 x.gen] 28))) := HB.out.alloc hbs _
        have hf := rfind_any _ l x.nm _ (HV.out.below HW.out) (by omega)
        generalize fstI (hasN x.nm) l = F at *
        go_wp2_with fail
        refine (hn _).mono ?_
        rintro e w2 ⟨rfl, rfl⟩
        clear hn
        by_cases hnm : nmL x.nm.data.toList = 0
        · rw [hnm] at HR ⊢
          go_wp2_with fail
          refine hf.mono ?_
          rintro e w2 ⟨rfl, hb2⟩
          clear hf
          have hown2 : w2.ownsRow w.heap.size 4 1 (.slice ob k cap) k (D.map Value.bool) := by
            have h1 : BZ (wr.alloc (.cells #[.string x.nm, .int .i64 x.ino, .int .i64 x.gen] 28)) w.heap.size (.slice ob k cap) D := by unfold BZ; rw [HD.out]; exact World.ownsRow.alloc hown _
            have h2 := h1.below hb2
            unfold BZ at h2
            rwa [HD.out] at h2
          have HW2 : Hid (Below w.heap.size w w2) := HW.out.trans (hb2.mono HW.out.size)
          clear hown HO HW hb2 HB
          have hown := hown2
          have HO : Hid (w2.ownsRow w.heap.size 4 1 (.slice ob k cap) k (D.map Value.bool)) := hown2
          have HW := HW2
          clear hown2 HW2 c0 c1 c2
          have hbs2 := HW.out.size
          cases hF : (F == (k : Int)) with
          | true =>
            have hF' : F = (k : Int) := by simpa using hF
            have HRb : Hid (rightB l k x = true) := (show rightB l k x = true from by rw [HR.out]; exact (show (decide (0 = 0) && decide (F = (k : Int))) = true from by simp [hF']))
            clear HR
            have hownC := World.ownsRow.alloc (hown) (.cells #[.bool true] 4)
            have hnew : ((w2).alloc (.cells #[.bool true] 4)).heap[w2.heap.size]? = some (.cells #[.bool true] 4 (0, 0)) := heap_alloc_new w2 _
            have hone : ∀ u ∈ ([.bool true] : List Value), u.oneCell' = true := by intro u hu; simp at hu; rw [hu]; rfl
            clear hown
            go_wp2_with (first | (at_builtin; (refine wpList_append_own _ rfl _ _ 23 rfl w.heap.size 4 i0 (.bool false) 1 1 Tryd.underlying23 hi0 hz0 hz1 hz2 rfl (by decide) (.slice ob k cap) k (D.map Value.bool) rfl hownC ⟨w2.heap.size, 0, none⟩ 1 1 [.bool true] rfl rfl (World.news_of_block hnew) hone (by unfold maxLen; omega) (by omega) (by simp; omega) ?_)))
            intro v1 wB hown1 hgrow1 _
            have hTB : Below w.heap.size w wB := (HW.out.alloc HW.out.size _).grown hgrow1 (by have := HW.out.size; simp at this ⊢; omega) fun j hj => (HO.out.lt j hj).1
            have HF : Hid (BZ wB w.heap.size v1 ((rightL l).take (k + 1)) ∧ Below w.heap.size w wB) := by
              unfold BZ
              rw [HN.out, HRb.out, List.length_append, List.length_singleton, List.map_append, HD.out]
              exact ⟨hown1, hTB⟩
            clear hownC hnew hown1 hgrow1 hTB hone HO
            go_wp2
            go_roundw
            case rel => exact ⟨k + 1, by omega, by go_num, HF.out.1, HF.out.2⟩
            case measure => simp [intOf]; omega
          | false =>
            have hF' : ¬ F = (k : Int) := by simpa using hF
            have HRb : Hid (rightB l k x = false) := (show rightB l k x = false from by rw [HR.out]; exact (show (decide (0 = 0) && decide (F = (k : Int))) = false from by simp [hF']))
            clear HR
            have hownC := World.ownsRow.alloc (hown) (.cells #[.bool false] 4)
            have hnew : ((w2).alloc (.cells #[.bool false] 4)).heap[w2.heap.size]? = some (.cells #[.bool false] 4 (0, 0)) := heap_alloc_new w2 _
            have hone : ∀ u ∈ ([.bool false] : List Value), u.oneCell' = true := by intro u hu; simp at hu; rw [hu]; rfl
            clear hown
            go_wp2_with (first | (at_builtin; (refine wpList_append_own _ rfl _ _ 23 rfl w.heap.size 4 i0 (.bool false) 1 1 Tryd.underlying23 hi0 hz0 hz1 hz2 rfl (by decide) (.slice ob k cap) k (D.map Value.bool) rfl hownC ⟨w2.heap.size, 0, none⟩ 1 1 [.bool false] rfl rfl (World.news_of_block hnew) hone (by unfold maxLen; omega) (by omega) (by simp; omega) ?_)))
            intro v1 wB hown1 hgrow1 _
            have hTB : Below w.heap.size w wB := (HW.out.alloc HW.out.size _).grown hgrow1 (by have := HW.out.size; simp at this ⊢; omega) fun j hj => (HO.out.lt j hj).1
            have HF : Hid (BZ wB w.heap.size v1 ((rightL l).take (k + 1)) ∧ Below w.heap.size w wB) := by
              unfold BZ
              rw [HN.out, HRb.out, List.length_append, List.length_singleton, List.map_append, HD.out]
              exact ⟨hown1, hTB⟩
            clear hownC hnew hown1 hgrow1 hTB hone HO
            go_wp2
            go_roundw
            case rel => exact ⟨k + 1, by omega, by go_num, HF.out.1, HF.out.2⟩
            case measure => simp [intOf]; omega
        · have hq0 : (nmL x.nm.data.toList == 0) = false := by rw [beq_eq_false_iff_ne]; exact hnm
          have HNM : Hid (¬ nmL x.nm.data.toList = 0) := hnm
          clear hnm hf
          generalize nmL x.nm.data.toList = q at *
          have HRb : Hid (rightB l k x = false) := (show rightB l k x = false from by rw [HR.out]; exact (show (decide (q = 0) && decide (F = (k : Int))) = false from by simp [HNM.out]))
          clear HR
          have hownC := World.ownsRow.alloc (World.ownsRow.alloc hown (.cells #[.string x.nm, .int .i64 x.ino, .int .i64 x.gen] 28)) (.cells #[.bool false] 4)
          have hnew : ((wr.alloc (.cells #[.string x.nm, .int .i64 x.ino, .int .i64 x.gen] 28)).alloc (.cells #[.bool false] 4)).heap[wr.heap.size + 1]? = some (.cells #[.bool false] 4 (0, 0)) := by have := heap_alloc_new (wr.alloc (.cells #[.string x.nm, .int .i64 x.ino, .int .i64 x.gen] 28)) (.cells #[.bool false] 4); simpa using this
          have hone : ∀ u ∈ ([.bool false] : List Value), u.oneCell' = true := by intro u hu; simp at hu; rw [hu]; rfl
          clear hown
          go_wp2_with (first | (at_builtin; (refine wpList_append_own _ rfl _ _ 23 rfl w.heap.size 4 i0 (.bool false) 1 1 Tryd.underlying23 hi0 hz0 hz1 hz2 rfl (by decide) (.slice ob k cap) k (D.map Value.bool) rfl hownC ⟨wr.heap.size + 1, 0, none⟩ 1 1 [.bool false] rfl rfl (World.news_of_block hnew) hone (by unfold maxLen; omega) (by omega) (by simp; omega) ?_)))
          intro v1 wB hown1 hgrow1 _
          have hTB : Below w.heap.size w wB := (HW.out.alloc HW.out.size _).grown hgrow1 (by have := HW.out.size; simp at this ⊢; omega) fun j hj => (HO.out.lt j hj).1
          have HF : Hid (BZ wB w.heap.size v1 ((rightL l).take (k + 1)) ∧ Below w.heap.size w wB) := by
            unfold BZ
            rw [HN.out, HRb.out, List.length_append, List.length_singleton, List.map_append, HD.out]
            exact ⟨hown1, hTB⟩
          clear hownC hnew hown1 hgrow1 hTB hone HO
          go_wp2
          go_roundw
          case rel => exact ⟨k + 1, by omega, by go_num, HF.out.1, HF.out.2⟩
          case measure => simp [intOf]; omega
    · have j1 : ¬ (k : Int) < l.length := by omega
      have HF : Hid (BZ wr w.heap.size (.slice ob k cap) X) := by
        rw [HX.out]
        rw [hnl, List.take_of_length_le (by rw [rightL_len]; omega)] at hown
        exact hown
      clear hown
      go_wp2
      go_ret
      exact ⟨_, rfl, HF.out, HB.out⟩
end Go.Proofs.YtlcadhojfnanfaaDoor
