/- The law BlockLooks: the way 2. -/
import Derived.Test.YtkopbpbmfdogfaaDoorLooksMath6
namespace Go.Proofs.YtkopbpbmfdogfaaDoor
set_option maxRecDepth 20000
open Go.RowKit

set_option maxRecDepth 100000 in
set_option maxHeartbeats 8000000 in
theorem looks_way2 (v0 : Value) (l : List Hd) (v1 : Value) (ms : List Int) (cut at_ : Int) (w : World) (J : Nat) (hJ : J ≤ l.length ∧ J ≤ 8) (hcase : (¬ (J : Int) < (l.length : Nat)) ∨ ((J : Int) < (l.length : Nat) ∧ ¬ (J : Int) < 8)) (a1 : 0 ≤ at_) (a2 : (J : Int) ≤ at_) (hl : HdsV w v0 l) (hms : List1 (Value.int .i64) w v1 ms) :
    Calls Tryd.prog 3 #[v0, v1, .int .i64 cut, .int .i64 at_] w fun e w' => e = .returned (.bool true) ∧ Below w.heap.size w w' := by
  obtain ⟨oa, ca, rfl⟩ := hl.form
  obtain ⟨om, cm, rfl⟩ := hms.form
  have HL : Hid (HdsV w (.slice oa l.length ca) l) := hl
  have HM : Hid (List1 (Value.int .i64) w (.slice om ms.length cm) ms) := hms
  clear hl hms
  have HCS : Hid ((¬ (J : Int) < (l.length : Nat)) ∨ ((J : Int) < (l.length : Nat) ∧ ¬ (J : Int) < 8)) := hcase
  clear hcase
  have HOP : Hid (∀ j, j < J → (∃ g o, oa = some ⟨g, o, none⟩ ∧ g < w.heap.size ∧ HdAt w g (o + j * 8) (l.getD j default)) ∧ hdI (l.getD j default)) := fun j hj => by
    obtain ⟨g, o, e, hg, hx⟩ := HL.out.get (i := j) (by omega)
    rw [List.getD_eq_getElem?_getD, List.getElem?_eq_getElem (by omega)]
    exact ⟨⟨g, o, e, hg, hx j _ (List.getElem?_eq_getElem (by omega))⟩, HL.out.1 _ (List.getElem_mem _)⟩
  clear HL
  have hbd := fun w => body_any ⟨#[97, 98, 99]⟩ w
  generalize bodyS ⟨#[97, 98, 99]⟩ = b at *
  obtain ⟨i0, hi0, hz0, hz1, hz2⟩ := info_parts info_str1
  have hzi := zero_image
  go_enter Tryd.func3, Tryd.ntmps3
  go_wp2_with fail
  refine (ideal_any w).mono ?_
  rintro e w1 ⟨B, rfl, hp, hb⟩
  obtain ⟨F, hF⟩ : ∃ F : Nat → Prop, F = fun k => w.heap.size ≤ k ∧ k < w1.heap.size := ⟨_, rfl⟩
  have HF : Hid (∀ k, F k → w.heap.size ≤ k ∧ k < w1.heap.size) := fun k hk => by rw [hF] at hk; exact hk
  rw [← hF] at hp
  obtain ⟨w2, hw2⟩ : ∃ w2, w1.alloc (.cells #[.slice none 0 0, .slice none 0 0] 28) = w2 := ⟨_, rfl⟩
  have hA : Below w1.heap.size w1 w2 := by rw [← hw2]; exact (Below.refl _ _).alloc (Nat.le_refl _) _
  have hrw : Row w2 w1.heap.size 28 [.slice none 0 0, .slice none 0 0] := by rw [← hw2]; exact heap_alloc_new w1 _
  have HB : Hid (Ideal w2 F B newV ∧ ImgMid w1.heap.size w2 w1.heap.size (.slice none 0 0) (.slice none 0 0) [] [] ∧ Below w.heap.size w w2) := ⟨hp.below hA, ⟨hrw, World.ownsRow_nil _ _ _ _, World.ownsRow_nil _ _ _ _, Nat.le_refl _, fun g hg => (by cases hg), fun g hg => (by cases hg), by simp [Apart, Value.ownBlock], by simp [Apart, Value.ownBlock], fun g hg => (by cases hg)⟩, hb.trans (hA.mono hb.size)⟩
  have hb1 := hb.size
  have HW2 : Hid (w1.alloc (.cells #[.slice none 0 0, .slice none 0 0] 28) = w2) := hw2
  clear hp hb hF hA hrw hw2
  go_wp2_with fail
  rw [HW2.out]
  clear HW2
  go_loopw [11] (fun i wr => ∃ (j : Nat) (T : List ByteArray) (ob : Option Addr) (cb : Nat), j ≤ J ∧ T.length = j ∧ i = .int .i64 j ∧ Ideal wr F B (sealB l b j) ∧ ImgMid w1.heap.size wr w1.heap.size (.slice ob j cb) (.slice none 0 0) T [] ∧ Below w.heap.size w wr) (fun i _ => J - (intOf i).toNat)
  case atStart => exact ⟨0, [], none, 0, Nat.zero_le _, rfl, rfl, HB.out⟩
  case round =>
    clear HB
    obtain ⟨j, T, ob, cb, hj, hTj, rfl, hid, him, hT⟩ := hrel
    have HTJ : Hid (T.length = j) := hTj
    have hsl := sealB_len l b j
    clear hTj
    by_cases hlt : j < J
    · have j1 : (j : Int) < (l.length : Nat) := by omega
      have j2 : (j : Int) < 8 := by omega
      have j0 : (0 : Int) ≤ (j : Int) := by omega
      obtain ⟨⟨g, o, rfl, hg, hx0⟩, hok⟩ := HOP.out j hlt
      have hx := hx0.later hT hg
      have hN : w.heap.size ≤ wr.heap.size := hT.size
      obtain ⟨x, hxx⟩ : ∃ x, x = l.getD j default := ⟨_, rfl⟩
      have hSS : bsealP (sealB l b j) x b = sealB l b (j + 1) := by rw [hxx]; rfl
      rw [← hxx] at hx hok
      have hs1 := fun w' t => bseal_any B F (sealB l b j) x b (by omega) w' t
      obtain ⟨Sk, HSk⟩ : ∃ y, Hid (y = sealB l b (j + 1)) := ⟨_, rfl⟩
      simp only [Hd.arr, hSS] at hs1
      simp only [← HSk.out] at hs1
      have HR : Hid ((bsealS (sealB l b j) x b).size ≤ 512) := bsealS_small (sealB l b j) x b (by omega)
      generalize bsealS (sealB l b j) x b = R at *
      generalize bsealE x b = E at *
      generalize sealB l b j = Sj at *
      obtain ⟨c0, c1, c2, c3, c4, c5, c6, c7⟩ := hx.cells8
      have HT : Hid (Below w.heap.size w wr) := hT
      have HI : Hid (ImgMid w1.heap.size wr w1.heap.size (.slice ob j cb) (.slice none 0 0) T []) := him
      clear hx hx0 hxx hT hSS him
      go_wp2_with fail
      go_region_held3 (fun w' => w'.cell? ⟨g, o + j * 8, none⟩ = some (.int .i64 x.v0) ∧ w'.cell? ⟨g, o + j * 8 + 1, none⟩ = some (.int .i64 x.v1) ∧ w'.cell? ⟨g, o + j * 8 + 2, none⟩ = some (.int .i64 x.v2) ∧ w'.cell? ⟨g, o + j * 8 + 3, none⟩ = some (.int .i64 x.v3) ∧ w'.cell? ⟨g, o + j * 8 + 4, none⟩ = some (.int .i64 x.v4) ∧ w'.cell? ⟨g, o + j * 8 + 5, none⟩ = some (.int .i64 x.v5) ∧ w'.cell? ⟨g, o + j * 8 + 6, none⟩ = some (.int .i64 x.v6) ∧ w'.cell? ⟨g, o + j * 8 + 7, none⟩ = some (.int .i64 x.v7)) (simp [go_sem, *])
        (first | (go_at_call 6; refine (hbd _).mono ?_; rintro e wA ⟨rfl, hbA⟩; have hBA : Below wr.heap.size wr wA := (Below.refl _ _).drew.trans hbA; have hkA : ∀ i, wA.cell? ⟨g, i, none⟩ = wr.cell? ⟨g, i, none⟩ := cell_kept_ (hBA.block _ (by omega))) | (go_at_call 5; refine (hs1 _ (hid.below hBA)).mono ?_; rintro e wD ⟨rfl, hiD, htD⟩; have hkD : ∀ i, wD.cell? ⟨g, i, none⟩ = wA.cell? ⟨g, i, none⟩ := cell_kept_ (htD.2 _ (by have := hBA.size; omega) fun hf => by have := (HF.out _ hf).1; omega)))
      have h4 := (HI.out.keep (w' := wA) fun k _ hk => hBA.block k hk).keep (w' := wD) fun k hk hk2 => htD.2 k hk2 fun hf => by have := (HF.out k hf).2; omega
      have HTA : Hid (Below w.heap.size w wA) := HT.out.trans (hBA.mono HT.out.size)
      have HTD : Hid (Below w.heap.size w wD ∧ Ideal wD F B Sk) := ⟨HTA.out.trans (htD.below HTA.out.size fun k hk => (HF.out k hk).1), hiD⟩
      clear hkA hkD hBA hbA htD hiD c0 c1 c2 c3 c4 c5 c6 c7 HT HI hid hs1 HTA
      by_cases hcut : cut = j
      · subst hcut
        obtain ⟨m, hm⟩ : ∃ m, m = R.size := ⟨_, rfl⟩
        have hm5 : m ≤ 512 := by rw [hm]; exact HR.out
        have hms : R.size = m := hm.symm
        obtain ⟨u, hu⟩ : ∃ u, R.extract 0 (m / 2) = u := ⟨_, rfl⟩
        clear HR hm
        have hzD : w1.heap.size < wD.heap.size := h4.row.lt
        have h4' := h4.keep (w' := wD.alloc (.cells #[.string u] 9)) fun k _ hk => Below.heap_alloc wD _ k hk
        have hnew : (wD.alloc (.cells #[.string u] 9)).heap[wD.heap.size]? = some (.cells #[.string u] 9 (0, 0)) := heap_alloc_new wD _
        have hone : ∀ u' ∈ ([.string u] : List Value), u'.oneCell' = true := by intro u' hu; simp at hu; rw [hu]; rfl
        have hownC := h4'.raws
        have c0 : wD.cell? ⟨w1.heap.size, 0, none⟩ = some (.slice ob j cb) := h4.row.cell 0
        rw [HTJ.out] at hownC
        have hszD : w1.heap.size ≤ (wD.alloc (.cells #[.string u] 9)).heap.size := by simp; omega
        have HA : Hid (ImgMid w1.heap.size (wD.alloc (.cells #[.string u] 9)) w1.heap.size (.slice ob j cb) (.slice none 0 0) T [] ∧ Ideal (wD.alloc (.cells #[.string u] 9)) F B Sk ∧ Below w.heap.size w (wD.alloc (.cells #[.string u] 9))) := ⟨h4', HTD.out.2.below ((Below.refl _ _).alloc (Nat.le_refl _) _), HTD.out.1.alloc HTD.out.1.size _⟩
        clear h4 h4' HTD
        go_wp2_with (first | (at_builtin; (refine wpList_append_own_at _ rfl _ _ 26 rfl 0 9 i0 (.string ⟨#[]⟩) 1 16 Tryd.underlying26 hi0 hz0 hz1 hz2 rfl (by decide) (.slice ob j cb) j (T.map Value.string) rfl hownC ⟨wD.heap.size, 0, none⟩ 1 1 [.string u] rfl rfl (World.news_of_block hnew) hone (by unfold maxLen; omega) (by omega) (Nat.zero_le _) ?_)))
        intro v1 wB hown1 hgrow1 _ hat1
        obtain ⟨g1, cap1, rfl, _, _⟩ := owns_form hown1 (by omega)
        obtain ⟨e1, e2, h5⟩ := HA.out.1.growR hszD (by rw [HTJ.out]; exact hown1) hgrow1 (by first | exact hat1 | simpa using hat1)
        have hRne : ∀ k, (Value.slice ob j cb).ownBlock = some k → w1.heap.size ≤ k := HA.out.1.fR
        have HG : Hid (ImgMid w1.heap.size (wB.setCell ⟨w1.heap.size, 0, none⟩ (.slice (some ⟨g1, 0, none⟩) (j + 1) cap1)) w1.heap.size (.slice (some ⟨g1, 0, none⟩) (j + 1) cap1) (.slice none 0 0) (T ++ [u]) [] ∧ Ideal (wB.setCell ⟨w1.heap.size, 0, none⟩ (.slice (some ⟨g1, 0, none⟩) (j + 1) cap1)) F B Sk ∧ Below w.heap.size w (wB.setCell ⟨w1.heap.size, 0, none⟩ (.slice (some ⟨g1, 0, none⟩) (j + 1) cap1))) := by
          have hbg := (Below.refl w1.heap.size _).grown hgrow1 hszD fun k hk => hRne k hk
          refine ⟨h5, HA.out.2.1.keep fun k hk hf => ?_, (HA.out.2.2.trans (hbg.mono hb1)).setCell hb1 _⟩
          have := (HF.out k hf).2
          exact (Below.heap_setCell wB ⟨w1.heap.size, 0, none⟩ _ k (by show k ≠ w1.heap.size; omega)).trans (hbg.block k this)
        clear HA hownC hnew hone hown1 hgrow1 hat1 hRne c0 hszD h5
        go_wp2
        go_roundw
        case rel => exact ⟨j + 1, T ++ [u], some ⟨g1, 0, none⟩, cap1, by omega, by simp [HTJ.out], by go_num, by rw [← HSk.out]; exact HG.out.2.1, HG.out.1, HG.out.2.2⟩
        case measure => simp [intOf]; omega
      · have hcb : ((j : Int) == cut) = false := by simp; omega
        clear HR
        generalize R = u at *
        have hzD : w1.heap.size < wD.heap.size := h4.row.lt
        have h4' := h4.keep (w' := wD.alloc (.cells #[.string u] 9)) fun k _ hk => Below.heap_alloc wD _ k hk
        have hnew : (wD.alloc (.cells #[.string u] 9)).heap[wD.heap.size]? = some (.cells #[.string u] 9 (0, 0)) := heap_alloc_new wD _
        have hone : ∀ u' ∈ ([.string u] : List Value), u'.oneCell' = true := by intro u' hu; simp at hu; rw [hu]; rfl
        have hownC := h4'.raws
        have c0 : wD.cell? ⟨w1.heap.size, 0, none⟩ = some (.slice ob j cb) := h4.row.cell 0
        rw [HTJ.out] at hownC
        have hszD : w1.heap.size ≤ (wD.alloc (.cells #[.string u] 9)).heap.size := by simp; omega
        have HA : Hid (ImgMid w1.heap.size (wD.alloc (.cells #[.string u] 9)) w1.heap.size (.slice ob j cb) (.slice none 0 0) T [] ∧ Ideal (wD.alloc (.cells #[.string u] 9)) F B Sk ∧ Below w.heap.size w (wD.alloc (.cells #[.string u] 9))) := ⟨h4', HTD.out.2.below ((Below.refl _ _).alloc (Nat.le_refl _) _), HTD.out.1.alloc HTD.out.1.size _⟩
        clear h4 h4' HTD
        go_wp2_with (first | (at_builtin; (refine wpList_append_own_at _ rfl _ _ 26 rfl 0 9 i0 (.string ⟨#[]⟩) 1 16 Tryd.underlying26 hi0 hz0 hz1 hz2 rfl (by decide) (.slice ob j cb) j (T.map Value.string) rfl hownC ⟨wD.heap.size, 0, none⟩ 1 1 [.string u] rfl rfl (World.news_of_block hnew) hone (by unfold maxLen; omega) (by omega) (Nat.zero_le _) ?_)))
        intro v1 wB hown1 hgrow1 _ hat1
        obtain ⟨g1, cap1, rfl, _, _⟩ := owns_form hown1 (by omega)
        obtain ⟨e1, e2, h5⟩ := HA.out.1.growR hszD (by rw [HTJ.out]; exact hown1) hgrow1 (by first | exact hat1 | simpa using hat1)
        have hRne : ∀ k, (Value.slice ob j cb).ownBlock = some k → w1.heap.size ≤ k := HA.out.1.fR
        have HG : Hid (ImgMid w1.heap.size (wB.setCell ⟨w1.heap.size, 0, none⟩ (.slice (some ⟨g1, 0, none⟩) (j + 1) cap1)) w1.heap.size (.slice (some ⟨g1, 0, none⟩) (j + 1) cap1) (.slice none 0 0) (T ++ [u]) [] ∧ Ideal (wB.setCell ⟨w1.heap.size, 0, none⟩ (.slice (some ⟨g1, 0, none⟩) (j + 1) cap1)) F B Sk ∧ Below w.heap.size w (wB.setCell ⟨w1.heap.size, 0, none⟩ (.slice (some ⟨g1, 0, none⟩) (j + 1) cap1))) := by
          have hbg := (Below.refl w1.heap.size _).grown hgrow1 hszD fun k hk => hRne k hk
          refine ⟨h5, HA.out.2.1.keep fun k hk hf => ?_, (HA.out.2.2.trans (hbg.mono hb1)).setCell hb1 _⟩
          have := (HF.out k hf).2
          exact (Below.heap_setCell wB ⟨w1.heap.size, 0, none⟩ _ k (by show k ≠ w1.heap.size; omega)).trans (hbg.block k this)
        clear HA hownC hnew hone hown1 hgrow1 hat1 hRne c0 hszD h5
        go_wp2
        go_roundw
        case rel => exact ⟨j + 1, T ++ [u], some ⟨g1, 0, none⟩, cap1, by omega, by simp [HTJ.out], by go_num, by rw [← HSk.out]; exact HG.out.2.1, HG.out.1, HG.out.2.2⟩
        case measure => simp [intOf]; omega
    · obtain rfl : j = J := by omega
      obtain ⟨w5, hw5⟩ : ∃ w5, wr.setCell ⟨w1.heap.size, 1, none⟩ (.slice om ms.length cm) = w5 := ⟨_, rfl⟩
      have hb5 : Below w.heap.size w w5 := by rw [← hw5]; exact hT.setCell hb1 _
      have hr5 : Row w5 w1.heap.size 28 [.slice ob j cb, .slice om ms.length cm] := by rw [← hw5]; exact him.row.setL 1 _
      have hid5 : Ideal w5 F B (sealB l b j) := by rw [← hw5]; exact hid.keep fun k hk hf => Below.heap_setCell wr ⟨w1.heap.size, 1, none⟩ _ k (by have := (HF.out k hf).2; show k ≠ w1.heap.size; omega)
      have hv1 : List1 Value.string w5 (.slice ob T.length cb) T := by rw [← hw5, HTJ.out]; exact list1_of_owns (owns_off him.raws him.rM _ _)
      have hv2 : List1 (Value.int .i64) w5 (.slice om ms.length cm) ms := HM.out.below hb5
      have f1 : wr.frozen? ⟨w1.heap.size, 1, none⟩ = false := him.row.frozen 1
      have p0 : wr.cell? ⟨w1.heap.size, 0, none⟩ = some (.slice ob j cb) := him.row.cell 0
      have p1 : wr.cell? ⟨w1.heap.size, 1, none⟩ = some (.slice none 0 0) := him.row.cell 1
      have c0 : w5.cell? ⟨w1.heap.size, 0, none⟩ = some (.slice ob j cb) := hr5.cell 0
      have c1 : w5.cell? ⟨w1.heap.size, 1, none⟩ = some (.slice om ms.length cm) := hr5.cell 1
      have hlk := look_any B F (sealB l b j) (by omega) ob om cb cm T ms at_ w5 hid5 hv1 hv2
      rw [HTJ.out] at hlk
      have HX : Hid (w1.heap.size < w5.heap.size ∧ Below w.heap.size w w5) := ⟨hr5.lt, hb5⟩
      have HV : Hid (List1 Value.string w5 (.slice ob T.length cb) T ∧ List1 (Value.int .i64) w5 (.slice om ms.length cm) ms ∧ Ideal w5 F B (sealB l b j)) := ⟨hv1, hv2, hid5⟩
      have HW5 : Hid (wr.setCell ⟨w1.heap.size, 1, none⟩ (.slice om ms.length cm) = w5) := hw5
      have hqn := fun w => eql_none w
      clear hw5 hb5 hr5 hid5 hv1 hv2 him hid hT HOP HM hbd hi0 hz0 hz1 hz2
      rcases HCS.out with hcs | ⟨hcs, hcs2⟩
      all_goals
        rw [look_none (sealB l b j) T ms at_ (.inr (.inl (by rw [HTJ.out]; exact a2)))] at hlk
        simp only [noneA, readA, Hd.zero] at hlk
        have n0 : decide (at_ < 0) = false := decide_eq_false (by omega)
        clear HV
        go_wp2_with fail
        rw [HW5.out]
        refine hlk.mono ?_
        rintro e w6 ⟨rfl, hb6⟩
        have c06 : w6.cell? ⟨w1.heap.size, 0, none⟩ = some (.slice ob j cb) := (hb6.cell (p := ⟨w1.heap.size, 0, none⟩) HX.out.1).trans c0
        have hl6 : w1.heap.size < w6.heap.size := Nat.lt_of_lt_of_le HX.out.1 hb6.size
        have HB7 : Hid (Below w.heap.size w (w6.alloc (.cells #[.bool false, .int .i64 0, .int .i64 0, .int .i64 0, .int .i64 0, .int .i64 0, .int .i64 0, .int .i64 0, .int .i64 0, .string ⟨#[]⟩] 36))) := HX.out.2.trans ((hb6.alloc hb6.size _).mono HX.out.2.size)
        clear hb6 hlk HW5 HX c0 c1 p0 p1 f1
        go_wp2_with fail
        refine (bawake_any _).mono ?_
        rintro e w8 ⟨rfl, hb8⟩
        have HZ : Hid (Below w.heap.size w w8) := HB7.out.trans (hb8.mono HB7.out.size)
        clear hb8 HB7
        go_wp2
        go_ret
        exact ⟨rfl, HZ.out⟩
end Go.Proofs.YtkopbpbmfdogfaaDoor
