/- Page: the document's. -/
import Derived.Test.YtndjnecjnfcapaaDoorShMath
import Derived.Test.YtndjnecjnfcapaaDoorRefEntryOf
namespace Go.Proofs.YtndjnecjnfcapaaDoor
set_option maxRecDepth 20000
open Go.RowKit

set_option maxHeartbeats 2000000 in
theorem rpage_any (s : ByteArray) (w : World) :
    Calls Tryd.prog 10 #[.string s] w fun e w' => ∃ v, e = .returned (.tuple #[v, .int .i64 (pageE s)]) ∧ EZ w' w.heap.size v (pageL s) ∧ Below w.heap.size w w' := by
  by_cases h1 : s.size = 448
  · have h1' : (s.size : Int) = 448 := by omega
    obtain ⟨i0, hi0, hz0, hz1, hz2⟩ := info_parts sh_info_en
    obtain ⟨XE, hXE⟩ : ∃ XE, XE = pageE s := ⟨_, rfl⟩
    obtain ⟨XL, hXL⟩ : ∃ XL, XL = pageL s := ⟨_, rfl⟩
    rw [← hXE, ← hXL]
    have HX : Hid (XE = pageE s ∧ XL = pageL s) := ⟨hXE, hXL⟩
    clear hXE hXL
    go_enter Tryd.func10, Tryd.ntmps10
    go_wp2_with fail
    go_loopw [4, 5] (fun ov iv wr => ∃ (k : Nat), k ≤ 16 ∧ iv = .int .i64 (k : Int) ∧ EZ wr w.heap.size ov (pageF s k) ∧ Hid ((∀ j, j < k → entryOE (piece s j) = 0) ∧ Below w.heap.size w wr)) (fun _ iv _ => 16 - (intOf iv).toNat)
    case atStart => exact ⟨0, Nat.zero_le _, rfl, EZ.nil _ _, fun j hj => absurd hj (Nat.not_lt_zero _), Below.refl _ _⟩
    case round =>
      obtain ⟨k, hk, rfl, hown, HO⟩ := hrel
      obtain ⟨oa, cap, rfl⟩ := hown.form
      rw [pageF_len] at *
      by_cases hlt : k < 16
      · have j1 : (k : Int) < 16 := by omega
        have hcall : ∀ w, Calls Tryd.prog 24 #[.string (s.extract (28 * k) (28 * k + 28))] w fun e w' => e = .returned (.tuple #[.agg #[.string (enOf (piece s k)).nm, .int .i64 (enOf (piece s k)).ino, .int .i64 (enOf (piece s k)).gen], .int .i64 (entryOE (piece s k))]) ∧ Below w.heap.size w w' := by
          rw [Nat.mul_comm 28 k]
          exact rentryOf_any (piece s k)
        by_cases he : entryOE (piece s k) = 0
        · have HK : Hid (entryOE (piece s k) = 0 ∧ pageF s (k + 1) = pageF s k ++ [enOf (piece s k)]) := ⟨he, pageF_succ s k⟩
          rw [he] at hcall
          clear he
          generalize enOf (piece s k) = x at *
          go_wp2_with fail
          refine (hcall _).mono ?_
          rintro e w2 ⟨rfl, hb2⟩
          clear hcall
          have hL2 : Below w.heap.size w w2 := HO.out.2.trans (hb2.mono HO.out.2.size)
          have hown2 := hown.below hb2
          unfold EZ at hown2
          rw [pageF_len] at hown2
          have hownC := World.ownsRow.alloc (World.ownsRow.alloc hown2 (.cells #[.string x.nm, .int .i64 x.ino, .int .i64 x.gen] 39)) (.cells #[.string x.nm, .int .i64 x.ino, .int .i64 x.gen] 39)
          have hnew : ((w2.alloc (.cells #[.string x.nm, .int .i64 x.ino, .int .i64 x.gen] 39)).alloc (.cells #[.string x.nm, .int .i64 x.ino, .int .i64 x.gen] 39)).heap[w2.heap.size + 1]? = some (.cells #[.string x.nm, .int .i64 x.ino, .int .i64 x.gen] 39 (0, 0)) := by
            have := heap_alloc_new (w2.alloc (.cells #[.string x.nm, .int .i64 x.ino, .int .i64 x.gen] 39)) (.cells #[.string x.nm, .int .i64 x.ino, .int .i64 x.gen] 39)
            simpa using this
          have hone : ∀ u ∈ ([.string x.nm, .int .i64 x.ino, .int .i64 x.gen] : List Value), u.oneCell' = true := by intro u hu; simp at hu; rcases hu with rfl | rfl | rfl <;> rfl
          have HL2 : Hid (Below w.heap.size w w2 ∧ w2.ownsRow w.heap.size 39 3 (.slice oa k cap) k ((pageF s k).flatMap En.cells)) := ⟨hL2, hown2⟩
          have hbs := hL2.size
          clear hL2 hown hown2 hb2
          go_wp2_with (first | (at_builtin; (refine wpList_append_own _ rfl _ _ 22 rfl w.heap.size 39 i0 _ 3 32 Tryd.underlying22 hi0 hz0 hz1 hz2 rfl (by decide) (.slice oa k cap) k ((pageF s k).flatMap En.cells) rfl hownC ⟨w2.heap.size + 1, 0, none⟩ 1 1 [.string x.nm, .int .i64 x.ino, .int .i64 x.gen] rfl rfl (World.news_of_block hnew) hone (by unfold maxLen; omega) (by omega) (by simp; omega) ?_)))
          intro v1 wB hown1 hgrow1 _
          have hTB : Below w.heap.size w wB := ((HL2.out.1.alloc hbs _).alloc (by simp; omega) _).grown hgrow1 (by simp; omega) fun k hk => (HL2.out.2.lt k hk).1
          have HF : Hid (EZ wB w.heap.size v1 (pageF s (k + 1)) ∧ Below w.heap.size w wB) := by
            unfold EZ
            rw [HK.out.2, List.length_append, List.length_singleton, pageF_len, List.flatMap_append, List.flatMap_singleton]
            exact ⟨hown1, hTB⟩
          clear hownC hnew hown1 hgrow1 hTB hone
          go_wp2
          go_roundw
          case rel =>
            refine ⟨k + 1, by omega, by go_num, HF.out.1, fun j hj => ?_, HF.out.2⟩
            by_cases e : j = k
            · subst e; exact HK.out.1
            · exact HO.out.1 j (by omega)
          case measure => simp [intOf]; omega
        · have HF : Hid (XE = entryOE (piece s k) ∧ XL = []) := by
            rw [HX.out.1, HX.out.2]
            have e := pageE_bad h1 hlt he HO.out.1
            exact ⟨e, by rw [pageL, if_neg (by rw [e]; exact he)]⟩
          clear HX hown
          generalize enOf (piece s k) = x at *
          generalize entryOE (piece s k) = q at *
          go_wp2_with fail
          refine (hcall _).mono ?_
          rintro e w2 ⟨rfl, hb2⟩
          clear hcall
          have HR2 : Hid (Below w.heap.size w w2) := HO.out.2.trans (hb2.mono HO.out.2.size)
          clear hb2
          go_wp2
          go_ret2
          rw [HF.out.1, HF.out.2]
          exact ⟨_, rfl, EZ.nil _ _, HR2.out.alloc HR2.out.size _⟩
      · obtain rfl : k = 16 := by omega
        have HF : Hid (XE = 0 ∧ XL = pageF s 16) := by
          rw [HX.out.1, HX.out.2]
          have e := pageE_good h1 HO.out.1
          exact ⟨e, by rw [pageL, if_pos e]⟩
        have HW : Hid (EZ wr w.heap.size (.slice oa 16 cap) (pageF s 16)) := hown
        clear hown HX
        go_wp2
        go_ret2
        rw [HF.out.1, HF.out.2]
        exact ⟨_, rfl, HW.out, HO.out.2⟩
  · have h1' : ¬ (s.size : Int) = 448 := by omega
    have e : pageE s = 1 := by rw [pageE, if_neg h1]
    have e2 : pageL s = [] := by rw [pageL, if_neg (by rw [e]; decide)]
    rw [e, e2]
    clear e e2 h1
    go_enter Tryd.func10, Tryd.ntmps10
    go_wp2
    go_ret2
    exact ⟨_, rfl, EZ.nil _ _, Below.refl _ _⟩
end Go.Proofs.YtndjnecjnfcapaaDoor
