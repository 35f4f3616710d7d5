/- Page: the program's. -/
import Derived.Test.YtlcadhojfnanfaaDoorShMath
namespace Go.Proofs.YtlcadhojfnanfaaDoor
set_option maxRecDepth 20000
open Go.RowKit

set_option maxHeartbeats 2000000 in
theorem page_any (s : ByteArray) (w : World) :
    Calls Tryd.prog 18 #[.string s] w fun e w' => ∃ v, e = .returned (.tuple #[v, .int .i64 (pageE s)]) ∧ EZ w' w.heap.size v (pageL s) ∧ Below w.heap.size w w' := by
  by_cases h1 : s.size = 448
  · have h1' : (s.size : Int) = 448 := by omega
    obtain ⟨i0, hi0, hz0, hz1, hz2⟩ := info_parts sh_info_en
    obtain ⟨XE, hXE⟩ : ∃ XE, XE = pageE s := ⟨_, rfl⟩
    obtain ⟨XL, hXL⟩ : ∃ XL, XL = pageL s := ⟨_, rfl⟩
    rw [← hXE, ← hXL]
    have HX : Hid (XE = pageE s ∧ XL = pageL s) := ⟨hXE, hXL⟩
    clear hXE hXL
    go_enter Tryd.func18, Tryd.ntmps18
    go_wp2_with (refine wpList_make_full _ rfl _ _ 22 rfl w.heap.size 28 i0 _ 3 Tryd.underlying22 hi0 hz0 hz1 .i64 .i64 16 16 16 rfl rfl rfl rfl (by rw [hz2]; decide) (by unfold maxLen; decide) (Nat.le_refl _) ?_)
    intro w1 hown hgr
    rw [made_en] at hown
    have hR1 := RowE.of hown
    have hb1 : Below w.heap.size w w1 := (Below.refl _ _).grown hgr (Nat.le_refl _) (fun k hk => by cases hk)
    clear hown hgr
    have HI : Hid (RowE w1 w.heap.size (List.replicate 16 zeroEn) ∧ Below w.heap.size w w1) := ⟨hR1, hb1⟩
    clear hR1 hb1 hi0 hz0 hz1 hz2
    go_wp2_with fail
    go_loopw [15] (fun iv wr => ∃ (k : Nat) (L : List En), k ≤ 16 ∧ iv = .int .i64 (k : Int) ∧ Hid (L.length = 16 ∧ L.take k = pageF s k ∧ (∀ j, j < k → entryOE (piece s j) = 0) ∧ RowE wr w.heap.size L ∧ Below w.heap.size w wr)) (fun iv _ => 16 - (intOf iv).toNat)
    case atStart => exact ⟨0, _, Nat.zero_le _, rfl, by rw [List.length_replicate], rfl, fun j hj => absurd hj (Nat.not_lt_zero _), HI.out⟩
    case round =>
      clear HI
      obtain ⟨k, L, hk, rfl, HO⟩ := hrel
      by_cases hlt : k < 16
      · have j1 : (k : Int) < 16 := by omega
        have hcall : ∀ w, Calls Tryd.prog 25 #[.string (s.extract (k * 28) (k * 28 + 28))] w fun e w' => e = .returned (.tuple #[.agg #[.string (enOf (piece s k)).nm, .int .i64 (enOf (piece s k)).ino, .int .i64 (enOf (piece s k)).gen], .int .i64 (entryOE (piece s k))]) ∧ Below w.heap.size w w' := entryOf_any (piece s k)
        by_cases he : entryOE (piece s k) = 0
        · have HK : Hid (entryOE (piece s k) = 0 ∧ L.set k (enOf (piece s k)) = L.set k (enOf (piece s k)) ∧ (L.set k (enOf (piece s k))).take (k + 1) = pageF s (k + 1)) := ⟨he, rfl, by
            rw [pageF_succ, ← HO.out.2.1, List.take_add_one, List.take_set_of_le (Nat.le_refl _), List.getElem?_set_self (by rw [HO.out.1]; exact hlt)]
            rfl⟩
          rw [he] at hcall
          clear he
          generalize enOf (piece s k) = x at *
          go_wp2_with fail
          refine (hcall _).mono ?_
          rintro e w2 ⟨rfl, hb2⟩
          clear hcall
          have hR2 : RowE w2 w.heap.size L := HO.out.2.2.2.1.below hb2
          have hL2 : Below w.heap.size w w2 := HO.out.2.2.2.2.trans (hb2.mono HO.out.2.2.2.2.size)
          have hl2 := hR2.lt
          obtain ⟨c0, c1, c2⟩ := hR2.at (i := k) (by rw [HO.out.1]; exact hlt)
          have f0 := hR2.frozen (k * 3)
          have f1 := hR2.frozen (k * 3 + 1)
          have f2 := hR2.frozen (k * 3 + 2)
          have HR2 : Hid (RowE w2 w.heap.size L ∧ Below w.heap.size w w2) := ⟨hR2, hL2⟩
          clear hR2 hL2 hb2
          go_wp2
          go_roundw
          case rel =>
            refine ⟨k + 1, L.set k x, by omega, by go_num, by rw [List.length_set]; exact HO.out.1, HK.out.2.2, fun j hj => ?_, ?_, ?_⟩
            · by_cases e : j = k
              · subst e; exact HK.out.1
              · exact HO.out.2.2.1 j (by omega)
            · exact (RowE.set HR2.out.1 (by rw [HO.out.1]; exact hlt) x).below ((Below.refl _ _).alloc (Nat.le_refl _) _)
            · exact (below_set3 HR2.out.2 (Nat.le_refl _) _ _ _ _ _ _).alloc (by simpa using HR2.out.2.size) _
          case measure => simp [intOf]; omega
        · have HF : Hid (XE = entryOE (piece s k) ∧ XL = []) := by
            rw [HX.out.1, HX.out.2]
            have e := pageE_bad h1 hlt he HO.out.2.2.1
            exact ⟨e, by rw [pageL, if_neg (by rw [e]; exact he)]⟩
          clear HX
          generalize enOf (piece s k) = x at *
          generalize entryOE (piece s k) = q at *
          go_wp2_with fail
          refine (hcall _).mono ?_
          rintro e w2 ⟨rfl, hb2⟩
          clear hcall
          have HR2 : Hid (Below w.heap.size w w2) := HO.out.2.2.2.2.trans (hb2.mono HO.out.2.2.2.2.size)
          clear hb2
          go_wp2
          go_ret2
          rw [HF.out.1, HF.out.2]
          exact ⟨_, rfl, EZ.nil _ _, HR2.out.alloc HR2.out.size _⟩
      · obtain rfl : k = 16 := by omega
        have HF : Hid (XE = 0 ∧ XL = L) := by
          rw [HX.out.1, HX.out.2]
          have e := pageE_good h1 HO.out.2.2.1
          refine ⟨e, ?_⟩
          rw [pageL, if_pos e, ← HO.out.2.1, ← HO.out.1, List.take_length]
        clear HX
        go_wp2
        go_ret2
        have := RowE.owns HO.out.2.2.2.1 (Nat.le_refl _) (by rw [HO.out.1]; unfold maxLen; decide)
        rw [HO.out.1] at this
        rw [HF.out.1, HF.out.2]
        exact ⟨_, rfl, this, HO.out.2.2.2.2⟩
  · have h1' : ¬ (s.size : Int) = 448 := by omega
    have e : pageE s = 1 := by rw [pageE, if_neg h1]
    have e2 : pageL s = [] := by rw [pageL, if_neg (by rw [e]; decide)]
    rw [e, e2]
    clear e e2 h1
    go_enter Tryd.func18, Tryd.ntmps18
    go_wp2
    go_ret2
    exact ⟨_, rfl, EZ.nil _ _, Below.refl _ _⟩
end Go.Proofs.YtlcadhojfnanfaaDoor
