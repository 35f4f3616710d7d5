/- Join: the document's. -/
import Derived.Test.YtjpgmbebdkiofaaDoorPtJoin
namespace Go.Proofs.YtjpgmbebdkiofaaDoor
set_option maxRecDepth 20000
open Go.RowKit

theorem mkB_append (a : List UInt8) (x : ByteArray) : mkB a ++ (⟨#[47]⟩ : ByteArray) ++ x = mkB (a ++ 47 :: x.data.toList) := by
  apply ByteArray.ext
  apply Array.toList_inj.1
  simp [mkB, ByteArray.data_append]
set_option maxHeartbeats 2000000 in
theorem rjoin_any (v : Value) (l : List ByteArray) (w : World) (hv : LS w v l) (hl : l.length ≤ 1000000000) :
    Calls Tryd.prog 16 #[v] w fun e w' => e = .returned (.tuple #[.string (mkB (jn (lsts l)).1), .int .i64 (jn (lsts l)).2]) ∧ Below w.heap.size w w' := by
  obtain ⟨oa, ca, rfl⟩ := hv.form
  by_cases h0 : l = []
  · subst h0
    clear hv hl
    go_enter Tryd.func16, Tryd.ntmps16
    go_wp2
    go_ret2
    exact ⟨rfl, Below.refl _ _⟩
  · have hlp : ((l.length : Int) == 0) = false := by have := List.length_pos_iff.2 h0; rw [beq_eq_false_iff_ne]; omega
    have hj0 : jn (lsts l) = jnGo [] ((lsts l).drop 0) := by
      rw [List.drop_zero, jn, if_neg]
      unfold lsts
      simpa using h0
    obtain ⟨X1, X2, hX⟩ : ∃ X1 X2, jn (lsts l) = (X1, X2) := ⟨_, _, rfl⟩
    rw [hX] at hj0 ⊢
    have HJ0 : Hid ((X1, X2) = jnGo [] ((lsts l).drop 0)) := hj0
    have HV : Hid (LS w (.slice oa l.length ca) l) := hv
    clear hX hj0 hv h0
    go_enter Tryd.func16, Tryd.ntmps16
    go_wp2_with fail
    go_loopw [4, 5] (fun sv iv wr => ∃ (j : Nat) (a : List UInt8) (sa : ByteArray), j ≤ l.length ∧ iv = .int .i64 (j : Int) ∧ sv = .string sa ∧ sa = mkB a ∧ sa.size = a.length ∧ a.length ≤ 255 ∧ (X1, X2) = jnGo a ((lsts l).drop j) ∧ Below w.heap.size w wr) (fun _ iv _ => l.length - (intOf iv).toNat)
    case atStart => exact ⟨0, [], ⟨#[]⟩, Nat.zero_le _, rfl, rfl, rfl, rfl, by simp, HJ0.out, Below.refl _ _⟩
    case round =>
      clear HJ0
      obtain ⟨j, a, sa, hj, rfl, rfl, hsa, hsz, ha, hJ, hb⟩ := hrel
      have HO : Hid ((X1, X2) = jnGo a ((lsts l).drop j) ∧ Below w.heap.size w wr ∧ sa = mkB a ∧ sa.size = a.length) := ⟨hJ, hb, hsa, hsz⟩
      clear hsa
      by_cases hlt : j < l.length
      · have j1 : (j : Int) < l.length := by omega
        obtain ⟨g, o, rfl, hg, hc0⟩ := HV.out.at (i := j) hlt
        have hc := (cell_kept_1 (hb.block g hg) _).trans hc0
        have hd := lsts_drop hlt
        rw [hd] at hJ
        have hn := rname_any l[j]
        generalize l[j] = x at *
        have HJ : Hid ((X1, X2) = jnGo a (x.data.toList :: (lsts l).drop (j + 1))) := hJ
        clear hJ hb hc0 hd
        by_cases hp : nmL x.data.toList = 0
        · have hxs := name_size hp
          rw [hp] at hn
          have hlen2 : (a ++ 47 :: x.data.toList).length = sa.size + 1 + x.size := by rw [List.length_append, List.length_cons, Lib.size_eq x, hsz]; omega
          have HS : Hid (sa ++ (⟨#[47]⟩ : ByteArray) ++ x = mkB (a ++ 47 :: x.data.toList) ∧ (sa ++ (⟨#[47]⟩ : ByteArray) ++ x).size = (a ++ 47 :: x.data.toList).length) := by
            have e := HO.out.2.2.1
            subst e
            rw [mkB_append]
            exact ⟨rfl, by rw [Lib.size_eq, list_mkB]⟩
          have hz : (sa ++ (⟨#[47]⟩ : ByteArray) ++ x).size = sa.size + 1 + x.size := by rw [HS.out.2, hlen2]
          have HP : Hid (nmL x.data.toList = 0 ∧ (a ++ 47 :: x.data.toList).length = sa.size + 1 + x.size) := ⟨hp, hlen2⟩
          have hsl : sa.size ≤ 255 := by omega
          clear hp hlen2 hsz
          by_cases hbig : 255 < sa.size + 1 + x.size
          · have hbig' : (255 : Int) < ((sa ++ (⟨#[47]⟩ : ByteArray) ++ x).size : Nat) := by omega
            have HF : Hid (X1 = [] ∧ X2 = 4) := by
              have := HJ.out
              rw [jnGo_long _ _ _ HP.out.1 (by rw [HP.out.2]; exact hbig)] at this
              exact Prod.mk.inj this
            clear HJ HP hz
            go_wp2_with fail
            refine (hn _).mono ?_
            rintro e w1 ⟨rfl, rfl⟩
            clear hn
            go_wp2
            go_ret2
            exact ⟨by rw [HF.out.1, HF.out.2]; rfl, HO.out.2.1⟩
          · have hbig' : ¬ (255 : Int) < ((sa ++ (⟨#[47]⟩ : ByteArray) ++ x).size : Nat) := by omega
            have HF : Hid ((X1, X2) = jnGo (a ++ 47 :: x.data.toList) ((lsts l).drop (j + 1)) ∧ (a ++ 47 :: x.data.toList).length ≤ 255) := by
              have := HJ.out
              rw [jnGo_more _ _ _ HP.out.1 (by rw [HP.out.2]; exact hbig)] at this
              exact ⟨this, by rw [HP.out.2]; omega⟩
            clear HJ HP hz
            go_wp2_with fail
            refine (hn _).mono ?_
            rintro e w1 ⟨rfl, rfl⟩
            clear hn
            go_wp2
            go_roundw
            case rel => exact ⟨j + 1, _, _, by omega, by go_num, rfl, HS.out.1, HS.out.2, HF.out.2, HF.out.1, HO.out.2.1⟩
            case measure => simp [intOf]; omega
        · have HF : Hid (X1 = [] ∧ X2 = nmL x.data.toList) := by
            have := HJ.out
            rw [jnGo_bad _ _ _ hp] at this
            exact Prod.mk.inj this
          clear HJ
          generalize nmL x.data.toList = q at *
          go_wp2_with fail
          refine (hn _).mono ?_
          rintro e w1 ⟨rfl, rfl⟩
          clear hn
          go_wp2
          go_ret2
          exact ⟨by rw [HF.out.1, HF.out.2]; rfl, HO.out.2.1⟩
      · have j1 : ¬ (j : Int) < l.length := by omega
        have HF : Hid (X1 = a ∧ X2 = 0) := by
          have := hJ
          rw [lsts_end hlt, jnGo] at this
          exact Prod.mk.inj this
        clear hJ hb
        go_wp2
        go_ret2
        exact ⟨by rw [HF.out.1, HF.out.2, ← HO.out.2.2.1]; rfl, HO.out.2.1⟩
end Go.Proofs.YtjpgmbebdkiofaaDoor
