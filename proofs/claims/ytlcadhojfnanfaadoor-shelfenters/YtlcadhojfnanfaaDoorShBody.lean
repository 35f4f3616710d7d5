/- Body: the program's. -/
import Derived.Test.YtlcadhojfnanfaaDoorShMath
namespace Go.Proofs.YtlcadhojfnanfaaDoor
set_option maxRecDepth 20000
open Go.RowKit Go.Shelf

set_option maxHeartbeats 2000000 in
theorem body_any (v : Value) (l : List En) (w : World) (hv : Ens w v l) :
    Calls Tryd.prog 12 #[v] w fun e w' => e = .returned (.tuple #[.string (bodyS l), .int .i64 (bodyE l)]) ∧ Below w.heap.size w w' := by
  obtain ⟨oa, ca, rfl⟩ := hv.form
  by_cases h1 : l.length = 16
  · have HV : Hid (Ens w (.slice oa 16 ca) l ∧ l.length = 16) := ⟨by rw [← h1]; exact hv, h1⟩
    rw [h1]
    obtain ⟨X, hX⟩ : ∃ X, X = bodyE l := ⟨_, rfl⟩
    obtain ⟨Y, hY⟩ : ∃ Y, Y = bodyS l := ⟨_, rfl⟩
    rw [← hX, ← hY]
    have HX : Hid (X = bodyE l ∧ Y = bodyS l) := ⟨hX, hY⟩
    have HB0 : Hid (Bl w.heap.size w.heap.size [] (w.alloc (.cells #[.pointer none, .slice none 0 0] 48))) :=
      (show Lib.IsBuilder 48 5 w.heap.size w.heap.size (Lib.byteCells []) (w.alloc (.cells #[.pointer none, .slice none 0 0] 48)) from .inl ⟨Nat.le_refl _, _, heap_alloc_new w _, World.ownsRow_nil _ _ _ _, by simp [Value.ownBlock]⟩)
    clear hX hY hv h1
    go_enter Tryd.func12, Tryd.ntmps12
    go_wp2_with fail
    go_loopw [14] (fun iv wr => ∃ (k : Nat), k ≤ 16 ∧ iv = .int .i64 (k : Int) ∧ Hid ((∀ j (hj : j < l.length), j < k → entEx l[j] = 0) ∧ Bl w.heap.size w.heap.size (bodyF (l.take k)) wr ∧ (bodyF (l.take k)).length = 28 * k ∧ Below w.heap.size w wr)) (fun iv _ => 16 - (intOf iv).toNat)
    case atStart => exact ⟨0, Nat.zero_le _, rfl, fun j _ hj => absurd hj (Nat.not_lt_zero _), HB0.out, rfl, (Below.refl _ _).alloc (Nat.le_refl _) _⟩
    case round =>
      clear HB0
      obtain ⟨k, hk, rfl, HO⟩ := hrel
      by_cases hlt : k < 16
      · have j1 : (k : Int) < 16 := by omega
        have hkl : k < l.length := by rw [HV.out.2]; exact hlt
        obtain ⟨gb, o, rfl, hg, hc⟩ := (show Ens w (.slice oa l.length ca) l by rw [HV.out.2]; exact HV.out.1).at (i := k) hkl
        obtain ⟨c0, c1, c2⟩ := hc.below HO.out.2.2.2 hg
        have hgr := Nat.lt_of_lt_of_le hg HO.out.2.2.2.size
        have HT : Hid (bodyF (l.take (k + 1)) = bodyF (l.take k) ++ (entSx l[k]).data.toList) := bodyF_take hkl
        have hcall : ∀ w, Calls Tryd.prog 22 #[.agg #[.string l[k].nm, .int .i64 l[k].ino, .int .i64 l[k].gen]] w fun e w' => e = .returned (.tuple #[.string (entSx l[k]), .int .i64 (entEx l[k])]) ∧ Below w.heap.size w w' := entry_any l[k].nm l[k].ino l[k].gen
        clear hc
        by_cases he : entEx l[k] = 0
        · have HK : Hid (entEx l[k] = 0 ∧ (entSx l[k]).data.toList.length = 28) := ⟨he, entSx_len he⟩
          have HN : Hid (∀ j (hj : j < l.length), j < k + 1 → entEx l[j] = 0) := fun j hj hjk => by
            by_cases e : j = k
            · subst e; exact he
            · exact HO.out.1 j hj (by omega)
          rw [he] at hcall
          clear he
          generalize l[k] = x at *
          generalize entSx x = S at *
          have hS : S.size = 28 := by rw [Lib.size_eq]; exact HK.out.2
          go_wp2_with fail
          refine (hcall _).mono ?_
          rintro e w2 ⟨rfl, hb2⟩
          clear hcall
          have hbA : Below wr.heap.size wr w2 := ((Below.refl _ _).alloc (Nat.le_refl _) _).trans (hb2.mono (by simp))
          have hL2 : Below w.heap.size w w2 := HO.out.2.2.2.trans (hbA.mono HO.out.2.2.2.size)
          have hB2 := Bl_keep HO.out.2.1 hbA
          have hw := ptWrite_any w.heap.size w.heap.size _ S w2 hB2 (by rw [HO.out.2.2.1, hS]; omega) hL2.size
          have HL2 : Hid (Below w.heap.size w w2) := hL2
          clear hb2 hbA hL2 hB2 c0 c1 c2
          go_wp2_with fail
          refine hw.mono ?_
          rintro e w3 ⟨rfl, hB3, hb3⟩
          have HF : Hid (Bl w.heap.size w.heap.size (bodyF (l.take (k + 1))) w3 ∧ (bodyF (l.take (k + 1))).length = 28 * (k + 1) ∧ Below w.heap.size w w3) := by
            rw [HT.out, List.length_append, HO.out.2.2.1, HK.out.2]
            exact ⟨hB3, by omega, HL2.out.trans hb3⟩
          clear hw hB3 hb3
          go_wp2
          go_roundw
          case rel => exact ⟨k + 1, by omega, by go_num, HN.out, HF.out⟩
          case measure => simp [intOf]; omega
        · have HF : Hid (X = entEx l[k] ∧ Y = ByteArray.empty) := by
            have e := bodyE_bad HV.out.2 hkl he HO.out.1
            exact ⟨by rw [HX.out.1, e], by rw [HX.out.2, bodyS, if_neg (by rw [e]; exact he)]⟩
          clear HT
          generalize l[k] = x at *
          generalize entSx x = S at *
          generalize entEx x = q at *
          go_wp2_with fail
          refine (hcall _).mono ?_
          rintro e w2 ⟨rfl, hb2⟩
          clear hcall
          have HL2 : Hid (Below w.heap.size w w2) := (HO.out.2.2.2.alloc HO.out.2.2.2.size _).trans (hb2.mono (by have := HO.out.2.2.2.size; simp; omega))
          clear hb2
          go_wp2
          go_ret2
          exact ⟨by rw [HF.out.1, HF.out.2]; rfl, HL2.out⟩
      · obtain rfl : k = 16 := by omega
        have HF : Hid (X = 0 ∧ Y = ⟨(bodyF (l.take 16)).toArray⟩) := by
          have e := bodyE_good HV.out.2 (fun x hx => by obtain ⟨j, hj, rfl⟩ := List.mem_iff_getElem.1 hx; exact HO.out.1 j hj (by rw [← HV.out.2]; exact hj))
          refine ⟨by rw [HX.out.1, e], ?_⟩
          rw [HX.out.2, bodyS, if_pos e, List.take_of_length_le (by rw [HV.out.2]; exact Nat.le_refl _)]
        have hs := ctString_any w.heap.size w.heap.size _ wr HO.out.2.1 HO.out.2.2.2.size
        go_wp2_with fail
        refine hs.mono ?_
        rintro e w2 ⟨rfl, hb2⟩
        have HL2 : Hid (Below w.heap.size w w2) := HO.out.2.2.2.trans hb2
        clear hs hb2
        go_wp2
        go_ret2
        exact ⟨by rw [HF.out.1, HF.out.2]; rfl, HL2.out⟩
  · have h1' : ¬ (l.length : Int) = 16 := by omega
    have e : bodyE l = 1 := by rw [bodyE, if_neg h1]
    have e2 : bodyS l = ByteArray.empty := by rw [bodyS, if_neg (by rw [e]; decide)]
    rw [e, e2]
    clear e e2 h1 hv
    go_enter Tryd.func12, Tryd.ntmps12
    go_wp2
    go_ret2
    exact ⟨rfl, Below.refl _ _⟩
end Go.Proofs.YtlcadhojfnanfaaDoor
