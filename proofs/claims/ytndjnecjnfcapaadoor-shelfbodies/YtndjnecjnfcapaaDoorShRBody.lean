/- Body: the document's. -/
import Derived.Test.YtndjnecjnfcapaaDoorShMath
import Derived.Test.YtndjnecjnfcapaaDoorRefEntry
namespace Go.Proofs.YtndjnecjnfcapaaDoor
set_option maxRecDepth 20000
open Go.RowKit

theorem ent_small {x : En} (h : x.Ok) : ∀ p ∈ entPs x.ino x.gen, p.1 ≤ 9223372036854775807 := by
  have h1 := wf_int h.ino
  have h2 := wf_int h.gen
  intro p hp
  simp [entPs] at hp
  rcases hp with rfl | rfl
  · show x.ino ≤ _; omega
  · show x.gen ≤ _; omega
set_option maxHeartbeats 2000000 in
theorem rbody_any (v : Value) (l : List En) (w : World) (hv : Ens w v l) (hok : ∀ x ∈ l, x.Ok) :
    Calls Tryd.prog 14 #[v] w fun e w' => e = .returned (.tuple #[.string (bodyS l), .int .i64 (bodyE l)]) ∧ Below w.heap.size w w' := by
  obtain ⟨oa, ca, rfl⟩ := hv.form
  by_cases h1 : l.length = 16
  · have HV : Hid (Ens w (.slice oa l.length ca) l ∧ l.length = 16 ∧ ∀ x ∈ l, x.Ok) := ⟨hv, h1, hok⟩
    rw [h1]
    obtain ⟨X, hX⟩ : ∃ X, X = bodyE l := ⟨_, rfl⟩
    obtain ⟨Y, hY⟩ : ∃ Y, Y = bodyS l := ⟨_, rfl⟩
    rw [← hX, ← hY]
    have HX : Hid (X = bodyE l ∧ Y = bodyS l) := ⟨hX, hY⟩
    clear hX hY hv h1 hok
    go_enter Tryd.func14, Tryd.ntmps14
    go_wp2_with fail
    go_loopw [4, 5] (fun ov iv wr => ∃ (k : Nat), k ≤ 16 ∧ iv = .int .i64 (k : Int) ∧ (∃ A : ByteArray, ov = .string A ∧ A.size = 28 * k ∧ Hid (A.data.toList = bodyF (l.take k))) ∧ Hid ((∀ j (hj : j < l.length), j < k → entEx l[j] = 0) ∧ Below w.heap.size w wr)) (fun _ iv _ => 16 - (intOf iv).toNat)
    case atStart => exact ⟨0, Nat.zero_le _, rfl, ⟨ByteArray.empty, rfl, rfl, rfl⟩, fun j _ hj => absurd hj (Nat.not_lt_zero _), Below.refl _ _⟩
    case round =>
      obtain ⟨k, hk, rfl, ⟨A, rfl, hA, HA⟩, HO⟩ := hrel
      by_cases hlt : k < 16
      · have j1 : (k : Int) < 16 := by omega
        have hkl : k < l.length := by rw [HV.out.2.1]; exact hlt
        obtain ⟨gb, o, rfl, hg, hc⟩ := HV.out.1.at (i := k) hkl
        obtain ⟨c0, c1, c2⟩ := hc.below HO.out.2 hg
        clear hc
        have hcall : ∀ w, Calls Tryd.prog 28 #[.agg #[.string l[k].nm, .int .i64 l[k].ino, .int .i64 l[k].gen]] w fun e w' => e = .returned (.tuple #[.string (entSx l[k]), .int .i64 (entEx l[k])]) ∧ Below w.heap.size w w' := rentry_any l[k].nm l[k].ino l[k].gen (ent_small (HV.out.2.2 _ (List.getElem_mem hkl)))
        have HT : Hid (bodyF (l.take (k + 1)) = bodyF (l.take k) ++ (entSx l[k]).data.toList) := bodyF_take hkl
        by_cases he : entEx l[k] = 0
        · have HK : Hid (entEx l[k] = 0 ∧ (entSx l[k]).data.toList.length = 28) := ⟨he, entSx_len he⟩
          have HN : Hid (∀ j (hj : j < l.length), j < k + 1 → entEx l[j] = 0) := fun j hj hjk => by
            by_cases e : j = k
            · subst e; exact he
            · exact HO.out.1 j hj (by omega)
          rw [he] at hcall
          clear he
          generalize l[k] = x at *
          generalize entSx x = S at *
          have hS : S.size = 28 := by rw [Lib.size_eq]; exact HK.out.2
          have HAS : Hid ((A ++ S).data.toList = bodyF (l.take (k + 1)) ∧ (A ++ S).size = 28 * (k + 1)) := ⟨by rw [HT.out, ← HA.out]; simp, by rw [ByteArray.size_append, hA, hS]; omega⟩
          go_wp2_with fail
          refine (hcall _).mono ?_
          rintro e w2 ⟨rfl, hb2⟩
          clear hcall
          have HL2 : Hid (Below w.heap.size w w2) := HO.out.2.trans (hb2.mono HO.out.2.size)
          clear hb2 c0 c1 c2
          go_wp2
          go_roundw
          case rel => exact ⟨k + 1, by omega, by go_num, ⟨_, rfl, HAS.out.2, HAS.out.1⟩, HN.out, HL2.out⟩
          case measure => simp [intOf]; omega
        · have HF : Hid (X = entEx l[k] ∧ Y = ByteArray.empty) := by
            have e := bodyE_bad HV.out.2.1 hkl he HO.out.1
            exact ⟨by rw [HX.out.1, e], by rw [HX.out.2, bodyS, if_neg (by rw [e]; exact he)]⟩
          clear HT
          generalize l[k] = x at *
          generalize entSx x = S at *
          generalize entEx x = q at *
          go_wp2_with fail
          refine (hcall _).mono ?_
          rintro e w2 ⟨rfl, hb2⟩
          clear hcall
          have HL2 : Hid (Below w.heap.size w w2) := HO.out.2.trans (hb2.mono HO.out.2.size)
          clear hb2
          go_wp2
          go_ret2
          exact ⟨by rw [HF.out.1, HF.out.2]; rfl, HL2.out⟩
      · obtain rfl : k = 16 := by omega
        have HF : Hid (X = 0 ∧ Y = A) := by
          have e := bodyE_good HV.out.2.1 (fun x hx => by obtain ⟨j, hj, rfl⟩ := List.mem_iff_getElem.1 hx; exact HO.out.1 j hj (by rw [← HV.out.2.1]; exact hj))
          refine ⟨by rw [HX.out.1, e], ?_⟩
          have ha := HA.out
          rw [List.take_of_length_le (by rw [HV.out.2.1]; exact Nat.le_refl _)] at ha
          rw [HX.out.2, bodyS, if_pos e, ← ha]
        go_wp2
        go_ret2
        exact ⟨by rw [HF.out.1, HF.out.2]; rfl, HO.out.2⟩
  · have h1' : ¬ (l.length : Int) = 16 := by omega
    have e : bodyE l = 1 := by rw [bodyE, if_neg h1]
    have e2 : bodyS l = ByteArray.empty := by rw [bodyS, if_neg (by rw [e]; decide)]
    rw [e, e2]
    clear e e2 h1 hv hok
    go_enter Tryd.func14, Tryd.ntmps14
    go_wp2
    go_ret2
    exact ⟨rfl, Below.refl _ _⟩
end Go.Proofs.YtndjnecjnfcapaaDoor
