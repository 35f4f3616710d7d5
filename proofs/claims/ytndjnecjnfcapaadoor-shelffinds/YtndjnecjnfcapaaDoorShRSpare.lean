/- Find and Spare: the document's. -/
import Derived.Test.YtndjnecjnfcapaaDoorShSpare
namespace Go.Proofs.YtndjnecjnfcapaaDoor
set_option maxRecDepth 20000
open Go.RowKit

set_option maxHeartbeats 1000000 in
theorem rspare_any (v : Value) (l : List En) (w : World) (hv : Ens w v l) (hl : l.length ≤ 1000000000) :
    Calls Tryd.prog 18 #[v] w fun e w' => e = .returned (.int .i64 (spareI l)) ∧ Below w.heap.size w w' := by
  obtain ⟨oa, ca, rfl⟩ := hv.form
  obtain ⟨X, hX⟩ : ∃ X, X = spareI l := ⟨_, rfl⟩
  rw [← hX]
  have HX : Hid (X = spareI l) := hX
  have HV : Hid (Ens w (.slice oa l.length ca) l) := hv
  clear hX hv
  go_enter Tryd.func18, Tryd.ntmps18
  go_wp2_with fail
  go_loopw [3] (fun iv wr => ∃ k : Nat, k ≤ l.length ∧ iv = .int .i64 (k : Int) ∧ Hid (∀ j (hj : j < l.length), j < k → frE l[j] = false) ∧ wr = w) (fun iv _ => l.length - (intOf iv).toNat)
  case atStart => exact ⟨0, Nat.zero_le _, rfl, fun j _ hj => absurd hj (Nat.not_lt_zero _), rfl⟩
  case round =>
    obtain ⟨k, hk, rfl, HA, rfl⟩ := hrel
    by_cases hlt : k < l.length
    · have j1 : (k : Int) < l.length := by omega
      obtain ⟨gb, o, rfl, hg, hc⟩ := HV.out.at (i := k) hlt
      obtain ⟨c0, c1, c2⟩ := hc
      cases hq : frE l[k] with
      | true =>
        have HF : Hid (X = k) := (show X = k from by rw [HX.out, spareI, fstI_hit hlt hq fun j hj => HA.out j (by omega) hj, if_neg (by omega)])
        have hq2 : l[k].nm.toList.isEmpty = true := hq
        clear hq
        generalize l[k] = x at *
        go_wp2
        go_ret
        exact ⟨by rw [HF.out]; rfl, Below.refl _ _⟩
      | false =>
        have HF : Hid (∀ j (hj : j < l.length), j < k + 1 → frE l[j] = false) := fun j hj hjk => by
          by_cases e : j = k
          · subst e; exact hq
          · exact HA.out j hj (by omega)
        have hq2 : l[k].nm.toList.isEmpty = false := hq
        clear hq
        generalize l[k] = x at *
        go_wp2
        go_roundw
        case rel => exact ⟨k + 1, by omega, by go_num, HF, trivial⟩
        case measure => simp [intOf]; omega
    · have j1 : ¬ (k : Int) < l.length := by omega
      have HF : Hid (X = l.length) := (show X = l.length from by rw [HX.out, spareI, fstI_miss fun j hj => HA.out j hj (by omega), if_pos (by omega)])
      go_wp2
      go_ret
      exact ⟨by rw [HF.out]; rfl, Below.refl _ _⟩
theorem hasN_empty {n : ByteArray} (h : n.toList.isEmpty = true) (x : En) : hasN n x = false := by
  have e : n.toList = [] := by simpa using h
  unfold hasN
  rw [e]
  cases x.nm.toList <;> rfl
theorem hasN_full {n : ByteArray} (h : n.toList.isEmpty = false) (x : En) : hasN n x = (x.nm.toList == n.toList) := by
  unfold hasN
  cases hq : (x.nm.toList == n.toList) with
  | false => simp
  | true =>
    have e : x.nm.toList = n.toList := by simpa using hq
    rw [e, h]
    rfl
set_option maxHeartbeats 1000000 in
theorem rfind_any (v : Value) (l : List En) (n : ByteArray) (w : World) (hv : Ens w v l) (hl : l.length ≤ 1000000000) :
    Calls Tryd.prog 16 #[v, .string n] w fun e w' => e = .returned (.int .i64 (fstI (hasN n) l)) ∧ Below w.heap.size w w' := by
  obtain ⟨oa, ca, rfl⟩ := hv.form
  obtain ⟨X, hX⟩ : ∃ X, X = fstI (hasN n) l := ⟨_, rfl⟩
  rw [← hX]
  have HX : Hid (X = fstI (hasN n) l) := hX
  have HV : Hid (Ens w (.slice oa l.length ca) l) := hv
  clear hX hv
  go_enter Tryd.func16, Tryd.ntmps16
  go_wp2_with fail
  go_loopw [5] (fun iv wr => ∃ k : Nat, k ≤ l.length ∧ iv = .int .i64 (k : Int) ∧ Hid (∀ j (hj : j < l.length), j < k → hasN n l[j] = false) ∧ Hid (Below w.heap.size w wr)) (fun iv _ => l.length - (intOf iv).toNat)
  case atStart => exact ⟨0, Nat.zero_le _, rfl, fun j _ hj => absurd hj (Nat.not_lt_zero _), Below.refl _ _⟩
  case round =>
    obtain ⟨k, hk, rfl, HA, HB⟩ := hrel
    by_cases hlt : k < l.length
    · have j1 : (k : Int) < l.length := by omega
      obtain ⟨gb, o, rfl, hg, hc⟩ := HV.out.at (i := k) hlt
      obtain ⟨c0, c1, c2⟩ := hc.below HB.out hg
      clear hc
      cases hn : n.toList.isEmpty with
      | true =>
        have HF : Hid (∀ j (hj : j < l.length), j < k + 1 → hasN n l[j] = false) := fun j hj _ => hasN_empty hn _
        generalize l[k] = x at *
        go_wp2
        go_roundw
        case rel => exact ⟨k + 1, by omega, by go_num, HF, HB⟩
        case measure => simp [intOf]; omega
      | false =>
        have he := hasN_full hn l[k]
        cases hq : (l[k].nm.toList == n.toList) with
        | true =>
          rw [hq] at he
          have HF : Hid (X = k) := (show X = k from by rw [HX.out]; exact fstI_hit hlt he fun j hj => HA.out j (by omega) hj)
          clear he
          generalize l[k] = x at *
          go_wp2
          go_ret
          exact ⟨by rw [HF.out]; rfl, HB.out⟩
        | false =>
          rw [hq] at he
          have HF : Hid (∀ j (hj : j < l.length), j < k + 1 → hasN n l[j] = false) := fun j hj hjk => by
            by_cases e : j = k
            · subst e; exact he
            · exact HA.out j hj (by omega)
          clear he
          generalize l[k] = x at *
          go_wp2
          go_roundw
          case rel => exact ⟨k + 1, by omega, by go_num, HF, HB⟩
          case measure => simp [intOf]; omega
    · have j1 : ¬ (k : Int) < l.length := by omega
      have HF : Hid (X = -1) := (show X = -1 from by rw [HX.out]; exact fstI_miss fun j hj => HA.out j hj (by omega))
      go_wp2
      go_ret
      exact ⟨by rw [HF.out]; rfl, HB.out⟩
end Go.Proofs.YtndjnecjnfcapaaDoor
