/- Find and Spare: the document's. -/
import Derived.Test.YtlcadhojfnanfaaDoorShSpare
namespace Go.Proofs.YtlcadhojfnanfaaDoor
set_option maxRecDepth 20000
open Go.RowKit

theorem hasN_empty {n : ByteArray} (h : n.toList.isEmpty = true) (x : En) : hasN n x = false := by
  have e : n.toList = [] := by simpa using h
  unfold hasN
  rw [e]
  cases x.nm.toList <;> rfl
theorem hasN_full {n : ByteArray} (h : n.toList.isEmpty = false) (x : En) : hasN n x = (x.nm.toList == n.toList) := by
  unfold hasN
  cases hq : (x.nm.toList == n.toList) with
  | false => simp
  | true =>
    have e : x.nm.toList = n.toList := by simpa using hq
    rw [e, h]
    rfl
set_option maxHeartbeats 1000000 in
theorem rfind_any (v : Value) (l : List En) (n : ByteArray) (w : World) (hv : Ens w v l) (hl : l.length ≤ 1000000000) :
    Calls Tryd.prog 17 #[v, .string n] w fun e w' => e = .returned (.int .i64 (fstI (hasN n) l)) ∧ Below w.heap.size w w' := by
  obtain ⟨oa, ca, rfl⟩ := hv.form
  obtain ⟨X, hX⟩ : ∃ X, X = fstI (hasN n) l := ⟨_, rfl⟩
  rw [← hX]
  have HX : Hid (X = fstI (hasN n) l) := hX
  have HV : Hid (Ens w (.slice oa l.length ca) l) := hv
  clear hX hv
  go_enter Tryd.func17, Tryd.ntmps17
  go_wp2_with fail
  go_loopw [5] (fun iv wr => ∃ k : Nat, k ≤ l.length ∧ iv = .int .i64 (k : Int) ∧ Hid (∀ j (hj : j < l.length), j < k → hasN n l[j] = false) ∧ Hid (Below w.heap.size w wr)) (fun iv _ => l.length - (intOf iv).toNat)
  case atStart => exact ⟨0, Nat.zero_le _, rfl, fun j _ hj => absurd hj (Nat.not_lt_zero _), Below.refl _ _⟩
  case round =>
    obtain ⟨k, hk, rfl, HA, HB⟩ := hrel
    by_cases hlt : k < l.length
    · have j1 : (k : Int) < l.length := by omega
      obtain ⟨gb, o, rfl, hg, hc⟩ := HV.out.at (i := k) hlt
      obtain ⟨c0, c1, c2⟩ := hc.below HB.out hg
      clear hc
      cases hn : n.toList.isEmpty with
      | true =>
        have HF : Hid (∀ j (hj : j < l.length), j < k + 1 → hasN n l[j] = false) := fun j hj _ => hasN_empty hn _
        generalize l[k] = x at *
        go_wp2
        go_roundw
        case rel => exact ⟨k + 1, by omega, by go_num, HF, HB⟩
        case measure => simp [intOf]; omega
      | false =>
        have he := hasN_full hn l[k]
        cases hq : (l[k].nm.toList == n.toList) with
        | true =>
          rw [hq] at he
          have HF : Hid (X = k) := (show X = k from by rw [HX.out]; exact fstI_hit hlt he fun j hj => HA.out j (by omega) hj)
          clear he
          generalize l[k] = x at *
          go_wp2
          go_ret
          exact ⟨by rw [HF.out]; rfl, HB.out⟩
        | false =>
          rw [hq] at he
          have HF : Hid (∀ j (hj : j < l.length), j < k + 1 → hasN n l[j] = false) := fun j hj hjk => by
            by_cases e : j = k
            · subst e; exact he
            · exact HA.out j hj (by omega)
          clear he
          generalize l[k] = x at *
          go_wp2
          go_roundw
          case rel => exact ⟨k + 1, by omega, by go_num, HF, HB⟩
          case measure => simp [intOf]; omega
    · have j1 : ¬ (k : Int) < l.length := by omega
      have HF : Hid (X = -1) := (show X = -1 from by rw [HX.out]; exact fstI_miss fun j hj => HA.out j hj (by omega))
      go_wp2
      go_ret
      exact ⟨by rw [HF.out]; rfl, HB.out⟩
end Go.Proofs.YtlcadhojfnanfaaDoor
