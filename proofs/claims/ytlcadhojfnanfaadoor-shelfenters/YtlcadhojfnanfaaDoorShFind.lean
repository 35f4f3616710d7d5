/- slices.IndexFunc at entries, by any predicate; Find and Spare: the program's. -/
import Derived.Test.YtlcadhojfnanfaaDoorShArgs
namespace Go.Proofs.YtlcadhojfnanfaaDoor
set_option maxRecDepth 20000
open Go.RowKit

/-- The first place at which a question is answered by yes; -1: there is none. -/
def fstI (p : En → Bool) (l : List En) : Int := match l.findIdx? p with | some i => (i : Int) | none => -1
theorem fstI_hit {p : En → Bool} {l : List En} {k : Nat} (hk : k < l.length) (h : p l[k] = true) (ha : ∀ j (hj : j < k), p (l[j]'(by omega)) = false) : fstI p l = k := by
  have : l.findIdx? p = some k := List.findIdx?_eq_some_iff_getElem.2 ⟨hk, h, fun j hj => by rw [ha j hj]; decide⟩
  unfold fstI
  rw [this]
theorem fstI_miss {p : En → Bool} {l : List En} (ha : ∀ j (hj : j < l.length), p l[j] = false) : fstI p l = -1 := by
  have : l.findIdx? p = none := List.findIdx?_eq_none_iff.2 fun x hx => by
    obtain ⟨j, hj, rfl⟩ := List.mem_iff_getElem.1 hx
    exact ha j hj
  unfold fstI
  rw [this]
theorem fstI_lt (p : En → Bool) (l : List En) : -1 ≤ fstI p l ∧ fstI p l < l.length := by
  unfold fstI
  split
  · next i h => have := (List.findIdx?_eq_some_iff_getElem.1 h).1; omega
  · omega
def PredE (g : Nat) (lb : Array Value) (p : En → Bool) (w : World) : Prop :=
  ∀ (W : World) (x : En), Below w.heap.size w W → Calls Tryd.prog g (#[.agg #[.string x.nm, .int .i64 x.ino, .int .i64 x.gen]] ++ lb) W fun e w' => e = .returned (.bool (p x)) ∧ Below w.heap.size w w'

set_option maxHeartbeats 1000000 in
theorem index_any (g : Nat) (lb : Array Value) (p : En → Bool) (eg : ∀ args w, (callFunc g args).run Tryd.prog w = .ok (.enter g args) w) (v : Value) (l : List En) (w : World) (hp : PredE g lb p w) (hv : Ens w v l) (hl : l.length ≤ 9223372036854775807) :
    Calls Tryd.prog 19 #[v, .func (.func g) #[] lb] w fun e w' => e = .returned (.int .i64 (fstI p l)) ∧ Below w.heap.size w w' := by
  obtain ⟨oa, ca, rfl⟩ := hv.form
  obtain ⟨X, hX⟩ : ∃ X, X = fstI p l := ⟨_, rfl⟩
  rw [← hX]
  have HX : Hid (X = fstI p l) := hX
  have HV : Hid (Ens w (.slice oa l.length ca) l) := hv
  have HP : Hid (PredE g lb p w) := hp
  clear hX hv hp
  go_enter Tryd.func19, Tryd.ntmps19
  go_wp2
  go_loopw [8] (fun iv wr => ∃ k : Nat, k ≤ l.length ∧ iv = .int .i64 (k : Int) ∧ Hid (∀ j (hj : j < l.length), j < k → p l[j] = false) ∧ Hid (Below w.heap.size w wr)) (fun iv _ => l.length - (intOf iv).toNat)
  case atStart => exact ⟨0, Nat.zero_le _, rfl, fun j _ hj => absurd hj (Nat.not_lt_zero _), Below.refl _ _⟩
  case round =>
    obtain ⟨k, hk, rfl, HA, HB⟩ := hrel
    by_cases hlt : k < l.length
    · have j1 : (k : Int) < l.length := by omega
      obtain ⟨gb, o, rfl, hg, hc⟩ := HV.out.at (i := k) hlt
      have hc := hc.below HB.out hg
      obtain ⟨c0, c1, c2⟩ := hc
      have hcall := HP.out wr l[k] HB.out
      have HK : Hid (p l[k] = p l[k]) := rfl
      cases hq : p l[k] with
      | true =>
        rw [hq] at hcall
        have HF : Hid (X = k) := by rw [HX.out]; exact fstI_hit hlt hq fun j hj => HA.out j (by omega) hj
        clear hq HK
        generalize l[k] = x at *
        go_wp2_with (go_at_fn g; refine hcall.mono ?_; rintro e w' ⟨rfl, hb'⟩)
        go_ret
        exact ⟨by rw [HF.out]; rfl, hb'⟩
      | false =>
        rw [hq] at hcall
        have HF : Hid (∀ j (hj : j < l.length), j < k + 1 → p l[j] = false) := fun j hj hjk => by
          by_cases e : j = k
          · subst e; exact hq
          · exact HA.out j hj (by omega)
        clear hq HK
        generalize l[k] = x at *
        go_wp2_with (go_at_fn g; refine hcall.mono ?_; rintro e w' ⟨rfl, hb'⟩)
        go_roundw
        case rel => exact ⟨k + 1, by omega, by go_num, HF, hb'⟩
        case measure => simp [intOf]; omega
    · have j1 : ¬ (k : Int) < l.length := by omega
      have HF : Hid (X = -1) := by rw [HX.out]; exact fstI_miss fun j hj => HA.out j hj (by omega)
      go_wp2
      go_ret
      exact ⟨by rw [HF.out]; rfl, HB.out⟩
end Go.Proofs.YtlcadhojfnanfaaDoor
