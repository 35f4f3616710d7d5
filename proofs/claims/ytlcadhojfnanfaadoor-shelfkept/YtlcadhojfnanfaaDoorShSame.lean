/- The laws' 'same' on two lists of entries. -/
import Derived.Test.YtlcadhojfnanfaaDoorShArgs
import Derived.Lib.SlicesS
namespace Go.Proofs.YtlcadhojfnanfaaDoor
set_option maxRecDepth 20000
open Go.RowKit

theorem en_ne {x y : En} (h : x ≠ y) : (x.nm.toList == y.nm.toList) = false ∨ ((x.nm.toList == y.nm.toList) = true ∧ (x.ino == y.ino) = false) ∨ ((x.nm.toList == y.nm.toList) = true ∧ (x.ino == y.ino) = true ∧ (x.gen == y.gen) = false) := by
  by_cases h1 : x.nm = y.nm
  · have e1 : (x.nm.toList == y.nm.toList) = true := by rw [h1]; simp
    by_cases h2 : x.ino = y.ino
    · by_cases h3 : x.gen = y.gen
      · exact absurd (En.ext_iff'.2 ⟨h1, h2, h3⟩) h
      · exact .inr (.inr ⟨e1, by simpa using h2, by simpa using h3⟩)
    · exact .inr (.inl ⟨e1, by simpa using h2⟩)
  · exact .inl ((Lib.bytes_beq_false_iff _ _).2 h1)
set_option maxHeartbeats 2000000 in
theorem same_any (va : Value) (la : List En) (vb : Value) (lb : List En) (w : World) (ha : Ens w va la) (hb : Ens w vb lb) (hl : la.length ≤ 9000000000000000000) :
    Calls Tryd.prog 13 #[va, vb] w fun e w' => e = .returned (.bool (decide (la = lb))) ∧ Below w.heap.size w w' := by
  obtain ⟨oa, ca, rfl⟩ := ha.form
  obtain ⟨ob, cb, rfl⟩ := hb.form
  by_cases hlen : la.length = lb.length
  · have hlen' : (la.length : Int) = lb.length := by omega
    have H1 : Hid (Ens w (.slice oa la.length ca) la ∧ Ens w (.slice ob lb.length cb) lb ∧ la.length = lb.length) := ⟨ha, hb, hlen⟩
    obtain ⟨X, hX⟩ : ∃ X, X = decide (la = lb) := ⟨_, rfl⟩
    rw [← hX]
    have HX : Hid (X = decide (la = lb)) := hX
    rw [← hlen] at hlen' ⊢
    clear ha hb hX hlen hlen'
    obtain ⟨len, hle⟩ : ∃ len, len = la.length := ⟨_, rfl⟩
    have HE : Hid (len = la.length) := hle
    rw [← hle] at hl ⊢
    clear hle
    go_enter Tryd.func13, Tryd.ntmps13
    go_wp2_with fail
    go_loopw [5] (fun v wr => ∃ j : Nat, j ≤ len ∧ v = .int .i64 (j : Int) ∧ Hid (la.take j = lb.take j ∧ Below w.heap.size w wr)) (fun v _ => len - (intOf v).toNat)
    case atStart => exact ⟨0, Nat.zero_le _, rfl, rfl, Below.refl _ _⟩
    case round =>
      obtain ⟨j, hj, rfl, HR⟩ := hrel
      by_cases hlt : j < len
      · have j1 : (j : Int) < (len : Nat) := by omega
        have hja : j < la.length := by rw [← HE.out]; exact hlt
        have hjb : j < lb.length := by rw [← H1.out.2.2]; exact hja
        obtain ⟨ga, oa', rfl, hga, ca'⟩ := H1.out.1.at (i := j) hja
        obtain ⟨gb, ob', rfl, hgb, cb'⟩ := H1.out.2.1.at (i := j) hjb
        obtain ⟨a0, a1, a2⟩ := ca'.below HR.out.2 hga
        obtain ⟨b0, b1, b2⟩ := cb'.below HR.out.2 hgb
        have ta : la.take (j + 1) = la.take j ++ [la[j]] := by rw [List.take_add_one, List.getElem?_eq_getElem hja]; rfl
        have tb : lb.take (j + 1) = lb.take j ++ [lb[j]] := by rw [List.take_add_one, List.getElem?_eq_getElem hjb]; rfl
        have HT : Hid (la.take (j + 1) = la.take j ++ [la[j]] ∧ lb.take (j + 1) = lb.take j ++ [lb[j]]) := ⟨ta, tb⟩
        clear ca' cb' ta tb
        generalize la[j] = x at *
        generalize lb[j] = y at *
        by_cases hxy : x = y
        · subst hxy
          go_wp2_with fail
          go_quiet (fail)
          go_wp2
          go_roundw
          case rel => exact ⟨j + 1, by omega, by go_num, by rw [HT.out.1, HT.out.2, HR.out.1], below_drewN HR.out.2 _⟩
          case measure => simp [intOf]; omega
        · have HF : Hid (X = false) := (show X = false from by
            rw [HX.out]
            refine decide_eq_false fun e => hxy ?_
            have e1 := HT.out.1
            rw [e, HT.out.2] at e1
            have := List.append_inj' e1 rfl
            exact (List.cons.inj this.2).1.symm)
          have hne := en_ne hxy
          clear HX hxy
          rcases hne with h1 | ⟨h1, h2⟩ | ⟨h1, h2, h3⟩
          all_goals
            go_wp2_with fail
            go_quiet (fail)
            go_wp2
            go_ret
            exact ⟨by rw [HF.out]; rfl, below_drewN HR.out.2 _⟩
      · obtain rfl : j = len := by omega
        have j1 : ¬ (j : Int) < j := by omega
        have HF : Hid (X = true ∧ Below w.heap.size w wr) := by
          refine ⟨?_, HR.out.2⟩
          rw [HX.out]
          refine decide_eq_true ?_
          have htk := HR.out.1
          have e1 := HE.out
          rw [e1, List.take_length, H1.out.2.2, List.take_length] at htk
          exact htk
        clear HX HR
        go_wp2
        go_ret
        exact ⟨by rw [HF.out.1]; rfl, HF.out.2⟩
  · have hlen' : ¬ (la.length : Int) = lb.length := by omega
    have e : decide (la = lb) = false := decide_eq_false fun e => hlen (by rw [e])
    rw [e]
    clear e hlen ha hb
    go_enter Tryd.func13, Tryd.ntmps13
    go_wp2
    go_ret
    exact ⟨rfl, Below.refl _ _⟩
end Go.Proofs.YtlcadhojfnanfaaDoor
