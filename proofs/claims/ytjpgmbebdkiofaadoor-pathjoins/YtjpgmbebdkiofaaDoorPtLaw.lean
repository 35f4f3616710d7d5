/- The laws' helpers: awake and same. -/
import Derived.Test.YtjpgmbebdkiofaaDoorPtRSplit
import Derived.BigQuiet
namespace Go.Proofs.YtjpgmbebdkiofaaDoor
set_option maxRecDepth 20000
open Go.RowKit

theorem awake_sp : spE [47, 97, 47, 98] = 0 ∧ (spL [47, 97, 47, 98]).map mkB = [⟨#[97]⟩, ⟨#[98]⟩] := ⟨by decide, by decide⟩
theorem awake_nm : nmL [46, 46] = 40 := by decide
set_option maxHeartbeats 1000000 in
theorem pawake_any (w : World) : Calls Tryd.prog 11 #[] w fun e w' => e = .returned (.bool true) ∧ Below w.heap.size w w' := by
  have h1 : ∀ w, Calls Tryd.prog 12 #[.string ⟨#[47, 97, 47, 98]⟩] w fun e w' => ∃ v, e = .returned (.tuple #[v, .int .i64 0]) ∧ LS w' v [⟨#[97]⟩, ⟨#[98]⟩] ∧ Below w.heap.size w w' ∧ Fit v := fun w => by
    have := psplit_any ⟨#[47, 97, 47, 98]⟩ w
    rw [show (⟨#[47, 97, 47, 98]⟩ : ByteArray).data.toList = [47, 97, 47, 98] from rfl, awake_sp.1, awake_sp.2] at this
    exact this
  have h2 : ∀ w, Calls Tryd.prog 9 #[.string ⟨#[46, 46]⟩] w fun e w' => e = .returned (.int .i64 40) ∧ Below w.heap.size w w' := fun w => by
    have := name_any ⟨#[46, 46]⟩ w
    rw [show (⟨#[46, 46]⟩ : ByteArray).data.toList = [46, 46] from rfl, awake_nm] at this
    exact this
  go_enter Tryd.func11, Tryd.ntmps11
  go_wp2_with fail
  refine (h1 _).mono ?_
  rintro e w1 ⟨v, rfl, hl, hb, _⟩
  obtain ⟨g, hgl, o, cap, rfl, c0, c1⟩ : ∃ g, g < w1.heap.size ∧ ∃ o cap, v = .slice (some ⟨g, o, none⟩) 2 cap ∧ w1.cell? ⟨g, o, none⟩ = some (.string ⟨#[97]⟩) ∧ w1.cell? ⟨g, o + 1, none⟩ = some (.string ⟨#[98]⟩) := by
    rcases hl with ⟨_, _, _, h⟩ | ⟨g, o, cap, e, hg, hx⟩
    · cases h
    · exact ⟨g, hg, o, cap, e, hx 0 _ rfl, hx 1 _ rfl⟩
  clear hl h1
  go_wp2_with fail
  refine (h2 _).mono ?_
  rintro e w2 ⟨rfl, hb2⟩
  have HB : Hid (Below w.heap.size w w2) := hb.trans (hb2.mono hb.size)
  clear hb2 hb h2
  go_wp2
  go_ret
  exact ⟨rfl, HB.out⟩
theorem below_drewN {B : Nat} {w wr : World} (h : Below B w wr) : ∀ m, Below B w (wr.drewN m)
  | 0 => h
  | m + 1 => (below_drewN h m).drew
set_option maxHeartbeats 1000000 in
theorem psame_any (va : Value) (la : List ByteArray) (vb : Value) (lb : List ByteArray) (w : World) (ha : LS w va la) (hb : LS w vb lb) (hl : la.length ≤ 1000000000) :
    Calls Tryd.prog 14 #[va, vb] w fun e w' => e = .returned (.bool (decide (la = lb))) ∧ Below w.heap.size w w' := by
  obtain ⟨oa, ca, rfl⟩ := ha.form
  obtain ⟨ob, cb, rfl⟩ := hb.form
  by_cases hlen : la.length = lb.length
  · have hlen' : (la.length : Int) = lb.length := by omega
    have H1 : Hid (LS w (.slice oa la.length ca) la ∧ LS w (.slice ob lb.length cb) lb ∧ la.length = lb.length) := ⟨ha, hb, hlen⟩
    obtain ⟨X, hX⟩ : ∃ X, X = decide (la = lb) := ⟨_, rfl⟩
    rw [← hX]
    have HX : Hid (X = decide (la = lb)) := hX
    rw [← hlen] at hlen' ⊢
    clear ha hb hX hlen hlen'
    obtain ⟨len, hle⟩ : ∃ len, len = la.length := ⟨_, rfl⟩
    have HE : Hid (len = la.length) := hle
    rw [← hle] at hl ⊢
    clear hle
    go_enter Tryd.func14, Tryd.ntmps14
    go_wp2_with fail
    go_loopw [5] (fun v wr => ∃ j : Nat, j ≤ len ∧ v = .int .i64 (j : Int) ∧ la.take j = lb.take j ∧ Below w.heap.size w wr) (fun v _ => len - (intOf v).toNat)
    case atStart => exact ⟨0, Nat.zero_le _, rfl, rfl, Below.refl _ _⟩
    case round =>
      obtain ⟨j, hj, rfl, htk, hb⟩ := hrel
      by_cases hlt : j < len
      · have j1 : (j : Int) < (len : Nat) := by omega
        have hja : j < la.length := by rw [← HE.out]; exact hlt
        have hjb : j < lb.length := by rw [← H1.out.2.2]; exact hja
        obtain ⟨ga, oa', rfl, hga, ca'⟩ := H1.out.1.at (i := j) hja
        obtain ⟨gb, ob', rfl, hgb, cb'⟩ := H1.out.2.1.at (i := j) hjb
        have c1 := (cell_kept_1 (hb.block ga hga) _).trans ca'
        have c2 := (cell_kept_1 (hb.block gb hgb) _).trans cb'
        have ta : la.take (j + 1) = la.take j ++ [la[j]] := by rw [List.take_add_one, List.getElem?_eq_getElem hja]; rfl
        have tb : lb.take (j + 1) = lb.take j ++ [lb[j]] := by rw [List.take_add_one, List.getElem?_eq_getElem hjb]; rfl
        have HT : Hid (la.take j = lb.take j ∧ la.take (j + 1) = la.take j ++ [la[j]] ∧ lb.take (j + 1) = lb.take j ++ [lb[j]] ∧ Below w.heap.size w wr) := ⟨htk, ta, tb, hb⟩
        clear ca' cb' ta tb htk hb
        generalize la[j] = x at *
        generalize lb[j] = y at *
        by_cases hxy : x = y
        · subst hxy
          go_wp2_with fail
          go_quiet (fail)
          go_wp2
          go_roundw
          case rel => exact ⟨j + 1, by omega, by go_num, by rw [HT.out.2.1, HT.out.2.2.1, HT.out.1], below_drewN HT.out.2.2.2 _⟩
          case measure => simp [intOf]; omega
        · have hne : (x.toList == y.toList) = false := (Lib.bytes_beq_false_iff _ _).2 hxy
          have HF : Hid (X = false) := by
            rw [HX.out]
            refine decide_eq_false fun e => hxy ?_
            have e1 := HT.out.2.1
            rw [e, HT.out.2.2.1] at e1
            have := List.append_inj' e1 rfl
            exact (List.cons.inj this.2).1.symm
          clear HX hxy
          go_wp2_with fail
          go_quiet (fail)
          go_wp2
          go_ret
          exact ⟨by rw [HF.out]; rfl, below_drewN HT.out.2.2.2 _⟩
      · obtain rfl : j = len := by omega
        have j1 : ¬ (j : Int) < j := by omega
        have HF : Hid (X = true ∧ Below w.heap.size w wr) := by
          refine ⟨?_, hb⟩
          rw [HX.out]
          refine decide_eq_true ?_
          have e1 := HE.out
          rw [e1, List.take_length, H1.out.2.2, List.take_length] at htk
          exact htk
        clear HX htk hb
        go_wp2
        go_ret
        exact ⟨by rw [HF.out.1]; rfl, HF.out.2⟩
  · have hlen' : ¬ (la.length : Int) = lb.length := by omega
    have e : decide (la = lb) = false := decide_eq_false fun e => hlen (by rw [e])
    rw [e]
    clear e hlen ha hb
    go_enter Tryd.func14, Tryd.ntmps14
    go_wp2
    go_ret
    exact ⟨rfl, Below.refl _ _⟩
end Go.Proofs.YtjpgmbebdkiofaaDoor
