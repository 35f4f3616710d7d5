/- Within: the program's and the document's. -/
import Derived.Test.YtjpgmbebdkiofaaDoorPtLaw
namespace Go.Proofs.YtjpgmbebdkiofaaDoor
set_option maxRecDepth 20000
open Go.RowKit

theorem LS.cells {w : World} {g o n c : Nat} {l : List ByteArray} (h : LS w (.slice (some ⟨g, o, none⟩) n c) l) : ∀ j, j < l.length → w.cell? ⟨g, o + j, none⟩ = some (.string (l.getD j ByteArray.empty)) := fun j hj => by
  rcases h with ⟨_, _, _, rfl⟩ | ⟨g', o', cap, e, hg, hx⟩
  · cases hj
  · simp only [Value.slice.injEq, Option.some.injEq, Addr.mk.injEq] at e
    obtain ⟨⟨rfl, rfl, _⟩, _⟩ := e
    have := hx j l[j] (List.getElem?_eq_getElem hj)
    rw [this, List.getD_eq_getElem?_getD, List.getElem?_eq_getElem hj]
    rfl
set_option maxHeartbeats 1000000 in
theorem within_any (va : Value) (la : List ByteArray) (vb : Value) (lb : List ByteArray) (w : World) (ha : LS w va la) (hb : LS w vb lb) (ka : la.length ≤ 1000000000) (kc : Fit va) :
    Calls Tryd.prog 17 #[va, vb] w fun e w' => e = .returned (.bool (decide (la.take lb.length = lb))) ∧ Below w.heap.size w w' := by
  obtain ⟨oa, ca, rfl⟩ := ha.form
  obtain ⟨ob, cb, rfl⟩ := hb.form
  have kca := kc _ _ _ rfl
  clear kc
  by_cases hlen : lb.length ≤ la.length
  · have hlen' : (lb.length : Int) ≤ la.length := by omega
    have hcap : (lb.length : Int) ≤ ca := by omega
    have heq : ∀ w' : World, w' = w → Calls Tryd.prog 25 #[.slice oa lb.length ca, .slice ob lb.length cb] w' fun e w' => e = .returned (.bool (decide (la.take lb.length = lb))) ∧ Below w.heap.size w w' := by
      rintro w' rfl
      by_cases h0 : lb.length = 0
      · have hn : lb = [] := List.eq_nil_of_length_eq_zero h0
        subst hn
        refine (equal_none oa ob ca 0 cb w' (by decide)).mono fun e w1 ⟨he, hw⟩ => ?_
        subst hw
        exact ⟨by rw [he]; rfl, Below.refl _ _⟩
      · obtain ⟨ga, o1, rfl, _, _⟩ := ha.get (i := 0) (by omega)
        obtain ⟨gb, o2, rfl, _, _⟩ := hb.get (i := 0) (by omega)
        refine (equal_any ga o1 lb.length ca gb o2 lb.length cb la lb w' hlen (Nat.le_refl _) (by omega) (by omega) ha.cells hb.cells).mono fun e w1 ⟨he, q, hw⟩ => ?_
        subst hw
        exact ⟨by rw [he, List.take_length], below_drewN (Below.refl _ _) q⟩
    clear ha hb
    generalize decide (la.take lb.length = lb) = X at *
    go_enter Tryd.func17, Tryd.ntmps17
    go_wp2_with fail
    refine (heq _ rfl).mono ?_
    rintro e w1 ⟨rfl, hb1⟩
    clear heq
    go_wp2
    go_ret
    exact ⟨rfl, hb1⟩
  · have hlen' : ¬ (lb.length : Int) ≤ la.length := by omega
    have e : decide (la.take lb.length = lb) = false := decide_eq_false fun e => by
      have := congrArg List.length e
      rw [List.length_take] at this
      omega
    rw [e]
    clear e hlen ha hb
    go_enter Tryd.func17, Tryd.ntmps17
    go_wp2
    go_ret
    exact ⟨rfl, Below.refl _ _⟩
set_option maxHeartbeats 1000000 in
theorem rwithin_any (va : Value) (la : List ByteArray) (vb : Value) (lb : List ByteArray) (w : World) (ha : LS w va la) (hb : LS w vb lb) (ka : la.length ≤ 1000000000) :
    Calls Tryd.prog 18 #[va, vb] w fun e w' => e = .returned (.bool (decide (la.take lb.length = lb))) ∧ Below w.heap.size w w' := by
  obtain ⟨oa, ca, rfl⟩ := ha.form
  obtain ⟨ob, cb, rfl⟩ := hb.form
  by_cases hlen : lb.length ≤ la.length
  · have hlen' : ¬ (la.length : Int) < lb.length := by omega
    have H1 : Hid (LS w (.slice oa la.length ca) la ∧ LS w (.slice ob lb.length cb) lb ∧ lb.length ≤ la.length) := ⟨ha, hb, hlen⟩
    obtain ⟨X, hX⟩ : ∃ X, X = decide (la.take lb.length = lb) := ⟨_, rfl⟩
    rw [← hX]
    have HX : Hid (X = decide (la.take lb.length = lb)) := hX
    obtain ⟨m, hm⟩ : ∃ m, m = la.length := ⟨_, rfl⟩
    obtain ⟨len, hle⟩ : ∃ len, len = lb.length := ⟨_, rfl⟩
    have HE : Hid (len = lb.length ∧ m = la.length) := ⟨hle, hm⟩
    rw [← hle, ← hm] at hlen hlen' ⊢
    rw [← hm] at ka
    clear ha hb hX hle hm
    go_enter Tryd.func18, Tryd.ntmps18
    go_wp2_with fail
    go_loopw [5] (fun v wr => ∃ j : Nat, j ≤ len ∧ v = .int .i64 (j : Int) ∧ la.take j = lb.take j ∧ Below w.heap.size w wr) (fun v _ => len - (intOf v).toNat)
    case atStart => exact ⟨0, Nat.zero_le _, rfl, rfl, Below.refl _ _⟩
    case round =>
      obtain ⟨j, hj, rfl, htk, hb⟩ := hrel
      by_cases hlt : j < len
      · have j1 : (j : Int) < (len : Nat) := by omega
        have j2 : (j : Int) < (m : Nat) := by omega
        have hjb : j < lb.length := by rw [← HE.out.1]; exact hlt
        have hja : j < la.length := Nat.lt_of_lt_of_le hjb H1.out.2.2
        obtain ⟨ga, oa', rfl, hga, ca'⟩ := H1.out.1.at (i := j) hja
        obtain ⟨gb, ob', rfl, hgb, cb'⟩ := H1.out.2.1.at (i := j) hjb
        have c1 := (cell_kept_1 (hb.block ga hga) _).trans ca'
        have c2 := (cell_kept_1 (hb.block gb hgb) _).trans cb'
        have ta : la.take (j + 1) = la.take j ++ [la[j]] := by rw [List.take_add_one, List.getElem?_eq_getElem hja]; rfl
        have tb : lb.take (j + 1) = lb.take j ++ [lb[j]] := by rw [List.take_add_one, List.getElem?_eq_getElem hjb]; rfl
        have HT : Hid (la.take j = lb.take j ∧ la.take (j + 1) = la.take j ++ [la[j]] ∧ lb.take (j + 1) = lb.take j ++ [lb[j]] ∧ Below w.heap.size w wr) := ⟨htk, ta, tb, hb⟩
        clear ca' cb' ta tb htk hb
        generalize la[j] = x at *
        generalize lb[j] = y at *
        by_cases hxy : x = y
        · subst hxy
          go_wp2_with fail
          go_quiet (fail)
          go_wp2
          go_roundw
          case rel => exact ⟨j + 1, by omega, by go_num, by rw [HT.out.2.1, HT.out.2.2.1, HT.out.1], below_drewN HT.out.2.2.2 _⟩
          case measure => simp [intOf]; omega
        · have hne : (x.toList == y.toList) = false := (Lib.bytes_beq_false_iff _ _).2 hxy
          have HF : Hid (X = false) := by
            rw [HX.out]
            refine decide_eq_false fun e => hxy ?_
            have e1 : (la.take lb.length).take (j + 1) = lb.take (j + 1) := by rw [e]
            rw [List.take_take, Nat.min_eq_left (by omega), HT.out.2.1, HT.out.2.2.1] at e1
            have := List.append_inj' e1 rfl
            exact (List.cons.inj this.2).1
          clear HX hxy
          go_wp2_with fail
          go_quiet (fail)
          go_wp2
          go_ret
          exact ⟨by rw [HF.out]; rfl, below_drewN HT.out.2.2.2 _⟩
      · obtain rfl : j = len := by omega
        have j1 : ¬ (j : Int) < j := by omega
        have HF : Hid (X = true ∧ Below w.heap.size w wr) := by
          refine ⟨?_, hb⟩
          rw [HX.out]
          refine decide_eq_true ?_
          have e1 := HE.out.1
          rw [e1, List.take_length] at htk
          exact htk
        clear HX htk hb
        go_wp2
        go_ret
        exact ⟨by rw [HF.out.1]; rfl, HF.out.2⟩
  · have hlen' : (la.length : Int) < lb.length := by omega
    have e : decide (la.take lb.length = lb) = false := decide_eq_false fun e => by
      have := congrArg List.length e
      rw [List.length_take] at this
      omega
    rw [e]
    clear e hlen ha hb
    go_enter Tryd.func18, Tryd.ntmps18
    go_wp2
    go_ret
    exact ⟨rfl, Below.refl _ _⟩
end Go.Proofs.YtjpgmbebdkiofaaDoor
