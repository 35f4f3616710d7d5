/- chart's More. -/
import Derived.Test.YtcmbphppeobhfabCtConc
import Derived.Test.YtcmbphppeobhfabCtSetM
import Derived.Test.YtcmbphppeobhfabCtCnt
import Derived.Test.YtcmbphppeobhfabCtArgs
namespace Go.Proofs.Ytcmbphppeobhfab
set_option maxRecDepth 20000
open Go.RowKit Go.ChangeShapes Go.WideShapes Go.Deep

section
variable {H : Type} {enc : TypeId × Value → H} {W : World}
theorem intsn_of_trod {v : Value} {d : DataW H} {p : List MemPlace} {base : Nat} (hok : Value.okWide Try.prog W .any base 22 v) (h : DataW.Trod enc Try.prog W 0 (fun _ => true) true 22 v d p) : ∃ l, List1 (Value.int .i64) W v l ∧ (Capped v ∧ NilOk v) := by
  obtain ⟨l, h1, h2, _⟩ := intsc_of_trod hok h
  refine ⟨l, h1, h2, fun len cap e => ?_⟩
  subst e
  obtain ⟨fuel, hf⟩ := h
  rcases open_slice1 Try.underlying22 (by kernel_rfl) hf with ⟨hcs, _⟩ | ⟨a, len', cap', m, n, V, D, Pl, hcs, _, hl, hm, _⟩
  · simp [Value.cells] at hcs
    exact hcs.2
  · simp [Value.cells] at hcs
end
theorem IZ.nilOk {w : World} {base : Nat} {v : Value} {l : List Int} (h : IZ w base v l) : NilOk v := fun len cap e => by
  rcases h.2 with ⟨e2, _⟩ | ⟨g, cap', cur, e2, _⟩
  · rw [e2] at e; simp at e; exact e.2.symm
  · rw [e2] at e; simp at e
theorem riseP_both {a b : List Int} (ha : riseP a) (hb : riseP b) : riseP (bothL a b) := ⟨bothL_rise a b ha.1 hb.1, fun x hx => by
  rcases (bothL_mem a b x).1 hx with h | h
  · exact ha.2 x h
  · exact hb.2 x h⟩
theorem bothL_ge (a b : List Int) : a.length ≤ (bothL a b).length := by
  fun_induction bothL a b <;> simp_all <;> omega
theorem cntU_mono {u v : Nat → Bool} (h : ∀ i, u i = true → v i = true) : ∀ m, cntU u m ≤ cntU v m
  | 0 => Nat.le_refl _
  | m + 1 => by
    have ih := cntU_mono h m
    show cntU u m + (u m).toNat ≤ cntU v m + (v m).toNat
    have : (u m).toNat ≤ (v m).toNat := by
      cases hu : u m
      · simp
      · rw [h m hu]; exact Nat.le_refl _
    omega
theorem cntN_both {a b : List Int} (ha : riseP a) (hb : riseP b) : cntN a ≤ cntN (bothL a b) := by
  rw [cnt_eq a ha, cnt_eq _ (riseP_both ha hb)]
  unfold nB
  have h1 := bothL_ge a b
  have h2 := cntU_mono (u := hasQ a) (v := hasQ (bothL a b)) (fun i h => by
    obtain ⟨y, hy, hq⟩ := hasQ_true.1 h
    exact hasQ_true.2 ⟨y, (bothL_mem a b y).2 (.inl hy), hq⟩) 114
  omega
open Classical in
noncomputable def moreN (a b : List Int) : Int := if riseP a ∧ riseP b then ((cntN (bothL a b) : Nat) : Int) - ((cntN a : Nat) : Int) else 0
open Classical in
noncomputable def moreE (a b : List Int) : Int := if riseP a ∧ riseP b then 0 else 1
open Classical in
set_option maxHeartbeats 2000000 in
theorem more_any (w : World) (va vb : Value) (a b : List Int) (ha : List1 (Value.int .i64) w va a) (hb : List1 (Value.int .i64) w vb b) (hla : a.length ≤ 100000) (hlb : b.length ≤ 100000) (hna : NilOk va) (hnb : NilOk vb) :
    Calls Try.prog 10 #[va, vb] w fun e w' => e = .returned (.tuple #[.int .i64 (moreN a b), .int .i64 (moreE a b)]) ∧ Below w.heap.size w w' := by
  have r1 := rising_any w va a ha (by omega)
  have r2 := rising_any w vb b hb (by omega)
  unfold moreN moreE
  by_cases h1 : riseP a
  · rw [decide_eq_true h1] at r1
    by_cases h2 : riseP b
    · rw [decide_eq_true h2] at r2
      rw [if_pos ⟨h1, h2⟩, if_pos ⟨h1, h2⟩]
      have hB : (w.alloc (.cells #[va, vb] 22)).heap[w.heap.size]? = some (.cells #[va, vb] 22 (0, 0)) := heap_alloc_new w _
      have hbA : Below w.heap.size w (w.alloc (.cells #[va, vb] 22)) := (Below.refl _ _).alloc (Nat.le_refl _) _
      have hc := concat_any (w.alloc (.cells #[va, vb] 22)) va vb a b w.heap.size (ha.below hbA) (hb.below hbA) hB (by omega) (by omega) hna hnb
      have HS : Hid (Lib.compact ((a ++ b).mergeSort fun x y => decide (x ≤ y)) = bothL a b ∧ riseP (bothL a b) ∧ (bothL a b).length ≤ 200000 ∧ ((a ++ b).mergeSort fun x y => decide (x ≤ y)).length ≤ 200000 ∧ (a ++ b).length ≤ 200000) :=
        ⟨sort_both a b h1.1 h2.1, riseP_both h1 h2, by have := bothL_len a b; omega, by rw [List.length_mergeSort, List.length_append]; omega, by rw [List.length_append]; omega⟩
      have HA : Hid (List1 (Value.int .i64) w va a ∧ riseP a ∧ a.length ≤ 100000 ∧ Below w.heap.size w (w.alloc (.cells #[va, vb] 22))) := ⟨ha, h1, hla, hbA⟩
      have hcn := cntN_le (bothL a b)
      have hcm := cntN_le a
      have hn1 : cntN (bothL a b) ≤ 600000 := by have := HS.out.2.2.1; omega
      have hn2 : cntN a ≤ 300000 := by omega
      obtain ⟨oa, ca, rfl⟩ := ha.form
      obtain ⟨ob, cb, rfl⟩ := hb.form
      clear ha hb hB hbA hna hnb hcn hcm h1 h2
      go_enter Try.func10, Try.ntmps10
      go_wp2_with fail
      refine r1.mono ?_
      rintro e w1 ⟨rfl, rfl⟩
      clear r1
      go_wp2_with fail
      refine r2.mono ?_
      rintro e w2 ⟨rfl, rfl⟩
      clear r2
      go_wp2_with fail
      refine hc.mono ?_
      rintro e w3 ⟨v3, rfl, hv3, hb3⟩
      clear hc
      have hso := sort_own w3 _ v3 _ hv3 (by have := HS.out.2.2.2.2; omega)
      have H3 : Hid (Below w2.heap.size w2 w3) := HA.out.2.2.2.trans (hb3.mono (by simp))
      clear hv3 hb3
      go_wp2_with fail
      refine hso.mono ?_
      rintro e w4 ⟨rfl, hv4, hb4⟩
      clear hso
      have hco := compact_own w4 _ v3 _ hv4 (by have := HS.out.2.2.2.1; omega)
      rw [HS.out.1] at hco
      have H4 : Hid (Below w2.heap.size w2 w4) := H3.out.trans (hb4.mono (by simp))
      clear hv4 hb4 H3
      go_wp2_with fail
      refine hco.mono ?_
      rintro e w5 ⟨v5, rfl, hv5, hb5⟩
      clear hco
      have hct := count_any w5 v5 _ hv5.list1 HS.out.2.1 (by have := HS.out.2.2.1; omega)
      have H5 : Hid (Below w2.heap.size w2 w5) := H4.out.trans (hb5.mono (by simp))
      have hct2 := count_any w5 _ a (HA.out.1.below H5.out) HA.out.2.1 (by have := HA.out.2.2.1; omega)
      clear hv5 hb5 H4
      obtain ⟨N, hN⟩ : ∃ N, N = cntN (bothL a b) := ⟨_, rfl⟩
      obtain ⟨M, hM⟩ : ∃ M, M = cntN a := ⟨_, rfl⟩
      have HNM : Hid (N = cntN (bothL a b) ∧ M = cntN a) := ⟨hN, hM⟩
      rw [← hN] at hn1 hct
      rw [← hM] at hn2 hct2
      clear hN hM
      go_wp2_with fail
      refine hct.mono ?_
      rintro e w6 ⟨rfl, rfl⟩
      clear hct
      go_wp2_with fail
      refine hct2.mono ?_
      rintro e w7 ⟨rfl, rfl⟩
      clear hct2
      go_wp2
      go_ret2
      exact ⟨by rw [← HNM.out.1, ← HNM.out.2]; rfl, H5.out⟩
    · rw [decide_eq_false h2] at r2
      rw [if_neg (fun h => h2 h.2), if_neg (fun h => h2 h.2)]
      obtain ⟨oa, ca, rfl⟩ := ha.form
      obtain ⟨ob, cb, rfl⟩ := hb.form
      clear ha hb hna hnb h1 h2
      go_enter Try.func10, Try.ntmps10
      go_wp2_with fail
      refine r1.mono ?_
      rintro e w1 ⟨rfl, rfl⟩
      clear r1
      go_wp2_with fail
      refine r2.mono ?_
      rintro e w2 ⟨rfl, rfl⟩
      clear r2
      go_wp2
      go_ret2
      exact ⟨rfl, Below.refl _ _⟩
  · rw [decide_eq_false h1] at r1
    rw [if_neg (fun h => h1 h.1), if_neg (fun h => h1 h.1)]
    obtain ⟨oa, ca, rfl⟩ := ha.form
    obtain ⟨ob, cb, rfl⟩ := hb.form
    clear ha hb hna hnb h1 r2
    go_enter Try.func10, Try.ntmps10
    go_wp2_with fail
    refine r1.mono ?_
    rintro e w1 ⟨rfl, rfl⟩
    clear r1
    go_wp2
    go_ret2
    exact ⟨rfl, Below.refl _ _⟩
end Go.Proofs.Ytcmbphppeobhfab
