/- The law PlateSpoils, called with any numbers and any byte, returns true, and changes nothing that was there. -/
import Derived.Test.YtmnojmcbghdciaaPlOn
namespace Go.Proofs.Ytmnojmcbghdciaa
open Go.RowKit

theorem wf_u8 {v : Int} (h : (Lit.int .u8 v).wf = true) : ∃ m : Nat, v = m ∧ m < 256 := by
  have : 0 ≤ v ∧ v < 256 := by simp [Lit.wf, IntKind.min, IntKind.max, IntKind.signed, IntKind.bits] at h; omega
  exact ⟨v.toNat, by omega, by omega⟩
theorem spoils_state (n i : Nat) (s : ByteArray) (hi : i < n) (hs : s.size = 64) : ∃ S1 S2 S3 S4 S5, spoilE (newP n) i = 0 ∧ spoilP (newP n) i = S1 ∧ readE S1 i = 21 ∧ readP S1 i = S2 ∧ writeE S2 i s = 0 ∧ writeP S2 i s = S3 ∧ readS S3 i = s ∧ readE S3 i = 0 ∧ readP S3 i = S4 ∧
    heldE S4 i = 21 ∧ flushE S4 = 0 ∧ flushP S4 = S5 ∧ heldS S5 i = s ∧ heldE S5 i = 0 ∧ S1.wait.length ≤ 1 ∧ S2.wait.length ≤ 1 ∧ S3.wait.length ≤ 1 ∧ S4.wait.length ≤ 1 := by
  obtain ⟨L, hL⟩ : ∃ L, L = List.replicate n (fillS 0 64) := ⟨_, rfl⟩
  have hl : L.length = n := by rw [hL]; simp
  have hb : ∀ (L' : List ByteArray) w f u r t, L'.length = n → hasB ⟨L', w, f, u, r, t⟩ (i : Int) = true := fun L' w f u r t h => by simp [hasB]; omega
  have hl2 : ∀ x, (L.set i x).length = n := fun x => by rw [List.length_set]; exact hl
  have hl3 : ∀ x y, ((L.set i x).set i y).length = n := fun x y => by rw [List.length_set]; exact hl2 x
  have hg : ∀ (L' : List ByteArray) x, L'.length = n → (L'.set i x).getD i ByteArray.empty = x := fun L' x h => by
    rw [List.getD_eq_getElem?_getD, List.getElem?_set_self (by omega)]; rfl
  have q1 : wrap64 (0 + 1) = 1 := by unfold wrap64; decide
  have q2 : wrap64 (1 + 1) = 2 := by unfold wrap64; decide
  have h0 : newP n = ⟨L, [], -1, true, 0, 0⟩ := by rw [newP, hL]
  rw [h0]
  refine ⟨⟨L.set i ByteArray.empty, [], -1, true, 0, 0⟩, ⟨L.set i ByteArray.empty, [], -1, true, 1, 0⟩, ⟨L.set i ByteArray.empty, [(i, s)], -1, true, 1, 1⟩, ⟨L.set i ByteArray.empty, [(i, s)], -1, true, 2, 1⟩, ⟨(L.set i ByteArray.empty).set i s, [], -1, true, 2, 1⟩, ?_, ?_, ?_, ?_, ?_, ?_, ?_, ?_, ?_, ?_, ?_, ?_, ?_, ?_, by simp, by simp, by simp, by simp⟩
  · simp only [spoilE, hb _ _ _ _ _ _ hl, if_true]
  · simp only [spoilP, hb _ _ _ _ _ _ hl, if_true, Int.toNat_natCast]
  · simp only [readE, hb _ _ _ _ _ _ (hl2 _), textOf, textR, List.reverse_nil, heldE, keptS, Int.toNat_natCast, hg _ _ hl]; rfl
  · simp only [readP, hb _ _ _ _ _ _ (hl2 _), if_true, q1]
  · simp [writeE, hs, hb _ _ _ _ _ _ (hl2 _)]
  · simp only [writeP, hs, hb _ _ _ _ _ _ (hl2 _), if_true, Int.toNat_natCast, q1]; rfl
  · simp [readS, hb _ _ _ _ _ _ (hl2 _), textOf, textR]
  · simp [readE, hb _ _ _ _ _ _ (hl2 _), textOf, textR]
  · simp only [readP, hb _ _ _ _ _ _ (hl2 _), if_true, q2]
  · simp only [heldE, hb _ _ _ _ _ _ (hl2 _), keptS, Int.toNat_natCast, hg _ _ hl]; rfl
  · simp [flushE]
  · simp [flushP, settleP, keptAt]
  · simp only [heldS, hb _ _ _ _ _ _ (hl3 _ _), if_true, keptS, Int.toNat_natCast, hg _ _ (hl2 _)]
  · simp only [heldE, hb _ _ _ _ _ _ (hl3 _ _), if_true, keptS, Int.toNat_natCast, hg _ _ (hl2 _), hs]; rfl

set_option maxRecDepth 10000 in
set_option maxHeartbeats 2000000 in
theorem walk_plateSpoils (a0 a1 a2 : Int) (_ : (Lit.int .i64 a0).wf = true) (_ : (Lit.int .i64 a1).wf = true) (w2 : (Lit.int .u8 a2).wf = true) (w : World) :
    Calls Try.prog 6 #[.int .i64 a0, .int .i64 a1, .int .u8 a2] w fun e w' => e = .returned (.bool true) ∧ Below w.heap.size w w' := by
  obtain ⟨v, rfl, hv⟩ := wf_u8 w2
  by_cases h0 : a0 < 0 ∨ 32768 < a0
  · go_enter Try.func6, Try.ntmps6
    go_wp2_with fail
    refine (new_bad a0 h0 w).mono ?_
    rintro e w1 ⟨rfl, rfl⟩
    go_wp2_with fail
    refine (awake_any _).mono ?_
    rintro e w2 ⟨rfl, hb2⟩
    go_wp2
    go_ret
    exact ⟨rfl, hb2⟩
  obtain ⟨n, rfl⟩ : ∃ n : Nat, a0 = n := ⟨a0.toNat, by omega⟩
  have hn : n ≤ 32768 := by omega
  by_cases h1 : n > 40 ∨ a1 < 0 ∨ a1 ≥ n
  · have h2 : ((40 : Int) < n) ∨ (¬ (40 : Int) < n ∧ a1 < 0) ∨ (¬ (40 : Int) < n ∧ ¬ a1 < 0 ∧ (n : Int) ≤ a1) := by omega
    clear h0
    rcases h2 with h2 | ⟨h2, h3⟩ | ⟨h2, h3, h4⟩
    all_goals
      go_enter Try.func6, Try.ntmps6
      go_wp2_with fail
      refine (new_on n hn w).mono ?_
      rintro e w1 ⟨B, rfl, hp, hb⟩
      go_wp2_with fail
      refine (awake_any _).mono ?_
      rintro e w2 ⟨rfl, hb2⟩
      have HT : Hid (Below w.heap.size w w2) := hb.trans (hb2.mono hb.size)
      clear hp hb hb2
      go_wp2
      go_ret
      exact ⟨rfl, HT.out⟩
  obtain ⟨i, rfl⟩ : ∃ i : Nat, a1 = i := ⟨a1.toNat, by omega⟩
  have hi : i < n := by omega
  have hq1 : ¬ (40 : Int) < n := by omega
  have hq2 : ¬ (i : Int) < 0 := by omega
  have hq3 : ¬ (n : Int) ≤ i := by omega
  have hbt : ∀ w, Calls Try.prog 14 #[.int .u8 (v : Nat), .int .i64 64] w fun e w' => e = .returned (.string (fillS v 64)) ∧ Below w.heap.size w w' := bytes_any v 64 (by decide)
  have HS : Hid _ := spoils_state n i (fillS v 64) hi (fillS_size v 64)
  obtain ⟨s, hs⟩ : ∃ s, s = fillS v 64 := ⟨_, rfl⟩
  rw [← hs] at hbt HS
  clear hs h0 h1
  obtain ⟨S1, S2, S3, S4, S5, r1, s1, r2, s2, r3, s3, r4, r4', s4, r5, r6, s6, r7, r8, l1, l2, l3, l4⟩ := HS.out
  have HR : Hid (spoilE (newP n) i = 0 ∧ spoilP (newP n) i = S1 ∧ readE S1 i = 21 ∧ readP S1 i = S2 ∧ writeE S2 i s = 0 ∧ writeP S2 i s = S3 ∧ readS S3 i = s ∧ readE S3 i = 0 ∧ readP S3 i = S4 ∧ heldE S4 i = 21 ∧ flushE S4 = 0 ∧ flushP S4 = S5 ∧ heldS S5 i = s ∧ heldE S5 i = 0) := ⟨r1, s1, r2, s2, r3, s3, r4, r4', s4, r5, r6, s6, r7, r8⟩
  clear r1 s1 r2 s2 r3 s3 r4 r4' s4 r5 r6 s6 r7 r8 HS
  go_enter Try.func6, Try.ntmps6
  go_wp2_with fail
  refine (new_on n hn w).mono ?_
  rintro e wa ⟨B, rfl, hp, hT⟩
  go_wp2_with fail
  refine (spoil_on _ B _ i wa hp).mono ?_
  rintro e wb ⟨rfl, hpb, hb⟩
  rw [HR.out.1]
  rw [HR.out.2.1] at hpb
  have hTb := hT.trans hb
  clear hp hT hb wa
  go_wp2_with fail
  refine (read_on _ B _ i wb hpb (by omega)).mono ?_
  rintro e wc ⟨rfl, hpc, hc⟩
  rw [HR.out.2.2.1]
  rw [HR.out.2.2.2.1] at hpc
  have hTc := hTb.trans hc
  clear hpb hTb hc
  generalize readS S1 i = t1
  go_wp2_with fail
  refine (hbt _).mono ?_
  rintro e wd ⟨rfl, hd⟩
  have hpd := hpc.below hd
  have hTd := hTc.trans (hd.mono hTc.size)
  clear hpc hTc hd
  go_wp2_with fail
  refine (write_on _ B _ i s wd hpd (by omega)).mono ?_
  rintro e we ⟨rfl, hpe, he⟩
  rw [HR.out.2.2.2.2.1]
  rw [HR.out.2.2.2.2.2.1] at hpe
  have hTe := hTd.trans he
  clear hpd hTd he
  go_wp2_with fail
  refine (read_on _ B _ i we hpe (by omega)).mono ?_
  rintro e wf ⟨rfl, hpf, hf⟩
  rw [HR.out.2.2.2.2.2.2.1, HR.out.2.2.2.2.2.2.2.1]
  rw [HR.out.2.2.2.2.2.2.2.2.1] at hpf
  have hTf := hTe.trans hf
  clear hpe hTe hf
  go_wp2_with fail
  refine (held_on _ B _ i wf hpf).mono ?_
  rintro e wg ⟨rfl, rfl⟩
  rw [HR.out.2.2.2.2.2.2.2.2.2.1]
  generalize heldS S4 i = t2
  go_wp2_with fail
  refine (flush_on _ B _ wg hpf (by omega)).mono ?_
  rintro e wh ⟨rfl, hph, hh⟩
  rw [HR.out.2.2.2.2.2.2.2.2.2.2.1]
  rw [HR.out.2.2.2.2.2.2.2.2.2.2.2.1] at hph
  have hTh := hTf.trans hh
  clear hpf hTf hh
  go_wp2_with fail
  refine (held_on _ B _ i wh hph).mono ?_
  rintro e wi ⟨rfl, rfl⟩
  rw [HR.out.2.2.2.2.2.2.2.2.2.2.2.2.1, HR.out.2.2.2.2.2.2.2.2.2.2.2.2.2]
  go_wp2_with fail
  refine (hbt _).mono ?_
  rintro e wj ⟨rfl, hj⟩
  have hTj := hTh.trans (hj.mono hTh.size)
  clear hph hTh hj
  go_wp2_with fail
  refine (awake_any _).mono ?_
  rintro e wk ⟨rfl, hk⟩
  have HT : Hid (Below w.heap.size w wk) := hTj.trans (hk.mono hTj.size)
  clear hTj hk hbt
  go_wp2
  go_ret
  exact ⟨rfl, HT.out⟩
end Go.Proofs.Ytmnojmcbghdciaa
