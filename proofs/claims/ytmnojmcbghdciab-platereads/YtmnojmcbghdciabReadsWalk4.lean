/- The law PlateReads, called with any numbers and any bytes, returns true, and changes nothing that was there. -/
import Derived.Test.YtmnojmcbghdciabPlOn
namespace Go.Proofs.Ytmnojmcbghdciab
open Go.RowKit

theorem wf_u8 {v : Int} (h : (Lit.int .u8 v).wf = true) : ∃ m : Nat, v = m ∧ m < 256 := by
  have : 0 ≤ v ∧ v < 256 := by simp [Lit.wf, IntKind.min, IntKind.max, IntKind.signed, IntKind.bits] at h; omega
  exact ⟨v.toNat, by omega, by omega⟩
theorem reads_state (n i : Nat) (s t u : ByteArray) (hi : i < n) (hs : s.size = 64) (ht : t.size = 64) (hu : u.size = 64) : ∃ S1 S2 S3 S4 S5 S6 S7, writeP (newP n) i s = S1 ∧ readS S1 i = s ∧ readE S1 i = 0 ∧ readP S1 i = S2 ∧ writeP S2 i t = S3 ∧ flushP S3 = S4 ∧ readS S4 i = t ∧ readE S4 i = 0 ∧ readP S4 i = S5 ∧ layP S5 i u = S6 ∧ spoilP S6 i = S7 ∧
    S1.wait.length ≤ 2 ∧ S2.wait.length ≤ 2 ∧ S3.wait.length ≤ 2 ∧ S4.wait.length ≤ 2 ∧ S7.reads = 2 ∧ S7.writes = 2 := by
  obtain ⟨L, hL⟩ : ∃ L, L = List.replicate n (fillS 0 64) := ⟨_, rfl⟩
  have hl : L.length = n := by rw [hL]; simp
  have hb : ∀ (L' : List ByteArray) w f u r t, L'.length = n → hasB ⟨L', w, f, u, r, t⟩ (i : Int) = true := fun L' w f u r t h => by simp [hasB]; omega
  have hl2 : ∀ x y, ((L.set i x).set i y).length = n := fun x y => by rw [List.length_set, List.length_set]; exact hl
  have hl3 : ∀ x y z, (((L.set i x).set i y).set i z).length = n := fun x y z => by rw [List.length_set]; exact hl2 x y
  have hg : ∀ (L' : List ByteArray) x, L'.length = n → (L'.set i x).getD i ByteArray.empty = x := fun L' x h => by
    rw [List.getD_eq_getElem?_getD, List.getElem?_set_self (by omega)]; rfl
  have hl1 : ∀ x, (L.set i x).length = n := fun x => by rw [List.length_set]; exact hl
  have q1 : wrap64 (0 + 1) = 1 := by unfold wrap64; decide
  have q2 : wrap64 (1 + 1) = 2 := by unfold wrap64; decide
  have h0 : newP n = ⟨L, [], -1, true, 0, 0⟩ := by rw [newP, hL]
  rw [h0]
  refine ⟨⟨L, [(i, s)], -1, true, 0, 1⟩, ⟨L, [(i, s)], -1, true, 1, 1⟩, ⟨L, [(i, s), (i, t)], -1, true, 1, 2⟩, ⟨(L.set i s).set i t, [], -1, true, 1, 2⟩, ⟨(L.set i s).set i t, [], -1, true, 2, 2⟩, ⟨((L.set i s).set i t).set i u, [], -1, true, 2, 2⟩, ⟨(((L.set i s).set i t).set i u).set i ByteArray.empty, [], -1, true, 2, 2⟩, ?_, ?_, ?_, ?_, ?_, ?_, ?_, ?_, ?_, ?_, ?_, by simp, by simp, by simp, by simp, rfl, rfl⟩
  · simp only [writeP, hs, hb _ _ _ _ _ _ hl, if_true, Int.toNat_natCast, q1]; rfl
  · simp [readS, hb _ _ _ _ _ _ hl, textOf, textR]
  · simp [readE, hb _ _ _ _ _ _ hl, textOf, textR]
  · simp only [readP, hb _ _ _ _ _ _ hl, if_true, q1]
  · simp only [writeP, ht, hb _ _ _ _ _ _ hl, if_true, Int.toNat_natCast, q2]; rfl
  · simp [flushP, settleP, keptAt]
  · simp only [readS, hb _ _ _ _ _ _ (hl2 _ _), textOf, textR, List.reverse_nil, heldS, keptS, Int.toNat_natCast, hg _ _ (hl1 _)]; rfl
  · simp only [readE, hb _ _ _ _ _ _ (hl2 _ _), textOf, textR, List.reverse_nil, heldE, keptS, Int.toNat_natCast, hg _ _ (hl1 _), ht]; rfl
  · simp only [readP, hb _ _ _ _ _ _ (hl2 _ _), if_true, q2]
  · simp only [layP, hu, hb _ _ _ _ _ _ (hl2 _ _), if_true, Int.toNat_natCast]
  · simp only [spoilP, hb _ _ _ _ _ _ (hl3 _ _ _), if_true, Int.toNat_natCast]

set_option maxRecDepth 10000 in
set_option maxHeartbeats 2000000 in
theorem walk_plateReads (a0 a1 a2 a3 : Int) (_ : (Lit.int .i64 a0).wf = true) (_ : (Lit.int .i64 a1).wf = true) (w2 : (Lit.int .u8 a2).wf = true) (w3 : (Lit.int .u8 a3).wf = true) (w : World) :
    Calls Try.prog 4 #[.int .i64 a0, .int .i64 a1, .int .u8 a2, .int .u8 a3] w fun e w' => e = .returned (.bool true) ∧ Below w.heap.size w w' := by
  obtain ⟨v, rfl, hv⟩ := wf_u8 w2
  obtain ⟨x, rfl, hx⟩ := wf_u8 w3
  by_cases h0 : a0 < 0 ∨ 32768 < a0
  · go_enter Try.func4, Try.ntmps4
    go_wp2_with fail
    refine (new_bad a0 h0 w).mono ?_
    rintro e w1 ⟨rfl, rfl⟩
    go_wp2_with fail
    refine (awake_any _).mono ?_
    rintro e w2 ⟨rfl, hb2⟩
    go_wp2
    go_ret
    exact ⟨rfl, hb2⟩
  obtain ⟨n, rfl⟩ : ∃ n : Nat, a0 = n := ⟨a0.toNat, by omega⟩
  have hn : n ≤ 32768 := by omega
  by_cases h1 : n > 40 ∨ a1 < 0 ∨ a1 ≥ n
  · have h2 : ((40 : Int) < n) ∨ (¬ (40 : Int) < n ∧ a1 < 0) ∨ (¬ (40 : Int) < n ∧ ¬ a1 < 0 ∧ (n : Int) ≤ a1) := by omega
    clear h0
    rcases h2 with h2 | ⟨h2, h3⟩ | ⟨h2, h3, h4⟩
    all_goals
      go_enter Try.func4, Try.ntmps4
      go_wp2_with fail
      refine (new_on n hn w).mono ?_
      rintro e w1 ⟨B, rfl, hp, hb⟩
      go_wp2_with fail
      refine (awake_any _).mono ?_
      rintro e w2 ⟨rfl, hb2⟩
      have HT : Hid (Below w.heap.size w w2) := hb.trans (hb2.mono hb.size)
      clear hp hb hb2
      go_wp2
      go_ret
      exact ⟨rfl, HT.out⟩
  obtain ⟨i, rfl⟩ : ∃ i : Nat, a1 = i := ⟨a1.toNat, by omega⟩
  have hi : i < n := by omega
  have hq1 : ¬ (40 : Int) < n := by omega
  have hq2 : ¬ (i : Int) < 0 := by omega
  have hq3 : ¬ (n : Int) ≤ i := by omega
  have hbv : ∀ w, Calls Try.prog 21 #[.int .u8 (v : Nat), .int .i64 64] w fun e w' => e = .returned (.string (fillS v 64)) ∧ Below w.heap.size w w' := bytes_any v 64 (by decide)
  have hbx : ∀ w, Calls Try.prog 21 #[.int .u8 (x : Nat), .int .i64 64] w fun e w' => e = .returned (.string (fillS x 64)) ∧ Below w.heap.size w w' := bytes_any x 64 (by decide)
  have hby : ∀ w, Calls Try.prog 21 #[.int .u8 ((((v + x) % 256 : Nat)) : Int), .int .i64 64] w fun e w' => e = .returned (.string (fillS ((v + x) % 256) 64)) ∧ Below w.heap.size w w' := bytes_any ((v + x) % 256) 64 (by decide)
  have hwr : IntKind.u8.wrap ((v : Int) + x) = (((v + x) % 256 : Nat) : Int) := by simp [IntKind.wrap, IntKind.signed, IntKind.bits]
  have HS : Hid _ := reads_state n i (fillS v 64) (fillS x 64) (fillS ((v + x) % 256) 64) hi (fillS_size _ _) (fillS_size _ _) (fillS_size _ _)
  obtain ⟨s, hs⟩ : ∃ s, s = fillS v 64 := ⟨_, rfl⟩
  obtain ⟨t, ht⟩ : ∃ t, t = fillS x 64 := ⟨_, rfl⟩
  obtain ⟨u, hu⟩ : ∃ u, u = fillS ((v + x) % 256) 64 := ⟨_, rfl⟩
  rw [← hs] at hbv HS
  rw [← ht] at hbx HS
  rw [← hu] at hby HS
  clear hs ht hu h0 h1
  obtain ⟨S1, S2, S3, S4, S5, S6, S7, s1, r2, r2', s2, s3, s4, r5, r5', s5, s6, s7, l1, l2, l3, l4, q1, q2⟩ := HS.out
  have HR : Hid (writeP (newP n) i s = S1 ∧ readS S1 i = s ∧ readE S1 i = 0 ∧ readP S1 i = S2 ∧ writeP S2 i t = S3 ∧ flushP S3 = S4 ∧ readS S4 i = t ∧ readE S4 i = 0 ∧ readP S4 i = S5 ∧ layP S5 i u = S6 ∧ spoilP S6 i = S7) := ⟨s1, r2, r2', s2, s3, s4, r5, r5', s5, s6, s7⟩
  have HQ : Hid (S7.reads = 2 ∧ S7.writes = 2) := ⟨q1, q2⟩
  clear s1 r2 r2' s2 s3 s4 r5 r5' s5 s6 s7 HS q1 q2
  have l0 : (newP n).wait.length ≤ 1 := by simp [newP]
  go_enter Try.func4, Try.ntmps4
  go_wp2_with fail
  refine (new_on n hn w).mono ?_
  rintro e wa ⟨B, rfl, hp, hT⟩
  go_wp2_with fail
  refine (hbv _).mono ?_
  rintro e wd ⟨rfl, hd⟩
  have hpd := hp.below hd
  have hTd := hT.trans (hd.mono hT.size)
  clear hp hT hd
  go_wp2_with fail
  refine (write_on _ B _ i s wd hpd (by omega)).mono ?_
  rintro e we ⟨rfl, hpe, he⟩
  generalize writeE (newP n) i s = z1
  rw [HR.out.1] at hpe
  have hTe := hTd.trans he
  clear hpd hTd he
  go_wp2_with fail
  refine (read_on _ B _ i we hpe (by omega)).mono ?_
  rintro e wf ⟨rfl, hpf, hf⟩
  rw [HR.out.2.1, HR.out.2.2.1]
  rw [HR.out.2.2.2.1] at hpf
  have hTf := hTe.trans hf
  clear hpe hTe hf
  go_wp2_with fail
  refine (hbx _).mono ?_
  rintro e wg ⟨rfl, hg⟩
  have hpg := hpf.below hg
  have hTg := hTf.trans (hg.mono hTf.size)
  clear hpf hTf hg
  go_wp2_with fail
  refine (write_on _ B _ i t wg hpg (by omega)).mono ?_
  rintro e wh ⟨rfl, hph, hh⟩
  generalize writeE S2 i t = z2
  rw [HR.out.2.2.2.2.1] at hph
  have hTh := hTg.trans hh
  clear hpg hTg hh
  go_wp2_with fail
  refine (flush_on _ B _ wh hph (by omega)).mono ?_
  rintro e wi ⟨rfl, hpi, hi2⟩
  generalize flushE S3 = z3
  rw [HR.out.2.2.2.2.2.1] at hpi
  have hTi := hTh.trans hi2
  clear hph hTh hi2
  go_wp2_with fail
  refine (read_on _ B _ i wi hpi (by omega)).mono ?_
  rintro e wj ⟨rfl, hpj, hj⟩
  rw [HR.out.2.2.2.2.2.2.1, HR.out.2.2.2.2.2.2.2.1]
  rw [HR.out.2.2.2.2.2.2.2.2.1] at hpj
  have hTj := hTi.trans hj
  clear hpi hTi hj
  go_wp2_with fail
  refine (hby _).mono ?_
  rintro e wk ⟨rfl, hk⟩
  have hpk := hpj.below hk
  have hTk := hTj.trans (hk.mono hTj.size)
  clear hpj hTj hk
  go_wp2_with fail
  refine (lay_on _ B _ i u wk hpk).mono ?_
  rintro e wl ⟨rfl, hpl, hl⟩
  generalize layE S5 i u = z4
  rw [HR.out.2.2.2.2.2.2.2.2.2.1] at hpl
  have hTl := hTk.trans hl
  clear hpk hTk hl
  go_wp2_with fail
  refine (spoil_on _ B _ i wl hpl).mono ?_
  rintro e wm ⟨rfl, hpm, hm⟩
  generalize spoilE S6 i = z5
  rw [HR.out.2.2.2.2.2.2.2.2.2.2] at hpm
  have hTm := hTl.trans hm
  clear hpl hTl hm
  go_wp2_with fail
  refine (hbv _).mono ?_
  rintro e wo ⟨rfl, ho⟩
  have hpo := hpm.below ho
  have hTo := hTm.trans (ho.mono hTm.size)
  clear hpm hTm ho
  go_wp2_with fail
  refine (hbx _).mono ?_
  rintro e wq ⟨rfl, hq⟩
  have hpq := hpo.below hq
  have hTq := hTo.trans (hq.mono hTo.size)
  clear hpo hTo hq
  go_wp2_with fail
  refine (reads_on _ B _ wq hpq).mono ?_
  rintro e wr ⟨rfl, rfl⟩
  rw [HQ.out.1]
  go_wp2_with fail
  refine (writes_on _ B _ wr hpq).mono ?_
  rintro e ws ⟨rfl, rfl⟩
  rw [HQ.out.2]
  go_wp2_with fail
  refine (awake_any _).mono ?_
  rintro e wt ⟨rfl, hk⟩
  have HT : Hid (Below w.heap.size w wt) := hTq.trans (hk.mono hTq.size)
  clear hTq hk hbv hbx hby hpq
  go_wp2
  go_ret
  exact ⟨rfl, HT.out⟩
end Go.Proofs.Ytmnojmcbghdciab
