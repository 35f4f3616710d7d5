/- The law PlateFuse, called with any two numbers, returns true, and changes nothing that was there. -/
import Derived.Test.YtmnojmcbghdciaaPlOn
namespace Go.Proofs.Ytmnojmcbghdciaa
open Go.RowKit

theorem int_lt {x : Int} (h : (Lit.int .i64 x).wf = true) : -9223372036854775808 ≤ x ∧ x < 9223372036854775808 := by
  simp [Lit.wf, IntKind.min, IntKind.max, IntKind.signed, IntKind.bits] at h
  omega
/-- Behind j of n writes. -/
def fuseS (s : ByteArray) (n j : Nat) : PS := ⟨List.replicate 4 (fillS 0 64), (List.range j).map fun k => (k % 4, s), (n : Int) - j, true, 0, (j : Nat)⟩
theorem fuseS_wait (s : ByteArray) (n j : Nat) : (fuseS s n j).wait.length = j := by simp [fuseS]
theorem fuseS_step (s : ByteArray) (n j : Nat) (hn : n ≤ 200) (hj : j < n) (hs : s.size = 64) : writeE (fuseS s n j) ((j % 4 : Nat) : Int) s = 0 ∧ writeP (fuseS s n j) ((j % 4 : Nat) : Int) s = fuseS s n (j + 1) := by
  have hb : hasB (fuseS s n j) ((j % 4 : Nat) : Int) = true := by simp [hasB, fuseS]; omega
  have hf : ¬ (fuseS s n j).fuse = 0 := by simp [fuseS]; omega
  have hf1 : ¬ (fuseS s n j).fuse = -1 := by simp [fuseS]; omega
  have hu : (fuseS s n j).up = true := rfl
  have hw : wrap64 ((fuseS s n j).writes + 1) = ((j + 1 : Nat) : Int) := by simp only [fuseS, wrap64]; omega
  refine ⟨by simp only [writeE, hs, hu, hb, hf, if_true, if_false], ?_⟩
  simp only [writeP, hs, hu, hb, hf, hf1, if_true, if_false, hw, Int.toNat_natCast]
  simp only [fuseS, List.range_succ, List.map_append, List.map_cons, List.map_nil]
  congr 1
  omega
theorem fuseS_end (s t : ByteArray) (n : Nat) (more : Int) (ht : t.size = 64) : ∃ S, writeE (fuseS s n n) 0 t = 20 ∧ writeP (fuseS s n n) 0 t = S ∧ S.wait.length = n ∧ S.writes = n ∧ S.up = false ∧ flushE S = 20 ∧ flushP S = S ∧ readE S 0 = 20 ∧ readP S 0 = S ∧ armE S more = (if more < 0 then 1 else 20) ∧ armP S more = S := by
  have hb : hasB (fuseS s n n) 0 = true := by simp [hasB, fuseS]
  have hf : (fuseS s n n).fuse = 0 := by simp [fuseS]
  have hu : (fuseS s n n).up = true := rfl
  refine ⟨{ fuseS s n n with up := false }, by simp only [writeE, ht, hu, hb, hf, if_true], by simp only [writeP, ht, hu, hb, hf, if_true], fuseS_wait s n n, rfl, rfl, rfl, rfl, rfl, rfl, rfl, ?_⟩
  simp [armP]
theorem arm_new (n : Int) : armE (newP 4) n = (if n < 0 then 1 else 0) := by simp [armE, newP]
theorem arm_fuse (s : ByteArray) (n : Nat) : armP (newP 4) n = fuseS s n 0 := by
  have h : ¬ (n : Int) < 0 := by omega
  simp [armP, newP, fuseS, h]

set_option maxRecDepth 10000 in
set_option maxHeartbeats 2000000 in
theorem walk_plateFuse (a0 a1 : Int) (w0 : (Lit.int .i64 a0).wf = true) (w1 : (Lit.int .i64 a1).wf = true) (w : World) :
    Calls Try.prog 5 #[.int .i64 a0, .int .i64 a1] w fun e w' => e = .returned (.bool true) ∧ Below w.heap.size w w' := by
  have hn4 := new_on 4 (by decide) w
  have h0 := int_lt w0
  have h1 := int_lt w1
  clear w0 w1
  by_cases hc : a0 < 0 ∨ 200 < a0
  · have ha := arm_new a0
    rcases hc with hc | hc
    · rw [if_pos hc] at ha
      go_enter Try.func5, Try.ntmps5
      go_wp2_with fail
      refine hn4.mono ?_
      rintro e wa ⟨B, rfl, hp, hT⟩
      clear hn4
      go_wp2_with fail
      refine (arm_on _ B _ a0 h0.2 wa hp).mono ?_
      rintro e wb ⟨rfl, hpb, hb⟩
      rw [ha]
      have hTb := hT.trans hb
      clear hp hT hb hpb
      go_wp2_with fail
      refine (awake_any _).mono ?_
      rintro e wc ⟨rfl, hk⟩
      have HT : Hid (Below w.heap.size w wc) := hTb.trans (hk.mono hTb.size)
      clear hTb hk
      go_wp2
      go_ret
      exact ⟨rfl, HT.out⟩
    · obtain ⟨m, rfl⟩ : ∃ m : Nat, a0 = m := ⟨a0.toNat, by omega⟩
      have hc' : ¬ (m : Int) < 0 := by omega
      rw [if_neg hc'] at ha
      go_enter Try.func5, Try.ntmps5
      go_wp2_with fail
      refine hn4.mono ?_
      rintro e wa ⟨B, rfl, hp, hT⟩
      clear hn4
      go_wp2_with fail
      refine (arm_on _ B _ m h0.2 wa hp).mono ?_
      rintro e wb ⟨rfl, hpb, hb⟩
      rw [ha]
      have hTb := hT.trans hb
      clear hp hT hb hpb
      go_wp2_with fail
      refine (awake_any _).mono ?_
      rintro e wc ⟨rfl, hk⟩
      have HT : Hid (Below w.heap.size w wc) := hTb.trans (hk.mono hTb.size)
      clear hTb hk
      go_wp2
      go_ret
      exact ⟨rfl, HT.out⟩
  obtain ⟨n, rfl⟩ : ∃ n : Nat, a0 = n := ⟨a0.toNat, by omega⟩
  have hn : n ≤ 200 := by omega
  have hc1 : ¬ (n : Int) < 0 := by omega
  have hc2 : ¬ (200 : Int) < n := by omega
  clear hc
  have ha := arm_new n
  rw [if_neg hc1] at ha
  have hb1 : ∀ w, Calls Try.prog 14 #[.int .u8 1, .int .i64 64] w fun e w' => e = .returned (.string (fillS 1 64)) ∧ Below w.heap.size w w' := bytes_any 1 64 (by decide)
  have hb2 : ∀ w, Calls Try.prog 14 #[.int .u8 2, .int .i64 64] w fun e w' => e = .returned (.string (fillS 2 64)) ∧ Below w.heap.size w w' := bytes_any 2 64 (by decide)
  have hs1 := fillS_size 1 64
  have ht1 := fillS_size 2 64
  obtain ⟨s, hs⟩ : ∃ s, s = fillS 1 64 := ⟨_, rfl⟩
  obtain ⟨t, ht⟩ : ∃ t, t = fillS 2 64 := ⟨_, rfl⟩
  rw [← hs] at hb1 hs1
  rw [← ht] at hb2 ht1
  clear hs ht
  have HA : Hid (armP (newP 4) n = fuseS s n 0) := arm_fuse s n
  obtain ⟨Z, r1, z1, z2, z3, z4, r2, z5, r3, z6, r4, z7⟩ := fuseS_end s t n a1 ht1
  have HZ : Hid (writeE (fuseS s n n) 0 t = 20 ∧ writeP (fuseS s n n) 0 t = Z ∧ flushE Z = 20 ∧ flushP Z = Z ∧ readE Z 0 = 20 ∧ readP Z 0 = Z ∧ armE Z a1 = (if a1 < 0 then 1 else 20) ∧ armP Z a1 = Z ∧ Z.wait.length = n ∧ Z.writes = n ∧ Z.up = false) := ⟨r1, z1, r2, z5, r3, z6, r4, z7, z2, z3, z4⟩
  have HST : Hid (∀ j, j < n → writeE (fuseS s n j) ((j % 4 : Nat) : Int) s = 0 ∧ writeP (fuseS s n j) ((j % 4 : Nat) : Int) s = fuseS s n (j + 1)) := fun j hj => fuseS_step s n j hn hj hs1
  have HW : Hid (∀ j, (fuseS s n j).wait.length = j ∧ (fuseS s n j).up = true) := fun j => ⟨fuseS_wait s n j, rfl⟩
  have hzl : Z.wait.length ≤ 1000000 := by omega
  clear r1 z1 z2 z3 z4 r2 z5 r3 z6 r4 z7 hs1 ht1
  go_enter Try.func5, Try.ntmps5
  go_wp2_with fail
  refine hn4.mono ?_
  rintro e wa ⟨B, rfl, hp, hT⟩
  clear hn4
  go_wp2_with fail
  refine (arm_on _ B _ n h0.2 wa hp).mono ?_
  rintro e wb ⟨rfl, hpb, hb⟩
  rw [ha]
  rw [HA.out] at hpb
  have HB : Hid (OnB w.heap.size wb B (fuseS s n 0) ∧ Below w.heap.size w wb) := ⟨hpb, hT.trans hb⟩
  clear hp hT hb hpb ha h0
  go_wp2_with fail
  go_loopw [7] (fun v wr => ∃ j : Nat, j ≤ n ∧ v = .int .i64 j ∧ OnB w.heap.size wr B (fuseS s n j) ∧ Below w.heap.size w wr) (fun v _ => n - (intOf v).toNat)
  case atStart => exact ⟨0, Nat.zero_le _, rfl, HB.out.1, HB.out.2⟩
  case round =>
    clear HB
    obtain ⟨j, hj, rfl, hp, hT⟩ := hrel
    by_cases hlt : j < n
    · have j1 : (j : Int) < n := by omega
      obtain ⟨m, hm⟩ : ∃ m, m = j % 4 := ⟨_, rfl⟩
      have j2 : (j : Int) % 4 = (m : Int) := by omega
      have j3 : (j : Int).tmod 4 = (m : Int) := by rw [Int.tmod_eq_emod_of_nonneg (by omega)]; exact j2
      have HM : Hid (writeE (fuseS s n j) (m : Int) s = 0 ∧ writeP (fuseS s n j) (m : Int) s = fuseS s n (j + 1)) := by rw [hm]; exact HST.out j hlt
      clear hm
      go_wp2_with fail
      refine (hb1 _).mono ?_
      rintro e wd ⟨rfl, hd⟩
      have hpd := hp.below hd
      have hTd := hT.trans (hd.mono hT.size)
      clear hp hT hd
      go_wp2_with fail
      refine (write_on _ B _ m s wd hpd (by rw [(HW.out j).1]; omega)).mono ?_
      rintro e we ⟨rfl, hpe, he⟩
      rw [HM.out.1]
      rw [HM.out.2] at hpe
      have HF : Hid (OnB w.heap.size we B (fuseS s n (j + 1)) ∧ Below w.heap.size w we) := ⟨hpe, hTd.trans he⟩
      clear hpd hTd he hpe
      go_wp2
      go_roundw
      case rel => exact ⟨j + 1, by omega, by go_num, HF.out.1, HF.out.2⟩
      case measure => simp [intOf]; omega
    · obtain rfl : j = n := by omega
      go_wp2_with fail
      refine (up_on _ B _ _ hp).mono ?_
      rintro e wc ⟨rfl, rfl⟩
      rw [(HW.out j).2]
      go_wp2_with fail
      refine (hb2 _).mono ?_
      rintro e wd ⟨rfl, hd⟩
      have hpd := hp.below hd
      have hTd := hT.trans (hd.mono hT.size)
      clear hp hT hd
      go_wp2_with fail
      refine (write_on _ B _ 0 t wd hpd (by rw [(HW.out j).1]; omega)).mono ?_
      rintro e we ⟨rfl, hpe, he⟩
      rw [HZ.out.1]
      rw [HZ.out.2.1] at hpe
      have hTe := hTd.trans he
      clear hpd hTd he
      go_wp2_with fail
      refine (flush_on _ B _ we hpe hzl).mono ?_
      rintro e wf ⟨rfl, hpf, hf⟩
      rw [HZ.out.2.2.1]
      rw [HZ.out.2.2.2.1] at hpf
      have hTf := hTe.trans hf
      clear hpe hTe hf
      go_wp2_with fail
      refine (read_on _ B _ 0 wf hpf hzl).mono ?_
      rintro e wg ⟨rfl, hpg, hg⟩
      rw [HZ.out.2.2.2.2.1]
      rw [HZ.out.2.2.2.2.2.1] at hpg
      have hTg := hTf.trans hg
      clear hpf hTf hg
      generalize readS Z 0 = t9
      go_wp2_with fail
      refine (arm_on _ B _ a1 h1.2 wg hpg).mono ?_
      rintro e wh ⟨rfl, hph, hh⟩
      rw [HZ.out.2.2.2.2.2.2.1]
      rw [HZ.out.2.2.2.2.2.2.2.1] at hph
      have hTh := hTg.trans hh
      clear hpg hTg hh
      have hpn := pending_on _ B _ wh hph
      have hup := up_on _ B _ wh hph
      have hwt := writes_on _ B _ wh hph
      rw [HZ.out.2.2.2.2.2.2.2.2.1] at hpn
      rw [HZ.out.2.2.2.2.2.2.2.2.2.1] at hwt
      rw [HZ.out.2.2.2.2.2.2.2.2.2.2] at hup
      clear hph
      by_cases hm : a1 < 0
      case' pos => rw [if_pos hm]
      case' neg => rw [if_neg hm]
      all_goals
        go_wp2_with fail
        refine hup.mono ?_
        rintro e wi ⟨rfl, rfl⟩
        clear hup
        go_wp2_with fail
        refine hpn.mono ?_
        rintro e wj ⟨rfl, rfl⟩
        clear hpn
        go_wp2_with fail
        refine hwt.mono ?_
        rintro e wk ⟨rfl, rfl⟩
        clear hwt
        go_wp2_with fail
        refine (awake_any _).mono ?_
        rintro e wl ⟨rfl, hk⟩
        have HT : Hid (Below w.heap.size w wl) := hTh.trans (hk.mono hTh.size)
        clear hTh hk
        go_wp2
        go_ret
        exact ⟨rfl, HT.out⟩
end Go.Proofs.Ytmnojmcbghdciaa
