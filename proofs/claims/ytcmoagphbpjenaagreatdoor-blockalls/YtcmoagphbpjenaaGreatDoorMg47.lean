/- The document's Put of a block, at a device that lies in memory. -/
import Derived.Test.YtcmoagphbpjenaaGreatDoorMg46
namespace Go.Proofs.YtcmoagphbpjenaaGreatDoor
set_option maxRecDepth 20000
open Go.RowKit

theorem ref_grown {w w1 w2 : World} {F : Nat → Prop} {B : Nat} {S : PS} (h : RefP w2 (grow (grow F w w1) w1 w2) B S) (h1 : w.heap.size ≤ w1.heap.size) (h2 : w1.heap.size ≤ w2.heap.size) : RefP w2 (grow F w w2) B S := h.mono fun k _ hk => grow_grow h1 h2 k hk
set_option maxHeartbeats 4000000 in
theorem rbput_any (B : Nat) (F : Nat → Prop) (S : PS) (at_ : Int) (r : ByteArray) (w : World) (hp : RefP w F B S) (hw : S.wait.length ≤ 900000) :
    Calls Tryz.prog 16 #[.pointer (some ⟨B, 0, none⟩), .int .i64 at_, .string r] w fun e w' => e = .returned (.int .i64 (bputE S at_ r)) ∧ RefP w' (grow F w w') B (bputP S at_ r) ∧ Touch F w w' := by
  by_cases hr : r.size = 512
  · obtain ⟨oa, cap, c0, hm⟩ := hp.c0
    obtain ⟨n, hn⟩ : ∃ n, n = S.kept.length := ⟨_, rfl⟩
    rw [← hn] at c0 hm
    obtain ⟨nb, hnb⟩ : ∃ nb : Nat, nb = n / 8 := ⟨_, rfl⟩
    have d8 : (n : Int) / 8 = (nb : Int) := by omega
    have hr2 : (r.size : Int) = 512 := by omega
    have HSZ : Hid (r.size = 512) := hr
    cases hb : bhasB S at_
    · have hno : ¬ (0 ≤ at_ ∧ at_ < (nb : Int)) := by
        have := of_decide_eq_false hb
        rwa [← hn, ← hnb] at this
      have HF : Hid ((bputE S at_ r = 2 ∧ bputP S at_ r = S) ∧ RefP w F B S) := ⟨by simp [bputE, bputP, hb, hr], hp⟩
      rw [HF.out.1.1, HF.out.1.2]
      clear hp hn hnb hr
      by_cases h0 : at_ < 0
      · clear hno
        go_enter Tryz.func16, Tryz.ntmps16
        go_wp2
        go_ret
        exact ⟨rfl, ref_grow HF.out.2, Touch.refl _ _⟩
      · have h1 : decide (at_ < 0) = false := decide_eq_false h0
        have h2 : (nb : Int) ≤ at_ := by omega
        clear hno
        go_enter Tryz.func16, Tryz.ntmps16
        go_wp2
        go_ret
        exact ⟨rfl, ref_grow HF.out.2, Touch.refl _ _⟩
    · have hb2 : 0 ≤ at_ ∧ at_ < (nb : Int) := by
        have := of_decide_eq_true hb
        rwa [← hn, ← hnb] at this
      obtain ⟨a, rfl⟩ : ∃ a : Nat, at_ = a := ⟨at_.toNat, by omega⟩
      have HR : Hid (bputE S (a : Int) r = (putGo r a 8 0 S).1 ∧ bputP S (a : Int) r = (putGo r a 8 0 S).2) := ⟨by simp [bputE, hb, hr], by simp [bputP, hb, hr]⟩
      rw [HR.out.1, HR.out.2]
      have ha : a < 4096 := by omega
      have h2 : decide (nb ≤ a) = false := decide_eq_false (by omega)
      obtain ⟨G, hG⟩ : ∃ G, putGo r a 8 0 S = G := ⟨_, rfl⟩
      rw [hG]
      have HG : Hid (putGo r a 8 0 S = G) := hG
      have HP : Hid (RefP w (grow F w w) B S) := ref_grow hp
      have HA2 : Hid (a < nb) := by show _ < _; omega
      clear hp hb HR hb2 hG hn hnb hr
      go_enter Tryz.func16, Tryz.ntmps16
      go_wp2_with fail
      go_loopw [7] (fun i wr => ∃ (j : Nat) (Sj : PS), j ≤ 8 ∧ i = .int .i64 (j : Int) ∧ putGo r a (8 - j) j Sj = G ∧ RefP wr (grow F w wr) B Sj ∧ Touch F w wr ∧ Sj.wait.length ≤ 900000 + j) (fun i _ => 8 - (intOf i).toNat)
      case atStart => exact ⟨0, S, by omega, rfl, HG.out, HP.out, Touch.refl _ _, by omega⟩
      case round =>
        clear HG HP c0
        obtain ⟨j, Sj, hj, rfl, hgo, hpj, htj, hwj⟩ := hrel
        by_cases hlt8 : j < 8
        · have j1 : (j : Int) < 8 := by omega
          obtain ⟨x, hx⟩ : ∃ x : Int, x = ((8 * a + j : Nat) : Int) := ⟨_, rfl⟩
          have HGO : Hid (putGo r a (8 - j) j Sj = if writeE Sj x (secS r j) = 0 then putGo r a (8 - (j + 1)) (j + 1) (writeP Sj x (secS r j)) else (writeE Sj x (secS r j), writeP Sj x (secS r j))) := by
            show _ = _
            rw [show 8 - j = (8 - (j + 1)) + 1 by omega, hx]
            rfl
          rw [HGO.out] at hgo
          have hwr := rwrite_any B (grow F w wr) Sj x (secS r j) wr hpj (by omega)
          have hwl : (writeP Sj x (secS r j)).wait.length ≤ 900000 + (j + 1) := by have := (writeP_len Sj x (secS r j)).2; omega
          have HWL : Hid ((writeP Sj x (secS r j)).wait.length ≤ 900000 + (j + 1)) := hwl
          have m4 : IntKind.i64.wrap (8 * (a : Int)) = 8 * (a : Int) := by rw [IntKind.wrap_i64]; omega
          have m5 : IntKind.i64.wrap (8 * (a : Int) + (j : Int)) = x := by rw [IntKind.wrap_i64]; omega
          have hex : r.extract (64 * j) (64 * j + 64) = secS r j := rfl
          have b1 : (64 : Int) * (j : Int) + 64 ≤ (r.size : Int) := by omega
          have b1' : (64 : Int) * (j : Int) + 64 ≤ 512 := by omega
          have b2 : (0 : Int) ≤ 64 * (j : Int) := by omega
          have b3 : (64 : Int) * (j : Int) ≤ 64 * (j : Int) + 64 := by omega
          have HT : Hid (Touch F w wr) := htj
          clear HGO hpj htj hx hwl
          generalize secS r j = sc at *
          generalize writeE Sj x sc = y at *
          generalize writeP Sj x sc = Sk at *
          by_cases hy : y = 0
          · subst hy
            rw [if_pos rfl] at hgo
            have HGO : Hid _ := hgo
            clear hgo
            go_wp2_with fail
            refine hwr.mono ?_
            rintro e w3 ⟨rfl, hp3, ht3⟩
            have HF : Hid (RefP w3 (grow F w w3) B Sk ∧ Touch F w w3) := ⟨ref_grown hp3 HT.out.size ht3.size, HT.out.trans ht3⟩
            clear hwr hp3 ht3 HT
            go_wp2
            go_roundw
            case rel => exact ⟨j + 1, Sk, by omega, by go_num, HGO.out, HF.out.1, HF.out.2, HWL.out⟩
            case measure => simp [intOf]; omega
          · have hyz : (y == 0) = false := by simp [hy]
            rw [if_neg hy] at hgo
            have HGO : Hid _ := hgo
            clear hgo
            go_wp2_with fail
            refine hwr.mono ?_
            rintro e w3 ⟨rfl, hp3, ht3⟩
            have HF : Hid (RefP w3 (grow F w w3) B Sk ∧ Touch F w w3) := ⟨ref_grown hp3 HT.out.size ht3.size, HT.out.trans ht3⟩
            clear hwr hp3 ht3 HT
            go_wp2
            go_ret
            rw [← HGO.out]
            exact ⟨rfl, HF.out⟩
        · obtain rfl : j = 8 := by omega
          have HF : Hid (((0 : Int), Sj) = G ∧ RefP wr (grow F w wr) B Sj ∧ Touch F w wr) := ⟨hgo, hpj, htj⟩
          clear hgo hpj htj
          go_wp2
          go_ret
          rw [← HF.out.1]
          exact ⟨rfl, HF.out.2⟩
  · have HF : Hid ((bputE S at_ r = 1 ∧ bputP S at_ r = S) ∧ RefP w F B S) := ⟨by simp [bputE, bputP, hr], hp⟩
    rw [HF.out.1.1, HF.out.1.2]
    have hr2 : ((r.size : Int) == 512) = false := by simp; omega
    clear hp
    go_enter Tryz.func16, Tryz.ntmps16
    go_wp2
    go_ret
    exact ⟨rfl, ref_grow HF.out.2, Touch.refl _ _⟩
end Go.Proofs.YtcmoagphbpjenaaGreatDoor
