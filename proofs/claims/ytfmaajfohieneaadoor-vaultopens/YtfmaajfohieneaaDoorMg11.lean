/- The laws' cut: a text, or its first bytes. · The law VaultOpens, over what sum and box tell: called with any pass phrase, salt and texts, it returns true, and changes nothing that was there. -/
import Derived.Test.YtfmaajfohieneaaDoorMg09
import Derived.Test.YtfmaajfohieneaaDoorVtRealV
namespace Go.Proofs.YtfmaajfohieneaaDoor
set_option maxRecDepth 20000
open Go.RowKit

def cutV (s : ByteArray) (n : Nat) : ByteArray := if n < s.size then s.extract 0 n else s
theorem cutV_size (s : ByteArray) (n : Nat) : (cutV s n).size ≤ n := by
  unfold cutV
  split
  · simp; omega
  · omega
theorem cutv_z (s : ByteArray) (n : Nat) (z : Int) (hz : z = (n : Int)) (w : World) :
    Calls Tryd.prog 4 #[.string s, .int .i64 z] w fun e w' => e = .returned (.string (cutV s n)) ∧ w' = w := by
  subst hz
  by_cases h : n < s.size
  · have HC : Hid (cutV s n = s.extract 0 n) := if_pos h
    have h1 : (n : Int) < s.size := by omega
    have h2 : (n : Int) ≤ s.size := by omega
    go_enter Tryd.func4, Tryd.ntmps4
    go_wp2
    go_ret
    exact ⟨by rw [HC.out]; rfl, rfl⟩
  · have HC : Hid (cutV s n = s) := if_neg h
    have h1 : ¬ (n : Int) < s.size := by omega
    go_enter Tryd.func4, Tryd.ntmps4
    go_wp2
    go_ret
    exact ⟨by rw [HC.out]; rfl, rfl⟩
/-- The cut as the walk meets it. -/
def cutI (s : ByteArray) (z : Int) : ByteArray := cutV s z.toNat
theorem cutI_any (s : ByteArray) (z : Int) (hz : 0 ≤ z) (w : World) :
    Calls Tryd.prog 4 #[.string s, .int .i64 z] w fun e w' => e = .returned (.string (cutI s z)) ∧ w' = w := cutv_z s z.toNat z (by omega) w
theorem cutI_size (s : ByteArray) (n : Nat) : (cutI s n).size ≤ n := cutV_size s n
end Go.Proofs.YtfmaajfohieneaaDoor

namespace Go.Proofs.YtfmaajfohieneaaDoor
set_option maxRecDepth 20000
open Go.RowKit

structure Backs (f : PF) : Prop where
  back : ∀ k n a s : ByteArray, k.size = 32 → n.size = 12 → a.size ≤ 1048576 → s.size ≤ 1048000 → f.shutX k n = 0 ∧ f.opnX k n a (f.shut k n a s) = 0 ∧ f.opn k n a (f.shut k n a s) = s ∧ 16 ≤ (f.shut k n a s).size ∧ (f.shut k n a s).size ≤ 1048576
theorem beq_dec4 (a b : ByteArray) : (a.toList == b.toList) = decide (a = b) := by
  by_cases e : a = b
  · subst e; simp
  · rw [str_ne e]; simp [e]

set_option maxRecDepth 100000 in
set_option maxHeartbeats 4000000 in
theorem walk_vaultOpens_gen {Tab : World → Prop} {f : PF} (P : Prims Tab f) (K : Backs f)
    (hst : ∀ pass : ByteArray, pass.size ≤ 100 → ∃ X : ByteArray, X.size = 32 ∧ ∀ w, Tab w → Calls Tryd.prog 11 #[.string pass, .string ⟨#[115, 97, 108, 116]⟩, .int .i64 2, .int .i64 32] w fun e w' => e = .returned (.tuple #[.string X, .int .i64 0]) ∧ Below w.heap.size w w')
    (pass : ByteArray) (z : Int) (ad s other : ByteArray) (ho : other.size ≤ maxLen) (w : World) (ht : Tab w) :
    Calls Tryd.prog 3 #[.string pass, .int .i64 z, .string ad, .string s, .string other] w fun e w' => e = .returned (.bool true) ∧ Below w.heap.size w w' := by
  have hcut := fun (s : ByteArray) (z : Int) (hz : 0 ≤ z) W => cutI_any s z hz W
  have z1 : (cutI s 600).size ≤ 600 := cutI_size s 600
  have z2 : (cutI ad 600).size ≤ 600 := cutI_size ad 600
  have z3 : (cutI pass 100).size ≤ 100 := cutI_size pass 100
  obtain ⟨X, hX, hS⟩ := hst (cutI pass 100) z3
  have hc1 := fun W => hcut s 600 (by decide) W
  have hc2 := fun W => hcut ad 600 (by decide) W
  have hc3 := fun W => hcut pass 100 (by decide) W
  generalize cutI s 600 = t at *
  generalize cutI ad 600 = a at *
  generalize cutI pass 100 = p at *
  have hreal := real_yes w (hS w ht)
  have HT : Hid (∀ W, Below w.heap.size w W → Tab W) := fun W hW => P.tab ht hW
  have nS : (⟨#[97, 98, 99, 100, 101, 102, 103, 104, 105, 106, 107, 108]⟩ : ByteArray).size = 12 := rfl
  have hseal := fun B W hW hR => rvseal_any P B X z ⟨#[97, 98, 99, 100, 101, 102, 103, 104, 105, 106, 107, 108]⟩ a t (by omega) (by omega) (by omega) W hW hR
  clear hst hcut hS ht
  by_cases hf : 0 ≤ z ∧ z ≤ 281474976710655
  case neg =>
    have hfB : fitB z ⟨#[97, 98, 99, 100, 101, 102, 103, 104, 105, 106, 107, 108]⟩ = false := by unfold fitB; simp; omega
    have e1 : sealRE f X z ⟨#[97, 98, 99, 100, 101, 102, 103, 104, 105, 106, 107, 108]⟩ = 1 := by unfold sealRE; rw [hfB]; rfl
    have e2 : sealRS f X z ⟨#[97, 98, 99, 100, 101, 102, 103, 104, 105, 106, 107, 108]⟩ a t = ⟨#[]⟩ := by unfold sealRS; rw [hfB]; rfl
    rw [e1, e2] at hseal
    clear e1 e2 hfB nS P K
    by_cases hz : z < 0
    case' neg => have hz2 : 281474976710656 ≤ z := by omega
    all_goals
      clear hf
      go_enter Tryd.func3, Tryd.ntmps3
      go_wp2_with fail
      refine (hc1 _).mono ?_
      rintro e wc ⟨rfl, rfl⟩
      go_wp2_with fail
      refine (hc2 _).mono ?_
      rintro e wc ⟨rfl, rfl⟩
      go_wp2_with fail
      refine (hc3 _).mono ?_
      rintro e wc ⟨rfl, rfl⟩
      clear hc1 hc2 hc3
      go_wp2_with fail
      refine hreal.mono ?_
      rintro e w1 ⟨B, rfl, hR, hb⟩
      clear hreal
      have hs1 := hseal B w1 (HT.out _ hb) hR
      clear hseal
      go_wp2_with fail
      refine hs1.mono ?_
      rintro e w2 ⟨rfl, hb2⟩
      clear hs1 hR
      have HB2 : Hid (Below wc.heap.size wc w2) := hb.trans (hb2.mono hb.size)
      clear hb hb2 HT
      go_wp2_with fail
      refine (awake_any _).mono ?_
      rintro e w3 ⟨rfl, hb3⟩
      have HF : Hid (Below wc.heap.size wc w3) := HB2.out.trans (hb3.mono HB2.out.size)
      clear hb3 HB2
      go_wp2
      go_ret
      exact ⟨rfl, HF.out⟩
  have hfB : fitB z ⟨#[97, 98, 99, 100, 101, 102, 103, 104, 105, 106, 107, 108]⟩ = true := by unfold fitB; simp [hf.1, hf.2]; rfl
  obtain ⟨k1, k2, k3, k4, k5⟩ := K.back (sealK f X z) ⟨#[97, 98, 99, 100, 101, 102, 103, 104, 105, 106, 107, 108]⟩ a t (P.expz _ _) nS (by omega) (by omega)
  have e1 : sealRE f X z ⟨#[97, 98, 99, 100, 101, 102, 103, 104, 105, 106, 107, 108]⟩ = 0 := by unfold sealRE; rw [hfB, if_pos rfl, k1]
  have e2 : sealRS f X z ⟨#[97, 98, 99, 100, 101, 102, 103, 104, 105, 106, 107, 108]⟩ a t = f.shut (sealK f X z) ⟨#[97, 98, 99, 100, 101, 102, 103, 104, 105, 106, 107, 108]⟩ a t := by unfold sealRS; rw [hfB, if_pos rfl]
  rw [e1, e2] at hseal
  have hopen := fun B W hW hR => rvopen_any P B X z ⟨#[97, 98, 99, 100, 101, 102, 103, 104, 105, 106, 107, 108]⟩ a (f.shut (sealK f X z) ⟨#[97, 98, 99, 100, 101, 102, 103, 104, 105, 106, 107, 108]⟩ a t) (by omega) (by omega) k5 W hW hR
  have e3 : openRE f X z ⟨#[97, 98, 99, 100, 101, 102, 103, 104, 105, 106, 107, 108]⟩ a (f.shut (sealK f X z) ⟨#[97, 98, 99, 100, 101, 102, 103, 104, 105, 106, 107, 108]⟩ a t) = 0 := by unfold openRE; rw [hfB, if_pos rfl, if_neg (by omega), k2]
  have e4 : openRS f X z ⟨#[97, 98, 99, 100, 101, 102, 103, 104, 105, 106, 107, 108]⟩ a (f.shut (sealK f X z) ⟨#[97, 98, 99, 100, 101, 102, 103, 104, 105, 106, 107, 108]⟩ a t) = t := by unfold openRS; rw [hfB, if_pos rfl, if_neg (by omega), k3]
  rw [e3, e4] at hopen
  have nA : (⟨#[97]⟩ : ByteArray).size = 1 := rfl
  have hmac := fun B W hW hR => rvmac_any P B X ⟨#[97]⟩ t (by omega) (by omega) (by omega) W hW hR
  have hmz : (macR f X ⟨#[97]⟩ t).size ≤ 16 := by unfold macR; simp; omega
  have hmd := fun tag htg B W hW hR => rvmade_any P B X ⟨#[97]⟩ t tag (by omega) (by omega) (by omega) htg W hW hR
  generalize f.shut (sealK f X z) ⟨#[97, 98, 99, 100, 101, 102, 103, 104, 105, 106, 107, 108]⟩ a t = y at *
  generalize macR f X ⟨#[97]⟩ t = m at *
  have hm1 := hmd m (by unfold maxLen; omega)
  rw [show decide (m = m) = true by simp] at hm1
  have hm2 := hmd other ho
  have hoo : (decide (other = m) == (other.toList == m.toList)) = true := by rw [beq_dec4]; simp
  rw [← beq_dec4] at hm2
  obtain ⟨q, hq⟩ : ∃ q, q = (other.toList == m.toList) := ⟨_, rfl⟩
  have hqq : (q == q) = true := by simp
  have HQ : Hid ((other.toList == m.toList) = q) := hq.symm
  rw [← hq] at hm2
  have hz1 : ¬ z < 0 := by omega
  have hz2 : ¬ 281474976710656 ≤ z := by omega
  clear e1 e2 e3 e4 k1 k2 k3 k4 k5 hfB nS nA P K hmz hmd hoo hq hf
  go_enter Tryd.func3, Tryd.ntmps3
  go_wp2_with fail
  refine (hc1 _).mono ?_
  rintro e wc ⟨rfl, rfl⟩
  go_wp2_with fail
  refine (hc2 _).mono ?_
  rintro e wc ⟨rfl, rfl⟩
  go_wp2_with fail
  refine (hc3 _).mono ?_
  rintro e wc ⟨rfl, rfl⟩
  clear hc1 hc2 hc3
  go_wp2_with fail
  refine hreal.mono ?_
  rintro e w1 ⟨B, rfl, hR, hb⟩
  clear hreal
  have hs1 := hseal B w1 (HT.out _ hb) hR
  clear hseal
  go_wp2_with fail
  refine hs1.mono ?_
  rintro e w2 ⟨rfl, hb2⟩
  have hR2 := hR.below hb2
  have hB2 := hb.trans (hb2.mono hb.size)
  clear hs1 hR hb hb2
  have hs2 := hopen B w2 (HT.out _ hB2) hR2
  clear hopen
  go_wp2_with fail
  refine hs2.mono ?_
  rintro e w3 ⟨rfl, hb3⟩
  have hR3 := hR2.below hb3
  have hB3 := hB2.trans (hb3.mono hB2.size)
  clear hs2 hR2 hB2 hb3
  have hs3 := hmac B w3 (HT.out _ hB3) hR3
  clear hmac
  go_wp2_with fail
  refine hs3.mono ?_
  rintro e w4 ⟨rfl, hb4⟩
  have hR4 := hR3.below hb4
  have hB4 := hB3.trans (hb4.mono hB3.size)
  clear hs3 hR3 hB3 hb4
  have hs4 := hm1 B w4 (HT.out _ hB4) hR4
  clear hm1
  go_wp2_with fail
  refine hs4.mono ?_
  rintro e w5 ⟨rfl, hb5⟩
  have hR5 := hR4.below hb5
  have hB5 := hB4.trans (hb5.mono hB4.size)
  clear hs4 hR4 hB4 hb5
  have hs5 := hm2 B w5 (HT.out _ hB5) hR5
  clear hm2
  go_wp2_with fail
  refine hs5.mono ?_
  rintro e w6 ⟨rfl, hb6⟩
  have HB6 : Hid (Below wc.heap.size wc w6) := hB5.trans (hb6.mono hB5.size)
  clear hs5 hR5 hB5 hb6 HT
  have hQ := HQ.out
  go_wp2_with fail
  refine (awake_any _).mono ?_
  rintro e w7 ⟨rfl, hb7⟩
  have HF : Hid (Below wc.heap.size wc w7) := HB6.out.trans (hb7.mono HB6.out.size)
  clear hb7 HB6
  go_wp2
  go_ret
  exact ⟨rfl, HF.out⟩
end Go.Proofs.YtfmaajfohieneaaDoor
