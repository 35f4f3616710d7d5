/- box.Same: whether two texts are one. -/
import Derived.Test.YtolmfhgpdcmhlaaPolyAll
namespace Go.Proofs.Ytolmfhgpdcmhlaa
open Go.RowKit

theorem or_zero (v x y : Nat) : (v ||| (x ^^^ y) = 0) ↔ (v = 0 ∧ x = y) := by
  rw [Nat.or_eq_zero_iff]
  constructor
  · rintro ⟨h1, h2⟩
    exact ⟨h1, by
      have h3 : x ^^^ y ^^^ y = 0 ^^^ y := by rw [h2]
      rw [Nat.xor_assoc, Nat.xor_self, Nat.xor_zero, Nat.zero_xor] at h3
      exact h3⟩
  · rintro ⟨h1, rfl⟩
    exact ⟨h1, Nat.xor_self _⟩
theorem same_bits (v x y : Nat) (hv : v < 256) (hx : x < 256) (hy : y < 256) : ∃ u : Nat, u < 256 ∧ bits .or .u8 (v : Int) (bits .xor .u8 (x : Int) (y : Int)) = u ∧ (u = 0 ↔ (v = 0 ∧ x = y)) := by
  have h1 : x ^^^ y < 256 := Nat.xor_lt_two_pow (n := 8) hx hy
  exact ⟨v ||| (x ^^^ y), Nat.or_lt_two_pow (n := 8) hv h1, by rw [u8_xor_nat x y hx hy, u8_or_nat v _ hv h1], or_zero v x y⟩
theorem text_ext (a b : ByteArray) (hs : a.size = b.size) (h : ∀ i, (ha : i < a.size) → (hb : i < b.size) → a[i].toNat = b[i].toNat) : a = b := by
  apply ByteArray.ext
  apply Array.ext
  · exact hs
  · intro i h1 h2
    exact UInt8.toNat_inj.1 (h i h1 h2)

set_option maxRecDepth 10000 in
set_option maxHeartbeats 1000000 in
theorem same_any (a b : ByteArray) (ha : a.size ≤ maxLen) (w : World) :
    Calls Try.prog 33 #[.string a, .string b] w fun e w' => e = .returned (.bool (decide (a = b))) ∧ Below w.heap.size w w' := by
  unfold maxLen at ha
  by_cases hs : a.size = b.size
  · have h1 : ((a.size : Int) != b.size) = false := by simp; omega
    go_enter Try.func33, Try.ntmps33
    go_wp2_with fail
    go_loopw [5, 14] (fun o i wr => ∃ j v : Nat, j ≤ a.size ∧ v < 256 ∧ i = .int .i64 j ∧ o = .int .u8 v ∧ (v = 0 ↔ ∀ k, k < j → (ha : k < a.size) → (hb : k < b.size) → a[k].toNat = b[k].toNat) ∧ Below w.heap.size w wr) (fun _ i _ => a.size - (intOf i).toNat)
    case atStart => exact ⟨0, 0, Nat.zero_le _, by decide, rfl, rfl, ⟨fun _ k hk => absurd hk (Nat.not_lt_zero _), fun _ => rfl⟩, Below.refl _ _⟩
    case round =>
      obtain ⟨j, v, hj, hv, rfl, rfl, hiff, hbw⟩ := hrel
      by_cases hlt : j < a.size
      · have hlt' : j < b.size := by omega
        obtain ⟨u, hu, hbits, hui⟩ := same_bits v a[j].toNat b[j].toNat hv a[j].toNat_lt b[j].toNat_lt
        have HI : Hid (u = 0 ↔ ∀ k, k < j + 1 → (ha : k < a.size) → (hb : k < b.size) → a[k].toNat = b[k].toNat) := by
          show _ ↔ _
          rw [hui, hiff]
          constructor
          · rintro ⟨h1, h2⟩ k hk h3 h4
            by_cases e : k = j
            · subst e; exact h2
            · exact h1 k (by omega) h3 h4
          · intro h
            exact ⟨fun k hk h3 h4 => h k (by omega) h3 h4, h j (by omega) hlt hlt'⟩
        clear hui hiff
        have i1 : (j : Int) < a.size := by omega
        have i2 : (j : Int) < b.size := by omega
        go_wp2_with fail
        go_quiet (fail)
        go_wp2
        go_roundw
        case rel => exact ⟨j + 1, u, by omega, hu, by go_num, rfl, HI.out, bdrewN hbw _⟩
        case measure => simp [intOf]; omega
      · obtain rfl : j = a.size := by omega
        have i1 : ¬ (a.size : Int) < a.size := by omega
        by_cases hv0 : v = 0
        · subst hv0
          have e : a = b := text_ext a b hs fun i h1 h2 => hiff.1 rfl i h1 h1 h2
          clear hiff
          go_wp2
          go_ret
          exact ⟨by simp, hbw⟩
        · have e : a ≠ b := fun e => hv0 (hiff.2 fun k _ _ _ => by subst e; rfl)
          have e2 : ((v : Int) == 0) = false := by simp; omega
          clear hiff
          go_wp2
          go_ret
          exact ⟨by simp, hbw⟩
  · have h1 : ((a.size : Int) != b.size) = true := by simp; omega
    have e : a ≠ b := fun e => hs (by rw [e])
    go_enter Try.func33, Try.ntmps33
    go_wp2
    go_ret
    exact ⟨by simp [e], Below.refl _ _⟩
end Go.Proofs.Ytolmfhgpdcmhlaa
