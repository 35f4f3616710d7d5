/- The document's Get, called with any text and any two numbers, tells the number getN and the error getE, and changes nothing. -/
import Derived.Test.YtndjnecjnfcapaaDoorPut
namespace Go.Proofs.YtndjnecjnfcapaaDoor
set_option maxRecDepth 20000
open Go.RowKit

theorem rget_noWidth (s : ByteArray) (a k : Int) (h : k < 1 ∨ 6 < k) (w : World) :
    Calls Tryd.prog 53 #[.string s, .int .i64 a, .int .i64 k] w fun e w' => e = .returned (.tuple #[.int .i64 0, .int .i64 1]) ∧ w' = w := by
  rcases h with h | h
  · go_enter Tryd.func53, Tryd.ntmps53
    go_wp2
    go_ret2
    exact ⟨rfl, rfl⟩
  · have h1 : ¬ k < 1 := by omega
    go_enter Tryd.func53, Tryd.ntmps53
    go_wp2
    go_ret2
    exact ⟨rfl, rfl⟩

theorem rget_short (s : ByteArray) (a : Int) (k : Nat) (h1 : 1 ≤ k) (h2 : k ≤ 6) (_hs : s.size ≤ maxLen) (h : a < 0 ∨ (s.size : Int) - k < a) (w : World) :
    Calls Tryd.prog 53 #[.string s, .int .i64 a, .int .i64 k] w fun e w' => e = .returned (.tuple #[.int .i64 0, .int .i64 3]) ∧ w' = w := by
  unfold maxLen at _hs
  have a1 : ¬ (k : Int) < 1 := by omega
  have a2 : ¬ (6 : Int) < k := by omega
  by_cases hn : a < 0
  · clear h
    go_enter Tryd.func53, Tryd.ntmps53
    go_wp2
    go_ret2
    exact ⟨rfl, rfl⟩
  · have h3 : (s.size : Int) - k < a := by omega
    clear h
    by_cases h4 : (s.size : Int) < a
    · go_enter Tryd.func53, Tryd.ntmps53
      go_wp2
      go_ret2
      exact ⟨rfl, rfl⟩
    · have h5 : (s.size : Int) - a < k := by omega
      go_enter Tryd.func53, Tryd.ntmps53
      go_wp2
      go_ret2
      exact ⟨rfl, rfl⟩

set_option maxHeartbeats 400000 in
theorem rget_ok (s : ByteArray) (a : Nat) (k : Nat) (h1 : 1 ≤ k) (h2 : k ≤ 6) (hs : s.size ≤ maxLen) (h : a + k ≤ s.size) (w : World) :
    Calls Tryd.prog 53 #[.string s, .int .i64 a, .int .i64 k] w fun e w' => e = .returned (.tuple #[.int .i64 (leVal ((s.data.toList.drop a).take k)), .int .i64 0]) ∧ w' = w := by
  unfold maxLen at hs
  have a1 : ¬ (k : Int) < 1 := by omega
  have a2 : ¬ (6 : Int) < k := by omega
  have a3 : ¬ (s.size : Int) < a := by omega
  have a4 : ¬ (s.size : Int) - a < k := by omega
  go_enter Tryd.func53, Tryd.ntmps53
  go_wp2
  go_loop [8, 9] (fun x i => ∃ j : Nat, j ≤ k ∧ i = .int .i64 ((j : Int) - 1) ∧ x = .int .i64 (leVal ((s.data.toList.drop (a + j)).take (k - j)))) (fun _ i => (intOf i + 1).toNat)
  case atStart => exact ⟨k, Nat.le_refl _, by go_num, by simp [leVal]⟩
  case round =>
    obtain ⟨j, hj, rfl, rfl⟩ := hrel
    obtain ⟨q, hq⟩ : ∃ q, q = leVal ((s.data.toList.drop (a + j)).take (k - j)) := ⟨_, rfl⟩
    have hq0 : 0 ≤ q := by rw [hq]; exact leVal_nonneg _
    have hqm : q < 281474976710656 := by rw [hq]; exact Int.lt_of_lt_of_le (numAt_lt s (a + j) (k - j)) (pow6 _ (by omega))
    rw [← hq]
    have HQ : Hid (q = leVal ((s.data.toList.drop (a + j)).take (k - j))) := hq
    clear hq
    by_cases hlt : 0 < j
    · obtain ⟨m, rfl⟩ : ∃ m, j = m + 1 := ⟨j - 1, by omega⟩
      rw [show ((m + 1 : Nat) : Int) - 1 = (m : Int) by omega]
      have hix : a + m < s.size := by omega
      have hbl := s[a + m].toNat_lt
      go_wp2
      go_roundw
      case rel =>
        refine ⟨m, by omega, rfl, ?_⟩
        rw [show k - m = (k - (m + 1)) + 1 by omega, numAt_cons s (a + m) _ hix, show a + m + 1 = a + (m + 1) by omega, ← HQ.out, Int.mul_comm, Int.add_comm]
      case measure => simp [intOf]
    · have hj0 : j = 0 := by omega
      subst hj0
      go_wp2
      go_ret2
      refine ⟨?_, rfl⟩
      show Ending.returned (.tuple #[.int .i64 q, .int .i64 0]) = _
      rw [HQ.out]
      rfl

/-- The document's Get, whatever it is handed. -/
theorem rget_any (s : ByteArray) (a k : Int) (hs : s.size ≤ maxLen) (w : World) :
    Calls Tryd.prog 53 #[.string s, .int .i64 a, .int .i64 k] w fun e w' => e = .returned (.tuple #[.int .i64 (getN s a k), .int .i64 (getE s a k)]) ∧ w' = w := by
  by_cases hk : k < 1 ∨ 6 < k
  · rw [getN_no (.inl hk), getE_noWidth hk]
    exact rget_noWidth s a k hk w
  · obtain ⟨m, rfl⟩ := Int.eq_ofNat_of_zero_le (show 0 ≤ k by omega)
    have h1 : 1 ≤ m := by omega
    have h2 : m ≤ 6 := by omega
    by_cases ha : a < 0 ∨ (s.size : Int) - m < a
    · rw [getN_no (.inr ha), getE_short (by omega) (by omega) ha]
      exact rget_short s a m h1 h2 hs ha w
    · obtain ⟨b, rfl⟩ := Int.eq_ofNat_of_zero_le (show 0 ≤ a by omega)
      have hb : b + m ≤ s.size := by omega
      rw [getN_ok h1 h2 hb, getE_ok h1 h2 hb]
      exact rget_ok s b m h1 h2 hs hb w
end Go.Proofs.YtndjnecjnfcapaaDoor
