/- Numbers read out of a text, each in its width, are laid as the text's bytes; nothing of the program. · pack.Get, called with any text and any two numbers, tells the number getN and the error getE, and changes nothing. -/
import Derived.Test.YtcmoagphbpjenaaGreatDoorMg18
import Derived.Test.YtcmoagphbpjenaaGreatDoorMg20
import Derived.Test.YtcmoagphbpjenaaGreatDoorMg19
namespace Go.Proofs.YtcmoagphbpjenaaGreatDoor
set_option maxRecDepth 20000

theorem leI_cons (k : Nat) (n : Int) : leI (k + 1) n = n % 256 :: leI k (n / 256) := by
  have e : ∀ i : Nat, n / 256 ^ (i + 1) % 256 = n / 256 / 256 ^ i % 256 := fun i => by
    rw [Int.ediv_ediv_of_nonneg (by decide), Int.pow_succ, Int.mul_comm]
  simp only [leI, List.range_succ_eq_map, List.map_cons, List.map_map, Function.comp_def, Nat.succ_eq_add_one, e, Int.pow_zero, Int.ediv_one]
theorem leI_leVal : ∀ l : List UInt8, leI l.length (leVal l) = l.map fun x => (x.toNat : Int)
  | [] => rfl
  | b :: r => by
    have hb : b.toNat < 256 := b.toNat_lt
    rw [List.length_cons, leI_cons, leVal, show ((b.toNat : Int) + 256 * leVal r) % 256 = b.toNat by omega, show ((b.toNat : Int) + 256 * leVal r) / 256 = leVal r by omega, leI_leVal r]
    rfl
theorem put_back (l : List UInt8) (k : Nat) (hl : l.length = k) (h1 : 1 ≤ k) (h6 : k ≤ 6) : putE (leVal l) k = 0 ∧ putS (leVal l) k = ⟨l.toArray⟩ := by
  subst hl
  refine ⟨putE_ok h1 h6 (leVal_nonneg l) (leVal_lt l), ?_⟩
  rw [putS_ok h1 h6 (leVal_nonneg l) (leVal_lt l), leI_leVal, str_map_nums]
/-- The numbers of bytes from a place on, each with its width. -/
def pairsOf (L : List UInt8) : Nat → List Nat → List (Int × Int)
  | _, [] => []
  | a, k :: r => (leVal ((L.drop a).take k), (k : Int)) :: pairsOf L (a + k) r
theorem pairs_laid (L : List UInt8) : ∀ (ws : List Nat) (a : Nat), (∀ k ∈ ws, 1 ≤ k ∧ k ≤ 6) → a + ws.sum ≤ L.length → laidOk (pairsOf L a ws) = true ∧ laidL (pairsOf L a ws) = (L.drop a).take ws.sum
  | [], _, _, _ => ⟨rfl, by simp [pairsOf, laidL]⟩
  | k :: r, a, hk, hl => by
    rw [List.sum_cons] at hl
    obtain ⟨h1, h6⟩ := hk k (List.mem_cons_self ..)
    obtain ⟨i1, i2⟩ := pairs_laid L r (a + k) (fun x hx => hk x (List.mem_cons_of_mem _ hx)) (by omega)
    obtain ⟨p1, p2⟩ := put_back ((L.drop a).take k) k (by rw [List.length_take, List.length_drop]; omega) h1 h6
    refine ⟨?_, ?_⟩
    · rw [pairsOf, laidOk, i1, p1]; rfl
    · rw [pairsOf, laidL, i2, p2, List.sum_cons]
      show (L.drop a).take k ++ _ = _
      rw [← List.drop_drop, List.take_add]
theorem allZ_eq (t : ByteArray) (h : allZ t = true) : t.data.toList = List.replicate t.size 0 := by
  unfold allZ at h
  rw [List.all_eq_true] at h
  refine List.eq_replicate_iff.2 ⟨by simp, fun x hx => ?_⟩
  have := h x hx
  simpa using this
theorem text_cut (s : ByteArray) (a b : Nat) : (s.data.toList.drop a).take (b - a) = (s.extract a b).data.toList := by
  simp
theorem text_zeros (s : ByteArray) (a n : Nat) (hs : s.size = n) (ha : a ≤ n) (h : allZ (s.extract a n) = true) : s.data.toList.drop a = List.replicate (n - a) 0 := by
  have e := allZ_eq _ h
  have hz : (s.extract a n).size = n - a := by simp; omega
  rw [hz, ← text_cut s a n, List.take_of_length_le (by simp; omega)] at e
  exact e
theorem ba_of {s : ByteArray} {l : List UInt8} (h : s.data.toList = l) : (⟨l.toArray⟩ : ByteArray) = s := by
  subst h
  apply ByteArray.ext
  simp
end Go.Proofs.YtcmoagphbpjenaaGreatDoor

namespace Go.Proofs.YtcmoagphbpjenaaGreatDoor
set_option maxRecDepth 20000
open Go.RowKit

theorem get_noWidth (s : ByteArray) (a k : Int) (h : k < 1 ∨ 6 < k) (w : World) :
    Calls Tryz.prog 96 #[.string s, .int .i64 a, .int .i64 k] w fun e w' => e = .returned (.tuple #[.int .i64 0, .int .i64 1]) ∧ w' = w := by
  rcases h with h | h
  · go_enter Tryz.func96, Tryz.ntmps96
    go_wp2
    go_ret2
    exact ⟨rfl, rfl⟩
  · have h1 : 1 ≤ k := by omega
    have hd : decide (k ≤ 6) = false := by simp; omega
    go_enter Tryz.func96, Tryz.ntmps96
    go_wp2
    go_ret2
    exact ⟨rfl, rfl⟩

theorem get_short (s : ByteArray) (a : Int) (k : Nat) (h1 : 1 ≤ k) (h2 : k ≤ 6) (hs : s.size ≤ maxLen) (h : a < 0 ∨ (s.size : Int) - k < a) (w : World) :
    Calls Tryz.prog 96 #[.string s, .int .i64 a, .int .i64 k] w fun e w' => e = .returned (.tuple #[.int .i64 0, .int .i64 3]) ∧ w' = w := by
  unfold maxLen at hs
  have a1 : (1 : Int) ≤ k := by omega
  have a2 : (k : Int) ≤ 6 := by omega
  by_cases hn : a < 0
  · clear h
    go_enter Tryz.func96, Tryz.ntmps96
    go_wp2
    go_ret2
    exact ⟨rfl, rfl⟩
  · have h3 : (s.size : Int) - k < a := by omega
    clear h
    go_enter Tryz.func96, Tryz.ntmps96
    go_wp2
    go_ret2
    exact ⟨rfl, rfl⟩

set_option maxHeartbeats 400000 in
theorem get_ok (s : ByteArray) (a : Nat) (k : Nat) (h1 : 1 ≤ k) (h2 : k ≤ 6) (hs : s.size ≤ maxLen) (h : a + k ≤ s.size) (w : World) :
    Calls Tryz.prog 96 #[.string s, .int .i64 a, .int .i64 k] w fun e w' => e = .returned (.tuple #[.int .i64 (leVal ((s.data.toList.drop a).take k)), .int .i64 0]) ∧ w' = w := by
  unfold maxLen at hs
  have a1 : (1 : Int) ≤ k := by omega
  have a2 : (k : Int) ≤ 6 := by omega
  have a3 : ¬ (s.size : Int) - k < a := by omega
  go_enter Tryz.func96, Tryz.ntmps96
  go_wp2
  go_loop [8, 24] (fun x i => ∃ j : Nat, j ≤ k ∧ i = .int .i64 j ∧ x = .int .i64 (leVal ((s.data.toList.drop a).take j))) (fun _ i => k - (intOf i).toNat)
  case atStart => exact ⟨0, Nat.zero_le _, rfl, by simp [leVal]⟩
  case round =>
    obtain ⟨j, hj, rfl, rfl⟩ := hrel
    by_cases hlt : j < k
    · obtain ⟨q, hq⟩ : ∃ q, q = leVal ((s.data.toList.drop a).take j) := ⟨_, rfl⟩
      have hq0 : 0 ≤ q := by rw [hq]; exact leVal_nonneg _
      rw [← hq]
      have HQ : Hid (q = leVal ((s.data.toList.drop a).take j)) := hq
      clear hq
      have hix : a + j < s.size := by omega
      go_wp2
      go_roundw
      case rel =>
        refine ⟨j + 1, by omega, by go_num, ?_⟩
        have hlt2 : q < 256 ^ j := by rw [HQ.out]; exact numAt_lt s a j
        rw [or_high q _ j (by omega) hq0 hlt2 (by omega) (by have := s[a + j].toNat_lt; omega), numAt_snoc s a j hix, ← HQ.out]
      case measure => simp [intOf]; omega
    · have hjk : j = k := by omega
      subst hjk
      go_wp2
      go_ret2
      exact ⟨rfl, rfl⟩

/-- pack.Get, whatever it is handed. -/
theorem get_any (s : ByteArray) (a k : Int) (hs : s.size ≤ maxLen) (w : World) :
    Calls Tryz.prog 96 #[.string s, .int .i64 a, .int .i64 k] w fun e w' => e = .returned (.tuple #[.int .i64 (getN s a k), .int .i64 (getE s a k)]) ∧ w' = w := by
  by_cases hk : k < 1 ∨ 6 < k
  · rw [getN_no (.inl hk), getE_noWidth hk]
    exact get_noWidth s a k hk w
  · obtain ⟨m, rfl⟩ := Int.eq_ofNat_of_zero_le (show 0 ≤ k by omega)
    have h1 : 1 ≤ m := by omega
    have h2 : m ≤ 6 := by omega
    by_cases ha : a < 0 ∨ (s.size : Int) - m < a
    · rw [getN_no (.inr ha), getE_short (by omega) (by omega) ha]
      exact get_short s a m h1 h2 hs ha w
    · obtain ⟨b, rfl⟩ := Int.eq_ofNat_of_zero_le (show 0 ≤ a by omega)
      have hb : b + m ≤ s.size := by omega
      rw [getN_ok h1 h2 hb, getE_ok h1 h2 hb]
      exact get_ok s b m h1 h2 hs hb w
end Go.Proofs.YtcmoagphbpjenaaGreatDoor
