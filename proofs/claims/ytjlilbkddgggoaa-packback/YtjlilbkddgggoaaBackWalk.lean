/- The law PackBack, called with any two numbers of type int and any two texts, returns true, and changes nothing that was there. -/
import Derived.Test.YtjlilbkddgggoaaAwake
namespace Go.Proofs.Ytjlilbkddgggoaa
open Go.RowKit
theorem leVal_leI : ∀ (k : Nat) (n : Int), 0 ≤ n → n < 256 ^ k → leVal ((leI k n).map fun x => UInt8.ofNat x.toNat) = n
  | 0, n, h, h' => by simp at h'; simp [leI, leVal]; omega
  | k + 1, n, h, h' => by
    rw [leI_succ, List.map_append, List.map_cons, List.map_nil, leVal_snoc, List.length_map, leI_length]
    have hp : (0 : Int) < 256 ^ k := Int.pow_pos (by decide)
    have hq : n / 256 ^ k < 256 := Int.ediv_lt_of_lt_mul hp (by rw [Int.pow_succ, Int.mul_comm] at h'; exact h')
    have hq0 : 0 ≤ n / 256 ^ k := Int.ediv_nonneg h (Int.le_of_lt hp)
    have hlow : leI k n = leI k (n % 256 ^ k) := by
      unfold leI
      apply List.map_congr_left
      intro i hi
      have hik : i < k := List.mem_range.1 hi
      have e : (256 : Int) ^ k = 256 ^ i * 256 ^ (k - i) := by rw [← Int.pow_add]; congr 1; omega
      have e2 : (256 : Int) ^ (k - i) = 256 * 256 ^ (k - i - 1) := by rw [Int.mul_comm, ← Int.pow_succ]; congr 1; omega
      have hi0 : (0 : Int) < 256 ^ i := Int.pow_pos (by decide)
      conv => lhs; rw [← Int.mul_ediv_add_emod n (256 ^ k)]
      rw [e, Int.mul_assoc, Int.add_comm, Int.add_mul_ediv_left _ _ (by omega), e2, Int.mul_assoc, Int.add_mul_emod_self_left]
    rw [hlow, leVal_leI k (n % 256 ^ k) (Int.emod_nonneg _ (by omega)) (Int.emod_lt_of_pos _ hp)]
    rw [Int.emod_eq_of_lt hq0 hq]
    have hb : ((UInt8.ofNat (n / 256 ^ k).toNat).toNat : Int) = n / 256 ^ k := by
      rw [UInt8.toNat_ofNat', Nat.mod_eq_of_lt (by omega)]; omega
    rw [hb, Int.mul_comm, Int.add_comm]
    exact Int.mul_ediv_add_emod n (256 ^ k)

theorem strOf_list (l : List Int) : (strOfNums l).data.toList = l.map fun x => UInt8.ofNat x.toNat := rfl
/-- Get finds, behind a text and ahead of another, the number that Put laid. -/
theorem getN_back (a b : ByteArray) (n : Int) (k : Nat) (h1 : 1 ≤ k) (h2 : k ≤ 6) (h0 : 0 ≤ n) (h : n < 256 ^ k) : getN (a ++ strOfNums (leI k n) ++ b) a.size k = n := by
  have hs : (strOfNums (leI k n)).size = k := by rw [strOfNums_size, leI_length]
  rw [getN_ok h1 h2 (by simp [hs])]
  have e : ((a ++ strOfNums (leI k n) ++ b).data.toList.drop a.size).take k = (leI k n).map fun x => UInt8.ofNat x.toNat := by
    have hl : a.data.toList.length = a.size := by simp
    have hl2 : ((leI k n).map fun x => UInt8.ofNat x.toNat).length = k := by rw [List.length_map, leI_length]
    simp only [ByteArray.data_append, Array.toList_append, strOf_list]
    rw [List.append_assoc, ← hl, List.drop_left]
    rw [List.take_append_of_le_length (by omega)]
    exact List.take_of_length_le (by omega)
  rw [e, leVal_leI k n h0 h]
theorem getE_back (a b : ByteArray) (n : Int) (k : Nat) (h1 : 1 ≤ k) (h2 : k ≤ 6) : getE (a ++ strOfNums (leI k n) ++ b) a.size k = 0 := by
  have hs : (strOfNums (leI k n)).size = k := by rw [strOfNums_size, leI_length]
  rw [getE_ok h1 h2 (by simp [hs])]

theorem back_long (a0 a1 : Int) (a2 a3 : ByteArray) (h : 4096 < a2.size ∨ 4096 < a3.size) (w : World) :
    Calls Try.prog 5 #[.int .i64 a0, .int .i64 a1, .string a2, .string a3] w fun e w' => e = .returned (.bool true) ∧ Below w.heap.size w w' := by
  by_cases h2 : 4096 < a2.size
  · have h2' : (4096 : Int) < a2.size := by omega
    clear h h2
    go_enter Try.func5, Try.ntmps5
    go_wp2
    go_ret
    exact ⟨rfl, Below.refl _ _⟩
  · have h2' : ¬ (4096 : Int) < a2.size := by omega
    have h3' : (4096 : Int) < a3.size := by omega
    clear h h2
    go_enter Try.func5, Try.ntmps5
    go_wp2
    go_ret
    exact ⟨rfl, Below.refl _ _⟩

theorem back_refused (a0 a1 : Int) (a2 a3 : ByteArray) (h2 : a2.size ≤ 4096) (h3 : a3.size ≤ 4096) (hS : putS a0 a1 = ByteArray.empty) (hE : (putE a0 a1 != 0) = true) (w : World) :
    Calls Try.prog 5 #[.int .i64 a0, .int .i64 a1, .string a2, .string a3] w fun e w' => e = .returned (.bool true) ∧ Below w.heap.size w w' := by
  have h2' : ¬ (4096 : Int) < a2.size := by omega
  have h3' : ¬ (4096 : Int) < a3.size := by omega
  go_enter Try.func5, Try.ntmps5
  go_wp2_with fail
  refine (put_any a0 a1 _).mono ?_
  rintro e w1 ⟨rfl, hb1⟩
  rw [hS]
  go_wp2_with fail
  refine (awake_any _).mono ?_
  rintro e w3 ⟨rfl, hb3⟩
  go_wp2
  go_ret
  exact ⟨rfl, hb1.trans (hb3.mono hb1.size)⟩

set_option maxHeartbeats 400000 in
theorem back_taken (n : Int) (k : Nat) (a2 a3 : ByteArray) (h2 : a2.size ≤ 4096) (h3 : a3.size ≤ 4096) (h1 : 1 ≤ k) (h6 : k ≤ 6) (h0 : 0 ≤ n) (hn : n < 256 ^ k) (w : World) :
    Calls Try.prog 5 #[.int .i64 n, .int .i64 k, .string a2, .string a3] w fun e w' => e = .returned (.bool true) ∧ Below w.heap.size w w' := by
  have h2' : ¬ (4096 : Int) < a2.size := by omega
  have h3' : ¬ (4096 : Int) < a3.size := by omega
  have HN : Hid (getN (a2 ++ strOfNums (leI k n) ++ a3) a2.size k = n) := getN_back a2 a3 n k h1 h6 h0 hn
  have HE : Hid (getE (a2 ++ strOfNums (leI k n) ++ a3) a2.size k = 0) := getE_back a2 a3 n k h1 h6
  have HP : Hid (putS n k = strOfNums (leI k n) ∧ putE n k = 0) := ⟨putS_ok h1 h6 h0 hn, putE_ok h1 h6 h0 hn⟩
  have hsz : (strOfNums (leI k n)).size = k := by rw [strOfNums_size, leI_length]
  clear hn
  have hadd := fun w2 => run_string_add_sum (P := Try.prog) (w := w2) a2 (strOfNums (leI k n)) (by rw [hsz]; omega)
  have hadd2 := fun w2 => run_string_add_sum (P := Try.prog) (w := w2) (a2 ++ strOfNums (leI k n)) a3 (by simp [hsz]; omega)
  go_enter Try.func5, Try.ntmps5
  go_wp2_with fail
  refine (put_any n k _).mono ?_
  rintro e w1 ⟨rfl, hb1⟩
  rw [HP.out.1, HP.out.2]
  go_wp2_with fail
  refine (get_any (a2 ++ strOfNums (leI k n) ++ a3) a2.size k (by simp [hsz]; unfold maxLen; omega) _).mono ?_
  rintro e w2 ⟨rfl, rfl⟩
  rw [HN.out, HE.out]
  go_wp2_with fail
  refine (awake_any _).mono ?_
  rintro e w3 ⟨rfl, hb3⟩
  go_wp2
  go_ret
  exact ⟨rfl, hb1.trans (hb3.mono hb1.size)⟩

theorem walk_packBack (a0 a1 : Int) (a2 a3 : ByteArray) (_ : (Lit.int .i64 a0).wf = true) (_ : (Lit.int .i64 a1).wf = true) (_ : a2.size ≤ maxLen) (_ : a3.size ≤ maxLen) (w : World) :
    Calls Try.prog 5 #[.int .i64 a0, .int .i64 a1, .string a2, .string a3] w fun e w' => e = .returned (.bool true) ∧ Below w.heap.size w w' := by
  by_cases hl : 4096 < a2.size ∨ 4096 < a3.size
  · exact back_long a0 a1 a2 a3 hl w
  have h2 : a2.size ≤ 4096 := by omega
  have h3 : a3.size ≤ 4096 := by omega
  by_cases hk : a1 < 1 ∨ 6 < a1
  · exact back_refused a0 a1 a2 a3 h2 h3 (putS_noWidth hk) (by rw [putE_noWidth hk]; rfl) w
  obtain ⟨m, rfl⟩ := Int.eq_ofNat_of_zero_le (show 0 ≤ a1 by omega)
  by_cases hn : a0 < 0 ∨ 256 ^ m ≤ a0
  · exact back_refused a0 m a2 a3 h2 h3 (putS_noRoom hn) (by rw [putE_noRoom (by omega) (by omega) hn]; rfl) w
  · exact back_taken a0 m a2 a3 h2 h3 (by omega) (by omega) (by omega) (by omega) w
end Go.Proofs.Ytjlilbkddgggoaa
