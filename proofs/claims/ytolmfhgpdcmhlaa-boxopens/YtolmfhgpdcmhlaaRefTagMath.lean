/- What the document's Tag adds and cuts into bits; nothing of the program. -/
import Derived.Test.YtolmfhgpdcmhlaaRefTimes
namespace Go.Proofs.Ytolmfhgpdcmhlaa

/-- A number's first bits. -/
def bitL (V n : Nat) : List Nat := (List.range n).map fun t => V / 2 ^ t % 2
theorem bitL_length (V n : Nat) : (bitL V n).length = n := by simp [bitL]
theorem bitL_snoc (V n : Nat) : intV (bitL V (n + 1)) = intV (bitL V n) ++ [.int .i64 ((V / 2 ^ n % 2 : Nat) : Int)] := by
  rw [bitL, List.range_succ, List.map_append, intV, List.map_append]
  rfl
theorem bitL_at (V n t : Nat) (h : t < n) : (bitL V n).getD t 0 = V / 2 ^ t % 2 := by
  rw [List.getD_eq_getElem?_getD, bitL, List.getElem?_map, List.getElem?_range h]
  rfl
theorem bit_ten (y r : Nat) (hr : r < 10) : y % 1024 / 2 ^ r % 2 = y / 2 ^ r % 2 := by
  have : r = 0 ∨ r = 1 ∨ r = 2 ∨ r = 3 ∨ r = 4 ∨ r = 5 ∨ r = 6 ∨ r = 7 ∨ r = 8 ∨ r = 9 := by omega
  rcases this with rfl | rfl | rfl | rfl | rfl | rfl | rfl | rfl | rfl | rfl <;> simp only [Nat.reducePow] <;> omega
theorem bit_dig (V i j : Nat) (hj : j < 10) : V / 1024 ^ i % 1024 / 2 ^ j % 2 = V / 2 ^ (10 * i + j) % 2 := by
  rw [bit_ten _ _ hj, Nat.div_div_eq_div_mul, Nat.pow_add, Nat.pow_mul]
theorem and_one10 (b r : Nat) (h : b < 1024) : bits .and .i64 ((b : Int) / 2 ^ r) 1 = ((b / 2 ^ r % 2 : Nat) : Int) := by
  have e2 : (b : Int) / 2 ^ r = ((b / 2 ^ r : Nat) : Int) := by rw [Int.natCast_ediv, Int.natCast_pow]; rfl
  have hd : b / 2 ^ r ≤ b := Nat.div_le_self _ _
  rw [e2, show (1 : Int) = ((1 : Nat) : Int) from rfl, i64_and_nat _ _ (by omega) (by decide), Nat.and_one_is_mod]
/-- Two numbers' digits, added one by one. -/
def addF (W H k : Nat) : Nat := (digL W 14).getD k 0 + if k < 13 then (digL H 13).getD k 0 else 0
def addT (W H : Nat) : List Nat := (List.range 14).map (addF W H)
theorem addT_length (W H : Nat) : (addT W H).length = 14 := by simp [addT]
theorem addT_at (W H k : Nat) (h : k < 14) : (addT W H).getD k 0 = addF W H k := by
  rw [List.getD_eq_getElem?_getD, addT, List.getElem?_map, List.getElem?_range h]
  rfl
theorem dig14_lt (W k : Nat) : (digL W 14).getD k 0 < 1024 := getD_lt (by decide) (digL_digs W 14) k
theorem dig13_lt (W k : Nat) : (digL W 13).getD k 0 < 1024 := getD_lt (by decide) (digL_digs W 13) k
theorem addF_lt (W H k : Nat) : addF W H k < 2048 := by
  have h1 := dig14_lt W k
  have h2 := dig13_lt H k
  unfold addF
  split <;> omega
theorem addT_small (W H : Nat) : Small (addT W H) := fun x hx => by
  obtain ⟨k, _, rfl⟩ := List.mem_map.1 hx
  have := addF_lt W H k
  omega
theorem addT_high (W H k : Nat) : (addT W H).getD (k + 13) 0 = [W / 1024 ^ 13 % 1024].getD k 0 := by
  cases k with
  | zero =>
    rw [addT_at W H 13 (by omega), addF, digL_at W 14 13 (by omega), if_neg (by omega)]
    rfl
  | succ k =>
    rw [getD_beyond _ _ (by rw [addT_length]; omega)]
    rfl
theorem addT_big (W H : Nat) (hW : W < 1024 ^ 14) (hH : H < 1024 ^ 13) : bigN (addT W H) = H + W := by
  have h1 : sumF (fun k => (addT W H).getD k 0) 13 = W % 1024 ^ 13 + 1 * (H % 1024 ^ 13) := by
    rw [← sumF_digits W 13, ← sumF_digits H 13, ← sumF_add]
    refine sumF_congr 13 fun k hk => ?_
    rw [addT_at W H k (by omega), addF, digL_at W 14 k (by omega), if_pos hk, digL_at H 13 k hk, Nat.one_mul]
  have h2 : sumF (fun k => (addT W H).getD (k + 13) 0) 13 = W / 1024 ^ 13 % 1024 := by
    rw [sumF_congr 13 fun i _ => addT_high W H i]
    simp [sumF]
  rw [bigN, h1, h2, Nat.mod_eq_of_lt hH]
  have h3 : W / 1024 ^ 13 < 1024 := by
    rw [Nat.div_lt_iff_lt_mul (by decide)]
    rw [Nat.pow_succ] at hW
    omega
  rw [Nat.mod_eq_of_lt h3]
  have := Nat.mod_add_div W (1024 ^ 13)
  omega
theorem step_times (r h : Nat) (piece : List Nat) : (h + leN (piece ++ [1])) % polyP * r % polyP = polyStep r h piece := by
  rw [polyStep, Nat.mod_mul_mod]
/-- The key's second half and the number: their digits' sums, what is carried. -/
def lastF (H S k : Nat) : Nat := (digL H 13).getD k 0 + (digL S 13).getD k 0
theorem lastF_lt (H S k : Nat) : lastF H S k < 2048 := by
  have h1 := dig13_lt H k
  have h2 := dig13_lt S k
  unfold lastF
  omega
theorem last_carry (H S : Nat) : ∀ i, carryC (lastF H S) i < 2
  | 0 => by simp [carryC]
  | i + 1 => by
    have := last_carry H S i
    have h1 := dig13_lt H i
    have h2 := dig13_lt S i
    rw [carryC, lastF]
    omega
theorem last_sum (H S : Nat) (hH : H < 1024 ^ 13) (hS : S < 1024 ^ 13) : sumF (lastF H S) 13 = H + S := by
  have h := sumF_add (fun k => (digL H 13).getD k 0) (fun k => (digL S 13).getD k 0) 1 13
  rw [sum_dig H hH, sum_dig S hS, Nat.one_mul] at h
  rw [← h]
  exact sumF_congr 13 fun k _ => by rw [lastF, Nat.one_mul]
theorem last_dig (H S i : Nat) (hi : i < 13) (hH : H < 1024 ^ 13) (hS : S < 1024 ^ 13) : (carryC (lastF H S) i + lastF H S i) % 1024 = (H + S) / 1024 ^ i % 1024 := by
  rw [carryD_eq (lastF H S) i (12 - i), show i + 1 + (12 - i) = 13 by omega, last_sum H S hH hS]
theorem last_bytes (V i : Nat) (hi : i < 16) : V % 340282366920938463463374607431768211456 / 2 ^ (8 * i) % 256 = V / 2 ^ (8 * i) % 256 := by
  have : i = 0 ∨ i = 1 ∨ i = 2 ∨ i = 3 ∨ i = 4 ∨ i = 5 ∨ i = 6 ∨ i = 7 ∨ i = 8 ∨ i = 9 ∨ i = 10 ∨ i = 11 ∨ i = 12 ∨ i = 13 ∨ i = 14 ∨ i = 15 := by omega
  rcases this with rfl | rfl | rfl | rfl | rfl | rfl | rfl | rfl | rfl | rfl | rfl | rfl | rfl | rfl | rfl | rfl <;> simp only [Nat.reducePow, Nat.reduceMul] <;> omega
theorem last_leB (V : Nat) : leB 16 (V % 340282366920938463463374607431768211456) = leB 16 V := by
  unfold leB
  refine List.map_congr_left fun i hi => ?_
  exact last_bytes V i (List.mem_range.1 hi)
theorem small_13 : ∀ V, V < 340282366920938463463374607431768211456 → V < 1024 ^ 13 := fun V h => Nat.lt_trans h (by decide)
end Go.Proofs.Ytolmfhgpdcmhlaa
