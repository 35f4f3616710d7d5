/- A number of many digits modulo 2^130 - 5, turn by turn; nothing of the program. -/
import Derived.Test.YtolmfhgpdcmhlaaRefClamped
namespace Go.Proofs.Ytolmfhgpdcmhlaa

/-- The number of n digits, told by a function. -/
def sumF (f : Nat → Nat) : Nat → Nat
  | 0 => 0
  | n + 1 => sumF f n + f n * 1024 ^ n
theorem sumF_congr {f g : Nat → Nat} : ∀ n, (∀ i, i < n → f i = g i) → sumF f n = sumF g n
  | 0, _ => rfl
  | n + 1, h => by rw [sumF, sumF, sumF_congr n fun i hi => h i (by omega), h n (by omega)]
theorem sumF_add (f g : Nat → Nat) (m : Nat) : ∀ n, sumF (fun k => f k + m * g k) n = sumF f n + m * sumF g n
  | 0 => by simp [sumF]
  | n + 1 => by
    rw [sumF, sumF, sumF, sumF_add f g m n, Nat.add_mul, Nat.mul_add, Nat.mul_assoc]
    omega
theorem sumF_split (f : Nat → Nat) (n : Nat) : ∀ m, sumF f (n + m) = sumF f n + 1024 ^ n * sumF (fun k => f (n + k)) m
  | 0 => by simp [sumF]
  | m + 1 => by
    rw [← Nat.add_assoc, sumF, sumF, sumF_split f n m, Nat.mul_add, Nat.pow_add, Nat.mul_left_comm (1024 ^ n)]
    omega
/-- What is carried into a digit. -/
def carryC (f : Nat → Nat) : Nat → Nat
  | 0 => 0
  | i + 1 => (carryC f i + f i) / 1024
theorem carryC_eq (f : Nat → Nat) : ∀ i, carryC f i = sumF f i / 1024 ^ i
  | 0 => by simp [carryC, sumF]
  | i + 1 => by
    rw [carryC, carryC_eq f i, sumF, Nat.pow_succ, ← Nat.div_div_eq_div_mul, Nat.add_mul_div_right _ _ (Nat.pow_pos (by decide))]
theorem carryD_eq (f : Nat → Nat) (i m : Nat) : (carryC f i + f i) % 1024 = sumF f (i + 1 + m) / 1024 ^ i % 1024 := by
  rw [sumF_split f (i + 1) m, sumF, carryC_eq, Nat.pow_succ, Nat.mul_assoc, Nat.mul_comm (1024 ^ i) (1024 * _), Nat.add_mul_div_right _ _ (Nat.pow_pos (by decide)), Nat.add_mul_div_right _ _ (Nat.pow_pos (by decide)), Nat.add_mul_mod_self_left]
/-- Thirteen digits and what stands above them, added five times, as far as the first n are added. -/
def foldF (t : List Nat) (n k : Nat) : Nat := (if k < n then t.getD k 0 else 0) + 5 * (if k + 13 < n then t.getD (k + 13) 0 else 0)
theorem foldF_all (t : List Nat) (k : Nat) : foldF t t.length k = t.getD k 0 + 5 * t.getD (k + 13) 0 := by
  unfold foldF
  have h : ∀ i, (if i < t.length then t.getD i 0 else 0) = t.getD i 0 := fun i => by
    by_cases hi : i < t.length
    · rw [if_pos hi]
    · rw [if_neg hi, getD_beyond _ _ (by omega)]
  rw [h, h]
/-- The number of at most 26 digits; what one turn makes of it. -/
def bigN (t : List Nat) : Nat := sumF (fun k => t.getD k 0) 13 + 1024 ^ 13 * sumF (fun k => t.getD (k + 13) 0) 13
def turnN (t : List Nat) : Nat := sumF (fun k => t.getD k 0) 13 + 5 * sumF (fun k => t.getD (k + 13) 0) 13
theorem turn_sum (t : List Nat) : sumF (foldF t t.length) 13 = turnN t := by
  rw [sumF_congr 13 fun i _ => foldF_all t i, sumF_add (fun k => t.getD k 0) (fun k => t.getD (k + 13) 0) 5 13, turnN]
theorem turn_mod (t : List Nat) : turnN t % polyP = bigN t % polyP := by
  refine mod_of_add (bigN t) (turnN t) (sumF (fun k => t.getD (k + 13) 0) 13) ?_
  unfold turnN bigN polyP
  omega
/-- The digits behind a turn. -/
def turnL (V : Nat) : List Nat := digL V 13 ++ [V / 1024 ^ 13 % 1024, V / 1024 ^ 13 / 1024 % 1024, V / 1024 ^ 13 / 1048576]
theorem turnL_length (V : Nat) : (turnL V).length = 16 := by simp [turnL, digL_length]
theorem digL_at (V n i : Nat) (h : i < n) : (digL V n).getD i 0 = V / 1024 ^ i % 1024 := by
  rw [List.getD_eq_getElem?_getD, digL, List.getElem?_map, List.getElem?_range h, show 1024 ^ i = 2 ^ (10 * i) by rw [Nat.pow_mul]]
  rfl
theorem sumF_digits (V : Nat) : ∀ n, sumF (fun k => V / 1024 ^ k % 1024) n = V % 1024 ^ n
  | 0 => by simp [sumF, Nat.mod_one]
  | n + 1 => by
    rw [sumF, sumF_digits V n, Nat.pow_succ, Nat.mod_mul, Nat.mul_comm (1024 ^ n)]
theorem turnL_low (V k : Nat) (h : k < 13) : (turnL V).getD k 0 = V / 1024 ^ k % 1024 := by
  rw [turnL, getD_left _ _ _ _ (by rw [digL_length]; exact h), digL_at V 13 k h]
theorem turnL_high (V k : Nat) : (turnL V).getD (k + 13) 0 = [V / 1024 ^ 13 % 1024, V / 1024 ^ 13 / 1024 % 1024, V / 1024 ^ 13 / 1048576].getD k 0 := by
  rw [turnL, getD_right _ _ _ _ (by rw [digL_length]; omega), digL_length, show k + 13 - 13 = k by omega]
theorem turnL_turn (V : Nat) : turnN (turnL V) = V % 1024 ^ 13 + 5 * (V / 1024 ^ 13) := by
  rw [turnN, sumF_congr 13 fun i hi => turnL_low V i hi, sumF_digits, sumF_congr 13 fun i _ => turnL_high V i]
  generalize V / 1024 ^ 13 = c
  have e : sumF (fun k => [c % 1024, c / 1024 % 1024, c / 1048576].getD k 0) 13 = c := by
    simp [sumF]
    omega
  rw [e]
theorem turnL_big (V : Nat) : bigN (turnL V) = V := by
  rw [bigN, sumF_congr 13 fun i hi => turnL_low V i hi, sumF_digits, sumF_congr 13 fun i _ => turnL_high V i]
  have e : ∀ c : Nat, sumF (fun k => [c % 1024, c / 1024 % 1024, c / 1048576].getD k 0) 13 = c := fun c => by
    simp [sumF]
    omega
  rw [e, Nat.mod_add_div]
/-- What the turns make of a number. -/
def turnsN (V : Nat) : Nat → Nat
  | 0 => V
  | k + 1 => turnsN V k % 1024 ^ 13 + 5 * (turnsN V k / 1024 ^ 13)
theorem turnsN_mod (V : Nat) : ∀ k, turnsN V k % polyP = V % polyP
  | 0 => rfl
  | k + 1 => by
    rw [← turnsN_mod V k, turnsN]
    refine mod_of_add (turnsN V k) _ (turnsN V k / 1024 ^ 13) ?_
    generalize turnsN V k = x
    unfold polyP
    omega
theorem turnsN_small (V : Nat) (h : V < 1024 ^ 13 * 1073741824) : ∀ k, turnsN V (k + 2) < 1024 ^ 13
  | 0 => by
    show (V % 1024 ^ 13 + 5 * (V / 1024 ^ 13)) % 1024 ^ 13 + 5 * ((V % 1024 ^ 13 + 5 * (V / 1024 ^ 13)) / 1024 ^ 13) < 1024 ^ 13
    omega
  | k + 1 => by
    have := turnsN_small V h k
    rw [show k + 1 + 2 = (k + 2) + 1 from rfl, turnsN]
    generalize turnsN V (k + 2) = x at *
    omega
end Go.Proofs.Ytolmfhgpdcmhlaa
