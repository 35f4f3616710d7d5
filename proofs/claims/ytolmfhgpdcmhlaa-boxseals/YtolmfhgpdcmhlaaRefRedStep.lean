/- The turns of the document's reduced, as lists of digits; bounds; nothing of the program. -/
import Derived.Test.YtolmfhgpdcmhlaaRefRedMath
namespace Go.Proofs.Ytolmfhgpdcmhlaa

def Small (l : List Nat) : Prop := ∀ x ∈ l, x < 1073741824
theorem small_getD {l : List Nat} (h : Small l) (i : Nat) : l.getD i 0 < 1073741824 := getD_lt (by decide) h i
/-- The digits ahead of turn k. -/
def stL (T : List Nat) : Nat → List Nat
  | 0 => T
  | k + 1 => turnL (turnsN (turnN T) k)
theorem stL_turn (T : List Nat) : ∀ k, turnN (stL T k) = turnsN (turnN T) k
  | 0 => rfl
  | k + 1 => by rw [stL, turnL_turn]; rfl
theorem stL_next (T : List Nat) (k : Nat) : turnL (turnN (stL T k)) = stL T (k + 1) := by rw [stL_turn]; rfl
set_option maxRecDepth 100000 in
theorem sum_aux (C s t p : Nat) (h : s * 1023 ≤ C * (p - 1)) (ht : t ≤ C * p) (hp : 0 < p) : (s + t) * 1023 ≤ C * (p * 1024 - 1) := by
  rw [Nat.mul_sub, Nat.mul_one] at h
  rw [Nat.mul_sub, Nat.mul_one, ← Nat.mul_assoc]
  have ha : C ≤ C * p := Nat.le_mul_of_pos_right C hp
  generalize C * p = a at *
  omega
theorem sumF_lt (f : Nat → Nat) (h : ∀ i, f i < 1073741824) : ∀ n, sumF f n * 1023 ≤ 1073741823 * (1024 ^ n - 1)
  | 0 => by simp [sumF]
  | n + 1 => by
    rw [sumF, Nat.pow_succ]
    exact sum_aux _ _ _ _ (sumF_lt f h n) (Nat.mul_le_mul_right _ (by have := h n; omega)) (Nat.pow_pos (by decide))
theorem turnN_lt {T : List Nat} (h : Small T) : turnN T < 1024 ^ 13 * 1073741824 := by
  have h1 := sumF_lt (fun k => T.getD k 0) (fun i => small_getD h i) 13
  have h2 := sumF_lt (fun k => T.getD (k + 13) 0) (fun i => small_getD h (i + 13)) 13
  unfold turnN
  generalize sumF (fun k => T.getD k 0) 13 = a at *
  generalize sumF (fun k => T.getD (k + 13) 0) 13 = b at *
  omega
theorem turnsN_le (V : Nat) (h : V < 1024 ^ 13 * 1073741824) : ∀ k, turnsN V k < 1024 ^ 13 * 1073741824
  | 0 => h
  | k + 1 => by
    have := turnsN_le V h k
    rw [turnsN]
    generalize turnsN V k = x at *
    omega
theorem stL_small {T : List Nat} (h : Small T) : ∀ k, Small (stL T k)
  | 0 => h
  | k + 1 => by
    have hv := turnsN_le (turnN T) (turnN_lt h) k
    rw [stL]
    generalize turnsN (turnN T) k = V at *
    intro x hx
    rw [turnL] at hx
    rcases List.mem_append.1 hx with hx | hx
    · have := digL_digs V 13 x hx
      omega
    · simp only [List.mem_cons, List.not_mem_nil, or_false] at hx
      rcases hx with rfl | rfl | rfl
      · omega
      · omega
      · omega
theorem stL_length {T : List Nat} (h : T.length ≤ 26) : ∀ k, (stL T k).length ≤ 26
  | 0 => h
  | k + 1 => by rw [stL, turnL_length]; decide
theorem foldF_low (L : List Nat) (i k : Nat) (hi : i < 13) : foldF L (i + 1) k = if k = i then L.getD i 0 else foldF L i k := by
  unfold foldF
  by_cases e : k = i
  · subst e
    rw [if_pos (by omega), if_neg (by omega), if_pos rfl]
    omega
  · rw [if_neg e]
    by_cases h : k < i
    · rw [if_pos h, if_pos (by omega), if_neg (by omega), if_neg (by omega)]
    · rw [if_neg h, if_neg (by omega), if_neg (by omega), if_neg (by omega)]
theorem foldF_zero (L : List Nat) (i : Nat) : foldF L i i = 0 := by
  unfold foldF
  rw [if_neg (by omega), if_neg (by omega)]
theorem foldF_high (L : List Nat) (i k : Nat) (hi : 13 ≤ i) (hk : k < 13) : foldF L (i + 1) k = if k = i - 13 then foldF L i (i - 13) + 5 * L.getD i 0 else foldF L i k := by
  unfold foldF
  by_cases e : k = i - 13
  · subst e
    rw [if_pos (by omega), if_pos (by omega), if_pos rfl, if_pos (by omega), if_neg (by omega), show i - 13 + 13 = i by omega]
    omega
  · rw [if_neg e]
    by_cases h : k + 13 < i
    · have a1 : k < i + 1 := by omega
      have a2 : k + 13 < i + 1 := by omega
      have a3 : k < i := by omega
      rw [if_pos a1, if_pos a2, if_pos a3, if_pos h]
    · have a1 : k < i + 1 := by omega
      have a2 : ¬ k + 13 < i + 1 := by omega
      have a3 : k < i := by omega
      rw [if_pos a1, if_neg a2, if_pos a3, if_neg h]
theorem foldF_lt {L : List Nat} (h : Small L) (n k : Nat) : foldF L n k < 6442450944 := by
  have h1 := small_getD h k
  have h2 := small_getD h (k + 13)
  unfold foldF
  split <;> split <;> omega
theorem foldF_init (L : List Nat) (k : Nat) : foldF L 0 k = 0 := by
  unfold foldF
  rw [if_neg (by omega), if_neg (by omega)]
theorem carryC_lt {f : Nat → Nat} (h : ∀ i, f i < 6442450944) : ∀ i, carryC f i < 6442450944
  | 0 => by simp [carryC]
  | i + 1 => by
    have := carryC_lt h i
    have := h i
    rw [carryC]
    omega
/-- The digits behind the carrying, as far as the first i. -/
def carryD (f : Nat → Nat) (i k : Nat) : Nat := if k < i then (carryC f k + f k) % 1024 else f k
theorem carryD_step (f : Nat → Nat) (i k : Nat) : carryD f (i + 1) k = if k = i then (carryC f i + f i) % 1024 else carryD f i k := by
  unfold carryD
  by_cases e : k = i
  · subst e; rw [if_pos (by omega), if_pos rfl]
  · rw [if_neg e]
    by_cases h : k < i
    · rw [if_pos h, if_pos (by omega)]
    · rw [if_neg h, if_neg (by omega)]
theorem carryD_all (L : List Nat) (k : Nat) (hk : k < 13) : carryD (foldF L L.length) 13 k = (digL (turnN L) 13).getD k 0 := by
  unfold carryD
  rw [if_pos hk, digL_at _ _ _ hk, ← turn_sum, carryD_eq (foldF L L.length) k (12 - k), show k + 1 + (12 - k) = 13 by omega]
theorem carry_last (L : List Nat) : carryC (foldF L L.length) 13 = turnN L / 1024 ^ 13 := by rw [carryC_eq, turn_sum]
/-- The number behind eight turns. -/
theorem eight (T : List Nat) (h : Small T) : ∃ X, stL T 8 = turnL X ∧ X < 1024 ^ 13 ∧ X % polyP = bigN T % polyP := by
  refine ⟨turnsN (turnN T) 7, rfl, turnsN_small (turnN T) (turnN_lt h) 5, ?_⟩
  rw [turnsN_mod, turn_mod]
theorem turnL_take (X : Nat) : (turnL X).take 13 = digL X 13 := by rw [turnL, List.take_left' (digL_length X 13)]
theorem over (X : Nat) (h1 : polyP ≤ X) (h2 : X < 1024 ^ 13) : ∃ y, X % polyP = y ∧ ∀ i, i < 13 → (digL X 13).getD i 0 = primeL.getD i 0 + (digL y 13).getD i 0 := by
  obtain ⟨y, rfl⟩ : ∃ y, X = polyP + y := ⟨X - polyP, by omega⟩
  have hy : y < 5 := by unfold polyP at h2; omega
  refine ⟨y, by rw [Nat.add_mod_left, Nat.mod_eq_of_lt (by unfold polyP; omega)], ?_⟩
  have key : ∀ y : Fin 5, ∀ i : Fin 13, (digL (polyP + y.val) 13).getD i.val 0 = primeL.getD i.val 0 + (digL y.val 13).getD i.val 0 := by decide
  exact fun i hi => key ⟨y, hy⟩ ⟨i, hi⟩
end Go.Proofs.Ytolmfhgpdcmhlaa
