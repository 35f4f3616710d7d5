/- Poly1305 as functions of numbers: pieces, the product modulo 2^130 - 5 word by word; nothing of the program. -/
import Derived.Test.YtolmfhgpdcmhlaaBxBase
namespace Go.Proofs.Ytolmfhgpdcmhlaa

/-- 2^130 - 5. -/
def polyP : Nat := 1361129467683753853853498429727072845819
/-- The number of bytes, the lowest first; a number's first bytes. -/
def leN : List Nat → Nat
  | [] => 0
  | x :: l => x + 256 * leN l
def leB (k n : Nat) : List Nat := (List.range k).map fun i => n / 2 ^ (8 * i) % 256
/-- The key's first half, bits taken away. -/
def clampB (i x : Nat) : Nat := if i % 4 = 3 then x % 16 else if i % 4 = 0 ∧ 0 < i then x - x % 4 else x
def clampL (l : List Nat) : List Nat := (List.range 16).map fun i => clampB i (l.getD i 0)
def polyR (key : List Nat) : Nat := leN (clampL key)
/-- One piece more. -/
def polyStep (r h : Nat) (piece : List Nat) : Nat := (h + leN (piece ++ [1])) * r % polyP
/-- The number behind the first n pieces. -/
def polyH (r : Nat) (l : List Nat) : Nat → Nat
  | 0 => 0
  | n + 1 => polyStep r (polyH r l n) ((l.drop (16 * n)).take 16)
def polyN (r : Nat) (l : List Nat) : Nat := polyH r l ((l.length + 15) / 16)
/-- Poly1305's tag. -/
def polyT (key l : List Nat) : List Nat := leB 16 ((polyN (polyR key) l + leN (key.drop 16)) % 340282366920938463463374607431768211456)

theorem leN_append (a b : List Nat) : leN (a ++ b) = leN a + 256 ^ a.length * leN b := by
  induction a with
  | nil => simp [leN]
  | cons x a ih =>
    show x + 256 * leN (a ++ b) = x + 256 * leN a + 256 ^ (a.length + 1) * leN b
    rw [ih, Nat.mul_add, Nat.pow_succ, Nat.mul_comm (256 ^ a.length) 256, Nat.mul_assoc]
    omega
theorem leN_lt (a : List Nat) (h : ∀ x ∈ a, x < 256) : leN a < 256 ^ a.length := by
  induction a with
  | nil => simp [leN]
  | cons x a ih =>
    have h1 := h x (List.mem_cons_self ..)
    have h2 := ih fun y hy => h y (List.mem_cons_of_mem _ hy)
    show x + 256 * leN a < 256 ^ (a.length + 1)
    rw [Nat.pow_succ]
    omega
theorem leB_length (k n : Nat) : (leB k n).length = k := by simp [leB]
theorem leB_bytes (k n : Nat) : ∀ x ∈ leB k n, x < 256 := fun x hx => by
  obtain ⟨i, _, rfl⟩ := List.mem_map.1 hx
  exact Nat.mod_lt _ (by decide)
theorem leB_succ (k n : Nat) : leB (k + 1) n = n % 256 :: leB k (n / 256) := by
  have e : ∀ i, n / 2 ^ (8 * (i + 1)) % 256 = n / 256 / 2 ^ (8 * i) % 256 := fun i => by
    rw [Nat.div_div_eq_div_mul, Nat.mul_add, Nat.pow_add, Nat.mul_comm (2 ^ (8 * i))]
  simp only [leB, List.range_succ_eq_map, List.map_cons, List.map_map, Nat.mul_zero, Nat.pow_zero, Nat.div_one, Function.comp_def, e, Nat.succ_eq_add_one]
theorem leB_leN : ∀ (a : List Nat), (∀ x ∈ a, x < 256) → leB a.length (leN a) = a
  | [], _ => rfl
  | x :: a, h => by
    have h1 := h x (List.mem_cons_self ..)
    have h2 := leB_leN a fun y hy => h y (List.mem_cons_of_mem _ hy)
    rw [List.length_cons, leB_succ, leN, show (x + 256 * leN a) % 256 = x by omega, show (x + 256 * leN a) / 256 = leN a by omega, h2]
theorem leN_leB : ∀ (k n : Nat), leN (leB k n) = n % 256 ^ k
  | 0, n => by simp [leB, leN, Nat.mod_one]
  | k + 1, n => by
    rw [leB_succ, leN, leN_leB k, Nat.pow_succ, Nat.mul_comm (256 ^ k), Nat.mod_mul]
/-- What stands behind whole pieces changes nothing of the number behind them. -/
theorem polyH_append (r : Nat) (l m : List Nat) : ∀ n, 16 * n ≤ l.length → polyH r (l ++ m) n = polyH r l n
  | 0, _ => rfl
  | n + 1, h => by
    rw [polyH, polyH, polyH_append r l m n (by omega), List.drop_append_of_le_length (by omega), List.take_append_of_le_length (by simp; omega)]
/-- One piece more behind whole pieces. -/
theorem polyN_snoc (r : Nat) (l m : List Nat) (n : Nat) (h : l.length = 16 * n) (h1 : 0 < m.length) (h2 : m.length ≤ 16) : polyN r (l ++ m) = polyStep r (polyN r l) m := by
  have e1 : ((l ++ m).length + 15) / 16 = n + 1 := by rw [List.length_append]; omega
  have e2 : (l.length + 15) / 16 = n := by omega
  rw [polyN, polyN, e1, e2, polyH, polyH_append r l m n (by omega), List.drop_append_of_le_length (by omega), List.drop_eq_nil_of_le (by omega), List.nil_append, List.take_of_length_le h2]
theorem polyN_nil (r : Nat) : polyN r [] = 0 := rfl
theorem polyN_lt (r : Nat) (l : List Nat) : polyN r l < polyP := by
  unfold polyN
  cases (l.length + 15) / 16 with
  | zero => exact (show 0 < polyP by decide)
  | succ n => exact Nat.mod_lt _ (by decide)
theorem polyStep_mod (r h h' : Nat) (m : List Nat) (e : h % polyP = h' % polyP) : polyStep r h m = polyStep r h' m := by
  unfold polyStep
  rw [Nat.mul_mod, Nat.add_mod, e, ← Nat.add_mod, ← Nat.mul_mod]

/-- A product of three words and two, word by word. -/
theorem product_sum (x y z r s xrH xr xsH xs yrH yr ysH ys s0 c1 t0 c2 s1 c3 t1 c4 : Nat)
    (e1 : x * r = xrH * 18446744073709551616 + xr) (e2 : x * s = xsH * 18446744073709551616 + xs) (e3 : y * r = yrH * 18446744073709551616 + yr) (e4 : y * s = ysH * 18446744073709551616 + ys)
    (e7 : xs + yr = c1 * 18446744073709551616 + s0) (e8 : ys + z * r = c2 * 18446744073709551616 + t0) (e9 : s0 + xrH = c3 * 18446744073709551616 + s1) (e10 : t0 + (xsH + yrH + c1) + c3 = c4 * 18446744073709551616 + t1) :
    xr + s1 * 18446744073709551616 + t1 * 340282366920938463463374607431768211456 + (ysH + z * s + c2 + c4) * 6277101735386680763835789423207666416102355444464034512896 = (x + y * 18446744073709551616 + z * 340282366920938463463374607431768211456) * (r + s * 18446744073709551616) := by
  have h1 : (x + y * 18446744073709551616 + z * 340282366920938463463374607431768211456) * (r + s * 18446744073709551616) = x * r + (x * s + y * r) * 18446744073709551616 + (y * s + z * r) * 340282366920938463463374607431768211456 + z * s * 6277101735386680763835789423207666416102355444464034512896 := by
    rw [Nat.add_mul, Nat.add_mul, Nat.mul_add, Nat.mul_add, Nat.mul_add, ← Nat.mul_assoc x s, Nat.mul_right_comm y _ r, Nat.mul_mul_mul_comm y _ s, Nat.mul_right_comm z _ r, Nat.mul_mul_mul_comm z _ s]
    omega
  rw [h1]
  generalize x * r = p1 at *
  generalize x * s = p2 at *
  generalize y * r = p3 at *
  generalize y * s = p4 at *
  generalize z * r = p5 at *
  generalize z * s = p6 at *
  omega
/-- Four words, what they have beyond 130 bits added five times. -/
theorem folded_sum (a b c d x0 k0 y0 k1 x1 k2 y1 k3 : Nat)
    (e1 : a + (c - c % 4) = k0 * 18446744073709551616 + x0) (e2 : b + d + k0 = k1 * 18446744073709551616 + y0) (e3 : x0 + (c / 4 + d % 4 * 4611686018427387904) = k2 * 18446744073709551616 + x1) (e4 : y0 + d / 4 + k2 = k3 * 18446744073709551616 + y1) :
    a + b * 18446744073709551616 + c * 340282366920938463463374607431768211456 + d * 6277101735386680763835789423207666416102355444464034512896 = x1 + y1 * 18446744073709551616 + (c % 4 + k1 + k3) * 340282366920938463463374607431768211456 + polyP * (c / 4 + d * 4611686018427387904) := by
  unfold polyP
  omega
theorem mod_of_add (N V H : Nat) (h : N = V + polyP * H) : V % polyP = N % polyP := by
  rw [h, Nat.add_mul_mod_self_left]
theorem folded_low (c d x1 y1 z : Nat) (a b : Nat) (ha : a < 18446744073709551616) (hb : b < 18446744073709551616) (hd : d < 9223372036854775808) (hc : c < 18446744073709551616) (hx : x1 < 18446744073709551616) (hy : y1 < 18446744073709551616)
    (e : a + b * 18446744073709551616 + c * 340282366920938463463374607431768211456 + d * 6277101735386680763835789423207666416102355444464034512896 = x1 + y1 * 18446744073709551616 + z * 340282366920938463463374607431768211456 + polyP * (c / 4 + d * 4611686018427387904)) : z ≤ 4 := by
  unfold polyP at e
  omega
end Go.Proofs.Ytolmfhgpdcmhlaa
