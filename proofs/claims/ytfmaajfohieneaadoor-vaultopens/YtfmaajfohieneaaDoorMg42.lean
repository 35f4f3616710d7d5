/- Poly1305 as functions of numbers: pieces, the product modulo 2^130 - 5 word by word; nothing of the program. · math/bits' Add64, Sub64 and Mul64, as the walks of box meet them. -/
import Derived.Test.YtfmaajfohieneaaDoorBxBxBase
import Derived.Shelf.Spec.BitsCarry
import Derived.Shelf.Bits.Mul64
namespace Go.Proofs.YtfmaajfohieneaaDoor.Bx
set_option maxRecDepth 20000

/-- 2^130 - 5. -/
def polyP : Nat := 1361129467683753853853498429727072845819
/-- The number of bytes, the lowest first; a number's first bytes. -/
def leN : List Nat → Nat
  | [] => 0
  | x :: l => x + 256 * leN l
def leB (k n : Nat) : List Nat := (List.range k).map fun i => n / 2 ^ (8 * i) % 256
/-- The key's first half, bits taken away. -/
def clampB (i x : Nat) : Nat := if i % 4 = 3 then x % 16 else if i % 4 = 0 ∧ 0 < i then x - x % 4 else x
def clampL (l : List Nat) : List Nat := (List.range 16).map fun i => clampB i (l.getD i 0)
def polyR (key : List Nat) : Nat := leN (clampL key)
/-- One piece more. -/
def polyStep (r h : Nat) (piece : List Nat) : Nat := (h + leN (piece ++ [1])) * r % polyP
/-- The number behind the first n pieces. -/
def polyH (r : Nat) (l : List Nat) : Nat → Nat
  | 0 => 0
  | n + 1 => polyStep r (polyH r l n) ((l.drop (16 * n)).take 16)
def polyN (r : Nat) (l : List Nat) : Nat := polyH r l ((l.length + 15) / 16)
/-- Poly1305's tag. -/
def polyT (key l : List Nat) : List Nat := leB 16 ((polyN (polyR key) l + leN (key.drop 16)) % 340282366920938463463374607431768211456)

theorem leN_append (a b : List Nat) : leN (a ++ b) = leN a + 256 ^ a.length * leN b := by
  induction a with
  | nil => simp [leN]
  | cons x a ih =>
    show x + 256 * leN (a ++ b) = x + 256 * leN a + 256 ^ (a.length + 1) * leN b
    rw [ih, Nat.mul_add, Nat.pow_succ, Nat.mul_comm (256 ^ a.length) 256, Nat.mul_assoc]
    omega
theorem leN_lt (a : List Nat) (h : ∀ x ∈ a, x < 256) : leN a < 256 ^ a.length := by
  induction a with
  | nil => simp [leN]
  | cons x a ih =>
    have h1 := h x (List.mem_cons_self ..)
    have h2 := ih fun y hy => h y (List.mem_cons_of_mem _ hy)
    show x + 256 * leN a < 256 ^ (a.length + 1)
    rw [Nat.pow_succ]
    omega
theorem leB_length (k n : Nat) : (leB k n).length = k := by simp [leB]
theorem leB_bytes (k n : Nat) : ∀ x ∈ leB k n, x < 256 := fun x hx => by
  obtain ⟨i, _, rfl⟩ := List.mem_map.1 hx
  exact Nat.mod_lt _ (by decide)
theorem leB_succ (k n : Nat) : leB (k + 1) n = n % 256 :: leB k (n / 256) := by
  have e : ∀ i, n / 2 ^ (8 * (i + 1)) % 256 = n / 256 / 2 ^ (8 * i) % 256 := fun i => by
    rw [Nat.div_div_eq_div_mul, Nat.mul_add, Nat.pow_add, Nat.mul_comm (2 ^ (8 * i))]
  simp only [leB, List.range_succ_eq_map, List.map_cons, List.map_map, Nat.mul_zero, Nat.pow_zero, Nat.div_one, Function.comp_def, e, Nat.succ_eq_add_one]
theorem leB_leN : ∀ (a : List Nat), (∀ x ∈ a, x < 256) → leB a.length (leN a) = a
  | [], _ => rfl
  | x :: a, h => by
    have h1 := h x (List.mem_cons_self ..)
    have h2 := leB_leN a fun y hy => h y (List.mem_cons_of_mem _ hy)
    rw [List.length_cons, leB_succ, leN, show (x + 256 * leN a) % 256 = x by omega, show (x + 256 * leN a) / 256 = leN a by omega, h2]
theorem leN_leB : ∀ (k n : Nat), leN (leB k n) = n % 256 ^ k
  | 0, n => by simp [leB, leN, Nat.mod_one]
  | k + 1, n => by
    rw [leB_succ, leN, leN_leB k, Nat.pow_succ, Nat.mul_comm (256 ^ k), Nat.mod_mul]
/-- What stands behind whole pieces changes nothing of the number behind them. -/
theorem polyH_append (r : Nat) (l m : List Nat) : ∀ n, 16 * n ≤ l.length → polyH r (l ++ m) n = polyH r l n
  | 0, _ => rfl
  | n + 1, h => by
    rw [polyH, polyH, polyH_append r l m n (by omega), List.drop_append_of_le_length (by omega), List.take_append_of_le_length (by simp; omega)]
/-- One piece more behind whole pieces. -/
theorem polyN_snoc (r : Nat) (l m : List Nat) (n : Nat) (h : l.length = 16 * n) (h1 : 0 < m.length) (h2 : m.length ≤ 16) : polyN r (l ++ m) = polyStep r (polyN r l) m := by
  have e1 : ((l ++ m).length + 15) / 16 = n + 1 := by rw [List.length_append]; omega
  have e2 : (l.length + 15) / 16 = n := by omega
  rw [polyN, polyN, e1, e2, polyH, polyH_append r l m n (by omega), List.drop_append_of_le_length (by omega), List.drop_eq_nil_of_le (by omega), List.nil_append, List.take_of_length_le h2]
theorem polyN_nil (r : Nat) : polyN r [] = 0 := rfl
theorem polyN_lt (r : Nat) (l : List Nat) : polyN r l < polyP := by
  unfold polyN
  cases (l.length + 15) / 16 with
  | zero => exact (show 0 < polyP by decide)
  | succ n => exact Nat.mod_lt _ (by decide)
theorem polyStep_mod (r h h' : Nat) (m : List Nat) (e : h % polyP = h' % polyP) : polyStep r h m = polyStep r h' m := by
  unfold polyStep
  rw [Nat.mul_mod, Nat.add_mod, e, ← Nat.add_mod, ← Nat.mul_mod]

/-- A product of three words and two, word by word. -/
theorem product_sum (x y z r s xrH xr xsH xs yrH yr ysH ys s0 c1 t0 c2 s1 c3 t1 c4 : Nat)
    (e1 : x * r = xrH * 18446744073709551616 + xr) (e2 : x * s = xsH * 18446744073709551616 + xs) (e3 : y * r = yrH * 18446744073709551616 + yr) (e4 : y * s = ysH * 18446744073709551616 + ys)
    (e7 : xs + yr = c1 * 18446744073709551616 + s0) (e8 : ys + z * r = c2 * 18446744073709551616 + t0) (e9 : s0 + xrH = c3 * 18446744073709551616 + s1) (e10 : t0 + (xsH + yrH + c1) + c3 = c4 * 18446744073709551616 + t1) :
    xr + s1 * 18446744073709551616 + t1 * 340282366920938463463374607431768211456 + (ysH + z * s + c2 + c4) * 6277101735386680763835789423207666416102355444464034512896 = (x + y * 18446744073709551616 + z * 340282366920938463463374607431768211456) * (r + s * 18446744073709551616) := by
  have h1 : (x + y * 18446744073709551616 + z * 340282366920938463463374607431768211456) * (r + s * 18446744073709551616) = x * r + (x * s + y * r) * 18446744073709551616 + (y * s + z * r) * 340282366920938463463374607431768211456 + z * s * 6277101735386680763835789423207666416102355444464034512896 := by
    rw [Nat.add_mul, Nat.add_mul, Nat.mul_add, Nat.mul_add, Nat.mul_add, ← Nat.mul_assoc x s, Nat.mul_right_comm y _ r, Nat.mul_mul_mul_comm y _ s, Nat.mul_right_comm z _ r, Nat.mul_mul_mul_comm z _ s]
    omega
  rw [h1]
  generalize x * r = p1 at *
  generalize x * s = p2 at *
  generalize y * r = p3 at *
  generalize y * s = p4 at *
  generalize z * r = p5 at *
  generalize z * s = p6 at *
  omega
/-- Four words, what they have beyond 130 bits added five times. -/
theorem folded_sum (a b c d x0 k0 y0 k1 x1 k2 y1 k3 : Nat)
    (e1 : a + (c - c % 4) = k0 * 18446744073709551616 + x0) (e2 : b + d + k0 = k1 * 18446744073709551616 + y0) (e3 : x0 + (c / 4 + d % 4 * 4611686018427387904) = k2 * 18446744073709551616 + x1) (e4 : y0 + d / 4 + k2 = k3 * 18446744073709551616 + y1) :
    a + b * 18446744073709551616 + c * 340282366920938463463374607431768211456 + d * 6277101735386680763835789423207666416102355444464034512896 = x1 + y1 * 18446744073709551616 + (c % 4 + k1 + k3) * 340282366920938463463374607431768211456 + polyP * (c / 4 + d * 4611686018427387904) := by
  unfold polyP
  omega
theorem mod_of_add (N V H : Nat) (h : N = V + polyP * H) : V % polyP = N % polyP := by
  rw [h, Nat.add_mul_mod_self_left]
theorem folded_low (c d x1 y1 z : Nat) (a b : Nat) (ha : a < 18446744073709551616) (hb : b < 18446744073709551616) (hd : d < 9223372036854775808) (hc : c < 18446744073709551616) (hx : x1 < 18446744073709551616) (hy : y1 < 18446744073709551616)
    (e : a + b * 18446744073709551616 + c * 340282366920938463463374607431768211456 + d * 6277101735386680763835789423207666416102355444464034512896 = x1 + y1 * 18446744073709551616 + z * 340282366920938463463374607431768211456 + polyP * (c / 4 + d * 4611686018427387904)) : z ≤ 4 := by
  unfold polyP at e
  omega
end Go.Proofs.YtfmaajfohieneaaDoor.Bx

namespace Go.Proofs.YtfmaajfohieneaaDoor.Bx
set_option maxRecDepth 20000
open Go.RowKit

theorem add64_run (x y c : Nat) (hc : c ≤ 1) (w : World) : (callFunc 83 #[.int .u64 x, .int .u64 y, .int .u64 c]).run Tryd.prog w =
    .ok (.value (.tuple #[.int .u64 (((x + y + c) % 18446744073709551616 : Nat) : Int), .int .u64 (((x + y + c) / 18446744073709551616 : Nat) : Int)])) w := by
  rw [run_callFunc_extern Tryd.func83 (by kernel_rfl) (by kernel_rfl) (by kernel_rfl) (e := add64Entry) (by kernel_rfl), run_add64 x y c (by omega) (by omega) (by omega) (by omega)]
  simp only [Result.andThen]
  congr 5 <;> omega
/-- A sum of two words and a carry: a word and a carry. -/
theorem add64_c (x y c : Nat) (hx : x < 18446744073709551616) (hy : y < 18446744073709551616) (hc : c ≤ 1) : ∃ k s : Nat, (∀ w, (callFunc 83 #[.int .u64 x, .int .u64 y, .int .u64 c]).run Tryd.prog w = .ok (.value (.tuple #[.int .u64 s, .int .u64 k])) w) ∧ x + y + c = k * 18446744073709551616 + s ∧ s < 18446744073709551616 ∧ k ≤ 1 :=
  ⟨(x + y + c) / 18446744073709551616, (x + y + c) % 18446744073709551616, fun w => add64_run x y c hc w, by omega, by omega, by omega⟩
theorem add64_0 (x y : Nat) (hx : x < 18446744073709551616) (hy : y < 18446744073709551616) : ∃ k s : Nat, (∀ w, (callFunc 83 #[.int .u64 x, .int .u64 y, .int .u64 0]).run Tryd.prog w = .ok (.value (.tuple #[.int .u64 s, .int .u64 k])) w) ∧ x + y = k * 18446744073709551616 + s ∧ s < 18446744073709551616 ∧ k ≤ 1 := by
  obtain ⟨k, s, h1, h2, h3, h4⟩ := add64_c x y 0 hx hy (by decide)
  exact ⟨k, s, h1, by omega, h3, h4⟩
theorem sub64_run (x y b : Nat) (hb : b ≤ 1) (w : World) : (callFunc 91 #[.int .u64 x, .int .u64 y, .int .u64 b]).run Tryd.prog w =
    .ok (.value (.tuple #[.int .u64 (((x + 18446744073709551616 - y - b) % 18446744073709551616 : Nat) : Int), .int .u64 ((if x < y + b then 1 else 0 : Nat) : Int)])) w := by
  rw [run_callFunc_extern Tryd.func91 (by kernel_rfl) (by kernel_rfl) (by kernel_rfl) (e := sub64Entry) (by kernel_rfl), run_sub64 x y b hb]
  rfl
/-- A difference of two words and a borrow: a word and a borrow. -/
theorem sub64_c (x y c : Nat) (hx : x < 18446744073709551616) (hy : y < 18446744073709551616) (hc : c ≤ 1) : ∃ k s : Nat, (∀ w, (callFunc 91 #[.int .u64 x, .int .u64 y, .int .u64 c]).run Tryd.prog w = .ok (.value (.tuple #[.int .u64 s, .int .u64 k])) w) ∧ x + k * 18446744073709551616 = y + c + s ∧ s < 18446744073709551616 ∧ k ≤ 1 := by
  refine ⟨if x < y + c then 1 else 0, (x + 18446744073709551616 - y - c) % 18446744073709551616, fun w => sub64_run x y c hc w, ?_, by omega, by split <;> omega⟩
  split <;> omega

set_option maxHeartbeats 1000000 in
theorem mul64_run (x y : Nat) (hx : x < 18446744073709551616) (hy : y < 18446744073709551616) (w : World) :
    Calls Tryd.prog 94 #[.int .u64 x, .int .u64 y] w fun e w' => e = .returned (.tuple #[.int .u64 ((x * y / 18446744073709551616 : Nat) : Int), .int .u64 ((x * y % 18446744073709551616 : Nat) : Int)]) ∧ w' = w := by
  obtain ⟨bd, bt, bw, hhi⟩ := Lib.mul64_hi x y hx hy
  have ba := Lib.half_mul_le (a := x / 4294967296) (b := y / 4294967296) (by omega) (by omega)
  have bb := Lib.half_mul_le (a := x / 4294967296) (b := y % 4294967296) (by omega) (by omega)
  have bc := Lib.half_mul_le (a := x % 4294967296) (b := y / 4294967296) (by omega) (by omega)
  have ba' : x / 4294967296 * (y / 4294967296) < 18446744073709551616 := by omega
  have bb' : x / 4294967296 * (y % 4294967296) < 18446744073709551616 := by omega
  have bc' : x % 4294967296 * (y / 4294967296) < 18446744073709551616 := by omega
  have bh1 : x / 4294967296 * (y / 4294967296) + (x / 4294967296 * (y % 4294967296) + x % 4294967296 * (y % 4294967296) / 4294967296) / 4294967296 < 18446744073709551616 := by omega
  have bh : x / 4294967296 * (y / 4294967296) + (x / 4294967296 * (y % 4294967296) + x % 4294967296 * (y % 4294967296) / 4294967296) / 4294967296 + ((x / 4294967296 * (y % 4294967296) + x % 4294967296 * (y % 4294967296) / 4294967296) % 4294967296 + x % 4294967296 * (y / 4294967296)) / 4294967296 < 18446744073709551616 := by omega
  go_enter Tryd.func94, Tryd.ntmps94
  go_wp2
  simp only [Mul64.maskN x hx, Mul64.maskN y hy, Mul64.divN, Mul64.mulN, Mul64.addN, Mul64.wrapN _ bd, Mul64.wrapN _ bb', Mul64.wrapN _ bt, Mul64.maskN _ bt, Mul64.wrapN _ bc', Mul64.wrapN _ bw, Mul64.wrapN _ ba', Mul64.wrapN _ bh1, Mul64.wrapN _ bh, Mul64.wrapM (x * y)]
  rw [hhi]
  go_ret2
  exact ⟨rfl, rfl⟩
theorem mul64_any (x y : Nat) (hx : x < 18446744073709551616) (hy : y < 18446744073709551616) : ∃ h l : Nat, (∀ w, Calls Tryd.prog 94 #[.int .u64 x, .int .u64 y] w fun e w' => e = .returned (.tuple #[.int .u64 h, .int .u64 l]) ∧ w' = w) ∧ x * y = h * 18446744073709551616 + l ∧ l < 18446744073709551616 ∧ h < 18446744073709551616 := by
  refine ⟨x * y / 18446744073709551616, x * y % 18446744073709551616, fun w => mul64_run x y hx hy w, by omega, by omega, ?_⟩
  have h : x * y < 18446744073709551616 * 18446744073709551616 := Nat.mul_lt_mul'' hx hy
  rw [Nat.div_lt_iff_lt_mul (by decide)]
  exact h
end Go.Proofs.YtfmaajfohieneaaDoor.Bx
