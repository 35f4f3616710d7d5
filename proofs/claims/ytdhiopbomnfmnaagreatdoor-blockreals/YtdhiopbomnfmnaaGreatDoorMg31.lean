/- Poly1305 as functions of numbers: pieces, the product modulo 2^130 - 5 word by word; nothing of the program. · math/bits' Add64, Sub64 and Mul64, as the walks of box meet them. · box.folded and box.product: numbers of words, modulo 2^130 - 5. -/
import Derived.Test.YtdhiopbomnfmnaaGreatDoorMg27
import Derived.Shelf.Spec.BitsCarry
import Derived.Shelf.Bits.Mul64
namespace Go.Proofs.YtdhiopbomnfmnaaGreatDoor.Bx
set_option maxRecDepth 20000

/-- 2^130 - 5. -/
def polyP : Nat := 1361129467683753853853498429727072845819
/-- The number of bytes, the lowest first; a number's first bytes. -/
def leN : List Nat → Nat
  | [] => 0
  | x :: l => x + 256 * leN l
def leB (k n : Nat) : List Nat := (List.range k).map fun i => n / 2 ^ (8 * i) % 256
/-- The key's first half, bits taken away. -/
def clampB (i x : Nat) : Nat := if i % 4 = 3 then x % 16 else if i % 4 = 0 ∧ 0 < i then x - x % 4 else x
def clampL (l : List Nat) : List Nat := (List.range 16).map fun i => clampB i (l.getD i 0)
def polyR (key : List Nat) : Nat := leN (clampL key)
/-- One piece more. -/
def polyStep (r h : Nat) (piece : List Nat) : Nat := (h + leN (piece ++ [1])) * r % polyP
/-- The number behind the first n pieces. -/
def polyH (r : Nat) (l : List Nat) : Nat → Nat
  | 0 => 0
  | n + 1 => polyStep r (polyH r l n) ((l.drop (16 * n)).take 16)
def polyN (r : Nat) (l : List Nat) : Nat := polyH r l ((l.length + 15) / 16)
/-- Poly1305's tag. -/
def polyT (key l : List Nat) : List Nat := leB 16 ((polyN (polyR key) l + leN (key.drop 16)) % 340282366920938463463374607431768211456)

theorem leN_append (a b : List Nat) : leN (a ++ b) = leN a + 256 ^ a.length * leN b := by
  induction a with
  | nil => simp [leN]
  | cons x a ih =>
    show x + 256 * leN (a ++ b) = x + 256 * leN a + 256 ^ (a.length + 1) * leN b
    rw [ih, Nat.mul_add, Nat.pow_succ, Nat.mul_comm (256 ^ a.length) 256, Nat.mul_assoc]
    omega
theorem leN_lt (a : List Nat) (h : ∀ x ∈ a, x < 256) : leN a < 256 ^ a.length := by
  induction a with
  | nil => simp [leN]
  | cons x a ih =>
    have h1 := h x (List.mem_cons_self ..)
    have h2 := ih fun y hy => h y (List.mem_cons_of_mem _ hy)
    show x + 256 * leN a < 256 ^ (a.length + 1)
    rw [Nat.pow_succ]
    omega
theorem leB_length (k n : Nat) : (leB k n).length = k := by simp [leB]
theorem leB_bytes (k n : Nat) : ∀ x ∈ leB k n, x < 256 := fun x hx => by
  obtain ⟨i, _, rfl⟩ := List.mem_map.1 hx
  exact Nat.mod_lt _ (by decide)
theorem leB_succ (k n : Nat) : leB (k + 1) n = n % 256 :: leB k (n / 256) := by
  have e : ∀ i, n / 2 ^ (8 * (i + 1)) % 256 = n / 256 / 2 ^ (8 * i) % 256 := fun i => by
    rw [Nat.div_div_eq_div_mul, Nat.mul_add, Nat.pow_add, Nat.mul_comm (2 ^ (8 * i))]
  simp only [leB, List.range_succ_eq_map, List.map_cons, List.map_map, Nat.mul_zero, Nat.pow_zero, Nat.div_one, Function.comp_def, e, Nat.succ_eq_add_one]
theorem leB_leN : ∀ (a : List Nat), (∀ x ∈ a, x < 256) → leB a.length (leN a) = a
  | [], _ => rfl
  | x :: a, h => by
    have h1 := h x (List.mem_cons_self ..)
    have h2 := leB_leN a fun y hy => h y (List.mem_cons_of_mem _ hy)
    rw [List.length_cons, leB_succ, leN, show (x + 256 * leN a) % 256 = x by omega, show (x + 256 * leN a) / 256 = leN a by omega, h2]
theorem leN_leB : ∀ (k n : Nat), leN (leB k n) = n % 256 ^ k
  | 0, n => by simp [leB, leN, Nat.mod_one]
  | k + 1, n => by
    rw [leB_succ, leN, leN_leB k, Nat.pow_succ, Nat.mul_comm (256 ^ k), Nat.mod_mul]
/-- What stands behind whole pieces changes nothing of the number behind them. -/
theorem polyH_append (r : Nat) (l m : List Nat) : ∀ n, 16 * n ≤ l.length → polyH r (l ++ m) n = polyH r l n
  | 0, _ => rfl
  | n + 1, h => by
    rw [polyH, polyH, polyH_append r l m n (by omega), List.drop_append_of_le_length (by omega), List.take_append_of_le_length (by simp; omega)]
/-- One piece more behind whole pieces. -/
theorem polyN_snoc (r : Nat) (l m : List Nat) (n : Nat) (h : l.length = 16 * n) (h1 : 0 < m.length) (h2 : m.length ≤ 16) : polyN r (l ++ m) = polyStep r (polyN r l) m := by
  have e1 : ((l ++ m).length + 15) / 16 = n + 1 := by rw [List.length_append]; omega
  have e2 : (l.length + 15) / 16 = n := by omega
  rw [polyN, polyN, e1, e2, polyH, polyH_append r l m n (by omega), List.drop_append_of_le_length (by omega), List.drop_eq_nil_of_le (by omega), List.nil_append, List.take_of_length_le h2]
theorem polyN_nil (r : Nat) : polyN r [] = 0 := rfl
theorem polyN_lt (r : Nat) (l : List Nat) : polyN r l < polyP := by
  unfold polyN
  cases (l.length + 15) / 16 with
  | zero => exact (show 0 < polyP by decide)
  | succ n => exact Nat.mod_lt _ (by decide)
theorem polyStep_mod (r h h' : Nat) (m : List Nat) (e : h % polyP = h' % polyP) : polyStep r h m = polyStep r h' m := by
  unfold polyStep
  rw [Nat.mul_mod, Nat.add_mod, e, ← Nat.add_mod, ← Nat.mul_mod]

/-- A product of three words and two, word by word. -/
theorem product_sum (x y z r s xrH xr xsH xs yrH yr ysH ys s0 c1 t0 c2 s1 c3 t1 c4 : Nat)
    (e1 : x * r = xrH * 18446744073709551616 + xr) (e2 : x * s = xsH * 18446744073709551616 + xs) (e3 : y * r = yrH * 18446744073709551616 + yr) (e4 : y * s = ysH * 18446744073709551616 + ys)
    (e7 : xs + yr = c1 * 18446744073709551616 + s0) (e8 : ys + z * r = c2 * 18446744073709551616 + t0) (e9 : s0 + xrH = c3 * 18446744073709551616 + s1) (e10 : t0 + (xsH + yrH + c1) + c3 = c4 * 18446744073709551616 + t1) :
    xr + s1 * 18446744073709551616 + t1 * 340282366920938463463374607431768211456 + (ysH + z * s + c2 + c4) * 6277101735386680763835789423207666416102355444464034512896 = (x + y * 18446744073709551616 + z * 340282366920938463463374607431768211456) * (r + s * 18446744073709551616) := by
  have h1 : (x + y * 18446744073709551616 + z * 340282366920938463463374607431768211456) * (r + s * 18446744073709551616) = x * r + (x * s + y * r) * 18446744073709551616 + (y * s + z * r) * 340282366920938463463374607431768211456 + z * s * 6277101735386680763835789423207666416102355444464034512896 := by
    rw [Nat.add_mul, Nat.add_mul, Nat.mul_add, Nat.mul_add, Nat.mul_add, ← Nat.mul_assoc x s, Nat.mul_right_comm y _ r, Nat.mul_mul_mul_comm y _ s, Nat.mul_right_comm z _ r, Nat.mul_mul_mul_comm z _ s]
    omega
  rw [h1]
  generalize x * r = p1 at *
  generalize x * s = p2 at *
  generalize y * r = p3 at *
  generalize y * s = p4 at *
  generalize z * r = p5 at *
  generalize z * s = p6 at *
  omega
/-- Four words, what they have beyond 130 bits added five times. -/
theorem folded_sum (a b c d x0 k0 y0 k1 x1 k2 y1 k3 : Nat)
    (e1 : a + (c - c % 4) = k0 * 18446744073709551616 + x0) (e2 : b + d + k0 = k1 * 18446744073709551616 + y0) (e3 : x0 + (c / 4 + d % 4 * 4611686018427387904) = k2 * 18446744073709551616 + x1) (e4 : y0 + d / 4 + k2 = k3 * 18446744073709551616 + y1) :
    a + b * 18446744073709551616 + c * 340282366920938463463374607431768211456 + d * 6277101735386680763835789423207666416102355444464034512896 = x1 + y1 * 18446744073709551616 + (c % 4 + k1 + k3) * 340282366920938463463374607431768211456 + polyP * (c / 4 + d * 4611686018427387904) := by
  unfold polyP
  omega
theorem mod_of_add (N V H : Nat) (h : N = V + polyP * H) : V % polyP = N % polyP := by
  rw [h, Nat.add_mul_mod_self_left]
theorem folded_low (c d x1 y1 z : Nat) (a b : Nat) (ha : a < 18446744073709551616) (hb : b < 18446744073709551616) (hd : d < 9223372036854775808) (hc : c < 18446744073709551616) (hx : x1 < 18446744073709551616) (hy : y1 < 18446744073709551616)
    (e : a + b * 18446744073709551616 + c * 340282366920938463463374607431768211456 + d * 6277101735386680763835789423207666416102355444464034512896 = x1 + y1 * 18446744073709551616 + z * 340282366920938463463374607431768211456 + polyP * (c / 4 + d * 4611686018427387904)) : z ≤ 4 := by
  unfold polyP at e
  omega
end Go.Proofs.YtdhiopbomnfmnaaGreatDoor.Bx

namespace Go.Proofs.YtdhiopbomnfmnaaGreatDoor.Bx
set_option maxRecDepth 20000
open Go.RowKit

theorem add64_run (x y c : Nat) (hc : c ≤ 1) (w : World) : (callFunc 158 #[.int .u64 x, .int .u64 y, .int .u64 c]).run Tryz.prog w =
    .ok (.value (.tuple #[.int .u64 (((x + y + c) % 18446744073709551616 : Nat) : Int), .int .u64 (((x + y + c) / 18446744073709551616 : Nat) : Int)])) w := by
  rw [run_callFunc_extern Tryz.func158 (by kernel_rfl) (by kernel_rfl) (by kernel_rfl) (e := add64Entry) (by kernel_rfl), run_add64 x y c (by omega) (by omega) (by omega) (by omega)]
  simp only [Result.andThen]
  congr 5 <;> omega
/-- A sum of two words and a carry: a word and a carry. -/
theorem add64_c (x y c : Nat) (hx : x < 18446744073709551616) (hy : y < 18446744073709551616) (hc : c ≤ 1) : ∃ k s : Nat, (∀ w, (callFunc 158 #[.int .u64 x, .int .u64 y, .int .u64 c]).run Tryz.prog w = .ok (.value (.tuple #[.int .u64 s, .int .u64 k])) w) ∧ x + y + c = k * 18446744073709551616 + s ∧ s < 18446744073709551616 ∧ k ≤ 1 :=
  ⟨(x + y + c) / 18446744073709551616, (x + y + c) % 18446744073709551616, fun w => add64_run x y c hc w, by omega, by omega, by omega⟩
theorem add64_0 (x y : Nat) (hx : x < 18446744073709551616) (hy : y < 18446744073709551616) : ∃ k s : Nat, (∀ w, (callFunc 158 #[.int .u64 x, .int .u64 y, .int .u64 0]).run Tryz.prog w = .ok (.value (.tuple #[.int .u64 s, .int .u64 k])) w) ∧ x + y = k * 18446744073709551616 + s ∧ s < 18446744073709551616 ∧ k ≤ 1 := by
  obtain ⟨k, s, h1, h2, h3, h4⟩ := add64_c x y 0 hx hy (by decide)
  exact ⟨k, s, h1, by omega, h3, h4⟩
theorem sub64_run (x y b : Nat) (hb : b ≤ 1) (w : World) : (callFunc 165 #[.int .u64 x, .int .u64 y, .int .u64 b]).run Tryz.prog w =
    .ok (.value (.tuple #[.int .u64 (((x + 18446744073709551616 - y - b) % 18446744073709551616 : Nat) : Int), .int .u64 ((if x < y + b then 1 else 0 : Nat) : Int)])) w := by
  rw [run_callFunc_extern Tryz.func165 (by kernel_rfl) (by kernel_rfl) (by kernel_rfl) (e := sub64Entry) (by kernel_rfl), run_sub64 x y b hb]
  rfl
/-- A difference of two words and a borrow: a word and a borrow. -/
theorem sub64_c (x y c : Nat) (hx : x < 18446744073709551616) (hy : y < 18446744073709551616) (hc : c ≤ 1) : ∃ k s : Nat, (∀ w, (callFunc 165 #[.int .u64 x, .int .u64 y, .int .u64 c]).run Tryz.prog w = .ok (.value (.tuple #[.int .u64 s, .int .u64 k])) w) ∧ x + k * 18446744073709551616 = y + c + s ∧ s < 18446744073709551616 ∧ k ≤ 1 := by
  refine ⟨if x < y + c then 1 else 0, (x + 18446744073709551616 - y - c) % 18446744073709551616, fun w => sub64_run x y c hc w, ?_, by omega, by split <;> omega⟩
  split <;> omega

set_option maxHeartbeats 1000000 in
theorem mul64_run (x y : Nat) (hx : x < 18446744073709551616) (hy : y < 18446744073709551616) (w : World) :
    Calls Tryz.prog 168 #[.int .u64 x, .int .u64 y] w fun e w' => e = .returned (.tuple #[.int .u64 ((x * y / 18446744073709551616 : Nat) : Int), .int .u64 ((x * y % 18446744073709551616 : Nat) : Int)]) ∧ w' = w := by
  obtain ⟨bd, bt, bw, hhi⟩ := Lib.mul64_hi x y hx hy
  have ba := Lib.half_mul_le (a := x / 4294967296) (b := y / 4294967296) (by omega) (by omega)
  have bb := Lib.half_mul_le (a := x / 4294967296) (b := y % 4294967296) (by omega) (by omega)
  have bc := Lib.half_mul_le (a := x % 4294967296) (b := y / 4294967296) (by omega) (by omega)
  have ba' : x / 4294967296 * (y / 4294967296) < 18446744073709551616 := by omega
  have bb' : x / 4294967296 * (y % 4294967296) < 18446744073709551616 := by omega
  have bc' : x % 4294967296 * (y / 4294967296) < 18446744073709551616 := by omega
  have bh1 : x / 4294967296 * (y / 4294967296) + (x / 4294967296 * (y % 4294967296) + x % 4294967296 * (y % 4294967296) / 4294967296) / 4294967296 < 18446744073709551616 := by omega
  have bh : x / 4294967296 * (y / 4294967296) + (x / 4294967296 * (y % 4294967296) + x % 4294967296 * (y % 4294967296) / 4294967296) / 4294967296 + ((x / 4294967296 * (y % 4294967296) + x % 4294967296 * (y % 4294967296) / 4294967296) % 4294967296 + x % 4294967296 * (y / 4294967296)) / 4294967296 < 18446744073709551616 := by omega
  go_enter Tryz.func168, Tryz.ntmps168
  go_wp2
  simp only [Mul64.maskN x hx, Mul64.maskN y hy, Mul64.divN, Mul64.mulN, Mul64.addN, Mul64.wrapN _ bd, Mul64.wrapN _ bb', Mul64.wrapN _ bt, Mul64.maskN _ bt, Mul64.wrapN _ bc', Mul64.wrapN _ bw, Mul64.wrapN _ ba', Mul64.wrapN _ bh1, Mul64.wrapN _ bh, Mul64.wrapM (x * y)]
  rw [hhi]
  go_ret2
  exact ⟨rfl, rfl⟩
theorem mul64_any (x y : Nat) (hx : x < 18446744073709551616) (hy : y < 18446744073709551616) : ∃ h l : Nat, (∀ w, Calls Tryz.prog 168 #[.int .u64 x, .int .u64 y] w fun e w' => e = .returned (.tuple #[.int .u64 h, .int .u64 l]) ∧ w' = w) ∧ x * y = h * 18446744073709551616 + l ∧ l < 18446744073709551616 ∧ h < 18446744073709551616 := by
  refine ⟨x * y / 18446744073709551616, x * y % 18446744073709551616, fun w => mul64_run x y hx hy w, by omega, by omega, ?_⟩
  have h : x * y < 18446744073709551616 * 18446744073709551616 := Nat.mul_lt_mul'' hx hy
  rw [Nat.div_lt_iff_lt_mul (by decide)]
  exact h
end Go.Proofs.YtdhiopbomnfmnaaGreatDoor.Bx

namespace Go.Proofs.YtdhiopbomnfmnaaGreatDoor.Bx
set_option maxRecDepth 20000
open Go.RowKit

theorem and_not3 (a : Nat) (h : a < 18446744073709551616) : a &&& 18446744073709551612 = a - a % 4 := by
  have e : a - a % 4 = a / 4 * 4 := by omega
  rw [e]
  refine Nat.eq_of_testBit_eq fun i => ?_
  rw [Nat.testBit_and, show (18446744073709551612 : Nat) = (2 ^ 62 - 1) * 2 ^ 2 from rfl, show a / 4 * 4 = (a / 2 ^ 2) * 2 ^ 2 from rfl, Nat.testBit_mul_two_pow, Nat.testBit_mul_two_pow, Nat.testBit_two_pow_sub_one, Nat.testBit_div_two_pow]
  by_cases h2 : 2 ≤ i
  · by_cases h3 : i - 2 < 62
    · simp [h2, h3, show i - 2 + 2 = i by omega]
    · have : a.testBit i = false := Nat.testBit_lt_two_pow (Nat.lt_of_lt_of_le h (Nat.pow_le_pow_right (n := 2) (i := 64) (by decide) (by omega)))
      simp [h2, h3, show i - 2 + 2 = i by omega, this]
  · simp [h2]
theorem fold_not (c : Nat) (hc : c < 18446744073709551616) : bits .andNot .u64 (c : Int) 3 = ((c - c % 4 : Nat) : Int) := by
  rw [show (3 : Int) = ((3 : Nat) : Int) from rfl, u64_andNot_nat c 3 hc (by decide)]
  exact congrArg _ (and_not3 c hc)
theorem fold_and (c : Nat) (hc : c < 18446744073709551616) : bits .and .u64 (c : Int) 3 = ((c % 4 : Nat) : Int) := by
  rw [show (3 : Int) = ((3 : Nat) : Int) from rfl, u64_and_nat c 3 hc (by decide), nat_mask2]
theorem fold_or (c d : Nat) (hc : c < 18446744073709551616) : bits .or .u64 ((c : Int) / 4) (IntKind.u64.wrap ((d : Int) * 4611686018427387904)) = ((c / 4 + d % 4 * 4611686018427387904 : Nat) : Int) := by
  have e1 : (c : Int) / 4 = ((c / 4 : Nat) : Int) := by omega
  have e2 : IntKind.u64.wrap ((d : Int) * 4611686018427387904) = ((d % 4 * 4611686018427387904 : Nat) : Int) := by rw [IntKind.wrap_u64]; omega
  rw [e1, e2, u64_or_nat _ _ (by omega) (by omega), Nat.or_comm, nat_join 62 _ _ (by omega) (by omega), Nat.add_comm]

theorem quot4 (d q : Nat) (h : q = d / 4) : (d : Int) / 4 = q := by omega
theorem wrap_sum2 (p k : Nat) (h : p + k < 18446744073709551616) : IntKind.u64.wrap ((p : Int) + k) = p + k := by rw [IntKind.wrap_u64]; omega
theorem wrap_sum3 (p k l : Nat) (h : p + k + l < 18446744073709551616) : IntKind.u64.wrap ((p : Int) + k + l) = p + k + l := by rw [IntKind.wrap_u64]; omega
theorem wrap_one (p : Nat) (h : p < 18446744073709551616) : IntKind.u64.wrap (p : Int) = p := by rw [IntKind.wrap_u64]; omega
theorem wrap_sum4 (p k l m : Nat) (h : p + k + l + m < 18446744073709551616) : IntKind.u64.wrap ((p : Int) + k + l + m) = ((p + k + l + m : Nat) : Int) := by rw [IntKind.wrap_u64]; omega
theorem small5 (p k l : Nat) (h : p + k + l ≤ 4) : p + k + l < 18446744073709551616 ∧ p + k < 18446744073709551616 := by omega

set_option maxHeartbeats 1000000 in
theorem folded_any (a b c d : Nat) (ha : a < 18446744073709551616) (hb : b < 18446744073709551616) (hc : c < 18446744073709551616) (hd : d < 9223372036854775808) : ∃ x y z : Nat, x < 18446744073709551616 ∧ y < 18446744073709551616 ∧ z ≤ 4 ∧
    (x + y * 18446744073709551616 + z * 340282366920938463463374607431768211456) % polyP = (a + b * 18446744073709551616 + c * 340282366920938463463374607431768211456 + d * 6277101735386680763835789423207666416102355444464034512896) % polyP ∧
    ∀ w, Calls Tryz.prog 169 #[.int .u64 a, .int .u64 b, .int .u64 c, .int .u64 d] w fun e w' => e = .returned (.agg #[.int .u64 x, .int .u64 y, .int .u64 z]) ∧ Below w.heap.size w w' := by
  obtain ⟨m, hm⟩ : ∃ m, m = c - c % 4 := ⟨_, rfl⟩
  obtain ⟨k0, x0, r1, e1, l1, g1⟩ := add64_0 a m ha (by omega)
  obtain ⟨k1, y0, r2, e2, l2, g2⟩ := add64_c b d k0 hb (by omega) g1
  obtain ⟨n, hn⟩ : ∃ n, n = c / 4 + d % 4 * 4611686018427387904 := ⟨_, rfl⟩
  obtain ⟨k2, x1, r3, e3, l3, g3⟩ := add64_0 x0 n l1 (by omega)
  obtain ⟨q, hq⟩ : ∃ q, q = d / 4 := ⟨_, rfl⟩
  obtain ⟨k3, y1, r4, e4, l4, g4⟩ := add64_c y0 q k2 l2 (by omega) g3
  have hsum := folded_sum a b c d x0 k0 y0 k1 x1 k2 y1 k3 (by omega) e2 (by omega) (by omega)
  have hz := folded_low c d x1 y1 _ a b ha hb hd hc l3 l4 hsum
  refine ⟨x1, y1, c % 4 + k1 + k3, l3, l4, hz, mod_of_add _ _ _ hsum, fun w => ?_⟩
  have v1 := fold_not c hc
  have v2 := fold_and c hc
  have v3 := fold_or c d hc
  rw [← hm] at v1
  rw [← hn] at v3
  have v4 := quot4 d q hq
  obtain ⟨p, hp⟩ : ∃ p, p = c % 4 := ⟨_, rfl⟩
  rw [← hp] at v2 hz
  rw [← hp]
  have v5 := wrap_sum2 p k1 (small5 p k1 k3 hz).2
  have v6 := wrap_sum3 p k1 k3 (small5 p k1 k3 hz).1
  clear hsum hz e1 e2 e3 e4 hm hn hq hp
  go_enter Tryz.func169, Tryz.ntmps169
  go_wp2
  exact bodyPost_ret (v := .agg #[.int .u64 x1, .int .u64 y1, .int .u64 ((p : Int) + k1 + k3)]) (by simp [results, Tryz.results169, go_sem]) rfl ⟨rfl, (Below.refl _ _).alloc (Nat.le_refl _) _⟩

theorem bcell {W w1 : World} {B : Nat} (hb : Below B W w1) : (∀ b o, b < B → w1.cell? ⟨b, o, none⟩ = W.cell? ⟨b, o, none⟩) ∧ (∀ b o, b < B → w1.frozen? ⟨b, o, none⟩ = W.frozen? ⟨b, o, none⟩) :=
  ⟨fun b o h => hb.cell (p := ⟨b, o, none⟩) h, fun b o h => hb.frozen (p := ⟨b, o, none⟩) h⟩
theorem mul_small (z r : Nat) (hz : z < 8) (hr : r < 1152921504606846976) : z * r < 9223372036854775808 := by
  have h1 : z * r ≤ 7 * r := Nat.mul_le_mul_right r (by omega)
  omega
theorem hi_small (x s h l : Nat) (hx : x < 18446744073709551616) (hs : s < 1152921504606846976) (e : x * s = h * 18446744073709551616 + l) : h < 1152921504606846976 := by
  have h1 : x * s ≤ 18446744073709551615 * s := Nat.mul_le_mul_right s (by omega)
  omega
theorem third_high (t : Nat) (h2 : t * 6277101735386680763835789423207666416102355444464034512896 ≤ 57896044618658097711785492504343953926634992332820282019728792003956564819967) : t < 9223372036854775808 := by omega
theorem prod_lt (x y z r s : Nat) (hx : x < 18446744073709551616) (hy : y < 18446744073709551616) (hz : z < 8) (hr : r < 1152921504606846976) (hs : s < 1152921504606846976) :
    (x + y * 18446744073709551616 + z * 340282366920938463463374607431768211456) * (r + s * 18446744073709551616) ≤ 57896044618658097711785492504343953926634992332820282019728792003956564819967 := by
  have h1 : x + y * 18446744073709551616 + z * 340282366920938463463374607431768211456 ≤ 2722258935367507707706996859454145691647 := by omega
  have h2 : r + s * 18446744073709551616 ≤ 21267647932558653966460912964485513215 := by omega
  exact Nat.le_trans (Nat.mul_le_mul h1 h2) (by decide)

set_option maxHeartbeats 1000000 in
theorem product_any (x y z r s : Nat) (hx : x < 18446744073709551616) (hy : y < 18446744073709551616) (hz : z < 8) (hr : r < 1152921504606846976) (hs : s < 1152921504606846976) : ∃ h0 h1 h2 : Nat, h0 < 18446744073709551616 ∧ h1 < 18446744073709551616 ∧ h2 ≤ 4 ∧
    (h0 + h1 * 18446744073709551616 + h2 * 340282366920938463463374607431768211456) % polyP = ((x + y * 18446744073709551616 + z * 340282366920938463463374607431768211456) * (r + s * 18446744073709551616)) % polyP ∧
    ∀ w, Calls Tryz.prog 164 #[.int .u64 x, .int .u64 y, .int .u64 z, .int .u64 r, .int .u64 s] w fun e w' => e = .returned (.agg #[.int .u64 h0, .int .u64 h1, .int .u64 h2]) ∧ Below w.heap.size w w' := by
  have hr' : r < 18446744073709551616 := by omega
  have hs' : s < 18446744073709551616 := by omega
  obtain ⟨xrH, xr, m1, e1, l1, g1⟩ := mul64_any x r hx hr'
  obtain ⟨xsH, xs, m2, e2, l2, g2⟩ := mul64_any x s hx hs'
  obtain ⟨yrH, yr, m3, e3, l3, g3⟩ := mul64_any y r hy hr'
  obtain ⟨ysH, ys, m4, e4, l4, g4⟩ := mul64_any y s hy hs'
  have b2 := hi_small x s xsH xs hx hs e2
  have b3 := hi_small y r yrH yr hy hr e3
  have b4 := hi_small y s ysH ys hy hs e4
  obtain ⟨c1, s0, r1, e7, l5, g5⟩ := add64_0 xs yr l2 l3
  have hzr := mul_small z r hz hr
  have hzs := mul_small z s hz hs
  obtain ⟨zr, hzr'⟩ : ∃ zr, zr = z * r := ⟨_, rfl⟩
  obtain ⟨zs, hzs'⟩ : ∃ zs, zs = z * s := ⟨_, rfl⟩
  rw [← hzr'] at hzr
  rw [← hzs'] at hzs
  obtain ⟨c2, t0, r2, e8, l6, g6⟩ := add64_0 ys zr l4 (by clear e1 e2 e3 e4 e7 r1 m1 m2 m3 m4; omega)
  obtain ⟨c3, s1, r3, e9, l7, g7⟩ := add64_0 s0 xrH l5 g1
  obtain ⟨sh, hsh⟩ : ∃ sh, sh = xsH + yrH + c1 := ⟨_, rfl⟩
  have lsh : sh < 18446744073709551616 := by clear e1 e2 e3 e4 e7 e8 e9 r1 r2 r3 m1 m2 m3 m4; omega
  obtain ⟨c4, t1, r4, e10, l8, g8⟩ := add64_c t0 sh c3 l6 lsh g7
  have hsum := product_sum x y z r s xrH xr xsH xs yrH yr ysH ys s0 c1 t0 c2 s1 c3 t1 c4 e1 e2 e3 e4 e7 (by rw [← hzr']; exact e8) e9 (by rw [← hsh]; exact e10)
  rw [← hzs'] at hsum
  obtain ⟨th, hth⟩ : ∃ th, th = ysH + zs + c2 + c4 := ⟨_, rfl⟩
  have lth : th < 9223372036854775808 := by
    refine third_high th ?_
    have := prod_lt x y z r s hx hy hz hr hs
    rw [← hsum, ← hth] at this
    clear hsum e1 e2 e3 e4 e7 e8 e9 e10
    omega
  rw [← hth] at hsum
  obtain ⟨h0, h1, h2, k1, k2, k3, hmod, hfold⟩ := folded_any xr s1 t1 th l1 l7 l8 lth
  refine ⟨h0, h1, h2, k1, k2, k3, by rw [hmod, hsum], fun w => ?_⟩
  have v1 : IntKind.u64.wrap ((xsH : Int) + yrH) = xsH + yrH := wrap_sum2 _ _ (by clear hsum e1 e2 e3 e4 e7 e8 e9 e10 hmod; omega)
  have v2 : IntKind.u64.wrap ((xsH : Int) + yrH + c1) = sh := by rw [wrap_sum3 _ _ _ (by rw [← hsh]; exact lsh), hsh]; rfl
  have v3 : IntKind.u64.wrap ((z : Int) * r) = zr := by rw [hzr', ← Int.natCast_mul, ← hzr']; exact wrap_one zr (by clear hsum e1 e2 e3 e4 e7 e8 e9 e10 hmod; omega)
  have v4 : IntKind.u64.wrap ((z : Int) * s) = zs := by rw [hzs', ← Int.natCast_mul, ← hzs']; exact wrap_one zs (by clear hsum e1 e2 e3 e4 e7 e8 e9 e10 hmod; omega)
  have hlt : ysH + zs + c2 + c4 < 18446744073709551616 := by clear hsum e1 e2 e3 e4 e7 e8 e9 e10 hmod; omega
  have v5 : IntKind.u64.wrap ((ysH : Int) + zs) = ysH + zs := wrap_sum2 _ _ (by clear hsum e1 e2 e3 e4 e7 e8 e9 e10 hmod; omega)
  have v6 : IntKind.u64.wrap ((ysH : Int) + zs + c2) = ysH + zs + c2 := wrap_sum3 _ _ _ (by clear hsum e1 e2 e3 e4 e7 e8 e9 e10 hmod; omega)
  have v7 : IntKind.u64.wrap ((ysH : Int) + zs + c2 + c4) = th := by rw [hth]; exact wrap_sum4 _ _ _ _ hlt
  clear hsum hmod e1 e2 e3 e4 e7 e8 e9 e10 hzr' hzs' hsh hth lsh lth hlt b2 b3 b4
  go_enter Tryz.func164, Tryz.ntmps164
  go_wp2_with fail
  refine (m1 _).mono ?_
  rintro e w' ⟨rfl, rfl⟩
  go_wp2_with fail
  refine (m2 _).mono ?_
  rintro e w' ⟨rfl, rfl⟩
  go_wp2_with fail
  refine (m3 _).mono ?_
  rintro e w' ⟨rfl, rfl⟩
  go_wp2_with fail
  refine (m4 _).mono ?_
  rintro e w' ⟨rfl, rfl⟩
  go_wp2_with fail
  refine (hfold _).mono ?_
  rintro e w1 ⟨rfl, hb1⟩
  clear r1 r2 r3 r4 m1 m2 m3 m4 hfold
  have hk : w1.heap[w.heap.size]? = some (.cells #[.int .u64 0, .int .u64 0, .int .u64 0] 192 (0, 0)) := (hb1.block _ (by simp)).trans (heap_alloc_new w _)
  have hbw : Below w.heap.size w w1 := ((Below.refl _ _).alloc (Nat.le_refl _) _).trans (hb1.mono (by simp))
  obtain ⟨ds, hds⟩ : ∃ ds : Array Value, ds = #[.int .u64 h0, .int .u64 h1, .int .u64 h2] := ⟨_, rfl⟩
  have hsz : ds.size = 3 := by rw [hds]; rfl
  have hone : ds.all (·.oneCell') = true := by rw [hds]; simp [Value.oneCell']
  have hinfo : (Tryz.prog.info? 192).map (·.size) = some ds.size := by rw [hsz]; kernel_rfl
  have hba := below_rowH hbw (Nat.le_refl _) ds
  have hl0 := run_loadVar_row (P := Tryz.prog) (w1.setRow w.heap.size ds) w.heap.size 192 192 ds (0, 0) _ (setRow_heap _ _ _ _ _ _ hk) Tryz.underlying192 rfl hinfo
  rw [← hds]
  have HDS : Hid (ds = #[.int .u64 h0, .int .u64 h1, .int .u64 h2]) := hds
  clear hds
  go_wp2_with (refine wpList_store_row rfl 192 _ _ rfl w.heap.size ds rfl rfl 192 _ hk hinfo (by rw [hsz]; rfl) hone ?_)
  exact bodyPost_ret (v := .agg ds) (by simp [results, Tryz.results164, asAddr, Act.put, hl0]) rfl ⟨by rw [HDS.out], hba⟩
end Go.Proofs.YtdhiopbomnfmnaaGreatDoor.Bx
