/- How a text's last block, or its last two, are made, and what one more block makes of a state. · sum.right, called with a word and a number from 1 to 31, tells the word turned to the right, and changes nothing. -/
import Derived.Test.YtfmaajfohieneaaDoorMg12
import Derived.WalkKit
import Derived.Laws.BitsAllLaws
import Derived.Laws.BitsLemmas
namespace Go.Proofs.YtfmaajfohieneaaDoor.Sm
set_option maxRecDepth 20000

theorem be4_length (n : Nat) : (be4 n).length = 4 := rfl
theorem be8_length (n : Nat) : (be8 n).length = 8 := rfl
theorem be4_bytes (n : Nat) : Bytes (be4 n) := by
  intro x hx
  simp only [be4, List.mem_cons, List.not_mem_nil, or_false] at hx
  omega
theorem Bytes.append {a b : List Nat} (ha : Bytes a) (hb : Bytes b) : Bytes (a ++ b) := fun x hx => by
  rcases List.mem_append.1 hx with h | h
  · exact ha x h
  · exact hb x h
theorem Bytes.cons {x : Nat} {b : List Nat} (hx : x < 256) (hb : Bytes b) : Bytes (x :: b) := fun y hy => by
  rcases List.mem_cons.1 hy with h | h
  · omega
  · exact hb y h
theorem Bytes.zeros (n : Nat) : Bytes (List.replicate n 0) := fun x hx => by
  have := (List.mem_replicate.1 hx).2
  omega
theorem Bytes.take {b : List Nat} (h : Bytes b) (n : Nat) : Bytes (b.take n) := fun x hx => h x (List.mem_of_mem_take hx)
theorem Bytes.drop {b : List Nat} (h : Bytes b) (n : Nat) : Bytes (b.drop n) := fun x hx => h x (List.mem_of_mem_drop hx)
theorem be8_bytes (n : Nat) : Bytes (be8 n) := (be4_bytes _).append (be4_bytes _)
theorem outL_length (s : St) : (outL s).length = 32 := rfl
theorem outL_bytes (s : St) : Bytes (outL s) :=
  ((((((((be4_bytes _).append (be4_bytes _)).append (be4_bytes _)).append (be4_bytes _)).append (be4_bytes _)).append (be4_bytes _)).append (be4_bytes _)).append (be4_bytes _))
theorem shaL_length (l : List Nat) : (shaL l).length = 32 := outL_length _
theorem shaL_bytes (l : List Nat) : Bytes (shaL l) := outL_bytes _
theorem fillL_length (l : List Nat) : (fillL l).length = l.length + 1 + lack l.length + 8 := by
  simp [fillL, be8_length]; omega
theorem fillL_bytes {l : List Nat} (h : Bytes l) : Bytes (fillL l) := (h.append (Bytes.cons (by decide) (Bytes.zeros _))).append (be8_bytes _)

/-- One more whole block. -/
theorem absorb_step (l m : List Nat) (q : Nat) (h1 : 64 * q ≤ l.length) (h2 : l.length + m.length = 64 * q + 64) : absorb (l ++ m) (q + 1) = comp (absorb l q) (l.drop (64 * q) ++ m) := by
  rw [absorb, absorb_append l m q h1, List.drop_append_of_le_length h1, List.take_of_length_le (by simp; omega)]

theorem sha_small (l : List Nat) (q have_ : Nat) (h1 : l.length = 64 * q + have_) (h2 : have_ < 56) :
    shaL l = outL (comp (absorb l q) (l.drop (64 * q) ++ 128 :: (List.replicate (55 - have_) 0 ++ be8 (8 * l.length)))) := by
  have hk : lack l.length = 55 - have_ := by unfold lack; omega
  have hf : fillL l = l ++ 128 :: (List.replicate (55 - have_) 0 ++ be8 (8 * l.length)) := by simp [fillL, hk]
  have hl : (fillL l).length / 64 = q + 1 := by rw [fillL_length, hk]; omega
  rw [shaL, hl, hf, absorb_step _ _ q (by omega) (by simp [be8_length]; omega)]

theorem sha_large (l : List Nat) (q have_ : Nat) (h1 : l.length = 64 * q + have_) (h2 : 56 ≤ have_) (h3 : have_ < 64) :
    shaL l = outL (comp (comp (absorb l q) (l.drop (64 * q) ++ 128 :: List.replicate (63 - have_) 0)) (List.replicate 56 0 ++ be8 (8 * l.length))) := by
  have hk : lack l.length = 119 - have_ := by unfold lack; omega
  have hr : List.replicate (119 - have_) (0 : Nat) = List.replicate (63 - have_) 0 ++ List.replicate 56 0 := by
    rw [List.replicate_append_replicate]; congr 1; omega
  have hf : fillL l = (l ++ 128 :: List.replicate (63 - have_) 0) ++ (List.replicate 56 0 ++ be8 (8 * l.length)) := by simp [fillL, hk, hr]
  have hl : (fillL l).length / 64 = q + 1 + 1 := by rw [fillL_length, hk]; omega
  have hm : (l ++ 128 :: List.replicate (63 - have_) 0).length = 64 * q + 64 := by simp; omega
  have hd : (l ++ 128 :: List.replicate (63 - have_) 0).drop (64 * (q + 1)) = [] := List.drop_eq_nil_of_le (by omega)
  rw [shaL, hl, hf, absorb_step _ _ (q + 1) (by omega) (by rw [hm]; simp [be8_length]; omega), hd, absorb_step _ _ q (by omega) (by simp; omega)]
  rfl
end Go.Proofs.YtfmaajfohieneaaDoor.Sm

namespace Go.Proofs.YtfmaajfohieneaaDoor.Sm
set_option maxRecDepth 20000
open Go.RowKit

theorem rotl_turn (n : Nat) (h1 : 1 ≤ n) (h2 : n ≤ 31) : bits .and .u64 (IntKind.u64.wrap (-(n : Int))) 31 = ((32 - n : Nat) : Int) := by
  have e : IntKind.u64.wrap (-(n : Int)) = ((18446744073709551616 - n : Nat) : Int) := by rw [IntKind.wrap_u64]; omega
  rw [e, show (31 : Int) = ((31 : Nat) : Int) from rfl, u64_and_nat _ _ (by omega) (by decide), nat_mask5]
  omega

theorem rotr_bits (x n m : Nat) (hx : x < 4294967296) (h2 : n ≤ 31) (hm : m = 32 - n) : bits .or .u32 ((x : Int) * 2 ^ m % 4294967296) ((x : Int) / 2 ^ (32 - m)) = ((rotr x n : Nat) : Int) := by
  subst hm
  rw [show 32 - (32 - n) = n by omega]
  have e1 : (x : Int) * 2 ^ (32 - n) % 4294967296 = ((x * 2 ^ (32 - n) % 4294967296 : Nat) : Int) := by
    rw [Int.natCast_emod, Int.natCast_mul, Int.natCast_pow]; rfl
  have e2 : (x : Int) / 2 ^ n = ((x / 2 ^ n : Nat) : Int) := by
    rw [Int.natCast_ediv, Int.natCast_pow]; rfl
  rw [e1, e2, u32_or_nat _ _ (Nat.mod_lt _ (by decide)) (Nat.lt_of_le_of_lt (Nat.div_le_self _ _) hx), rotr_or x n hx]

theorem rotl_any (x n : Nat) (hx : x < 4294967296) (h1 : 1 ≤ n) (h2 : n ≤ 31) (w : World) :
    Calls Tryd.prog 32 #[.int .u32 x, .int .i64 (-(n : Int))] w fun e w' => e = .returned (.int .u32 (rotr x n : Nat)) ∧ w' = w := by
  obtain ⟨m, hm⟩ : ∃ m, m = 32 - n := ⟨_, rfl⟩
  have ht := rotl_turn n h1 h2
  rw [← hm] at ht
  have hm1 : m ≤ 31 := by omega
  have HM : Hid (m = 32 - n) := hm
  clear hm
  go_enter Tryd.func32, Tryd.ntmps32
  go_wp2
  go_ret
  exact ⟨congrArg (fun z => Ending.returned (.int .u32 z)) (rotr_bits x n m hx h2 HM.out), rfl⟩

theorem right_any (x n : Nat) (hx : x < 4294967296) (h1 : 1 ≤ n) (h2 : n ≤ 31) (w : World) :
    Calls Tryd.prog 30 #[.int .u32 x, .int .i64 n] w fun e w' => e = .returned (.int .u32 (rotr x n : Nat)) ∧ w' = w := by
  go_enter Tryd.func30, Tryd.ntmps30
  go_wp2_with fail
  refine (rotl_any x n hx h1 h2 _).mono ?_
  rintro e w' ⟨rfl, rfl⟩
  go_wp2
  go_ret
  exact ⟨rfl, rfl⟩
end Go.Proofs.YtfmaajfohieneaaDoor.Sm
