/- The numbers of the document's rounds, as they stand in the program's ints. -/
import Derived.Test.YtfndgiddoijdeaaDoorRefFilled
namespace Go.Proofs.YtfndgiddoijdeaaDoor
open Go.RowKit

/-- A state as ints' cells. -/
def stI (s : St) : List Value := [.int .i64 (s.a : Nat), .int .i64 (s.b : Nat), .int .i64 (s.c : Nat), .int .i64 (s.d : Nat), .int .i64 (s.e : Nat), .int .i64 (s.f : Nat), .int .i64 (s.g : Nat), .int .i64 (s.h : Nat)]
theorem stI_length (s : St) : (stI s).length = 8 := rfl
theorem stI_at (s : St) (i : Nat) (h : i < 8) : (stI s)[i]? = some (.int .i64 (s.at i : Nat)) := by
  match i, h with
  | 0, _ => rfl
  | 1, _ => rfl
  | 2, _ => rfl
  | 3, _ => rfl
  | 4, _ => rfl
  | 5, _ => rfl
  | 6, _ => rfl
  | 7, _ => rfl
theorem rbs1_bits (e : Nat) : bits .xor .i64 (bits .xor .i64 ((rotr e 6 : Nat) : Int) ((rotr e 11 : Nat) : Int)) ((rotr e 25 : Nat) : Int) = ((bs1 e : Nat) : Int) := by
  have h1 := rotr_lt e 6
  have h2 := rotr_lt e 11
  have h4 := rotr_lt e 25
  have h3 := xor_lt h1 h2
  rw [i64_xor_nat _ _ (by omega) (by omega), i64_xor_nat _ _ (by omega) (by omega)]
  rfl
theorem rbs0_bits (a : Nat) : bits .xor .i64 (bits .xor .i64 ((rotr a 2 : Nat) : Int) ((rotr a 13 : Nat) : Int)) ((rotr a 22 : Nat) : Int) = ((bs0 a : Nat) : Int) := by
  have h1 := rotr_lt a 2
  have h2 := rotr_lt a 13
  have h4 := rotr_lt a 22
  have h3 := xor_lt h1 h2
  rw [i64_xor_nat _ _ (by omega) (by omega), i64_xor_nat _ _ (by omega) (by omega)]
  rfl
theorem rch_bits (e f g : Nat) (he : e < 4294967296) (hf : f < 4294967296) (hg : g < 4294967296) : bits .xor .i64 (bits .and .i64 (e : Int) (f : Int)) (bits .and .i64 (IntKind.i64.wrap (4294967295 - (e : Int))) (g : Int)) = ((chf e f g : Nat) : Int) := by
  have e1 : IntKind.i64.wrap (4294967295 - (e : Int)) = ((4294967295 - e : Nat) : Int) := by rw [IntKind.wrap_i64]; omega
  have h1 := and_lt (a := e) hf
  have h2 := and_lt (a := 4294967295 - e) hg
  rw [e1, i64_and_nat _ _ (by omega) (by omega), i64_and_nat _ _ (by omega) (by omega), i64_xor_nat _ _ (by omega) (by omega)]
  rfl
theorem rmaj_bits (a b c : Nat) (ha : a < 4294967296) (hb : b < 4294967296) (hc : c < 4294967296) : bits .xor .i64 (bits .xor .i64 (bits .and .i64 (a : Int) (b : Int)) (bits .and .i64 (a : Int) (c : Int))) (bits .and .i64 (b : Int) (c : Int)) = ((maj a b c : Nat) : Int) := by
  have h1 := and_lt (a := a) hb
  have h2 := and_lt (a := a) hc
  have h3 := and_lt (a := b) hc
  have h4 := xor_lt h1 h2
  rw [i64_and_nat _ _ (by omega) (by omega), i64_and_nat _ _ (by omega) (by omega), i64_and_nat _ _ (by omega) (by omega), i64_xor_nat _ _ (by omega) (by omega), i64_xor_nat _ _ (by omega) (by omega)]
  rfl
theorem rt_bits (e f g h k w : Nat) (he : e < 4294967296) (hf : f < 4294967296) (hg : g < 4294967296) (hh : h < 4294967296) (hk : k < 4294967296) (hw : w < 4294967296) :
    IntKind.i64.wrap (IntKind.i64.wrap (IntKind.i64.wrap (IntKind.i64.wrap ((h : Int) + bits .xor .i64 (bits .xor .i64 ((rotr e 6 : Nat) : Int) ((rotr e 11 : Nat) : Int)) ((rotr e 25 : Nat) : Int)) + bits .xor .i64 (bits .and .i64 (e : Int) (f : Int)) (bits .and .i64 (IntKind.i64.wrap (4294967295 - (e : Int))) (g : Int))) + (k : Int)) + (w : Int)) = ((h + bs1 e + chf e f g + k + w : Nat) : Int) := by
  have h1 := bs1_lt e
  have h2 := chf_lt (e := e) hf hg
  rw [rbs1_bits, rch_bits e f g he hf hg]
  generalize bs1 e = p at *
  generalize chf e f g = q at *
  clear he hf hg
  rw [wraps_i64 ((h : Int) + (p : Int)) (by omega) (by omega), wraps_i64 ((h : Int) + (p : Int) + (q : Int)) (by omega) (by omega), wraps_i64 ((h : Int) + (p : Int) + (q : Int) + (k : Int)) (by omega) (by omega), wraps_i64 ((h : Int) + (p : Int) + (q : Int) + (k : Int) + (w : Int)) (by omega) (by omega)]
  omega
theorem ru_bits (a b c : Nat) (ha : a < 4294967296) (hb : b < 4294967296) (hc : c < 4294967296) :
    IntKind.i64.wrap (bits .xor .i64 (bits .xor .i64 ((rotr a 2 : Nat) : Int) ((rotr a 13 : Nat) : Int)) ((rotr a 22 : Nat) : Int) + bits .xor .i64 (bits .xor .i64 (bits .and .i64 (a : Int) (b : Int)) (bits .and .i64 (a : Int) (c : Int))) (bits .and .i64 (b : Int) (c : Int))) = ((bs0 a + maj a b c : Nat) : Int) := by
  have h1 := bs0_lt a
  have h2 := maj_lt (a := a) hb hc
  rw [rbs0_bits, rmaj_bits a b c ha hb hc]
  generalize bs0 a = p at *
  generalize maj a b c = q at *
  clear ha hb hc
  rw [wraps_i64 ((p : Int) + (q : Int)) (by omega) (by omega)]
  omega
end Go.Proofs.YtfndgiddoijdeaaDoor
