/- Facts of SHA-256's functions of numbers: how great they are, which word of a schedule is which. · How a text's last block, or its last two, are made, and what one more block makes of a state. · sum.right, called with a word and a number from 1 to 31, tells the word turned to the right, and changes nothing. -/
import Derived.Test.YtgokehbdappcdaaDoorMg23
import Derived.WalkKit
import Derived.Laws.BitsAllLaws
import Derived.Laws.BitsLemmas
namespace Go.Proofs.YtgokehbdappcdaaDoor.Sm
set_option maxRecDepth 20000

theorem getD_beyond (l : List Nat) (d : Nat) {i : Nat} (h : l.length ≤ i) : l.getD i d = d := by
  rw [List.getD_eq_getElem?_getD, List.getElem?_eq_none h]; rfl
theorem getD_at (l : List Nat) (d : Nat) {i : Nat} (h : i < l.length) : l.getD i d = l[i] := by
  rw [List.getD_eq_getElem?_getD, List.getElem?_eq_getElem h]; rfl
theorem getD_left (l m : List Nat) (d i : Nat) (h : i < l.length) : (l ++ m).getD i d = l.getD i d := by
  rw [List.getD_eq_getElem?_getD, List.getElem?_append_left h, List.getD_eq_getElem?_getD]
theorem getD_right (l m : List Nat) (d i : Nat) (h : l.length ≤ i) : (l ++ m).getD i d = m.getD (i - l.length) d := by
  rw [List.getD_eq_getElem?_getD, List.getElem?_append_right h, List.getD_eq_getElem?_getD]
theorem pow32 : (2 : Nat) ^ 32 = 4294967296 := rfl
theorem xor_lt {a b : Nat} (ha : a < 4294967296) (hb : b < 4294967296) : a ^^^ b < 4294967296 := Nat.xor_lt_two_pow (n := 32) ha hb
theorem and_lt {a b : Nat} (hb : b < 4294967296) : a &&& b < 4294967296 := Nat.and_lt_two_pow (n := 32) a hb
theorem or_lt {a b : Nat} (ha : a < 4294967296) (hb : b < 4294967296) : a ||| b < 4294967296 := Nat.or_lt_two_pow (n := 32) ha hb
theorem rotr_lt (x n : Nat) : rotr x n < 4294967296 := Nat.mod_lt _ (by decide)
theorem ss0_lt {x : Nat} (h : x < 4294967296) : ss0 x < 4294967296 := xor_lt (xor_lt (rotr_lt _ _) (rotr_lt _ _)) (by omega)
theorem ss1_lt {x : Nat} (h : x < 4294967296) : ss1 x < 4294967296 := xor_lt (xor_lt (rotr_lt _ _) (rotr_lt _ _)) (by omega)
theorem bs0_lt (x : Nat) : bs0 x < 4294967296 := xor_lt (xor_lt (rotr_lt _ _) (rotr_lt _ _)) (rotr_lt _ _)
theorem bs1_lt (x : Nat) : bs1 x < 4294967296 := xor_lt (xor_lt (rotr_lt _ _) (rotr_lt _ _)) (rotr_lt _ _)
theorem chf_lt {e f g : Nat} (hf : f < 4294967296) (hg : g < 4294967296) : chf e f g < 4294967296 := xor_lt (and_lt hf) (and_lt hg)
theorem maj_lt {a b c : Nat} (hb : b < 4294967296) (hc : c < 4294967296) : maj a b c < 4294967296 := xor_lt (xor_lt (and_lt hb) (and_lt hc)) (and_lt hc)

theorem rotr_or (x n : Nat) (hx : x < 4294967296) : x * 2 ^ (32 - n) % 4294967296 ||| x / 2 ^ n = rotr x n := by
  unfold rotr
  rw [← pow32, Nat.or_mod_two_pow, Nat.or_comm, Nat.mod_eq_of_lt (a := x / 2 ^ n) (Nat.lt_of_le_of_lt (Nat.div_le_self _ _) hx)]

theorem keyN_lt (i : Nat) : keyN i < 4294967296 := by
  by_cases h : i < 64
  · have all : ∀ j : Fin 64, keyN j.val < 4294967296 := by decide
    exact all ⟨i, h⟩
  · unfold keyN
    rw [getD_beyond _ _ (by simp [keyL]; omega)]
    decide

/-- Numbers that are bytes; that are words. -/
def Bytes (b : List Nat) : Prop := ∀ x ∈ b, x < 256
theorem getD_lt {b : List Nat} {m : Nat} (hm : 0 < m) (h : ∀ x ∈ b, x < m) (i : Nat) : b.getD i 0 < m := by
  by_cases hi : i < b.length
  · rw [getD_at _ _ hi]; exact h _ (List.getElem_mem _)
  · rw [getD_beyond _ _ (by omega)]; exact hm
theorem wordN_lt {b : List Nat} (h : Bytes b) (i : Nat) : wordN b i < 4294967296 := by
  unfold wordN
  have h0 := getD_lt (by decide) h (4 * i)
  have h1 := getD_lt (by decide) h (4 * i + 1)
  have h2 := getD_lt (by decide) h (4 * i + 2)
  have h3 := getD_lt (by decide) h (4 * i + 3)
  omega
theorem nextW_lt (l : List Nat) : nextW l < 4294967296 := Nat.mod_lt _ (by decide)
theorem words16_length (b : List Nat) : ∀ n, (words16 b n).length = n
  | 0 => rfl
  | n + 1 => by simp [words16, words16_length b n]
theorem grow_length (l : List Nat) : ∀ n, (grow l n).length = l.length + n
  | 0 => rfl
  | n + 1 => by simp [grow, grow_length l n]; omega
theorem schedL_length (b : List Nat) : (schedL b).length = 64 := by rw [schedL, grow_length, words16_length]
theorem words16_get (b : List Nat) : ∀ n i, i < n → (words16 b n).getD i 0 = wordN b i
  | 0, _, h => absurd h (Nat.not_lt_zero _)
  | n + 1, i, h => by
    by_cases hi : i < n
    · have := words16_get b n i hi
      rw [words16, getD_left _ _ _ _ (by rw [words16_length]; exact hi), this]
    · obtain rfl : i = n := by omega
      rw [words16, getD_right _ _ _ _ (by rw [words16_length]; exact Nat.le_refl _), words16_length]
      simp
theorem grow_get (l : List Nat) (i : Nat) : ∀ n, i < l.length + n → ∀ k, (grow l (n + k)).getD i 0 = (grow l n).getD i 0
  | n, h, 0 => rfl
  | n, h, k + 1 => by
    rw [← Nat.add_assoc, grow, getD_left _ _ _ _ (by rw [grow_length]; omega)]
    exact grow_get l i n h k
theorem schedN_low (b : List Nat) (i : Nat) (h : i < 16) : schedN b i = wordN b i := by
  have := grow_get (words16 b 16) i 0 (by rw [words16_length]; omega) 48
  rw [schedN, schedL]
  exact this.trans (words16_get b 16 i h)
theorem schedN_eq (b : List Nat) (i n : Nat) (h : i < 16 + n) (hn : n ≤ 48) : schedN b i = (grow (words16 b 16) n).getD i 0 := by
  have := grow_get (words16 b 16) i n (by rw [words16_length]; omega) (48 - n)
  rw [show n + (48 - n) = 48 by omega] at this
  exact this
theorem schedN_high (b : List Nat) (i : Nat) (h : 16 ≤ i) (h2 : i < 64) : schedN b i = (schedN b (i - 16) + ss0 (schedN b (i - 15)) + schedN b (i - 7) + ss1 (schedN b (i - 2))) % 4294967296 := by
  obtain ⟨n, rfl⟩ : ∃ n, i = 16 + n := ⟨i - 16, by omega⟩
  have hl : (grow (words16 b 16) n).length = 16 + n := by rw [grow_length, words16_length]
  rw [schedN_eq b (16 + n) (n + 1) (by omega) (by omega), schedN_eq b (16 + n - 16) n (by omega) (by omega), schedN_eq b (16 + n - 15) n (by omega) (by omega), schedN_eq b (16 + n - 7) n (by omega) (by omega), schedN_eq b (16 + n - 2) n (by omega) (by omega)]
  rw [grow, getD_right _ _ _ _ (by omega), hl, Nat.sub_self]
  show nextW _ = _
  rw [nextW, hl]
theorem schedN_lt {b : List Nat} (hb : Bytes b) (i : Nat) : schedN b i < 4294967296 := by
  by_cases h : i < 16
  · rw [schedN_low b i h]; exact wordN_lt hb i
  · by_cases h2 : i < 64
    · rw [schedN_high b i (by omega) h2]; exact Nat.mod_lt _ (by decide)
    · rw [schedN, getD_beyond _ _ (by rw [schedL_length]; omega)]; decide

/-- A state whose words are words. -/
def St.ok (s : St) : Prop := s.a < 4294967296 ∧ s.b < 4294967296 ∧ s.c < 4294967296 ∧ s.d < 4294967296 ∧ s.e < 4294967296 ∧ s.f < 4294967296 ∧ s.g < 4294967296 ∧ s.h < 4294967296
theorem rnd_ok {s : St} (h : s.ok) (k w : Nat) : (rnd k w s).ok := by
  obtain ⟨h1, h2, h3, h4, h5, h6, h7, h8⟩ := h
  exact ⟨Nat.mod_lt _ (by decide), h1, h2, h3, Nat.mod_lt _ (by decide), h5, h6, h7⟩
theorem rnds_ok {s : St} (h : s.ok) (ws : List Nat) : ∀ n, (rnds ws s n).ok
  | 0 => h
  | n + 1 => rnd_ok (rnds_ok h ws n) _ _
theorem addSt_ok (s t : St) : (addSt s t).ok := by
  refine ⟨?_, ?_, ?_, ?_, ?_, ?_, ?_, ?_⟩ <;> exact Nat.mod_lt _ (by decide)
theorem comp_ok (s : St) (b : List Nat) : (comp s b).ok := addSt_ok _ _
theorem st0_ok : st0.ok := by refine ⟨?_, ?_, ?_, ?_, ?_, ?_, ?_, ?_⟩ <;> decide
theorem absorb_ok (l : List Nat) : ∀ n, (absorb l n).ok
  | 0 => st0_ok
  | _ + 1 => comp_ok _ _
theorem tN_lt {s : St} (h : s.ok) {k w : Nat} (hk : k < 4294967296) (hw : w < 4294967296) : tN k w s < 21474836480 := by
  obtain ⟨h1, h2, h3, h4, h5, h6, h7, h8⟩ := h
  have := bs1_lt s.e
  have := chf_lt (e := s.e) h6 h7
  unfold tN
  omega
theorem uN_lt {s : St} (h : s.ok) : uN s < 8589934592 := by
  obtain ⟨h1, h2, h3, h4, h5, h6, h7, h8⟩ := h
  have := bs0_lt s.a
  have := maj_lt (a := s.a) h2 h3
  unfold uN
  omega

/-- What stands behind whole blocks changes nothing of the state behind them. -/
theorem absorb_append (l m : List Nat) : ∀ n, 64 * n ≤ l.length → absorb (l ++ m) n = absorb l n
  | 0, _ => rfl
  | n + 1, h => by
    rw [absorb, absorb, absorb_append l m n (by omega), List.drop_append_of_le_length (by omega), List.take_append_of_le_length (by simp; omega)]
end Go.Proofs.YtgokehbdappcdaaDoor.Sm

namespace Go.Proofs.YtgokehbdappcdaaDoor.Sm
set_option maxRecDepth 20000

theorem be4_length (n : Nat) : (be4 n).length = 4 := rfl
theorem be8_length (n : Nat) : (be8 n).length = 8 := rfl
theorem be4_bytes (n : Nat) : Bytes (be4 n) := by
  intro x hx
  simp only [be4, List.mem_cons, List.not_mem_nil, or_false] at hx
  omega
theorem Bytes.append {a b : List Nat} (ha : Bytes a) (hb : Bytes b) : Bytes (a ++ b) := fun x hx => by
  rcases List.mem_append.1 hx with h | h
  · exact ha x h
  · exact hb x h
theorem Bytes.cons {x : Nat} {b : List Nat} (hx : x < 256) (hb : Bytes b) : Bytes (x :: b) := fun y hy => by
  rcases List.mem_cons.1 hy with h | h
  · omega
  · exact hb y h
theorem Bytes.zeros (n : Nat) : Bytes (List.replicate n 0) := fun x hx => by
  have := (List.mem_replicate.1 hx).2
  omega
theorem Bytes.take {b : List Nat} (h : Bytes b) (n : Nat) : Bytes (b.take n) := fun x hx => h x (List.mem_of_mem_take hx)
theorem Bytes.drop {b : List Nat} (h : Bytes b) (n : Nat) : Bytes (b.drop n) := fun x hx => h x (List.mem_of_mem_drop hx)
theorem be8_bytes (n : Nat) : Bytes (be8 n) := (be4_bytes _).append (be4_bytes _)
theorem outL_length (s : St) : (outL s).length = 32 := rfl
theorem outL_bytes (s : St) : Bytes (outL s) :=
  ((((((((be4_bytes _).append (be4_bytes _)).append (be4_bytes _)).append (be4_bytes _)).append (be4_bytes _)).append (be4_bytes _)).append (be4_bytes _)).append (be4_bytes _))
theorem shaL_length (l : List Nat) : (shaL l).length = 32 := outL_length _
theorem shaL_bytes (l : List Nat) : Bytes (shaL l) := outL_bytes _
theorem fillL_length (l : List Nat) : (fillL l).length = l.length + 1 + lack l.length + 8 := by
  simp [fillL, be8_length]; omega
theorem fillL_bytes {l : List Nat} (h : Bytes l) : Bytes (fillL l) := (h.append (Bytes.cons (by decide) (Bytes.zeros _))).append (be8_bytes _)

/-- One more whole block. -/
theorem absorb_step (l m : List Nat) (q : Nat) (h1 : 64 * q ≤ l.length) (h2 : l.length + m.length = 64 * q + 64) : absorb (l ++ m) (q + 1) = comp (absorb l q) (l.drop (64 * q) ++ m) := by
  rw [absorb, absorb_append l m q h1, List.drop_append_of_le_length h1, List.take_of_length_le (by simp; omega)]

theorem sha_small (l : List Nat) (q have_ : Nat) (h1 : l.length = 64 * q + have_) (h2 : have_ < 56) :
    shaL l = outL (comp (absorb l q) (l.drop (64 * q) ++ 128 :: (List.replicate (55 - have_) 0 ++ be8 (8 * l.length)))) := by
  have hk : lack l.length = 55 - have_ := by unfold lack; omega
  have hf : fillL l = l ++ 128 :: (List.replicate (55 - have_) 0 ++ be8 (8 * l.length)) := by simp [fillL, hk]
  have hl : (fillL l).length / 64 = q + 1 := by rw [fillL_length, hk]; omega
  rw [shaL, hl, hf, absorb_step _ _ q (by omega) (by simp [be8_length]; omega)]

theorem sha_large (l : List Nat) (q have_ : Nat) (h1 : l.length = 64 * q + have_) (h2 : 56 ≤ have_) (h3 : have_ < 64) :
    shaL l = outL (comp (comp (absorb l q) (l.drop (64 * q) ++ 128 :: List.replicate (63 - have_) 0)) (List.replicate 56 0 ++ be8 (8 * l.length))) := by
  have hk : lack l.length = 119 - have_ := by unfold lack; omega
  have hr : List.replicate (119 - have_) (0 : Nat) = List.replicate (63 - have_) 0 ++ List.replicate 56 0 := by
    rw [List.replicate_append_replicate]; congr 1; omega
  have hf : fillL l = (l ++ 128 :: List.replicate (63 - have_) 0) ++ (List.replicate 56 0 ++ be8 (8 * l.length)) := by simp [fillL, hk, hr]
  have hl : (fillL l).length / 64 = q + 1 + 1 := by rw [fillL_length, hk]; omega
  have hm : (l ++ 128 :: List.replicate (63 - have_) 0).length = 64 * q + 64 := by simp; omega
  have hd : (l ++ 128 :: List.replicate (63 - have_) 0).drop (64 * (q + 1)) = [] := List.drop_eq_nil_of_le (by omega)
  rw [shaL, hl, hf, absorb_step _ _ (q + 1) (by omega) (by rw [hm]; simp [be8_length]; omega), hd, absorb_step _ _ q (by omega) (by simp; omega)]
  rfl
end Go.Proofs.YtgokehbdappcdaaDoor.Sm

namespace Go.Proofs.YtgokehbdappcdaaDoor.Sm
set_option maxRecDepth 20000
open Go.RowKit

theorem rotl_turn (n : Nat) (h1 : 1 ≤ n) (h2 : n ≤ 31) : bits .and .u64 (IntKind.u64.wrap (-(n : Int))) 31 = ((32 - n : Nat) : Int) := by
  have e : IntKind.u64.wrap (-(n : Int)) = ((18446744073709551616 - n : Nat) : Int) := by rw [IntKind.wrap_u64]; omega
  rw [e, show (31 : Int) = ((31 : Nat) : Int) from rfl, u64_and_nat _ _ (by omega) (by decide), nat_mask5]
  omega

theorem rotr_bits (x n m : Nat) (hx : x < 4294967296) (h2 : n ≤ 31) (hm : m = 32 - n) : bits .or .u32 ((x : Int) * 2 ^ m % 4294967296) ((x : Int) / 2 ^ (32 - m)) = ((rotr x n : Nat) : Int) := by
  subst hm
  rw [show 32 - (32 - n) = n by omega]
  have e1 : (x : Int) * 2 ^ (32 - n) % 4294967296 = ((x * 2 ^ (32 - n) % 4294967296 : Nat) : Int) := by
    rw [Int.natCast_emod, Int.natCast_mul, Int.natCast_pow]; rfl
  have e2 : (x : Int) / 2 ^ n = ((x / 2 ^ n : Nat) : Int) := by
    rw [Int.natCast_ediv, Int.natCast_pow]; rfl
  rw [e1, e2, u32_or_nat _ _ (Nat.mod_lt _ (by decide)) (Nat.lt_of_le_of_lt (Nat.div_le_self _ _) hx), rotr_or x n hx]

theorem rotl_any (x n : Nat) (hx : x < 4294967296) (h1 : 1 ≤ n) (h2 : n ≤ 31) (w : World) :
    Calls Tryd.prog 81 #[.int .u32 x, .int .i64 (-(n : Int))] w fun e w' => e = .returned (.int .u32 (rotr x n : Nat)) ∧ w' = w := by
  obtain ⟨m, hm⟩ : ∃ m, m = 32 - n := ⟨_, rfl⟩
  have ht := rotl_turn n h1 h2
  rw [← hm] at ht
  have hm1 : m ≤ 31 := by omega
  have HM : Hid (m = 32 - n) := hm
  clear hm
  go_enter Tryd.func81, Tryd.ntmps81
  go_wp2
  go_ret
  exact ⟨congrArg (fun z => Ending.returned (.int .u32 z)) (rotr_bits x n m hx h2 HM.out), rfl⟩

theorem right_any (x n : Nat) (hx : x < 4294967296) (h1 : 1 ≤ n) (h2 : n ≤ 31) (w : World) :
    Calls Tryd.prog 79 #[.int .u32 x, .int .i64 n] w fun e w' => e = .returned (.int .u32 (rotr x n : Nat)) ∧ w' = w := by
  go_enter Tryd.func79, Tryd.ntmps79
  go_wp2_with fail
  refine (rotl_any x n hx h1 h2 _).mono ?_
  rintro e w' ⟨rfl, rfl⟩
  go_wp2
  go_ret
  exact ⟨rfl, rfl⟩
end Go.Proofs.YtgokehbdappcdaaDoor.Sm
