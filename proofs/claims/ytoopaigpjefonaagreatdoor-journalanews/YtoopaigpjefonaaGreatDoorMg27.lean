/- SHA-256 as functions of numbers: words, schedule, rounds, blocks, filling up; nothing of the program. · Facts of SHA-256's functions of numbers: how great they are, which word of a schedule is which. · How a text's last block, or its last two, are made, and what one more block makes of a state. · sum.right, called with a word and a number from 1 to 31, tells the word turned to the right, and changes nothing. · sum.schedule, called with a pointer to a block of 64 bytes, tells its 64 words, and changes nothing that was there. -/
import Derived.Test.YtoopaigpjefonaaGreatDoorProg
import Derived.WalkKit
import Derived.Laws.BitsAllLaws
import Derived.Laws.BitsLemmas
import Derived.Deep.WholeRow
import Derived.Deep.RegionHeld3
import Derived.Deep.QuietTactic
import Derived.BigQuiet
namespace Go.Proofs.YtoopaigpjefonaaGreatDoor.Sm
set_option maxRecDepth 20000

/-- A word turned to the right. -/
def rotr (x n : Nat) : Nat := (x / 2 ^ n ||| x * 2 ^ (32 - n)) % 4294967296
def ss0 (x : Nat) : Nat := rotr x 7 ^^^ rotr x 18 ^^^ x / 8
def ss1 (x : Nat) : Nat := rotr x 17 ^^^ rotr x 19 ^^^ x / 1024
def bs0 (x : Nat) : Nat := rotr x 2 ^^^ rotr x 13 ^^^ rotr x 22
def bs1 (x : Nat) : Nat := rotr x 6 ^^^ rotr x 11 ^^^ rotr x 25
def chf (e f g : Nat) : Nat := (e &&& f) ^^^ ((4294967295 - e) &&& g)
def maj (a b c : Nat) : Nat := (a &&& b) ^^^ (a &&& c) ^^^ (b &&& c)

/-- The 64 numbers k. -/
def keyL : List Nat := [
  0x428a2f98, 0x71374491, 0xb5c0fbcf, 0xe9b5dba5, 0x3956c25b, 0x59f111f1, 0x923f82a4, 0xab1c5ed5,
  0xd807aa98, 0x12835b01, 0x243185be, 0x550c7dc3, 0x72be5d74, 0x80deb1fe, 0x9bdc06a7, 0xc19bf174,
  0xe49b69c1, 0xefbe4786, 0x0fc19dc6, 0x240ca1cc, 0x2de92c6f, 0x4a7484aa, 0x5cb0a9dc, 0x76f988da,
  0x983e5152, 0xa831c66d, 0xb00327c8, 0xbf597fc7, 0xc6e00bf3, 0xd5a79147, 0x06ca6351, 0x14292967,
  0x27b70a85, 0x2e1b2138, 0x4d2c6dfc, 0x53380d13, 0x650a7354, 0x766a0abb, 0x81c2c92e, 0x92722c85,
  0xa2bfe8a1, 0xa81a664b, 0xc24b8b70, 0xc76c51a3, 0xd192e819, 0xd6990624, 0xf40e3585, 0x106aa070,
  0x19a4c116, 0x1e376c08, 0x2748774c, 0x34b0bcb5, 0x391c0cb3, 0x4ed8aa4a, 0x5b9cca4f, 0x682e6ff3,
  0x748f82ee, 0x78a5636f, 0x84c87814, 0x8cc70208, 0x90befffa, 0xa4506ceb, 0xbef9a3f7, 0xc67178f2]
def keyN (i : Nat) : Nat := keyL.getD i 0

/-- Word i of a block's bytes. -/
def wordN (b : List Nat) (i : Nat) : Nat := b.getD (4 * i) 0 * 16777216 + b.getD (4 * i + 1) 0 * 65536 + b.getD (4 * i + 2) 0 * 256 + b.getD (4 * i + 3) 0
/-- The word that follows on words. -/
def nextW (l : List Nat) : Nat := (l.getD (l.length - 16) 0 + ss0 (l.getD (l.length - 15) 0) + l.getD (l.length - 7) 0 + ss1 (l.getD (l.length - 2) 0)) % 4294967296
/-- A block's first words, n of them, n at most 16; and those that grow out of them. -/
def words16 (b : List Nat) : Nat → List Nat
  | 0 => []
  | n + 1 => words16 b n ++ [wordN b n]
def grow (l : List Nat) : Nat → List Nat
  | 0 => l
  | n + 1 => grow l n ++ [nextW (grow l n)]
def schedL (b : List Nat) : List Nat := grow (words16 b 16) 48
def schedN (b : List Nat) (i : Nat) : Nat := (schedL b).getD i 0

/-- The eight words. -/
structure St where
  (a b c d e f g h : Nat)
def tN (k w : Nat) (s : St) : Nat := s.h + bs1 s.e + chf s.e s.f s.g + k + w
def uN (s : St) : Nat := bs0 s.a + maj s.a s.b s.c
def rnd (k w : Nat) (s : St) : St := ⟨(tN k w s + uN s) % 4294967296, s.a, s.b, s.c, (s.d + tN k w s) % 4294967296, s.e, s.f, s.g⟩
def rnds (ws : List Nat) (s : St) : Nat → St
  | 0 => s
  | n + 1 => rnd (keyN n) (ws.getD n 0) (rnds ws s n)
def addSt (s t : St) : St := ⟨(s.a + t.a) % 4294967296, (s.b + t.b) % 4294967296, (s.c + t.c) % 4294967296, (s.d + t.d) % 4294967296, (s.e + t.e) % 4294967296, (s.f + t.f) % 4294967296, (s.g + t.g) % 4294967296, (s.h + t.h) % 4294967296⟩
/-- The state behind a block. -/
def comp (s : St) (b : List Nat) : St := addSt s (rnds (schedL b) s 64)
def st0 : St := ⟨0x6a09e667, 0xbb67ae85, 0x3c6ef372, 0xa54ff53a, 0x510e527f, 0x9b05688c, 0x1f83d9ab, 0x5be0cd19⟩
/-- The state behind the first n blocks of bytes. -/
def absorb (l : List Nat) : Nat → St
  | 0 => st0
  | n + 1 => comp (absorb l n) ((l.drop (64 * n)).take 64)
/-- A number's bytes, the highest first. -/
def be4 (n : Nat) : List Nat := [n / 16777216 % 256, n / 65536 % 256, n / 256 % 256, n % 256]
def be8 (n : Nat) : List Nat := be4 (n / 4294967296) ++ be4 n
/-- How many bytes 0 lack. -/
def lack (n : Nat) : Nat := (119 - n % 64) % 64
def fillL (l : List Nat) : List Nat := l ++ 128 :: List.replicate (lack l.length) 0 ++ be8 (8 * l.length)
def outL (s : St) : List Nat := be4 s.a ++ be4 s.b ++ be4 s.c ++ be4 s.d ++ be4 s.e ++ be4 s.f ++ be4 s.g ++ be4 s.h
/-- The sum of bytes, as bytes. -/
def shaL (l : List Nat) : List Nat := outL (absorb (fillL l) ((fillL l).length / 64))

set_option maxRecDepth 100000 in
theorem sha_abc : shaL [97, 98, 99] = [186, 120, 22, 191, 143, 1, 207, 234, 65, 65, 64, 222, 93, 174, 34, 35, 176, 3, 97, 163, 150, 23, 122, 156, 180, 16, 255, 97, 242, 0, 21, 173] := by
  decide +kernel
end Go.Proofs.YtoopaigpjefonaaGreatDoor.Sm

namespace Go.Proofs.YtoopaigpjefonaaGreatDoor.Sm
set_option maxRecDepth 20000

theorem getD_beyond (l : List Nat) (d : Nat) {i : Nat} (h : l.length ≤ i) : l.getD i d = d := by
  rw [List.getD_eq_getElem?_getD, List.getElem?_eq_none h]; rfl
theorem getD_at (l : List Nat) (d : Nat) {i : Nat} (h : i < l.length) : l.getD i d = l[i] := by
  rw [List.getD_eq_getElem?_getD, List.getElem?_eq_getElem h]; rfl
theorem getD_left (l m : List Nat) (d i : Nat) (h : i < l.length) : (l ++ m).getD i d = l.getD i d := by
  rw [List.getD_eq_getElem?_getD, List.getElem?_append_left h, List.getD_eq_getElem?_getD]
theorem getD_right (l m : List Nat) (d i : Nat) (h : l.length ≤ i) : (l ++ m).getD i d = m.getD (i - l.length) d := by
  rw [List.getD_eq_getElem?_getD, List.getElem?_append_right h, List.getD_eq_getElem?_getD]
theorem pow32 : (2 : Nat) ^ 32 = 4294967296 := rfl
theorem xor_lt {a b : Nat} (ha : a < 4294967296) (hb : b < 4294967296) : a ^^^ b < 4294967296 := Nat.xor_lt_two_pow (n := 32) ha hb
theorem and_lt {a b : Nat} (hb : b < 4294967296) : a &&& b < 4294967296 := Nat.and_lt_two_pow (n := 32) a hb
theorem or_lt {a b : Nat} (ha : a < 4294967296) (hb : b < 4294967296) : a ||| b < 4294967296 := Nat.or_lt_two_pow (n := 32) ha hb
theorem rotr_lt (x n : Nat) : rotr x n < 4294967296 := Nat.mod_lt _ (by decide)
theorem ss0_lt {x : Nat} (h : x < 4294967296) : ss0 x < 4294967296 := xor_lt (xor_lt (rotr_lt _ _) (rotr_lt _ _)) (by omega)
theorem ss1_lt {x : Nat} (h : x < 4294967296) : ss1 x < 4294967296 := xor_lt (xor_lt (rotr_lt _ _) (rotr_lt _ _)) (by omega)
theorem bs0_lt (x : Nat) : bs0 x < 4294967296 := xor_lt (xor_lt (rotr_lt _ _) (rotr_lt _ _)) (rotr_lt _ _)
theorem bs1_lt (x : Nat) : bs1 x < 4294967296 := xor_lt (xor_lt (rotr_lt _ _) (rotr_lt _ _)) (rotr_lt _ _)
theorem chf_lt {e f g : Nat} (hf : f < 4294967296) (hg : g < 4294967296) : chf e f g < 4294967296 := xor_lt (and_lt hf) (and_lt hg)
theorem maj_lt {a b c : Nat} (hb : b < 4294967296) (hc : c < 4294967296) : maj a b c < 4294967296 := xor_lt (xor_lt (and_lt hb) (and_lt hc)) (and_lt hc)

theorem rotr_or (x n : Nat) (hx : x < 4294967296) : x * 2 ^ (32 - n) % 4294967296 ||| x / 2 ^ n = rotr x n := by
  unfold rotr
  rw [← pow32, Nat.or_mod_two_pow, Nat.or_comm, Nat.mod_eq_of_lt (a := x / 2 ^ n) (Nat.lt_of_le_of_lt (Nat.div_le_self _ _) hx)]

theorem keyN_lt (i : Nat) : keyN i < 4294967296 := by
  by_cases h : i < 64
  · have all : ∀ j : Fin 64, keyN j.val < 4294967296 := by decide
    exact all ⟨i, h⟩
  · unfold keyN
    rw [getD_beyond _ _ (by simp [keyL]; omega)]
    decide

/-- Numbers that are bytes; that are words. -/
def Bytes (b : List Nat) : Prop := ∀ x ∈ b, x < 256
theorem getD_lt {b : List Nat} {m : Nat} (hm : 0 < m) (h : ∀ x ∈ b, x < m) (i : Nat) : b.getD i 0 < m := by
  by_cases hi : i < b.length
  · rw [getD_at _ _ hi]; exact h _ (List.getElem_mem _)
  · rw [getD_beyond _ _ (by omega)]; exact hm
theorem wordN_lt {b : List Nat} (h : Bytes b) (i : Nat) : wordN b i < 4294967296 := by
  unfold wordN
  have h0 := getD_lt (by decide) h (4 * i)
  have h1 := getD_lt (by decide) h (4 * i + 1)
  have h2 := getD_lt (by decide) h (4 * i + 2)
  have h3 := getD_lt (by decide) h (4 * i + 3)
  omega
theorem nextW_lt (l : List Nat) : nextW l < 4294967296 := Nat.mod_lt _ (by decide)
theorem words16_length (b : List Nat) : ∀ n, (words16 b n).length = n
  | 0 => rfl
  | n + 1 => by simp [words16, words16_length b n]
theorem grow_length (l : List Nat) : ∀ n, (grow l n).length = l.length + n
  | 0 => rfl
  | n + 1 => by simp [grow, grow_length l n]; omega
theorem schedL_length (b : List Nat) : (schedL b).length = 64 := by rw [schedL, grow_length, words16_length]
theorem words16_get (b : List Nat) : ∀ n i, i < n → (words16 b n).getD i 0 = wordN b i
  | 0, _, h => absurd h (Nat.not_lt_zero _)
  | n + 1, i, h => by
    by_cases hi : i < n
    · have := words16_get b n i hi
      rw [words16, getD_left _ _ _ _ (by rw [words16_length]; exact hi), this]
    · obtain rfl : i = n := by omega
      rw [words16, getD_right _ _ _ _ (by rw [words16_length]; exact Nat.le_refl _), words16_length]
      simp
theorem grow_get (l : List Nat) (i : Nat) : ∀ n, i < l.length + n → ∀ k, (grow l (n + k)).getD i 0 = (grow l n).getD i 0
  | n, h, 0 => rfl
  | n, h, k + 1 => by
    rw [← Nat.add_assoc, grow, getD_left _ _ _ _ (by rw [grow_length]; omega)]
    exact grow_get l i n h k
theorem schedN_low (b : List Nat) (i : Nat) (h : i < 16) : schedN b i = wordN b i := by
  have := grow_get (words16 b 16) i 0 (by rw [words16_length]; omega) 48
  rw [schedN, schedL]
  exact this.trans (words16_get b 16 i h)
theorem schedN_eq (b : List Nat) (i n : Nat) (h : i < 16 + n) (hn : n ≤ 48) : schedN b i = (grow (words16 b 16) n).getD i 0 := by
  have := grow_get (words16 b 16) i n (by rw [words16_length]; omega) (48 - n)
  rw [show n + (48 - n) = 48 by omega] at this
  exact this
theorem schedN_high (b : List Nat) (i : Nat) (h : 16 ≤ i) (h2 : i < 64) : schedN b i = (schedN b (i - 16) + ss0 (schedN b (i - 15)) + schedN b (i - 7) + ss1 (schedN b (i - 2))) % 4294967296 := by
  obtain ⟨n, rfl⟩ : ∃ n, i = 16 + n := ⟨i - 16, by omega⟩
  have hl : (grow (words16 b 16) n).length = 16 + n := by rw [grow_length, words16_length]
  rw [schedN_eq b (16 + n) (n + 1) (by omega) (by omega), schedN_eq b (16 + n - 16) n (by omega) (by omega), schedN_eq b (16 + n - 15) n (by omega) (by omega), schedN_eq b (16 + n - 7) n (by omega) (by omega), schedN_eq b (16 + n - 2) n (by omega) (by omega)]
  rw [grow, getD_right _ _ _ _ (by omega), hl, Nat.sub_self]
  show nextW _ = _
  rw [nextW, hl]
theorem schedN_lt {b : List Nat} (hb : Bytes b) (i : Nat) : schedN b i < 4294967296 := by
  by_cases h : i < 16
  · rw [schedN_low b i h]; exact wordN_lt hb i
  · by_cases h2 : i < 64
    · rw [schedN_high b i (by omega) h2]; exact Nat.mod_lt _ (by decide)
    · rw [schedN, getD_beyond _ _ (by rw [schedL_length]; omega)]; decide

/-- A state whose words are words. -/
def St.ok (s : St) : Prop := s.a < 4294967296 ∧ s.b < 4294967296 ∧ s.c < 4294967296 ∧ s.d < 4294967296 ∧ s.e < 4294967296 ∧ s.f < 4294967296 ∧ s.g < 4294967296 ∧ s.h < 4294967296
theorem rnd_ok {s : St} (h : s.ok) (k w : Nat) : (rnd k w s).ok := by
  obtain ⟨h1, h2, h3, h4, h5, h6, h7, h8⟩ := h
  exact ⟨Nat.mod_lt _ (by decide), h1, h2, h3, Nat.mod_lt _ (by decide), h5, h6, h7⟩
theorem rnds_ok {s : St} (h : s.ok) (ws : List Nat) : ∀ n, (rnds ws s n).ok
  | 0 => h
  | n + 1 => rnd_ok (rnds_ok h ws n) _ _
theorem addSt_ok (s t : St) : (addSt s t).ok := by
  refine ⟨?_, ?_, ?_, ?_, ?_, ?_, ?_, ?_⟩ <;> exact Nat.mod_lt _ (by decide)
theorem comp_ok (s : St) (b : List Nat) : (comp s b).ok := addSt_ok _ _
theorem st0_ok : st0.ok := by refine ⟨?_, ?_, ?_, ?_, ?_, ?_, ?_, ?_⟩ <;> decide
theorem absorb_ok (l : List Nat) : ∀ n, (absorb l n).ok
  | 0 => st0_ok
  | _ + 1 => comp_ok _ _
theorem tN_lt {s : St} (h : s.ok) {k w : Nat} (hk : k < 4294967296) (hw : w < 4294967296) : tN k w s < 21474836480 := by
  obtain ⟨h1, h2, h3, h4, h5, h6, h7, h8⟩ := h
  have := bs1_lt s.e
  have := chf_lt (e := s.e) h6 h7
  unfold tN
  omega
theorem uN_lt {s : St} (h : s.ok) : uN s < 8589934592 := by
  obtain ⟨h1, h2, h3, h4, h5, h6, h7, h8⟩ := h
  have := bs0_lt s.a
  have := maj_lt (a := s.a) h2 h3
  unfold uN
  omega

/-- What stands behind whole blocks changes nothing of the state behind them. -/
theorem absorb_append (l m : List Nat) : ∀ n, 64 * n ≤ l.length → absorb (l ++ m) n = absorb l n
  | 0, _ => rfl
  | n + 1, h => by
    rw [absorb, absorb, absorb_append l m n (by omega), List.drop_append_of_le_length (by omega), List.take_append_of_le_length (by simp; omega)]
end Go.Proofs.YtoopaigpjefonaaGreatDoor.Sm

namespace Go.Proofs.YtoopaigpjefonaaGreatDoor.Sm
set_option maxRecDepth 20000

theorem be4_length (n : Nat) : (be4 n).length = 4 := rfl
theorem be8_length (n : Nat) : (be8 n).length = 8 := rfl
theorem be4_bytes (n : Nat) : Bytes (be4 n) := by
  intro x hx
  simp only [be4, List.mem_cons, List.not_mem_nil, or_false] at hx
  omega
theorem Bytes.append {a b : List Nat} (ha : Bytes a) (hb : Bytes b) : Bytes (a ++ b) := fun x hx => by
  rcases List.mem_append.1 hx with h | h
  · exact ha x h
  · exact hb x h
theorem Bytes.cons {x : Nat} {b : List Nat} (hx : x < 256) (hb : Bytes b) : Bytes (x :: b) := fun y hy => by
  rcases List.mem_cons.1 hy with h | h
  · omega
  · exact hb y h
theorem Bytes.zeros (n : Nat) : Bytes (List.replicate n 0) := fun x hx => by
  have := (List.mem_replicate.1 hx).2
  omega
theorem Bytes.take {b : List Nat} (h : Bytes b) (n : Nat) : Bytes (b.take n) := fun x hx => h x (List.mem_of_mem_take hx)
theorem Bytes.drop {b : List Nat} (h : Bytes b) (n : Nat) : Bytes (b.drop n) := fun x hx => h x (List.mem_of_mem_drop hx)
theorem be8_bytes (n : Nat) : Bytes (be8 n) := (be4_bytes _).append (be4_bytes _)
theorem outL_length (s : St) : (outL s).length = 32 := rfl
theorem outL_bytes (s : St) : Bytes (outL s) :=
  ((((((((be4_bytes _).append (be4_bytes _)).append (be4_bytes _)).append (be4_bytes _)).append (be4_bytes _)).append (be4_bytes _)).append (be4_bytes _)).append (be4_bytes _))
theorem shaL_length (l : List Nat) : (shaL l).length = 32 := outL_length _
theorem shaL_bytes (l : List Nat) : Bytes (shaL l) := outL_bytes _
theorem fillL_length (l : List Nat) : (fillL l).length = l.length + 1 + lack l.length + 8 := by
  simp [fillL, be8_length]; omega
theorem fillL_bytes {l : List Nat} (h : Bytes l) : Bytes (fillL l) := (h.append (Bytes.cons (by decide) (Bytes.zeros _))).append (be8_bytes _)

/-- One more whole block. -/
theorem absorb_step (l m : List Nat) (q : Nat) (h1 : 64 * q ≤ l.length) (h2 : l.length + m.length = 64 * q + 64) : absorb (l ++ m) (q + 1) = comp (absorb l q) (l.drop (64 * q) ++ m) := by
  rw [absorb, absorb_append l m q h1, List.drop_append_of_le_length h1, List.take_of_length_le (by simp; omega)]

theorem sha_small (l : List Nat) (q have_ : Nat) (h1 : l.length = 64 * q + have_) (h2 : have_ < 56) :
    shaL l = outL (comp (absorb l q) (l.drop (64 * q) ++ 128 :: (List.replicate (55 - have_) 0 ++ be8 (8 * l.length)))) := by
  have hk : lack l.length = 55 - have_ := by unfold lack; omega
  have hf : fillL l = l ++ 128 :: (List.replicate (55 - have_) 0 ++ be8 (8 * l.length)) := by simp [fillL, hk]
  have hl : (fillL l).length / 64 = q + 1 := by rw [fillL_length, hk]; omega
  rw [shaL, hl, hf, absorb_step _ _ q (by omega) (by simp [be8_length]; omega)]

theorem sha_large (l : List Nat) (q have_ : Nat) (h1 : l.length = 64 * q + have_) (h2 : 56 ≤ have_) (h3 : have_ < 64) :
    shaL l = outL (comp (comp (absorb l q) (l.drop (64 * q) ++ 128 :: List.replicate (63 - have_) 0)) (List.replicate 56 0 ++ be8 (8 * l.length))) := by
  have hk : lack l.length = 119 - have_ := by unfold lack; omega
  have hr : List.replicate (119 - have_) (0 : Nat) = List.replicate (63 - have_) 0 ++ List.replicate 56 0 := by
    rw [List.replicate_append_replicate]; congr 1; omega
  have hf : fillL l = (l ++ 128 :: List.replicate (63 - have_) 0) ++ (List.replicate 56 0 ++ be8 (8 * l.length)) := by simp [fillL, hk, hr]
  have hl : (fillL l).length / 64 = q + 1 + 1 := by rw [fillL_length, hk]; omega
  have hm : (l ++ 128 :: List.replicate (63 - have_) 0).length = 64 * q + 64 := by simp; omega
  have hd : (l ++ 128 :: List.replicate (63 - have_) 0).drop (64 * (q + 1)) = [] := List.drop_eq_nil_of_le (by omega)
  rw [shaL, hl, hf, absorb_step _ _ (q + 1) (by omega) (by rw [hm]; simp [be8_length]; omega), hd, absorb_step _ _ q (by omega) (by simp; omega)]
  rfl
end Go.Proofs.YtoopaigpjefonaaGreatDoor.Sm

namespace Go.Proofs.YtoopaigpjefonaaGreatDoor.Sm
set_option maxRecDepth 20000
open Go.RowKit

theorem rotl_turn (n : Nat) (h1 : 1 ≤ n) (h2 : n ≤ 31) : bits .and .u64 (IntKind.u64.wrap (-(n : Int))) 31 = ((32 - n : Nat) : Int) := by
  have e : IntKind.u64.wrap (-(n : Int)) = ((18446744073709551616 - n : Nat) : Int) := by rw [IntKind.wrap_u64]; omega
  rw [e, show (31 : Int) = ((31 : Nat) : Int) from rfl, u64_and_nat _ _ (by omega) (by decide), nat_mask5]
  omega

theorem rotr_bits (x n m : Nat) (hx : x < 4294967296) (h2 : n ≤ 31) (hm : m = 32 - n) : bits .or .u32 ((x : Int) * 2 ^ m % 4294967296) ((x : Int) / 2 ^ (32 - m)) = ((rotr x n : Nat) : Int) := by
  subst hm
  rw [show 32 - (32 - n) = n by omega]
  have e1 : (x : Int) * 2 ^ (32 - n) % 4294967296 = ((x * 2 ^ (32 - n) % 4294967296 : Nat) : Int) := by
    rw [Int.natCast_emod, Int.natCast_mul, Int.natCast_pow]; rfl
  have e2 : (x : Int) / 2 ^ n = ((x / 2 ^ n : Nat) : Int) := by
    rw [Int.natCast_ediv, Int.natCast_pow]; rfl
  rw [e1, e2, u32_or_nat _ _ (Nat.mod_lt _ (by decide)) (Nat.lt_of_le_of_lt (Nat.div_le_self _ _) hx), rotr_or x n hx]

theorem rotl_any (x n : Nat) (hx : x < 4294967296) (h1 : 1 ≤ n) (h2 : n ≤ 31) (w : World) :
    Calls Tryz.prog 193 #[.int .u32 x, .int .i64 (-(n : Int))] w fun e w' => e = .returned (.int .u32 (rotr x n : Nat)) ∧ w' = w := by
  obtain ⟨m, hm⟩ : ∃ m, m = 32 - n := ⟨_, rfl⟩
  have ht := rotl_turn n h1 h2
  rw [← hm] at ht
  have hm1 : m ≤ 31 := by omega
  have HM : Hid (m = 32 - n) := hm
  clear hm
  go_enter Tryz.func193, Tryz.ntmps193
  go_wp2
  go_ret
  exact ⟨congrArg (fun z => Ending.returned (.int .u32 z)) (rotr_bits x n m hx h2 HM.out), rfl⟩

theorem right_any (x n : Nat) (hx : x < 4294967296) (h1 : 1 ≤ n) (h2 : n ≤ 31) (w : World) :
    Calls Tryz.prog 176 #[.int .u32 x, .int .i64 n] w fun e w' => e = .returned (.int .u32 (rotr x n : Nat)) ∧ w' = w := by
  go_enter Tryz.func176, Tryz.ntmps176
  go_wp2_with fail
  refine (rotl_any x n hx h1 h2 _).mono ?_
  rintro e w' ⟨rfl, rfl⟩
  go_wp2
  go_ret
  exact ⟨rfl, rfl⟩
end Go.Proofs.YtoopaigpjefonaaGreatDoor.Sm

namespace Go.Proofs.YtoopaigpjefonaaGreatDoor.Sm
set_option maxRecDepth 20000
open Go.RowKit

/-- A row of 64 words, of which the first ones are told. -/
def rowC (l : List Nat) : Array Value := (l.map (fun x => Value.int .u32 (x : Nat)) ++ List.replicate (64 - l.length) (Value.int .u32 0)).toArray
theorem rowC_set (l : List Nat) (x : Nat) (h : l.length < 64) : (rowC l).setIfInBounds l.length (Value.int .u32 (x : Nat)) = rowC (l ++ [x]) := by
  obtain ⟨k, hk⟩ : ∃ k, 64 - l.length = k + 1 := ⟨63 - l.length, by omega⟩
  have hk2 : 64 - (l ++ [x]).length = k := by simp; omega
  unfold rowC
  rw [hk, hk2, List.setIfInBounds_toArray, List.replicate_succ]
  congr 1
  rw [List.set_append_right _ _ (by simp)]
  simp
theorem rowC_get (l : List Nat) (i : Nat) (h : i < l.length) : (rowC l)[i]? = some (Value.int .u32 (l.getD i 0 : Nat)) := by
  unfold rowC
  rw [List.getElem?_toArray, List.getElem?_append_left (by simpa using h), List.getElem?_map, List.getElem?_eq_getElem h, getD_at _ _ h]
  rfl
theorem rowC_rest (l : List Nat) (i : Nat) (h : l.length ≤ i) (h2 : i < 64) : (rowC l)[i]? = some (Value.int .u32 0) := by
  unfold rowC
  rw [List.getElem?_toArray, List.getElem?_append_right (by simpa using h), List.getElem?_replicate, if_pos (by simp; omega)]
theorem rowC_size (l : List Nat) (h : l.length ≤ 64) : (rowC l).size = 64 := by
  simp [rowC]; omega
theorem rowC_full (l : List Nat) (h : l.length = 64) : rowC l = (l.map fun x => Value.int .u32 (x : Nat)).toArray := by
  simp [rowC, h]
theorem rowC_nil : rowC [] = (List.replicate 64 (Value.int .u32 0)).toArray := by simp [rowC]
theorem word_bits (x0 x1 x2 x3 : Nat) (h0 : x0 < 256) (h1 : x1 < 256) (h2 : x2 < 256) (h3 : x3 < 256) :
    bits .or .u32 (bits .or .u32 (bits .or .u32 (IntKind.u32.wrap (IntKind.u32.wrap (x0 : Int) * 16777216)) (IntKind.u32.wrap (IntKind.u32.wrap (x1 : Int) * 65536))) (IntKind.u32.wrap (IntKind.u32.wrap (x2 : Int) * 256))) (IntKind.u32.wrap (x3 : Int)) = ((x0 * 16777216 + x1 * 65536 + x2 * 256 + x3 : Nat) : Int) := by
  have e0 : IntKind.u32.wrap (IntKind.u32.wrap (x0 : Int) * 16777216) = ((x0 * 16777216 : Nat) : Int) := by rw [IntKind.wrap_u32, IntKind.wrap_u32]; omega
  have e1 : IntKind.u32.wrap (IntKind.u32.wrap (x1 : Int) * 65536) = ((x1 * 65536 : Nat) : Int) := by rw [IntKind.wrap_u32, IntKind.wrap_u32]; omega
  have e2 : IntKind.u32.wrap (IntKind.u32.wrap (x2 : Int) * 256) = ((x2 * 256 : Nat) : Int) := by rw [IntKind.wrap_u32, IntKind.wrap_u32]; omega
  have e3 : IntKind.u32.wrap (x3 : Int) = (x3 : Int) := by rw [IntKind.wrap_u32]; omega
  rw [e0, e1, e2, e3, u32_or_nat _ _ (by omega) (by omega), nat_join 24 _ _ (by omega) (by omega), u32_or_nat _ _ (by omega) (by omega), nat_join 16 _ _ (by omega) (by omega), u32_or_nat _ _ (by omega) (by omega), nat_join 8 _ _ (by omega) (by omega)]
theorem ss0_bits (y : Nat) (h : y < 4294967296) : bits .xor .u32 (bits .xor .u32 ((rotr y 7 : Nat) : Int) ((rotr y 18 : Nat) : Int)) ((y : Int) / 8) = ((ss0 y : Nat) : Int) := by
  rw [show (y : Int) / 8 = ((y / 8 : Nat) : Int) by omega, u32_xor_nat _ _ (rotr_lt _ _) (rotr_lt _ _), u32_xor_nat _ _ (xor_lt (rotr_lt _ _) (rotr_lt _ _)) (by omega)]
  rfl
theorem ss1_bits (y : Nat) (h : y < 4294967296) : bits .xor .u32 (bits .xor .u32 ((rotr y 17 : Nat) : Int) ((rotr y 19 : Nat) : Int)) ((y : Int) / 1024) = ((ss1 y : Nat) : Int) := by
  rw [show (y : Int) / 1024 = ((y / 1024 : Nat) : Int) by omega, u32_xor_nat _ _ (rotr_lt _ _) (rotr_lt _ _), u32_xor_nat _ _ (xor_lt (rotr_lt _ _) (rotr_lt _ _)) (by omega)]
  rfl
theorem next_bits (y16 y15 y7 y2 : Nat) (h15 : y15 < 4294967296) (h2 : y2 < 4294967296) :
    IntKind.u32.wrap (IntKind.u32.wrap (IntKind.u32.wrap ((y16 : Int) + bits .xor .u32 (bits .xor .u32 ((rotr y15 7 : Nat) : Int) ((rotr y15 18 : Nat) : Int)) ((y15 : Int) / 8)) + (y7 : Int)) + bits .xor .u32 (bits .xor .u32 ((rotr y2 17 : Nat) : Int) ((rotr y2 19 : Nat) : Int)) ((y2 : Int) / 1024)) = (((y16 + ss0 y15 + y7 + ss1 y2) % 4294967296 : Nat) : Int) := by
  rw [ss0_bits y15 h15, ss1_bits y2 h2, IntKind.wrap_u32, IntKind.wrap_u32, IntKind.wrap_u32]
  omega
theorem below_rowG {B g : Nat} {w0 w : World} (h : Below B w0 w) (hg : B ≤ g) (cs : Array Value) : Below B w0 (w.setRow g cs) :=
  h.trans ⟨rfl, rfl, rfl, by simp [World.setRow], fun k hk => setRow_other _ _ _ _ (by omega)⟩
theorem zeros_alloc2 (w : World) (o1 : Obj) (c : Array Value) (t : TypeId) : ((w.alloc o1).alloc (.cells c t)).heap[w.heap.size + 1]? = some (.cells c t (0, 0)) := heap_alloc2_new w _ _

set_option maxHeartbeats 4000000 in
theorem schedule_any (b : List Nat) (hb : Bytes b) (g off : Nat) (w : World) (hg : g < w.heap.size)
    (hc : ∀ i, i < 64 → w.cell? ⟨g, off + i, none⟩ = some (.int .u8 (b.getD i 0 : Nat))) :
    Calls Tryz.prog 175 #[.pointer (some ⟨g, off, none⟩)] w fun e w' => e = .returned (.agg ((schedL b).map fun x => Value.int .u32 (x : Nat)).toArray) ∧ Below w.heap.size w w' := by
  have HC : Hid (∀ i, i < 64 → w.cell? ⟨g, off + i, none⟩ = some (.int .u8 (b.getD i 0 : Nat))) := hc
  clear hc
  go_enter Tryz.func175, Tryz.ntmps175
  go_wp2_with fail
  go_loopw [8] (fun i wr => ∃ j : Nat, j ≤ 16 ∧ i = .int .i64 j ∧ wr.heap[w.heap.size + 1]? = some (.cells (rowC (words16 b j)) 276 (0, 0)) ∧ wr.heap[w.heap.size]? = some (.cells (rowC []) 276 (0, 0)) ∧ Below w.heap.size w wr) (fun i _ => 16 - (intOf i).toNat)
  case atStart =>
    refine ⟨0, Nat.zero_le _, rfl, ?_, ?_, ?_⟩
    · exact heap_alloc2_new w _ _
    · exact heap_alloc2_old w _ _
    · exact ((Below.refl _ _).alloc (Nat.le_refl _) _).alloc (by simp) _
  case round =>
    obtain ⟨j, hj, rfl, k1, k0, hbw⟩ := hrel
    by_cases hlt : j < 16
    · have c0 := (hbw.cell (p := ⟨g, off + 4 * j, none⟩) hg).trans (HC.out (4 * j) (by omega))
      have c1 := (hbw.cell (p := ⟨g, off + (4 * j + 1), none⟩) hg).trans (HC.out (4 * j + 1) (by omega))
      have c2 := (hbw.cell (p := ⟨g, off + (4 * j + 2), none⟩) hg).trans (HC.out (4 * j + 2) (by omega))
      have c3 := (hbw.cell (p := ⟨g, off + (4 * j + 3), none⟩) hg).trans (HC.out (4 * j + 3) (by omega))
      obtain ⟨x0, hx0⟩ : ∃ x, x = b.getD (4 * j) 0 := ⟨_, rfl⟩
      obtain ⟨x1, hx1⟩ : ∃ x, x = b.getD (4 * j + 1) 0 := ⟨_, rfl⟩
      obtain ⟨x2, hx2⟩ : ∃ x, x = b.getD (4 * j + 2) 0 := ⟨_, rfl⟩
      obtain ⟨x3, hx3⟩ : ∃ x, x = b.getD (4 * j + 3) 0 := ⟨_, rfl⟩
      rw [← hx0] at c0
      rw [← hx1] at c1
      rw [← hx2] at c2
      rw [← hx3] at c3
      have b0 : x0 < 256 := by rw [hx0]; exact getD_lt (by decide) hb _
      have b1 : x1 < 256 := by rw [hx1]; exact getD_lt (by decide) hb _
      have b2 : x2 < 256 := by rw [hx2]; exact getD_lt (by decide) hb _
      have b3 : x3 < 256 := by rw [hx3]; exact getD_lt (by decide) hb _
      have HX : Hid (wordN b j = x0 * 16777216 + x1 * 65536 + x2 * 256 + x3) := by show wordN b j = _; rw [wordN, hx0, hx1, hx2, hx3]
      clear hx0 hx1 hx2 hx3
      have t0 : ((4 : Int) * j).toNat = 4 * j := by omega
      have t1 : ((4 : Int) * j + 1).toNat = 4 * j + 1 := by omega
      have t2 : ((4 : Int) * j + 2).toNat = 4 * j + 2 := by omega
      have t3 : ((4 : Int) * j + 3).toNat = 4 * j + 3 := by omega
      have q0 : IntKind.i64.wrap (4 * (j : Int)) = 4 * j := by rw [IntKind.wrap_i64]; omega
      have q1 : IntKind.i64.wrap (4 * (j : Int) + 1) = 4 * j + 1 := by rw [IntKind.wrap_i64]; omega
      have q2 : IntKind.i64.wrap (4 * (j : Int) + 2) = 4 * j + 2 := by rw [IntKind.wrap_i64]; omega
      have q3 : IntKind.i64.wrap (4 * (j : Int) + 3) = 4 * j + 3 := by rw [IntKind.wrap_i64]; omega
      have r0 : (0 : Int) ≤ 4 * (j : Int) := by omega
      have r1 : (0 : Int) ≤ 4 * (j : Int) + 1 := by omega
      have r2 : (0 : Int) ≤ 4 * (j : Int) + 2 := by omega
      have r3 : (0 : Int) ≤ 4 * (j : Int) + 3 := by omega
      have s0 : 4 * (j : Int) < 64 := by omega
      have s1 : 4 * (j : Int) + 1 < 64 := by omega
      have s2 : 4 * (j : Int) + 2 < 64 := by omega
      have s3 : 4 * (j : Int) + 3 < 64 := by omega
      have s4 : (j : Int) < 64 := by omega
      have d1 : wr.cell? ⟨w.heap.size + 1, j, none⟩ = some (.int .u32 0) := (cell_of_row _ _ _ _ _ _ k1).trans (rowC_rest _ _ (by rw [words16_length]; exact Nat.le_refl _) (by omega))
      have hgne : g ≠ w.heap.size + 1 := by omega
      have hgne' := hgne.symm
      have d2 : wr.frozen? ⟨w.heap.size + 1, j, none⟩ = false := by simp [World.frozen?, k1]
      go_wp2_with fail
      go_region_held3 (fun w' => w'.cell? ⟨g, off + 4 * j, none⟩ = some (.int .u8 x0) ∧ w'.cell? ⟨g, off + (4 * j + 1), none⟩ = some (.int .u8 x1) ∧ w'.cell? ⟨g, off + (4 * j + 2), none⟩ = some (.int .u8 x2) ∧ w'.cell? ⟨g, off + (4 * j + 3), none⟩ = some (.int .u8 x3)) (simp [go_sem, *]) (fail)
      rw [word_bits x0 x1 x2 x3 b0 b1 b2 b3, ← HX.out]
      have k1' := heap_setCell_same wr (w.heap.size + 1) j _ _ (Value.int .u32 (wordN b j : Nat)) k1
      have k0' := (Below.heap_setCell wr ⟨w.heap.size + 1, j, none⟩ (Value.int .u32 (wordN b j : Nat)) w.heap.size (by simp)).trans k0
      have hbw' := hbw.setCell (p := ⟨w.heap.size + 1, j, none⟩) (by simp) (Value.int .u32 (wordN b j : Nat))
      have hr := rowC_set (words16 b j) (wordN b j) (by rw [words16_length]; omega)
      rw [words16_length] at hr
      rw [hr] at k1'
      clear hr
      generalize wr.setCell ⟨w.heap.size + 1, j, none⟩ (Value.int .u32 (wordN b j : Nat)) = w2 at *
      clear c0 c1 c2 c3 d1 d2 k0 k1 hbw
      go_wp2
      go_roundw
      case rel => exact ⟨j + 1, by omega, by go_num, k1', k0', hbw'.drew⟩
      case measure => simp [intOf]; omega
    · obtain rfl : j = 16 := by omega
      rw [show ((16 : Nat) : Int) = 16 from rfl]
      go_wp2_with fail
      go_loopw [5] (fun i wr => ∃ j : Nat, 16 ≤ j ∧ j ≤ 64 ∧ i = .int .i64 j ∧ wr.heap[w.heap.size + 1]? = some (.cells (rowC (grow (words16 b 16) (j - 16))) 276 (0, 0)) ∧ wr.heap[w.heap.size]? = some (.cells (rowC []) 276 (0, 0)) ∧ Below w.heap.size w wr) (fun i _ => 64 - (intOf i).toNat)
      case atStart => exact ⟨16, Nat.le_refl _, by omega, rfl, k1, k0, hbw⟩
      case round =>
        clear k1 k0 hbw
        obtain ⟨j, hj1, hj2, rfl, k1, k0, hbw⟩ := hrel
        obtain ⟨l, hl2⟩ : ∃ l, l = grow (words16 b 16) (j - 16) := ⟨_, rfl⟩
        have hll : l.length = j := by rw [hl2, grow_length, words16_length]; omega
        rw [← hl2] at k1
        by_cases hlt : j < 64
        · have cget : ∀ i, i < j → wr.cell? ⟨w.heap.size + 1, i, none⟩ = some (.int .u32 (l.getD i 0 : Nat)) := fun i hi => (cell_of_row _ _ _ _ _ _ k1).trans (rowC_get _ _ (by omega))
          have lget : ∀ i, i < j → l.getD i 0 < 4294967296 := fun i hi => by
            have h1 := schedN_eq b i (j - 16) (by omega) (by omega)
            rw [← hl2] at h1
            rw [← h1]
            exact schedN_lt hb i
          have c16 := cget (j - 16) (by omega)
          have c15 := cget (j - 15) (by omega)
          have c7 := cget (j - 7) (by omega)
          have c2 := cget (j - 2) (by omega)
          have b16 := lget (j - 16) (by omega)
          have b15 := lget (j - 15) (by omega)
          have b7 := lget (j - 7) (by omega)
          have b2 := lget (j - 2) (by omega)
          have HN : Hid (nextW l = (l.getD (j - 16) 0 + ss0 (l.getD (j - 15) 0) + l.getD (j - 7) 0 + ss1 (l.getD (j - 2) 0)) % 4294967296) := by show nextW l = _; rw [nextW, hll]
          have HL : Hid (l = grow (words16 b 16) (j - 16) ∧ l.length = j) := ⟨hl2, hll⟩
          generalize l.getD (j - 16) 0 = y16 at *
          generalize l.getD (j - 15) 0 = y15 at *
          generalize l.getD (j - 7) 0 = y7 at *
          generalize l.getD (j - 2) 0 = y2 at *
          have d1 : wr.cell? ⟨w.heap.size + 1, j, none⟩ = some (.int .u32 0) := (cell_of_row _ _ _ _ _ _ k1).trans (rowC_rest _ _ (by omega) (by omega))
          have d2 : ∀ i, wr.frozen? ⟨w.heap.size + 1, i, none⟩ = false := fun i => by simp [World.frozen?, k1]
          clear cget lget hl2 hll
          have t0 : ((j : Int) - 16).toNat = j - 16 := by omega
          have t1 : ((j : Int) - 15).toNat = j - 15 := by omega
          have t2 : ((j : Int) - 7).toNat = j - 7 := by omega
          have t3 : ((j : Int) - 2).toNat = j - 2 := by omega
          have q0 : IntKind.i64.wrap ((j : Int) - 16) = j - 16 := by rw [IntKind.wrap_i64]; omega
          have q1 : IntKind.i64.wrap ((j : Int) - 15) = j - 15 := by rw [IntKind.wrap_i64]; omega
          have q2 : IntKind.i64.wrap ((j : Int) - 7) = j - 7 := by rw [IntKind.wrap_i64]; omega
          have q3 : IntKind.i64.wrap ((j : Int) - 2) = j - 2 := by rw [IntKind.wrap_i64]; omega
          have r0 : (0 : Int) ≤ (j : Int) - 16 := by omega
          have r1 : (0 : Int) ≤ (j : Int) - 15 := by omega
          have r2 : (0 : Int) ≤ (j : Int) - 7 := by omega
          have r3 : (0 : Int) ≤ (j : Int) - 2 := by omega
          have s0 : (j : Int) - 16 < 64 := by omega
          have s1 : (j : Int) - 15 < 64 := by omega
          have s2 : (j : Int) - 7 < 64 := by omega
          have s3 : (j : Int) - 2 < 64 := by omega
          have s4 : (j : Int) < 64 := by omega
          have u0 : (16 : Int) ≤ (j : Int) := by omega
          have u1 : (15 : Int) ≤ (j : Int) := by omega
          have u2 : (7 : Int) ≤ (j : Int) := by omega
          have u3 : (2 : Int) ≤ (j : Int) := by omega
          go_wp2_with fail
          go_region_held3 (fun w' => w'.cell? ⟨w.heap.size + 1, j - 15, none⟩ = some (.int .u32 y15) ∧ w'.cell? ⟨w.heap.size + 1, j - 2, none⟩ = some (.int .u32 y2)) (simp [go_sem, *]) (fail)
          go_wp2_with fail
          go_region_held3 (fun w' => w'.cell? ⟨w.heap.size + 1, j - 16, none⟩ = some (.int .u32 y16) ∧ w'.cell? ⟨w.heap.size + 1, j - 7, none⟩ = some (.int .u32 y7)) (simp [go_sem, *]) (first | (go_at_call 176; refine (right_any y15 7 b15 (by decide) (by decide) _).mono ?_; rintro e w' ⟨rfl, rfl⟩) | (go_at_call 176; refine (right_any y15 18 b15 (by decide) (by decide) _).mono ?_; rintro e w' ⟨rfl, rfl⟩) | (go_at_call 176; refine (right_any y2 17 b2 (by decide) (by decide) _).mono ?_; rintro e w' ⟨rfl, rfl⟩) | (go_at_call 176; refine (right_any y2 19 b2 (by decide) (by decide) _).mono ?_; rintro e w' ⟨rfl, rfl⟩))
          rw [next_bits y16 y15 y7 y2 b15 b2, ← HN.out]
          have k1' := heap_setCell_same wr (w.heap.size + 1) j _ _ (Value.int .u32 (nextW l : Nat)) k1
          have k0' := (Below.heap_setCell wr ⟨w.heap.size + 1, j, none⟩ (Value.int .u32 (nextW l : Nat)) w.heap.size (by simp)).trans k0
          have hbw' := hbw.setCell (p := ⟨w.heap.size + 1, j, none⟩) (by simp) (Value.int .u32 (nextW l : Nat))
          have hr := rowC_set l (nextW l) (by have := HL.out.2; omega)
          rw [HL.out.2] at hr
          rw [hr] at k1'
          clear hr
          generalize wr.setCell ⟨w.heap.size + 1, j, none⟩ (Value.int .u32 (nextW l : Nat)) = w2 at *
          clear c16 c15 c7 c2 d1 d2 k0 k1 hbw
          go_wp2
          go_roundw
          case rel =>
            refine ⟨j + 1, by omega, by omega, by go_num, ?_, k0', hbw'.drew.drew⟩
            rw [show j + 1 - 16 = (j - 16) + 1 by omega, grow, ← HL.out.1]
            exact k1'
          case measure => simp [intOf]; omega
        · obtain rfl : j = 64 := by omega
          have hrow : rowC l = ((schedL b).map fun x => Value.int .u32 (x : Nat)).toArray := by
            rw [rowC_full l hll, hl2]; rfl
          have hsz : ((schedL b).map fun x => Value.int .u32 (x : Nat)).toArray.size = 64 := by simp [schedL_length]
          have hone : (((schedL b).map fun x => Value.int .u32 (x : Nat)).toArray).all (·.oneCell') = true := by simp [Value.oneCell']
          rw [hrow] at k1
          clear hrow hll hl2
          obtain ⟨cs, hcs⟩ : ∃ cs, cs = ((schedL b).map fun x => Value.int .u32 (x : Nat)).toArray := ⟨_, rfl⟩
          rw [← hcs] at k1 hsz hone
          have HCS : Hid (cs = ((schedL b).map fun x => Value.int .u32 (x : Nat)).toArray) := hcs
          clear hcs
          have hs0 : (rowC []).size = cs.size := by rw [hsz]; rfl
          have hinfo : (Tryz.prog.info? 276).map (·.size) = some cs.size := by rw [hsz]; kernel_rfl
          have hba := below_rowG hbw (Nat.le_refl _) cs
          have hl0 := run_loadVar_row (P := Tryz.prog) (wr.setRow w.heap.size cs) w.heap.size 276 276 cs (0, 0) _ (setRow_heap _ _ _ _ _ _ k0) Tryz.underlying276 rfl hinfo
          go_wp2_with (first | refine wpList_load_row rfl 276 _ rfl (w.heap.size + 1) rfl 276 _ (0, 0) _ k1 Tryz.underlying276 rfl hinfo ?_ | refine wpList_store_row rfl 276 _ _ rfl w.heap.size cs rfl rfl 276 _ k0 hinfo hs0 hone ?_)
          exact bodyPost_ret (v := .agg cs) (by simp [results, Tryz.results175, asAddr, Act.put, hl0]) rfl ⟨by rw [HCS.out], hba⟩
end Go.Proofs.YtoopaigpjefonaaGreatDoor.Sm
