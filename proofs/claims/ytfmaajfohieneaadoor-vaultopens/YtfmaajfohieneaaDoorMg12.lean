/- SHA-256 as functions of numbers: words, schedule, rounds, blocks, filling up; nothing of the program. · Facts of SHA-256's functions of numbers: how great they are, which word of a schedule is which. -/
import Derived.Test.YtfmaajfohieneaaDoorProg
namespace Go.Proofs.YtfmaajfohieneaaDoor.Sm
set_option maxRecDepth 20000

/-- A word turned to the right. -/
def rotr (x n : Nat) : Nat := (x / 2 ^ n ||| x * 2 ^ (32 - n)) % 4294967296
def ss0 (x : Nat) : Nat := rotr x 7 ^^^ rotr x 18 ^^^ x / 8
def ss1 (x : Nat) : Nat := rotr x 17 ^^^ rotr x 19 ^^^ x / 1024
def bs0 (x : Nat) : Nat := rotr x 2 ^^^ rotr x 13 ^^^ rotr x 22
def bs1 (x : Nat) : Nat := rotr x 6 ^^^ rotr x 11 ^^^ rotr x 25
def chf (e f g : Nat) : Nat := (e &&& f) ^^^ ((4294967295 - e) &&& g)
def maj (a b c : Nat) : Nat := (a &&& b) ^^^ (a &&& c) ^^^ (b &&& c)

/-- The 64 numbers k. -/
def keyL : List Nat := [
  0x428a2f98, 0x71374491, 0xb5c0fbcf, 0xe9b5dba5, 0x3956c25b, 0x59f111f1, 0x923f82a4, 0xab1c5ed5,
  0xd807aa98, 0x12835b01, 0x243185be, 0x550c7dc3, 0x72be5d74, 0x80deb1fe, 0x9bdc06a7, 0xc19bf174,
  0xe49b69c1, 0xefbe4786, 0x0fc19dc6, 0x240ca1cc, 0x2de92c6f, 0x4a7484aa, 0x5cb0a9dc, 0x76f988da,
  0x983e5152, 0xa831c66d, 0xb00327c8, 0xbf597fc7, 0xc6e00bf3, 0xd5a79147, 0x06ca6351, 0x14292967,
  0x27b70a85, 0x2e1b2138, 0x4d2c6dfc, 0x53380d13, 0x650a7354, 0x766a0abb, 0x81c2c92e, 0x92722c85,
  0xa2bfe8a1, 0xa81a664b, 0xc24b8b70, 0xc76c51a3, 0xd192e819, 0xd6990624, 0xf40e3585, 0x106aa070,
  0x19a4c116, 0x1e376c08, 0x2748774c, 0x34b0bcb5, 0x391c0cb3, 0x4ed8aa4a, 0x5b9cca4f, 0x682e6ff3,
  0x748f82ee, 0x78a5636f, 0x84c87814, 0x8cc70208, 0x90befffa, 0xa4506ceb, 0xbef9a3f7, 0xc67178f2]
def keyN (i : Nat) : Nat := keyL.getD i 0

/-- Word i of a block's bytes. -/
def wordN (b : List Nat) (i : Nat) : Nat := b.getD (4 * i) 0 * 16777216 + b.getD (4 * i + 1) 0 * 65536 + b.getD (4 * i + 2) 0 * 256 + b.getD (4 * i + 3) 0
/-- The word that follows on words. -/
def nextW (l : List Nat) : Nat := (l.getD (l.length - 16) 0 + ss0 (l.getD (l.length - 15) 0) + l.getD (l.length - 7) 0 + ss1 (l.getD (l.length - 2) 0)) % 4294967296
/-- A block's first words, n of them, n at most 16; and those that grow out of them. -/
def words16 (b : List Nat) : Nat → List Nat
  | 0 => []
  | n + 1 => words16 b n ++ [wordN b n]
def grow (l : List Nat) : Nat → List Nat
  | 0 => l
  | n + 1 => grow l n ++ [nextW (grow l n)]
def schedL (b : List Nat) : List Nat := grow (words16 b 16) 48
def schedN (b : List Nat) (i : Nat) : Nat := (schedL b).getD i 0

/-- The eight words. -/
structure St where
  (a b c d e f g h : Nat)
def tN (k w : Nat) (s : St) : Nat := s.h + bs1 s.e + chf s.e s.f s.g + k + w
def uN (s : St) : Nat := bs0 s.a + maj s.a s.b s.c
def rnd (k w : Nat) (s : St) : St := ⟨(tN k w s + uN s) % 4294967296, s.a, s.b, s.c, (s.d + tN k w s) % 4294967296, s.e, s.f, s.g⟩
def rnds (ws : List Nat) (s : St) : Nat → St
  | 0 => s
  | n + 1 => rnd (keyN n) (ws.getD n 0) (rnds ws s n)
def addSt (s t : St) : St := ⟨(s.a + t.a) % 4294967296, (s.b + t.b) % 4294967296, (s.c + t.c) % 4294967296, (s.d + t.d) % 4294967296, (s.e + t.e) % 4294967296, (s.f + t.f) % 4294967296, (s.g + t.g) % 4294967296, (s.h + t.h) % 4294967296⟩
/-- The state behind a block. -/
def comp (s : St) (b : List Nat) : St := addSt s (rnds (schedL b) s 64)
def st0 : St := ⟨0x6a09e667, 0xbb67ae85, 0x3c6ef372, 0xa54ff53a, 0x510e527f, 0x9b05688c, 0x1f83d9ab, 0x5be0cd19⟩
/-- The state behind the first n blocks of bytes. -/
def absorb (l : List Nat) : Nat → St
  | 0 => st0
  | n + 1 => comp (absorb l n) ((l.drop (64 * n)).take 64)
/-- A number's bytes, the highest first. -/
def be4 (n : Nat) : List Nat := [n / 16777216 % 256, n / 65536 % 256, n / 256 % 256, n % 256]
def be8 (n : Nat) : List Nat := be4 (n / 4294967296) ++ be4 n
/-- How many bytes 0 lack. -/
def lack (n : Nat) : Nat := (119 - n % 64) % 64
def fillL (l : List Nat) : List Nat := l ++ 128 :: List.replicate (lack l.length) 0 ++ be8 (8 * l.length)
def outL (s : St) : List Nat := be4 s.a ++ be4 s.b ++ be4 s.c ++ be4 s.d ++ be4 s.e ++ be4 s.f ++ be4 s.g ++ be4 s.h
/-- The sum of bytes, as bytes. -/
def shaL (l : List Nat) : List Nat := outL (absorb (fillL l) ((fillL l).length / 64))

set_option maxRecDepth 100000 in
theorem sha_abc : shaL [97, 98, 99] = [186, 120, 22, 191, 143, 1, 207, 234, 65, 65, 64, 222, 93, 174, 34, 35, 176, 3, 97, 163, 150, 23, 122, 156, 180, 16, 255, 97, 242, 0, 21, 173] := by
  decide +kernel
end Go.Proofs.YtfmaajfohieneaaDoor.Sm

namespace Go.Proofs.YtfmaajfohieneaaDoor.Sm
set_option maxRecDepth 20000

theorem getD_beyond (l : List Nat) (d : Nat) {i : Nat} (h : l.length ≤ i) : l.getD i d = d := by
  rw [List.getD_eq_getElem?_getD, List.getElem?_eq_none h]; rfl
theorem getD_at (l : List Nat) (d : Nat) {i : Nat} (h : i < l.length) : l.getD i d = l[i] := by
  rw [List.getD_eq_getElem?_getD, List.getElem?_eq_getElem h]; rfl
theorem getD_left (l m : List Nat) (d i : Nat) (h : i < l.length) : (l ++ m).getD i d = l.getD i d := by
  rw [List.getD_eq_getElem?_getD, List.getElem?_append_left h, List.getD_eq_getElem?_getD]
theorem getD_right (l m : List Nat) (d i : Nat) (h : l.length ≤ i) : (l ++ m).getD i d = m.getD (i - l.length) d := by
  rw [List.getD_eq_getElem?_getD, List.getElem?_append_right h, List.getD_eq_getElem?_getD]
theorem pow32 : (2 : Nat) ^ 32 = 4294967296 := rfl
theorem xor_lt {a b : Nat} (ha : a < 4294967296) (hb : b < 4294967296) : a ^^^ b < 4294967296 := Nat.xor_lt_two_pow (n := 32) ha hb
theorem and_lt {a b : Nat} (hb : b < 4294967296) : a &&& b < 4294967296 := Nat.and_lt_two_pow (n := 32) a hb
theorem or_lt {a b : Nat} (ha : a < 4294967296) (hb : b < 4294967296) : a ||| b < 4294967296 := Nat.or_lt_two_pow (n := 32) ha hb
theorem rotr_lt (x n : Nat) : rotr x n < 4294967296 := Nat.mod_lt _ (by decide)
theorem ss0_lt {x : Nat} (h : x < 4294967296) : ss0 x < 4294967296 := xor_lt (xor_lt (rotr_lt _ _) (rotr_lt _ _)) (by omega)
theorem ss1_lt {x : Nat} (h : x < 4294967296) : ss1 x < 4294967296 := xor_lt (xor_lt (rotr_lt _ _) (rotr_lt _ _)) (by omega)
theorem bs0_lt (x : Nat) : bs0 x < 4294967296 := xor_lt (xor_lt (rotr_lt _ _) (rotr_lt _ _)) (rotr_lt _ _)
theorem bs1_lt (x : Nat) : bs1 x < 4294967296 := xor_lt (xor_lt (rotr_lt _ _) (rotr_lt _ _)) (rotr_lt _ _)
theorem chf_lt {e f g : Nat} (hf : f < 4294967296) (hg : g < 4294967296) : chf e f g < 4294967296 := xor_lt (and_lt hf) (and_lt hg)
theorem maj_lt {a b c : Nat} (hb : b < 4294967296) (hc : c < 4294967296) : maj a b c < 4294967296 := xor_lt (xor_lt (and_lt hb) (and_lt hc)) (and_lt hc)

theorem rotr_or (x n : Nat) (hx : x < 4294967296) : x * 2 ^ (32 - n) % 4294967296 ||| x / 2 ^ n = rotr x n := by
  unfold rotr
  rw [← pow32, Nat.or_mod_two_pow, Nat.or_comm, Nat.mod_eq_of_lt (a := x / 2 ^ n) (Nat.lt_of_le_of_lt (Nat.div_le_self _ _) hx)]

theorem keyN_lt (i : Nat) : keyN i < 4294967296 := by
  by_cases h : i < 64
  · have all : ∀ j : Fin 64, keyN j.val < 4294967296 := by decide
    exact all ⟨i, h⟩
  · unfold keyN
    rw [getD_beyond _ _ (by simp [keyL]; omega)]
    decide

/-- Numbers that are bytes; that are words. -/
def Bytes (b : List Nat) : Prop := ∀ x ∈ b, x < 256
theorem getD_lt {b : List Nat} {m : Nat} (hm : 0 < m) (h : ∀ x ∈ b, x < m) (i : Nat) : b.getD i 0 < m := by
  by_cases hi : i < b.length
  · rw [getD_at _ _ hi]; exact h _ (List.getElem_mem _)
  · rw [getD_beyond _ _ (by omega)]; exact hm
theorem wordN_lt {b : List Nat} (h : Bytes b) (i : Nat) : wordN b i < 4294967296 := by
  unfold wordN
  have h0 := getD_lt (by decide) h (4 * i)
  have h1 := getD_lt (by decide) h (4 * i + 1)
  have h2 := getD_lt (by decide) h (4 * i + 2)
  have h3 := getD_lt (by decide) h (4 * i + 3)
  omega
theorem nextW_lt (l : List Nat) : nextW l < 4294967296 := Nat.mod_lt _ (by decide)
theorem words16_length (b : List Nat) : ∀ n, (words16 b n).length = n
  | 0 => rfl
  | n + 1 => by simp [words16, words16_length b n]
theorem grow_length (l : List Nat) : ∀ n, (grow l n).length = l.length + n
  | 0 => rfl
  | n + 1 => by simp [grow, grow_length l n]; omega
theorem schedL_length (b : List Nat) : (schedL b).length = 64 := by rw [schedL, grow_length, words16_length]
theorem words16_get (b : List Nat) : ∀ n i, i < n → (words16 b n).getD i 0 = wordN b i
  | 0, _, h => absurd h (Nat.not_lt_zero _)
  | n + 1, i, h => by
    by_cases hi : i < n
    · have := words16_get b n i hi
      rw [words16, getD_left _ _ _ _ (by rw [words16_length]; exact hi), this]
    · obtain rfl : i = n := by omega
      rw [words16, getD_right _ _ _ _ (by rw [words16_length]; exact Nat.le_refl _), words16_length]
      simp
theorem grow_get (l : List Nat) (i : Nat) : ∀ n, i < l.length + n → ∀ k, (grow l (n + k)).getD i 0 = (grow l n).getD i 0
  | n, h, 0 => rfl
  | n, h, k + 1 => by
    rw [← Nat.add_assoc, grow, getD_left _ _ _ _ (by rw [grow_length]; omega)]
    exact grow_get l i n h k
theorem schedN_low (b : List Nat) (i : Nat) (h : i < 16) : schedN b i = wordN b i := by
  have := grow_get (words16 b 16) i 0 (by rw [words16_length]; omega) 48
  rw [schedN, schedL]
  exact this.trans (words16_get b 16 i h)
theorem schedN_eq (b : List Nat) (i n : Nat) (h : i < 16 + n) (hn : n ≤ 48) : schedN b i = (grow (words16 b 16) n).getD i 0 := by
  have := grow_get (words16 b 16) i n (by rw [words16_length]; omega) (48 - n)
  rw [show n + (48 - n) = 48 by omega] at this
  exact this
theorem schedN_high (b : List Nat) (i : Nat) (h : 16 ≤ i) (h2 : i < 64) : schedN b i = (schedN b (i - 16) + ss0 (schedN b (i - 15)) + schedN b (i - 7) + ss1 (schedN b (i - 2))) % 4294967296 := by
  obtain ⟨n, rfl⟩ : ∃ n, i = 16 + n := ⟨i - 16, by omega⟩
  have hl : (grow (words16 b 16) n).length = 16 + n := by rw [grow_length, words16_length]
  rw [schedN_eq b (16 + n) (n + 1) (by omega) (by omega), schedN_eq b (16 + n - 16) n (by omega) (by omega), schedN_eq b (16 + n - 15) n (by omega) (by omega), schedN_eq b (16 + n - 7) n (by omega) (by omega), schedN_eq b (16 + n - 2) n (by omega) (by omega)]
  rw [grow, getD_right _ _ _ _ (by omega), hl, Nat.sub_self]
  show nextW _ = _
  rw [nextW, hl]
theorem schedN_lt {b : List Nat} (hb : Bytes b) (i : Nat) : schedN b i < 4294967296 := by
  by_cases h : i < 16
  · rw [schedN_low b i h]; exact wordN_lt hb i
  · by_cases h2 : i < 64
    · rw [schedN_high b i (by omega) h2]; exact Nat.mod_lt _ (by decide)
    · rw [schedN, getD_beyond _ _ (by rw [schedL_length]; omega)]; decide

/-- A state whose words are words. -/
def St.ok (s : St) : Prop := s.a < 4294967296 ∧ s.b < 4294967296 ∧ s.c < 4294967296 ∧ s.d < 4294967296 ∧ s.e < 4294967296 ∧ s.f < 4294967296 ∧ s.g < 4294967296 ∧ s.h < 4294967296
theorem rnd_ok {s : St} (h : s.ok) (k w : Nat) : (rnd k w s).ok := by
  obtain ⟨h1, h2, h3, h4, h5, h6, h7, h8⟩ := h
  exact ⟨Nat.mod_lt _ (by decide), h1, h2, h3, Nat.mod_lt _ (by decide), h5, h6, h7⟩
theorem rnds_ok {s : St} (h : s.ok) (ws : List Nat) : ∀ n, (rnds ws s n).ok
  | 0 => h
  | n + 1 => rnd_ok (rnds_ok h ws n) _ _
theorem addSt_ok (s t : St) : (addSt s t).ok := by
  refine ⟨?_, ?_, ?_, ?_, ?_, ?_, ?_, ?_⟩ <;> exact Nat.mod_lt _ (by decide)
theorem comp_ok (s : St) (b : List Nat) : (comp s b).ok := addSt_ok _ _
theorem st0_ok : st0.ok := by refine ⟨?_, ?_, ?_, ?_, ?_, ?_, ?_, ?_⟩ <;> decide
theorem absorb_ok (l : List Nat) : ∀ n, (absorb l n).ok
  | 0 => st0_ok
  | _ + 1 => comp_ok _ _
theorem tN_lt {s : St} (h : s.ok) {k w : Nat} (hk : k < 4294967296) (hw : w < 4294967296) : tN k w s < 21474836480 := by
  obtain ⟨h1, h2, h3, h4, h5, h6, h7, h8⟩ := h
  have := bs1_lt s.e
  have := chf_lt (e := s.e) h6 h7
  unfold tN
  omega
theorem uN_lt {s : St} (h : s.ok) : uN s < 8589934592 := by
  obtain ⟨h1, h2, h3, h4, h5, h6, h7, h8⟩ := h
  have := bs0_lt s.a
  have := maj_lt (a := s.a) h2 h3
  unfold uN
  omega

/-- What stands behind whole blocks changes nothing of the state behind them. -/
theorem absorb_append (l m : List Nat) : ∀ n, 64 * n ≤ l.length → absorb (l ++ m) n = absorb l n
  | 0, _ => rfl
  | n + 1, h => by
    rw [absorb, absorb, absorb_append l m n (by omega), List.drop_append_of_le_length (by omega), List.take_append_of_le_length (by simp; omega)]
end Go.Proofs.YtfmaajfohieneaaDoor.Sm
