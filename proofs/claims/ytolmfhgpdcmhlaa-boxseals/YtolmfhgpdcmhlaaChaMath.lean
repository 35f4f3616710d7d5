/- ChaCha20 as functions of numbers: quarters, rounds, blocks, a text xor blocks; nothing of the program. -/
import Derived.Test.YtolmfhgpdcmhlaaBxBase
namespace Go.Proofs.Ytolmfhgpdcmhlaa

/-- A word turned to the left. -/
def rotl (x n : Nat) : Nat := (x * 2 ^ n ||| x / 2 ^ (32 - n)) % 4294967296
theorem rotl_lt (x n : Nat) : rotl x n < 4294967296 := Nat.mod_lt _ (by decide)
theorem rotl_or (x n : Nat) (hx : x < 4294967296) : x * 2 ^ n % 4294967296 ||| x / 2 ^ (32 - n) = rotl x n := by
  unfold rotl
  have p : (4294967296 : Nat) = 2 ^ 32 := rfl
  rw [p, Nat.or_mod_two_pow, Nat.mod_eq_of_lt (a := x / 2 ^ (32 - n)) (Nat.lt_of_le_of_lt (Nat.div_le_self _ _) hx)]

/-- A quarter of four words, step by step. -/
def qa (a b : Nat) : Nat := (a + b) % 4294967296
def qd (a b d : Nat) : Nat := rotl (d ^^^ qa a b) 16
def qc (a b c d : Nat) : Nat := (c + qd a b d) % 4294967296
def qb (a b c d : Nat) : Nat := rotl (b ^^^ qc a b c d) 12
def qA (a b c d : Nat) : Nat := (qa a b + qb a b c d) % 4294967296
def qD (a b c d : Nat) : Nat := rotl (qd a b d ^^^ qA a b c d) 8
def qC (a b c d : Nat) : Nat := (qc a b c d + qD a b c d) % 4294967296
def qB (a b c d : Nat) : Nat := rotl (qb a b c d ^^^ qC a b c d) 7
theorem qa_lt (a b : Nat) : qa a b < 4294967296 := Nat.mod_lt _ (by decide)
theorem qd_lt (a b d : Nat) : qd a b d < 4294967296 := rotl_lt _ _
theorem qc_lt (a b c d : Nat) : qc a b c d < 4294967296 := Nat.mod_lt _ (by decide)
theorem qb_lt (a b c d : Nat) : qb a b c d < 4294967296 := rotl_lt _ _
theorem qA_lt (a b c d : Nat) : qA a b c d < 4294967296 := Nat.mod_lt _ (by decide)
theorem qB_lt (a b c d : Nat) : qB a b c d < 4294967296 := rotl_lt _ _
theorem qC_lt (a b c d : Nat) : qC a b c d < 4294967296 := Nat.mod_lt _ (by decide)
theorem qD_lt (a b c d : Nat) : qD a b c d < 4294967296 := rotl_lt _ _

/-- The sixteen words. -/
structure S16 where
  (a0 a1 a2 a3 b0 b1 b2 b3 c0 c1 c2 c3 d0 d1 d2 d3 : Nat)
def S16.toL (s : S16) : List Nat := [s.a0, s.a1, s.a2, s.a3, s.b0, s.b1, s.b2, s.b3, s.c0, s.c1, s.c2, s.c3, s.d0, s.d1, s.d2, s.d3]
def S16.ok (s : S16) : Prop := ∀ x ∈ s.toL, x < 4294967296
theorem S16.toL_length (s : S16) : s.toL.length = 16 := rfl
theorem S16.ok_all {s : S16} (h : s.ok) : s.a0 < 4294967296 ∧ s.a1 < 4294967296 ∧ s.a2 < 4294967296 ∧ s.a3 < 4294967296 ∧ s.b0 < 4294967296 ∧ s.b1 < 4294967296 ∧ s.b2 < 4294967296 ∧ s.b3 < 4294967296 ∧ s.c0 < 4294967296 ∧ s.c1 < 4294967296 ∧ s.c2 < 4294967296 ∧ s.c3 < 4294967296 ∧ s.d0 < 4294967296 ∧ s.d1 < 4294967296 ∧ s.d2 < 4294967296 ∧ s.d3 < 4294967296 := by
  simpa [S16.ok, S16.toL] using h
/-- The columns' quarters, then the slants'. -/
def S16.cols (s : S16) : S16 :=
  ⟨qA s.a0 s.b0 s.c0 s.d0, qA s.a1 s.b1 s.c1 s.d1, qA s.a2 s.b2 s.c2 s.d2, qA s.a3 s.b3 s.c3 s.d3,
   qB s.a0 s.b0 s.c0 s.d0, qB s.a1 s.b1 s.c1 s.d1, qB s.a2 s.b2 s.c2 s.d2, qB s.a3 s.b3 s.c3 s.d3,
   qC s.a0 s.b0 s.c0 s.d0, qC s.a1 s.b1 s.c1 s.d1, qC s.a2 s.b2 s.c2 s.d2, qC s.a3 s.b3 s.c3 s.d3,
   qD s.a0 s.b0 s.c0 s.d0, qD s.a1 s.b1 s.c1 s.d1, qD s.a2 s.b2 s.c2 s.d2, qD s.a3 s.b3 s.c3 s.d3⟩
def S16.slants (s : S16) : S16 :=
  ⟨qA s.a0 s.b1 s.c2 s.d3, qA s.a1 s.b2 s.c3 s.d0, qA s.a2 s.b3 s.c0 s.d1, qA s.a3 s.b0 s.c1 s.d2,
   qB s.a3 s.b0 s.c1 s.d2, qB s.a0 s.b1 s.c2 s.d3, qB s.a1 s.b2 s.c3 s.d0, qB s.a2 s.b3 s.c0 s.d1,
   qC s.a2 s.b3 s.c0 s.d1, qC s.a3 s.b0 s.c1 s.d2, qC s.a0 s.b1 s.c2 s.d3, qC s.a1 s.b2 s.c3 s.d0,
   qD s.a1 s.b2 s.c3 s.d0, qD s.a2 s.b3 s.c0 s.d1, qD s.a3 s.b0 s.c1 s.d2, qD s.a0 s.b1 s.c2 s.d3⟩
def S16.rounds (s : S16) : Nat → S16
  | 0 => s
  | n + 1 => (S16.rounds s n).cols.slants
theorem S16.cols_ok (s : S16) : s.cols.ok := by
  intro x hx
  simp only [S16.toL, S16.cols, List.mem_cons, List.not_mem_nil, or_false] at hx
  rcases hx with rfl | rfl | rfl | rfl | rfl | rfl | rfl | rfl | rfl | rfl | rfl | rfl | rfl | rfl | rfl | rfl <;> simp only [qA_lt, qB_lt, qC_lt, qD_lt]
theorem S16.slants_ok (s : S16) : s.slants.ok := by
  intro x hx
  simp only [S16.toL, S16.slants, List.mem_cons, List.not_mem_nil, or_false] at hx
  rcases hx with rfl | rfl | rfl | rfl | rfl | rfl | rfl | rfl | rfl | rfl | rfl | rfl | rfl | rfl | rfl | rfl <;> simp only [qA_lt, qB_lt, qC_lt, qD_lt]
theorem S16.rounds_ok {s : S16} (h : s.ok) : ∀ n, (s.rounds n).ok
  | 0 => h
  | _ + 1 => S16.slants_ok _

/-- A word's four bytes, the lowest first; the word of four bytes. -/
def le4 (n : Nat) : List Nat := [n % 256, n / 256 % 256, n / 65536 % 256, n / 16777216 % 256]
def wordL (b : List Nat) (i : Nat) : Nat := b.getD i 0 + b.getD (i + 1) 0 * 256 + b.getD (i + 2) 0 * 65536 + b.getD (i + 3) 0 * 16777216
/-- A block's bytes. -/
def blkW (s : S16) (i : Nat) : Nat := ((s.rounds 10).toL.getD i 0 + s.toL.getD i 0) % 4294967296
def blkN (s : S16) : Nat → List Nat
  | 0 => []
  | n + 1 => blkN s n ++ le4 (blkW s n)
def blkL (s : S16) : List Nat := blkN s 16
theorem le4_length (n : Nat) : (le4 n).length = 4 := rfl
theorem blkN_length (s : S16) : ∀ n, (blkN s n).length = 4 * n
  | 0 => rfl
  | n + 1 => by rw [blkN, List.length_append, blkN_length s n, le4_length]; omega
theorem blkL_length (s : S16) : (blkL s).length = 64 := blkN_length s 16
/-- The state of block n. -/
def st16 (key nonce : List Nat) (n : Nat) : S16 :=
  ⟨0x61707865, 0x3320646e, 0x79622d32, 0x6b206574, wordL key 0, wordL key 4, wordL key 8, wordL key 12, wordL key 16, wordL key 20, wordL key 24, wordL key 28, n, wordL nonce 0, wordL nonce 4, wordL nonce 8⟩
/-- ChaCha20's block n. -/
def chaL (key nonce : List Nat) (n : Nat) : List Nat := blkL (st16 key nonce n)
theorem chaL_length (key nonce : List Nat) (n : Nat) : (chaL key nonce n).length = 64 := blkL_length _
/-- A text xor the blocks from one on. -/
def chaS (key nonce : List Nat) (at_ : Nat) (l : List Nat) : List Nat := (List.range l.length).map fun i => l.getD i 0 ^^^ (chaL key nonce (at_ + i / 64)).getD (i % 64) 0
theorem chaS_length (key nonce : List Nat) (at_ : Nat) (l : List Nat) : (chaS key nonce at_ l).length = l.length := by simp [chaS]
end Go.Proofs.Ytolmfhgpdcmhlaa
