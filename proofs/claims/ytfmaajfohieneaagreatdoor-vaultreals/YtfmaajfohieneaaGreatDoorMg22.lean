/- ChaCha20 as functions of numbers: quarters, rounds, blocks, a text xor blocks; nothing of the program. · math/bits.RotateLeft32; box.quarter. · Rows of cells told by a function of the place; one cell written anew; a row loaded and stored whole, and told as a result. · box's state.mixed: a state behind its ten rounds. -/
import Derived.Test.YtfmaajfohieneaaGreatDoorMg21
namespace Go.Proofs.YtfmaajfohieneaaGreatDoor.Bx
set_option maxRecDepth 20000

/-- A word turned to the left. -/
def rotl (x n : Nat) : Nat := (x * 2 ^ n ||| x / 2 ^ (32 - n)) % 4294967296
theorem rotl_lt (x n : Nat) : rotl x n < 4294967296 := Nat.mod_lt _ (by decide)
theorem rotl_or (x n : Nat) (hx : x < 4294967296) : x * 2 ^ n % 4294967296 ||| x / 2 ^ (32 - n) = rotl x n := by
  unfold rotl
  have p : (4294967296 : Nat) = 2 ^ 32 := rfl
  rw [p, Nat.or_mod_two_pow, Nat.mod_eq_of_lt (a := x / 2 ^ (32 - n)) (Nat.lt_of_le_of_lt (Nat.div_le_self _ _) hx)]

/-- A quarter of four words, step by step. -/
def qa (a b : Nat) : Nat := (a + b) % 4294967296
def qd (a b d : Nat) : Nat := rotl (d ^^^ qa a b) 16
def qc (a b c d : Nat) : Nat := (c + qd a b d) % 4294967296
def qb (a b c d : Nat) : Nat := rotl (b ^^^ qc a b c d) 12
def qA (a b c d : Nat) : Nat := (qa a b + qb a b c d) % 4294967296
def qD (a b c d : Nat) : Nat := rotl (qd a b d ^^^ qA a b c d) 8
def qC (a b c d : Nat) : Nat := (qc a b c d + qD a b c d) % 4294967296
def qB (a b c d : Nat) : Nat := rotl (qb a b c d ^^^ qC a b c d) 7
theorem qa_lt (a b : Nat) : qa a b < 4294967296 := Nat.mod_lt _ (by decide)
theorem qd_lt (a b d : Nat) : qd a b d < 4294967296 := rotl_lt _ _
theorem qc_lt (a b c d : Nat) : qc a b c d < 4294967296 := Nat.mod_lt _ (by decide)
theorem qb_lt (a b c d : Nat) : qb a b c d < 4294967296 := rotl_lt _ _
theorem qA_lt (a b c d : Nat) : qA a b c d < 4294967296 := Nat.mod_lt _ (by decide)
theorem qB_lt (a b c d : Nat) : qB a b c d < 4294967296 := rotl_lt _ _
theorem qC_lt (a b c d : Nat) : qC a b c d < 4294967296 := Nat.mod_lt _ (by decide)
theorem qD_lt (a b c d : Nat) : qD a b c d < 4294967296 := rotl_lt _ _

/-- The sixteen words. -/
structure S16 where
  (a0 a1 a2 a3 b0 b1 b2 b3 c0 c1 c2 c3 d0 d1 d2 d3 : Nat)
def S16.toL (s : S16) : List Nat := [s.a0, s.a1, s.a2, s.a3, s.b0, s.b1, s.b2, s.b3, s.c0, s.c1, s.c2, s.c3, s.d0, s.d1, s.d2, s.d3]
def S16.ok (s : S16) : Prop := ∀ x ∈ s.toL, x < 4294967296
theorem S16.toL_length (s : S16) : s.toL.length = 16 := rfl
theorem S16.ok_all {s : S16} (h : s.ok) : s.a0 < 4294967296 ∧ s.a1 < 4294967296 ∧ s.a2 < 4294967296 ∧ s.a3 < 4294967296 ∧ s.b0 < 4294967296 ∧ s.b1 < 4294967296 ∧ s.b2 < 4294967296 ∧ s.b3 < 4294967296 ∧ s.c0 < 4294967296 ∧ s.c1 < 4294967296 ∧ s.c2 < 4294967296 ∧ s.c3 < 4294967296 ∧ s.d0 < 4294967296 ∧ s.d1 < 4294967296 ∧ s.d2 < 4294967296 ∧ s.d3 < 4294967296 := by
  simpa [S16.ok, S16.toL] using h
/-- The columns' quarters, then the slants'. -/
def S16.cols (s : S16) : S16 :=
  ⟨qA s.a0 s.b0 s.c0 s.d0, qA s.a1 s.b1 s.c1 s.d1, qA s.a2 s.b2 s.c2 s.d2, qA s.a3 s.b3 s.c3 s.d3,
   qB s.a0 s.b0 s.c0 s.d0, qB s.a1 s.b1 s.c1 s.d1, qB s.a2 s.b2 s.c2 s.d2, qB s.a3 s.b3 s.c3 s.d3,
   qC s.a0 s.b0 s.c0 s.d0, qC s.a1 s.b1 s.c1 s.d1, qC s.a2 s.b2 s.c2 s.d2, qC s.a3 s.b3 s.c3 s.d3,
   qD s.a0 s.b0 s.c0 s.d0, qD s.a1 s.b1 s.c1 s.d1, qD s.a2 s.b2 s.c2 s.d2, qD s.a3 s.b3 s.c3 s.d3⟩
def S16.slants (s : S16) : S16 :=
  ⟨qA s.a0 s.b1 s.c2 s.d3, qA s.a1 s.b2 s.c3 s.d0, qA s.a2 s.b3 s.c0 s.d1, qA s.a3 s.b0 s.c1 s.d2,
   qB s.a3 s.b0 s.c1 s.d2, qB s.a0 s.b1 s.c2 s.d3, qB s.a1 s.b2 s.c3 s.d0, qB s.a2 s.b3 s.c0 s.d1,
   qC s.a2 s.b3 s.c0 s.d1, qC s.a3 s.b0 s.c1 s.d2, qC s.a0 s.b1 s.c2 s.d3, qC s.a1 s.b2 s.c3 s.d0,
   qD s.a1 s.b2 s.c3 s.d0, qD s.a2 s.b3 s.c0 s.d1, qD s.a3 s.b0 s.c1 s.d2, qD s.a0 s.b1 s.c2 s.d3⟩
def S16.rounds (s : S16) : Nat → S16
  | 0 => s
  | n + 1 => (S16.rounds s n).cols.slants
theorem S16.cols_ok (s : S16) : s.cols.ok := by
  intro x hx
  simp only [S16.toL, S16.cols, List.mem_cons, List.not_mem_nil, or_false] at hx
  rcases hx with rfl | rfl | rfl | rfl | rfl | rfl | rfl | rfl | rfl | rfl | rfl | rfl | rfl | rfl | rfl | rfl <;> simp only [qA_lt, qB_lt, qC_lt, qD_lt]
theorem S16.slants_ok (s : S16) : s.slants.ok := by
  intro x hx
  simp only [S16.toL, S16.slants, List.mem_cons, List.not_mem_nil, or_false] at hx
  rcases hx with rfl | rfl | rfl | rfl | rfl | rfl | rfl | rfl | rfl | rfl | rfl | rfl | rfl | rfl | rfl | rfl <;> simp only [qA_lt, qB_lt, qC_lt, qD_lt]
theorem S16.rounds_ok {s : S16} (h : s.ok) : ∀ n, (s.rounds n).ok
  | 0 => h
  | _ + 1 => S16.slants_ok _

/-- A word's four bytes, the lowest first; the word of four bytes. -/
def le4 (n : Nat) : List Nat := [n % 256, n / 256 % 256, n / 65536 % 256, n / 16777216 % 256]
def wordL (b : List Nat) (i : Nat) : Nat := b.getD i 0 + b.getD (i + 1) 0 * 256 + b.getD (i + 2) 0 * 65536 + b.getD (i + 3) 0 * 16777216
/-- A block's bytes. -/
def blkW (s : S16) (i : Nat) : Nat := ((s.rounds 10).toL.getD i 0 + s.toL.getD i 0) % 4294967296
def blkN (s : S16) : Nat → List Nat
  | 0 => []
  | n + 1 => blkN s n ++ le4 (blkW s n)
def blkL (s : S16) : List Nat := blkN s 16
theorem le4_length (n : Nat) : (le4 n).length = 4 := rfl
theorem blkN_length (s : S16) : ∀ n, (blkN s n).length = 4 * n
  | 0 => rfl
  | n + 1 => by rw [blkN, List.length_append, blkN_length s n, le4_length]; omega
theorem blkL_length (s : S16) : (blkL s).length = 64 := blkN_length s 16
/-- The state of block n. -/
def st16 (key nonce : List Nat) (n : Nat) : S16 :=
  ⟨0x61707865, 0x3320646e, 0x79622d32, 0x6b206574, wordL key 0, wordL key 4, wordL key 8, wordL key 12, wordL key 16, wordL key 20, wordL key 24, wordL key 28, n, wordL nonce 0, wordL nonce 4, wordL nonce 8⟩
/-- ChaCha20's block n. -/
def chaL (key nonce : List Nat) (n : Nat) : List Nat := blkL (st16 key nonce n)
theorem chaL_length (key nonce : List Nat) (n : Nat) : (chaL key nonce n).length = 64 := blkL_length _
/-- A text xor the blocks from one on. -/
def chaS (key nonce : List Nat) (at_ : Nat) (l : List Nat) : List Nat := (List.range l.length).map fun i => l.getD i 0 ^^^ (chaL key nonce (at_ + i / 64)).getD (i % 64) 0
theorem chaS_length (key nonce : List Nat) (at_ : Nat) (l : List Nat) : (chaS key nonce at_ l).length = l.length := by simp [chaS]
end Go.Proofs.YtfmaajfohieneaaGreatDoor.Bx

namespace Go.Proofs.YtfmaajfohieneaaGreatDoor.Bx
set_option maxRecDepth 20000
open Go.RowKit

theorem rot_turn (n : Nat) (h2 : n ≤ 31) : bits .and .u64 (n : Int) 31 = (n : Int) := by
  rw [show (31 : Int) = ((31 : Nat) : Int) from rfl, u64_and_nat _ _ (by omega) (by decide), nat_mask5, Nat.mod_eq_of_lt (by omega)]
theorem rot_bits (x n m : Nat) (hx : x < 4294967296) (hm : m = 32 - n) : bits .or .u32 ((x : Int) * 2 ^ n % 4294967296) ((x : Int) / 2 ^ m) = ((rotl x n : Nat) : Int) := by
  subst hm
  have e1 : (x : Int) * 2 ^ n % 4294967296 = ((x * 2 ^ n % 4294967296 : Nat) : Int) := by
    rw [Int.natCast_emod, Int.natCast_mul, Int.natCast_pow]; rfl
  have e2 : (x : Int) / 2 ^ (32 - n) = ((x / 2 ^ (32 - n) : Nat) : Int) := by
    rw [Int.natCast_ediv, Int.natCast_pow]; rfl
  rw [e1, e2, u32_or_nat _ _ (Nat.mod_lt _ (by decide)) (Nat.lt_of_le_of_lt (Nat.div_le_self _ _) hx), rotl_or x n hx]

set_option maxHeartbeats 1000000 in
theorem rot32_any (x n : Nat) (hx : x < 4294967296) (h1 : 1 ≤ n) (h2 : n ≤ 31) (w : World) :
    Calls Tryz.prog 70 #[.int .u32 x, .int .i64 n] w fun e w' => e = .returned (.int .u32 (rotl x n : Nat)) ∧ w' = w := by
  obtain ⟨m, hm⟩ : ∃ m, m = 32 - n := ⟨_, rfl⟩
  have ht := rot_turn n h2
  have hb := rot_bits x n m hx hm
  have v1 : IntKind.u64.wrap (n : Int) = n := by rw [IntKind.wrap_u64]; omega
  have v2 : IntKind.u64.wrap (32 - (n : Int)) = m := by rw [IntKind.wrap_u64]; omega
  have v3 : IntKind.u32.wrap ((x : Int) * 2 ^ n) = (x : Int) * 2 ^ n % 4294967296 := IntKind.wrap_u32 _
  have v4 : min m 32 = m := by omega
  clear hm
  go_enter Tryz.func70, Tryz.ntmps70
  go_wp2
  go_ret
  exact ⟨rfl, rfl⟩

theorem add_u32 (a b : Nat) : IntKind.u32.wrap ((a : Int) + b) = (((a + b) % 4294967296 : Nat) : Int) := by rw [IntKind.wrap_u32]; omega

set_option maxHeartbeats 1000000 in
theorem quarter_any (a b c d : Nat) (hb : b < 4294967296) (hd : d < 4294967296) (w : World) :
    Calls Tryz.prog 129 #[.int .u32 a, .int .u32 b, .int .u32 c, .int .u32 d] w fun e w' => e = .returned (.tuple #[.int .u32 (qA a b c d : Nat), .int .u32 (qB a b c d : Nat), .int .u32 (qC a b c d : Nat), .int .u32 (qD a b c d : Nat)]) ∧ w' = w := by
  obtain ⟨a1, ha1⟩ : ∃ a1, a1 = qa a b := ⟨_, rfl⟩
  have la1 : a1 < 4294967296 := by rw [ha1]; exact qa_lt _ _
  obtain ⟨d1, hd1⟩ : ∃ d1, d1 = qd a b d := ⟨_, rfl⟩
  have ld1 : d1 < 4294967296 := by rw [hd1]; exact qd_lt _ _ _
  obtain ⟨c1, hc1⟩ : ∃ c1, c1 = qc a b c d := ⟨_, rfl⟩
  have lc1 : c1 < 4294967296 := by rw [hc1]; exact qc_lt _ _ _ _
  obtain ⟨b1, hb1⟩ : ∃ b1, b1 = qb a b c d := ⟨_, rfl⟩
  have lb1 : b1 < 4294967296 := by rw [hb1]; exact qb_lt _ _ _ _
  obtain ⟨a2, ha2⟩ : ∃ a2, a2 = qA a b c d := ⟨_, rfl⟩
  have la2 : a2 < 4294967296 := by rw [ha2]; exact qA_lt _ _ _ _
  obtain ⟨d2, hd2⟩ : ∃ d2, d2 = qD a b c d := ⟨_, rfl⟩
  have ld2 : d2 < 4294967296 := by rw [hd2]; exact qD_lt _ _ _ _
  obtain ⟨c2, hc2⟩ : ∃ c2, c2 = qC a b c d := ⟨_, rfl⟩
  have lc2 : c2 < 4294967296 := by rw [hc2]; exact qC_lt _ _ _ _
  obtain ⟨b2, hb2⟩ : ∃ b2, b2 = qB a b c d := ⟨_, rfl⟩
  have lb2 : b2 < 4294967296 := by rw [hb2]; exact qB_lt _ _ _ _
  rw [← ha2, ← hb2, ← hc2, ← hd2]
  have va1 : IntKind.u32.wrap ((a : Int) + b) = a1 := by rw [add_u32, ha1]; rfl
  have vd1 : bits .xor .u32 (d : Int) (a1 : Int) = ((d ^^^ a1 : Nat) : Int) := u32_xor_nat _ _ hd la1
  have rd1 : ∀ w, Calls Tryz.prog 70 #[.int .u32 (d ^^^ a1 : Nat), .int .i64 16] w fun e w' => e = .returned (.int .u32 d1) ∧ w' = w := fun w => by
    rw [hd1, ha1]
    exact rot32_any _ 16 (xor_lt hd (qa_lt _ _)) (by decide) (by decide) w
  have vc1 : IntKind.u32.wrap ((c : Int) + d1) = c1 := by rw [add_u32, hc1, hd1]; rfl
  have vb1 : bits .xor .u32 (b : Int) (c1 : Int) = ((b ^^^ c1 : Nat) : Int) := u32_xor_nat _ _ hb lc1
  have rb1 : ∀ w, Calls Tryz.prog 70 #[.int .u32 (b ^^^ c1 : Nat), .int .i64 12] w fun e w' => e = .returned (.int .u32 b1) ∧ w' = w := fun w => by
    rw [hb1, hc1]
    exact rot32_any _ 12 (xor_lt hb (qc_lt _ _ _ _)) (by decide) (by decide) w
  have va2 : IntKind.u32.wrap ((a1 : Int) + b1) = a2 := by rw [add_u32, ha2, ha1, hb1]; rfl
  have vd2 : bits .xor .u32 (d1 : Int) (a2 : Int) = ((d1 ^^^ a2 : Nat) : Int) := u32_xor_nat _ _ ld1 la2
  have rd2 : ∀ w, Calls Tryz.prog 70 #[.int .u32 (d1 ^^^ a2 : Nat), .int .i64 8] w fun e w' => e = .returned (.int .u32 d2) ∧ w' = w := fun w => by
    rw [hd2, hd1, ha2]
    exact rot32_any _ 8 (xor_lt (qd_lt _ _ _) (qA_lt _ _ _ _)) (by decide) (by decide) w
  have vc2 : IntKind.u32.wrap ((c1 : Int) + d2) = c2 := by rw [add_u32, hc2, hc1, hd2]; rfl
  have vb2 : bits .xor .u32 (b1 : Int) (c2 : Int) = ((b1 ^^^ c2 : Nat) : Int) := u32_xor_nat _ _ lb1 lc2
  have rb2 : ∀ w, Calls Tryz.prog 70 #[.int .u32 (b1 ^^^ c2 : Nat), .int .i64 7] w fun e w' => e = .returned (.int .u32 b2) ∧ w' = w := fun w => by
    rw [hb2, hb1, hc2]
    exact rot32_any _ 7 (xor_lt (qb_lt _ _ _ _) (qC_lt _ _ _ _)) (by decide) (by decide) w
  generalize d ^^^ a1 = xd1 at *
  generalize b ^^^ c1 = xb1 at *
  generalize d1 ^^^ a2 = xd2 at *
  generalize b1 ^^^ c2 = xb2 at *
  clear ha1 hd1 hc1 hb1 ha2 hd2 hc2 hb2 la1 ld1 lc1 lb1 la2 ld2 lc2 lb2
  go_enter Tryz.func129, Tryz.ntmps129
  go_wp2_with fail
  refine (rd1 _).mono ?_
  rintro e w' ⟨rfl, rfl⟩
  clear rd1
  go_wp2_with fail
  refine (rb1 _).mono ?_
  rintro e w' ⟨rfl, rfl⟩
  clear rb1
  go_wp2_with fail
  refine (rd2 _).mono ?_
  rintro e w' ⟨rfl, rfl⟩
  clear rd2
  go_wp2_with fail
  refine (rb2 _).mono ?_
  rintro e w' ⟨rfl, rfl⟩
  clear rb2
  go_wp2
  exact bodyPost_ret (v := .tuple #[.int .u32 a2, .int .u32 b2, .int .u32 c2, .int .u32 d2]) (by simp [results, Tryz.results129]) rfl ⟨rfl, rfl⟩
end Go.Proofs.YtfmaajfohieneaaGreatDoor.Bx

namespace Go.Proofs.YtfmaajfohieneaaGreatDoor.Bx
set_option maxRecDepth 20000
open Go.RowKit

def rowF (n : Nat) (f : Nat → Value) : List Value := (List.range n).map f
theorem rowF_length (n : Nat) (f : Nat → Value) : (rowF n f).length = n := by simp [rowF]
theorem rowF_get (n : Nat) (f : Nat → Value) (i : Nat) (h : i < n) : (rowF n f)[i]? = some (f i) := by simp [rowF, h]
theorem rowF_congr {n : Nat} {f f' : Nat → Value} (h : ∀ k, k < n → f k = f' k) : rowF n f = rowF n f' :=
  List.map_congr_left fun k hk => h k (List.mem_range.1 hk)
theorem rowF_set (n : Nat) (f : Nat → Value) (i : Nat) (v : Value) : (rowF n f).set i v = rowF n fun k => if k = i then v else f k := by
  refine List.ext_getElem? fun k => ?_
  rw [List.getElem?_set]
  by_cases hk : k < n
  · rw [rowF_get _ _ _ hk, rowF_get _ _ _ hk, rowF_length]
    by_cases e : i = k
    · subst e; simp [hk]
    · simp [e, Ne.symm e]
  · rw [List.getElem?_eq_none (by rw [rowF_length]; omega), List.getElem?_eq_none (by rw [rowF_length]; omega), rowF_length]
    by_cases e : i = k
    · subst e; simp [hk]
    · simp [e]
theorem Row.setF {w : World} {g t n : Nat} {f : Nat → Value} (h : Row w g t (rowF n f)) (i : Nat) (v : Value) : Row (w.setCell ⟨g, i, none⟩ v) g t (rowF n fun k => if k = i then v else f k) := by
  have h1 := heap_setCell_same w g i _ t v h
  rw [List.setIfInBounds_toArray, rowF_set] at h1
  exact h1
theorem Row.cellF {w : World} {g t n : Nat} {f : Nat → Value} (h : Row w g t (rowF n f)) (i : Nat) (hi : i < n) : w.cell? ⟨g, i, none⟩ = some (f i) := by
  rw [h.cell, rowF_get _ _ _ hi]
theorem byV_rowF (l : List Nat) : byV l = rowF l.length fun k => .int .u8 (l.getD k 0 : Nat) := by
  refine List.ext_getElem? fun k => ?_
  by_cases hk : k < l.length
  · rw [byV_get _ _ hk, rowF_get _ _ _ hk]
  · rw [List.getElem?_eq_none (by simp [byV]; omega), List.getElem?_eq_none (by rw [rowF_length]; omega)]
theorem Row.congr {w : World} {g t : Nat} {l l' : List Value} (h : Row w g t l) (e : l = l') : Row w g t l' := e ▸ h
end Go.Proofs.YtfmaajfohieneaaGreatDoor.Bx

namespace Go.Proofs.YtfmaajfohieneaaGreatDoor.Bx
set_option maxRecDepth 20000
open Go.RowKit

/-- Words as values. -/
def wdV (l : List Nat) : List Value := l.map fun x => Value.int .u32 (x : Nat)
theorem wdV_get (l : List Nat) (i : Nat) (h : i < l.length) : (wdV l)[i]? = some (.int .u32 (l.getD i 0 : Nat)) := by
  rw [wdV, List.getElem?_map, List.getElem?_eq_getElem h, getD_at _ _ h]
  rfl
theorem quarter_let (a b c d : Nat) (hb : b < 4294967296) (hd : d < 4294967296) : ∃ a' b' c' d' : Nat, (a' = qA a b c d ∧ b' = qB a b c d ∧ c' = qC a b c d ∧ d' = qD a b c d) ∧ (a' < 4294967296 ∧ b' < 4294967296 ∧ c' < 4294967296 ∧ d' < 4294967296) ∧
    ∀ w, Calls Tryz.prog 129 #[.int .u32 a, .int .u32 b, .int .u32 c, .int .u32 d] w fun e w' => e = .returned (.tuple #[.int .u32 a', .int .u32 b', .int .u32 c', .int .u32 d']) ∧ w' = w :=
  ⟨_, _, _, _, ⟨rfl, rfl, rfl, rfl⟩, ⟨qA_lt _ _ _ _, qB_lt _ _ _ _, qC_lt _ _ _ _, qD_lt _ _ _ _⟩, fun w => quarter_any a b c d hb hd w⟩

set_option maxRecDepth 10000 in
set_option maxHeartbeats 4000000 in
theorem mixed_any (s : S16) (hs : s.ok) (g t : Nat) (w : World) (hr : Row w g t (wdV s.toL)) :
    Calls Tryz.prog 118 #[.pointer (some ⟨g, 0, none⟩)] w fun e w' => e = .returned (.agg (wdV (s.rounds 10).toL).toArray) ∧ Below w.heap.size w w' := by
  have hg := hr.lt
  have ea0 : w.cell? ⟨g, 0, none⟩ = some (.int .u32 (s.a0 : Nat)) := hr.cell 0
  have ea1 : w.cell? ⟨g, 1, none⟩ = some (.int .u32 (s.a1 : Nat)) := hr.cell 1
  have ea2 : w.cell? ⟨g, 2, none⟩ = some (.int .u32 (s.a2 : Nat)) := hr.cell 2
  have ea3 : w.cell? ⟨g, 3, none⟩ = some (.int .u32 (s.a3 : Nat)) := hr.cell 3
  have eb0 : w.cell? ⟨g, 4, none⟩ = some (.int .u32 (s.b0 : Nat)) := hr.cell 4
  have eb1 : w.cell? ⟨g, 5, none⟩ = some (.int .u32 (s.b1 : Nat)) := hr.cell 5
  have eb2 : w.cell? ⟨g, 6, none⟩ = some (.int .u32 (s.b2 : Nat)) := hr.cell 6
  have eb3 : w.cell? ⟨g, 7, none⟩ = some (.int .u32 (s.b3 : Nat)) := hr.cell 7
  have ec0 : w.cell? ⟨g, 8, none⟩ = some (.int .u32 (s.c0 : Nat)) := hr.cell 8
  have ec1 : w.cell? ⟨g, 9, none⟩ = some (.int .u32 (s.c1 : Nat)) := hr.cell 9
  have ec2 : w.cell? ⟨g, 10, none⟩ = some (.int .u32 (s.c2 : Nat)) := hr.cell 10
  have ec3 : w.cell? ⟨g, 11, none⟩ = some (.int .u32 (s.c3 : Nat)) := hr.cell 11
  have ed0 : w.cell? ⟨g, 12, none⟩ = some (.int .u32 (s.d0 : Nat)) := hr.cell 12
  have ed1 : w.cell? ⟨g, 13, none⟩ = some (.int .u32 (s.d1 : Nat)) := hr.cell 13
  have ed2 : w.cell? ⟨g, 14, none⟩ = some (.int .u32 (s.d2 : Nat)) := hr.cell 14
  have ed3 : w.cell? ⟨g, 15, none⟩ = some (.int .u32 (s.d3 : Nat)) := hr.cell 15
  clear hr
  have fa0 : ∀ o, (w.alloc o).cell? ⟨g, 0, none⟩ = some (.int .u32 (s.a0 : Nat)) := fun o => ((Below.refl _ _).alloc (Nat.le_refl _) _ |>.cell (p := ⟨g, 0, none⟩) hg).trans ea0
  have fa1 : ∀ o, (w.alloc o).cell? ⟨g, 1, none⟩ = some (.int .u32 (s.a1 : Nat)) := fun o => ((Below.refl _ _).alloc (Nat.le_refl _) _ |>.cell (p := ⟨g, 1, none⟩) hg).trans ea1
  have fa2 : ∀ o, (w.alloc o).cell? ⟨g, 2, none⟩ = some (.int .u32 (s.a2 : Nat)) := fun o => ((Below.refl _ _).alloc (Nat.le_refl _) _ |>.cell (p := ⟨g, 2, none⟩) hg).trans ea2
  have fa3 : ∀ o, (w.alloc o).cell? ⟨g, 3, none⟩ = some (.int .u32 (s.a3 : Nat)) := fun o => ((Below.refl _ _).alloc (Nat.le_refl _) _ |>.cell (p := ⟨g, 3, none⟩) hg).trans ea3
  have fb0 : ∀ o, (w.alloc o).cell? ⟨g, 4, none⟩ = some (.int .u32 (s.b0 : Nat)) := fun o => ((Below.refl _ _).alloc (Nat.le_refl _) _ |>.cell (p := ⟨g, 4, none⟩) hg).trans eb0
  have fb1 : ∀ o, (w.alloc o).cell? ⟨g, 5, none⟩ = some (.int .u32 (s.b1 : Nat)) := fun o => ((Below.refl _ _).alloc (Nat.le_refl _) _ |>.cell (p := ⟨g, 5, none⟩) hg).trans eb1
  have fb2 : ∀ o, (w.alloc o).cell? ⟨g, 6, none⟩ = some (.int .u32 (s.b2 : Nat)) := fun o => ((Below.refl _ _).alloc (Nat.le_refl _) _ |>.cell (p := ⟨g, 6, none⟩) hg).trans eb2
  have fb3 : ∀ o, (w.alloc o).cell? ⟨g, 7, none⟩ = some (.int .u32 (s.b3 : Nat)) := fun o => ((Below.refl _ _).alloc (Nat.le_refl _) _ |>.cell (p := ⟨g, 7, none⟩) hg).trans eb3
  have fc0 : ∀ o, (w.alloc o).cell? ⟨g, 8, none⟩ = some (.int .u32 (s.c0 : Nat)) := fun o => ((Below.refl _ _).alloc (Nat.le_refl _) _ |>.cell (p := ⟨g, 8, none⟩) hg).trans ec0
  have fc1 : ∀ o, (w.alloc o).cell? ⟨g, 9, none⟩ = some (.int .u32 (s.c1 : Nat)) := fun o => ((Below.refl _ _).alloc (Nat.le_refl _) _ |>.cell (p := ⟨g, 9, none⟩) hg).trans ec1
  have fc2 : ∀ o, (w.alloc o).cell? ⟨g, 10, none⟩ = some (.int .u32 (s.c2 : Nat)) := fun o => ((Below.refl _ _).alloc (Nat.le_refl _) _ |>.cell (p := ⟨g, 10, none⟩) hg).trans ec2
  have fc3 : ∀ o, (w.alloc o).cell? ⟨g, 11, none⟩ = some (.int .u32 (s.c3 : Nat)) := fun o => ((Below.refl _ _).alloc (Nat.le_refl _) _ |>.cell (p := ⟨g, 11, none⟩) hg).trans ec3
  have fd0 : ∀ o, (w.alloc o).cell? ⟨g, 12, none⟩ = some (.int .u32 (s.d0 : Nat)) := fun o => ((Below.refl _ _).alloc (Nat.le_refl _) _ |>.cell (p := ⟨g, 12, none⟩) hg).trans ed0
  have fd1 : ∀ o, (w.alloc o).cell? ⟨g, 13, none⟩ = some (.int .u32 (s.d1 : Nat)) := fun o => ((Below.refl _ _).alloc (Nat.le_refl _) _ |>.cell (p := ⟨g, 13, none⟩) hg).trans ed1
  have fd2 : ∀ o, (w.alloc o).cell? ⟨g, 14, none⟩ = some (.int .u32 (s.d2 : Nat)) := fun o => ((Below.refl _ _).alloc (Nat.le_refl _) _ |>.cell (p := ⟨g, 14, none⟩) hg).trans ed2
  have fd3 : ∀ o, (w.alloc o).cell? ⟨g, 15, none⟩ = some (.int .u32 (s.d3 : Nat)) := fun o => ((Below.refl _ _).alloc (Nat.le_refl _) _ |>.cell (p := ⟨g, 15, none⟩) hg).trans ed3
  clear ea0 ea1 ea2 ea3 eb0 eb1 eb2 eb3 ec0 ec1 ec2 ec3 ed0 ed1 ed2 ed3
  have HB : Hid (∀ o n1 n2 n3 n4, Below w.heap.size w (((((w.alloc o).drewN n1).drewN n2).drewN n3).drewN n4)) := fun o n1 n2 n3 n4 => (Below.refl _ _).alloc (Nat.le_refl _) o |>.trans ⟨rfl, rfl, rfl, Nat.le_refl _, fun _ _ => rfl⟩
  go_enter Tryz.func118, Tryz.ntmps118
  go_wp2_with fail
  go_quiet (fail)
  go_wp2_with fail
  go_quiet (fail)
  go_wp2_with fail
  go_quiet (fail)
  go_wp2_with fail
  go_quiet (fail)
  go_wp2_with fail
  clear fa0 fa1 fa2 fa3 fb0 fb1 fb2 fb3 fc0 fc1 fc2 fc3 fd0 fd1 fd2 fd3
  go_loopw [3, 4, 5, 6, 7, 8, 9, 10, 11, 12, 13, 14, 15, 16, 17, 18, 83] (fun va0 va1 va2 va3 vb0 vb1 vb2 vb3 vc0 vc1 vc2 vc3 vd0 vd1 vd2 vd3 i wr => ∃ a0 a1 a2 a3 b0 b1 b2 b3 c0 c1 c2 c3 d0 d1 d2 d3 j : Nat, j ≤ 10 ∧ S16.mk a0 a1 a2 a3 b0 b1 b2 b3 c0 c1 c2 c3 d0 d1 d2 d3 = s.rounds j ∧ (S16.mk a0 a1 a2 a3 b0 b1 b2 b3 c0 c1 c2 c3 d0 d1 d2 d3).ok ∧ Row wr w.heap.size 139 (wdV (List.replicate 16 0)) ∧ Below w.heap.size w wr ∧ i = .int .i64 j ∧ va0 = .int .u32 (a0 : Nat) ∧ va1 = .int .u32 (a1 : Nat) ∧ va2 = .int .u32 (a2 : Nat) ∧ va3 = .int .u32 (a3 : Nat) ∧ vb0 = .int .u32 (b0 : Nat) ∧ vb1 = .int .u32 (b1 : Nat) ∧ vb2 = .int .u32 (b2 : Nat) ∧ vb3 = .int .u32 (b3 : Nat) ∧ vc0 = .int .u32 (c0 : Nat) ∧ vc1 = .int .u32 (c1 : Nat) ∧ vc2 = .int .u32 (c2 : Nat) ∧ vc3 = .int .u32 (c3 : Nat) ∧ vd0 = .int .u32 (d0 : Nat) ∧ vd1 = .int .u32 (d1 : Nat) ∧ vd2 = .int .u32 (d2 : Nat) ∧ vd3 = .int .u32 (d3 : Nat)) (fun _ _ _ _ _ _ _ _ _ _ _ _ _ _ _ _ i _ => 10 - (intOf i).toNat)
  case atStart => exact ⟨s.a0, s.a1, s.a2, s.a3, s.b0, s.b1, s.b2, s.b3, s.c0, s.c1, s.c2, s.c3, s.d0, s.d1, s.d2, s.d3, 0, Nat.zero_le _, rfl, hs, heap_alloc_new w _, HB.out _ _ _ _ _, rfl, rfl, rfl, rfl, rfl, rfl, rfl, rfl, rfl, rfl, rfl, rfl, rfl, rfl, rfl, rfl, rfl⟩
  case round =>
    obtain ⟨a0, a1, a2, a3, b0, b1, b2, b3, c0, c1, c2, c3, d0, d1, d2, d3, j, hj, hT, hok, k0, hbw, rfl, rfl, rfl, rfl, rfl, rfl, rfl, rfl, rfl, rfl, rfl, rfl, rfl, rfl, rfl, rfl, rfl⟩ := hrel
    by_cases hlt : j < 10
    · obtain ⟨la0, la1, la2, la3, lb0, lb1, lb2, lb3, lc0, lc1, lc2, lc3, ld0, ld1, ld2, ld3⟩ := S16.ok_all hok
      obtain ⟨ua0, ub0, uc0, ud0, ⟨hua0, hub0, huc0, hud0⟩, ⟨lua0, lub0, luc0, lud0⟩, kq0⟩ := quarter_let a0 b0 c0 d0 lb0 ld0
      obtain ⟨ua1, ub1, uc1, ud1, ⟨hua1, hub1, huc1, hud1⟩, ⟨lua1, lub1, luc1, lud1⟩, kq1⟩ := quarter_let a1 b1 c1 d1 lb1 ld1
      obtain ⟨ua2, ub2, uc2, ud2, ⟨hua2, hub2, huc2, hud2⟩, ⟨lua2, lub2, luc2, lud2⟩, kq2⟩ := quarter_let a2 b2 c2 d2 lb2 ld2
      obtain ⟨ua3, ub3, uc3, ud3, ⟨hua3, hub3, huc3, hud3⟩, ⟨lua3, lub3, luc3, lud3⟩, kq3⟩ := quarter_let a3 b3 c3 d3 lb3 ld3
      obtain ⟨za0, zb1, zc2, zd3, ⟨hza0, hzb1, hzc2, hzd3⟩, ⟨_lza0, _lzb1, _lzc2, _lzd3⟩, kq4⟩ := quarter_let ua0 ub1 uc2 ud3 lub1 lud3
      obtain ⟨za1, zb2, zc3, zd0, ⟨hza1, hzb2, hzc3, hzd0⟩, ⟨_lza1, _lzb2, _lzc3, _lzd0⟩, kq5⟩ := quarter_let ua1 ub2 uc3 ud0 lub2 lud0
      obtain ⟨za2, zb3, zc0, zd1, ⟨hza2, hzb3, hzc0, hzd1⟩, ⟨_lza2, _lzb3, _lzc0, _lzd1⟩, kq6⟩ := quarter_let ua2 ub3 uc0 ud1 lub3 lud1
      obtain ⟨za3, zb0, zc1, zd2, ⟨hza3, hzb0, hzc1, hzd2⟩, ⟨_lza3, _lzb0, _lzc1, _lzd2⟩, kq7⟩ := quarter_let ua3 ub0 uc1 ud2 lub0 lud2
      have HN : Hid (S16.mk za0 za1 za2 za3 zb0 zb1 zb2 zb3 zc0 zc1 zc2 zc3 zd0 zd1 zd2 zd3 = s.rounds (j + 1)) := by
        show _ = (s.rounds j).cols.slants
        rw [← hT, hza0, hzb1, hzc2, hzd3, hza1, hzb2, hzc3, hzd0, hza2, hzb3, hzc0, hzd1, hza3, hzb0, hzc1, hzd2]
        rw [hua0, hub0, huc0, hud0, hua1, hub1, huc1, hud1, hua2, hub2, huc2, hud2, hua3, hub3, huc3, hud3]
        rfl
      have HO : Hid ((S16.mk za0 za1 za2 za3 zb0 zb1 zb2 zb3 zc0 zc1 zc2 zc3 zd0 zd1 zd2 zd3).ok) := by
        show (S16.mk za0 za1 za2 za3 zb0 zb1 zb2 zb3 zc0 zc1 zc2 zc3 zd0 zd1 zd2 zd3).ok
        rw [HN.out]
        exact S16.slants_ok _
      have HK : Hid (Row wr w.heap.size 139 (wdV (List.replicate 16 0)) ∧ Below w.heap.size w wr) := ⟨k0, hbw⟩
      clear k0 hbw hok hT hua0 hua1 hua2 hua3 hub0 hub1 hub2 hub3 huc0 huc1 huc2 huc3 hud0 hud1 hud2 hud3 hza0 hza1 hza2 hza3 hzb0 hzb1 hzb2 hzb3 hzc0 hzc1 hzc2 hzc3 hzd0 hzd1 hzd2 hzd3 la0 la1 la2 la3 lb0 lb1 lb2 lb3 lc0 lc1 lc2 lc3 ld0 ld1 ld2 ld3 lua0 lua1 lua2 lua3 lub0 lub1 lub2 lub3 luc0 luc1 luc2 luc3 lud0 lud1 lud2 lud3 _lza0 _lza1 _lza2 _lza3 _lzb0 _lzb1 _lzb2 _lzb3 _lzc0 _lzc1 _lzc2 _lzc3 _lzd0 _lzd1 _lzd2 _lzd3
      go_wp2_with fail
      refine (kq0 _).mono ?_
      rintro e w' ⟨rfl, rfl⟩
      clear kq0
      go_wp2_with fail
      refine (kq1 _).mono ?_
      rintro e w' ⟨rfl, rfl⟩
      clear kq1
      go_wp2_with fail
      refine (kq2 _).mono ?_
      rintro e w' ⟨rfl, rfl⟩
      clear kq2
      go_wp2_with fail
      refine (kq3 _).mono ?_
      rintro e w' ⟨rfl, rfl⟩
      clear kq3
      go_wp2_with fail
      refine (kq4 _).mono ?_
      rintro e w' ⟨rfl, rfl⟩
      clear kq4
      go_wp2_with fail
      refine (kq5 _).mono ?_
      rintro e w' ⟨rfl, rfl⟩
      clear kq5
      go_wp2_with fail
      refine (kq6 _).mono ?_
      rintro e w' ⟨rfl, rfl⟩
      clear kq6
      go_wp2_with fail
      refine (kq7 _).mono ?_
      rintro e w' ⟨rfl, rfl⟩
      clear kq7
      go_wp2
      go_roundw
      case rel => exact ⟨za0, za1, za2, za3, zb0, zb1, zb2, zb3, zc0, zc1, zc2, zc3, zd0, zd1, zd2, zd3, j + 1, by omega, HN.out, HO.out, HK.out.1, HK.out.2, by go_num, rfl, rfl, rfl, rfl, rfl, rfl, rfl, rfl, rfl, rfl, rfl, rfl, rfl, rfl, rfl, rfl⟩
      case measure => simp [intOf]; omega
    · obtain rfl : j = 10 := by omega
      have HT : Hid (wdV (s.rounds 10).toL = wdV (S16.mk a0 a1 a2 a3 b0 b1 b2 b3 c0 c1 c2 c3 d0 d1 d2 d3).toL) := by rw [Hid, ← hT]
      clear hT hok hs HB
      obtain ⟨ds, hds⟩ : ∃ ds : Array Value, ds = (wdV (S16.mk a0 a1 a2 a3 b0 b1 b2 b3 c0 c1 c2 c3 d0 d1 d2 d3).toL).toArray := ⟨_, rfl⟩
      have hds' : #[Value.int .u32 a0, Value.int .u32 a1, Value.int .u32 a2, Value.int .u32 a3, Value.int .u32 b0, Value.int .u32 b1, Value.int .u32 b2, Value.int .u32 b3, Value.int .u32 c0, Value.int .u32 c1, Value.int .u32 c2, Value.int .u32 c3, Value.int .u32 d0, Value.int .u32 d1, Value.int .u32 d2, Value.int .u32 d3] = ds := by rw [hds]; rfl
      have hsz : ds.size = 16 := by rw [hds]; rfl
      have hone : ds.all (·.oneCell') = true := by rw [hds]; simp [wdV, Value.oneCell']
      have k0' : wr.heap[w.heap.size]? = some (.cells (wdV (List.replicate 16 0)).toArray 139 (0, 0)) := k0
      have hs0 : (wdV (List.replicate 16 0)).toArray.size = ds.size := by rw [hsz]; rfl
      have hinfo : (Tryz.prog.info? 139).map (·.size) = some ds.size := by rw [hsz]; kernel_rfl
      have hba := below_rowH hbw (Nat.le_refl _) ds
      have hl0 := run_loadVar_row (P := Tryz.prog) (wr.setRow w.heap.size ds) w.heap.size 139 139 ds (0, 0) _ (setRow_heap _ _ _ _ _ _ k0') Tryz.underlying139 rfl hinfo
      have HDS : Hid (ds = (wdV (S16.mk a0 a1 a2 a3 b0 b1 b2 b3 c0 c1 c2 c3 d0 d1 d2 d3).toL).toArray) := hds
      clear hds k0 hbw
      go_wp2_with (refine wpList_store_row rfl 139 _ _ rfl w.heap.size ds rfl rfl 139 _ k0' hinfo hs0 hone ?_)
      exact bodyPost_ret (v := .agg ds) (by simp [results, Tryz.results118, asAddr, Act.put, hl0]) rfl ⟨by rw [HDS.out, HT.out], hba⟩
end Go.Proofs.YtfmaajfohieneaaGreatDoor.Bx
