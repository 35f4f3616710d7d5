/- Lists of numbers, bytes, blocks of cells, parts of a block written anew, bits of numbers: nothing of the program. · ChaCha20 as functions of numbers: quarters, rounds, blocks, a text xor blocks; nothing of the program. · math/bits.RotateLeft32; box.quarter. · Rows of cells told by a function of the place; one cell written anew; a row loaded and stored whole, and told as a result. · box's state.mixed: a state behind its ten rounds. · box's state.block: the bytes of a block. -/
import Derived.Test.YtoopaigpjefonaaGreatDoorProg
import Derived.WalkKit
import Derived.Laws.BitsAllLaws
import Derived.Laws.BitsLemmas
import Derived.Laws.BytesArg
import Derived.Lib.LazyBuf
import Derived.Lib.SliceRun
import Derived.Deep.WholeRow
import Derived.Deep.RegionHeld3
import Derived.Deep.QuietTactic
import Derived.BigQuiet
namespace Go.Proofs.YtoopaigpjefonaaGreatDoor.Bx
set_option maxRecDepth 20000
open Go.RowKit
theorem getD_beyond (l : List Nat) (d : Nat) {i : Nat} (h : l.length ≤ i) : l.getD i d = d := by
  rw [List.getD_eq_getElem?_getD, List.getElem?_eq_none h]; rfl
theorem getD_at (l : List Nat) (d : Nat) {i : Nat} (h : i < l.length) : l.getD i d = l[i] := by
  rw [List.getD_eq_getElem?_getD, List.getElem?_eq_getElem h]; rfl
theorem getD_left (l m : List Nat) (d i : Nat) (h : i < l.length) : (l ++ m).getD i d = l.getD i d := by
  rw [List.getD_eq_getElem?_getD, List.getElem?_append_left h, List.getD_eq_getElem?_getD]
theorem getD_right (l m : List Nat) (d i : Nat) (h : l.length ≤ i) : (l ++ m).getD i d = m.getD (i - l.length) d := by
  rw [List.getD_eq_getElem?_getD, List.getElem?_append_right h, List.getD_eq_getElem?_getD]
theorem pow32 : (2 : Nat) ^ 32 = 4294967296 := rfl
theorem xor_lt {a b : Nat} (ha : a < 4294967296) (hb : b < 4294967296) : a ^^^ b < 4294967296 := Nat.xor_lt_two_pow (n := 32) ha hb
theorem and_lt {a b : Nat} (hb : b < 4294967296) : a &&& b < 4294967296 := Nat.and_lt_two_pow (n := 32) a hb
theorem or_lt {a b : Nat} (ha : a < 4294967296) (hb : b < 4294967296) : a ||| b < 4294967296 := Nat.or_lt_two_pow (n := 32) ha hb
/-- Numbers that are bytes; that are words. -/
def Bytes (b : List Nat) : Prop := ∀ x ∈ b, x < 256
theorem getD_lt {b : List Nat} {m : Nat} (hm : 0 < m) (h : ∀ x ∈ b, x < m) (i : Nat) : b.getD i 0 < m := by
  by_cases hi : i < b.length
  · rw [getD_at _ _ hi]; exact h _ (List.getElem_mem _)
  · rw [getD_beyond _ _ (by omega)]; exact hm
theorem Bytes.append {a b : List Nat} (ha : Bytes a) (hb : Bytes b) : Bytes (a ++ b) := fun x hx => by
  rcases List.mem_append.1 hx with h | h
  · exact ha x h
  · exact hb x h
theorem Bytes.cons {x : Nat} {b : List Nat} (hx : x < 256) (hb : Bytes b) : Bytes (x :: b) := fun y hy => by
  rcases List.mem_cons.1 hy with h | h
  · omega
  · exact hb y h
theorem Bytes.zeros (n : Nat) : Bytes (List.replicate n 0) := fun x hx => by
  have := (List.mem_replicate.1 hx).2
  omega
theorem Bytes.take {b : List Nat} (h : Bytes b) (n : Nat) : Bytes (b.take n) := fun x hx => h x (List.mem_of_mem_take hx)
theorem Bytes.drop {b : List Nat} (h : Bytes b) (n : Nat) : Bytes (b.drop n) := fun x hx => h x (List.mem_of_mem_drop hx)
/-- A block whose cells are these. -/
def Row (w : World) (g : Nat) (t : TypeId) (l : List Value) : Prop := w.heap[g]? = some (.cells l.toArray t (0, 0))
/-- Nothing that was there is changed but block b. -/
def Only (b : Nat) (w w' : World) : Prop := Below 0 w w' ∧ ∀ k, k < w.heap.size → k ≠ b → w'.heap[k]? = w.heap[k]?
theorem Only.refl (b : Nat) (w : World) : Only b w w := ⟨Below.refl _ _, fun _ _ _ => rfl⟩
theorem Only.trans {b : Nat} {w w1 w2 : World} (h : Only b w w1) (k : Only b w1 w2) : Only b w w2 :=
  ⟨h.1.trans k.1, fun i hi hb => (k.2 i (Nat.lt_of_lt_of_le hi h.1.size) hb).trans (h.2 i hi hb)⟩
theorem Only.of_below {b : Nat} {w w' : World} (h : Below w.heap.size w w') : Only b w w' := ⟨h.mono (Nat.zero_le _), fun k hk _ => h.block k hk⟩
theorem Only.below {b : Nat} {w w' : World} (h : Only b w w') (hb : b ≤ w.heap.size) : Below b w w' := ⟨h.1.os, h.1.tape, h.1.output, h.1.size, fun k hk => h.2 k (by omega) (by omega)⟩
theorem Only.size {b : Nat} {w w' : World} (h : Only b w w') : w.heap.size ≤ w'.heap.size := h.1.size
theorem Only.drew {b : Nat} {w w' : World} (h : Only b w w') : Only b w w'.drew := ⟨h.1.drew, fun k hk hb => h.2 k hk hb⟩
theorem Only.setCell {b : Nat} {w w' : World} (h : Only b w w') (i : Nat) (v : Value) : Only b w (w'.setCell ⟨b, i, none⟩ v) :=
  ⟨h.1.setCell (p := ⟨b, i, none⟩) (Nat.zero_le _) _, fun k hk hb => (Below.heap_setCell w' ⟨b, i, none⟩ _ k hb).trans (h.2 k hk hb)⟩
theorem set_mid (A P Q C : List Value) (v q : Value) (n : Nat) (hn : n = A.length + P.length) : (A ++ P ++ (q :: Q) ++ C).toArray.setIfInBounds n v = (A ++ (P ++ [v]) ++ Q ++ C).toArray := by
  subst hn
  rw [List.setIfInBounds_toArray]
  congr 1
  rw [List.append_assoc, List.set_append_right _ _ (by simp), List.length_append, Nat.sub_self]
  simp
/-- Bytes as values. -/
def byV (l : List Nat) : List Value := l.map fun x => Value.int .u8 (x : Nat)
theorem below_rowH {B g : Nat} {w0 w : World} (h : Below B w0 w) (hg : B ≤ g) (cs : Array Value) : Below B w0 (w.setRow g cs) :=
  h.trans ⟨rfl, rfl, rfl, by simp [World.setRow], fun k hk => setRow_other _ _ _ _ (by omega)⟩
theorem Row.lt {w : World} {g : Nat} {t : TypeId} {l : List Value} (h : Row w g t l) : g < w.heap.size := lt_of_block h
theorem Row.cell {w : World} {g : Nat} {t : TypeId} {l : List Value} (h : Row w g t l) (i : Nat) : w.cell? ⟨g, i, none⟩ = l[i]? := (cell_of_row _ _ _ _ _ _ h).trans (by simp)
theorem Row.frozen {w : World} {g : Nat} {t : TypeId} {l : List Value} (h : Row w g t l) (i : Nat) : w.frozen? ⟨g, i, none⟩ = false := by simp [World.frozen?, show w.heap[g]? = _ from h]
theorem Row.below {w w' : World} {g : Nat} {t : TypeId} {l : List Value} (h : Row w g t l) {B : Nat} (hb : Below B w w') (hg : g < B) : Row w' g t l := (hb.block _ hg).trans h
theorem Row.only {w w' : World} {g b : Nat} {t : TypeId} {l : List Value} (h : Row w g t l) (ho : Only b w w') (hg : g ≠ b) : Row w' g t l := (ho.2 _ h.lt hg).trans h
theorem Row.set {w : World} {g n : Nat} {t : TypeId} {A C : List Value} {q : Value} (h : Row w g t (A ++ [q] ++ C)) (v : Value) (hn : n = A.length) : Row (w.setCell ⟨g, n, none⟩ v) g t (A ++ [v] ++ C) := by
  have h1 := heap_setCell_same w g n _ t v h
  have h2 := set_mid A [] [] C v q n (by simpa using hn)
  simp only [List.append_nil, List.nil_append] at h2
  rw [h2] at h1
  exact h1
theorem Row.setCells {g : Nat} {t : TypeId} {C : List Value} : ∀ (vs B A : List Value) (w : World) (n : Nat), vs.length = B.length → n = A.length → Row w g t (A ++ B ++ C) → Row (w.setCells g n vs) g t (A ++ vs ++ C)
  | [], [], A, w, n, _, _, h => h
  | v :: vs, q :: B, A, w, n, hl, hn, h => by
    have h1 : Row w g t (A ++ [q] ++ (B ++ C)) := by simpa using h
    have h2 := h1.set v hn
    have h3 : Row (w.setCell ⟨g, n, none⟩ v) g t ((A ++ [v]) ++ B ++ C) := by simpa using h2
    have h4 := Row.setCells vs B (A ++ [v]) _ (n + 1) (by simpa using hl) (by simp [hn]) h3
    show Row ((w.setCell ⟨g, n, none⟩ v).setCells g (n + 1) vs) g t (A ++ (v :: vs) ++ C)
    rw [show A ++ (v :: vs) ++ C = (A ++ [v]) ++ vs ++ C by simp]
    exact h4
  | v :: vs, [], A, w, n, hl, _, _ => by simp at hl
  | [], q :: B, A, w, n, hl, _, _ => by simp at hl
theorem Only.setCells {b : Nat} {w : World} : ∀ (vs : List Value) (n : Nat) (w' : World), Only b w w' → Only b w (w'.setCells b n vs)
  | [], _, _, h => h
  | v :: vs, n, _, h => Only.setCells vs (n + 1) _ (h.setCell n v)
/-- copy of a text that is longer than there is room. -/
theorem run_copy_part {P : Program} (w : World) (dT sT ty elem : TypeId) (b o dLen dCap : Nat) (t : ByteArray)
    (hu : P.underlying dT = some (.slice elem)) (hz : ∀ w, (Go.sizeOf elem).run P w = .ok 1 w) (hle : dLen ≤ t.size)
    (hc : ∀ j, j < dLen → (w.cell? ⟨b, o + j, none⟩).isSome = true) (hf : ∀ j, j < dLen → w.frozen? ⟨b, o + j, none⟩ = false) :
    (Builtin.copy_ #[dT, sT] ty #[.slice (some ⟨b, o, none⟩) dLen dCap, .string t]).run P w = .ok (goInt dLen) (w.setCells b o ((t.data.toList.take dLen).map fun x => Value.int .u8 (x.toNat : Int))) := by
  have hmin : Nat.min t.size dLen = dLen := Nat.min_eq_right hle
  have hl : ((t.data.toList.take dLen).map fun x => Value.int .u8 (x.toNat : Int)).length = dLen := by
    rw [List.length_map, List.length_take, ← Lib.size_eq]; omega
  have hst := run_storeCells_cells (P := P) b o ((t.data.toList.take dLen).map fun x => Value.int .u8 (x.toNat : Int)) 0 w (by rw [hl]; simpa using hc) (by rw [hl]; simpa using hf) (by
    intro v hv
    obtain ⟨x, _, rfl⟩ := List.mem_map.1 hv
    rfl)
  simp [Builtin.copy_, run_underlying hu, Builtin.lenOf, Builtin.firstCells, hz, hmin]
  rw [← List.map_take, hst]
  rfl
theorem byV_append (a b : List Nat) : byV (a ++ b) = byV a ++ byV b := by simp [byV]
theorem byV_zeros (n : Nat) : byV (List.replicate n 0) = List.replicate n (Value.int .u8 0) := by simp [byV]
theorem byV_get (b : List Nat) (i : Nat) (h : i < b.length) : (byV b)[i]? = some (.int .u8 (b.getD i 0 : Nat)) := by
  rw [byV, List.getElem?_map, List.getElem?_eq_getElem h, getD_at _ _ h]
  rfl
theorem zero_u8 (w : World) : (zeroValue 5).run Tryz.prog w = .ok (.int .u8 0) w := (zero_of_info (n := 1) (by kernel_rfl)).1 w
/-- A text's bytes as numbers. -/
def numsOf (s : ByteArray) : List Nat := s.data.toList.map (·.toNat)
theorem numsOf_length (s : ByteArray) : (numsOf s).length = s.size := by simp [numsOf]
theorem numsOf_bytes (s : ByteArray) : Bytes (numsOf s) := fun x hx => by
  obtain ⟨y, _, rfl⟩ := List.mem_map.1 hx
  exact y.toNat_lt
def strSize : Value → Nat
  | .string t => t.size
  | _ => 0
theorem size_u8 (w : World) : (Go.sizeOf 5).run Tryz.prog w = .ok 1 w := by
  obtain ⟨i0, hi, hz0, hz1, hz2⟩ := info_parts (show (Tryz.prog.info? 5).map (fun i => (i.zero, i.size, i.bytes)) = some (some (.int .u8 0), 1, 1) by kernel_rfl)
  simp [Go.sizeOf, typeInfo, hi, hz1]
theorem numsOf_extract (s : ByteArray) (p q : Nat) : numsOf (s.extract p q) = ((numsOf s).drop p).take (q - p) := by
  rw [numsOf, Lib.extract_data, List.map_take, List.map_drop]
  rfl
theorem numsOf_append (s t : ByteArray) : numsOf (s ++ t) = numsOf s ++ numsOf t := by
  simp [numsOf]
theorem numsOf_str (l : List Nat) (h : Bytes l) : numsOf (strOfNums (l.map fun (x : Nat) => (x : Int))) = l := by
  unfold numsOf strOfNums
  rw [List.map_map, List.map_map]
  conv => rhs; rw [← List.map_id l]
  refine List.map_congr_left fun x hx => ?_
  have hx := h x hx
  simp
  omega
theorem wraps_i64 (n : Int) (h0 : 0 ≤ n) (h1 : n < 2 ^ 63) : IntKind.i64.wrap n = n := by rw [IntKind.wrap_i64]; omega
theorem i64_and_nat (a b : Nat) (ha : a < 9223372036854775808) (hb : b < 9223372036854775808) : bits .and .i64 (a : Int) (b : Int) = ((a &&& b : Nat) : Int) := (bits_nat .i64 63 (by decide) wraps_i64 a b ha hb).1
theorem i64_or_nat (a b : Nat) (ha : a < 9223372036854775808) (hb : b < 9223372036854775808) : bits .or .i64 (a : Int) (b : Int) = ((a ||| b : Nat) : Int) := (bits_nat .i64 63 (by decide) wraps_i64 a b ha hb).2
theorem i64_xor_nat (a b : Nat) (ha : a < 9223372036854775808) (hb : b < 9223372036854775808) : bits .xor .i64 (a : Int) (b : Int) = ((a ^^^ b : Nat) : Int) := by
  have hx : a ^^^ b < 2 ^ 63 := Nat.xor_lt_two_pow ha hb
  show IntKind.i64.wrap ((BitVec.ofInt 64 (a : Int) ^^^ BitVec.ofInt 64 (b : Int)).toNat : Int) = _
  rw [BitVec.toNat_xor, ofInt_u64 a (by omega), ofInt_u64 b (by omega)]
  exact wraps_i64 _ (Int.natCast_nonneg _) (by exact_mod_cast hx)
theorem info_u8 : (Tryz.prog.info? 5).map (fun i => (i.zero, i.size, i.bytes)) = some (some (.int .u8 0), 1, 1) := by kernel_rfl
theorem numsV (s : ByteArray) : (s.data.toList.map fun x => Value.int .u8 (x.toNat : Int)) = byV (numsOf s) := by simp [byV, numsOf]
def sliceLen : Value → Nat
  | .slice _ n _ => n
  | _ => 0
end Go.Proofs.YtoopaigpjefonaaGreatDoor.Bx

namespace Go.Proofs.YtoopaigpjefonaaGreatDoor.Bx
set_option maxRecDepth 20000

/-- A word turned to the left. -/
def rotl (x n : Nat) : Nat := (x * 2 ^ n ||| x / 2 ^ (32 - n)) % 4294967296
theorem rotl_lt (x n : Nat) : rotl x n < 4294967296 := Nat.mod_lt _ (by decide)
theorem rotl_or (x n : Nat) (hx : x < 4294967296) : x * 2 ^ n % 4294967296 ||| x / 2 ^ (32 - n) = rotl x n := by
  unfold rotl
  have p : (4294967296 : Nat) = 2 ^ 32 := rfl
  rw [p, Nat.or_mod_two_pow, Nat.mod_eq_of_lt (a := x / 2 ^ (32 - n)) (Nat.lt_of_le_of_lt (Nat.div_le_self _ _) hx)]

/-- A quarter of four words, step by step. -/
def qa (a b : Nat) : Nat := (a + b) % 4294967296
def qd (a b d : Nat) : Nat := rotl (d ^^^ qa a b) 16
def qc (a b c d : Nat) : Nat := (c + qd a b d) % 4294967296
def qb (a b c d : Nat) : Nat := rotl (b ^^^ qc a b c d) 12
def qA (a b c d : Nat) : Nat := (qa a b + qb a b c d) % 4294967296
def qD (a b c d : Nat) : Nat := rotl (qd a b d ^^^ qA a b c d) 8
def qC (a b c d : Nat) : Nat := (qc a b c d + qD a b c d) % 4294967296
def qB (a b c d : Nat) : Nat := rotl (qb a b c d ^^^ qC a b c d) 7
theorem qa_lt (a b : Nat) : qa a b < 4294967296 := Nat.mod_lt _ (by decide)
theorem qd_lt (a b d : Nat) : qd a b d < 4294967296 := rotl_lt _ _
theorem qc_lt (a b c d : Nat) : qc a b c d < 4294967296 := Nat.mod_lt _ (by decide)
theorem qb_lt (a b c d : Nat) : qb a b c d < 4294967296 := rotl_lt _ _
theorem qA_lt (a b c d : Nat) : qA a b c d < 4294967296 := Nat.mod_lt _ (by decide)
theorem qB_lt (a b c d : Nat) : qB a b c d < 4294967296 := rotl_lt _ _
theorem qC_lt (a b c d : Nat) : qC a b c d < 4294967296 := Nat.mod_lt _ (by decide)
theorem qD_lt (a b c d : Nat) : qD a b c d < 4294967296 := rotl_lt _ _

/-- The sixteen words. -/
structure S16 where
  (a0 a1 a2 a3 b0 b1 b2 b3 c0 c1 c2 c3 d0 d1 d2 d3 : Nat)
def S16.toL (s : S16) : List Nat := [s.a0, s.a1, s.a2, s.a3, s.b0, s.b1, s.b2, s.b3, s.c0, s.c1, s.c2, s.c3, s.d0, s.d1, s.d2, s.d3]
def S16.ok (s : S16) : Prop := ∀ x ∈ s.toL, x < 4294967296
theorem S16.toL_length (s : S16) : s.toL.length = 16 := rfl
theorem S16.ok_all {s : S16} (h : s.ok) : s.a0 < 4294967296 ∧ s.a1 < 4294967296 ∧ s.a2 < 4294967296 ∧ s.a3 < 4294967296 ∧ s.b0 < 4294967296 ∧ s.b1 < 4294967296 ∧ s.b2 < 4294967296 ∧ s.b3 < 4294967296 ∧ s.c0 < 4294967296 ∧ s.c1 < 4294967296 ∧ s.c2 < 4294967296 ∧ s.c3 < 4294967296 ∧ s.d0 < 4294967296 ∧ s.d1 < 4294967296 ∧ s.d2 < 4294967296 ∧ s.d3 < 4294967296 := by
  simpa [S16.ok, S16.toL] using h
/-- The columns' quarters, then the slants'. -/
def S16.cols (s : S16) : S16 :=
  ⟨qA s.a0 s.b0 s.c0 s.d0, qA s.a1 s.b1 s.c1 s.d1, qA s.a2 s.b2 s.c2 s.d2, qA s.a3 s.b3 s.c3 s.d3,
   qB s.a0 s.b0 s.c0 s.d0, qB s.a1 s.b1 s.c1 s.d1, qB s.a2 s.b2 s.c2 s.d2, qB s.a3 s.b3 s.c3 s.d3,
   qC s.a0 s.b0 s.c0 s.d0, qC s.a1 s.b1 s.c1 s.d1, qC s.a2 s.b2 s.c2 s.d2, qC s.a3 s.b3 s.c3 s.d3,
   qD s.a0 s.b0 s.c0 s.d0, qD s.a1 s.b1 s.c1 s.d1, qD s.a2 s.b2 s.c2 s.d2, qD s.a3 s.b3 s.c3 s.d3⟩
def S16.slants (s : S16) : S16 :=
  ⟨qA s.a0 s.b1 s.c2 s.d3, qA s.a1 s.b2 s.c3 s.d0, qA s.a2 s.b3 s.c0 s.d1, qA s.a3 s.b0 s.c1 s.d2,
   qB s.a3 s.b0 s.c1 s.d2, qB s.a0 s.b1 s.c2 s.d3, qB s.a1 s.b2 s.c3 s.d0, qB s.a2 s.b3 s.c0 s.d1,
   qC s.a2 s.b3 s.c0 s.d1, qC s.a3 s.b0 s.c1 s.d2, qC s.a0 s.b1 s.c2 s.d3, qC s.a1 s.b2 s.c3 s.d0,
   qD s.a1 s.b2 s.c3 s.d0, qD s.a2 s.b3 s.c0 s.d1, qD s.a3 s.b0 s.c1 s.d2, qD s.a0 s.b1 s.c2 s.d3⟩
def S16.rounds (s : S16) : Nat → S16
  | 0 => s
  | n + 1 => (S16.rounds s n).cols.slants
theorem S16.cols_ok (s : S16) : s.cols.ok := by
  intro x hx
  simp only [S16.toL, S16.cols, List.mem_cons, List.not_mem_nil, or_false] at hx
  rcases hx with rfl | rfl | rfl | rfl | rfl | rfl | rfl | rfl | rfl | rfl | rfl | rfl | rfl | rfl | rfl | rfl <;> simp only [qA_lt, qB_lt, qC_lt, qD_lt]
theorem S16.slants_ok (s : S16) : s.slants.ok := by
  intro x hx
  simp only [S16.toL, S16.slants, List.mem_cons, List.not_mem_nil, or_false] at hx
  rcases hx with rfl | rfl | rfl | rfl | rfl | rfl | rfl | rfl | rfl | rfl | rfl | rfl | rfl | rfl | rfl | rfl <;> simp only [qA_lt, qB_lt, qC_lt, qD_lt]
theorem S16.rounds_ok {s : S16} (h : s.ok) : ∀ n, (s.rounds n).ok
  | 0 => h
  | _ + 1 => S16.slants_ok _

/-- A word's four bytes, the lowest first; the word of four bytes. -/
def le4 (n : Nat) : List Nat := [n % 256, n / 256 % 256, n / 65536 % 256, n / 16777216 % 256]
def wordL (b : List Nat) (i : Nat) : Nat := b.getD i 0 + b.getD (i + 1) 0 * 256 + b.getD (i + 2) 0 * 65536 + b.getD (i + 3) 0 * 16777216
/-- A block's bytes. -/
def blkW (s : S16) (i : Nat) : Nat := ((s.rounds 10).toL.getD i 0 + s.toL.getD i 0) % 4294967296
def blkN (s : S16) : Nat → List Nat
  | 0 => []
  | n + 1 => blkN s n ++ le4 (blkW s n)
def blkL (s : S16) : List Nat := blkN s 16
theorem le4_length (n : Nat) : (le4 n).length = 4 := rfl
theorem blkN_length (s : S16) : ∀ n, (blkN s n).length = 4 * n
  | 0 => rfl
  | n + 1 => by rw [blkN, List.length_append, blkN_length s n, le4_length]; omega
theorem blkL_length (s : S16) : (blkL s).length = 64 := blkN_length s 16
/-- The state of block n. -/
def st16 (key nonce : List Nat) (n : Nat) : S16 :=
  ⟨0x61707865, 0x3320646e, 0x79622d32, 0x6b206574, wordL key 0, wordL key 4, wordL key 8, wordL key 12, wordL key 16, wordL key 20, wordL key 24, wordL key 28, n, wordL nonce 0, wordL nonce 4, wordL nonce 8⟩
/-- ChaCha20's block n. -/
def chaL (key nonce : List Nat) (n : Nat) : List Nat := blkL (st16 key nonce n)
theorem chaL_length (key nonce : List Nat) (n : Nat) : (chaL key nonce n).length = 64 := blkL_length _
/-- A text xor the blocks from one on. -/
def chaS (key nonce : List Nat) (at_ : Nat) (l : List Nat) : List Nat := (List.range l.length).map fun i => l.getD i 0 ^^^ (chaL key nonce (at_ + i / 64)).getD (i % 64) 0
theorem chaS_length (key nonce : List Nat) (at_ : Nat) (l : List Nat) : (chaS key nonce at_ l).length = l.length := by simp [chaS]
end Go.Proofs.YtoopaigpjefonaaGreatDoor.Bx

namespace Go.Proofs.YtoopaigpjefonaaGreatDoor.Bx
set_option maxRecDepth 20000
open Go.RowKit

theorem rot_turn (n : Nat) (h2 : n ≤ 31) : bits .and .u64 (n : Int) 31 = (n : Int) := by
  rw [show (31 : Int) = ((31 : Nat) : Int) from rfl, u64_and_nat _ _ (by omega) (by decide), nat_mask5, Nat.mod_eq_of_lt (by omega)]
theorem rot_bits (x n m : Nat) (hx : x < 4294967296) (hm : m = 32 - n) : bits .or .u32 ((x : Int) * 2 ^ n % 4294967296) ((x : Int) / 2 ^ m) = ((rotl x n : Nat) : Int) := by
  subst hm
  have e1 : (x : Int) * 2 ^ n % 4294967296 = ((x * 2 ^ n % 4294967296 : Nat) : Int) := by
    rw [Int.natCast_emod, Int.natCast_mul, Int.natCast_pow]; rfl
  have e2 : (x : Int) / 2 ^ (32 - n) = ((x / 2 ^ (32 - n) : Nat) : Int) := by
    rw [Int.natCast_ediv, Int.natCast_pow]; rfl
  rw [e1, e2, u32_or_nat _ _ (Nat.mod_lt _ (by decide)) (Nat.lt_of_le_of_lt (Nat.div_le_self _ _) hx), rotl_or x n hx]

set_option maxHeartbeats 1000000 in
theorem rot32_any (x n : Nat) (hx : x < 4294967296) (h1 : 1 ≤ n) (h2 : n ≤ 31) (w : World) :
    Calls Tryz.prog 193 #[.int .u32 x, .int .i64 n] w fun e w' => e = .returned (.int .u32 (rotl x n : Nat)) ∧ w' = w := by
  obtain ⟨m, hm⟩ : ∃ m, m = 32 - n := ⟨_, rfl⟩
  have ht := rot_turn n h2
  have hb := rot_bits x n m hx hm
  have v1 : IntKind.u64.wrap (n : Int) = n := by rw [IntKind.wrap_u64]; omega
  have v2 : IntKind.u64.wrap (32 - (n : Int)) = m := by rw [IntKind.wrap_u64]; omega
  have v3 : IntKind.u32.wrap ((x : Int) * 2 ^ n) = (x : Int) * 2 ^ n % 4294967296 := IntKind.wrap_u32 _
  have v4 : min m 32 = m := by omega
  clear hm
  go_enter Tryz.func193, Tryz.ntmps193
  go_wp2
  go_ret
  exact ⟨rfl, rfl⟩

theorem add_u32 (a b : Nat) : IntKind.u32.wrap ((a : Int) + b) = (((a + b) % 4294967296 : Nat) : Int) := by rw [IntKind.wrap_u32]; omega

set_option maxHeartbeats 1000000 in
theorem quarter_any (a b c d : Nat) (hb : b < 4294967296) (hd : d < 4294967296) (w : World) :
    Calls Tryz.prog 275 #[.int .u32 a, .int .u32 b, .int .u32 c, .int .u32 d] w fun e w' => e = .returned (.tuple #[.int .u32 (qA a b c d : Nat), .int .u32 (qB a b c d : Nat), .int .u32 (qC a b c d : Nat), .int .u32 (qD a b c d : Nat)]) ∧ w' = w := by
  obtain ⟨a1, ha1⟩ : ∃ a1, a1 = qa a b := ⟨_, rfl⟩
  have la1 : a1 < 4294967296 := by rw [ha1]; exact qa_lt _ _
  obtain ⟨d1, hd1⟩ : ∃ d1, d1 = qd a b d := ⟨_, rfl⟩
  have ld1 : d1 < 4294967296 := by rw [hd1]; exact qd_lt _ _ _
  obtain ⟨c1, hc1⟩ : ∃ c1, c1 = qc a b c d := ⟨_, rfl⟩
  have lc1 : c1 < 4294967296 := by rw [hc1]; exact qc_lt _ _ _ _
  obtain ⟨b1, hb1⟩ : ∃ b1, b1 = qb a b c d := ⟨_, rfl⟩
  have lb1 : b1 < 4294967296 := by rw [hb1]; exact qb_lt _ _ _ _
  obtain ⟨a2, ha2⟩ : ∃ a2, a2 = qA a b c d := ⟨_, rfl⟩
  have la2 : a2 < 4294967296 := by rw [ha2]; exact qA_lt _ _ _ _
  obtain ⟨d2, hd2⟩ : ∃ d2, d2 = qD a b c d := ⟨_, rfl⟩
  have ld2 : d2 < 4294967296 := by rw [hd2]; exact qD_lt _ _ _ _
  obtain ⟨c2, hc2⟩ : ∃ c2, c2 = qC a b c d := ⟨_, rfl⟩
  have lc2 : c2 < 4294967296 := by rw [hc2]; exact qC_lt _ _ _ _
  obtain ⟨b2, hb2⟩ : ∃ b2, b2 = qB a b c d := ⟨_, rfl⟩
  have lb2 : b2 < 4294967296 := by rw [hb2]; exact qB_lt _ _ _ _
  rw [← ha2, ← hb2, ← hc2, ← hd2]
  have va1 : IntKind.u32.wrap ((a : Int) + b) = a1 := by rw [add_u32, ha1]; rfl
  have vd1 : bits .xor .u32 (d : Int) (a1 : Int) = ((d ^^^ a1 : Nat) : Int) := u32_xor_nat _ _ hd la1
  have rd1 : ∀ w, Calls Tryz.prog 193 #[.int .u32 (d ^^^ a1 : Nat), .int .i64 16] w fun e w' => e = .returned (.int .u32 d1) ∧ w' = w := fun w => by
    rw [hd1, ha1]
    exact rot32_any _ 16 (xor_lt hd (qa_lt _ _)) (by decide) (by decide) w
  have vc1 : IntKind.u32.wrap ((c : Int) + d1) = c1 := by rw [add_u32, hc1, hd1]; rfl
  have vb1 : bits .xor .u32 (b : Int) (c1 : Int) = ((b ^^^ c1 : Nat) : Int) := u32_xor_nat _ _ hb lc1
  have rb1 : ∀ w, Calls Tryz.prog 193 #[.int .u32 (b ^^^ c1 : Nat), .int .i64 12] w fun e w' => e = .returned (.int .u32 b1) ∧ w' = w := fun w => by
    rw [hb1, hc1]
    exact rot32_any _ 12 (xor_lt hb (qc_lt _ _ _ _)) (by decide) (by decide) w
  have va2 : IntKind.u32.wrap ((a1 : Int) + b1) = a2 := by rw [add_u32, ha2, ha1, hb1]; rfl
  have vd2 : bits .xor .u32 (d1 : Int) (a2 : Int) = ((d1 ^^^ a2 : Nat) : Int) := u32_xor_nat _ _ ld1 la2
  have rd2 : ∀ w, Calls Tryz.prog 193 #[.int .u32 (d1 ^^^ a2 : Nat), .int .i64 8] w fun e w' => e = .returned (.int .u32 d2) ∧ w' = w := fun w => by
    rw [hd2, hd1, ha2]
    exact rot32_any _ 8 (xor_lt (qd_lt _ _ _) (qA_lt _ _ _ _)) (by decide) (by decide) w
  have vc2 : IntKind.u32.wrap ((c1 : Int) + d2) = c2 := by rw [add_u32, hc2, hc1, hd2]; rfl
  have vb2 : bits .xor .u32 (b1 : Int) (c2 : Int) = ((b1 ^^^ c2 : Nat) : Int) := u32_xor_nat _ _ lb1 lc2
  have rb2 : ∀ w, Calls Tryz.prog 193 #[.int .u32 (b1 ^^^ c2 : Nat), .int .i64 7] w fun e w' => e = .returned (.int .u32 b2) ∧ w' = w := fun w => by
    rw [hb2, hb1, hc2]
    exact rot32_any _ 7 (xor_lt (qb_lt _ _ _ _) (qC_lt _ _ _ _)) (by decide) (by decide) w
  generalize d ^^^ a1 = xd1 at *
  generalize b ^^^ c1 = xb1 at *
  generalize d1 ^^^ a2 = xd2 at *
  generalize b1 ^^^ c2 = xb2 at *
  clear ha1 hd1 hc1 hb1 ha2 hd2 hc2 hb2 la1 ld1 lc1 lb1 la2 ld2 lc2 lb2
  go_enter Tryz.func275, Tryz.ntmps275
  go_wp2_with fail
  refine (rd1 _).mono ?_
  rintro e w' ⟨rfl, rfl⟩
  clear rd1
  go_wp2_with fail
  refine (rb1 _).mono ?_
  rintro e w' ⟨rfl, rfl⟩
  clear rb1
  go_wp2_with fail
  refine (rd2 _).mono ?_
  rintro e w' ⟨rfl, rfl⟩
  clear rd2
  go_wp2_with fail
  refine (rb2 _).mono ?_
  rintro e w' ⟨rfl, rfl⟩
  clear rb2
  go_wp2
  exact bodyPost_ret (v := .tuple #[.int .u32 a2, .int .u32 b2, .int .u32 c2, .int .u32 d2]) (by simp [results, Tryz.results275]) rfl ⟨rfl, rfl⟩
end Go.Proofs.YtoopaigpjefonaaGreatDoor.Bx

namespace Go.Proofs.YtoopaigpjefonaaGreatDoor.Bx
set_option maxRecDepth 20000
open Go.RowKit

def rowF (n : Nat) (f : Nat → Value) : List Value := (List.range n).map f
theorem rowF_length (n : Nat) (f : Nat → Value) : (rowF n f).length = n := by simp [rowF]
theorem rowF_get (n : Nat) (f : Nat → Value) (i : Nat) (h : i < n) : (rowF n f)[i]? = some (f i) := by simp [rowF, h]
theorem rowF_congr {n : Nat} {f f' : Nat → Value} (h : ∀ k, k < n → f k = f' k) : rowF n f = rowF n f' :=
  List.map_congr_left fun k hk => h k (List.mem_range.1 hk)
theorem rowF_set (n : Nat) (f : Nat → Value) (i : Nat) (v : Value) : (rowF n f).set i v = rowF n fun k => if k = i then v else f k := by
  refine List.ext_getElem? fun k => ?_
  rw [List.getElem?_set]
  by_cases hk : k < n
  · rw [rowF_get _ _ _ hk, rowF_get _ _ _ hk, rowF_length]
    by_cases e : i = k
    · subst e; simp [hk]
    · simp [e, Ne.symm e]
  · rw [List.getElem?_eq_none (by rw [rowF_length]; omega), List.getElem?_eq_none (by rw [rowF_length]; omega), rowF_length]
    by_cases e : i = k
    · subst e; simp [hk]
    · simp [e]
theorem Row.setF {w : World} {g t n : Nat} {f : Nat → Value} (h : Row w g t (rowF n f)) (i : Nat) (v : Value) : Row (w.setCell ⟨g, i, none⟩ v) g t (rowF n fun k => if k = i then v else f k) := by
  have h1 := heap_setCell_same w g i _ t v h
  rw [List.setIfInBounds_toArray, rowF_set] at h1
  exact h1
theorem Row.cellF {w : World} {g t n : Nat} {f : Nat → Value} (h : Row w g t (rowF n f)) (i : Nat) (hi : i < n) : w.cell? ⟨g, i, none⟩ = some (f i) := by
  rw [h.cell, rowF_get _ _ _ hi]
theorem byV_rowF (l : List Nat) : byV l = rowF l.length fun k => .int .u8 (l.getD k 0 : Nat) := by
  refine List.ext_getElem? fun k => ?_
  by_cases hk : k < l.length
  · rw [byV_get _ _ hk, rowF_get _ _ _ hk]
  · rw [List.getElem?_eq_none (by simp [byV]; omega), List.getElem?_eq_none (by rw [rowF_length]; omega)]
theorem Row.congr {w : World} {g t : Nat} {l l' : List Value} (h : Row w g t l) (e : l = l') : Row w g t l' := e ▸ h
end Go.Proofs.YtoopaigpjefonaaGreatDoor.Bx

namespace Go.Proofs.YtoopaigpjefonaaGreatDoor.Bx
set_option maxRecDepth 20000
open Go.RowKit

/-- Words as values. -/
def wdV (l : List Nat) : List Value := l.map fun x => Value.int .u32 (x : Nat)
theorem wdV_get (l : List Nat) (i : Nat) (h : i < l.length) : (wdV l)[i]? = some (.int .u32 (l.getD i 0 : Nat)) := by
  rw [wdV, List.getElem?_map, List.getElem?_eq_getElem h, getD_at _ _ h]
  rfl
theorem quarter_let (a b c d : Nat) (hb : b < 4294967296) (hd : d < 4294967296) : ∃ a' b' c' d' : Nat, (a' = qA a b c d ∧ b' = qB a b c d ∧ c' = qC a b c d ∧ d' = qD a b c d) ∧ (a' < 4294967296 ∧ b' < 4294967296 ∧ c' < 4294967296 ∧ d' < 4294967296) ∧
    ∀ w, Calls Tryz.prog 275 #[.int .u32 a, .int .u32 b, .int .u32 c, .int .u32 d] w fun e w' => e = .returned (.tuple #[.int .u32 a', .int .u32 b', .int .u32 c', .int .u32 d']) ∧ w' = w :=
  ⟨_, _, _, _, ⟨rfl, rfl, rfl, rfl⟩, ⟨qA_lt _ _ _ _, qB_lt _ _ _ _, qC_lt _ _ _ _, qD_lt _ _ _ _⟩, fun w => quarter_any a b c d hb hd w⟩

set_option maxRecDepth 10000 in
set_option maxHeartbeats 4000000 in
theorem mixed_any (s : S16) (hs : s.ok) (g t : Nat) (w : World) (hr : Row w g t (wdV s.toL)) :
    Calls Tryz.prog 267 #[.pointer (some ⟨g, 0, none⟩)] w fun e w' => e = .returned (.agg (wdV (s.rounds 10).toL).toArray) ∧ Below w.heap.size w w' := by
  have hg := hr.lt
  have ea0 : w.cell? ⟨g, 0, none⟩ = some (.int .u32 (s.a0 : Nat)) := hr.cell 0
  have ea1 : w.cell? ⟨g, 1, none⟩ = some (.int .u32 (s.a1 : Nat)) := hr.cell 1
  have ea2 : w.cell? ⟨g, 2, none⟩ = some (.int .u32 (s.a2 : Nat)) := hr.cell 2
  have ea3 : w.cell? ⟨g, 3, none⟩ = some (.int .u32 (s.a3 : Nat)) := hr.cell 3
  have eb0 : w.cell? ⟨g, 4, none⟩ = some (.int .u32 (s.b0 : Nat)) := hr.cell 4
  have eb1 : w.cell? ⟨g, 5, none⟩ = some (.int .u32 (s.b1 : Nat)) := hr.cell 5
  have eb2 : w.cell? ⟨g, 6, none⟩ = some (.int .u32 (s.b2 : Nat)) := hr.cell 6
  have eb3 : w.cell? ⟨g, 7, none⟩ = some (.int .u32 (s.b3 : Nat)) := hr.cell 7
  have ec0 : w.cell? ⟨g, 8, none⟩ = some (.int .u32 (s.c0 : Nat)) := hr.cell 8
  have ec1 : w.cell? ⟨g, 9, none⟩ = some (.int .u32 (s.c1 : Nat)) := hr.cell 9
  have ec2 : w.cell? ⟨g, 10, none⟩ = some (.int .u32 (s.c2 : Nat)) := hr.cell 10
  have ec3 : w.cell? ⟨g, 11, none⟩ = some (.int .u32 (s.c3 : Nat)) := hr.cell 11
  have ed0 : w.cell? ⟨g, 12, none⟩ = some (.int .u32 (s.d0 : Nat)) := hr.cell 12
  have ed1 : w.cell? ⟨g, 13, none⟩ = some (.int .u32 (s.d1 : Nat)) := hr.cell 13
  have ed2 : w.cell? ⟨g, 14, none⟩ = some (.int .u32 (s.d2 : Nat)) := hr.cell 14
  have ed3 : w.cell? ⟨g, 15, none⟩ = some (.int .u32 (s.d3 : Nat)) := hr.cell 15
  clear hr
  have fa0 : ∀ o, (w.alloc o).cell? ⟨g, 0, none⟩ = some (.int .u32 (s.a0 : Nat)) := fun o => ((Below.refl _ _).alloc (Nat.le_refl _) _ |>.cell (p := ⟨g, 0, none⟩) hg).trans ea0
  have fa1 : ∀ o, (w.alloc o).cell? ⟨g, 1, none⟩ = some (.int .u32 (s.a1 : Nat)) := fun o => ((Below.refl _ _).alloc (Nat.le_refl _) _ |>.cell (p := ⟨g, 1, none⟩) hg).trans ea1
  have fa2 : ∀ o, (w.alloc o).cell? ⟨g, 2, none⟩ = some (.int .u32 (s.a2 : Nat)) := fun o => ((Below.refl _ _).alloc (Nat.le_refl _) _ |>.cell (p := ⟨g, 2, none⟩) hg).trans ea2
  have fa3 : ∀ o, (w.alloc o).cell? ⟨g, 3, none⟩ = some (.int .u32 (s.a3 : Nat)) := fun o => ((Below.refl _ _).alloc (Nat.le_refl _) _ |>.cell (p := ⟨g, 3, none⟩) hg).trans ea3
  have fb0 : ∀ o, (w.alloc o).cell? ⟨g, 4, none⟩ = some (.int .u32 (s.b0 : Nat)) := fun o => ((Below.refl _ _).alloc (Nat.le_refl _) _ |>.cell (p := ⟨g, 4, none⟩) hg).trans eb0
  have fb1 : ∀ o, (w.alloc o).cell? ⟨g, 5, none⟩ = some (.int .u32 (s.b1 : Nat)) := fun o => ((Below.refl _ _).alloc (Nat.le_refl _) _ |>.cell (p := ⟨g, 5, none⟩) hg).trans eb1
  have fb2 : ∀ o, (w.alloc o).cell? ⟨g, 6, none⟩ = some (.int .u32 (s.b2 : Nat)) := fun o => ((Below.refl _ _).alloc (Nat.le_refl _) _ |>.cell (p := ⟨g, 6, none⟩) hg).trans eb2
  have fb3 : ∀ o, (w.alloc o).cell? ⟨g, 7, none⟩ = some (.int .u32 (s.b3 : Nat)) := fun o => ((Below.refl _ _).alloc (Nat.le_refl _) _ |>.cell (p := ⟨g, 7, none⟩) hg).trans eb3
  have fc0 : ∀ o, (w.alloc o).cell? ⟨g, 8, none⟩ = some (.int .u32 (s.c0 : Nat)) := fun o => ((Below.refl _ _).alloc (Nat.le_refl _) _ |>.cell (p := ⟨g, 8, none⟩) hg).trans ec0
  have fc1 : ∀ o, (w.alloc o).cell? ⟨g, 9, none⟩ = some (.int .u32 (s.c1 : Nat)) := fun o => ((Below.refl _ _).alloc (Nat.le_refl _) _ |>.cell (p := ⟨g, 9, none⟩) hg).trans ec1
  have fc2 : ∀ o, (w.alloc o).cell? ⟨g, 10, none⟩ = some (.int .u32 (s.c2 : Nat)) := fun o => ((Below.refl _ _).alloc (Nat.le_refl _) _ |>.cell (p := ⟨g, 10, none⟩) hg).trans ec2
  have fc3 : ∀ o, (w.alloc o).cell? ⟨g, 11, none⟩ = some (.int .u32 (s.c3 : Nat)) := fun o => ((Below.refl _ _).alloc (Nat.le_refl _) _ |>.cell (p := ⟨g, 11, none⟩) hg).trans ec3
  have fd0 : ∀ o, (w.alloc o).cell? ⟨g, 12, none⟩ = some (.int .u32 (s.d0 : Nat)) := fun o => ((Below.refl _ _).alloc (Nat.le_refl _) _ |>.cell (p := ⟨g, 12, none⟩) hg).trans ed0
  have fd1 : ∀ o, (w.alloc o).cell? ⟨g, 13, none⟩ = some (.int .u32 (s.d1 : Nat)) := fun o => ((Below.refl _ _).alloc (Nat.le_refl _) _ |>.cell (p := ⟨g, 13, none⟩) hg).trans ed1
  have fd2 : ∀ o, (w.alloc o).cell? ⟨g, 14, none⟩ = some (.int .u32 (s.d2 : Nat)) := fun o => ((Below.refl _ _).alloc (Nat.le_refl _) _ |>.cell (p := ⟨g, 14, none⟩) hg).trans ed2
  have fd3 : ∀ o, (w.alloc o).cell? ⟨g, 15, none⟩ = some (.int .u32 (s.d3 : Nat)) := fun o => ((Below.refl _ _).alloc (Nat.le_refl _) _ |>.cell (p := ⟨g, 15, none⟩) hg).trans ed3
  clear ea0 ea1 ea2 ea3 eb0 eb1 eb2 eb3 ec0 ec1 ec2 ec3 ed0 ed1 ed2 ed3
  have HB : Hid (∀ o n1 n2 n3 n4, Below w.heap.size w (((((w.alloc o).drewN n1).drewN n2).drewN n3).drewN n4)) := fun o n1 n2 n3 n4 => (Below.refl _ _).alloc (Nat.le_refl _) o |>.trans ⟨rfl, rfl, rfl, Nat.le_refl _, fun _ _ => rfl⟩
  go_enter Tryz.func267, Tryz.ntmps267
  go_wp2_with fail
  go_quiet (fail)
  go_wp2_with fail
  go_quiet (fail)
  go_wp2_with fail
  go_quiet (fail)
  go_wp2_with fail
  go_quiet (fail)
  go_wp2_with fail
  clear fa0 fa1 fa2 fa3 fb0 fb1 fb2 fb3 fc0 fc1 fc2 fc3 fd0 fd1 fd2 fd3
  go_loopw [3, 4, 5, 6, 7, 8, 9, 10, 11, 12, 13, 14, 15, 16, 17, 18, 83] (fun va0 va1 va2 va3 vb0 vb1 vb2 vb3 vc0 vc1 vc2 vc3 vd0 vd1 vd2 vd3 i wr => ∃ a0 a1 a2 a3 b0 b1 b2 b3 c0 c1 c2 c3 d0 d1 d2 d3 j : Nat, j ≤ 10 ∧ S16.mk a0 a1 a2 a3 b0 b1 b2 b3 c0 c1 c2 c3 d0 d1 d2 d3 = s.rounds j ∧ (S16.mk a0 a1 a2 a3 b0 b1 b2 b3 c0 c1 c2 c3 d0 d1 d2 d3).ok ∧ Row wr w.heap.size 343 (wdV (List.replicate 16 0)) ∧ Below w.heap.size w wr ∧ i = .int .i64 j ∧ va0 = .int .u32 (a0 : Nat) ∧ va1 = .int .u32 (a1 : Nat) ∧ va2 = .int .u32 (a2 : Nat) ∧ va3 = .int .u32 (a3 : Nat) ∧ vb0 = .int .u32 (b0 : Nat) ∧ vb1 = .int .u32 (b1 : Nat) ∧ vb2 = .int .u32 (b2 : Nat) ∧ vb3 = .int .u32 (b3 : Nat) ∧ vc0 = .int .u32 (c0 : Nat) ∧ vc1 = .int .u32 (c1 : Nat) ∧ vc2 = .int .u32 (c2 : Nat) ∧ vc3 = .int .u32 (c3 : Nat) ∧ vd0 = .int .u32 (d0 : Nat) ∧ vd1 = .int .u32 (d1 : Nat) ∧ vd2 = .int .u32 (d2 : Nat) ∧ vd3 = .int .u32 (d3 : Nat)) (fun _ _ _ _ _ _ _ _ _ _ _ _ _ _ _ _ i _ => 10 - (intOf i).toNat)
  case atStart => exact ⟨s.a0, s.a1, s.a2, s.a3, s.b0, s.b1, s.b2, s.b3, s.c0, s.c1, s.c2, s.c3, s.d0, s.d1, s.d2, s.d3, 0, Nat.zero_le _, rfl, hs, heap_alloc_new w _, HB.out _ _ _ _ _, rfl, rfl, rfl, rfl, rfl, rfl, rfl, rfl, rfl, rfl, rfl, rfl, rfl, rfl, rfl, rfl, rfl⟩
  case round =>
    obtain ⟨a0, a1, a2, a3, b0, b1, b2, b3, c0, c1, c2, c3, d0, d1, d2, d3, j, hj, hT, hok, k0, hbw, rfl, rfl, rfl, rfl, rfl, rfl, rfl, rfl, rfl, rfl, rfl, rfl, rfl, rfl, rfl, rfl, rfl⟩ := hrel
    by_cases hlt : j < 10
    · obtain ⟨la0, la1, la2, la3, lb0, lb1, lb2, lb3, lc0, lc1, lc2, lc3, ld0, ld1, ld2, ld3⟩ := S16.ok_all hok
      obtain ⟨ua0, ub0, uc0, ud0, ⟨hua0, hub0, huc0, hud0⟩, ⟨lua0, lub0, luc0, lud0⟩, kq0⟩ := quarter_let a0 b0 c0 d0 lb0 ld0
      obtain ⟨ua1, ub1, uc1, ud1, ⟨hua1, hub1, huc1, hud1⟩, ⟨lua1, lub1, luc1, lud1⟩, kq1⟩ := quarter_let a1 b1 c1 d1 lb1 ld1
      obtain ⟨ua2, ub2, uc2, ud2, ⟨hua2, hub2, huc2, hud2⟩, ⟨lua2, lub2, luc2, lud2⟩, kq2⟩ := quarter_let a2 b2 c2 d2 lb2 ld2
      obtain ⟨ua3, ub3, uc3, ud3, ⟨hua3, hub3, huc3, hud3⟩, ⟨lua3, lub3, luc3, lud3⟩, kq3⟩ := quarter_let a3 b3 c3 d3 lb3 ld3
      obtain ⟨za0, zb1, zc2, zd3, ⟨hza0, hzb1, hzc2, hzd3⟩, ⟨_lza0, _lzb1, _lzc2, _lzd3⟩, kq4⟩ := quarter_let ua0 ub1 uc2 ud3 lub1 lud3
      obtain ⟨za1, zb2, zc3, zd0, ⟨hza1, hzb2, hzc3, hzd0⟩, ⟨_lza1, _lzb2, _lzc3, _lzd0⟩, kq5⟩ := quarter_let ua1 ub2 uc3 ud0 lub2 lud0
      obtain ⟨za2, zb3, zc0, zd1, ⟨hza2, hzb3, hzc0, hzd1⟩, ⟨_lza2, _lzb3, _lzc0, _lzd1⟩, kq6⟩ := quarter_let ua2 ub3 uc0 ud1 lub3 lud1
      obtain ⟨za3, zb0, zc1, zd2, ⟨hza3, hzb0, hzc1, hzd2⟩, ⟨_lza3, _lzb0, _lzc1, _lzd2⟩, kq7⟩ := quarter_let ua3 ub0 uc1 ud2 lub0 lud2
      have HN : Hid (S16.mk za0 za1 za2 za3 zb0 zb1 zb2 zb3 zc0 zc1 zc2 zc3 zd0 zd1 zd2 zd3 = s.rounds (j + 1)) := by
        show _ = (s.rounds j).cols.slants
        rw [← hT, hza0, hzb1, hzc2, hzd3, hza1, hzb2, hzc3, hzd0, hza2, hzb3, hzc0, hzd1, hza3, hzb0, hzc1, hzd2]
        rw [hua0, hub0, huc0, hud0, hua1, hub1, huc1, hud1, hua2, hub2, huc2, hud2, hua3, hub3, huc3, hud3]
        rfl
      have HO : Hid ((S16.mk za0 za1 za2 za3 zb0 zb1 zb2 zb3 zc0 zc1 zc2 zc3 zd0 zd1 zd2 zd3).ok) := by
        show (S16.mk za0 za1 za2 za3 zb0 zb1 zb2 zb3 zc0 zc1 zc2 zc3 zd0 zd1 zd2 zd3).ok
        rw [HN.out]
        exact S16.slants_ok _
      have HK : Hid (Row wr w.heap.size 343 (wdV (List.replicate 16 0)) ∧ Below w.heap.size w wr) := ⟨k0, hbw⟩
      clear k0 hbw hok hT hua0 hua1 hua2 hua3 hub0 hub1 hub2 hub3 huc0 huc1 huc2 huc3 hud0 hud1 hud2 hud3 hza0 hza1 hza2 hza3 hzb0 hzb1 hzb2 hzb3 hzc0 hzc1 hzc2 hzc3 hzd0 hzd1 hzd2 hzd3 la0 la1 la2 la3 lb0 lb1 lb2 lb3 lc0 lc1 lc2 lc3 ld0 ld1 ld2 ld3 lua0 lua1 lua2 lua3 lub0 lub1 lub2 lub3 luc0 luc1 luc2 luc3 lud0 lud1 lud2 lud3 _lza0 _lza1 _lza2 _lza3 _lzb0 _lzb1 _lzb2 _lzb3 _lzc0 _lzc1 _lzc2 _lzc3 _lzd0 _lzd1 _lzd2 _lzd3
      go_wp2_with fail
      refine (kq0 _).mono ?_
      rintro e w' ⟨rfl, rfl⟩
      clear kq0
      go_wp2_with fail
      refine (kq1 _).mono ?_
      rintro e w' ⟨rfl, rfl⟩
      clear kq1
      go_wp2_with fail
      refine (kq2 _).mono ?_
      rintro e w' ⟨rfl, rfl⟩
      clear kq2
      go_wp2_with fail
      refine (kq3 _).mono ?_
      rintro e w' ⟨rfl, rfl⟩
      clear kq3
      go_wp2_with fail
      refine (kq4 _).mono ?_
      rintro e w' ⟨rfl, rfl⟩
      clear kq4
      go_wp2_with fail
      refine (kq5 _).mono ?_
      rintro e w' ⟨rfl, rfl⟩
      clear kq5
      go_wp2_with fail
      refine (kq6 _).mono ?_
      rintro e w' ⟨rfl, rfl⟩
      clear kq6
      go_wp2_with fail
      refine (kq7 _).mono ?_
      rintro e w' ⟨rfl, rfl⟩
      clear kq7
      go_wp2
      go_roundw
      case rel => exact ⟨za0, za1, za2, za3, zb0, zb1, zb2, zb3, zc0, zc1, zc2, zc3, zd0, zd1, zd2, zd3, j + 1, by omega, HN.out, HO.out, HK.out.1, HK.out.2, by go_num, rfl, rfl, rfl, rfl, rfl, rfl, rfl, rfl, rfl, rfl, rfl, rfl, rfl, rfl, rfl, rfl⟩
      case measure => simp [intOf]; omega
    · obtain rfl : j = 10 := by omega
      have HT : Hid (wdV (s.rounds 10).toL = wdV (S16.mk a0 a1 a2 a3 b0 b1 b2 b3 c0 c1 c2 c3 d0 d1 d2 d3).toL) := by rw [Hid, ← hT]
      clear hT hok hs HB
      obtain ⟨ds, hds⟩ : ∃ ds : Array Value, ds = (wdV (S16.mk a0 a1 a2 a3 b0 b1 b2 b3 c0 c1 c2 c3 d0 d1 d2 d3).toL).toArray := ⟨_, rfl⟩
      have hds' : #[Value.int .u32 a0, Value.int .u32 a1, Value.int .u32 a2, Value.int .u32 a3, Value.int .u32 b0, Value.int .u32 b1, Value.int .u32 b2, Value.int .u32 b3, Value.int .u32 c0, Value.int .u32 c1, Value.int .u32 c2, Value.int .u32 c3, Value.int .u32 d0, Value.int .u32 d1, Value.int .u32 d2, Value.int .u32 d3] = ds := by rw [hds]; rfl
      have hsz : ds.size = 16 := by rw [hds]; rfl
      have hone : ds.all (·.oneCell') = true := by rw [hds]; simp [wdV, Value.oneCell']
      have k0' : wr.heap[w.heap.size]? = some (.cells (wdV (List.replicate 16 0)).toArray 343 (0, 0)) := k0
      have hs0 : (wdV (List.replicate 16 0)).toArray.size = ds.size := by rw [hsz]; rfl
      have hinfo : (Tryz.prog.info? 343).map (·.size) = some ds.size := by rw [hsz]; kernel_rfl
      have hba := below_rowH hbw (Nat.le_refl _) ds
      have hl0 := run_loadVar_row (P := Tryz.prog) (wr.setRow w.heap.size ds) w.heap.size 343 343 ds (0, 0) _ (setRow_heap _ _ _ _ _ _ k0') Tryz.underlying343 rfl hinfo
      have HDS : Hid (ds = (wdV (S16.mk a0 a1 a2 a3 b0 b1 b2 b3 c0 c1 c2 c3 d0 d1 d2 d3).toL).toArray) := hds
      clear hds k0 hbw
      go_wp2_with (refine wpList_store_row rfl 343 _ _ rfl w.heap.size ds rfl rfl 343 _ k0' hinfo hs0 hone ?_)
      exact bodyPost_ret (v := .agg ds) (by simp [results, Tryz.results267, asAddr, Act.put, hl0]) rfl ⟨by rw [HDS.out, HT.out], hba⟩
end Go.Proofs.YtoopaigpjefonaaGreatDoor.Bx

namespace Go.Proofs.YtoopaigpjefonaaGreatDoor.Bx
set_option maxRecDepth 20000
open Go.RowKit

theorem le4_get (W i : Nat) : (le4 W).getD i 0 = if i = 0 then W % 256 else if i = 1 then W / 256 % 256 else if i = 2 then W / 65536 % 256 else if i = 3 then W / 16777216 % 256 else 0 := by
  match i with
  | 0 => rfl
  | 1 => rfl
  | 2 => rfl
  | 3 => rfl
  | i + 4 => rw [if_neg (by omega), if_neg (by omega), if_neg (by omega), if_neg (by omega)]; rfl
theorem blk_step (s : S16) (j k : Nat) :
    (if k = 4 * j + 3 then blkW s j / 16777216 % 256 else if k = 4 * j + 2 then blkW s j / 65536 % 256 else if k = 4 * j + 1 then blkW s j / 256 % 256 else if k = 4 * j then blkW s j % 256 else (blkN s j).getD k 0) = (blkN s (j + 1)).getD k 0 := by
  have hl := blkN_length s j
  rw [blkN]
  by_cases h : k < 4 * j
  · rw [getD_left _ _ _ _ (by omega), if_neg (by omega), if_neg (by omega), if_neg (by omega), if_neg (by omega)]
  · rw [getD_right _ _ _ _ (by omega), hl, getD_beyond (blkN s j) _ (by omega), le4_get]
    by_cases h0 : k = 4 * j
    · rw [if_neg (by omega), if_neg (by omega), if_neg (by omega), if_pos h0, if_pos (by omega)]
    · by_cases h1 : k = 4 * j + 1
      · rw [if_neg (by omega), if_neg (by omega), if_pos h1, if_neg (by omega), if_pos (by omega)]
      · by_cases h2 : k = 4 * j + 2
        · rw [if_neg (by omega), if_pos h2, if_neg (by omega), if_neg (by omega), if_pos (by omega)]
        · by_cases h3 : k = 4 * j + 3
          · rw [if_pos h3, if_neg (by omega), if_neg (by omega), if_neg (by omega), if_pos (by omega)]
          · rw [if_neg h3, if_neg h2, if_neg h1, if_neg h0, if_neg (by omega), if_neg (by omega), if_neg (by omega), if_neg (by omega)]
/-- A row of 64 bytes, of which the first ones are told. -/
def blkF (l : List Nat) (k : Nat) : Value := .int .u8 (l.getD k 0 : Nat)
theorem le4_bytes (n : Nat) : Bytes (le4 n) := by
  intro x hx
  simp only [le4, List.mem_cons, List.not_mem_nil, or_false] at hx
  omega
theorem blkN_bytes (s : S16) : ∀ n, Bytes (blkN s n)
  | 0 => fun x hx => by simp [blkN] at hx
  | n + 1 => (blkN_bytes s n).append (le4_bytes _)
theorem blkL_bytes (s : S16) : Bytes (blkL s) := blkN_bytes s 16
theorem blkF_all (s : S16) : rowF 64 (blkF (blkN s 16)) = byV (blkL s) := by
  rw [byV_rowF, blkL_length]
  rfl
theorem toL_get (s : S16) (i : Nat) (h : i < 16) : (wdV s.toL)[i]? = some (.int .u32 (s.toL.getD i 0 : Nat)) := wdV_get _ _ (by rw [S16.toL_length]; exact h)
theorem index_state (cs : Array Value) (j : Nat) (v : Value) (hj : j < 16) (hv : cs[j]? = some v) (w : World) : (Instr.index 343 (.agg cs) (.int .i64 j)).run Tryz.prog w = .ok v w := by
  simp [Instr.index, run_underlying Tryz.underlying343, asIntOf, hj, hv, go_sem]
theorem blkW_add (s : S16) (i : Nat) : IntKind.u32.wrap (((s.rounds 10).toL.getD i 0 : Nat) + (s.toL.getD i 0 : Nat)) = (blkW s i : Nat) := by
  rw [add_u32]; rfl
theorem blkW_lt (s : S16) (i : Nat) : blkW s i < 4294967296 := Nat.mod_lt _ (by decide)
/-- A state with another number of a block. -/
def S16.at (s : S16) (n : Nat) : S16 := ⟨s.a0, s.a1, s.a2, s.a3, s.b0, s.b1, s.b2, s.b3, s.c0, s.c1, s.c2, s.c3, n, s.d1, s.d2, s.d3⟩
theorem S16.at_ok {s : S16} (h : s.ok) {n : Nat} (hn : n < 4294967296) : (s.at n).ok := by
  obtain ⟨h1, h2, h3, h4, h5, h6, h7, h8, h9, h10, h11, h12, _, h14, h15, h16⟩ := S16.ok_all h
  simp [S16.ok, S16.toL, S16.at, *]
theorem Row.at12 {w : World} {g t : Nat} {s : S16} (h : Row w g t (wdV s.toL)) (n : Nat) : Row (w.setCell ⟨g, 12, none⟩ (.int .u32 n)) g t (wdV (s.at n).toL) :=
  Row.set (A := wdV [s.a0, s.a1, s.a2, s.a3, s.b0, s.b1, s.b2, s.b3, s.c0, s.c1, s.c2, s.c3]) (q := .int .u32 s.d0) (C := wdV [s.d1, s.d2, s.d3]) h _ rfl

set_option maxRecDepth 10000 in
set_option maxHeartbeats 2000000 in
theorem block_any (s : S16) (hs : s.ok) (n : Nat) (hn : n < 4294967296) (g : Nat) (w : World) (hr : Row w g 343 (wdV s.toL)) :
    Calls Tryz.prog 260 #[.pointer (some ⟨g, 0, none⟩), .int .u32 n] w fun e w' => e = .returned (.agg (byV (blkL (s.at n))).toArray) ∧ Below w.heap.size w w' := by
  have hg := hr.lt
  obtain ⟨cs, hcs⟩ : ∃ cs, cs = (wdV s.toL).toArray := ⟨_, rfl⟩
  have hsz : cs.size = 16 := by rw [hcs]; rfl
  have hone : cs.all (·.oneCell') = true := by rw [hcs]; simp [wdV, Value.oneCell']
  have hinfo : (Tryz.prog.info? 343).map (·.size) = some cs.size := by rw [hsz]; kernel_rfl
  have hg0 : ∀ o, (w.alloc o).heap[g]? = some (.cells cs 343 (0, 0)) := fun o => by rw [hcs]; exact (Below.heap_alloc w o g hg).trans hr
  have HCS : Hid (cs = (wdV s.toL).toArray) := hcs
  clear hcs hr
  obtain ⟨w0, hw0⟩ : ∃ w0, ((w.alloc (.cells #[.int .u8 0, .int .u8 0, .int .u8 0, .int .u8 0, .int .u8 0, .int .u8 0, .int .u8 0, .int .u8 0, .int .u8 0, .int .u8 0, .int .u8 0, .int .u8 0, .int .u8 0, .int .u8 0, .int .u8 0, .int .u8 0, .int .u8 0, .int .u8 0, .int .u8 0, .int .u8 0, .int .u8 0, .int .u8 0, .int .u8 0, .int .u8 0, .int .u8 0, .int .u8 0, .int .u8 0, .int .u8 0, .int .u8 0, .int .u8 0, .int .u8 0, .int .u8 0, .int .u8 0, .int .u8 0, .int .u8 0, .int .u8 0, .int .u8 0, .int .u8 0, .int .u8 0, .int .u8 0, .int .u8 0, .int .u8 0, .int .u8 0, .int .u8 0, .int .u8 0, .int .u8 0, .int .u8 0, .int .u8 0, .int .u8 0, .int .u8 0, .int .u8 0, .int .u8 0, .int .u8 0, .int .u8 0, .int .u8 0, .int .u8 0, .int .u8 0, .int .u8 0, .int .u8 0, .int .u8 0, .int .u8 0, .int .u8 0, .int .u8 0, .int .u8 0] 163)).alloc (.cells #[.int .u32 0, .int .u32 0, .int .u32 0, .int .u32 0, .int .u32 0, .int .u32 0, .int .u32 0, .int .u32 0, .int .u32 0, .int .u32 0, .int .u32 0, .int .u32 0, .int .u32 0, .int .u32 0, .int .u32 0, .int .u32 0] 343)).setRow (w.heap.size + 1) cs = w0 := ⟨_, rfl⟩
  have hk1 := heap_alloc2_new w (.cells #[.int .u8 0, .int .u8 0, .int .u8 0, .int .u8 0, .int .u8 0, .int .u8 0, .int .u8 0, .int .u8 0, .int .u8 0, .int .u8 0, .int .u8 0, .int .u8 0, .int .u8 0, .int .u8 0, .int .u8 0, .int .u8 0, .int .u8 0, .int .u8 0, .int .u8 0, .int .u8 0, .int .u8 0, .int .u8 0, .int .u8 0, .int .u8 0, .int .u8 0, .int .u8 0, .int .u8 0, .int .u8 0, .int .u8 0, .int .u8 0, .int .u8 0, .int .u8 0, .int .u8 0, .int .u8 0, .int .u8 0, .int .u8 0, .int .u8 0, .int .u8 0, .int .u8 0, .int .u8 0, .int .u8 0, .int .u8 0, .int .u8 0, .int .u8 0, .int .u8 0, .int .u8 0, .int .u8 0, .int .u8 0, .int .u8 0, .int .u8 0, .int .u8 0, .int .u8 0, .int .u8 0, .int .u8 0, .int .u8 0, .int .u8 0, .int .u8 0, .int .u8 0, .int .u8 0, .int .u8 0, .int .u8 0, .int .u8 0, .int .u8 0, .int .u8 0] 163) (.cells #[.int .u32 0, .int .u32 0, .int .u32 0, .int .u32 0, .int .u32 0, .int .u32 0, .int .u32 0, .int .u32 0, .int .u32 0, .int .u32 0, .int .u32 0, .int .u32 0, .int .u32 0, .int .u32 0, .int .u32 0, .int .u32 0] 343)
  have a1 : Row w0 (w.heap.size + 1) 343 (wdV s.toL) := by rw [← hw0]; have := setRow_heap _ (w.heap.size + 1) _ cs _ _ hk1; rw [HCS.out] at this ⊢; exact this
  have a0 : Row w0 w.heap.size 163 (byV (List.replicate 64 0)) := by rw [← hw0]; exact (setRow_other _ _ _ _ (by omega)).trans (heap_alloc2_old w _ _)
  have ab : Below w.heap.size w w0 := by rw [← hw0]; exact below_rowH (((Below.refl _ _).alloc (Nat.le_refl _) _).alloc (by simp) _) (by omega) cs
  have c12 : w0.cell? ⟨w.heap.size + 1, 12, none⟩ = some (.int .u32 s.d0) := a1.cell 12
  have f12 : w0.frozen? ⟨w.heap.size + 1, 12, none⟩ = false := a1.frozen 12
  have b1 := a1.at12 n
  have b0 : Row (w0.setCell ⟨w.heap.size + 1, 12, none⟩ (.int .u32 n)) w.heap.size 163 (byV (List.replicate 64 0)) := (Below.heap_setCell _ _ _ _ (by simp)).trans a0
  have bb := ab.setCell (p := ⟨w.heap.size + 1, 12, none⟩) (by simp) (.int .u32 n)
  obtain ⟨w1, hw1⟩ : ∃ w1, w0.setCell ⟨w.heap.size + 1, 12, none⟩ (.int .u32 n) = w1 := ⟨_, rfl⟩
  rw [hw1] at b1 b0 bb
  clear a1 a0 ab hk1
  have HM := mixed_any (s.at n) (S16.at_ok hs hn) (w.heap.size + 1) 343 w1 b1
  have hnW := fun i => blkW_add (s.at n) i
  have hlW := fun i => blkW_lt (s.at n) i
  have hstep := fun j k => blk_step (s.at n) j k
  have hall := blkF_all (s.at n)
  have hlen := fun j => blkN_length (s.at n) j
  have hsz2 : (wdV ((s.at n).rounds 10).toL).toArray.size = 16 := rfl
  have hone2 : (wdV ((s.at n).rounds 10).toL).toArray.all (·.oneCell') = true := by simp [wdV, Value.oneCell']
  have hget2 : ∀ i, i < 16 → (wdV ((s.at n).rounds 10).toL).toArray[i]? = some (.int .u32 (((s.at n).rounds 10).toL.getD i 0 : Nat)) := fun i hi => by rw [List.getElem?_toArray]; exact toL_get _ i hi
  have hget1 : ∀ i, i < 16 → (wdV (s.at n).toL)[i]? = some (.int .u32 ((s.at n).toL.getD i 0 : Nat)) := fun i hi => toL_get _ i hi
  obtain ⟨ms, hms⟩ : ∃ ms, ms = (wdV ((s.at n).rounds 10).toL).toArray := ⟨_, rfl⟩
  rw [← hms] at HM hsz2 hone2 hget2
  clear hms
  have hinfo2 : (Tryz.prog.info? 343).map (·.size) = some ms.size := by rw [hsz2]; kernel_rfl
  generalize (s.at n).rounds 10 = T at *
  have HH : Hid (Row w1 (w.heap.size + 1) 343 (wdV (s.at n).toL) ∧ Row w1 w.heap.size 163 (byV (List.replicate 64 0)) ∧ Below w.heap.size w w1) := ⟨b1, b0, bb⟩
  clear b1 b0 bb
  generalize s.at n = S at *
  go_enter Tryz.func260, Tryz.ntmps260
  go_wp2_with (first | refine wpList_load_row rfl 343 _ rfl g rfl 343 _ (0, 0) _ (hg0 _) Tryz.underlying343 rfl hinfo ?_ | refine wpList_store_row rfl 343 _ _ rfl (w.heap.size + 1) cs rfl rfl 343 _ (heap_alloc2_new w _ _) hinfo (by rw [hsz]; rfl) hone ?_)
  refine HM.mono ?_
  rintro e w2 ⟨rfl, hb2⟩
  have k1 := HH.out.1.below hb2 HH.out.1.lt
  have k0 := HH.out.2.1.below hb2 HH.out.2.1.lt
  have hbw := HH.out.2.2.trans (hb2.mono HH.out.2.2.size)
  have hlt2 : w.heap.size + 1 < w2.heap.size := k1.lt
  clear HM hb2 HH hw0 hw1 hg0 c12 f12 hinfo hone hsz
  obtain ⟨w3, hw3⟩ : ∃ w3, ((w2.alloc (.cells #[.int .u32 0, .int .u32 0, .int .u32 0, .int .u32 0, .int .u32 0, .int .u32 0, .int .u32 0, .int .u32 0, .int .u32 0, .int .u32 0, .int .u32 0, .int .u32 0, .int .u32 0, .int .u32 0, .int .u32 0, .int .u32 0] 343)).setRow w2.heap.size ms).alloc (.cells #[.int .u8 0, .int .u8 0, .int .u8 0, .int .u8 0, .int .u8 0, .int .u8 0, .int .u8 0, .int .u8 0, .int .u8 0, .int .u8 0, .int .u8 0, .int .u8 0, .int .u8 0, .int .u8 0, .int .u8 0, .int .u8 0, .int .u8 0, .int .u8 0, .int .u8 0, .int .u8 0, .int .u8 0, .int .u8 0, .int .u8 0, .int .u8 0, .int .u8 0, .int .u8 0, .int .u8 0, .int .u8 0, .int .u8 0, .int .u8 0, .int .u8 0, .int .u8 0, .int .u8 0, .int .u8 0, .int .u8 0, .int .u8 0, .int .u8 0, .int .u8 0, .int .u8 0, .int .u8 0, .int .u8 0, .int .u8 0, .int .u8 0, .int .u8 0, .int .u8 0, .int .u8 0, .int .u8 0, .int .u8 0, .int .u8 0, .int .u8 0, .int .u8 0, .int .u8 0, .int .u8 0, .int .u8 0, .int .u8 0, .int .u8 0, .int .u8 0, .int .u8 0, .int .u8 0, .int .u8 0, .int .u8 0, .int .u8 0, .int .u8 0, .int .u8 0] 163) = w3 := ⟨_, rfl⟩
  have hw3' : (w2.alloc (.cells ms 343)).alloc (.cells #[.int .u8 0, .int .u8 0, .int .u8 0, .int .u8 0, .int .u8 0, .int .u8 0, .int .u8 0, .int .u8 0, .int .u8 0, .int .u8 0, .int .u8 0, .int .u8 0, .int .u8 0, .int .u8 0, .int .u8 0, .int .u8 0, .int .u8 0, .int .u8 0, .int .u8 0, .int .u8 0, .int .u8 0, .int .u8 0, .int .u8 0, .int .u8 0, .int .u8 0, .int .u8 0, .int .u8 0, .int .u8 0, .int .u8 0, .int .u8 0, .int .u8 0, .int .u8 0, .int .u8 0, .int .u8 0, .int .u8 0, .int .u8 0, .int .u8 0, .int .u8 0, .int .u8 0, .int .u8 0, .int .u8 0, .int .u8 0, .int .u8 0, .int .u8 0, .int .u8 0, .int .u8 0, .int .u8 0, .int .u8 0, .int .u8 0, .int .u8 0, .int .u8 0, .int .u8 0, .int .u8 0, .int .u8 0, .int .u8 0, .int .u8 0, .int .u8 0, .int .u8 0, .int .u8 0, .int .u8 0, .int .u8 0, .int .u8 0, .int .u8 0, .int .u8 0] 163) = w3 := by rw [← hw3, World.setRow_alloc_new]
  have m3 : w3.heap[w2.heap.size]? = some (.cells ms 343 (0, 0)) := by rw [← hw3']; exact heap_alloc2_old w2 _ _
  have n3 : Row w3 (w2.heap.size + 1) 163 (rowF 64 (blkF (blkN S 0))) := by rw [← hw3']; exact heap_alloc2_new w2 _ _
  have b3 : Below w2.heap.size w2 w3 := by rw [← hw3']; exact ((Below.refl _ _).alloc (Nat.le_refl _) _).alloc (by simp) _
  have k1' := k1.below b3 k1.lt
  have k0' := k0.below b3 k0.lt
  have hbw' := hbw.trans (b3.mono hbw.size)
  have HL : Hid (Row w3 (w2.heap.size + 1) 163 (rowF 64 (blkF (blkN S 0))) ∧ Row w3 (w.heap.size + 1) 343 (wdV S.toL) ∧ Row w3 w.heap.size 163 (byV (List.replicate 64 0)) ∧ Below w.heap.size w w3) := ⟨n3, k1', k0', hbw'⟩
  clear k1 k0 hbw k1' k0' hbw' n3 b3 hw3'
  go_wp2_with (first | refine wpList_store_row rfl 343 _ _ rfl w2.heap.size ms rfl rfl 343 _ (heap_alloc_new w2 _) hinfo2 (by rw [hsz2]; rfl) hone2 ?_ | refine wpList_load_row rfl 343 _ rfl w2.heap.size rfl 343 _ (0, 0) _ m3 Tryz.underlying343 rfl hinfo2 ?_)
  clear hw3 m3 hinfo2 hone2 hsz2
  go_loopw [17] (fun i wr => ∃ j : Nat, j ≤ 16 ∧ i = .int .i64 j ∧ Row wr (w2.heap.size + 1) 163 (rowF 64 (blkF (blkN S j))) ∧ Row wr (w.heap.size + 1) 343 (wdV S.toL) ∧ Row wr w.heap.size 163 (byV (List.replicate 64 0)) ∧ Below w.heap.size w wr) (fun i _ => 16 - (intOf i).toNat)
  case atStart => exact ⟨0, Nat.zero_le _, rfl, HL.out⟩
  case round =>
    clear HL
    obtain ⟨j, hj, rfl, k2, k1, k0, hbw⟩ := hrel
    by_cases hlt : j < 16
    · have hix := fun w => index_state ms j _ hlt (hget2 j hlt) w
      have c1 : wr.cell? ⟨w.heap.size + 1, j, none⟩ = some (.int .u32 (S.toL.getD j 0 : Nat)) := by rw [k1.cell, hget1 j hlt]
      have v1 := hnW j
      have lW := hlW j
      have hst := fun k => hstep j k
      have d0 := k2.cellF (4 * j) (by omega)
      have d1 := k2.cellF (4 * j + 1) (by omega)
      have d2 := k2.cellF (4 * j + 2) (by omega)
      have d3 := k2.cellF (4 * j + 3) (by omega)
      have ff : ∀ i, wr.frozen? ⟨w2.heap.size + 1, i, none⟩ = false := fun i => k2.frozen i
      generalize blkW S j = W at *
      generalize T.toL.getD j 0 = x at *
      generalize S.toL.getD j 0 = y at *
      have k3 := (((k2.setF (4 * j) (.int .u8 ((W : Int) % 256))).setF (4 * j + 1) (.int .u8 ((W : Int) / 256 % 256))).setF (4 * j + 2) (.int .u8 ((W : Int) / 65536 % 256))).setF (4 * j + 3) (.int .u8 ((W : Int) / 16777216))
      have hrow : (rowF 64 fun k => if k = 4 * j + 3 then Value.int .u8 ((W : Int) / 16777216) else if k = 4 * j + 2 then Value.int .u8 ((W : Int) / 65536 % 256) else if k = 4 * j + 1 then Value.int .u8 ((W : Int) / 256 % 256) else if k = 4 * j then Value.int .u8 ((W : Int) % 256) else blkF (blkN S j) k) = rowF 64 (blkF (blkN S (j + 1))) := rowF_congr fun k _ => by
        show _ = Value.int .u8 ((blkN S (j + 1)).getD k 0 : Nat)
        rw [← hst k]
        by_cases h3 : k = 4 * j + 3
        · rw [if_pos h3, if_pos h3, Nat.mod_eq_of_lt (by omega)]; rfl
        · rw [if_neg h3, if_neg h3]
          by_cases h2 : k = 4 * j + 2
          · rw [if_pos h2, if_pos h2]; rfl
          · rw [if_neg h2, if_neg h2]
            by_cases h1 : k = 4 * j + 1
            · rw [if_pos h1, if_pos h1]; rfl
            · rw [if_neg h1, if_neg h1]
              by_cases h0 : k = 4 * j
              · rw [if_pos h0, if_pos h0]; rfl
              · rw [if_neg h0, if_neg h0]; rfl
      rw [hrow] at k3
      have ho : Only (w2.heap.size + 1) wr ((((wr.setCell ⟨w2.heap.size + 1, 4 * j, none⟩ (.int .u8 ((W : Int) % 256))).setCell ⟨w2.heap.size + 1, 4 * j + 1, none⟩ (.int .u8 ((W : Int) / 256 % 256))).setCell ⟨w2.heap.size + 1, 4 * j + 2, none⟩ (.int .u8 ((W : Int) / 65536 % 256))).setCell ⟨w2.heap.size + 1, 4 * j + 3, none⟩ (.int .u8 ((W : Int) / 16777216))) := ((((Only.refl _ _).setCell _ _).setCell _ _).setCell _ _).setCell _ _
      have k1' := k1.only ho (by omega)
      have k0' := k0.only ho (by omega)
      have hbw' := hbw.trans ((ho.below (Nat.le_of_lt k2.lt)).mono (by omega))
      have HR : Hid (Row ((((wr.setCell ⟨w2.heap.size + 1, 4 * j, none⟩ (.int .u8 ((W : Int) % 256))).setCell ⟨w2.heap.size + 1, 4 * j + 1, none⟩ (.int .u8 ((W : Int) / 256 % 256))).setCell ⟨w2.heap.size + 1, 4 * j + 2, none⟩ (.int .u8 ((W : Int) / 65536 % 256))).setCell ⟨w2.heap.size + 1, 4 * j + 3, none⟩ (.int .u8 ((W : Int) / 16777216))) (w2.heap.size + 1) 163 (rowF 64 (blkF (blkN S (j + 1)))) ∧ Row ((((wr.setCell ⟨w2.heap.size + 1, 4 * j, none⟩ (.int .u8 ((W : Int) % 256))).setCell ⟨w2.heap.size + 1, 4 * j + 1, none⟩ (.int .u8 ((W : Int) / 256 % 256))).setCell ⟨w2.heap.size + 1, 4 * j + 2, none⟩ (.int .u8 ((W : Int) / 65536 % 256))).setCell ⟨w2.heap.size + 1, 4 * j + 3, none⟩ (.int .u8 ((W : Int) / 16777216))) (w.heap.size + 1) 343 (wdV S.toL) ∧ Row ((((wr.setCell ⟨w2.heap.size + 1, 4 * j, none⟩ (.int .u8 ((W : Int) % 256))).setCell ⟨w2.heap.size + 1, 4 * j + 1, none⟩ (.int .u8 ((W : Int) / 256 % 256))).setCell ⟨w2.heap.size + 1, 4 * j + 2, none⟩ (.int .u8 ((W : Int) / 65536 % 256))).setCell ⟨w2.heap.size + 1, 4 * j + 3, none⟩ (.int .u8 ((W : Int) / 16777216))) w.heap.size 163 (byV (List.replicate 64 0)) ∧ Below w.heap.size w ((((wr.setCell ⟨w2.heap.size + 1, 4 * j, none⟩ (.int .u8 ((W : Int) % 256))).setCell ⟨w2.heap.size + 1, 4 * j + 1, none⟩ (.int .u8 ((W : Int) / 256 % 256))).setCell ⟨w2.heap.size + 1, 4 * j + 2, none⟩ (.int .u8 ((W : Int) / 65536 % 256))).setCell ⟨w2.heap.size + 1, 4 * j + 3, none⟩ (.int .u8 ((W : Int) / 16777216)))) := ⟨k3, k1', k0', hbw'⟩
      clear hrow k3 ho k1' k0' hbw' k2 k1 k0 hbw hst hget1 hget2 hnW hlW hstep hall hlen
      have q0 : IntKind.i64.wrap (4 * (j : Int)) = 4 * j := by rw [IntKind.wrap_i64]; omega
      have q1 : IntKind.i64.wrap (4 * (j : Int) + 1) = 4 * j + 1 := by rw [IntKind.wrap_i64]; omega
      have q2 : IntKind.i64.wrap (4 * (j : Int) + 2) = 4 * j + 2 := by rw [IntKind.wrap_i64]; omega
      have q3 : IntKind.i64.wrap (4 * (j : Int) + 3) = 4 * j + 3 := by rw [IntKind.wrap_i64]; omega
      have t0 : (4 * (j : Int)).toNat = 4 * j := by omega
      have t1 : (4 * (j : Int) + 1).toNat = 4 * j + 1 := by omega
      have t2 : (4 * (j : Int) + 2).toNat = 4 * j + 2 := by omega
      have t3 : (4 * (j : Int) + 3).toNat = 4 * j + 3 := by omega
      have r0 : (0 : Int) ≤ 4 * (j : Int) := by omega
      have r1 : (0 : Int) ≤ 4 * (j : Int) + 1 := by omega
      have r2 : (0 : Int) ≤ 4 * (j : Int) + 2 := by omega
      have r3 : (0 : Int) ≤ 4 * (j : Int) + 3 := by omega
      have s0 : 4 * (j : Int) < 64 := by omega
      have s1 : 4 * (j : Int) + 1 < 64 := by omega
      have s2 : 4 * (j : Int) + 2 < 64 := by omega
      have s3 : 4 * (j : Int) + 3 < 64 := by omega
      have s4 : (j : Int) < 16 := by omega
      go_wp2_with fail
      go_roundw
      case rel => exact ⟨j + 1, by omega, by go_num, HR.out⟩
      case measure => simp [intOf]; omega
    · obtain rfl : j = 16 := by omega
      rw [hall] at k2
      obtain ⟨ds, hds⟩ : ∃ ds, ds = (byV (blkL S)).toArray := ⟨_, rfl⟩
      have hsz : ds.size = 64 := by rw [hds]; simp [byV, blkL_length]
      have hone : ds.all (·.oneCell') = true := by rw [hds]; simp [byV, Value.oneCell']
      have k1' : wr.heap[w2.heap.size + 1]? = some (.cells ds 163 (0, 0)) := by rw [hds]; exact k2
      have HDS : Hid (ds = (byV (blkL S)).toArray) := hds
      clear hds k2 k1 hget1 hget2 hnW hlW hstep hall hlen
      have k0' : wr.heap[w.heap.size]? = some (.cells (byV (List.replicate 64 0)).toArray 163 (0, 0)) := k0
      have hs0 : (byV (List.replicate 64 0)).toArray.size = ds.size := by rw [hsz]; rfl
      have hinfo : (Tryz.prog.info? 163).map (·.size) = some ds.size := by rw [hsz]; kernel_rfl
      have hba := below_rowH hbw (Nat.le_refl _) ds
      have hl0 := run_loadVar_row (P := Tryz.prog) (wr.setRow w.heap.size ds) w.heap.size 163 163 ds (0, 0) _ (setRow_heap _ _ _ _ _ _ k0') Tryz.underlying163 rfl hinfo
      go_wp2_with (first | refine wpList_load_row rfl 163 _ rfl (w2.heap.size + 1) rfl 163 _ (0, 0) _ k1' Tryz.underlying163 rfl hinfo ?_ | refine wpList_store_row rfl 163 _ _ rfl w.heap.size ds rfl rfl 163 _ k0' hinfo hs0 hone ?_)
      exact bodyPost_ret (v := .agg ds) (by simp [results, Tryz.results260, asAddr, Act.put, hl0]) rfl ⟨by rw [HDS.out], hba⟩
end Go.Proofs.YtoopaigpjefonaaGreatDoor.Bx
