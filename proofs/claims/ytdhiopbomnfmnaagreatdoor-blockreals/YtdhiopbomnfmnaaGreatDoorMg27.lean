/- Lists of numbers, bytes, blocks of cells, parts of a block written anew, bits of numbers: nothing of the program. · ChaCha20 as functions of numbers: quarters, rounds, blocks, a text xor blocks; nothing of the program. · math/bits.RotateLeft32; box.quarter. · Rows of cells told by a function of the place; one cell written anew; a row loaded and stored whole, and told as a result. -/
import Derived.Test.YtdhiopbomnfmnaaGreatDoorProg
import Derived.WalkKit
import Derived.Laws.BitsAllLaws
import Derived.Laws.BitsLemmas
import Derived.Laws.BytesArg
import Derived.Lib.LazyBuf
import Derived.Lib.SliceRun
import Derived.Deep.WholeRow
import Derived.Deep.RegionHeld3
import Derived.Deep.QuietTactic
import Derived.BigQuiet
namespace Go.Proofs.YtdhiopbomnfmnaaGreatDoor.Bx
set_option maxRecDepth 20000
open Go.RowKit
theorem getD_beyond (l : List Nat) (d : Nat) {i : Nat} (h : l.length ≤ i) : l.getD i d = d := by
  rw [List.getD_eq_getElem?_getD, List.getElem?_eq_none h]; rfl
theorem getD_at (l : List Nat) (d : Nat) {i : Nat} (h : i < l.length) : l.getD i d = l[i] := by
  rw [List.getD_eq_getElem?_getD, List.getElem?_eq_getElem h]; rfl
theorem getD_left (l m : List Nat) (d i : Nat) (h : i < l.length) : (l ++ m).getD i d = l.getD i d := by
  rw [List.getD_eq_getElem?_getD, List.getElem?_append_left h, List.getD_eq_getElem?_getD]
theorem getD_right (l m : List Nat) (d i : Nat) (h : l.length ≤ i) : (l ++ m).getD i d = m.getD (i - l.length) d := by
  rw [List.getD_eq_getElem?_getD, List.getElem?_append_right h, List.getD_eq_getElem?_getD]
theorem pow32 : (2 : Nat) ^ 32 = 4294967296 := rfl
theorem xor_lt {a b : Nat} (ha : a < 4294967296) (hb : b < 4294967296) : a ^^^ b < 4294967296 := Nat.xor_lt_two_pow (n := 32) ha hb
theorem and_lt {a b : Nat} (hb : b < 4294967296) : a &&& b < 4294967296 := Nat.and_lt_two_pow (n := 32) a hb
theorem or_lt {a b : Nat} (ha : a < 4294967296) (hb : b < 4294967296) : a ||| b < 4294967296 := Nat.or_lt_two_pow (n := 32) ha hb
/-- Numbers that are bytes; that are words. -/
def Bytes (b : List Nat) : Prop := ∀ x ∈ b, x < 256
theorem getD_lt {b : List Nat} {m : Nat} (hm : 0 < m) (h : ∀ x ∈ b, x < m) (i : Nat) : b.getD i 0 < m := by
  by_cases hi : i < b.length
  · rw [getD_at _ _ hi]; exact h _ (List.getElem_mem _)
  · rw [getD_beyond _ _ (by omega)]; exact hm
theorem Bytes.append {a b : List Nat} (ha : Bytes a) (hb : Bytes b) : Bytes (a ++ b) := fun x hx => by
  rcases List.mem_append.1 hx with h | h
  · exact ha x h
  · exact hb x h
theorem Bytes.cons {x : Nat} {b : List Nat} (hx : x < 256) (hb : Bytes b) : Bytes (x :: b) := fun y hy => by
  rcases List.mem_cons.1 hy with h | h
  · omega
  · exact hb y h
theorem Bytes.zeros (n : Nat) : Bytes (List.replicate n 0) := fun x hx => by
  have := (List.mem_replicate.1 hx).2
  omega
theorem Bytes.take {b : List Nat} (h : Bytes b) (n : Nat) : Bytes (b.take n) := fun x hx => h x (List.mem_of_mem_take hx)
theorem Bytes.drop {b : List Nat} (h : Bytes b) (n : Nat) : Bytes (b.drop n) := fun x hx => h x (List.mem_of_mem_drop hx)
/-- A block whose cells are these. -/
def Row (w : World) (g : Nat) (t : TypeId) (l : List Value) : Prop := w.heap[g]? = some (.cells l.toArray t (0, 0))
/-- Nothing that was there is changed but block b. -/
def Only (b : Nat) (w w' : World) : Prop := Below 0 w w' ∧ ∀ k, k < w.heap.size → k ≠ b → w'.heap[k]? = w.heap[k]?
theorem Only.refl (b : Nat) (w : World) : Only b w w := ⟨Below.refl _ _, fun _ _ _ => rfl⟩
theorem Only.trans {b : Nat} {w w1 w2 : World} (h : Only b w w1) (k : Only b w1 w2) : Only b w w2 :=
  ⟨h.1.trans k.1, fun i hi hb => (k.2 i (Nat.lt_of_lt_of_le hi h.1.size) hb).trans (h.2 i hi hb)⟩
theorem Only.of_below {b : Nat} {w w' : World} (h : Below w.heap.size w w') : Only b w w' := ⟨h.mono (Nat.zero_le _), fun k hk _ => h.block k hk⟩
theorem Only.below {b : Nat} {w w' : World} (h : Only b w w') (hb : b ≤ w.heap.size) : Below b w w' := ⟨h.1.os, h.1.tape, h.1.output, h.1.size, fun k hk => h.2 k (by omega) (by omega)⟩
theorem Only.size {b : Nat} {w w' : World} (h : Only b w w') : w.heap.size ≤ w'.heap.size := h.1.size
theorem Only.drew {b : Nat} {w w' : World} (h : Only b w w') : Only b w w'.drew := ⟨h.1.drew, fun k hk hb => h.2 k hk hb⟩
theorem Only.setCell {b : Nat} {w w' : World} (h : Only b w w') (i : Nat) (v : Value) : Only b w (w'.setCell ⟨b, i, none⟩ v) :=
  ⟨h.1.setCell (p := ⟨b, i, none⟩) (Nat.zero_le _) _, fun k hk hb => (Below.heap_setCell w' ⟨b, i, none⟩ _ k hb).trans (h.2 k hk hb)⟩
theorem set_mid (A P Q C : List Value) (v q : Value) (n : Nat) (hn : n = A.length + P.length) : (A ++ P ++ (q :: Q) ++ C).toArray.setIfInBounds n v = (A ++ (P ++ [v]) ++ Q ++ C).toArray := by
  subst hn
  rw [List.setIfInBounds_toArray]
  congr 1
  rw [List.append_assoc, List.set_append_right _ _ (by simp), List.length_append, Nat.sub_self]
  simp
/-- Bytes as values. -/
def byV (l : List Nat) : List Value := l.map fun x => Value.int .u8 (x : Nat)
theorem below_rowH {B g : Nat} {w0 w : World} (h : Below B w0 w) (hg : B ≤ g) (cs : Array Value) : Below B w0 (w.setRow g cs) :=
  h.trans ⟨rfl, rfl, rfl, by simp [World.setRow], fun k hk => setRow_other _ _ _ _ (by omega)⟩
theorem Row.lt {w : World} {g : Nat} {t : TypeId} {l : List Value} (h : Row w g t l) : g < w.heap.size := lt_of_block h
theorem Row.cell {w : World} {g : Nat} {t : TypeId} {l : List Value} (h : Row w g t l) (i : Nat) : w.cell? ⟨g, i, none⟩ = l[i]? := (cell_of_row _ _ _ _ _ _ h).trans (by simp)
theorem Row.frozen {w : World} {g : Nat} {t : TypeId} {l : List Value} (h : Row w g t l) (i : Nat) : w.frozen? ⟨g, i, none⟩ = false := by simp [World.frozen?, show w.heap[g]? = _ from h]
theorem Row.below {w w' : World} {g : Nat} {t : TypeId} {l : List Value} (h : Row w g t l) {B : Nat} (hb : Below B w w') (hg : g < B) : Row w' g t l := (hb.block _ hg).trans h
theorem Row.only {w w' : World} {g b : Nat} {t : TypeId} {l : List Value} (h : Row w g t l) (ho : Only b w w') (hg : g ≠ b) : Row w' g t l := (ho.2 _ h.lt hg).trans h
theorem Row.set {w : World} {g n : Nat} {t : TypeId} {A C : List Value} {q : Value} (h : Row w g t (A ++ [q] ++ C)) (v : Value) (hn : n = A.length) : Row (w.setCell ⟨g, n, none⟩ v) g t (A ++ [v] ++ C) := by
  have h1 := heap_setCell_same w g n _ t v h
  have h2 := set_mid A [] [] C v q n (by simpa using hn)
  simp only [List.append_nil, List.nil_append] at h2
  rw [h2] at h1
  exact h1
theorem Row.setCells {g : Nat} {t : TypeId} {C : List Value} : ∀ (vs B A : List Value) (w : World) (n : Nat), vs.length = B.length → n = A.length → Row w g t (A ++ B ++ C) → Row (w.setCells g n vs) g t (A ++ vs ++ C)
  | [], [], A, w, n, _, _, h => h
  | v :: vs, q :: B, A, w, n, hl, hn, h => by
    have h1 : Row w g t (A ++ [q] ++ (B ++ C)) := by simpa using h
    have h2 := h1.set v hn
    have h3 : Row (w.setCell ⟨g, n, none⟩ v) g t ((A ++ [v]) ++ B ++ C) := by simpa using h2
    have h4 := Row.setCells vs B (A ++ [v]) _ (n + 1) (by simpa using hl) (by simp [hn]) h3
    show Row ((w.setCell ⟨g, n, none⟩ v).setCells g (n + 1) vs) g t (A ++ (v :: vs) ++ C)
    rw [show A ++ (v :: vs) ++ C = (A ++ [v]) ++ vs ++ C by simp]
    exact h4
  | v :: vs, [], A, w, n, hl, _, _ => by simp at hl
  | [], q :: B, A, w, n, hl, _, _ => by simp at hl
theorem Only.setCells {b : Nat} {w : World} : ∀ (vs : List Value) (n : Nat) (w' : World), Only b w w' → Only b w (w'.setCells b n vs)
  | [], _, _, h => h
  | v :: vs, n, _, h => Only.setCells vs (n + 1) _ (h.setCell n v)
/-- copy of a text that is longer than there is room. -/
theorem run_copy_part {P : Program} (w : World) (dT sT ty elem : TypeId) (b o dLen dCap : Nat) (t : ByteArray)
    (hu : P.underlying dT = some (.slice elem)) (hz : ∀ w, (Go.sizeOf elem).run P w = .ok 1 w) (hle : dLen ≤ t.size)
    (hc : ∀ j, j < dLen → (w.cell? ⟨b, o + j, none⟩).isSome = true) (hf : ∀ j, j < dLen → w.frozen? ⟨b, o + j, none⟩ = false) :
    (Builtin.copy_ #[dT, sT] ty #[.slice (some ⟨b, o, none⟩) dLen dCap, .string t]).run P w = .ok (goInt dLen) (w.setCells b o ((t.data.toList.take dLen).map fun x => Value.int .u8 (x.toNat : Int))) := by
  have hmin : Nat.min t.size dLen = dLen := Nat.min_eq_right hle
  have hl : ((t.data.toList.take dLen).map fun x => Value.int .u8 (x.toNat : Int)).length = dLen := by
    rw [List.length_map, List.length_take, ← Lib.size_eq]; omega
  have hst := run_storeCells_cells (P := P) b o ((t.data.toList.take dLen).map fun x => Value.int .u8 (x.toNat : Int)) 0 w (by rw [hl]; simpa using hc) (by rw [hl]; simpa using hf) (by
    intro v hv
    obtain ⟨x, _, rfl⟩ := List.mem_map.1 hv
    rfl)
  simp [Builtin.copy_, run_underlying hu, Builtin.lenOf, Builtin.firstCells, hz, hmin]
  rw [← List.map_take, hst]
  rfl
theorem byV_append (a b : List Nat) : byV (a ++ b) = byV a ++ byV b := by simp [byV]
theorem byV_zeros (n : Nat) : byV (List.replicate n 0) = List.replicate n (Value.int .u8 0) := by simp [byV]
theorem byV_get (b : List Nat) (i : Nat) (h : i < b.length) : (byV b)[i]? = some (.int .u8 (b.getD i 0 : Nat)) := by
  rw [byV, List.getElem?_map, List.getElem?_eq_getElem h, getD_at _ _ h]
  rfl
theorem zero_u8 (w : World) : (zeroValue 5).run Tryz.prog w = .ok (.int .u8 0) w := (zero_of_info (n := 1) (by kernel_rfl)).1 w
/-- A text's bytes as numbers. -/
def numsOf (s : ByteArray) : List Nat := s.data.toList.map (·.toNat)
theorem numsOf_length (s : ByteArray) : (numsOf s).length = s.size := by simp [numsOf]
theorem numsOf_bytes (s : ByteArray) : Bytes (numsOf s) := fun x hx => by
  obtain ⟨y, _, rfl⟩ := List.mem_map.1 hx
  exact y.toNat_lt
def strSize : Value → Nat
  | .string t => t.size
  | _ => 0
theorem size_u8 (w : World) : (Go.sizeOf 5).run Tryz.prog w = .ok 1 w := by
  obtain ⟨i0, hi, hz0, hz1, hz2⟩ := info_parts (show (Tryz.prog.info? 5).map (fun i => (i.zero, i.size, i.bytes)) = some (some (.int .u8 0), 1, 1) by kernel_rfl)
  simp [Go.sizeOf, typeInfo, hi, hz1]
theorem numsOf_extract (s : ByteArray) (p q : Nat) : numsOf (s.extract p q) = ((numsOf s).drop p).take (q - p) := by
  rw [numsOf, Lib.extract_data, List.map_take, List.map_drop]
  rfl
theorem numsOf_append (s t : ByteArray) : numsOf (s ++ t) = numsOf s ++ numsOf t := by
  simp [numsOf]
theorem numsOf_str (l : List Nat) (h : Bytes l) : numsOf (strOfNums (l.map fun (x : Nat) => (x : Int))) = l := by
  unfold numsOf strOfNums
  rw [List.map_map, List.map_map]
  conv => rhs; rw [← List.map_id l]
  refine List.map_congr_left fun x hx => ?_
  have hx := h x hx
  simp
  omega
theorem wraps_i64 (n : Int) (h0 : 0 ≤ n) (h1 : n < 2 ^ 63) : IntKind.i64.wrap n = n := by rw [IntKind.wrap_i64]; omega
theorem i64_and_nat (a b : Nat) (ha : a < 9223372036854775808) (hb : b < 9223372036854775808) : bits .and .i64 (a : Int) (b : Int) = ((a &&& b : Nat) : Int) := (bits_nat .i64 63 (by decide) wraps_i64 a b ha hb).1
theorem i64_or_nat (a b : Nat) (ha : a < 9223372036854775808) (hb : b < 9223372036854775808) : bits .or .i64 (a : Int) (b : Int) = ((a ||| b : Nat) : Int) := (bits_nat .i64 63 (by decide) wraps_i64 a b ha hb).2
theorem i64_xor_nat (a b : Nat) (ha : a < 9223372036854775808) (hb : b < 9223372036854775808) : bits .xor .i64 (a : Int) (b : Int) = ((a ^^^ b : Nat) : Int) := by
  have hx : a ^^^ b < 2 ^ 63 := Nat.xor_lt_two_pow ha hb
  show IntKind.i64.wrap ((BitVec.ofInt 64 (a : Int) ^^^ BitVec.ofInt 64 (b : Int)).toNat : Int) = _
  rw [BitVec.toNat_xor, ofInt_u64 a (by omega), ofInt_u64 b (by omega)]
  exact wraps_i64 _ (Int.natCast_nonneg _) (by exact_mod_cast hx)
theorem info_u8 : (Tryz.prog.info? 5).map (fun i => (i.zero, i.size, i.bytes)) = some (some (.int .u8 0), 1, 1) := by kernel_rfl
theorem numsV (s : ByteArray) : (s.data.toList.map fun x => Value.int .u8 (x.toNat : Int)) = byV (numsOf s) := by simp [byV, numsOf]
def sliceLen : Value → Nat
  | .slice _ n _ => n
  | _ => 0
end Go.Proofs.YtdhiopbomnfmnaaGreatDoor.Bx

namespace Go.Proofs.YtdhiopbomnfmnaaGreatDoor.Bx
set_option maxRecDepth 20000

/-- A word turned to the left. -/
def rotl (x n : Nat) : Nat := (x * 2 ^ n ||| x / 2 ^ (32 - n)) % 4294967296
theorem rotl_lt (x n : Nat) : rotl x n < 4294967296 := Nat.mod_lt _ (by decide)
theorem rotl_or (x n : Nat) (hx : x < 4294967296) : x * 2 ^ n % 4294967296 ||| x / 2 ^ (32 - n) = rotl x n := by
  unfold rotl
  have p : (4294967296 : Nat) = 2 ^ 32 := rfl
  rw [p, Nat.or_mod_two_pow, Nat.mod_eq_of_lt (a := x / 2 ^ (32 - n)) (Nat.lt_of_le_of_lt (Nat.div_le_self _ _) hx)]

/-- A quarter of four words, step by step. -/
def qa (a b : Nat) : Nat := (a + b) % 4294967296
def qd (a b d : Nat) : Nat := rotl (d ^^^ qa a b) 16
def qc (a b c d : Nat) : Nat := (c + qd a b d) % 4294967296
def qb (a b c d : Nat) : Nat := rotl (b ^^^ qc a b c d) 12
def qA (a b c d : Nat) : Nat := (qa a b + qb a b c d) % 4294967296
def qD (a b c d : Nat) : Nat := rotl (qd a b d ^^^ qA a b c d) 8
def qC (a b c d : Nat) : Nat := (qc a b c d + qD a b c d) % 4294967296
def qB (a b c d : Nat) : Nat := rotl (qb a b c d ^^^ qC a b c d) 7
theorem qa_lt (a b : Nat) : qa a b < 4294967296 := Nat.mod_lt _ (by decide)
theorem qd_lt (a b d : Nat) : qd a b d < 4294967296 := rotl_lt _ _
theorem qc_lt (a b c d : Nat) : qc a b c d < 4294967296 := Nat.mod_lt _ (by decide)
theorem qb_lt (a b c d : Nat) : qb a b c d < 4294967296 := rotl_lt _ _
theorem qA_lt (a b c d : Nat) : qA a b c d < 4294967296 := Nat.mod_lt _ (by decide)
theorem qB_lt (a b c d : Nat) : qB a b c d < 4294967296 := rotl_lt _ _
theorem qC_lt (a b c d : Nat) : qC a b c d < 4294967296 := Nat.mod_lt _ (by decide)
theorem qD_lt (a b c d : Nat) : qD a b c d < 4294967296 := rotl_lt _ _

/-- The sixteen words. -/
structure S16 where
  (a0 a1 a2 a3 b0 b1 b2 b3 c0 c1 c2 c3 d0 d1 d2 d3 : Nat)
def S16.toL (s : S16) : List Nat := [s.a0, s.a1, s.a2, s.a3, s.b0, s.b1, s.b2, s.b3, s.c0, s.c1, s.c2, s.c3, s.d0, s.d1, s.d2, s.d3]
def S16.ok (s : S16) : Prop := ∀ x ∈ s.toL, x < 4294967296
theorem S16.toL_length (s : S16) : s.toL.length = 16 := rfl
theorem S16.ok_all {s : S16} (h : s.ok) : s.a0 < 4294967296 ∧ s.a1 < 4294967296 ∧ s.a2 < 4294967296 ∧ s.a3 < 4294967296 ∧ s.b0 < 4294967296 ∧ s.b1 < 4294967296 ∧ s.b2 < 4294967296 ∧ s.b3 < 4294967296 ∧ s.c0 < 4294967296 ∧ s.c1 < 4294967296 ∧ s.c2 < 4294967296 ∧ s.c3 < 4294967296 ∧ s.d0 < 4294967296 ∧ s.d1 < 4294967296 ∧ s.d2 < 4294967296 ∧ s.d3 < 4294967296 := by
  simpa [S16.ok, S16.toL] using h
/-- The columns' quarters, then the slants'. -/
def S16.cols (s : S16) : S16 :=
  ⟨qA s.a0 s.b0 s.c0 s.d0, qA s.a1 s.b1 s.c1 s.d1, qA s.a2 s.b2 s.c2 s.d2, qA s.a3 s.b3 s.c3 s.d3,
   qB s.a0 s.b0 s.c0 s.d0, qB s.a1 s.b1 s.c1 s.d1, qB s.a2 s.b2 s.c2 s.d2, qB s.a3 s.b3 s.c3 s.d3,
   qC s.a0 s.b0 s.c0 s.d0, qC s.a1 s.b1 s.c1 s.d1, qC s.a2 s.b2 s.c2 s.d2, qC s.a3 s.b3 s.c3 s.d3,
   qD s.a0 s.b0 s.c0 s.d0, qD s.a1 s.b1 s.c1 s.d1, qD s.a2 s.b2 s.c2 s.d2, qD s.a3 s.b3 s.c3 s.d3⟩
def S16.slants (s : S16) : S16 :=
  ⟨qA s.a0 s.b1 s.c2 s.d3, qA s.a1 s.b2 s.c3 s.d0, qA s.a2 s.b3 s.c0 s.d1, qA s.a3 s.b0 s.c1 s.d2,
   qB s.a3 s.b0 s.c1 s.d2, qB s.a0 s.b1 s.c2 s.d3, qB s.a1 s.b2 s.c3 s.d0, qB s.a2 s.b3 s.c0 s.d1,
   qC s.a2 s.b3 s.c0 s.d1, qC s.a3 s.b0 s.c1 s.d2, qC s.a0 s.b1 s.c2 s.d3, qC s.a1 s.b2 s.c3 s.d0,
   qD s.a1 s.b2 s.c3 s.d0, qD s.a2 s.b3 s.c0 s.d1, qD s.a3 s.b0 s.c1 s.d2, qD s.a0 s.b1 s.c2 s.d3⟩
def S16.rounds (s : S16) : Nat → S16
  | 0 => s
  | n + 1 => (S16.rounds s n).cols.slants
theorem S16.cols_ok (s : S16) : s.cols.ok := by
  intro x hx
  simp only [S16.toL, S16.cols, List.mem_cons, List.not_mem_nil, or_false] at hx
  rcases hx with rfl | rfl | rfl | rfl | rfl | rfl | rfl | rfl | rfl | rfl | rfl | rfl | rfl | rfl | rfl | rfl <;> simp only [qA_lt, qB_lt, qC_lt, qD_lt]
theorem S16.slants_ok (s : S16) : s.slants.ok := by
  intro x hx
  simp only [S16.toL, S16.slants, List.mem_cons, List.not_mem_nil, or_false] at hx
  rcases hx with rfl | rfl | rfl | rfl | rfl | rfl | rfl | rfl | rfl | rfl | rfl | rfl | rfl | rfl | rfl | rfl <;> simp only [qA_lt, qB_lt, qC_lt, qD_lt]
theorem S16.rounds_ok {s : S16} (h : s.ok) : ∀ n, (s.rounds n).ok
  | 0 => h
  | _ + 1 => S16.slants_ok _

/-- A word's four bytes, the lowest first; the word of four bytes. -/
def le4 (n : Nat) : List Nat := [n % 256, n / 256 % 256, n / 65536 % 256, n / 16777216 % 256]
def wordL (b : List Nat) (i : Nat) : Nat := b.getD i 0 + b.getD (i + 1) 0 * 256 + b.getD (i + 2) 0 * 65536 + b.getD (i + 3) 0 * 16777216
/-- A block's bytes. -/
def blkW (s : S16) (i : Nat) : Nat := ((s.rounds 10).toL.getD i 0 + s.toL.getD i 0) % 4294967296
def blkN (s : S16) : Nat → List Nat
  | 0 => []
  | n + 1 => blkN s n ++ le4 (blkW s n)
def blkL (s : S16) : List Nat := blkN s 16
theorem le4_length (n : Nat) : (le4 n).length = 4 := rfl
theorem blkN_length (s : S16) : ∀ n, (blkN s n).length = 4 * n
  | 0 => rfl
  | n + 1 => by rw [blkN, List.length_append, blkN_length s n, le4_length]; omega
theorem blkL_length (s : S16) : (blkL s).length = 64 := blkN_length s 16
/-- The state of block n. -/
def st16 (key nonce : List Nat) (n : Nat) : S16 :=
  ⟨0x61707865, 0x3320646e, 0x79622d32, 0x6b206574, wordL key 0, wordL key 4, wordL key 8, wordL key 12, wordL key 16, wordL key 20, wordL key 24, wordL key 28, n, wordL nonce 0, wordL nonce 4, wordL nonce 8⟩
/-- ChaCha20's block n. -/
def chaL (key nonce : List Nat) (n : Nat) : List Nat := blkL (st16 key nonce n)
theorem chaL_length (key nonce : List Nat) (n : Nat) : (chaL key nonce n).length = 64 := blkL_length _
/-- A text xor the blocks from one on. -/
def chaS (key nonce : List Nat) (at_ : Nat) (l : List Nat) : List Nat := (List.range l.length).map fun i => l.getD i 0 ^^^ (chaL key nonce (at_ + i / 64)).getD (i % 64) 0
theorem chaS_length (key nonce : List Nat) (at_ : Nat) (l : List Nat) : (chaS key nonce at_ l).length = l.length := by simp [chaS]
end Go.Proofs.YtdhiopbomnfmnaaGreatDoor.Bx

namespace Go.Proofs.YtdhiopbomnfmnaaGreatDoor.Bx
set_option maxRecDepth 20000
open Go.RowKit

theorem rot_turn (n : Nat) (h2 : n ≤ 31) : bits .and .u64 (n : Int) 31 = (n : Int) := by
  rw [show (31 : Int) = ((31 : Nat) : Int) from rfl, u64_and_nat _ _ (by omega) (by decide), nat_mask5, Nat.mod_eq_of_lt (by omega)]
theorem rot_bits (x n m : Nat) (hx : x < 4294967296) (hm : m = 32 - n) : bits .or .u32 ((x : Int) * 2 ^ n % 4294967296) ((x : Int) / 2 ^ m) = ((rotl x n : Nat) : Int) := by
  subst hm
  have e1 : (x : Int) * 2 ^ n % 4294967296 = ((x * 2 ^ n % 4294967296 : Nat) : Int) := by
    rw [Int.natCast_emod, Int.natCast_mul, Int.natCast_pow]; rfl
  have e2 : (x : Int) / 2 ^ (32 - n) = ((x / 2 ^ (32 - n) : Nat) : Int) := by
    rw [Int.natCast_ediv, Int.natCast_pow]; rfl
  rw [e1, e2, u32_or_nat _ _ (Nat.mod_lt _ (by decide)) (Nat.lt_of_le_of_lt (Nat.div_le_self _ _) hx), rotl_or x n hx]

set_option maxHeartbeats 1000000 in
theorem rot32_any (x n : Nat) (hx : x < 4294967296) (h1 : 1 ≤ n) (h2 : n ≤ 31) (w : World) :
    Calls Tryz.prog 95 #[.int .u32 x, .int .i64 n] w fun e w' => e = .returned (.int .u32 (rotl x n : Nat)) ∧ w' = w := by
  obtain ⟨m, hm⟩ : ∃ m, m = 32 - n := ⟨_, rfl⟩
  have ht := rot_turn n h2
  have hb := rot_bits x n m hx hm
  have v1 : IntKind.u64.wrap (n : Int) = n := by rw [IntKind.wrap_u64]; omega
  have v2 : IntKind.u64.wrap (32 - (n : Int)) = m := by rw [IntKind.wrap_u64]; omega
  have v3 : IntKind.u32.wrap ((x : Int) * 2 ^ n) = (x : Int) * 2 ^ n % 4294967296 := IntKind.wrap_u32 _
  have v4 : min m 32 = m := by omega
  clear hm
  go_enter Tryz.func95, Tryz.ntmps95
  go_wp2
  go_ret
  exact ⟨rfl, rfl⟩

theorem add_u32 (a b : Nat) : IntKind.u32.wrap ((a : Int) + b) = (((a + b) % 4294967296 : Nat) : Int) := by rw [IntKind.wrap_u32]; omega

set_option maxHeartbeats 1000000 in
theorem quarter_any (a b c d : Nat) (hb : b < 4294967296) (hd : d < 4294967296) (w : World) :
    Calls Tryz.prog 162 #[.int .u32 a, .int .u32 b, .int .u32 c, .int .u32 d] w fun e w' => e = .returned (.tuple #[.int .u32 (qA a b c d : Nat), .int .u32 (qB a b c d : Nat), .int .u32 (qC a b c d : Nat), .int .u32 (qD a b c d : Nat)]) ∧ w' = w := by
  obtain ⟨a1, ha1⟩ : ∃ a1, a1 = qa a b := ⟨_, rfl⟩
  have la1 : a1 < 4294967296 := by rw [ha1]; exact qa_lt _ _
  obtain ⟨d1, hd1⟩ : ∃ d1, d1 = qd a b d := ⟨_, rfl⟩
  have ld1 : d1 < 4294967296 := by rw [hd1]; exact qd_lt _ _ _
  obtain ⟨c1, hc1⟩ : ∃ c1, c1 = qc a b c d := ⟨_, rfl⟩
  have lc1 : c1 < 4294967296 := by rw [hc1]; exact qc_lt _ _ _ _
  obtain ⟨b1, hb1⟩ : ∃ b1, b1 = qb a b c d := ⟨_, rfl⟩
  have lb1 : b1 < 4294967296 := by rw [hb1]; exact qb_lt _ _ _ _
  obtain ⟨a2, ha2⟩ : ∃ a2, a2 = qA a b c d := ⟨_, rfl⟩
  have la2 : a2 < 4294967296 := by rw [ha2]; exact qA_lt _ _ _ _
  obtain ⟨d2, hd2⟩ : ∃ d2, d2 = qD a b c d := ⟨_, rfl⟩
  have ld2 : d2 < 4294967296 := by rw [hd2]; exact qD_lt _ _ _ _
  obtain ⟨c2, hc2⟩ : ∃ c2, c2 = qC a b c d := ⟨_, rfl⟩
  have lc2 : c2 < 4294967296 := by rw [hc2]; exact qC_lt _ _ _ _
  obtain ⟨b2, hb2⟩ : ∃ b2, b2 = qB a b c d := ⟨_, rfl⟩
  have lb2 : b2 < 4294967296 := by rw [hb2]; exact qB_lt _ _ _ _
  rw [← ha2, ← hb2, ← hc2, ← hd2]
  have va1 : IntKind.u32.wrap ((a : Int) + b) = a1 := by rw [add_u32, ha1]; rfl
  have vd1 : bits .xor .u32 (d : Int) (a1 : Int) = ((d ^^^ a1 : Nat) : Int) := u32_xor_nat _ _ hd la1
  have rd1 : ∀ w, Calls Tryz.prog 95 #[.int .u32 (d ^^^ a1 : Nat), .int .i64 16] w fun e w' => e = .returned (.int .u32 d1) ∧ w' = w := fun w => by
    rw [hd1, ha1]
    exact rot32_any _ 16 (xor_lt hd (qa_lt _ _)) (by decide) (by decide) w
  have vc1 : IntKind.u32.wrap ((c : Int) + d1) = c1 := by rw [add_u32, hc1, hd1]; rfl
  have vb1 : bits .xor .u32 (b : Int) (c1 : Int) = ((b ^^^ c1 : Nat) : Int) := u32_xor_nat _ _ hb lc1
  have rb1 : ∀ w, Calls Tryz.prog 95 #[.int .u32 (b ^^^ c1 : Nat), .int .i64 12] w fun e w' => e = .returned (.int .u32 b1) ∧ w' = w := fun w => by
    rw [hb1, hc1]
    exact rot32_any _ 12 (xor_lt hb (qc_lt _ _ _ _)) (by decide) (by decide) w
  have va2 : IntKind.u32.wrap ((a1 : Int) + b1) = a2 := by rw [add_u32, ha2, ha1, hb1]; rfl
  have vd2 : bits .xor .u32 (d1 : Int) (a2 : Int) = ((d1 ^^^ a2 : Nat) : Int) := u32_xor_nat _ _ ld1 la2
  have rd2 : ∀ w, Calls Tryz.prog 95 #[.int .u32 (d1 ^^^ a2 : Nat), .int .i64 8] w fun e w' => e = .returned (.int .u32 d2) ∧ w' = w := fun w => by
    rw [hd2, hd1, ha2]
    exact rot32_any _ 8 (xor_lt (qd_lt _ _ _) (qA_lt _ _ _ _)) (by decide) (by decide) w
  have vc2 : IntKind.u32.wrap ((c1 : Int) + d2) = c2 := by rw [add_u32, hc2, hc1, hd2]; rfl
  have vb2 : bits .xor .u32 (b1 : Int) (c2 : Int) = ((b1 ^^^ c2 : Nat) : Int) := u32_xor_nat _ _ lb1 lc2
  have rb2 : ∀ w, Calls Tryz.prog 95 #[.int .u32 (b1 ^^^ c2 : Nat), .int .i64 7] w fun e w' => e = .returned (.int .u32 b2) ∧ w' = w := fun w => by
    rw [hb2, hb1, hc2]
    exact rot32_any _ 7 (xor_lt (qb_lt _ _ _ _) (qC_lt _ _ _ _)) (by decide) (by decide) w
  generalize d ^^^ a1 = xd1 at *
  generalize b ^^^ c1 = xb1 at *
  generalize d1 ^^^ a2 = xd2 at *
  generalize b1 ^^^ c2 = xb2 at *
  clear ha1 hd1 hc1 hb1 ha2 hd2 hc2 hb2 la1 ld1 lc1 lb1 la2 ld2 lc2 lb2
  go_enter Tryz.func162, Tryz.ntmps162
  go_wp2_with fail
  refine (rd1 _).mono ?_
  rintro e w' ⟨rfl, rfl⟩
  clear rd1
  go_wp2_with fail
  refine (rb1 _).mono ?_
  rintro e w' ⟨rfl, rfl⟩
  clear rb1
  go_wp2_with fail
  refine (rd2 _).mono ?_
  rintro e w' ⟨rfl, rfl⟩
  clear rd2
  go_wp2_with fail
  refine (rb2 _).mono ?_
  rintro e w' ⟨rfl, rfl⟩
  clear rb2
  go_wp2
  exact bodyPost_ret (v := .tuple #[.int .u32 a2, .int .u32 b2, .int .u32 c2, .int .u32 d2]) (by simp [results, Tryz.results162]) rfl ⟨rfl, rfl⟩
end Go.Proofs.YtdhiopbomnfmnaaGreatDoor.Bx

namespace Go.Proofs.YtdhiopbomnfmnaaGreatDoor.Bx
set_option maxRecDepth 20000
open Go.RowKit

def rowF (n : Nat) (f : Nat → Value) : List Value := (List.range n).map f
theorem rowF_length (n : Nat) (f : Nat → Value) : (rowF n f).length = n := by simp [rowF]
theorem rowF_get (n : Nat) (f : Nat → Value) (i : Nat) (h : i < n) : (rowF n f)[i]? = some (f i) := by simp [rowF, h]
theorem rowF_congr {n : Nat} {f f' : Nat → Value} (h : ∀ k, k < n → f k = f' k) : rowF n f = rowF n f' :=
  List.map_congr_left fun k hk => h k (List.mem_range.1 hk)
theorem rowF_set (n : Nat) (f : Nat → Value) (i : Nat) (v : Value) : (rowF n f).set i v = rowF n fun k => if k = i then v else f k := by
  refine List.ext_getElem? fun k => ?_
  rw [List.getElem?_set]
  by_cases hk : k < n
  · rw [rowF_get _ _ _ hk, rowF_get _ _ _ hk, rowF_length]
    by_cases e : i = k
    · subst e; simp [hk]
    · simp [e, Ne.symm e]
  · rw [List.getElem?_eq_none (by rw [rowF_length]; omega), List.getElem?_eq_none (by rw [rowF_length]; omega), rowF_length]
    by_cases e : i = k
    · subst e; simp [hk]
    · simp [e]
theorem Row.setF {w : World} {g t n : Nat} {f : Nat → Value} (h : Row w g t (rowF n f)) (i : Nat) (v : Value) : Row (w.setCell ⟨g, i, none⟩ v) g t (rowF n fun k => if k = i then v else f k) := by
  have h1 := heap_setCell_same w g i _ t v h
  rw [List.setIfInBounds_toArray, rowF_set] at h1
  exact h1
theorem Row.cellF {w : World} {g t n : Nat} {f : Nat → Value} (h : Row w g t (rowF n f)) (i : Nat) (hi : i < n) : w.cell? ⟨g, i, none⟩ = some (f i) := by
  rw [h.cell, rowF_get _ _ _ hi]
theorem byV_rowF (l : List Nat) : byV l = rowF l.length fun k => .int .u8 (l.getD k 0 : Nat) := by
  refine List.ext_getElem? fun k => ?_
  by_cases hk : k < l.length
  · rw [byV_get _ _ hk, rowF_get _ _ _ hk]
  · rw [List.getElem?_eq_none (by simp [byV]; omega), List.getElem?_eq_none (by rw [rowF_length]; omega)]
theorem Row.congr {w : World} {g t : Nat} {l l' : List Value} (h : Row w g t l) (e : l = l') : Row w g t l' := e ▸ h
end Go.Proofs.YtdhiopbomnfmnaaGreatDoor.Bx
