/- Lists of numbers, bytes, blocks of cells, parts of a block written anew, bits of numbers: nothing of the program. · The reader of package pack: number and bytes tell the next bytes of its text and go on, or panic with what a reader gives up with where bytes lack; must panics with it where it is told no. -/
import Derived.Test.YtbmjablmmlnieaaGreatDoorProg
import Derived.WalkKit
import Derived.Laws.BitsAllLaws
import Derived.Laws.BitsLemmas
import Derived.Laws.BytesArg
import Derived.Lib.LazyBuf
import Derived.Lib.SliceRun
import Derived.Deep.WholeRow
import Derived.Deep.RegionHeld3
import Derived.Deep.QuietTactic
import Derived.BigQuiet
import Derived.Test.YtbmjablmmlnieaaGreatDoorMg01
import Derived.OneCell
namespace Go.Proofs.YtbmjablmmlnieaaGreatDoor
set_option maxRecDepth 20000
open Go.RowKit
theorem getD_beyond (l : List Nat) (d : Nat) {i : Nat} (h : l.length ≤ i) : l.getD i d = d := by
  rw [List.getD_eq_getElem?_getD, List.getElem?_eq_none h]; rfl
theorem getD_at (l : List Nat) (d : Nat) {i : Nat} (h : i < l.length) : l.getD i d = l[i] := by
  rw [List.getD_eq_getElem?_getD, List.getElem?_eq_getElem h]; rfl
theorem getD_left (l m : List Nat) (d i : Nat) (h : i < l.length) : (l ++ m).getD i d = l.getD i d := by
  rw [List.getD_eq_getElem?_getD, List.getElem?_append_left h, List.getD_eq_getElem?_getD]
theorem getD_right (l m : List Nat) (d i : Nat) (h : l.length ≤ i) : (l ++ m).getD i d = m.getD (i - l.length) d := by
  rw [List.getD_eq_getElem?_getD, List.getElem?_append_right h, List.getD_eq_getElem?_getD]
theorem pow32 : (2 : Nat) ^ 32 = 4294967296 := rfl
theorem xor_lt {a b : Nat} (ha : a < 4294967296) (hb : b < 4294967296) : a ^^^ b < 4294967296 := Nat.xor_lt_two_pow (n := 32) ha hb
theorem and_lt {a b : Nat} (hb : b < 4294967296) : a &&& b < 4294967296 := Nat.and_lt_two_pow (n := 32) a hb
theorem or_lt {a b : Nat} (ha : a < 4294967296) (hb : b < 4294967296) : a ||| b < 4294967296 := Nat.or_lt_two_pow (n := 32) ha hb
/-- Numbers that are bytes; that are words. -/
def Bytes (b : List Nat) : Prop := ∀ x ∈ b, x < 256
theorem getD_lt {b : List Nat} {m : Nat} (hm : 0 < m) (h : ∀ x ∈ b, x < m) (i : Nat) : b.getD i 0 < m := by
  by_cases hi : i < b.length
  · rw [getD_at _ _ hi]; exact h _ (List.getElem_mem _)
  · rw [getD_beyond _ _ (by omega)]; exact hm
theorem Bytes.append {a b : List Nat} (ha : Bytes a) (hb : Bytes b) : Bytes (a ++ b) := fun x hx => by
  rcases List.mem_append.1 hx with h | h
  · exact ha x h
  · exact hb x h
theorem Bytes.cons {x : Nat} {b : List Nat} (hx : x < 256) (hb : Bytes b) : Bytes (x :: b) := fun y hy => by
  rcases List.mem_cons.1 hy with h | h
  · omega
  · exact hb y h
theorem Bytes.zeros (n : Nat) : Bytes (List.replicate n 0) := fun x hx => by
  have := (List.mem_replicate.1 hx).2
  omega
theorem Bytes.take {b : List Nat} (h : Bytes b) (n : Nat) : Bytes (b.take n) := fun x hx => h x (List.mem_of_mem_take hx)
theorem Bytes.drop {b : List Nat} (h : Bytes b) (n : Nat) : Bytes (b.drop n) := fun x hx => h x (List.mem_of_mem_drop hx)
/-- A block whose cells are these. -/
def Row (w : World) (g : Nat) (t : TypeId) (l : List Value) : Prop := w.heap[g]? = some (.cells l.toArray t (0, 0))
/-- Nothing that was there is changed but block b. -/
def Only (b : Nat) (w w' : World) : Prop := Below 0 w w' ∧ ∀ k, k < w.heap.size → k ≠ b → w'.heap[k]? = w.heap[k]?
theorem Only.refl (b : Nat) (w : World) : Only b w w := ⟨Below.refl _ _, fun _ _ _ => rfl⟩
theorem Only.trans {b : Nat} {w w1 w2 : World} (h : Only b w w1) (k : Only b w1 w2) : Only b w w2 :=
  ⟨h.1.trans k.1, fun i hi hb => (k.2 i (Nat.lt_of_lt_of_le hi h.1.size) hb).trans (h.2 i hi hb)⟩
theorem Only.of_below {b : Nat} {w w' : World} (h : Below w.heap.size w w') : Only b w w' := ⟨h.mono (Nat.zero_le _), fun k hk _ => h.block k hk⟩
theorem Only.below {b : Nat} {w w' : World} (h : Only b w w') (hb : b ≤ w.heap.size) : Below b w w' := ⟨h.1.os, h.1.tape, h.1.output, h.1.size, fun k hk => h.2 k (by omega) (by omega)⟩
theorem Only.size {b : Nat} {w w' : World} (h : Only b w w') : w.heap.size ≤ w'.heap.size := h.1.size
theorem Only.drew {b : Nat} {w w' : World} (h : Only b w w') : Only b w w'.drew := ⟨h.1.drew, fun k hk hb => h.2 k hk hb⟩
theorem Only.setCell {b : Nat} {w w' : World} (h : Only b w w') (i : Nat) (v : Value) : Only b w (w'.setCell ⟨b, i, none⟩ v) :=
  ⟨h.1.setCell (p := ⟨b, i, none⟩) (Nat.zero_le _) _, fun k hk hb => (Below.heap_setCell w' ⟨b, i, none⟩ _ k hb).trans (h.2 k hk hb)⟩
theorem set_mid (A P Q C : List Value) (v q : Value) (n : Nat) (hn : n = A.length + P.length) : (A ++ P ++ (q :: Q) ++ C).toArray.setIfInBounds n v = (A ++ (P ++ [v]) ++ Q ++ C).toArray := by
  subst hn
  rw [List.setIfInBounds_toArray]
  congr 1
  rw [List.append_assoc, List.set_append_right _ _ (by simp), List.length_append, Nat.sub_self]
  simp
/-- Bytes as values. -/
def byV (l : List Nat) : List Value := l.map fun x => Value.int .u8 (x : Nat)
theorem below_rowH {B g : Nat} {w0 w : World} (h : Below B w0 w) (hg : B ≤ g) (cs : Array Value) : Below B w0 (w.setRow g cs) :=
  h.trans ⟨rfl, rfl, rfl, by simp [World.setRow], fun k hk => setRow_other _ _ _ _ (by omega)⟩
theorem Row.lt {w : World} {g : Nat} {t : TypeId} {l : List Value} (h : Row w g t l) : g < w.heap.size := lt_of_block h
theorem Row.cell {w : World} {g : Nat} {t : TypeId} {l : List Value} (h : Row w g t l) (i : Nat) : w.cell? ⟨g, i, none⟩ = l[i]? := (cell_of_row _ _ _ _ _ _ h).trans (by simp)
theorem Row.frozen {w : World} {g : Nat} {t : TypeId} {l : List Value} (h : Row w g t l) (i : Nat) : w.frozen? ⟨g, i, none⟩ = false := by simp [World.frozen?, show w.heap[g]? = _ from h]
theorem Row.below {w w' : World} {g : Nat} {t : TypeId} {l : List Value} (h : Row w g t l) {B : Nat} (hb : Below B w w') (hg : g < B) : Row w' g t l := (hb.block _ hg).trans h
theorem Row.only {w w' : World} {g b : Nat} {t : TypeId} {l : List Value} (h : Row w g t l) (ho : Only b w w') (hg : g ≠ b) : Row w' g t l := (ho.2 _ h.lt hg).trans h
theorem Row.set {w : World} {g n : Nat} {t : TypeId} {A C : List Value} {q : Value} (h : Row w g t (A ++ [q] ++ C)) (v : Value) (hn : n = A.length) : Row (w.setCell ⟨g, n, none⟩ v) g t (A ++ [v] ++ C) := by
  have h1 := heap_setCell_same w g n _ t v h
  have h2 := set_mid A [] [] C v q n (by simpa using hn)
  simp only [List.append_nil, List.nil_append] at h2
  rw [h2] at h1
  exact h1
theorem Row.setCells {g : Nat} {t : TypeId} {C : List Value} : ∀ (vs B A : List Value) (w : World) (n : Nat), vs.length = B.length → n = A.length → Row w g t (A ++ B ++ C) → Row (w.setCells g n vs) g t (A ++ vs ++ C)
  | [], [], A, w, n, _, _, h => h
  | v :: vs, q :: B, A, w, n, hl, hn, h => by
    have h1 : Row w g t (A ++ [q] ++ (B ++ C)) := by simpa using h
    have h2 := h1.set v hn
    have h3 : Row (w.setCell ⟨g, n, none⟩ v) g t ((A ++ [v]) ++ B ++ C) := by simpa using h2
    have h4 := Row.setCells vs B (A ++ [v]) _ (n + 1) (by simpa using hl) (by simp [hn]) h3
    show Row ((w.setCell ⟨g, n, none⟩ v).setCells g (n + 1) vs) g t (A ++ (v :: vs) ++ C)
    rw [show A ++ (v :: vs) ++ C = (A ++ [v]) ++ vs ++ C by simp]
    exact h4
  | v :: vs, [], A, w, n, hl, _, _ => by simp at hl
  | [], q :: B, A, w, n, hl, _, _ => by simp at hl
theorem Only.setCells {b : Nat} {w : World} : ∀ (vs : List Value) (n : Nat) (w' : World), Only b w w' → Only b w (w'.setCells b n vs)
  | [], _, _, h => h
  | v :: vs, n, _, h => Only.setCells vs (n + 1) _ (h.setCell n v)
/-- copy of a text that is longer than there is room. -/
theorem run_copy_part {P : Program} (w : World) (dT sT ty elem : TypeId) (b o dLen dCap : Nat) (t : ByteArray)
    (hu : P.underlying dT = some (.slice elem)) (hz : ∀ w, (Go.sizeOf elem).run P w = .ok 1 w) (hle : dLen ≤ t.size)
    (hc : ∀ j, j < dLen → (w.cell? ⟨b, o + j, none⟩).isSome = true) (hf : ∀ j, j < dLen → w.frozen? ⟨b, o + j, none⟩ = false) :
    (Builtin.copy_ #[dT, sT] ty #[.slice (some ⟨b, o, none⟩) dLen dCap, .string t]).run P w = .ok (goInt dLen) (w.setCells b o ((t.data.toList.take dLen).map fun x => Value.int .u8 (x.toNat : Int))) := by
  have hmin : Nat.min t.size dLen = dLen := Nat.min_eq_right hle
  have hl : ((t.data.toList.take dLen).map fun x => Value.int .u8 (x.toNat : Int)).length = dLen := by
    rw [List.length_map, List.length_take, ← Lib.size_eq]; omega
  have hst := run_storeCells_cells (P := P) b o ((t.data.toList.take dLen).map fun x => Value.int .u8 (x.toNat : Int)) 0 w (by rw [hl]; simpa using hc) (by rw [hl]; simpa using hf) (by
    intro v hv
    obtain ⟨x, _, rfl⟩ := List.mem_map.1 hv
    rfl)
  simp [Builtin.copy_, run_underlying hu, Builtin.lenOf, Builtin.firstCells, hz, hmin]
  rw [← List.map_take, hst]
  rfl
theorem byV_append (a b : List Nat) : byV (a ++ b) = byV a ++ byV b := by simp [byV]
theorem byV_zeros (n : Nat) : byV (List.replicate n 0) = List.replicate n (Value.int .u8 0) := by simp [byV]
theorem byV_get (b : List Nat) (i : Nat) (h : i < b.length) : (byV b)[i]? = some (.int .u8 (b.getD i 0 : Nat)) := by
  rw [byV, List.getElem?_map, List.getElem?_eq_getElem h, getD_at _ _ h]
  rfl
theorem zero_u8 (w : World) : (zeroValue 5).run Tryz.prog w = .ok (.int .u8 0) w := (zero_of_info (n := 1) (by kernel_rfl)).1 w
/-- A text's bytes as numbers. -/
def numsOf (s : ByteArray) : List Nat := s.data.toList.map (·.toNat)
theorem numsOf_length (s : ByteArray) : (numsOf s).length = s.size := by simp [numsOf]
theorem numsOf_bytes (s : ByteArray) : Bytes (numsOf s) := fun x hx => by
  obtain ⟨y, _, rfl⟩ := List.mem_map.1 hx
  exact y.toNat_lt
def strSize : Value → Nat
  | .string t => t.size
  | _ => 0
theorem size_u8 (w : World) : (Go.sizeOf 5).run Tryz.prog w = .ok 1 w := by
  obtain ⟨i0, hi, hz0, hz1, hz2⟩ := info_parts (show (Tryz.prog.info? 5).map (fun i => (i.zero, i.size, i.bytes)) = some (some (.int .u8 0), 1, 1) by kernel_rfl)
  simp [Go.sizeOf, typeInfo, hi, hz1]
theorem numsOf_extract (s : ByteArray) (p q : Nat) : numsOf (s.extract p q) = ((numsOf s).drop p).take (q - p) := by
  rw [numsOf, Lib.extract_data, List.map_take, List.map_drop]
  rfl
theorem numsOf_append (s t : ByteArray) : numsOf (s ++ t) = numsOf s ++ numsOf t := by
  simp [numsOf]
theorem numsOf_str (l : List Nat) (h : Bytes l) : numsOf (strOfNums (l.map fun (x : Nat) => (x : Int))) = l := by
  unfold numsOf strOfNums
  rw [List.map_map, List.map_map]
  conv => rhs; rw [← List.map_id l]
  refine List.map_congr_left fun x hx => ?_
  have hx := h x hx
  simp
  omega
theorem wraps_i64 (n : Int) (h0 : 0 ≤ n) (h1 : n < 2 ^ 63) : IntKind.i64.wrap n = n := by rw [IntKind.wrap_i64]; omega
theorem i64_and_nat (a b : Nat) (ha : a < 9223372036854775808) (hb : b < 9223372036854775808) : bits .and .i64 (a : Int) (b : Int) = ((a &&& b : Nat) : Int) := (bits_nat .i64 63 (by decide) wraps_i64 a b ha hb).1
theorem i64_or_nat (a b : Nat) (ha : a < 9223372036854775808) (hb : b < 9223372036854775808) : bits .or .i64 (a : Int) (b : Int) = ((a ||| b : Nat) : Int) := (bits_nat .i64 63 (by decide) wraps_i64 a b ha hb).2
theorem i64_xor_nat (a b : Nat) (ha : a < 9223372036854775808) (hb : b < 9223372036854775808) : bits .xor .i64 (a : Int) (b : Int) = ((a ^^^ b : Nat) : Int) := by
  have hx : a ^^^ b < 2 ^ 63 := Nat.xor_lt_two_pow ha hb
  show IntKind.i64.wrap ((BitVec.ofInt 64 (a : Int) ^^^ BitVec.ofInt 64 (b : Int)).toNat : Int) = _
  rw [BitVec.toNat_xor, ofInt_u64 a (by omega), ofInt_u64 b (by omega)]
  exact wraps_i64 _ (Int.natCast_nonneg _) (by exact_mod_cast hx)
theorem info_u8 : (Tryz.prog.info? 5).map (fun i => (i.zero, i.size, i.bytes)) = some (some (.int .u8 0), 1, 1) := by kernel_rfl
theorem numsV (s : ByteArray) : (s.data.toList.map fun x => Value.int .u8 (x.toNat : Int)) = byV (numsOf s) := by simp [byV, numsOf]
def sliceLen : Value → Nat
  | .slice _ n _ => n
  | _ => 0
end Go.Proofs.YtbmjablmmlnieaaGreatDoor

namespace Go.Proofs.YtbmjablmmlnieaaGreatDoor
set_option maxRecDepth 20000
open Go.RowKit

/-- What a reader panics with. -/
def gave (e : Int) : List PanicEntry := [{ v := .iface 199 (.agg #[.int .i64 e]), recovered := false }]
/-- What a world holds of a reader in block b: its text, and where it stands. -/
def Rd (w : World) (b : Nat) (s : ByteArray) (at' : Nat) : Prop := w.heap[b]? = some (.cells #[.string s, .int .i64 at'] 203 (0, 0))
theorem rd_cell0 {w : World} {b : Nat} {u v : Value} {t : TypeId} (h : w.heap[b]? = some (.cells #[u, v] t (0, 0))) : w.cell? ⟨b, 0, none⟩ = some u := by simp [World.cell?, h]
theorem rd_cell1 {w : World} {b : Nat} {u v : Value} {t : TypeId} (h : w.heap[b]? = some (.cells #[u, v] t (0, 0))) : w.cell? ⟨b, 1, none⟩ = some v := by simp [World.cell?, h]
theorem rd_free {w : World} {b : Nat} {u v : Value} {t : TypeId} (i : Nat) (h : w.heap[b]? = some (.cells #[u, v] t (0, 0))) : w.frozen? ⟨b, i, none⟩ = false := by simp [World.frozen?, h]
theorem rd_set {w : World} {b : Nat} {u v x : Value} {t : TypeId} (h : w.heap[b]? = some (.cells #[u, v] t (0, 0))) : (w.setCell ⟨b, 1, none⟩ x).heap[b]? = some (.cells #[u, x] t (0, 0)) := by
  have hlt := lt_of_block h
  have h' : w.heap[b] = .cells #[u, v] t (0, 0) := by simpa [Array.getElem?_eq_getElem hlt] using h
  show (w.heap.modify b _)[b]? = _
  rw [Array.getElem?_eq_getElem (by simpa using hlt), Array.getElem_modify_self, h']
  rfl

theorem rd_step {w : World} {b : Nat} {s : ByteArray} {a : Nat} (h : Rd w b s a) (n q : Nat) (x : Int) (hx : x = ((a + n : Nat) : Int)) :
    Rd ((w.drewN q).setCell ⟨b, 1, none⟩ (.int .i64 x)) b s (a + n) ∧ Only b w ((w.drewN q).setCell ⟨b, 1, none⟩ (.int .i64 x)) := by
  subst hx
  have h' : (w.drewN q).heap[b]? = some (.cells #[.string s, .int .i64 a] 203 (0, 0)) := h
  exact ⟨rd_set h', (below_drewN (Below.refl 0 w) q).setCell (p := ⟨b, 1, none⟩) (Nat.zero_le _) _, fun k _ hb => Below.heap_setCell (w.drewN q) ⟨b, 1, none⟩ _ k hb⟩
theorem Rd.lt {w : World} {b : Nat} {s : ByteArray} {a : Nat} (h : Rd w b s a) : b < w.heap.size := lt_of_block h
theorem Rd.below {w w' : World} {b : Nat} {s : ByteArray} {a : Nat} (h : Rd w b s a) (hb : Below w.heap.size w w') : Rd w' b s a := (hb.block b h.lt).trans h

theorem must_yes (b : Nat) (w : World) : Calls Tryz.prog 122 #[.pointer (some ⟨b, 0, none⟩), .bool true] w fun e w' => e = .returned (.tuple #[]) ∧ w' = w := by
  go_enter Tryz.func122, Tryz.ntmps122
  go_wp2
  go_end0
  exact ⟨rfl, rfl⟩
theorem must_no (b : Nat) (w : World) : Calls Tryz.prog 122 #[.pointer (some ⟨b, 0, none⟩), .bool false] w fun e w' => e = .panicked (gave 5) ∧ w' = w := by
  go_enter Tryz.func122, Tryz.ntmps122
  go_wp2
  exact ⟨rfl, rfl, rfl⟩

set_option maxHeartbeats 400000 in
theorem number_any (b : Nat) (s : ByteArray) (a k : Nat) (h1 : 1 ≤ k) (h6 : k ≤ 6) (ha : a + k ≤ s.size) (hs : s.size ≤ 4096) (w : World) (h : Rd w b s a) :
    Calls Tryz.prog 120 #[.pointer (some ⟨b, 0, none⟩), .int .i64 k] w fun e w' => e = .returned (.int .i64 (leVal ((s.data.toList.drop a).take k))) ∧ Rd w' b s (a + k) ∧ Only b w w' := by
  have hc0 := rd_cell0 h
  have hc1 := rd_cell1 h
  have hf1 := rd_free 1 h
  have HR : Hid (Rd w b s a) := h
  have HN : Hid (getN s a k = leVal ((s.data.toList.drop a).take k) ∧ getE s a k = 0) := ⟨getN_ok h1 h6 ha, getE_ok h1 h6 ha⟩
  clear h
  go_enter Tryz.func120, Tryz.ntmps120
  go_wp2
  go_quiet ((go_at_call 113; exact Calls.quiet_of_same (get_any s a k (by unfold maxLen; omega) _)))
  rw [HN.out.1, HN.out.2]
  go_wp2
  go_ret
  exact ⟨rfl, rd_step HR.out k _ _ (by omega)⟩

set_option maxHeartbeats 400000 in
theorem number_short (b : Nat) (s : ByteArray) (a k : Nat) (h1 : 1 ≤ k) (h6 : k ≤ 6) (ha : ¬ a + k ≤ s.size) (hs : s.size ≤ 4096) (w : World) (h : Rd w b s a) :
    Calls Tryz.prog 120 #[.pointer (some ⟨b, 0, none⟩), .int .i64 k] w fun e w' => e = .panicked (gave 3) ∧ Below w.heap.size w w' := by
  have hc0 := rd_cell0 h
  have hc1 := rd_cell1 h
  have HN : Hid (getN s a k = 0 ∧ getE s a k = 3) := ⟨getN_no (.inr (.inr (by omega))), getE_short (by omega) (by omega) (.inr (by omega))⟩
  clear h
  go_enter Tryz.func120, Tryz.ntmps120
  go_wp2
  go_quiet ((go_at_call 113; exact Calls.quiet_of_same (get_any s a k (by unfold maxLen; omega) _)))
  rw [HN.out.1, HN.out.2]
  go_wp2
  exact ⟨rfl, rfl, below_drewN (Below.refl _ _) _⟩

set_option maxHeartbeats 400000 in
theorem bytes_any (b : Nat) (s : ByteArray) (a n : Nat) (ha : a + n ≤ s.size) (hs : s.size ≤ 4096) (w : World) (h : Rd w b s a) :
    Calls Tryz.prog 121 #[.pointer (some ⟨b, 0, none⟩), .int .i64 n] w fun e w' => e = .returned (.string (s.extract a (a + n))) ∧ Rd w' b s (a + n) ∧ Only b w w' := by
  have hc0 := rd_cell0 h
  have hc1 := rd_cell1 h
  have hf1 := rd_free 1 h
  have HR : Hid (Rd w b s a) := h
  have i1 : ¬ (s.size : Int) - a < n := by omega
  have i2 : (a : Int) + n ≤ s.size := by omega
  have i3 : (0 : Int) ≤ a := by omega
  have i4 : (a : Int) ≤ (a : Int) + n := by omega
  clear h
  go_enter Tryz.func121, Tryz.ntmps121
  go_wp2
  go_quiet (fail)
  go_wp2
  go_quiet (fail)
  go_wp2
  go_ret
  exact ⟨rfl, rd_step HR.out n _ _ (by omega)⟩

set_option maxHeartbeats 400000 in
theorem bytes_short (b : Nat) (s : ByteArray) (a n : Nat) (ha : ¬ a + n ≤ s.size) (hn : n ≤ 4096) (hs : s.size ≤ 4096) (hp : a ≤ 4096) (w : World) (h : Rd w b s a) :
    Calls Tryz.prog 121 #[.pointer (some ⟨b, 0, none⟩), .int .i64 n] w fun e w' => e = .panicked (gave 3) ∧ Below w.heap.size w w' := by
  have hc0 := rd_cell0 h
  have hc1 := rd_cell1 h
  have i1 : (s.size : Int) - a < n := by omega
  clear h
  go_enter Tryz.func121, Tryz.ntmps121
  go_wp2
  go_quiet (fail)
  go_wp2
  exact ⟨rfl, rfl, below_drewN (Below.refl _ _) _⟩
end Go.Proofs.YtbmjablmmlnieaaGreatDoor
