/- Plain facts on numbers and lists of bytes (bytes of a number, lowest first; a number of bytes; a text filled up; cells that are stored in a row): no program is named here. · Plain facts on the writer of package pack: what a world holds of one (its text, its error), and what numbers laid one behind the other come to: no program is named here. -/
import Derived.WalkKit
import Derived.Laws.BytesArg
import Derived.Laws.BitsLemmas
import Derived.Lib.LazyBuf
import Derived.Lib.AppendStr
import Derived.OneCell
namespace Go.Proofs.YtldkdoddklfdlaaGreatDoor
set_option maxRecDepth 20000

/-- The first k bytes of a number, the lowest first. -/
def leI (k : Nat) (n : Int) : List Int := (List.range k).map fun i => n / 256 ^ i % 256
theorem leI_length (k : Nat) (n : Int) : (leI k n).length = k := by simp [leI]
theorem leI_succ (k : Nat) (n : Int) : leI (k + 1) n = leI k n ++ [n / 256 ^ k % 256] := by simp [leI, List.range_succ]
theorem leI_get (k : Nat) (n : Int) (i : Nat) (h : i < k) : (leI k n).getD i 0 = n / 256 ^ i % 256 := by
  simp [leI, List.getD, h]

/-- What stands in a row of k bytes when the first j were laid. -/
def putRow (k j : Nat) (n : Int) : List Int := leI j n ++ List.replicate (k - j) 0
theorem putRow_zero (k : Nat) (n : Int) : putRow k 0 n = List.replicate k 0 := by simp [putRow, leI]
theorem putRow_full (k : Nat) (n : Int) : putRow k k n = leI k n := by simp [putRow]
theorem putRow_length (k j : Nat) (n : Int) (h : j ≤ k) : (putRow k j n).length = k := by simp [putRow, leI_length]; omega
theorem putRow_set (k j : Nat) (n : Int) (h : j < k) : (putRow k j n).set j (n / 256 ^ j % 256) = putRow k (j + 1) n := by
  unfold putRow
  rw [leI_succ, List.set_append_right _ _ (by rw [leI_length]; exact Nat.le_refl _), leI_length, Nat.sub_self]
  rw [show k - j = (k - (j + 1)) + 1 by omega, List.replicate_succ]
  simp
theorem pow_eq (j : Nat) : (2 : Int) ^ (8 * j) = 256 ^ j := by rw [Int.pow_mul]; rfl

/-- What Put tells: the bytes, and the error's number. -/
def putS (n k : Int) : ByteArray := if (1 ≤ k ∧ k ≤ 6) ∧ 0 ≤ n ∧ n < 256 ^ k.toNat then strOfNums (leI k.toNat n) else ByteArray.empty
def putE (n k : Int) : Int := if k < 1 ∨ 6 < k then 1 else if n < 0 ∨ 256 ^ k.toNat ≤ n then 2 else 0
theorem putS_noWidth {n k : Int} (h : k < 1 ∨ 6 < k) : putS n k = ByteArray.empty := by unfold putS; rw [if_neg (by omega)]
theorem putE_noWidth {n k : Int} (h : k < 1 ∨ 6 < k) : putE n k = 1 := by unfold putE; rw [if_pos h]
theorem putS_noRoom {n : Int} {m : Nat} (h : n < 0 ∨ 256 ^ m ≤ n) : putS n m = ByteArray.empty := by
  unfold putS; rw [Int.toNat_natCast, if_neg (by omega)]
theorem putE_noRoom {n : Int} {m : Nat} (h1 : 1 ≤ m) (h2 : m ≤ 6) (h : n < 0 ∨ 256 ^ m ≤ n) : putE n m = 2 := by
  unfold putE; rw [Int.toNat_natCast, if_neg (by omega), if_pos h]
theorem putS_ok {n : Int} {m : Nat} (h1 : 1 ≤ m) (h2 : m ≤ 6) (h : 0 ≤ n) (h' : n < 256 ^ m) : putS n m = strOfNums (leI m n) := by
  unfold putS; rw [Int.toNat_natCast, if_pos (by omega)]
theorem putE_ok {n : Int} {m : Nat} (h1 : 1 ≤ m) (h2 : m ≤ 6) (h : 0 ≤ n) (h' : n < 256 ^ m) : putE n m = 0 := by
  unfold putE; rw [Int.toNat_natCast, if_neg (by omega), if_neg (by omega)]
theorem leI_step (n : Int) (j : Nat) : n / 256 ^ j / 256 = n / 256 ^ (j + 1) := by
  rw [Int.pow_succ, Int.ediv_ediv_of_nonneg (Int.le_of_lt (Int.pow_pos (by decide)))]

/-- The number of some bytes, the lowest first. -/
def leVal : List UInt8 → Int
  | [] => 0
  | b :: r => (b.toNat : Int) + 256 * leVal r
theorem leVal_nonneg (l : List UInt8) : 0 ≤ leVal l := by
  induction l with
  | nil => exact Int.le_refl _
  | cons b r ih => unfold leVal; omega
theorem leVal_lt (l : List UInt8) : leVal l < 256 ^ l.length := by
  induction l with
  | nil => unfold leVal; decide
  | cons b r ih =>
    have hb : b.toNat < 256 := b.toNat_lt
    unfold leVal
    rw [List.length_cons, Int.pow_succ]
    omega
theorem leVal_snoc (l : List UInt8) (b : UInt8) : leVal (l ++ [b]) = leVal l + b.toNat * 256 ^ l.length := by
  induction l with
  | nil => simp [leVal]
  | cons c r ih =>
    rw [List.cons_append]
    unfold leVal
    rw [ih, List.length_cons, Int.pow_succ]
    rw [Int.mul_add, Int.add_assoc, Int.mul_left_comm, Int.mul_comm 256 (256 ^ r.length)]

theorem bits_or_comm (k : IntKind) (x y : Int) : bits .or k x y = bits .or k y x := by simp [bits, BitVec.or_comm]
theorem wraps_i64p (n : Int) (h : 0 ≤ n) (h' : n < 2 ^ 63) : IntKind.i64.wrap n = n := by
  simp [IntKind.wrap, IntKind.bits, IntKind.signed]
  split <;> omega
theorem or_lit (q b : Int) (j : Nat) (P : Int) (i : Nat) (hP : P = 2 ^ i) (hi : P ≤ 1099511627776) (hj : (2 : Int) ^ (8 * j) = P) (h0 : 0 ≤ q) (hq : q < P) (hb0 : 0 ≤ b) (hb : b < 256) :
    bits .or .i64 q (RowKit.wrap64 (RowKit.wrap64 b * 2 ^ (8 * j))) = q + b * P := by
  have hbp : 0 ≤ b * P ∧ b * P ≤ 255 * 1099511627776 := by
    have hP0 : 0 ≤ P := by omega
    refine ⟨Int.mul_nonneg hb0 hP0, Int.le_trans (Int.mul_le_mul_of_nonneg_right (show b ≤ 255 by omega) hP0) (by omega)⟩
  rw [hj, show RowKit.wrap64 b = b from by unfold RowKit.wrap64; omega, show RowKit.wrap64 (b * P) = b * P from by unfold RowKit.wrap64; omega, bits_or_comm]
  rw [bits_join .i64 63 (by decide) wraps_i64p i (b * P) q hbp.1 (by rw [hP]; exact Int.mul_emod_left _ _) (by omega) h0 (by rw [← hP]; exact hq) (by omega)]
  omega
/-- A byte that is laid above a number that stands below it. -/
theorem or_high (q b : Int) (j : Nat) (hj : j ≤ 5) (h0 : 0 ≤ q) (hq : q < 256 ^ j) (hb0 : 0 ≤ b) (hb : b < 256) :
    bits .or .i64 q (RowKit.wrap64 (RowKit.wrap64 b * 2 ^ (8 * j))) = q + b * 256 ^ j := by
  have hle : (256 : Int) ^ j ≤ 1099511627776 := by
    have : j = 0 ∨ j = 1 ∨ j = 2 ∨ j = 3 ∨ j = 4 ∨ j = 5 := by omega
    rcases this with rfl | rfl | rfl | rfl | rfl | rfl <;> decide
  exact or_lit q b j (256 ^ j) (8 * j) (pow_eq j).symm hle (pow_eq j) h0 hq hb0 hb
theorem take_drop_snoc (s : ByteArray) (a j : Nat) (h : a + j < s.size) : (s.data.toList.drop a).take (j + 1) = (s.data.toList.drop a).take j ++ [s[a + j]] := by
  have hl : s.data.toList.length = s.size := by simp
  rw [List.take_succ_eq_append_getElem (by simp; omega)]
  simp
  rfl
/-- The number of the bytes that stand at a place, with one byte more. -/
theorem numAt_snoc (s : ByteArray) (a j : Nat) (h : a + j < s.size) : leVal ((s.data.toList.drop a).take (j + 1)) = leVal ((s.data.toList.drop a).take j) + s[a + j].toNat * 256 ^ j := by
  have hl : s.data.toList.length = s.size := by simp
  rw [take_drop_snoc s a j h, leVal_snoc, List.length_take, List.length_drop, hl, Nat.min_eq_left (by omega)]
theorem numAt_lt (s : ByteArray) (a j : Nat) : leVal ((s.data.toList.drop a).take j) < 256 ^ j := by
  refine Int.lt_of_lt_of_le (leVal_lt _) ?_
  have : ((s.data.toList.drop a).take j).length ≤ j := List.length_take_le _ _
  have h2 := Nat.pow_le_pow_right (show 0 < 256 by decide) this
  have e : ∀ m : Nat, ((256 ^ m : Nat) : Int) = (256 : Int) ^ m := fun m => by rw [Int.natCast_pow]; rfl
  rw [← e, ← e]
  exact Int.ofNat_le.2 h2
theorem numAt_cons (s : ByteArray) (a j : Nat) (h : a < s.size) : leVal ((s.data.toList.drop a).take (j + 1)) = s[a].toNat + 256 * leVal ((s.data.toList.drop (a + 1)).take j) := by
  have hl : s.data.toList.length = s.size := by simp
  rw [List.drop_eq_getElem_cons (by omega), List.take_succ_cons]
  rfl
theorem pow6 (j : Nat) (h : j ≤ 6) : (256 : Int) ^ j ≤ 281474976710656 := by
  have : j = 0 ∨ j = 1 ∨ j = 2 ∨ j = 3 ∨ j = 4 ∨ j = 5 ∨ j = 6 := by omega
  rcases this with rfl | rfl | rfl | rfl | rfl | rfl | rfl <;> decide
/-- What Get tells. -/
def getN (s : ByteArray) (a k : Int) : Int := if (1 ≤ k ∧ k ≤ 6) ∧ 0 ≤ a ∧ a ≤ s.size - k then leVal ((s.data.toList.drop a.toNat).take k.toNat) else 0
def getE (s : ByteArray) (a k : Int) : Int := if k < 1 ∨ 6 < k then 1 else if a < 0 ∨ s.size - k < a then 3 else 0
theorem getN_no {s : ByteArray} {a k : Int} (h : (k < 1 ∨ 6 < k) ∨ a < 0 ∨ s.size - k < a) : getN s a k = 0 := by unfold getN; rw [if_neg (by omega)]
theorem getE_noWidth {s : ByteArray} {a k : Int} (h : k < 1 ∨ 6 < k) : getE s a k = 1 := by unfold getE; rw [if_pos h]
theorem getE_short {s : ByteArray} {a k : Int} (h1 : 1 ≤ k) (h2 : k ≤ 6) (h : a < 0 ∨ s.size - k < a) : getE s a k = 3 := by
  unfold getE; rw [if_neg (by omega), if_pos h]
theorem getE_ok {s : ByteArray} {a k : Nat} (h1 : 1 ≤ k) (h2 : k ≤ 6) (h : a + k ≤ s.size) : getE s a k = 0 := by
  unfold getE; rw [if_neg (by omega), if_neg (by omega)]
theorem getN_ok {s : ByteArray} {a k : Nat} (h1 : 1 ≤ k) (h2 : k ≤ 6) (h : a + k ≤ s.size) : getN s a k = leVal ((s.data.toList.drop a).take k) := by
  unfold getN; rw [if_pos (by omega)]; simp

/-- What Pad tells. -/
def padS (s : ByteArray) (n : Int) : ByteArray := if (0 ≤ n ∧ n ≤ 4096) ∧ s.size ≤ n then ⟨(s.data.toList ++ List.replicate (n.toNat - s.size) 0).toArray⟩ else ByteArray.empty
def padE (s : ByteArray) (n : Int) : Int := if n < 0 ∨ 4096 < n then 1 else if n < s.size then 4 else 0
theorem padS_no {s : ByteArray} {n : Int} (h : (n < 0 ∨ 4096 < n) ∨ n < s.size) : padS s n = ByteArray.empty := by unfold padS; rw [if_neg (by omega)]
theorem padE_arg {s : ByteArray} {n : Int} (h : n < 0 ∨ 4096 < n) : padE s n = 1 := by unfold padE; rw [if_pos h]
theorem padE_long {s : ByteArray} {n : Nat} (h1 : n ≤ 4096) (h : n < s.size) : padE s n = 4 := by unfold padE; rw [if_neg (by omega), if_pos (by omega)]
theorem padS_ok {s : ByteArray} {n : Nat} (h1 : n ≤ 4096) (h : s.size ≤ n) : padS s n = ⟨(s.data.toList ++ List.replicate (n - s.size) 0).toArray⟩ := by
  unfold padS; rw [if_pos (by omega), Int.toNat_natCast]
theorem padE_ok {s : ByteArray} {n : Nat} (h1 : n ≤ 4096) (h : s.size ≤ n) : padE s n = 0 := by unfold padE; rw [if_neg (by omega), if_neg (by omega)]
/-- The numbers of a text's bytes, and of noughts behind. -/
def padNums (s : ByteArray) (n : Nat) : List Int := s.data.toList.map (fun x => (x.toNat : Int)) ++ List.replicate (n - s.size) 0
theorem padNums_length (s : ByteArray) (n : Nat) (h : s.size ≤ n) : (padNums s n).length = n := by
  have hl : s.data.toList.length = s.size := by simp
  simp only [padNums, List.length_append, List.length_map, hl, List.length_replicate]; omega
theorem str_map_nums (l : List UInt8) : strOfNums (l.map fun x => (x.toNat : Int)) = ⟨l.toArray⟩ := by
  unfold strOfNums
  rw [List.map_map]
  congr 1
  congr 1
  conv => rhs; rw [← List.map_id l]
  apply List.map_congr_left
  intro x _
  simp
theorem strOf_padNums (s : ByteArray) (n : Nat) : strOfNums (padNums s n) = ⟨(s.data.toList ++ List.replicate (n - s.size) 0).toArray⟩ := by
  rw [← str_map_nums]
  unfold padNums
  congr 1
  simp
theorem str_append (s : ByteArray) (l : List Int) : s ++ strOfNums l = ⟨(s.data.toList ++ l.map fun n => UInt8.ofNat n.toNat).toArray⟩ := by
  apply ByteArray.ext
  apply Array.toList_inj.1
  simp [strOfNums]
/-- So many bytes 0. -/
def noughtsS (m : Nat) : ByteArray := strOfNums (List.replicate m 0)
theorem noughtsS_size (m : Nat) : (noughtsS m).size = m := by unfold noughtsS; rw [strOfNums_size]; simp
theorem pad_append (s : ByteArray) (m : Nat) : s ++ noughtsS m = ⟨(s.data.toList ++ List.replicate m 0).toArray⟩ := by
  unfold noughtsS; rw [str_append]; simp

/-- Cells that are stored one behind the other. -/
def setMany (xs : List Value) : Nat → List Value → List Value
  | _, [] => xs
  | o, v :: r => setMany (xs.set o v) (o + 1) r
theorem setMany_eq : ∀ (vs : List Value) (xs : List Value) (o : Nat), o + vs.length ≤ xs.length → setMany xs o vs = xs.take o ++ vs ++ xs.drop (o + vs.length)
  | [], xs, o, _ => by simp [setMany]
  | v :: r, xs, o, h => by
    have ho : o < xs.length := by simp at h; omega
    rw [setMany, setMany_eq r _ _ (by simp at h ⊢; omega)]
    rw [List.take_set, List.take_succ_eq_append_getElem ho, List.set_append_right _ _ (by simp; omega), List.drop_set]
    rw [if_pos (by omega)]
    simp [Nat.min_eq_left (Nat.le_of_lt ho)]
    rw [show o + 1 + r.length = o + (r.length + 1) by omega]
theorem ownsRow_setCells {base g n cap : Nat} {e : TypeId} : ∀ (vs : List Value) (o : Nat) (w : World) (xs : List Value), w.ownsRow base e 1 (.slice (some ⟨g, 0, none⟩) n cap) n xs →
    (w.setCells g o vs).ownsRow base e 1 (.slice (some ⟨g, 0, none⟩) n cap) n (setMany xs o vs)
  | [], _, _, _, h => h
  | v :: r, o, _, _, h => ownsRow_setCells r (o + 1) _ _ (h.stored o v).1

/-- 'copy' of a text into a slice that has room for it, as a step of a list of operations. -/
theorem wpList_copy_text {P : Program} {w : World} {ops : Array Oper} {rest : List Oper} {o : Oper} {a : Act} {Q : Exit → Act → World → Prop} (hgd : o.guard = none) (d x : Operand) (dT sT : TypeId)
    (ho : o.op = .call { callee := .builtin .copy, args := #[d, x], argTypes := #[dT, sT] }) (elem : TypeId) (hu : P.underlying dT = some (.slice elem)) (hz : ∀ w, (Go.sizeOf elem).run P w = .ok 1 w)
    (b off dLen dCap : Nat) (hd : a.eval d = .slice (some ⟨b, off, none⟩) dLen dCap) (t : ByteArray) (hx : a.eval x = .string t) (hle : t.size ≤ dLen)
    (hc : ∀ j, j < t.size → (w.cell? ⟨b, off + j, none⟩).isSome = true) (hf : ∀ j, j < t.size → w.frozen? ⟨b, off + j, none⟩ = false)
    (h : wpList P ops Q rest (a.put o.dst (goInt t.size)) (w.setCells b off (t.data.toList.map fun x => Value.int .u8 (x.toNat : Int)))) : wpList P ops Q (o :: rest) a w := by
  refine wpList_plain hgd fun K hK => ?_
  have hrun := run_copy_string (P := P) w dT sT o.type elem b off dLen dCap t hu hz hle hc hf
  unfold Oper.wp
  simp [execOp, ho, resolve, invoke, builtin, hd, hx, hrun, Result.andThen]
  exact hK _ _ h
end Go.Proofs.YtldkdoddklfdlaaGreatDoor

namespace Go.Proofs.YtldkdoddklfdlaaGreatDoor
set_option maxRecDepth 20000
open Go.RowKit Go.Lib

theorem two_cell0 {w : World} {b : Nat} {u v : Value} {t : TypeId} (h : w.heap[b]? = some (.cells #[u, v] t (0, 0))) : w.cell? ⟨b, 0, none⟩ = some u := by simp [World.cell?, h]
theorem two_cell1 {w : World} {b : Nat} {u v : Value} {t : TypeId} (h : w.heap[b]? = some (.cells #[u, v] t (0, 0))) : w.cell? ⟨b, 1, none⟩ = some v := by simp [World.cell?, h]
theorem two_free {w : World} {b : Nat} {u v : Value} {t : TypeId} (i : Nat) (h : w.heap[b]? = some (.cells #[u, v] t (0, 0))) : w.frozen? ⟨b, i, none⟩ = false := by simp [World.frozen?, h]
theorem two_set0 {w : World} {b : Nat} {u v x : Value} {t : TypeId} (h : w.heap[b]? = some (.cells #[u, v] t (0, 0))) : (w.setCell ⟨b, 0, none⟩ x).heap[b]? = some (.cells #[x, v] t (0, 0)) := by
  have hlt := lt_of_block h
  have h' : w.heap[b] = .cells #[u, v] t (0, 0) := by simpa [Array.getElem?_eq_getElem hlt] using h
  show (w.heap.modify b _)[b]? = _
  rw [Array.getElem?_eq_getElem (by simpa using hlt), Array.getElem_modify_self, h']
  rfl
theorem two_set1 {w : World} {b : Nat} {u v x : Value} {t : TypeId} (h : w.heap[b]? = some (.cells #[u, v] t (0, 0))) : (w.setCell ⟨b, 1, none⟩ x).heap[b]? = some (.cells #[u, x] t (0, 0)) := by
  have hlt := lt_of_block h
  have h' : w.heap[b] = .cells #[u, v] t (0, 0) := by simpa [Array.getElem?_eq_getElem hlt] using h
  show (w.heap.modify b _)[b]? = _
  rw [Array.getElem?_eq_getElem (by simpa using hlt), Array.getElem_modify_self, h']
  rfl

/-- The cells of some bytes. -/
def byteCells (l : List UInt8) : List Value := l.map fun b => Value.int .u8 (b.toNat : Int)
theorem byteCells_length (l : List UInt8) : (byteCells l).length = l.length := by simp [byteCells]
theorem byteCells_append (l m : List UInt8) : byteCells l ++ byteCells m = byteCells (l ++ m) := by simp [byteCells]
theorem byteCells_str (s : ByteArray) : strCells s = byteCells s.data.toList := rfl

/-- What a world holds of a writer in block b: its text and its error. -/
def Wr (w : World) (T E : TypeId) (b : Nat) (l : List UInt8) (e : Int) : Prop :=
  ∃ v, w.heap[b]? = some (.cells #[v, .int .i64 e] T (0, 0)) ∧ w.ownsRow (b + 1) E 1 v l.length (byteCells l)

theorem ownsRow_below {w w' : World} {base : Nat} {e : TypeId} {size : Nat} {v : Value} {n : Nat} {xs : List Value} (hb : Below w.heap.size w w') (h : w.ownsRow base e size v n xs) : w'.ownsRow base e size v n xs := by
  obtain ⟨h1, h2⟩ := h
  refine ⟨h1, ?_⟩
  rcases h2 with h2 | ⟨g, cap, cur, hv, hg, hh, r⟩
  · exact .inl h2
  · exact .inr ⟨g, cap, cur, hv, hg, by rw [hb.block g (lt_of_block hh)]; exact hh, r⟩
theorem Wr.below {w w' : World} {T E : TypeId} {b : Nat} {l : List UInt8} {e : Int} (h : Wr w T E b l e) (hb : Below w.heap.size w w') : Wr w' T E b l e := by
  obtain ⟨v, h1, h2⟩ := h
  exact ⟨v, by rw [hb.block b (lt_of_block h1)]; exact h1, ownsRow_below hb h2⟩
theorem Wr.lt {w : World} {T E : TypeId} {b : Nat} {l : List UInt8} {e : Int} (h : Wr w T E b l e) : b < w.heap.size := by
  obtain ⟨v, h1, h2⟩ := h
  exact lt_of_block h1

/-- The error behind a number that is laid. -/
def stepE (e n k : Int) : Int := if putE n k = 0 then e else putE n k
/-- Numbers, each in its width: their bytes, and whether all have room. -/
def laidL : List (Int × Int) → List UInt8
  | [] => []
  | p :: r => (putS p.1 p.2).data.toList ++ laidL r
def laidOk : List (Int × Int) → Bool
  | [] => true
  | p :: r => (putE p.1 p.2 == 0) && laidOk r
def errL : Int → List (Int × Int) → Int
  | e, [] => e
  | e, p :: r => errL (stepE e p.1 p.2) r
def widths : List (Int × Int) → Bool
  | [] => true
  | p :: r => (decide (1 ≤ p.2) && decide (p.2 ≤ 6)) && widths r
theorem putE_two {n k : Int} (h1 : 1 ≤ k) (h6 : k ≤ 6) : putE n k = 0 ∨ putE n k = 2 := by
  unfold putE
  rw [if_neg (by omega)]
  split
  · exact .inr rfl
  · exact .inl rfl
theorem errL_two : ∀ (ps : List (Int × Int)), widths ps = true → errL 2 ps = 2
  | [], _ => rfl
  | p :: r, h => by
    simp only [widths, Bool.and_eq_true, decide_eq_true_eq] at h
    rcases putE_two (n := p.1) h.1.1 h.1.2 with e | e
    · rw [errL, stepE, if_pos e, errL_two r h.2]
    · rw [errL, stepE, if_neg (by omega), e, errL_two r h.2]
theorem errL_ok : ∀ (ps : List (Int × Int)), widths ps = true → errL 0 ps = if laidOk ps = true then 0 else 2
  | [], _ => rfl
  | p :: r, h => by
    simp only [widths, Bool.and_eq_true, decide_eq_true_eq] at h
    rcases putE_two (n := p.1) h.1.1 h.1.2 with e | e
    · rw [errL, stepE, if_pos e, errL_ok r h.2]
      simp [laidOk, e]
    · rw [errL, stepE, if_neg (by omega), e, errL_two r h.2]
      simp [laidOk, e]
theorem putS_size {n k : Int} (h : putE n k = 0) : (putS n k).data.toList.length = k.toNat := by
  unfold putE at h
  split at h
  · omega
  · split at h
    · omega
    · unfold putS
      rw [if_pos (by omega)]
      simp [strOfNums, leI_length]
/-- How many bytes numbers take. -/
def widthSum : List (Int × Int) → Nat
  | [] => 0
  | p :: r => p.2.toNat + widthSum r
theorem laidL_length : ∀ (ps : List (Int × Int)), laidOk ps = true → (laidL ps).length = widthSum ps
  | [], _ => rfl
  | p :: r, h => by
    simp only [laidOk, Bool.and_eq_true, beq_iff_eq] at h
    rw [laidL, List.length_append, putS_size h.1, laidL_length r h.2, widthSum]
theorem putS_le (n k : Int) : (putS n k).data.toList.length ≤ 6 := by
  unfold putS
  split
  · simp [strOfNums, leI_length]; omega
  · simp
theorem laidL_le : ∀ (ps : List (Int × Int)), (laidL ps).length ≤ 6 * ps.length
  | [] => Nat.le_refl _
  | p :: r => by
    have := putS_le p.1 p.2
    have := laidL_le r
    rw [laidL, List.length_append, List.length_cons]
    omega
theorem laidL_append : ∀ (ps qs : List (Int × Int)), laidL (ps ++ qs) = laidL ps ++ laidL qs
  | [], _ => rfl
  | p :: r, qs => by rw [List.cons_append, laidL, laidL, laidL_append r qs, List.append_assoc]
theorem errL_append : ∀ (ps qs : List (Int × Int)) (e : Int), errL e (ps ++ qs) = errL (errL e ps) qs
  | [], _, _ => rfl
  | p :: r, qs, e => by rw [List.cons_append, errL, errL, errL_append r qs]
/-- What a record of numbers tells: bytes ahead, the numbers', bytes 0 behind; and the error. -/
def recS (pre : List UInt8) (ps : List (Int × Int)) (z : Nat) : ByteArray := if laidOk ps = true then ⟨(pre ++ laidL ps ++ List.replicate z 0).toArray⟩ else ByteArray.empty
def recE (ps : List (Int × Int)) : Int := if laidOk ps = true then 0 else 2
theorem recS_no {pre : List UInt8} {ps : List (Int × Int)} {z : Nat} (h : laidOk ps = false) : recS pre ps z = ByteArray.empty := by simp [recS, h]
theorem recE_no {ps : List (Int × Int)} (h : laidOk ps = false) : recE ps = 2 := by simp [recE, h]
theorem recS_ok {pre : List UInt8} {ps : List (Int × Int)} {z : Nat} (h : laidOk ps = true) : recS pre ps z = ⟨(pre ++ laidL ps ++ List.replicate z 0).toArray⟩ := by simp [recS, h]
theorem recE_ok {ps : List (Int × Int)} (h : laidOk ps = true) : recE ps = 0 := by simp [recE, h]
/-- A text of some bytes, filled up to so many that z lack. -/
theorem padS_rec {l : List UInt8} {n z : Nat} (hn : n ≤ 4096) (h : l.length + z = n) : padS ⟨l.toArray⟩ n = ⟨(l ++ List.replicate z 0).toArray⟩ := by
  have hs : (⟨l.toArray⟩ : ByteArray).size = l.length := by simp [ByteArray.size]
  rw [padS_ok hn (by rw [hs]; omega), hs, show n - l.length = z by omega]
theorem padE_rec {l : List UInt8} {n z : Nat} (hn : n ≤ 4096) (h : l.length + z = n) : padE ⟨l.toArray⟩ n = 0 := by
  have hs : (⟨l.toArray⟩ : ByteArray).size = l.length := by simp [ByteArray.size]
  rw [padE_ok hn (by rw [hs]; omega)]
/-- The cells of a block that was laid, with another one behind it. -/
theorem cells_boxed (w : World) (xs : Array Value) (t : TypeId) (o : Obj) (i : Nat) (v : Value) (h : xs[i]? = some v) : ((w.alloc (.cells xs t)).alloc o).cell? ⟨w.heap.size, i, none⟩ = some v := by
  rw [World.cell?_alloc_past _ _ _ (by simp), World.cell?_alloc_at _ _ _ _ rfl]
  exact h
/-- .. and behind a call that changes nothing that was there. -/
theorem cells_kept {w w1 : World} {xs : Array Value} {t : TypeId} (hb : Below (w.alloc (.cells xs t)).heap.size (w.alloc (.cells xs t)) w1) (i : Nat) (v : Value) (h : xs[i]? = some v) : w1.cell? ⟨w.heap.size, i, none⟩ = some v := by
  rw [hb.cell (p := ⟨w.heap.size, i, none⟩) (by simp), World.cell?_alloc_at _ _ _ _ rfl]
  exact h
/-- A head's numbers, each with its width. -/
def headPs (a0 a1 a2 a3 a4 a5 a6 a7 : Int) : List (Int × Int) := [(a0, 6), (a1, 4), (a2, 2), (a3, 4), (a4, 4), (a5, 4), (a6, 6), (a7, 6)]
/-- Some bytes, and so many bytes 0 behind. -/
def padL (l : List UInt8) (z : Nat) : ByteArray := ⟨(l ++ List.replicate z 0).toArray⟩
theorem padL_add (l : List UInt8) (r : ByteArray) (z : Nat) : (⟨l.toArray⟩ ++ r) ++ noughtsS z = padL (l ++ r.data.toList) z := by
  rw [pad_append]
  unfold padL
  congr 1
/-- A superblock's numbers, each with its width; its bytes and its error. -/
def superPs (a0 a1 a2 a3 : Int) : List (Int × Int) := [(a0, 6), (a1, 6), (a2, 6), (a3, 4)]
def superS (a0 a1 a2 a3 : Int) (r : ByteArray) : ByteArray := if r.size = 32 ∧ laidOk (superPs a0 a1 a2 a3) = true then padL (laidL (superPs a0 a1 a2 a3) ++ r.data.toList) 394 else ByteArray.empty
def superE (a0 a1 a2 a3 : Int) (r : ByteArray) : Int := if r.size = 32 then recE (superPs a0 a1 a2 a3) else 1
/-- Whether an entry has a name, or no numbers; its numbers, the bytes ahead of them, its bytes and its error. -/
def entFree (s : ByteArray) (a1 a2 : Int) : Bool := !(s.size == 0) || (a1 == 0 && a2 == 0)
def entPs (a1 a2 : Int) : List (Int × Int) := [(a1, 4), (a2, 4)]
def entPre (s : ByteArray) : List UInt8 := (putS s.size 1).data.toList ++ s.data.toList ++ List.replicate (19 - s.size) 0
def entS (s : ByteArray) (a1 a2 : Int) : ByteArray := if s.size ≤ 19 ∧ entFree s a1 a2 = true then recS (entPre s) (entPs a1 a2) 0 else ByteArray.empty
def entE (s : ByteArray) (a1 a2 : Int) : Int := if s.size ≤ 19 then if entFree s a1 a2 = true then recE (entPs a1 a2) else 5 else 4
theorem toList_some {s : ByteArray} (h : ¬ s.size = 0) : s.toList.isEmpty = false := by
  rw [ByteArray.toList_eq, ← Bool.not_eq_true, List.isEmpty_iff]
  intro e
  apply h
  have : s.data.toList.length = s.size := by simp
  rw [← this, e]
  rfl
theorem entLen {s : ByteArray} (h : s.size ≤ 19) : putE s.size 1 = 0 ∧ (putS s.size 1).data.toList.length = 1 := by
  have e : putE s.size 1 = 0 := putE_ok (m := 1) (by decide) (by decide) (by omega) (by simp; omega)
  exact ⟨e, by rw [putS_size e]; rfl⟩
/-- An inode's numbers: the first four, so many of its twelve blocks, the last two; its bytes and its error. -/
def inoPs (a0 a1 a2 a3 : Int) (d : Nat → Int) (j : Nat) : List (Int × Int) := [(a0, 2), (a1, 4), (a2, 6), (a3, 4)] ++ (List.range j).map fun i => (d i, 4)
def inodePs (a0 a1 a2 a3 : Int) (d : Nat → Int) (a4 a5 : Int) : List (Int × Int) := inoPs a0 a1 a2 a3 d 12 ++ [(a4, 4)] ++ [(a5, 4)]
def inodeS (a0 a1 a2 a3 : Int) (d : Nat → Int) (a4 a5 : Int) : ByteArray := if 0 ≤ a0 ∧ a0 ≤ 3 then recS [] (inodePs a0 a1 a2 a3 d a4 a5) 376 else ByteArray.empty
def inodeE (a0 a1 a2 a3 : Int) (d : Nat → Int) (a4 a5 : Int) : Int := if 0 ≤ a0 ∧ a0 ≤ 3 then recE (inodePs a0 a1 a2 a3 d a4 a5) else 2
theorem inoPs_succ (a0 a1 a2 a3 : Int) (d : Nat → Int) (j : Nat) : inoPs a0 a1 a2 a3 d j ++ [(d j, 4)] = inoPs a0 a1 a2 a3 d (j + 1) := by
  unfold inoPs; rw [List.range_succ, List.map_append, List.append_assoc]; rfl
theorem widths_append : ∀ (ps qs : List (Int × Int)), widths (ps ++ qs) = (widths ps && widths qs)
  | [], _ => by simp [widths]
  | p :: r, qs => by rw [List.cons_append, widths, widths, widths_append r qs]; simp only [Bool.and_assoc]
theorem widthSum_append : ∀ (ps qs : List (Int × Int)), widthSum (ps ++ qs) = widthSum ps + widthSum qs
  | [], _ => by simp [widthSum]
  | p :: r, qs => by rw [List.cons_append, widthSum, widthSum, widthSum_append r qs, Nat.add_assoc]
theorem fours (d : Nat → Int) : ∀ j : Nat, widths ((List.range j).map fun i => (d i, (4 : Int))) = true ∧ widthSum ((List.range j).map fun i => (d i, (4 : Int))) = 4 * j
  | 0 => ⟨rfl, rfl⟩
  | j + 1 => by
    have ih := fours d j
    rw [List.range_succ, List.map_append, widths_append, widthSum_append, ih.1, ih.2]
    exact ⟨rfl, by show 4 * j + 4 = 4 * (j + 1); omega⟩
theorem inode_widths (a0 a1 a2 a3 a4 a5 : Int) (d : Nat → Int) : widths (inodePs a0 a1 a2 a3 d a4 a5) = true ∧ widthSum (inodePs a0 a1 a2 a3 d a4 a5) = 72 := by
  have h := fours d 12
  unfold inodePs inoPs
  rw [widths_append, widths_append, widths_append, widthSum_append, widthSum_append, widthSum_append, h.1, h.2]
  exact ⟨rfl, rfl⟩
theorem inoPs_length (a0 a1 a2 a3 : Int) (d : Nat → Int) (j : Nat) : (inoPs a0 a1 a2 a3 d j).length = 4 + j := by simp [inoPs]; omega
end Go.Proofs.YtldkdoddklfdlaaGreatDoor
