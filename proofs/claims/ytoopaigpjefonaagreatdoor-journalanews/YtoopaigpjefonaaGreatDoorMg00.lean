/- Plain facts on numbers and lists of bytes (bytes of a number, lowest first; a number of bytes; a text filled up; cells that are stored in a row): no program is named here. · Plain facts on the writer of package pack: what a world holds of one (its text, its error), and what numbers laid one behind the other come to: no program is named here. · pack.Put, called with any two numbers, tells the bytes putS and the error putE, and changes nothing that was there. · pack.isZero, called with any text, tells whether all its bytes are 0 (by strings.Trim at the cutset of the one byte 0), and changes nothing. · Numbers read out of a text, each in its width, are laid as the text's bytes; nothing of the program. · pack.Get, called with any text and any two numbers, tells the number getN and the error getE, and changes nothing. · Lists of numbers, bytes, blocks of cells, parts of a block written anew, bits of numbers: nothing of the program. · The reader of package pack: number and bytes tell the next bytes of its text and go on, or panic with what a reader gives up with where bytes lack; must panics with it where it is told no. -/
import Derived.WalkKit
import Derived.Laws.BytesArg
import Derived.Laws.BitsLemmas
import Derived.Lib.LazyBuf
import Derived.Lib.AppendStr
import Derived.OneCell
import Derived.Test.YtoopaigpjefonaaGreatDoorRows
import Derived.WalkSpells
import Derived.WalkLawsBesides
import Derived.Below
import Derived.BigQuiet
import Derived.Deep.RegionHeld3
import Derived.Deep.QuietTactic
import Derived.Test.YtoopaigpjefonaaGreatDoorProg
import Derived.Laws.BitsAllLaws
import Derived.Lib.SliceRun
import Derived.Deep.WholeRow
namespace Go.Proofs.YtoopaigpjefonaaGreatDoor
set_option maxRecDepth 20000

/-- The first k bytes of a number, the lowest first. -/
def leI (k : Nat) (n : Int) : List Int := (List.range k).map fun i => n / 256 ^ i % 256
theorem leI_length (k : Nat) (n : Int) : (leI k n).length = k := by simp [leI]
theorem leI_succ (k : Nat) (n : Int) : leI (k + 1) n = leI k n ++ [n / 256 ^ k % 256] := by simp [leI, List.range_succ]
theorem leI_get (k : Nat) (n : Int) (i : Nat) (h : i < k) : (leI k n).getD i 0 = n / 256 ^ i % 256 := by
  simp [leI, List.getD, h]

/-- What stands in a row of k bytes when the first j were laid. -/
def putRow (k j : Nat) (n : Int) : List Int := leI j n ++ List.replicate (k - j) 0
theorem putRow_zero (k : Nat) (n : Int) : putRow k 0 n = List.replicate k 0 := by simp [putRow, leI]
theorem putRow_full (k : Nat) (n : Int) : putRow k k n = leI k n := by simp [putRow]
theorem putRow_length (k j : Nat) (n : Int) (h : j ≤ k) : (putRow k j n).length = k := by simp [putRow, leI_length]; omega
theorem putRow_set (k j : Nat) (n : Int) (h : j < k) : (putRow k j n).set j (n / 256 ^ j % 256) = putRow k (j + 1) n := by
  unfold putRow
  rw [leI_succ, List.set_append_right _ _ (by rw [leI_length]; exact Nat.le_refl _), leI_length, Nat.sub_self]
  rw [show k - j = (k - (j + 1)) + 1 by omega, List.replicate_succ]
  simp
theorem pow_eq (j : Nat) : (2 : Int) ^ (8 * j) = 256 ^ j := by rw [Int.pow_mul]; rfl

/-- What Put tells: the bytes, and the error's number. -/
def putS (n k : Int) : ByteArray := if (1 ≤ k ∧ k ≤ 6) ∧ 0 ≤ n ∧ n < 256 ^ k.toNat then strOfNums (leI k.toNat n) else ByteArray.empty
def putE (n k : Int) : Int := if k < 1 ∨ 6 < k then 1 else if n < 0 ∨ 256 ^ k.toNat ≤ n then 2 else 0
theorem putS_noWidth {n k : Int} (h : k < 1 ∨ 6 < k) : putS n k = ByteArray.empty := by unfold putS; rw [if_neg (by omega)]
theorem putE_noWidth {n k : Int} (h : k < 1 ∨ 6 < k) : putE n k = 1 := by unfold putE; rw [if_pos h]
theorem putS_noRoom {n : Int} {m : Nat} (h : n < 0 ∨ 256 ^ m ≤ n) : putS n m = ByteArray.empty := by
  unfold putS; rw [Int.toNat_natCast, if_neg (by omega)]
theorem putE_noRoom {n : Int} {m : Nat} (h1 : 1 ≤ m) (h2 : m ≤ 6) (h : n < 0 ∨ 256 ^ m ≤ n) : putE n m = 2 := by
  unfold putE; rw [Int.toNat_natCast, if_neg (by omega), if_pos h]
theorem putS_ok {n : Int} {m : Nat} (h1 : 1 ≤ m) (h2 : m ≤ 6) (h : 0 ≤ n) (h' : n < 256 ^ m) : putS n m = strOfNums (leI m n) := by
  unfold putS; rw [Int.toNat_natCast, if_pos (by omega)]
theorem putE_ok {n : Int} {m : Nat} (h1 : 1 ≤ m) (h2 : m ≤ 6) (h : 0 ≤ n) (h' : n < 256 ^ m) : putE n m = 0 := by
  unfold putE; rw [Int.toNat_natCast, if_neg (by omega), if_neg (by omega)]
theorem leI_step (n : Int) (j : Nat) : n / 256 ^ j / 256 = n / 256 ^ (j + 1) := by
  rw [Int.pow_succ, Int.ediv_ediv_of_nonneg (Int.le_of_lt (Int.pow_pos (by decide)))]

/-- The number of some bytes, the lowest first. -/
def leVal : List UInt8 → Int
  | [] => 0
  | b :: r => (b.toNat : Int) + 256 * leVal r
theorem leVal_nonneg (l : List UInt8) : 0 ≤ leVal l := by
  induction l with
  | nil => exact Int.le_refl _
  | cons b r ih => unfold leVal; omega
theorem leVal_lt (l : List UInt8) : leVal l < 256 ^ l.length := by
  induction l with
  | nil => unfold leVal; decide
  | cons b r ih =>
    have hb : b.toNat < 256 := b.toNat_lt
    unfold leVal
    rw [List.length_cons, Int.pow_succ]
    omega
theorem leVal_snoc (l : List UInt8) (b : UInt8) : leVal (l ++ [b]) = leVal l + b.toNat * 256 ^ l.length := by
  induction l with
  | nil => simp [leVal]
  | cons c r ih =>
    rw [List.cons_append]
    unfold leVal
    rw [ih, List.length_cons, Int.pow_succ]
    rw [Int.mul_add, Int.add_assoc, Int.mul_left_comm, Int.mul_comm 256 (256 ^ r.length)]

theorem bits_or_comm (k : IntKind) (x y : Int) : bits .or k x y = bits .or k y x := by simp [bits, BitVec.or_comm]
theorem wraps_i64p (n : Int) (h : 0 ≤ n) (h' : n < 2 ^ 63) : IntKind.i64.wrap n = n := by
  simp [IntKind.wrap, IntKind.bits, IntKind.signed]
  split <;> omega
theorem or_lit (q b : Int) (j : Nat) (P : Int) (i : Nat) (hP : P = 2 ^ i) (hi : P ≤ 1099511627776) (hj : (2 : Int) ^ (8 * j) = P) (h0 : 0 ≤ q) (hq : q < P) (hb0 : 0 ≤ b) (hb : b < 256) :
    bits .or .i64 q (RowKit.wrap64 (RowKit.wrap64 b * 2 ^ (8 * j))) = q + b * P := by
  have hbp : 0 ≤ b * P ∧ b * P ≤ 255 * 1099511627776 := by
    have hP0 : 0 ≤ P := by omega
    refine ⟨Int.mul_nonneg hb0 hP0, Int.le_trans (Int.mul_le_mul_of_nonneg_right (show b ≤ 255 by omega) hP0) (by omega)⟩
  rw [hj, show RowKit.wrap64 b = b from by unfold RowKit.wrap64; omega, show RowKit.wrap64 (b * P) = b * P from by unfold RowKit.wrap64; omega, bits_or_comm]
  rw [bits_join .i64 63 (by decide) wraps_i64p i (b * P) q hbp.1 (by rw [hP]; exact Int.mul_emod_left _ _) (by omega) h0 (by rw [← hP]; exact hq) (by omega)]
  omega
/-- A byte that is laid above a number that stands below it. -/
theorem or_high (q b : Int) (j : Nat) (hj : j ≤ 5) (h0 : 0 ≤ q) (hq : q < 256 ^ j) (hb0 : 0 ≤ b) (hb : b < 256) :
    bits .or .i64 q (RowKit.wrap64 (RowKit.wrap64 b * 2 ^ (8 * j))) = q + b * 256 ^ j := by
  have hle : (256 : Int) ^ j ≤ 1099511627776 := by
    have : j = 0 ∨ j = 1 ∨ j = 2 ∨ j = 3 ∨ j = 4 ∨ j = 5 := by omega
    rcases this with rfl | rfl | rfl | rfl | rfl | rfl <;> decide
  exact or_lit q b j (256 ^ j) (8 * j) (pow_eq j).symm hle (pow_eq j) h0 hq hb0 hb
theorem take_drop_snoc (s : ByteArray) (a j : Nat) (h : a + j < s.size) : (s.data.toList.drop a).take (j + 1) = (s.data.toList.drop a).take j ++ [s[a + j]] := by
  have hl : s.data.toList.length = s.size := by simp
  rw [List.take_succ_eq_append_getElem (by simp; omega)]
  simp
  rfl
/-- The number of the bytes that stand at a place, with one byte more. -/
theorem numAt_snoc (s : ByteArray) (a j : Nat) (h : a + j < s.size) : leVal ((s.data.toList.drop a).take (j + 1)) = leVal ((s.data.toList.drop a).take j) + s[a + j].toNat * 256 ^ j := by
  have hl : s.data.toList.length = s.size := by simp
  rw [take_drop_snoc s a j h, leVal_snoc, List.length_take, List.length_drop, hl, Nat.min_eq_left (by omega)]
theorem numAt_lt (s : ByteArray) (a j : Nat) : leVal ((s.data.toList.drop a).take j) < 256 ^ j := by
  refine Int.lt_of_lt_of_le (leVal_lt _) ?_
  have : ((s.data.toList.drop a).take j).length ≤ j := List.length_take_le _ _
  have h2 := Nat.pow_le_pow_right (show 0 < 256 by decide) this
  have e : ∀ m : Nat, ((256 ^ m : Nat) : Int) = (256 : Int) ^ m := fun m => by rw [Int.natCast_pow]; rfl
  rw [← e, ← e]
  exact Int.ofNat_le.2 h2
theorem numAt_cons (s : ByteArray) (a j : Nat) (h : a < s.size) : leVal ((s.data.toList.drop a).take (j + 1)) = s[a].toNat + 256 * leVal ((s.data.toList.drop (a + 1)).take j) := by
  have hl : s.data.toList.length = s.size := by simp
  rw [List.drop_eq_getElem_cons (by omega), List.take_succ_cons]
  rfl
theorem pow6 (j : Nat) (h : j ≤ 6) : (256 : Int) ^ j ≤ 281474976710656 := by
  have : j = 0 ∨ j = 1 ∨ j = 2 ∨ j = 3 ∨ j = 4 ∨ j = 5 ∨ j = 6 := by omega
  rcases this with rfl | rfl | rfl | rfl | rfl | rfl | rfl <;> decide
/-- What Get tells. -/
def getN (s : ByteArray) (a k : Int) : Int := if (1 ≤ k ∧ k ≤ 6) ∧ 0 ≤ a ∧ a ≤ s.size - k then leVal ((s.data.toList.drop a.toNat).take k.toNat) else 0
def getE (s : ByteArray) (a k : Int) : Int := if k < 1 ∨ 6 < k then 1 else if a < 0 ∨ s.size - k < a then 3 else 0
theorem getN_no {s : ByteArray} {a k : Int} (h : (k < 1 ∨ 6 < k) ∨ a < 0 ∨ s.size - k < a) : getN s a k = 0 := by unfold getN; rw [if_neg (by omega)]
theorem getE_noWidth {s : ByteArray} {a k : Int} (h : k < 1 ∨ 6 < k) : getE s a k = 1 := by unfold getE; rw [if_pos h]
theorem getE_short {s : ByteArray} {a k : Int} (h1 : 1 ≤ k) (h2 : k ≤ 6) (h : a < 0 ∨ s.size - k < a) : getE s a k = 3 := by
  unfold getE; rw [if_neg (by omega), if_pos h]
theorem getE_ok {s : ByteArray} {a k : Nat} (h1 : 1 ≤ k) (h2 : k ≤ 6) (h : a + k ≤ s.size) : getE s a k = 0 := by
  unfold getE; rw [if_neg (by omega), if_neg (by omega)]
theorem getN_ok {s : ByteArray} {a k : Nat} (h1 : 1 ≤ k) (h2 : k ≤ 6) (h : a + k ≤ s.size) : getN s a k = leVal ((s.data.toList.drop a).take k) := by
  unfold getN; rw [if_pos (by omega)]; simp

/-- What Pad tells. -/
def padS (s : ByteArray) (n : Int) : ByteArray := if (0 ≤ n ∧ n ≤ 4096) ∧ s.size ≤ n then ⟨(s.data.toList ++ List.replicate (n.toNat - s.size) 0).toArray⟩ else ByteArray.empty
def padE (s : ByteArray) (n : Int) : Int := if n < 0 ∨ 4096 < n then 1 else if n < s.size then 4 else 0
theorem padS_no {s : ByteArray} {n : Int} (h : (n < 0 ∨ 4096 < n) ∨ n < s.size) : padS s n = ByteArray.empty := by unfold padS; rw [if_neg (by omega)]
theorem padE_arg {s : ByteArray} {n : Int} (h : n < 0 ∨ 4096 < n) : padE s n = 1 := by unfold padE; rw [if_pos h]
theorem padE_long {s : ByteArray} {n : Nat} (h1 : n ≤ 4096) (h : n < s.size) : padE s n = 4 := by unfold padE; rw [if_neg (by omega), if_pos (by omega)]
theorem padS_ok {s : ByteArray} {n : Nat} (h1 : n ≤ 4096) (h : s.size ≤ n) : padS s n = ⟨(s.data.toList ++ List.replicate (n - s.size) 0).toArray⟩ := by
  unfold padS; rw [if_pos (by omega), Int.toNat_natCast]
theorem padE_ok {s : ByteArray} {n : Nat} (h1 : n ≤ 4096) (h : s.size ≤ n) : padE s n = 0 := by unfold padE; rw [if_neg (by omega), if_neg (by omega)]
/-- The numbers of a text's bytes, and of noughts behind. -/
def padNums (s : ByteArray) (n : Nat) : List Int := s.data.toList.map (fun x => (x.toNat : Int)) ++ List.replicate (n - s.size) 0
theorem padNums_length (s : ByteArray) (n : Nat) (h : s.size ≤ n) : (padNums s n).length = n := by
  have hl : s.data.toList.length = s.size := by simp
  simp only [padNums, List.length_append, List.length_map, hl, List.length_replicate]; omega
theorem str_map_nums (l : List UInt8) : strOfNums (l.map fun x => (x.toNat : Int)) = ⟨l.toArray⟩ := by
  unfold strOfNums
  rw [List.map_map]
  congr 1
  congr 1
  conv => rhs; rw [← List.map_id l]
  apply List.map_congr_left
  intro x _
  simp
theorem strOf_padNums (s : ByteArray) (n : Nat) : strOfNums (padNums s n) = ⟨(s.data.toList ++ List.replicate (n - s.size) 0).toArray⟩ := by
  rw [← str_map_nums]
  unfold padNums
  congr 1
  simp
theorem str_append (s : ByteArray) (l : List Int) : s ++ strOfNums l = ⟨(s.data.toList ++ l.map fun n => UInt8.ofNat n.toNat).toArray⟩ := by
  apply ByteArray.ext
  apply Array.toList_inj.1
  simp [strOfNums]
/-- So many bytes 0. -/
def noughtsS (m : Nat) : ByteArray := strOfNums (List.replicate m 0)
theorem noughtsS_size (m : Nat) : (noughtsS m).size = m := by unfold noughtsS; rw [strOfNums_size]; simp
theorem pad_append (s : ByteArray) (m : Nat) : s ++ noughtsS m = ⟨(s.data.toList ++ List.replicate m 0).toArray⟩ := by
  unfold noughtsS; rw [str_append]; simp

/-- Cells that are stored one behind the other. -/
def setMany (xs : List Value) : Nat → List Value → List Value
  | _, [] => xs
  | o, v :: r => setMany (xs.set o v) (o + 1) r
theorem setMany_eq : ∀ (vs : List Value) (xs : List Value) (o : Nat), o + vs.length ≤ xs.length → setMany xs o vs = xs.take o ++ vs ++ xs.drop (o + vs.length)
  | [], xs, o, _ => by simp [setMany]
  | v :: r, xs, o, h => by
    have ho : o < xs.length := by simp at h; omega
    rw [setMany, setMany_eq r _ _ (by simp at h ⊢; omega)]
    rw [List.take_set, List.take_succ_eq_append_getElem ho, List.set_append_right _ _ (by simp; omega), List.drop_set]
    rw [if_pos (by omega)]
    simp [Nat.min_eq_left (Nat.le_of_lt ho)]
    rw [show o + 1 + r.length = o + (r.length + 1) by omega]
theorem ownsRow_setCells {base g n cap : Nat} {e : TypeId} : ∀ (vs : List Value) (o : Nat) (w : World) (xs : List Value), w.ownsRow base e 1 (.slice (some ⟨g, 0, none⟩) n cap) n xs →
    (w.setCells g o vs).ownsRow base e 1 (.slice (some ⟨g, 0, none⟩) n cap) n (setMany xs o vs)
  | [], _, _, _, h => h
  | v :: r, o, _, _, h => ownsRow_setCells r (o + 1) _ _ (h.stored o v).1

/-- 'copy' of a text into a slice that has room for it, as a step of a list of operations. -/
theorem wpList_copy_text {P : Program} {w : World} {ops : Array Oper} {rest : List Oper} {o : Oper} {a : Act} {Q : Exit → Act → World → Prop} (hgd : o.guard = none) (d x : Operand) (dT sT : TypeId)
    (ho : o.op = .call { callee := .builtin .copy, args := #[d, x], argTypes := #[dT, sT] }) (elem : TypeId) (hu : P.underlying dT = some (.slice elem)) (hz : ∀ w, (Go.sizeOf elem).run P w = .ok 1 w)
    (b off dLen dCap : Nat) (hd : a.eval d = .slice (some ⟨b, off, none⟩) dLen dCap) (t : ByteArray) (hx : a.eval x = .string t) (hle : t.size ≤ dLen)
    (hc : ∀ j, j < t.size → (w.cell? ⟨b, off + j, none⟩).isSome = true) (hf : ∀ j, j < t.size → w.frozen? ⟨b, off + j, none⟩ = false)
    (h : wpList P ops Q rest (a.put o.dst (goInt t.size)) (w.setCells b off (t.data.toList.map fun x => Value.int .u8 (x.toNat : Int)))) : wpList P ops Q (o :: rest) a w := by
  refine wpList_plain hgd fun K hK => ?_
  have hrun := run_copy_string (P := P) w dT sT o.type elem b off dLen dCap t hu hz hle hc hf
  unfold Oper.wp
  simp [execOp, ho, resolve, invoke, builtin, hd, hx, hrun, Result.andThen]
  exact hK _ _ h
end Go.Proofs.YtoopaigpjefonaaGreatDoor

namespace Go.Proofs.YtoopaigpjefonaaGreatDoor
set_option maxRecDepth 20000
open Go.RowKit Go.Lib

theorem two_cell0 {w : World} {b : Nat} {u v : Value} {t : TypeId} (h : w.heap[b]? = some (.cells #[u, v] t (0, 0))) : w.cell? ⟨b, 0, none⟩ = some u := by simp [World.cell?, h]
theorem two_cell1 {w : World} {b : Nat} {u v : Value} {t : TypeId} (h : w.heap[b]? = some (.cells #[u, v] t (0, 0))) : w.cell? ⟨b, 1, none⟩ = some v := by simp [World.cell?, h]
theorem two_free {w : World} {b : Nat} {u v : Value} {t : TypeId} (i : Nat) (h : w.heap[b]? = some (.cells #[u, v] t (0, 0))) : w.frozen? ⟨b, i, none⟩ = false := by simp [World.frozen?, h]
theorem two_set0 {w : World} {b : Nat} {u v x : Value} {t : TypeId} (h : w.heap[b]? = some (.cells #[u, v] t (0, 0))) : (w.setCell ⟨b, 0, none⟩ x).heap[b]? = some (.cells #[x, v] t (0, 0)) := by
  have hlt := lt_of_block h
  have h' : w.heap[b] = .cells #[u, v] t (0, 0) := by simpa [Array.getElem?_eq_getElem hlt] using h
  show (w.heap.modify b _)[b]? = _
  rw [Array.getElem?_eq_getElem (by simpa using hlt), Array.getElem_modify_self, h']
  rfl
theorem two_set1 {w : World} {b : Nat} {u v x : Value} {t : TypeId} (h : w.heap[b]? = some (.cells #[u, v] t (0, 0))) : (w.setCell ⟨b, 1, none⟩ x).heap[b]? = some (.cells #[u, x] t (0, 0)) := by
  have hlt := lt_of_block h
  have h' : w.heap[b] = .cells #[u, v] t (0, 0) := by simpa [Array.getElem?_eq_getElem hlt] using h
  show (w.heap.modify b _)[b]? = _
  rw [Array.getElem?_eq_getElem (by simpa using hlt), Array.getElem_modify_self, h']
  rfl

/-- The cells of some bytes. -/
def byteCells (l : List UInt8) : List Value := l.map fun b => Value.int .u8 (b.toNat : Int)
theorem byteCells_length (l : List UInt8) : (byteCells l).length = l.length := by simp [byteCells]
theorem byteCells_append (l m : List UInt8) : byteCells l ++ byteCells m = byteCells (l ++ m) := by simp [byteCells]
theorem byteCells_str (s : ByteArray) : strCells s = byteCells s.data.toList := rfl

/-- What a world holds of a writer in block b: its text and its error. -/
def Wr (w : World) (T E : TypeId) (b : Nat) (l : List UInt8) (e : Int) : Prop :=
  ∃ v, w.heap[b]? = some (.cells #[v, .int .i64 e] T (0, 0)) ∧ w.ownsRow (b + 1) E 1 v l.length (byteCells l)

theorem ownsRow_below {w w' : World} {base : Nat} {e : TypeId} {size : Nat} {v : Value} {n : Nat} {xs : List Value} (hb : Below w.heap.size w w') (h : w.ownsRow base e size v n xs) : w'.ownsRow base e size v n xs := by
  obtain ⟨h1, h2⟩ := h
  refine ⟨h1, ?_⟩
  rcases h2 with h2 | ⟨g, cap, cur, hv, hg, hh, r⟩
  · exact .inl h2
  · exact .inr ⟨g, cap, cur, hv, hg, by rw [hb.block g (lt_of_block hh)]; exact hh, r⟩
theorem Wr.below {w w' : World} {T E : TypeId} {b : Nat} {l : List UInt8} {e : Int} (h : Wr w T E b l e) (hb : Below w.heap.size w w') : Wr w' T E b l e := by
  obtain ⟨v, h1, h2⟩ := h
  exact ⟨v, by rw [hb.block b (lt_of_block h1)]; exact h1, ownsRow_below hb h2⟩
theorem Wr.lt {w : World} {T E : TypeId} {b : Nat} {l : List UInt8} {e : Int} (h : Wr w T E b l e) : b < w.heap.size := by
  obtain ⟨v, h1, h2⟩ := h
  exact lt_of_block h1

/-- The error behind a number that is laid. -/
def stepE (e n k : Int) : Int := if putE n k = 0 then e else putE n k
/-- Numbers, each in its width: their bytes, and whether all have room. -/
def laidL : List (Int × Int) → List UInt8
  | [] => []
  | p :: r => (putS p.1 p.2).data.toList ++ laidL r
def laidOk : List (Int × Int) → Bool
  | [] => true
  | p :: r => (putE p.1 p.2 == 0) && laidOk r
def errL : Int → List (Int × Int) → Int
  | e, [] => e
  | e, p :: r => errL (stepE e p.1 p.2) r
def widths : List (Int × Int) → Bool
  | [] => true
  | p :: r => (decide (1 ≤ p.2) && decide (p.2 ≤ 6)) && widths r
theorem putE_two {n k : Int} (h1 : 1 ≤ k) (h6 : k ≤ 6) : putE n k = 0 ∨ putE n k = 2 := by
  unfold putE
  rw [if_neg (by omega)]
  split
  · exact .inr rfl
  · exact .inl rfl
theorem errL_two : ∀ (ps : List (Int × Int)), widths ps = true → errL 2 ps = 2
  | [], _ => rfl
  | p :: r, h => by
    simp only [widths, Bool.and_eq_true, decide_eq_true_eq] at h
    rcases putE_two (n := p.1) h.1.1 h.1.2 with e | e
    · rw [errL, stepE, if_pos e, errL_two r h.2]
    · rw [errL, stepE, if_neg (by omega), e, errL_two r h.2]
theorem errL_ok : ∀ (ps : List (Int × Int)), widths ps = true → errL 0 ps = if laidOk ps = true then 0 else 2
  | [], _ => rfl
  | p :: r, h => by
    simp only [widths, Bool.and_eq_true, decide_eq_true_eq] at h
    rcases putE_two (n := p.1) h.1.1 h.1.2 with e | e
    · rw [errL, stepE, if_pos e, errL_ok r h.2]
      simp [laidOk, e]
    · rw [errL, stepE, if_neg (by omega), e, errL_two r h.2]
      simp [laidOk, e]
theorem putS_size {n k : Int} (h : putE n k = 0) : (putS n k).data.toList.length = k.toNat := by
  unfold putE at h
  split at h
  · omega
  · split at h
    · omega
    · unfold putS
      rw [if_pos (by omega)]
      simp [strOfNums, leI_length]
/-- How many bytes numbers take. -/
def widthSum : List (Int × Int) → Nat
  | [] => 0
  | p :: r => p.2.toNat + widthSum r
theorem laidL_length : ∀ (ps : List (Int × Int)), laidOk ps = true → (laidL ps).length = widthSum ps
  | [], _ => rfl
  | p :: r, h => by
    simp only [laidOk, Bool.and_eq_true, beq_iff_eq] at h
    rw [laidL, List.length_append, putS_size h.1, laidL_length r h.2, widthSum]
theorem putS_le (n k : Int) : (putS n k).data.toList.length ≤ 6 := by
  unfold putS
  split
  · simp [strOfNums, leI_length]; omega
  · simp
theorem laidL_le : ∀ (ps : List (Int × Int)), (laidL ps).length ≤ 6 * ps.length
  | [] => Nat.le_refl _
  | p :: r => by
    have := putS_le p.1 p.2
    have := laidL_le r
    rw [laidL, List.length_append, List.length_cons]
    omega
theorem laidL_append : ∀ (ps qs : List (Int × Int)), laidL (ps ++ qs) = laidL ps ++ laidL qs
  | [], _ => rfl
  | p :: r, qs => by rw [List.cons_append, laidL, laidL, laidL_append r qs, List.append_assoc]
theorem errL_append : ∀ (ps qs : List (Int × Int)) (e : Int), errL e (ps ++ qs) = errL (errL e ps) qs
  | [], _, _ => rfl
  | p :: r, qs, e => by rw [List.cons_append, errL, errL, errL_append r qs]
/-- What a record of numbers tells: bytes ahead, the numbers', bytes 0 behind; and the error. -/
def recS (pre : List UInt8) (ps : List (Int × Int)) (z : Nat) : ByteArray := if laidOk ps = true then ⟨(pre ++ laidL ps ++ List.replicate z 0).toArray⟩ else ByteArray.empty
def recE (ps : List (Int × Int)) : Int := if laidOk ps = true then 0 else 2
theorem recS_no {pre : List UInt8} {ps : List (Int × Int)} {z : Nat} (h : laidOk ps = false) : recS pre ps z = ByteArray.empty := by simp [recS, h]
theorem recE_no {ps : List (Int × Int)} (h : laidOk ps = false) : recE ps = 2 := by simp [recE, h]
theorem recS_ok {pre : List UInt8} {ps : List (Int × Int)} {z : Nat} (h : laidOk ps = true) : recS pre ps z = ⟨(pre ++ laidL ps ++ List.replicate z 0).toArray⟩ := by simp [recS, h]
theorem recE_ok {ps : List (Int × Int)} (h : laidOk ps = true) : recE ps = 0 := by simp [recE, h]
/-- A text of some bytes, filled up to so many that z lack. -/
theorem padS_rec {l : List UInt8} {n z : Nat} (hn : n ≤ 4096) (h : l.length + z = n) : padS ⟨l.toArray⟩ n = ⟨(l ++ List.replicate z 0).toArray⟩ := by
  have hs : (⟨l.toArray⟩ : ByteArray).size = l.length := by simp [ByteArray.size]
  rw [padS_ok hn (by rw [hs]; omega), hs, show n - l.length = z by omega]
theorem padE_rec {l : List UInt8} {n z : Nat} (hn : n ≤ 4096) (h : l.length + z = n) : padE ⟨l.toArray⟩ n = 0 := by
  have hs : (⟨l.toArray⟩ : ByteArray).size = l.length := by simp [ByteArray.size]
  rw [padE_ok hn (by rw [hs]; omega)]
/-- The cells of a block that was laid, with another one behind it. -/
theorem cells_boxed (w : World) (xs : Array Value) (t : TypeId) (o : Obj) (i : Nat) (v : Value) (h : xs[i]? = some v) : ((w.alloc (.cells xs t)).alloc o).cell? ⟨w.heap.size, i, none⟩ = some v := by
  rw [World.cell?_alloc_past _ _ _ (by simp), World.cell?_alloc_at _ _ _ _ rfl]
  exact h
/-- .. and behind a call that changes nothing that was there. -/
theorem cells_kept {w w1 : World} {xs : Array Value} {t : TypeId} (hb : Below (w.alloc (.cells xs t)).heap.size (w.alloc (.cells xs t)) w1) (i : Nat) (v : Value) (h : xs[i]? = some v) : w1.cell? ⟨w.heap.size, i, none⟩ = some v := by
  rw [hb.cell (p := ⟨w.heap.size, i, none⟩) (by simp), World.cell?_alloc_at _ _ _ _ rfl]
  exact h
/-- A head's numbers, each with its width. -/
def headPs (a0 a1 a2 a3 a4 a5 a6 a7 : Int) : List (Int × Int) := [(a0, 6), (a1, 4), (a2, 2), (a3, 4), (a4, 4), (a5, 4), (a6, 6), (a7, 6)]
/-- Some bytes, and so many bytes 0 behind. -/
def padL (l : List UInt8) (z : Nat) : ByteArray := ⟨(l ++ List.replicate z 0).toArray⟩
theorem padL_add (l : List UInt8) (r : ByteArray) (z : Nat) : (⟨l.toArray⟩ ++ r) ++ noughtsS z = padL (l ++ r.data.toList) z := by
  rw [pad_append]
  unfold padL
  congr 1
/-- A superblock's numbers, each with its width; its bytes and its error. -/
def superPs (a0 a1 a2 a3 : Int) : List (Int × Int) := [(a0, 6), (a1, 6), (a2, 6), (a3, 4)]
def superS (a0 a1 a2 a3 : Int) (r : ByteArray) : ByteArray := if r.size = 32 ∧ laidOk (superPs a0 a1 a2 a3) = true then padL (laidL (superPs a0 a1 a2 a3) ++ r.data.toList) 394 else ByteArray.empty
def superE (a0 a1 a2 a3 : Int) (r : ByteArray) : Int := if r.size = 32 then recE (superPs a0 a1 a2 a3) else 1
/-- Whether an entry has a name, or no numbers; its numbers, the bytes ahead of them, its bytes and its error. -/
def entFree (s : ByteArray) (a1 a2 : Int) : Bool := !(s.size == 0) || (a1 == 0 && a2 == 0)
def entPs (a1 a2 : Int) : List (Int × Int) := [(a1, 4), (a2, 4)]
def entPre (s : ByteArray) : List UInt8 := (putS s.size 1).data.toList ++ s.data.toList ++ List.replicate (19 - s.size) 0
def entS (s : ByteArray) (a1 a2 : Int) : ByteArray := if s.size ≤ 19 ∧ entFree s a1 a2 = true then recS (entPre s) (entPs a1 a2) 0 else ByteArray.empty
def entE (s : ByteArray) (a1 a2 : Int) : Int := if s.size ≤ 19 then if entFree s a1 a2 = true then recE (entPs a1 a2) else 5 else 4
theorem toList_some {s : ByteArray} (h : ¬ s.size = 0) : s.toList.isEmpty = false := by
  rw [ByteArray.toList_eq, ← Bool.not_eq_true, List.isEmpty_iff]
  intro e
  apply h
  have : s.data.toList.length = s.size := by simp
  rw [← this, e]
  rfl
theorem entLen {s : ByteArray} (h : s.size ≤ 19) : putE s.size 1 = 0 ∧ (putS s.size 1).data.toList.length = 1 := by
  have e : putE s.size 1 = 0 := putE_ok (m := 1) (by decide) (by decide) (by omega) (by simp; omega)
  exact ⟨e, by rw [putS_size e]; rfl⟩
/-- An inode's numbers: the first four, so many of its twelve blocks, the last two; its bytes and its error. -/
def inoPs (a0 a1 a2 a3 : Int) (d : Nat → Int) (j : Nat) : List (Int × Int) := [(a0, 2), (a1, 4), (a2, 6), (a3, 4)] ++ (List.range j).map fun i => (d i, 4)
def inodePs (a0 a1 a2 a3 : Int) (d : Nat → Int) (a4 a5 : Int) : List (Int × Int) := inoPs a0 a1 a2 a3 d 12 ++ [(a4, 4)] ++ [(a5, 4)]
def inodeS (a0 a1 a2 a3 : Int) (d : Nat → Int) (a4 a5 : Int) : ByteArray := if 0 ≤ a0 ∧ a0 ≤ 3 then recS [] (inodePs a0 a1 a2 a3 d a4 a5) 376 else ByteArray.empty
def inodeE (a0 a1 a2 a3 : Int) (d : Nat → Int) (a4 a5 : Int) : Int := if 0 ≤ a0 ∧ a0 ≤ 3 then recE (inodePs a0 a1 a2 a3 d a4 a5) else 2
theorem inoPs_succ (a0 a1 a2 a3 : Int) (d : Nat → Int) (j : Nat) : inoPs a0 a1 a2 a3 d j ++ [(d j, 4)] = inoPs a0 a1 a2 a3 d (j + 1) := by
  unfold inoPs; rw [List.range_succ, List.map_append, List.append_assoc]; rfl
theorem widths_append : ∀ (ps qs : List (Int × Int)), widths (ps ++ qs) = (widths ps && widths qs)
  | [], _ => by simp [widths]
  | p :: r, qs => by rw [List.cons_append, widths, widths, widths_append r qs]; simp only [Bool.and_assoc]
theorem widthSum_append : ∀ (ps qs : List (Int × Int)), widthSum (ps ++ qs) = widthSum ps + widthSum qs
  | [], _ => by simp [widthSum]
  | p :: r, qs => by rw [List.cons_append, widthSum, widthSum, widthSum_append r qs, Nat.add_assoc]
theorem fours (d : Nat → Int) : ∀ j : Nat, widths ((List.range j).map fun i => (d i, (4 : Int))) = true ∧ widthSum ((List.range j).map fun i => (d i, (4 : Int))) = 4 * j
  | 0 => ⟨rfl, rfl⟩
  | j + 1 => by
    have ih := fours d j
    rw [List.range_succ, List.map_append, widths_append, widthSum_append, ih.1, ih.2]
    exact ⟨rfl, by show 4 * j + 4 = 4 * (j + 1); omega⟩
theorem inode_widths (a0 a1 a2 a3 a4 a5 : Int) (d : Nat → Int) : widths (inodePs a0 a1 a2 a3 d a4 a5) = true ∧ widthSum (inodePs a0 a1 a2 a3 d a4 a5) = 72 := by
  have h := fours d 12
  unfold inodePs inoPs
  rw [widths_append, widths_append, widths_append, widthSum_append, widthSum_append, widthSum_append, h.1, h.2]
  exact ⟨rfl, rfl⟩
theorem inoPs_length (a0 a1 a2 a3 : Int) (d : Nat → Int) (j : Nat) : (inoPs a0 a1 a2 a3 d j).length = 4 + j := by simp [inoPs]; omega
end Go.Proofs.YtoopaigpjefonaaGreatDoor

namespace Go.Proofs.YtoopaigpjefonaaGreatDoor
set_option maxRecDepth 20000
open Go.RowKit
theorem info5 : (Tryz.prog.info? 5).map (fun i => (i.zero, i.size, i.bytes)) = some (some (.int .u8 0), 1, 1) := by kernel_rfl

theorem put_noWidth (n k : Int) (h : k < 1 ∨ 6 < k) (w : World) :
    Calls Tryz.prog 92 #[.int .i64 n, .int .i64 k] w fun e w' => e = .returned (.tuple #[.string ByteArray.empty, .int .i64 1]) ∧ w' = w := by
  rcases h with h | h
  · go_enter Tryz.func92, Tryz.ntmps92
    go_wp2
    go_ret2
    exact ⟨rfl, rfl⟩
  · have h1 : 1 ≤ k := by omega
    have hd : decide (k ≤ 6) = false := by simp; omega
    go_enter Tryz.func92, Tryz.ntmps92
    go_wp2
    go_ret2
    exact ⟨rfl, rfl⟩

theorem put_below (n : Int) (k : Nat) (h1 : 1 ≤ k) (h2 : k ≤ 6) (h : n < 0) (w : World) :
    Calls Tryz.prog 92 #[.int .i64 n, .int .i64 k] w fun e w' => e = .returned (.tuple #[.string ByteArray.empty, .int .i64 2]) ∧ w' = w := by
  have a1 : (1 : Int) ≤ k := by omega
  have a2 : (k : Int) ≤ 6 := by omega
  go_enter Tryz.func92, Tryz.ntmps92
  go_wp2
  go_ret2
  exact ⟨rfl, rfl⟩

theorem put_above (n : Int) (k : Nat) (h1 : 1 ≤ k) (h2 : k ≤ 6) (h0 : 0 ≤ n) (h : 256 ^ k ≤ n) (w : World) :
    Calls Tryz.prog 92 #[.int .i64 n, .int .i64 k] w fun e w' => e = .returned (.tuple #[.string ByteArray.empty, .int .i64 2]) ∧ w' = w := by
  have a1 : (1 : Int) ≤ k := by omega
  have a2 : (k : Int) ≤ 6 := by omega
  have hd : (n / 2 ^ (8 * k) == 0) = false := by
    rw [pow_eq, beq_eq_false_iff_ne]
    intro e
    have hp : (0 : Int) < 256 ^ k := Int.pow_pos (by decide)
    have := (Int.le_ediv_iff_mul_le (c := 256 ^ k) (a := 1) (b := n) hp).2 (by omega)
    omega
  clear h
  go_enter Tryz.func92, Tryz.ntmps92
  go_wp2
  go_ret2
  exact ⟨rfl, rfl⟩

set_option maxHeartbeats 400000 in
theorem put_ok (n : Int) (k : Nat) (h1 : 1 ≤ k) (h2 : k ≤ 6) (h0 : 0 ≤ n) (h : n < 256 ^ k) (w : World) :
    Calls Tryz.prog 92 #[.int .i64 n, .int .i64 k] w fun e w' => e = .returned (.tuple #[.string (strOfNums (leI k n)), .int .i64 0]) ∧ Below w.heap.size w w' := by
  have a1 : (1 : Int) ≤ k := by omega
  have a2 : (k : Int) ≤ 6 := by omega
  have hd : (n / 2 ^ (8 * k) == 0) = true := by
    rw [pow_eq, beq_iff_eq]
    exact Int.ediv_eq_zero_of_lt h0 h
  clear h
  obtain ⟨i0, hi, hz0, hz1, hz2⟩ := info_parts info5
  go_enter Tryz.func92, Tryz.ntmps92
  go_wp2_with (first | (at_make; refine wpList_make_full _ rfl _ _ 143 rfl w.heap.size 5 i0 (.int .u8 0) 1 Tryz.underlying143 hi hz0 hz1 .i64 .i64 _ _ k rfl rfl rfl rfl ?c1 ?c2 (Nat.le_refl _) ?_) | go_in)
  case c1 => rw [hz2]; omega
  case c2 => unfold maxLen; omega
  intro w1 hown1 hgrow1
  have hb1 : Below w.heap.size w w1 := (Below.refl _ _).grown hgrow1 (Nat.le_refl _) (fun k hk => by simp at hk)
  have hown2 : w1.ownsRow w.heap.size 5 1 (.slice (some ⟨w.heap.size, 0, none⟩) k k) k ((putRow k 0 n).map (Value.int .u8)) := by
    rw [putRow_zero]; simpa [toList_madeCells_one, List.map_replicate, Value.cells] using hown1
  clear hown1 hgrow1
  go_wp2
  go_loopw [19] (fun i wr => ∃ j : Nat, j ≤ k ∧ i = .int .i64 j ∧ wr.ownsRow w.heap.size 5 1 (.slice (some ⟨w.heap.size, 0, none⟩) k k) k ((putRow k j n).map (Value.int .u8)) ∧ Below w.heap.size w wr) (fun i _ => k - (intOf i).toNat)
  case atStart => exact ⟨0, Nat.zero_le _, rfl, hown2, hb1⟩
  case round =>
    obtain ⟨j, hj, rfl, hown, hb⟩ := hrel
    clear hown2 hb1
    by_cases hlt : j < k
    · have hf := hown.frozenAt j
      have hc : ∃ v, wr.cell? ⟨w.heap.size, j, none⟩ = some v := by
        rw [hown.cellAt j (by omega)]
        exact ⟨_, List.getElem?_eq_getElem (by simp [putRow_length k j n hj]; omega)⟩
      obtain ⟨v0, hv0⟩ := hc
      go_wp2
      go_roundw
      case rel =>
        have hst := (hown.stored j (.int .u8 (n / 2 ^ (8 * j) % 256))).1
        rw [← List.map_set] at hst
        rw [pow_eq, putRow_set _ _ _ hlt] at hst
        exact ⟨j + 1, by omega, by go_num, by rw [pow_eq]; exact hst, hb.setCell (Nat.le_refl _) _⟩
      case measure => simp [intOf]; omega
    · have hjk : j = k := by omega
      subst hjk
      rw [putRow_full] at hown
      have hcv := run_convert_bytes_arg (P := Tryz.prog) wr 143 5 Tryz.underlying143 Tryz.underlying5 w.heap.size 0 j j (leI j n) (leI_length j n) (fun i hi => by
        rw [Nat.zero_add, hown.cellAt i (by omega)]
        simp [leI_length, hi, List.getD]) 9 Tryz.underlying9
      go_wp2
      go_ret2
      exact ⟨rfl, hb⟩

/-- pack.Put, whatever it is handed. -/
theorem put_any (n k : Int) (w : World) :
    Calls Tryz.prog 92 #[.int .i64 n, .int .i64 k] w fun e w' => e = .returned (.tuple #[.string (putS n k), .int .i64 (putE n k)]) ∧ Below w.heap.size w w' := by
  by_cases hk : k < 1 ∨ 6 < k
  · refine (put_noWidth n k hk w).mono fun e w' ⟨he, hw⟩ => ?_
    rw [putS_noWidth hk, putE_noWidth hk]
    exact ⟨he, hw ▸ Below.refl _ _⟩
  · obtain ⟨m, rfl⟩ := Int.eq_ofNat_of_zero_le (show 0 ≤ k by omega)
    have h1 : 1 ≤ m := by omega
    have h2 : m ≤ 6 := by omega
    by_cases hn : n < 0
    · refine (put_below n m h1 h2 hn w).mono fun e w' ⟨he, hw⟩ => ?_
      rw [putS_noRoom (.inl hn), putE_noRoom h1 h2 (.inl hn)]
      exact ⟨he, hw ▸ Below.refl _ _⟩
    by_cases hn2 : 256 ^ m ≤ n
    · refine (put_above n m h1 h2 (by omega) hn2 w).mono fun e w' ⟨he, hw⟩ => ?_
      rw [putS_noRoom (.inr hn2), putE_noRoom h1 h2 (.inr hn2)]
      exact ⟨he, hw ▸ Below.refl _ _⟩
    · rw [putS_ok h1 h2 (by omega) (by omega), putE_ok h1 h2 (by omega) (by omega)]
      exact put_ok n m h1 h2 (by omega) (by omega) w
end Go.Proofs.YtoopaigpjefonaaGreatDoor

namespace Go.Proofs.YtoopaigpjefonaaGreatDoor
set_option maxRecDepth 20000
open Go.RowKit

/-- Are all bytes of a text 0? -/
def allZ (t : ByteArray) : Bool := t.data.toList.all (· == 0)
def strLen : Value → Nat
  | .string t => t.size
  | _ => 0
theorem allZ_cons (t : ByteArray) (h : 0 < t.size) (h0 : t[0].toNat = 0) : allZ (t.extract 1 t.size) = allZ t := by
  have hl : t.data.toList.length = t.size := by simp
  unfold allZ
  rw [Lib.extract_data]
  have e : t.data.toList = t[0] :: t.data.toList.drop 1 := by
    have := List.drop_eq_getElem_cons (l := t.data.toList) (i := 0) (by omega)
    rw [List.drop_zero] at this
    exact this
  have e0 : t[0] = 0 := UInt8.toNat_inj.1 h0
  rw [List.take_of_length_le (by simp)]
  conv => rhs; rw [e]
  simp [e0]
theorem allZ_snoc (t : ByteArray) (n : Nat) (h : t.size = n + 1) (h0 : (t[n]'(by omega)).toNat = 0) : allZ (t.extract 0 n) = allZ t := by
  have hl : t.data.toList.length = t.size := by simp
  unfold allZ
  rw [Lib.extract_data]
  have e : t.data.toList = t.data.toList.take n ++ [t[n]'(by omega)] := by
    have := List.take_succ_eq_append_getElem (l := t.data.toList) (i := n) (by omega)
    rw [List.take_of_length_le (by omega)] at this
    exact this
  have e0 : t[n]'(by omega) = 0 := UInt8.toNat_inj.1 h0
  simp only [List.drop_zero, Nat.sub_zero]
  conv => rhs; rw [e]
  simp [e0]
theorem allZ_first (t : ByteArray) (h : 0 < t.size) (h0 : ¬ t[0].toNat = 0) : allZ t = false := by
  have hl : t.data.toList.length = t.size := by simp
  unfold allZ
  have e : t.data.toList = t[0] :: t.data.toList.drop 1 := by
    have := List.drop_eq_getElem_cons (l := t.data.toList) (i := 0) (by omega)
    rw [List.drop_zero] at this
    exact this
  rw [e]
  have : t[0] ≠ 0 := fun hh => h0 (by rw [hh]; rfl)
  simp [this]
theorem allZ_nil (t : ByteArray) (h : t.size = 0) : allZ t = true := by
  obtain rfl : t = ByteArray.empty := by simpa using h
  rfl

theorem toList_full {s : ByteArray} (h : 0 < s.size) : s.toList.isEmpty = false := by
  rw [ByteArray.toList_eq, ← Bool.not_eq_true, List.isEmpty_iff]
  intro e
  have : s.data.toList.length = s.size := by simp
  rw [e] at this
  simp at this
  omega
theorem toList_void {s : ByteArray} (h : s.size = 0) : s.toList.isEmpty = true := by
  obtain rfl : s = ByteArray.empty := by simpa using h
  rw [ByteArray.toList_eq]
  rfl

set_option maxHeartbeats 400000 in
theorem trimLeft_zero (s : ByteArray) (_hs : s.size ≤ maxLen) (w : World) :
    Calls Tryz.prog 204 #[.string s, .int .u8 0] w fun e w' => (∃ t, e = .returned (.string t) ∧ t.toList.isEmpty = allZ s) ∧ w' = w := by
  unfold maxLen at _hs
  go_enter Tryz.func204, Tryz.ntmps204
  go_wp2
  go_loop [0] (fun v => ∃ t : ByteArray, v = .string t ∧ t.size ≤ s.size ∧ allZ t = allZ s) (fun v => strLen v)
  case atStart => exact ⟨s, rfl, Nat.le_refl _, rfl⟩
  case round =>
    obtain ⟨t, rfl, ht, hz⟩ := hrel
    have HZ : Hid (allZ t = allZ s) := hz
    clear hz
    by_cases h0 : 0 < t.size
    · have h0' : (0 : Int) < t.size := by omega
      by_cases hb : t[0].toNat = 0
      · have hb' : ((t[0].toNat : Int) == 0) = true := by simp [hb]
        have HB : Hid (t[0].toNat = 0) := hb
        clear hb
        go_wp2
        go_round
        case rel => exact ⟨_, rfl, by simp; omega, by rw [allZ_cons t h0 HB.out]; exact HZ.out⟩
        case measure => simp [strLen]; omega
      · have hb' : ((t[0].toNat : Int) == 0) = false := by simp; omega
        have HB : Hid (¬ t[0].toNat = 0) := hb
        clear hb
        go_wp2
        go_ret
        refine ⟨⟨t, rfl, ?_⟩, rfl⟩
        rw [← HZ.out, allZ_first t h0 HB.out]
        exact toList_full h0
    · have h0' : ¬ (0 : Int) < t.size := by omega
      go_wp2
      go_ret
      refine ⟨⟨t, rfl, ?_⟩, rfl⟩
      rw [← HZ.out, allZ_nil t (by omega)]
      exact toList_void (by omega)

set_option maxHeartbeats 400000 in
theorem trimRight_zero (s : ByteArray) (hs : s.size ≤ maxLen) (w : World) :
    Calls Tryz.prog 205 #[.string s, .int .u8 0] w fun e w' => (∃ t : ByteArray, e = .returned (.string t) ∧ t.size ≤ s.size ∧ allZ t = allZ s) ∧ w' = w := by
  unfold maxLen at hs
  go_enter Tryz.func205, Tryz.ntmps205
  go_wp2
  go_loop [0] (fun v => ∃ t : ByteArray, v = .string t ∧ t.size ≤ s.size ∧ allZ t = allZ s) (fun v => strLen v)
  case atStart => exact ⟨s, rfl, Nat.le_refl _, rfl⟩
  case round =>
    obtain ⟨t, rfl, ht, hz⟩ := hrel
    have HZ : Hid (allZ t = allZ s) := hz
    clear hz
    by_cases h0 : 0 < t.size
    · have h0' : (0 : Int) < t.size := by omega
      have hlast : t.size - 1 < t.size := by omega
      by_cases hb : t[t.size - 1].toNat = 0
      · have hb' : ((t[t.size - 1].toNat : Int) == 0) = true := by simp [hb]
        have HB : Hid (t[t.size - 1].toNat = 0) := hb
        clear hb
        go_wp2
        go_round
        case rel => exact ⟨_, rfl, by simp; omega, by rw [allZ_snoc t (t.size - 1) (by omega) HB.out]; exact HZ.out⟩
        case measure => simp [strLen]; omega
      · have hb' : ((t[t.size - 1].toNat : Int) == 0) = false := by simp; omega
        clear hb
        go_wp2
        go_ret
        exact ⟨⟨t, rfl, ht, HZ.out⟩, rfl⟩
    · have h0' : ¬ (0 : Int) < t.size := by omega
      go_wp2
      go_ret
      exact ⟨⟨t, rfl, ht, HZ.out⟩, rfl⟩

set_option maxRecDepth 100000 in
set_option maxHeartbeats 400000 in
theorem trim_zero (s : ByteArray) (hs : s.size ≤ maxLen) (w : World) :
    Calls Tryz.prog 194 #[.string s, .string ⟨#[0]⟩] w fun e w' => (∃ t, e = .returned (.string t) ∧ t.toList.isEmpty = allZ s) ∧ Below w.heap.size w w' := by
  by_cases h0 : s.size = 0
  · have he := toList_void h0
    go_enter Tryz.func194, Tryz.ntmps194
    go_wp2
    go_ret
    exact ⟨⟨s, rfl, by rw [he, allZ_nil s h0]⟩, Below.refl _ _⟩
  · have he := toList_full (show 0 < s.size by omega)
    go_enter Tryz.func194, Tryz.ntmps194
    go_wp2
    go_region_held3 (fun _ => True) (trivial) (first | (go_at_call 205; refine (trimRight_zero s hs _).mono ?_; rintro e w' ⟨⟨t, rfl, ht, hz⟩, rfl⟩) | (go_at_call 204; refine (trimLeft_zero _ (Nat.le_trans (by assumption) hs) _).mono ?_; rintro e w' ⟨⟨t2, rfl, hz2⟩, rfl⟩))
    all_goals
      go_wp2
      go_ret
      exact ⟨⟨_, rfl, hz2.trans hz⟩, by repeat (first | exact Below.refl _ _ | apply Below.drew)⟩

theorem isZero_any (s : ByteArray) (hs : s.size ≤ maxLen) (w : World) :
    Calls Tryz.prog 182 #[.string s] w fun e w' => e = .returned (.bool (allZ s)) ∧ Below w.heap.size w w' := by
  go_enter Tryz.func182, Tryz.ntmps182
  go_wp2_with fail
  refine (trim_zero s hs _).mono ?_
  rintro e w1 ⟨⟨t, rfl, hz⟩, hb⟩
  have HZ : Hid (t.toList.isEmpty = allZ s) := hz
  clear hz
  go_wp2
  go_ret
  exact ⟨by rw [← HZ.out]; rfl, hb⟩
end Go.Proofs.YtoopaigpjefonaaGreatDoor

namespace Go.Proofs.YtoopaigpjefonaaGreatDoor
set_option maxRecDepth 20000

theorem leI_cons (k : Nat) (n : Int) : leI (k + 1) n = n % 256 :: leI k (n / 256) := by
  have e : ∀ i : Nat, n / 256 ^ (i + 1) % 256 = n / 256 / 256 ^ i % 256 := fun i => by
    rw [Int.ediv_ediv_of_nonneg (by decide), Int.pow_succ, Int.mul_comm]
  simp only [leI, List.range_succ_eq_map, List.map_cons, List.map_map, Function.comp_def, Nat.succ_eq_add_one, e, Int.pow_zero, Int.ediv_one]
theorem leI_leVal : ∀ l : List UInt8, leI l.length (leVal l) = l.map fun x => (x.toNat : Int)
  | [] => rfl
  | b :: r => by
    have hb : b.toNat < 256 := b.toNat_lt
    rw [List.length_cons, leI_cons, leVal, show ((b.toNat : Int) + 256 * leVal r) % 256 = b.toNat by omega, show ((b.toNat : Int) + 256 * leVal r) / 256 = leVal r by omega, leI_leVal r]
    rfl
theorem put_back (l : List UInt8) (k : Nat) (hl : l.length = k) (h1 : 1 ≤ k) (h6 : k ≤ 6) : putE (leVal l) k = 0 ∧ putS (leVal l) k = ⟨l.toArray⟩ := by
  subst hl
  refine ⟨putE_ok h1 h6 (leVal_nonneg l) (leVal_lt l), ?_⟩
  rw [putS_ok h1 h6 (leVal_nonneg l) (leVal_lt l), leI_leVal, str_map_nums]
/-- The numbers of bytes from a place on, each with its width. -/
def pairsOf (L : List UInt8) : Nat → List Nat → List (Int × Int)
  | _, [] => []
  | a, k :: r => (leVal ((L.drop a).take k), (k : Int)) :: pairsOf L (a + k) r
theorem pairs_laid (L : List UInt8) : ∀ (ws : List Nat) (a : Nat), (∀ k ∈ ws, 1 ≤ k ∧ k ≤ 6) → a + ws.sum ≤ L.length → laidOk (pairsOf L a ws) = true ∧ laidL (pairsOf L a ws) = (L.drop a).take ws.sum
  | [], _, _, _ => ⟨rfl, by simp [pairsOf, laidL]⟩
  | k :: r, a, hk, hl => by
    rw [List.sum_cons] at hl
    obtain ⟨h1, h6⟩ := hk k (List.mem_cons_self ..)
    obtain ⟨i1, i2⟩ := pairs_laid L r (a + k) (fun x hx => hk x (List.mem_cons_of_mem _ hx)) (by omega)
    obtain ⟨p1, p2⟩ := put_back ((L.drop a).take k) k (by rw [List.length_take, List.length_drop]; omega) h1 h6
    refine ⟨?_, ?_⟩
    · rw [pairsOf, laidOk, i1, p1]; rfl
    · rw [pairsOf, laidL, i2, p2, List.sum_cons]
      show (L.drop a).take k ++ _ = _
      rw [← List.drop_drop, List.take_add]
theorem allZ_eq (t : ByteArray) (h : allZ t = true) : t.data.toList = List.replicate t.size 0 := by
  unfold allZ at h
  rw [List.all_eq_true] at h
  refine List.eq_replicate_iff.2 ⟨by simp, fun x hx => ?_⟩
  have := h x hx
  simpa using this
theorem text_cut (s : ByteArray) (a b : Nat) : (s.data.toList.drop a).take (b - a) = (s.extract a b).data.toList := by
  simp
theorem text_zeros (s : ByteArray) (a n : Nat) (hs : s.size = n) (ha : a ≤ n) (h : allZ (s.extract a n) = true) : s.data.toList.drop a = List.replicate (n - a) 0 := by
  have e := allZ_eq _ h
  have hz : (s.extract a n).size = n - a := by simp; omega
  rw [hz, ← text_cut s a n, List.take_of_length_le (by simp; omega)] at e
  exact e
theorem ba_of {s : ByteArray} {l : List UInt8} (h : s.data.toList = l) : (⟨l.toArray⟩ : ByteArray) = s := by
  subst h
  apply ByteArray.ext
  simp
end Go.Proofs.YtoopaigpjefonaaGreatDoor

namespace Go.Proofs.YtoopaigpjefonaaGreatDoor
set_option maxRecDepth 20000
open Go.RowKit

theorem get_noWidth (s : ByteArray) (a k : Int) (h : k < 1 ∨ 6 < k) (w : World) :
    Calls Tryz.prog 144 #[.string s, .int .i64 a, .int .i64 k] w fun e w' => e = .returned (.tuple #[.int .i64 0, .int .i64 1]) ∧ w' = w := by
  rcases h with h | h
  · go_enter Tryz.func144, Tryz.ntmps144
    go_wp2
    go_ret2
    exact ⟨rfl, rfl⟩
  · have h1 : 1 ≤ k := by omega
    have hd : decide (k ≤ 6) = false := by simp; omega
    go_enter Tryz.func144, Tryz.ntmps144
    go_wp2
    go_ret2
    exact ⟨rfl, rfl⟩

theorem get_short (s : ByteArray) (a : Int) (k : Nat) (h1 : 1 ≤ k) (h2 : k ≤ 6) (hs : s.size ≤ maxLen) (h : a < 0 ∨ (s.size : Int) - k < a) (w : World) :
    Calls Tryz.prog 144 #[.string s, .int .i64 a, .int .i64 k] w fun e w' => e = .returned (.tuple #[.int .i64 0, .int .i64 3]) ∧ w' = w := by
  unfold maxLen at hs
  have a1 : (1 : Int) ≤ k := by omega
  have a2 : (k : Int) ≤ 6 := by omega
  by_cases hn : a < 0
  · clear h
    go_enter Tryz.func144, Tryz.ntmps144
    go_wp2
    go_ret2
    exact ⟨rfl, rfl⟩
  · have h3 : (s.size : Int) - k < a := by omega
    clear h
    go_enter Tryz.func144, Tryz.ntmps144
    go_wp2
    go_ret2
    exact ⟨rfl, rfl⟩

set_option maxHeartbeats 400000 in
theorem get_ok (s : ByteArray) (a : Nat) (k : Nat) (h1 : 1 ≤ k) (h2 : k ≤ 6) (hs : s.size ≤ maxLen) (h : a + k ≤ s.size) (w : World) :
    Calls Tryz.prog 144 #[.string s, .int .i64 a, .int .i64 k] w fun e w' => e = .returned (.tuple #[.int .i64 (leVal ((s.data.toList.drop a).take k)), .int .i64 0]) ∧ w' = w := by
  unfold maxLen at hs
  have a1 : (1 : Int) ≤ k := by omega
  have a2 : (k : Int) ≤ 6 := by omega
  have a3 : ¬ (s.size : Int) - k < a := by omega
  go_enter Tryz.func144, Tryz.ntmps144
  go_wp2
  go_loop [8, 24] (fun x i => ∃ j : Nat, j ≤ k ∧ i = .int .i64 j ∧ x = .int .i64 (leVal ((s.data.toList.drop a).take j))) (fun _ i => k - (intOf i).toNat)
  case atStart => exact ⟨0, Nat.zero_le _, rfl, by simp [leVal]⟩
  case round =>
    obtain ⟨j, hj, rfl, rfl⟩ := hrel
    by_cases hlt : j < k
    · obtain ⟨q, hq⟩ : ∃ q, q = leVal ((s.data.toList.drop a).take j) := ⟨_, rfl⟩
      have hq0 : 0 ≤ q := by rw [hq]; exact leVal_nonneg _
      rw [← hq]
      have HQ : Hid (q = leVal ((s.data.toList.drop a).take j)) := hq
      clear hq
      have hix : a + j < s.size := by omega
      go_wp2
      go_roundw
      case rel =>
        refine ⟨j + 1, by omega, by go_num, ?_⟩
        have hlt2 : q < 256 ^ j := by rw [HQ.out]; exact numAt_lt s a j
        rw [or_high q _ j (by omega) hq0 hlt2 (by omega) (by have := s[a + j].toNat_lt; omega), numAt_snoc s a j hix, ← HQ.out]
      case measure => simp [intOf]; omega
    · have hjk : j = k := by omega
      subst hjk
      go_wp2
      go_ret2
      exact ⟨rfl, rfl⟩

/-- pack.Get, whatever it is handed. -/
theorem get_any (s : ByteArray) (a k : Int) (hs : s.size ≤ maxLen) (w : World) :
    Calls Tryz.prog 144 #[.string s, .int .i64 a, .int .i64 k] w fun e w' => e = .returned (.tuple #[.int .i64 (getN s a k), .int .i64 (getE s a k)]) ∧ w' = w := by
  by_cases hk : k < 1 ∨ 6 < k
  · rw [getN_no (.inl hk), getE_noWidth hk]
    exact get_noWidth s a k hk w
  · obtain ⟨m, rfl⟩ := Int.eq_ofNat_of_zero_le (show 0 ≤ k by omega)
    have h1 : 1 ≤ m := by omega
    have h2 : m ≤ 6 := by omega
    by_cases ha : a < 0 ∨ (s.size : Int) - m < a
    · rw [getN_no (.inr ha), getE_short (by omega) (by omega) ha]
      exact get_short s a m h1 h2 hs ha w
    · obtain ⟨b, rfl⟩ := Int.eq_ofNat_of_zero_le (show 0 ≤ a by omega)
      have hb : b + m ≤ s.size := by omega
      rw [getN_ok h1 h2 hb, getE_ok h1 h2 hb]
      exact get_ok s b m h1 h2 hs hb w
end Go.Proofs.YtoopaigpjefonaaGreatDoor

namespace Go.Proofs.YtoopaigpjefonaaGreatDoor
set_option maxRecDepth 20000
open Go.RowKit
theorem getD_beyond (l : List Nat) (d : Nat) {i : Nat} (h : l.length ≤ i) : l.getD i d = d := by
  rw [List.getD_eq_getElem?_getD, List.getElem?_eq_none h]; rfl
theorem getD_at (l : List Nat) (d : Nat) {i : Nat} (h : i < l.length) : l.getD i d = l[i] := by
  rw [List.getD_eq_getElem?_getD, List.getElem?_eq_getElem h]; rfl
theorem getD_left (l m : List Nat) (d i : Nat) (h : i < l.length) : (l ++ m).getD i d = l.getD i d := by
  rw [List.getD_eq_getElem?_getD, List.getElem?_append_left h, List.getD_eq_getElem?_getD]
theorem getD_right (l m : List Nat) (d i : Nat) (h : l.length ≤ i) : (l ++ m).getD i d = m.getD (i - l.length) d := by
  rw [List.getD_eq_getElem?_getD, List.getElem?_append_right h, List.getD_eq_getElem?_getD]
theorem pow32 : (2 : Nat) ^ 32 = 4294967296 := rfl
theorem xor_lt {a b : Nat} (ha : a < 4294967296) (hb : b < 4294967296) : a ^^^ b < 4294967296 := Nat.xor_lt_two_pow (n := 32) ha hb
theorem and_lt {a b : Nat} (hb : b < 4294967296) : a &&& b < 4294967296 := Nat.and_lt_two_pow (n := 32) a hb
theorem or_lt {a b : Nat} (ha : a < 4294967296) (hb : b < 4294967296) : a ||| b < 4294967296 := Nat.or_lt_two_pow (n := 32) ha hb
/-- Numbers that are bytes; that are words. -/
def Bytes (b : List Nat) : Prop := ∀ x ∈ b, x < 256
theorem getD_lt {b : List Nat} {m : Nat} (hm : 0 < m) (h : ∀ x ∈ b, x < m) (i : Nat) : b.getD i 0 < m := by
  by_cases hi : i < b.length
  · rw [getD_at _ _ hi]; exact h _ (List.getElem_mem _)
  · rw [getD_beyond _ _ (by omega)]; exact hm
theorem Bytes.append {a b : List Nat} (ha : Bytes a) (hb : Bytes b) : Bytes (a ++ b) := fun x hx => by
  rcases List.mem_append.1 hx with h | h
  · exact ha x h
  · exact hb x h
theorem Bytes.cons {x : Nat} {b : List Nat} (hx : x < 256) (hb : Bytes b) : Bytes (x :: b) := fun y hy => by
  rcases List.mem_cons.1 hy with h | h
  · omega
  · exact hb y h
theorem Bytes.zeros (n : Nat) : Bytes (List.replicate n 0) := fun x hx => by
  have := (List.mem_replicate.1 hx).2
  omega
theorem Bytes.take {b : List Nat} (h : Bytes b) (n : Nat) : Bytes (b.take n) := fun x hx => h x (List.mem_of_mem_take hx)
theorem Bytes.drop {b : List Nat} (h : Bytes b) (n : Nat) : Bytes (b.drop n) := fun x hx => h x (List.mem_of_mem_drop hx)
/-- A block whose cells are these. -/
def Row (w : World) (g : Nat) (t : TypeId) (l : List Value) : Prop := w.heap[g]? = some (.cells l.toArray t (0, 0))
/-- Nothing that was there is changed but block b. -/
def Only (b : Nat) (w w' : World) : Prop := Below 0 w w' ∧ ∀ k, k < w.heap.size → k ≠ b → w'.heap[k]? = w.heap[k]?
theorem Only.refl (b : Nat) (w : World) : Only b w w := ⟨Below.refl _ _, fun _ _ _ => rfl⟩
theorem Only.trans {b : Nat} {w w1 w2 : World} (h : Only b w w1) (k : Only b w1 w2) : Only b w w2 :=
  ⟨h.1.trans k.1, fun i hi hb => (k.2 i (Nat.lt_of_lt_of_le hi h.1.size) hb).trans (h.2 i hi hb)⟩
theorem Only.of_below {b : Nat} {w w' : World} (h : Below w.heap.size w w') : Only b w w' := ⟨h.mono (Nat.zero_le _), fun k hk _ => h.block k hk⟩
theorem Only.below {b : Nat} {w w' : World} (h : Only b w w') (hb : b ≤ w.heap.size) : Below b w w' := ⟨h.1.os, h.1.tape, h.1.output, h.1.size, fun k hk => h.2 k (by omega) (by omega)⟩
theorem Only.size {b : Nat} {w w' : World} (h : Only b w w') : w.heap.size ≤ w'.heap.size := h.1.size
theorem Only.drew {b : Nat} {w w' : World} (h : Only b w w') : Only b w w'.drew := ⟨h.1.drew, fun k hk hb => h.2 k hk hb⟩
theorem Only.setCell {b : Nat} {w w' : World} (h : Only b w w') (i : Nat) (v : Value) : Only b w (w'.setCell ⟨b, i, none⟩ v) :=
  ⟨h.1.setCell (p := ⟨b, i, none⟩) (Nat.zero_le _) _, fun k hk hb => (Below.heap_setCell w' ⟨b, i, none⟩ _ k hb).trans (h.2 k hk hb)⟩
theorem set_mid (A P Q C : List Value) (v q : Value) (n : Nat) (hn : n = A.length + P.length) : (A ++ P ++ (q :: Q) ++ C).toArray.setIfInBounds n v = (A ++ (P ++ [v]) ++ Q ++ C).toArray := by
  subst hn
  rw [List.setIfInBounds_toArray]
  congr 1
  rw [List.append_assoc, List.set_append_right _ _ (by simp), List.length_append, Nat.sub_self]
  simp
/-- Bytes as values. -/
def byV (l : List Nat) : List Value := l.map fun x => Value.int .u8 (x : Nat)
theorem below_rowH {B g : Nat} {w0 w : World} (h : Below B w0 w) (hg : B ≤ g) (cs : Array Value) : Below B w0 (w.setRow g cs) :=
  h.trans ⟨rfl, rfl, rfl, by simp [World.setRow], fun k hk => setRow_other _ _ _ _ (by omega)⟩
theorem Row.lt {w : World} {g : Nat} {t : TypeId} {l : List Value} (h : Row w g t l) : g < w.heap.size := lt_of_block h
theorem Row.cell {w : World} {g : Nat} {t : TypeId} {l : List Value} (h : Row w g t l) (i : Nat) : w.cell? ⟨g, i, none⟩ = l[i]? := (cell_of_row _ _ _ _ _ _ h).trans (by simp)
theorem Row.frozen {w : World} {g : Nat} {t : TypeId} {l : List Value} (h : Row w g t l) (i : Nat) : w.frozen? ⟨g, i, none⟩ = false := by simp [World.frozen?, show w.heap[g]? = _ from h]
theorem Row.below {w w' : World} {g : Nat} {t : TypeId} {l : List Value} (h : Row w g t l) {B : Nat} (hb : Below B w w') (hg : g < B) : Row w' g t l := (hb.block _ hg).trans h
theorem Row.only {w w' : World} {g b : Nat} {t : TypeId} {l : List Value} (h : Row w g t l) (ho : Only b w w') (hg : g ≠ b) : Row w' g t l := (ho.2 _ h.lt hg).trans h
theorem Row.set {w : World} {g n : Nat} {t : TypeId} {A C : List Value} {q : Value} (h : Row w g t (A ++ [q] ++ C)) (v : Value) (hn : n = A.length) : Row (w.setCell ⟨g, n, none⟩ v) g t (A ++ [v] ++ C) := by
  have h1 := heap_setCell_same w g n _ t v h
  have h2 := set_mid A [] [] C v q n (by simpa using hn)
  simp only [List.append_nil, List.nil_append] at h2
  rw [h2] at h1
  exact h1
theorem Row.setCells {g : Nat} {t : TypeId} {C : List Value} : ∀ (vs B A : List Value) (w : World) (n : Nat), vs.length = B.length → n = A.length → Row w g t (A ++ B ++ C) → Row (w.setCells g n vs) g t (A ++ vs ++ C)
  | [], [], A, w, n, _, _, h => h
  | v :: vs, q :: B, A, w, n, hl, hn, h => by
    have h1 : Row w g t (A ++ [q] ++ (B ++ C)) := by simpa using h
    have h2 := h1.set v hn
    have h3 : Row (w.setCell ⟨g, n, none⟩ v) g t ((A ++ [v]) ++ B ++ C) := by simpa using h2
    have h4 := Row.setCells vs B (A ++ [v]) _ (n + 1) (by simpa using hl) (by simp [hn]) h3
    show Row ((w.setCell ⟨g, n, none⟩ v).setCells g (n + 1) vs) g t (A ++ (v :: vs) ++ C)
    rw [show A ++ (v :: vs) ++ C = (A ++ [v]) ++ vs ++ C by simp]
    exact h4
  | v :: vs, [], A, w, n, hl, _, _ => by simp at hl
  | [], q :: B, A, w, n, hl, _, _ => by simp at hl
theorem Only.setCells {b : Nat} {w : World} : ∀ (vs : List Value) (n : Nat) (w' : World), Only b w w' → Only b w (w'.setCells b n vs)
  | [], _, _, h => h
  | v :: vs, n, _, h => Only.setCells vs (n + 1) _ (h.setCell n v)
/-- copy of a text that is longer than there is room. -/
theorem run_copy_part {P : Program} (w : World) (dT sT ty elem : TypeId) (b o dLen dCap : Nat) (t : ByteArray)
    (hu : P.underlying dT = some (.slice elem)) (hz : ∀ w, (Go.sizeOf elem).run P w = .ok 1 w) (hle : dLen ≤ t.size)
    (hc : ∀ j, j < dLen → (w.cell? ⟨b, o + j, none⟩).isSome = true) (hf : ∀ j, j < dLen → w.frozen? ⟨b, o + j, none⟩ = false) :
    (Builtin.copy_ #[dT, sT] ty #[.slice (some ⟨b, o, none⟩) dLen dCap, .string t]).run P w = .ok (goInt dLen) (w.setCells b o ((t.data.toList.take dLen).map fun x => Value.int .u8 (x.toNat : Int))) := by
  have hmin : Nat.min t.size dLen = dLen := Nat.min_eq_right hle
  have hl : ((t.data.toList.take dLen).map fun x => Value.int .u8 (x.toNat : Int)).length = dLen := by
    rw [List.length_map, List.length_take, ← Lib.size_eq]; omega
  have hst := run_storeCells_cells (P := P) b o ((t.data.toList.take dLen).map fun x => Value.int .u8 (x.toNat : Int)) 0 w (by rw [hl]; simpa using hc) (by rw [hl]; simpa using hf) (by
    intro v hv
    obtain ⟨x, _, rfl⟩ := List.mem_map.1 hv
    rfl)
  simp [Builtin.copy_, run_underlying hu, Builtin.lenOf, Builtin.firstCells, hz, hmin]
  rw [← List.map_take, hst]
  rfl
theorem byV_append (a b : List Nat) : byV (a ++ b) = byV a ++ byV b := by simp [byV]
theorem byV_zeros (n : Nat) : byV (List.replicate n 0) = List.replicate n (Value.int .u8 0) := by simp [byV]
theorem byV_get (b : List Nat) (i : Nat) (h : i < b.length) : (byV b)[i]? = some (.int .u8 (b.getD i 0 : Nat)) := by
  rw [byV, List.getElem?_map, List.getElem?_eq_getElem h, getD_at _ _ h]
  rfl
theorem zero_u8 (w : World) : (zeroValue 5).run Tryz.prog w = .ok (.int .u8 0) w := (zero_of_info (n := 1) (by kernel_rfl)).1 w
/-- A text's bytes as numbers. -/
def numsOf (s : ByteArray) : List Nat := s.data.toList.map (·.toNat)
theorem numsOf_length (s : ByteArray) : (numsOf s).length = s.size := by simp [numsOf]
theorem numsOf_bytes (s : ByteArray) : Bytes (numsOf s) := fun x hx => by
  obtain ⟨y, _, rfl⟩ := List.mem_map.1 hx
  exact y.toNat_lt
def strSize : Value → Nat
  | .string t => t.size
  | _ => 0
theorem size_u8 (w : World) : (Go.sizeOf 5).run Tryz.prog w = .ok 1 w := by
  obtain ⟨i0, hi, hz0, hz1, hz2⟩ := info_parts (show (Tryz.prog.info? 5).map (fun i => (i.zero, i.size, i.bytes)) = some (some (.int .u8 0), 1, 1) by kernel_rfl)
  simp [Go.sizeOf, typeInfo, hi, hz1]
theorem numsOf_extract (s : ByteArray) (p q : Nat) : numsOf (s.extract p q) = ((numsOf s).drop p).take (q - p) := by
  rw [numsOf, Lib.extract_data, List.map_take, List.map_drop]
  rfl
theorem numsOf_append (s t : ByteArray) : numsOf (s ++ t) = numsOf s ++ numsOf t := by
  simp [numsOf]
theorem numsOf_str (l : List Nat) (h : Bytes l) : numsOf (strOfNums (l.map fun (x : Nat) => (x : Int))) = l := by
  unfold numsOf strOfNums
  rw [List.map_map, List.map_map]
  conv => rhs; rw [← List.map_id l]
  refine List.map_congr_left fun x hx => ?_
  have hx := h x hx
  simp
  omega
theorem wraps_i64 (n : Int) (h0 : 0 ≤ n) (h1 : n < 2 ^ 63) : IntKind.i64.wrap n = n := by rw [IntKind.wrap_i64]; omega
theorem i64_and_nat (a b : Nat) (ha : a < 9223372036854775808) (hb : b < 9223372036854775808) : bits .and .i64 (a : Int) (b : Int) = ((a &&& b : Nat) : Int) := (bits_nat .i64 63 (by decide) wraps_i64 a b ha hb).1
theorem i64_or_nat (a b : Nat) (ha : a < 9223372036854775808) (hb : b < 9223372036854775808) : bits .or .i64 (a : Int) (b : Int) = ((a ||| b : Nat) : Int) := (bits_nat .i64 63 (by decide) wraps_i64 a b ha hb).2
theorem i64_xor_nat (a b : Nat) (ha : a < 9223372036854775808) (hb : b < 9223372036854775808) : bits .xor .i64 (a : Int) (b : Int) = ((a ^^^ b : Nat) : Int) := by
  have hx : a ^^^ b < 2 ^ 63 := Nat.xor_lt_two_pow ha hb
  show IntKind.i64.wrap ((BitVec.ofInt 64 (a : Int) ^^^ BitVec.ofInt 64 (b : Int)).toNat : Int) = _
  rw [BitVec.toNat_xor, ofInt_u64 a (by omega), ofInt_u64 b (by omega)]
  exact wraps_i64 _ (Int.natCast_nonneg _) (by exact_mod_cast hx)
theorem info_u8 : (Tryz.prog.info? 5).map (fun i => (i.zero, i.size, i.bytes)) = some (some (.int .u8 0), 1, 1) := by kernel_rfl
theorem numsV (s : ByteArray) : (s.data.toList.map fun x => Value.int .u8 (x.toNat : Int)) = byV (numsOf s) := by simp [byV, numsOf]
def sliceLen : Value → Nat
  | .slice _ n _ => n
  | _ => 0
end Go.Proofs.YtoopaigpjefonaaGreatDoor

namespace Go.Proofs.YtoopaigpjefonaaGreatDoor
set_option maxRecDepth 20000
open Go.RowKit

/-- What a reader panics with. -/
def gave (e : Int) : List PanicEntry := [{ v := .iface 281 (.agg #[.int .i64 e]), recovered := false }]
/-- What a world holds of a reader in block b: its text, and where it stands. -/
def Rd (w : World) (b : Nat) (s : ByteArray) (at' : Nat) : Prop := w.heap[b]? = some (.cells #[.string s, .int .i64 at'] 285 (0, 0))
theorem rd_cell0 {w : World} {b : Nat} {u v : Value} {t : TypeId} (h : w.heap[b]? = some (.cells #[u, v] t (0, 0))) : w.cell? ⟨b, 0, none⟩ = some u := by simp [World.cell?, h]
theorem rd_cell1 {w : World} {b : Nat} {u v : Value} {t : TypeId} (h : w.heap[b]? = some (.cells #[u, v] t (0, 0))) : w.cell? ⟨b, 1, none⟩ = some v := by simp [World.cell?, h]
theorem rd_free {w : World} {b : Nat} {u v : Value} {t : TypeId} (i : Nat) (h : w.heap[b]? = some (.cells #[u, v] t (0, 0))) : w.frozen? ⟨b, i, none⟩ = false := by simp [World.frozen?, h]
theorem rd_set {w : World} {b : Nat} {u v x : Value} {t : TypeId} (h : w.heap[b]? = some (.cells #[u, v] t (0, 0))) : (w.setCell ⟨b, 1, none⟩ x).heap[b]? = some (.cells #[u, x] t (0, 0)) := by
  have hlt := lt_of_block h
  have h' : w.heap[b] = .cells #[u, v] t (0, 0) := by simpa [Array.getElem?_eq_getElem hlt] using h
  show (w.heap.modify b _)[b]? = _
  rw [Array.getElem?_eq_getElem (by simpa using hlt), Array.getElem_modify_self, h']
  rfl

theorem rd_step {w : World} {b : Nat} {s : ByteArray} {a : Nat} (h : Rd w b s a) (n q : Nat) (x : Int) (hx : x = ((a + n : Nat) : Int)) :
    Rd ((w.drewN q).setCell ⟨b, 1, none⟩ (.int .i64 x)) b s (a + n) ∧ Only b w ((w.drewN q).setCell ⟨b, 1, none⟩ (.int .i64 x)) := by
  subst hx
  have h' : (w.drewN q).heap[b]? = some (.cells #[.string s, .int .i64 a] 285 (0, 0)) := h
  exact ⟨rd_set h', (below_drewN (Below.refl 0 w) q).setCell (p := ⟨b, 1, none⟩) (Nat.zero_le _) _, fun k _ hb => Below.heap_setCell (w.drewN q) ⟨b, 1, none⟩ _ k hb⟩
theorem Rd.lt {w : World} {b : Nat} {s : ByteArray} {a : Nat} (h : Rd w b s a) : b < w.heap.size := lt_of_block h
theorem Rd.below {w w' : World} {b : Nat} {s : ByteArray} {a : Nat} (h : Rd w b s a) (hb : Below w.heap.size w w') : Rd w' b s a := (hb.block b h.lt).trans h

theorem must_yes (b : Nat) (w : World) : Calls Tryz.prog 181 #[.pointer (some ⟨b, 0, none⟩), .bool true] w fun e w' => e = .returned (.tuple #[]) ∧ w' = w := by
  go_enter Tryz.func181, Tryz.ntmps181
  go_wp2
  go_end0
  exact ⟨rfl, rfl⟩
theorem must_no (b : Nat) (w : World) : Calls Tryz.prog 181 #[.pointer (some ⟨b, 0, none⟩), .bool false] w fun e w' => e = .panicked (gave 5) ∧ w' = w := by
  go_enter Tryz.func181, Tryz.ntmps181
  go_wp2
  exact ⟨rfl, rfl, rfl⟩

set_option maxHeartbeats 400000 in
theorem number_any (b : Nat) (s : ByteArray) (a k : Nat) (h1 : 1 ≤ k) (h6 : k ≤ 6) (ha : a + k ≤ s.size) (hs : s.size ≤ 4096) (w : World) (h : Rd w b s a) :
    Calls Tryz.prog 180 #[.pointer (some ⟨b, 0, none⟩), .int .i64 k] w fun e w' => e = .returned (.int .i64 (leVal ((s.data.toList.drop a).take k))) ∧ Rd w' b s (a + k) ∧ Only b w w' := by
  have hc0 := rd_cell0 h
  have hc1 := rd_cell1 h
  have hf1 := rd_free 1 h
  have HR : Hid (Rd w b s a) := h
  have HN : Hid (getN s a k = leVal ((s.data.toList.drop a).take k) ∧ getE s a k = 0) := ⟨getN_ok h1 h6 ha, getE_ok h1 h6 ha⟩
  clear h
  go_enter Tryz.func180, Tryz.ntmps180
  go_wp2
  go_quiet ((go_at_call 144; exact Calls.quiet_of_same (get_any s a k (by unfold maxLen; omega) _)))
  rw [HN.out.1, HN.out.2]
  go_wp2
  go_ret
  exact ⟨rfl, rd_step HR.out k _ _ (by omega)⟩

set_option maxHeartbeats 400000 in
theorem number_short (b : Nat) (s : ByteArray) (a k : Nat) (h1 : 1 ≤ k) (h6 : k ≤ 6) (ha : ¬ a + k ≤ s.size) (hs : s.size ≤ 4096) (w : World) (h : Rd w b s a) :
    Calls Tryz.prog 180 #[.pointer (some ⟨b, 0, none⟩), .int .i64 k] w fun e w' => e = .panicked (gave 3) ∧ Below w.heap.size w w' := by
  have hc0 := rd_cell0 h
  have hc1 := rd_cell1 h
  have HN : Hid (getN s a k = 0 ∧ getE s a k = 3) := ⟨getN_no (.inr (.inr (by omega))), getE_short (by omega) (by omega) (.inr (by omega))⟩
  clear h
  go_enter Tryz.func180, Tryz.ntmps180
  go_wp2
  go_quiet ((go_at_call 144; exact Calls.quiet_of_same (get_any s a k (by unfold maxLen; omega) _)))
  rw [HN.out.1, HN.out.2]
  go_wp2
  exact ⟨rfl, rfl, below_drewN (Below.refl _ _) _⟩

set_option maxHeartbeats 400000 in
theorem bytes_any (b : Nat) (s : ByteArray) (a n : Nat) (ha : a + n ≤ s.size) (hs : s.size ≤ 4096) (w : World) (h : Rd w b s a) :
    Calls Tryz.prog 179 #[.pointer (some ⟨b, 0, none⟩), .int .i64 n] w fun e w' => e = .returned (.string (s.extract a (a + n))) ∧ Rd w' b s (a + n) ∧ Only b w w' := by
  have hc0 := rd_cell0 h
  have hc1 := rd_cell1 h
  have hf1 := rd_free 1 h
  have HR : Hid (Rd w b s a) := h
  have i1 : ¬ (s.size : Int) - a < n := by omega
  have i2 : (a : Int) + n ≤ s.size := by omega
  have i3 : (0 : Int) ≤ a := by omega
  have i4 : (a : Int) ≤ (a : Int) + n := by omega
  clear h
  go_enter Tryz.func179, Tryz.ntmps179
  go_wp2
  go_quiet (fail)
  go_wp2
  go_quiet (fail)
  go_wp2
  go_ret
  exact ⟨rfl, rd_step HR.out n _ _ (by omega)⟩

set_option maxHeartbeats 400000 in
theorem bytes_short (b : Nat) (s : ByteArray) (a n : Nat) (ha : ¬ a + n ≤ s.size) (hn : n ≤ 4096) (hs : s.size ≤ 4096) (hp : a ≤ 4096) (w : World) (h : Rd w b s a) :
    Calls Tryz.prog 179 #[.pointer (some ⟨b, 0, none⟩), .int .i64 n] w fun e w' => e = .panicked (gave 3) ∧ Below w.heap.size w w' := by
  have hc0 := rd_cell0 h
  have hc1 := rd_cell1 h
  have i1 : (s.size : Int) - a < n := by omega
  clear h
  go_enter Tryz.func179, Tryz.ntmps179
  go_wp2
  go_quiet (fail)
  go_wp2
  exact ⟨rfl, rfl, below_drewN (Below.refl _ _) _⟩
end Go.Proofs.YtoopaigpjefonaaGreatDoor
