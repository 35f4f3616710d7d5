/- Plain facts on numbers and lists of bytes (bytes of a number, lowest first; a number of bytes; a text filled up; cells that are stored in a row): no program is named here. -/
import Derived.WalkKit
import Derived.Laws.BytesArg
import Derived.Laws.BitsLemmas
import Derived.Lib.LazyBuf
namespace Go.Proofs.YtdngoicpcocnnaaGreatDoor
set_option maxRecDepth 20000

/-- The first k bytes of a number, the lowest first. -/
def leI (k : Nat) (n : Int) : List Int := (List.range k).map fun i => n / 256 ^ i % 256
theorem leI_length (k : Nat) (n : Int) : (leI k n).length = k := by simp [leI]
theorem leI_succ (k : Nat) (n : Int) : leI (k + 1) n = leI k n ++ [n / 256 ^ k % 256] := by simp [leI, List.range_succ]
theorem leI_get (k : Nat) (n : Int) (i : Nat) (h : i < k) : (leI k n).getD i 0 = n / 256 ^ i % 256 := by
  simp [leI, List.getD, h]

/-- What stands in a row of k bytes when the first j were laid. -/
def putRow (k j : Nat) (n : Int) : List Int := leI j n ++ List.replicate (k - j) 0
theorem putRow_zero (k : Nat) (n : Int) : putRow k 0 n = List.replicate k 0 := by simp [putRow, leI]
theorem putRow_full (k : Nat) (n : Int) : putRow k k n = leI k n := by simp [putRow]
theorem putRow_length (k j : Nat) (n : Int) (h : j ≤ k) : (putRow k j n).length = k := by simp [putRow, leI_length]; omega
theorem putRow_set (k j : Nat) (n : Int) (h : j < k) : (putRow k j n).set j (n / 256 ^ j % 256) = putRow k (j + 1) n := by
  unfold putRow
  rw [leI_succ, List.set_append_right _ _ (by rw [leI_length]; exact Nat.le_refl _), leI_length, Nat.sub_self]
  rw [show k - j = (k - (j + 1)) + 1 by omega, List.replicate_succ]
  simp
theorem pow_eq (j : Nat) : (2 : Int) ^ (8 * j) = 256 ^ j := by rw [Int.pow_mul]; rfl

/-- What Put tells: the bytes, and the error's number. -/
def putS (n k : Int) : ByteArray := if (1 ≤ k ∧ k ≤ 6) ∧ 0 ≤ n ∧ n < 256 ^ k.toNat then strOfNums (leI k.toNat n) else ByteArray.empty
def putE (n k : Int) : Int := if k < 1 ∨ 6 < k then 1 else if n < 0 ∨ 256 ^ k.toNat ≤ n then 2 else 0
theorem putS_noWidth {n k : Int} (h : k < 1 ∨ 6 < k) : putS n k = ByteArray.empty := by unfold putS; rw [if_neg (by omega)]
theorem putE_noWidth {n k : Int} (h : k < 1 ∨ 6 < k) : putE n k = 1 := by unfold putE; rw [if_pos h]
theorem putS_noRoom {n : Int} {m : Nat} (h : n < 0 ∨ 256 ^ m ≤ n) : putS n m = ByteArray.empty := by
  unfold putS; rw [Int.toNat_natCast, if_neg (by omega)]
theorem putE_noRoom {n : Int} {m : Nat} (h1 : 1 ≤ m) (h2 : m ≤ 6) (h : n < 0 ∨ 256 ^ m ≤ n) : putE n m = 2 := by
  unfold putE; rw [Int.toNat_natCast, if_neg (by omega), if_pos h]
theorem putS_ok {n : Int} {m : Nat} (h1 : 1 ≤ m) (h2 : m ≤ 6) (h : 0 ≤ n) (h' : n < 256 ^ m) : putS n m = strOfNums (leI m n) := by
  unfold putS; rw [Int.toNat_natCast, if_pos (by omega)]
theorem putE_ok {n : Int} {m : Nat} (h1 : 1 ≤ m) (h2 : m ≤ 6) (h : 0 ≤ n) (h' : n < 256 ^ m) : putE n m = 0 := by
  unfold putE; rw [Int.toNat_natCast, if_neg (by omega), if_neg (by omega)]
theorem leI_step (n : Int) (j : Nat) : n / 256 ^ j / 256 = n / 256 ^ (j + 1) := by
  rw [Int.pow_succ, Int.ediv_ediv_of_nonneg (Int.le_of_lt (Int.pow_pos (by decide)))]

/-- The number of some bytes, the lowest first. -/
def leVal : List UInt8 → Int
  | [] => 0
  | b :: r => (b.toNat : Int) + 256 * leVal r
theorem leVal_nonneg (l : List UInt8) : 0 ≤ leVal l := by
  induction l with
  | nil => exact Int.le_refl _
  | cons b r ih => unfold leVal; omega
theorem leVal_lt (l : List UInt8) : leVal l < 256 ^ l.length := by
  induction l with
  | nil => unfold leVal; decide
  | cons b r ih =>
    have hb : b.toNat < 256 := b.toNat_lt
    unfold leVal
    rw [List.length_cons, Int.pow_succ]
    omega
theorem leVal_snoc (l : List UInt8) (b : UInt8) : leVal (l ++ [b]) = leVal l + b.toNat * 256 ^ l.length := by
  induction l with
  | nil => simp [leVal]
  | cons c r ih =>
    rw [List.cons_append]
    unfold leVal
    rw [ih, List.length_cons, Int.pow_succ]
    rw [Int.mul_add, Int.add_assoc, Int.mul_left_comm, Int.mul_comm 256 (256 ^ r.length)]

theorem bits_or_comm (k : IntKind) (x y : Int) : bits .or k x y = bits .or k y x := by simp [bits, BitVec.or_comm]
theorem wraps_i64p (n : Int) (h : 0 ≤ n) (h' : n < 2 ^ 63) : IntKind.i64.wrap n = n := by
  simp [IntKind.wrap, IntKind.bits, IntKind.signed]
  split <;> omega
theorem or_lit (q b : Int) (j : Nat) (P : Int) (i : Nat) (hP : P = 2 ^ i) (hi : P ≤ 1099511627776) (hj : (2 : Int) ^ (8 * j) = P) (h0 : 0 ≤ q) (hq : q < P) (hb0 : 0 ≤ b) (hb : b < 256) :
    bits .or .i64 q (RowKit.wrap64 (RowKit.wrap64 b * 2 ^ (8 * j))) = q + b * P := by
  have hbp : 0 ≤ b * P ∧ b * P ≤ 255 * 1099511627776 := by
    have hP0 : 0 ≤ P := by omega
    refine ⟨Int.mul_nonneg hb0 hP0, Int.le_trans (Int.mul_le_mul_of_nonneg_right (show b ≤ 255 by omega) hP0) (by omega)⟩
  rw [hj, show RowKit.wrap64 b = b from by unfold RowKit.wrap64; omega, show RowKit.wrap64 (b * P) = b * P from by unfold RowKit.wrap64; omega, bits_or_comm]
  rw [bits_join .i64 63 (by decide) wraps_i64p i (b * P) q hbp.1 (by rw [hP]; exact Int.mul_emod_left _ _) (by omega) h0 (by rw [← hP]; exact hq) (by omega)]
  omega
/-- A byte that is laid above a number that stands below it. -/
theorem or_high (q b : Int) (j : Nat) (hj : j ≤ 5) (h0 : 0 ≤ q) (hq : q < 256 ^ j) (hb0 : 0 ≤ b) (hb : b < 256) :
    bits .or .i64 q (RowKit.wrap64 (RowKit.wrap64 b * 2 ^ (8 * j))) = q + b * 256 ^ j := by
  have hle : (256 : Int) ^ j ≤ 1099511627776 := by
    have : j = 0 ∨ j = 1 ∨ j = 2 ∨ j = 3 ∨ j = 4 ∨ j = 5 := by omega
    rcases this with rfl | rfl | rfl | rfl | rfl | rfl <;> decide
  exact or_lit q b j (256 ^ j) (8 * j) (pow_eq j).symm hle (pow_eq j) h0 hq hb0 hb
theorem take_drop_snoc (s : ByteArray) (a j : Nat) (h : a + j < s.size) : (s.data.toList.drop a).take (j + 1) = (s.data.toList.drop a).take j ++ [s[a + j]] := by
  have hl : s.data.toList.length = s.size := by simp
  rw [List.take_succ_eq_append_getElem (by simp; omega)]
  simp
  rfl
/-- The number of the bytes that stand at a place, with one byte more. -/
theorem numAt_snoc (s : ByteArray) (a j : Nat) (h : a + j < s.size) : leVal ((s.data.toList.drop a).take (j + 1)) = leVal ((s.data.toList.drop a).take j) + s[a + j].toNat * 256 ^ j := by
  have hl : s.data.toList.length = s.size := by simp
  rw [take_drop_snoc s a j h, leVal_snoc, List.length_take, List.length_drop, hl, Nat.min_eq_left (by omega)]
theorem numAt_lt (s : ByteArray) (a j : Nat) : leVal ((s.data.toList.drop a).take j) < 256 ^ j := by
  refine Int.lt_of_lt_of_le (leVal_lt _) ?_
  have : ((s.data.toList.drop a).take j).length ≤ j := List.length_take_le _ _
  have h2 := Nat.pow_le_pow_right (show 0 < 256 by decide) this
  have e : ∀ m : Nat, ((256 ^ m : Nat) : Int) = (256 : Int) ^ m := fun m => by rw [Int.natCast_pow]; rfl
  rw [← e, ← e]
  exact Int.ofNat_le.2 h2
theorem numAt_cons (s : ByteArray) (a j : Nat) (h : a < s.size) : leVal ((s.data.toList.drop a).take (j + 1)) = s[a].toNat + 256 * leVal ((s.data.toList.drop (a + 1)).take j) := by
  have hl : s.data.toList.length = s.size := by simp
  rw [List.drop_eq_getElem_cons (by omega), List.take_succ_cons]
  rfl
theorem pow6 (j : Nat) (h : j ≤ 6) : (256 : Int) ^ j ≤ 281474976710656 := by
  have : j = 0 ∨ j = 1 ∨ j = 2 ∨ j = 3 ∨ j = 4 ∨ j = 5 ∨ j = 6 := by omega
  rcases this with rfl | rfl | rfl | rfl | rfl | rfl | rfl <;> decide
/-- What Get tells. -/
def getN (s : ByteArray) (a k : Int) : Int := if (1 ≤ k ∧ k ≤ 6) ∧ 0 ≤ a ∧ a ≤ s.size - k then leVal ((s.data.toList.drop a.toNat).take k.toNat) else 0
def getE (s : ByteArray) (a k : Int) : Int := if k < 1 ∨ 6 < k then 1 else if a < 0 ∨ s.size - k < a then 3 else 0
theorem getN_no {s : ByteArray} {a k : Int} (h : (k < 1 ∨ 6 < k) ∨ a < 0 ∨ s.size - k < a) : getN s a k = 0 := by unfold getN; rw [if_neg (by omega)]
theorem getE_noWidth {s : ByteArray} {a k : Int} (h : k < 1 ∨ 6 < k) : getE s a k = 1 := by unfold getE; rw [if_pos h]
theorem getE_short {s : ByteArray} {a k : Int} (h1 : 1 ≤ k) (h2 : k ≤ 6) (h : a < 0 ∨ s.size - k < a) : getE s a k = 3 := by
  unfold getE; rw [if_neg (by omega), if_pos h]
theorem getE_ok {s : ByteArray} {a k : Nat} (h1 : 1 ≤ k) (h2 : k ≤ 6) (h : a + k ≤ s.size) : getE s a k = 0 := by
  unfold getE; rw [if_neg (by omega), if_neg (by omega)]
theorem getN_ok {s : ByteArray} {a k : Nat} (h1 : 1 ≤ k) (h2 : k ≤ 6) (h : a + k ≤ s.size) : getN s a k = leVal ((s.data.toList.drop a).take k) := by
  unfold getN; rw [if_pos (by omega)]; simp

/-- What Pad tells. -/
def padS (s : ByteArray) (n : Int) : ByteArray := if (0 ≤ n ∧ n ≤ 4096) ∧ s.size ≤ n then ⟨(s.data.toList ++ List.replicate (n.toNat - s.size) 0).toArray⟩ else ByteArray.empty
def padE (s : ByteArray) (n : Int) : Int := if n < 0 ∨ 4096 < n then 1 else if n < s.size then 4 else 0
theorem padS_no {s : ByteArray} {n : Int} (h : (n < 0 ∨ 4096 < n) ∨ n < s.size) : padS s n = ByteArray.empty := by unfold padS; rw [if_neg (by omega)]
theorem padE_arg {s : ByteArray} {n : Int} (h : n < 0 ∨ 4096 < n) : padE s n = 1 := by unfold padE; rw [if_pos h]
theorem padE_long {s : ByteArray} {n : Nat} (h1 : n ≤ 4096) (h : n < s.size) : padE s n = 4 := by unfold padE; rw [if_neg (by omega), if_pos (by omega)]
theorem padS_ok {s : ByteArray} {n : Nat} (h1 : n ≤ 4096) (h : s.size ≤ n) : padS s n = ⟨(s.data.toList ++ List.replicate (n - s.size) 0).toArray⟩ := by
  unfold padS; rw [if_pos (by omega), Int.toNat_natCast]
theorem padE_ok {s : ByteArray} {n : Nat} (h1 : n ≤ 4096) (h : s.size ≤ n) : padE s n = 0 := by unfold padE; rw [if_neg (by omega), if_neg (by omega)]
/-- The numbers of a text's bytes, and of noughts behind. -/
def padNums (s : ByteArray) (n : Nat) : List Int := s.data.toList.map (fun x => (x.toNat : Int)) ++ List.replicate (n - s.size) 0
theorem padNums_length (s : ByteArray) (n : Nat) (h : s.size ≤ n) : (padNums s n).length = n := by
  have hl : s.data.toList.length = s.size := by simp
  simp only [padNums, List.length_append, List.length_map, hl, List.length_replicate]; omega
theorem str_map_nums (l : List UInt8) : strOfNums (l.map fun x => (x.toNat : Int)) = ⟨l.toArray⟩ := by
  unfold strOfNums
  rw [List.map_map]
  congr 1
  congr 1
  conv => rhs; rw [← List.map_id l]
  apply List.map_congr_left
  intro x _
  simp
theorem strOf_padNums (s : ByteArray) (n : Nat) : strOfNums (padNums s n) = ⟨(s.data.toList ++ List.replicate (n - s.size) 0).toArray⟩ := by
  rw [← str_map_nums]
  unfold padNums
  congr 1
  simp
theorem str_append (s : ByteArray) (l : List Int) : s ++ strOfNums l = ⟨(s.data.toList ++ l.map fun n => UInt8.ofNat n.toNat).toArray⟩ := by
  apply ByteArray.ext
  apply Array.toList_inj.1
  simp [strOfNums]
/-- So many bytes 0. -/
def noughtsS (m : Nat) : ByteArray := strOfNums (List.replicate m 0)
theorem noughtsS_size (m : Nat) : (noughtsS m).size = m := by unfold noughtsS; rw [strOfNums_size]; simp
theorem pad_append (s : ByteArray) (m : Nat) : s ++ noughtsS m = ⟨(s.data.toList ++ List.replicate m 0).toArray⟩ := by
  unfold noughtsS; rw [str_append]; simp

/-- Cells that are stored one behind the other. -/
def setMany (xs : List Value) : Nat → List Value → List Value
  | _, [] => xs
  | o, v :: r => setMany (xs.set o v) (o + 1) r
theorem setMany_eq : ∀ (vs : List Value) (xs : List Value) (o : Nat), o + vs.length ≤ xs.length → setMany xs o vs = xs.take o ++ vs ++ xs.drop (o + vs.length)
  | [], xs, o, _ => by simp [setMany]
  | v :: r, xs, o, h => by
    have ho : o < xs.length := by simp at h; omega
    rw [setMany, setMany_eq r _ _ (by simp at h ⊢; omega)]
    rw [List.take_set, List.take_succ_eq_append_getElem ho, List.set_append_right _ _ (by simp; omega), List.drop_set]
    rw [if_pos (by omega)]
    simp [Nat.min_eq_left (Nat.le_of_lt ho)]
    rw [show o + 1 + r.length = o + (r.length + 1) by omega]
theorem ownsRow_setCells {base g n cap : Nat} {e : TypeId} : ∀ (vs : List Value) (o : Nat) (w : World) (xs : List Value), w.ownsRow base e 1 (.slice (some ⟨g, 0, none⟩) n cap) n xs →
    (w.setCells g o vs).ownsRow base e 1 (.slice (some ⟨g, 0, none⟩) n cap) n (setMany xs o vs)
  | [], _, _, _, h => h
  | v :: r, o, _, _, h => ownsRow_setCells r (o + 1) _ _ (h.stored o v).1

/-- 'copy' of a text into a slice that has room for it, as a step of a list of operations. -/
theorem wpList_copy_text {P : Program} {w : World} {ops : Array Oper} {rest : List Oper} {o : Oper} {a : Act} {Q : Exit → Act → World → Prop} (hgd : o.guard = none) (d x : Operand) (dT sT : TypeId)
    (ho : o.op = .call { callee := .builtin .copy, args := #[d, x], argTypes := #[dT, sT] }) (elem : TypeId) (hu : P.underlying dT = some (.slice elem)) (hz : ∀ w, (Go.sizeOf elem).run P w = .ok 1 w)
    (b off dLen dCap : Nat) (hd : a.eval d = .slice (some ⟨b, off, none⟩) dLen dCap) (t : ByteArray) (hx : a.eval x = .string t) (hle : t.size ≤ dLen)
    (hc : ∀ j, j < t.size → (w.cell? ⟨b, off + j, none⟩).isSome = true) (hf : ∀ j, j < t.size → w.frozen? ⟨b, off + j, none⟩ = false)
    (h : wpList P ops Q rest (a.put o.dst (goInt t.size)) (w.setCells b off (t.data.toList.map fun x => Value.int .u8 (x.toNat : Int)))) : wpList P ops Q (o :: rest) a w := by
  refine wpList_plain hgd fun K hK => ?_
  have hrun := run_copy_string (P := P) w dT sT o.type elem b off dLen dCap t hu hz hle hc hf
  unfold Oper.wp
  simp [execOp, ho, resolve, invoke, builtin, hd, hx, hrun, Result.andThen]
  exact hK _ _ h
end Go.Proofs.YtdngoicpcocnnaaGreatDoor
