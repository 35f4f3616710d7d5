/- Plain facts on numbers and lists of bytes (bytes of a number, lowest first; a number of bytes; a text filled up; cells that are stored in a row): no program is named here. · pack.Put, called with any two numbers, tells the bytes putS and the error putE, and changes nothing that was there. · pack.Pad, called with any text and any number, tells the text padS and the error padE, and changes nothing that was there. · A number that is laid as bytes, the lowest first, is the number of these bytes. -/
import Derived.WalkKit
import Derived.Laws.BytesArg
import Derived.Laws.BitsLemmas
import Derived.Lib.LazyBuf
import Derived.Test.YtdhiopbomnfmnaaGreatDoorRows
import Derived.WalkSpells
import Derived.WalkLawsBesides
import Derived.Below
namespace Go.Proofs.YtdhiopbomnfmnaaGreatDoor
set_option maxRecDepth 20000

/-- The first k bytes of a number, the lowest first. -/
def leI (k : Nat) (n : Int) : List Int := (List.range k).map fun i => n / 256 ^ i % 256
theorem leI_length (k : Nat) (n : Int) : (leI k n).length = k := by simp [leI]
theorem leI_succ (k : Nat) (n : Int) : leI (k + 1) n = leI k n ++ [n / 256 ^ k % 256] := by simp [leI, List.range_succ]
theorem leI_get (k : Nat) (n : Int) (i : Nat) (h : i < k) : (leI k n).getD i 0 = n / 256 ^ i % 256 := by
  simp [leI, List.getD, h]

/-- What stands in a row of k bytes when the first j were laid. -/
def putRow (k j : Nat) (n : Int) : List Int := leI j n ++ List.replicate (k - j) 0
theorem putRow_zero (k : Nat) (n : Int) : putRow k 0 n = List.replicate k 0 := by simp [putRow, leI]
theorem putRow_full (k : Nat) (n : Int) : putRow k k n = leI k n := by simp [putRow]
theorem putRow_length (k j : Nat) (n : Int) (h : j ≤ k) : (putRow k j n).length = k := by simp [putRow, leI_length]; omega
theorem putRow_set (k j : Nat) (n : Int) (h : j < k) : (putRow k j n).set j (n / 256 ^ j % 256) = putRow k (j + 1) n := by
  unfold putRow
  rw [leI_succ, List.set_append_right _ _ (by rw [leI_length]; exact Nat.le_refl _), leI_length, Nat.sub_self]
  rw [show k - j = (k - (j + 1)) + 1 by omega, List.replicate_succ]
  simp
theorem pow_eq (j : Nat) : (2 : Int) ^ (8 * j) = 256 ^ j := by rw [Int.pow_mul]; rfl

/-- What Put tells: the bytes, and the error's number. -/
def putS (n k : Int) : ByteArray := if (1 ≤ k ∧ k ≤ 6) ∧ 0 ≤ n ∧ n < 256 ^ k.toNat then strOfNums (leI k.toNat n) else ByteArray.empty
def putE (n k : Int) : Int := if k < 1 ∨ 6 < k then 1 else if n < 0 ∨ 256 ^ k.toNat ≤ n then 2 else 0
theorem putS_noWidth {n k : Int} (h : k < 1 ∨ 6 < k) : putS n k = ByteArray.empty := by unfold putS; rw [if_neg (by omega)]
theorem putE_noWidth {n k : Int} (h : k < 1 ∨ 6 < k) : putE n k = 1 := by unfold putE; rw [if_pos h]
theorem putS_noRoom {n : Int} {m : Nat} (h : n < 0 ∨ 256 ^ m ≤ n) : putS n m = ByteArray.empty := by
  unfold putS; rw [Int.toNat_natCast, if_neg (by omega)]
theorem putE_noRoom {n : Int} {m : Nat} (h1 : 1 ≤ m) (h2 : m ≤ 6) (h : n < 0 ∨ 256 ^ m ≤ n) : putE n m = 2 := by
  unfold putE; rw [Int.toNat_natCast, if_neg (by omega), if_pos h]
theorem putS_ok {n : Int} {m : Nat} (h1 : 1 ≤ m) (h2 : m ≤ 6) (h : 0 ≤ n) (h' : n < 256 ^ m) : putS n m = strOfNums (leI m n) := by
  unfold putS; rw [Int.toNat_natCast, if_pos (by omega)]
theorem putE_ok {n : Int} {m : Nat} (h1 : 1 ≤ m) (h2 : m ≤ 6) (h : 0 ≤ n) (h' : n < 256 ^ m) : putE n m = 0 := by
  unfold putE; rw [Int.toNat_natCast, if_neg (by omega), if_neg (by omega)]
theorem leI_step (n : Int) (j : Nat) : n / 256 ^ j / 256 = n / 256 ^ (j + 1) := by
  rw [Int.pow_succ, Int.ediv_ediv_of_nonneg (Int.le_of_lt (Int.pow_pos (by decide)))]

/-- The number of some bytes, the lowest first. -/
def leVal : List UInt8 → Int
  | [] => 0
  | b :: r => (b.toNat : Int) + 256 * leVal r
theorem leVal_nonneg (l : List UInt8) : 0 ≤ leVal l := by
  induction l with
  | nil => exact Int.le_refl _
  | cons b r ih => unfold leVal; omega
theorem leVal_lt (l : List UInt8) : leVal l < 256 ^ l.length := by
  induction l with
  | nil => unfold leVal; decide
  | cons b r ih =>
    have hb : b.toNat < 256 := b.toNat_lt
    unfold leVal
    rw [List.length_cons, Int.pow_succ]
    omega
theorem leVal_snoc (l : List UInt8) (b : UInt8) : leVal (l ++ [b]) = leVal l + b.toNat * 256 ^ l.length := by
  induction l with
  | nil => simp [leVal]
  | cons c r ih =>
    rw [List.cons_append]
    unfold leVal
    rw [ih, List.length_cons, Int.pow_succ]
    rw [Int.mul_add, Int.add_assoc, Int.mul_left_comm, Int.mul_comm 256 (256 ^ r.length)]

theorem bits_or_comm (k : IntKind) (x y : Int) : bits .or k x y = bits .or k y x := by simp [bits, BitVec.or_comm]
theorem wraps_i64p (n : Int) (h : 0 ≤ n) (h' : n < 2 ^ 63) : IntKind.i64.wrap n = n := by
  simp [IntKind.wrap, IntKind.bits, IntKind.signed]
  split <;> omega
theorem or_lit (q b : Int) (j : Nat) (P : Int) (i : Nat) (hP : P = 2 ^ i) (hi : P ≤ 1099511627776) (hj : (2 : Int) ^ (8 * j) = P) (h0 : 0 ≤ q) (hq : q < P) (hb0 : 0 ≤ b) (hb : b < 256) :
    bits .or .i64 q (RowKit.wrap64 (RowKit.wrap64 b * 2 ^ (8 * j))) = q + b * P := by
  have hbp : 0 ≤ b * P ∧ b * P ≤ 255 * 1099511627776 := by
    have hP0 : 0 ≤ P := by omega
    refine ⟨Int.mul_nonneg hb0 hP0, Int.le_trans (Int.mul_le_mul_of_nonneg_right (show b ≤ 255 by omega) hP0) (by omega)⟩
  rw [hj, show RowKit.wrap64 b = b from by unfold RowKit.wrap64; omega, show RowKit.wrap64 (b * P) = b * P from by unfold RowKit.wrap64; omega, bits_or_comm]
  rw [bits_join .i64 63 (by decide) wraps_i64p i (b * P) q hbp.1 (by rw [hP]; exact Int.mul_emod_left _ _) (by omega) h0 (by rw [← hP]; exact hq) (by omega)]
  omega
/-- A byte that is laid above a number that stands below it. -/
theorem or_high (q b : Int) (j : Nat) (hj : j ≤ 5) (h0 : 0 ≤ q) (hq : q < 256 ^ j) (hb0 : 0 ≤ b) (hb : b < 256) :
    bits .or .i64 q (RowKit.wrap64 (RowKit.wrap64 b * 2 ^ (8 * j))) = q + b * 256 ^ j := by
  have hle : (256 : Int) ^ j ≤ 1099511627776 := by
    have : j = 0 ∨ j = 1 ∨ j = 2 ∨ j = 3 ∨ j = 4 ∨ j = 5 := by omega
    rcases this with rfl | rfl | rfl | rfl | rfl | rfl <;> decide
  exact or_lit q b j (256 ^ j) (8 * j) (pow_eq j).symm hle (pow_eq j) h0 hq hb0 hb
theorem take_drop_snoc (s : ByteArray) (a j : Nat) (h : a + j < s.size) : (s.data.toList.drop a).take (j + 1) = (s.data.toList.drop a).take j ++ [s[a + j]] := by
  have hl : s.data.toList.length = s.size := by simp
  rw [List.take_succ_eq_append_getElem (by simp; omega)]
  simp
  rfl
/-- The number of the bytes that stand at a place, with one byte more. -/
theorem numAt_snoc (s : ByteArray) (a j : Nat) (h : a + j < s.size) : leVal ((s.data.toList.drop a).take (j + 1)) = leVal ((s.data.toList.drop a).take j) + s[a + j].toNat * 256 ^ j := by
  have hl : s.data.toList.length = s.size := by simp
  rw [take_drop_snoc s a j h, leVal_snoc, List.length_take, List.length_drop, hl, Nat.min_eq_left (by omega)]
theorem numAt_lt (s : ByteArray) (a j : Nat) : leVal ((s.data.toList.drop a).take j) < 256 ^ j := by
  refine Int.lt_of_lt_of_le (leVal_lt _) ?_
  have : ((s.data.toList.drop a).take j).length ≤ j := List.length_take_le _ _
  have h2 := Nat.pow_le_pow_right (show 0 < 256 by decide) this
  have e : ∀ m : Nat, ((256 ^ m : Nat) : Int) = (256 : Int) ^ m := fun m => by rw [Int.natCast_pow]; rfl
  rw [← e, ← e]
  exact Int.ofNat_le.2 h2
theorem numAt_cons (s : ByteArray) (a j : Nat) (h : a < s.size) : leVal ((s.data.toList.drop a).take (j + 1)) = s[a].toNat + 256 * leVal ((s.data.toList.drop (a + 1)).take j) := by
  have hl : s.data.toList.length = s.size := by simp
  rw [List.drop_eq_getElem_cons (by omega), List.take_succ_cons]
  rfl
theorem pow6 (j : Nat) (h : j ≤ 6) : (256 : Int) ^ j ≤ 281474976710656 := by
  have : j = 0 ∨ j = 1 ∨ j = 2 ∨ j = 3 ∨ j = 4 ∨ j = 5 ∨ j = 6 := by omega
  rcases this with rfl | rfl | rfl | rfl | rfl | rfl | rfl <;> decide
/-- What Get tells. -/
def getN (s : ByteArray) (a k : Int) : Int := if (1 ≤ k ∧ k ≤ 6) ∧ 0 ≤ a ∧ a ≤ s.size - k then leVal ((s.data.toList.drop a.toNat).take k.toNat) else 0
def getE (s : ByteArray) (a k : Int) : Int := if k < 1 ∨ 6 < k then 1 else if a < 0 ∨ s.size - k < a then 3 else 0
theorem getN_no {s : ByteArray} {a k : Int} (h : (k < 1 ∨ 6 < k) ∨ a < 0 ∨ s.size - k < a) : getN s a k = 0 := by unfold getN; rw [if_neg (by omega)]
theorem getE_noWidth {s : ByteArray} {a k : Int} (h : k < 1 ∨ 6 < k) : getE s a k = 1 := by unfold getE; rw [if_pos h]
theorem getE_short {s : ByteArray} {a k : Int} (h1 : 1 ≤ k) (h2 : k ≤ 6) (h : a < 0 ∨ s.size - k < a) : getE s a k = 3 := by
  unfold getE; rw [if_neg (by omega), if_pos h]
theorem getE_ok {s : ByteArray} {a k : Nat} (h1 : 1 ≤ k) (h2 : k ≤ 6) (h : a + k ≤ s.size) : getE s a k = 0 := by
  unfold getE; rw [if_neg (by omega), if_neg (by omega)]
theorem getN_ok {s : ByteArray} {a k : Nat} (h1 : 1 ≤ k) (h2 : k ≤ 6) (h : a + k ≤ s.size) : getN s a k = leVal ((s.data.toList.drop a).take k) := by
  unfold getN; rw [if_pos (by omega)]; simp

/-- What Pad tells. -/
def padS (s : ByteArray) (n : Int) : ByteArray := if (0 ≤ n ∧ n ≤ 4096) ∧ s.size ≤ n then ⟨(s.data.toList ++ List.replicate (n.toNat - s.size) 0).toArray⟩ else ByteArray.empty
def padE (s : ByteArray) (n : Int) : Int := if n < 0 ∨ 4096 < n then 1 else if n < s.size then 4 else 0
theorem padS_no {s : ByteArray} {n : Int} (h : (n < 0 ∨ 4096 < n) ∨ n < s.size) : padS s n = ByteArray.empty := by unfold padS; rw [if_neg (by omega)]
theorem padE_arg {s : ByteArray} {n : Int} (h : n < 0 ∨ 4096 < n) : padE s n = 1 := by unfold padE; rw [if_pos h]
theorem padE_long {s : ByteArray} {n : Nat} (h1 : n ≤ 4096) (h : n < s.size) : padE s n = 4 := by unfold padE; rw [if_neg (by omega), if_pos (by omega)]
theorem padS_ok {s : ByteArray} {n : Nat} (h1 : n ≤ 4096) (h : s.size ≤ n) : padS s n = ⟨(s.data.toList ++ List.replicate (n - s.size) 0).toArray⟩ := by
  unfold padS; rw [if_pos (by omega), Int.toNat_natCast]
theorem padE_ok {s : ByteArray} {n : Nat} (h1 : n ≤ 4096) (h : s.size ≤ n) : padE s n = 0 := by unfold padE; rw [if_neg (by omega), if_neg (by omega)]
/-- The numbers of a text's bytes, and of noughts behind. -/
def padNums (s : ByteArray) (n : Nat) : List Int := s.data.toList.map (fun x => (x.toNat : Int)) ++ List.replicate (n - s.size) 0
theorem padNums_length (s : ByteArray) (n : Nat) (h : s.size ≤ n) : (padNums s n).length = n := by
  have hl : s.data.toList.length = s.size := by simp
  simp only [padNums, List.length_append, List.length_map, hl, List.length_replicate]; omega
theorem str_map_nums (l : List UInt8) : strOfNums (l.map fun x => (x.toNat : Int)) = ⟨l.toArray⟩ := by
  unfold strOfNums
  rw [List.map_map]
  congr 1
  congr 1
  conv => rhs; rw [← List.map_id l]
  apply List.map_congr_left
  intro x _
  simp
theorem strOf_padNums (s : ByteArray) (n : Nat) : strOfNums (padNums s n) = ⟨(s.data.toList ++ List.replicate (n - s.size) 0).toArray⟩ := by
  rw [← str_map_nums]
  unfold padNums
  congr 1
  simp
theorem str_append (s : ByteArray) (l : List Int) : s ++ strOfNums l = ⟨(s.data.toList ++ l.map fun n => UInt8.ofNat n.toNat).toArray⟩ := by
  apply ByteArray.ext
  apply Array.toList_inj.1
  simp [strOfNums]
/-- So many bytes 0. -/
def noughtsS (m : Nat) : ByteArray := strOfNums (List.replicate m 0)
theorem noughtsS_size (m : Nat) : (noughtsS m).size = m := by unfold noughtsS; rw [strOfNums_size]; simp
theorem pad_append (s : ByteArray) (m : Nat) : s ++ noughtsS m = ⟨(s.data.toList ++ List.replicate m 0).toArray⟩ := by
  unfold noughtsS; rw [str_append]; simp

/-- Cells that are stored one behind the other. -/
def setMany (xs : List Value) : Nat → List Value → List Value
  | _, [] => xs
  | o, v :: r => setMany (xs.set o v) (o + 1) r
theorem setMany_eq : ∀ (vs : List Value) (xs : List Value) (o : Nat), o + vs.length ≤ xs.length → setMany xs o vs = xs.take o ++ vs ++ xs.drop (o + vs.length)
  | [], xs, o, _ => by simp [setMany]
  | v :: r, xs, o, h => by
    have ho : o < xs.length := by simp at h; omega
    rw [setMany, setMany_eq r _ _ (by simp at h ⊢; omega)]
    rw [List.take_set, List.take_succ_eq_append_getElem ho, List.set_append_right _ _ (by simp; omega), List.drop_set]
    rw [if_pos (by omega)]
    simp [Nat.min_eq_left (Nat.le_of_lt ho)]
    rw [show o + 1 + r.length = o + (r.length + 1) by omega]
theorem ownsRow_setCells {base g n cap : Nat} {e : TypeId} : ∀ (vs : List Value) (o : Nat) (w : World) (xs : List Value), w.ownsRow base e 1 (.slice (some ⟨g, 0, none⟩) n cap) n xs →
    (w.setCells g o vs).ownsRow base e 1 (.slice (some ⟨g, 0, none⟩) n cap) n (setMany xs o vs)
  | [], _, _, _, h => h
  | v :: r, o, _, _, h => ownsRow_setCells r (o + 1) _ _ (h.stored o v).1

/-- 'copy' of a text into a slice that has room for it, as a step of a list of operations. -/
theorem wpList_copy_text {P : Program} {w : World} {ops : Array Oper} {rest : List Oper} {o : Oper} {a : Act} {Q : Exit → Act → World → Prop} (hgd : o.guard = none) (d x : Operand) (dT sT : TypeId)
    (ho : o.op = .call { callee := .builtin .copy, args := #[d, x], argTypes := #[dT, sT] }) (elem : TypeId) (hu : P.underlying dT = some (.slice elem)) (hz : ∀ w, (Go.sizeOf elem).run P w = .ok 1 w)
    (b off dLen dCap : Nat) (hd : a.eval d = .slice (some ⟨b, off, none⟩) dLen dCap) (t : ByteArray) (hx : a.eval x = .string t) (hle : t.size ≤ dLen)
    (hc : ∀ j, j < t.size → (w.cell? ⟨b, off + j, none⟩).isSome = true) (hf : ∀ j, j < t.size → w.frozen? ⟨b, off + j, none⟩ = false)
    (h : wpList P ops Q rest (a.put o.dst (goInt t.size)) (w.setCells b off (t.data.toList.map fun x => Value.int .u8 (x.toNat : Int)))) : wpList P ops Q (o :: rest) a w := by
  refine wpList_plain hgd fun K hK => ?_
  have hrun := run_copy_string (P := P) w dT sT o.type elem b off dLen dCap t hu hz hle hc hf
  unfold Oper.wp
  simp [execOp, ho, resolve, invoke, builtin, hd, hx, hrun, Result.andThen]
  exact hK _ _ h
end Go.Proofs.YtdhiopbomnfmnaaGreatDoor

namespace Go.Proofs.YtdhiopbomnfmnaaGreatDoor
set_option maxRecDepth 20000
open Go.RowKit
theorem info5 : (Tryz.prog.info? 5).map (fun i => (i.zero, i.size, i.bytes)) = some (some (.int .u8 0), 1, 1) := by kernel_rfl

theorem put_noWidth (n k : Int) (h : k < 1 ∨ 6 < k) (w : World) :
    Calls Tryz.prog 34 #[.int .i64 n, .int .i64 k] w fun e w' => e = .returned (.tuple #[.string ByteArray.empty, .int .i64 1]) ∧ w' = w := by
  rcases h with h | h
  · go_enter Tryz.func34, Tryz.ntmps34
    go_wp2
    go_ret2
    exact ⟨rfl, rfl⟩
  · have h1 : 1 ≤ k := by omega
    have hd : decide (k ≤ 6) = false := by simp; omega
    go_enter Tryz.func34, Tryz.ntmps34
    go_wp2
    go_ret2
    exact ⟨rfl, rfl⟩

theorem put_below (n : Int) (k : Nat) (h1 : 1 ≤ k) (h2 : k ≤ 6) (h : n < 0) (w : World) :
    Calls Tryz.prog 34 #[.int .i64 n, .int .i64 k] w fun e w' => e = .returned (.tuple #[.string ByteArray.empty, .int .i64 2]) ∧ w' = w := by
  have a1 : (1 : Int) ≤ k := by omega
  have a2 : (k : Int) ≤ 6 := by omega
  go_enter Tryz.func34, Tryz.ntmps34
  go_wp2
  go_ret2
  exact ⟨rfl, rfl⟩

theorem put_above (n : Int) (k : Nat) (h1 : 1 ≤ k) (h2 : k ≤ 6) (h0 : 0 ≤ n) (h : 256 ^ k ≤ n) (w : World) :
    Calls Tryz.prog 34 #[.int .i64 n, .int .i64 k] w fun e w' => e = .returned (.tuple #[.string ByteArray.empty, .int .i64 2]) ∧ w' = w := by
  have a1 : (1 : Int) ≤ k := by omega
  have a2 : (k : Int) ≤ 6 := by omega
  have hd : (n / 2 ^ (8 * k) == 0) = false := by
    rw [pow_eq, beq_eq_false_iff_ne]
    intro e
    have hp : (0 : Int) < 256 ^ k := Int.pow_pos (by decide)
    have := (Int.le_ediv_iff_mul_le (c := 256 ^ k) (a := 1) (b := n) hp).2 (by omega)
    omega
  clear h
  go_enter Tryz.func34, Tryz.ntmps34
  go_wp2
  go_ret2
  exact ⟨rfl, rfl⟩

set_option maxHeartbeats 400000 in
theorem put_ok (n : Int) (k : Nat) (h1 : 1 ≤ k) (h2 : k ≤ 6) (h0 : 0 ≤ n) (h : n < 256 ^ k) (w : World) :
    Calls Tryz.prog 34 #[.int .i64 n, .int .i64 k] w fun e w' => e = .returned (.tuple #[.string (strOfNums (leI k n)), .int .i64 0]) ∧ Below w.heap.size w w' := by
  have a1 : (1 : Int) ≤ k := by omega
  have a2 : (k : Int) ≤ 6 := by omega
  have hd : (n / 2 ^ (8 * k) == 0) = true := by
    rw [pow_eq, beq_iff_eq]
    exact Int.ediv_eq_zero_of_lt h0 h
  clear h
  obtain ⟨i0, hi, hz0, hz1, hz2⟩ := info_parts info5
  go_enter Tryz.func34, Tryz.ntmps34
  go_wp2_with (first | (at_make; refine wpList_make_full _ rfl _ _ 55 rfl w.heap.size 5 i0 (.int .u8 0) 1 Tryz.underlying55 hi hz0 hz1 .i64 .i64 _ _ k rfl rfl rfl rfl ?c1 ?c2 (Nat.le_refl _) ?_) | go_in)
  case c1 => rw [hz2]; omega
  case c2 => unfold maxLen; omega
  intro w1 hown1 hgrow1
  have hb1 : Below w.heap.size w w1 := (Below.refl _ _).grown hgrow1 (Nat.le_refl _) (fun k hk => by simp at hk)
  have hown2 : w1.ownsRow w.heap.size 5 1 (.slice (some ⟨w.heap.size, 0, none⟩) k k) k ((putRow k 0 n).map (Value.int .u8)) := by
    rw [putRow_zero]; simpa [toList_madeCells_one, List.map_replicate, Value.cells] using hown1
  clear hown1 hgrow1
  go_wp2
  go_loopw [19] (fun i wr => ∃ j : Nat, j ≤ k ∧ i = .int .i64 j ∧ wr.ownsRow w.heap.size 5 1 (.slice (some ⟨w.heap.size, 0, none⟩) k k) k ((putRow k j n).map (Value.int .u8)) ∧ Below w.heap.size w wr) (fun i _ => k - (intOf i).toNat)
  case atStart => exact ⟨0, Nat.zero_le _, rfl, hown2, hb1⟩
  case round =>
    obtain ⟨j, hj, rfl, hown, hb⟩ := hrel
    clear hown2 hb1
    by_cases hlt : j < k
    · have hf := hown.frozenAt j
      have hc : ∃ v, wr.cell? ⟨w.heap.size, j, none⟩ = some v := by
        rw [hown.cellAt j (by omega)]
        exact ⟨_, List.getElem?_eq_getElem (by simp [putRow_length k j n hj]; omega)⟩
      obtain ⟨v0, hv0⟩ := hc
      go_wp2
      go_roundw
      case rel =>
        have hst := (hown.stored j (.int .u8 (n / 2 ^ (8 * j) % 256))).1
        rw [← List.map_set] at hst
        rw [pow_eq, putRow_set _ _ _ hlt] at hst
        exact ⟨j + 1, by omega, by go_num, by rw [pow_eq]; exact hst, hb.setCell (Nat.le_refl _) _⟩
      case measure => simp [intOf]; omega
    · have hjk : j = k := by omega
      subst hjk
      rw [putRow_full] at hown
      have hcv := run_convert_bytes_arg (P := Tryz.prog) wr 55 5 Tryz.underlying55 Tryz.underlying5 w.heap.size 0 j j (leI j n) (leI_length j n) (fun i hi => by
        rw [Nat.zero_add, hown.cellAt i (by omega)]
        simp [leI_length, hi, List.getD]) 9 Tryz.underlying9
      go_wp2
      go_ret2
      exact ⟨rfl, hb⟩

/-- pack.Put, whatever it is handed. -/
theorem put_any (n k : Int) (w : World) :
    Calls Tryz.prog 34 #[.int .i64 n, .int .i64 k] w fun e w' => e = .returned (.tuple #[.string (putS n k), .int .i64 (putE n k)]) ∧ Below w.heap.size w w' := by
  by_cases hk : k < 1 ∨ 6 < k
  · refine (put_noWidth n k hk w).mono fun e w' ⟨he, hw⟩ => ?_
    rw [putS_noWidth hk, putE_noWidth hk]
    exact ⟨he, hw ▸ Below.refl _ _⟩
  · obtain ⟨m, rfl⟩ := Int.eq_ofNat_of_zero_le (show 0 ≤ k by omega)
    have h1 : 1 ≤ m := by omega
    have h2 : m ≤ 6 := by omega
    by_cases hn : n < 0
    · refine (put_below n m h1 h2 hn w).mono fun e w' ⟨he, hw⟩ => ?_
      rw [putS_noRoom (.inl hn), putE_noRoom h1 h2 (.inl hn)]
      exact ⟨he, hw ▸ Below.refl _ _⟩
    by_cases hn2 : 256 ^ m ≤ n
    · refine (put_above n m h1 h2 (by omega) hn2 w).mono fun e w' ⟨he, hw⟩ => ?_
      rw [putS_noRoom (.inr hn2), putE_noRoom h1 h2 (.inr hn2)]
      exact ⟨he, hw ▸ Below.refl _ _⟩
    · rw [putS_ok h1 h2 (by omega) (by omega), putE_ok h1 h2 (by omega) (by omega)]
      exact put_ok n m h1 h2 (by omega) (by omega) w
end Go.Proofs.YtdhiopbomnfmnaaGreatDoor

namespace Go.Proofs.YtdhiopbomnfmnaaGreatDoor
set_option maxRecDepth 20000
open Go.RowKit
theorem size5 (w : World) : (Go.sizeOf 5).run Tryz.prog w = .ok 1 w := by
  obtain ⟨i0, hi, hz0, hz1, hz2⟩ := info_parts info5
  simp [Go.sizeOf, typeInfo, hi, hz1]

theorem pad_arg (s : ByteArray) (n : Int) (h : n < 0 ∨ 4096 < n) (w : World) :
    Calls Tryz.prog 35 #[.string s, .int .i64 n] w fun e w' => e = .returned (.tuple #[.string ByteArray.empty, .int .i64 1]) ∧ w' = w := by
  rcases h with h | h
  · go_enter Tryz.func35, Tryz.ntmps35
    go_wp2
    go_ret2
    exact ⟨rfl, rfl⟩
  · have h1 : ¬ n < 0 := by omega
    go_enter Tryz.func35, Tryz.ntmps35
    go_wp2
    go_ret2
    exact ⟨rfl, rfl⟩

theorem pad_long (s : ByteArray) (n : Nat) (h1 : n ≤ 4096) (h : n < s.size) (w : World) :
    Calls Tryz.prog 35 #[.string s, .int .i64 n] w fun e w' => e = .returned (.tuple #[.string ByteArray.empty, .int .i64 4]) ∧ w' = w := by
  have a1 : ¬ (n : Int) < 0 := by omega
  have a2 : ¬ (4096 : Int) < n := by omega
  have a3 : (n : Int) < s.size := by omega
  go_enter Tryz.func35, Tryz.ntmps35
  go_wp2
  go_ret2
  exact ⟨rfl, rfl⟩

set_option maxHeartbeats 400000 in
theorem pad_ok (s : ByteArray) (n : Nat) (h1 : n ≤ 4096) (h : s.size ≤ n) (w : World) :
    Calls Tryz.prog 35 #[.string s, .int .i64 n] w fun e w' => e = .returned (.tuple #[.string (strOfNums (padNums s n)), .int .i64 0]) ∧ Below w.heap.size w w' := by
  have a1 : ¬ (n : Int) < 0 := by omega
  have a2 : ¬ (4096 : Int) < n := by omega
  have a3 : ¬ (n : Int) < s.size := by omega
  obtain ⟨i0, hi, hz0, hz1, hz2⟩ := info_parts info5
  go_enter Tryz.func35, Tryz.ntmps35
  go_wp2_with (at_make; refine wpList_make_full _ rfl _ _ 55 rfl w.heap.size 5 i0 (.int .u8 0) 1 Tryz.underlying55 hi hz0 hz1 .i64 .i64 _ _ n rfl rfl rfl rfl ?c1 ?c2 (Nat.le_refl _) ?_)
  case c1 => first | omega | (rw [hz2]; omega)
  case c2 => unfold maxLen; omega
  intro w1 hown1 hgrow1
  have hb1 : Below w.heap.size w w1 := (Below.refl _ _).grown hgrow1 (Nat.le_refl _) (fun k hk => by simp at hk)
  have hown2 : w1.ownsRow w.heap.size 5 1 (.slice (some ⟨w.heap.size, 0, none⟩) n n) n (List.replicate n (Value.int .u8 0)) := by
    simpa [toList_madeCells_one, Value.cells] using hown1
  clear hown1 hgrow1
  have hcv := run_convert_bytes_arg (P := Tryz.prog) (w1.setCells w.heap.size 0 (s.data.toList.map fun x => Value.int .u8 (x.toNat : Int))) 55 5 Tryz.underlying55 Tryz.underlying5 w.heap.size 0 n n (padNums s n) (padNums_length s n h) (fun i hi => by
    have hl : s.data.toList.length = s.size := by simp
    have ho := ownsRow_setCells (s.data.toList.map fun x => Value.int .u8 (x.toNat : Int)) 0 w1 _ hown2
    rw [setMany_eq _ _ _ (by simp only [List.length_map, hl, List.length_replicate]; omega)] at ho
    rw [Nat.zero_add, ho.cellAt i (by omega)]
    simp only [List.take_zero, List.nil_append, Nat.zero_add, List.length_map, hl, List.drop_replicate]
    have e : (s.data.toList.map fun x => Value.int .u8 (x.toNat : Int)) ++ List.replicate (n - s.size) (Value.int .u8 0) = (padNums s n).map (Value.int .u8) := by simp [padNums]
    rw [e, List.getElem?_map, List.getD_eq_getElem?_getD, List.getElem?_eq_getElem (by rw [padNums_length s n h]; exact hi)]
    rfl) 9 Tryz.underlying9
  have hb2 : Below w.heap.size w (w1.setCells w.heap.size 0 (s.data.toList.map fun x => Value.int .u8 (x.toNat : Int))) := below_setCells (Nat.le_refl _) _ _ _ hb1
  have hcp := run_copy_string (P := Tryz.prog) w1 55 9 3 5 w.heap.size 0 n n s Tryz.underlying55 size5 h (fun j hj => by rw [Nat.zero_add, hown2.cellAt j (by omega)]; simp; omega) (fun j hj => by rw [Nat.zero_add]; exact hown2.frozenAt j)
  generalize w1.setCells w.heap.size 0 (s.data.toList.map fun x => Value.int .u8 (x.toNat : Int)) = w2 at *
  clear hown2 hb1
  go_wp2
  go_ret2
  exact ⟨rfl, hb2⟩

/-- pack.Pad, whatever it is handed. -/
theorem pad_any (s : ByteArray) (n : Int) (w : World) :
    Calls Tryz.prog 35 #[.string s, .int .i64 n] w fun e w' => e = .returned (.tuple #[.string (padS s n), .int .i64 (padE s n)]) ∧ Below w.heap.size w w' := by
  by_cases hk : n < 0 ∨ 4096 < n
  · refine (pad_arg s n hk w).mono fun e w' ⟨he, hw⟩ => ?_
    rw [padS_no (.inl hk), padE_arg hk]
    exact ⟨he, hw ▸ Below.refl _ _⟩
  · obtain ⟨m, rfl⟩ := Int.eq_ofNat_of_zero_le (show 0 ≤ n by omega)
    have h1 : m ≤ 4096 := by omega
    by_cases hl : m < s.size
    · refine (pad_long s m h1 hl w).mono fun e w' ⟨he, hw⟩ => ?_
      rw [padS_no (.inr (by omega)), padE_long h1 hl]
      exact ⟨he, hw ▸ Below.refl _ _⟩
    · rw [padS_ok h1 (by omega), padE_ok h1 (by omega), ← strOf_padNums]
      exact pad_ok s m h1 (by omega) w
end Go.Proofs.YtdhiopbomnfmnaaGreatDoor

namespace Go.Proofs.YtdhiopbomnfmnaaGreatDoor
set_option maxRecDepth 20000
theorem leVal_leI : ∀ (k : Nat) (n : Int), 0 ≤ n → n < 256 ^ k → leVal ((leI k n).map fun x => UInt8.ofNat x.toNat) = n
  | 0, n, h, h' => by simp at h'; simp [leI, leVal]; omega
  | k + 1, n, h, h' => by
    rw [leI_succ, List.map_append, List.map_cons, List.map_nil, leVal_snoc, List.length_map, leI_length]
    have hp : (0 : Int) < 256 ^ k := Int.pow_pos (by decide)
    have hq : n / 256 ^ k < 256 := Int.ediv_lt_of_lt_mul hp (by rw [Int.pow_succ, Int.mul_comm] at h'; exact h')
    have hq0 : 0 ≤ n / 256 ^ k := Int.ediv_nonneg h (Int.le_of_lt hp)
    have hlow : leI k n = leI k (n % 256 ^ k) := by
      unfold leI
      apply List.map_congr_left
      intro i hi
      have hik : i < k := List.mem_range.1 hi
      have e : (256 : Int) ^ k = 256 ^ i * 256 ^ (k - i) := by rw [← Int.pow_add]; congr 1; omega
      have e2 : (256 : Int) ^ (k - i) = 256 * 256 ^ (k - i - 1) := by rw [Int.mul_comm, ← Int.pow_succ]; congr 1; omega
      have hi0 : (0 : Int) < 256 ^ i := Int.pow_pos (by decide)
      conv => lhs; rw [← Int.mul_ediv_add_emod n (256 ^ k)]
      rw [e, Int.mul_assoc, Int.add_comm, Int.add_mul_ediv_left _ _ (by omega), e2, Int.mul_assoc, Int.add_mul_emod_self_left]
    rw [hlow, leVal_leI k (n % 256 ^ k) (Int.emod_nonneg _ (by omega)) (Int.emod_lt_of_pos _ hp)]
    rw [Int.emod_eq_of_lt hq0 hq]
    have hb : ((UInt8.ofNat (n / 256 ^ k).toNat).toNat : Int) = n / 256 ^ k := by
      rw [UInt8.toNat_ofNat', Nat.mod_eq_of_lt (by omega)]; omega
    rw [hb, Int.mul_comm, Int.add_comm]
    exact Int.mul_ediv_add_emod n (256 ^ k)
end Go.Proofs.YtdhiopbomnfmnaaGreatDoor
