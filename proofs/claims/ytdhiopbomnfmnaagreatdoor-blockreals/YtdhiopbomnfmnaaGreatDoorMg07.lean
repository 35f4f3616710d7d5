/- Plain facts on the writer of package pack: what a world holds of one (its text, its error), and what numbers laid one behind the other come to: no program is named here. · pack.isZero, called with any text, tells whether all its bytes are 0 (by strings.Trim at the cutset of the one byte 0), and changes nothing. · Numbers read out of a text, each in its width, are laid as the text's bytes; nothing of the program. · pack.Get, called with any text and any two numbers, tells the number getN and the error getE, and changes nothing. · The reader of package pack: number and bytes tell the next bytes of its text and go on, or panic with what a reader gives up with where bytes lack; must panics with it where it is told no. -/
import Derived.Test.YtdhiopbomnfmnaaGreatDoorMg01
import Derived.Lib.AppendStr
import Derived.OneCell
import Derived.BigQuiet
import Derived.Deep.RegionHeld3
import Derived.Deep.QuietTactic
import Derived.Test.YtdhiopbomnfmnaaGreatDoorMg00
namespace Go.Proofs.YtdhiopbomnfmnaaGreatDoor
set_option maxRecDepth 20000
open Go.RowKit Go.Lib

theorem two_cell0 {w : World} {b : Nat} {u v : Value} {t : TypeId} (h : w.heap[b]? = some (.cells #[u, v] t (0, 0))) : w.cell? ⟨b, 0, none⟩ = some u := by simp [World.cell?, h]
theorem two_cell1 {w : World} {b : Nat} {u v : Value} {t : TypeId} (h : w.heap[b]? = some (.cells #[u, v] t (0, 0))) : w.cell? ⟨b, 1, none⟩ = some v := by simp [World.cell?, h]
theorem two_free {w : World} {b : Nat} {u v : Value} {t : TypeId} (i : Nat) (h : w.heap[b]? = some (.cells #[u, v] t (0, 0))) : w.frozen? ⟨b, i, none⟩ = false := by simp [World.frozen?, h]
theorem two_set0 {w : World} {b : Nat} {u v x : Value} {t : TypeId} (h : w.heap[b]? = some (.cells #[u, v] t (0, 0))) : (w.setCell ⟨b, 0, none⟩ x).heap[b]? = some (.cells #[x, v] t (0, 0)) := by
  have hlt := lt_of_block h
  have h' : w.heap[b] = .cells #[u, v] t (0, 0) := by simpa [Array.getElem?_eq_getElem hlt] using h
  show (w.heap.modify b _)[b]? = _
  rw [Array.getElem?_eq_getElem (by simpa using hlt), Array.getElem_modify_self, h']
  rfl
theorem two_set1 {w : World} {b : Nat} {u v x : Value} {t : TypeId} (h : w.heap[b]? = some (.cells #[u, v] t (0, 0))) : (w.setCell ⟨b, 1, none⟩ x).heap[b]? = some (.cells #[u, x] t (0, 0)) := by
  have hlt := lt_of_block h
  have h' : w.heap[b] = .cells #[u, v] t (0, 0) := by simpa [Array.getElem?_eq_getElem hlt] using h
  show (w.heap.modify b _)[b]? = _
  rw [Array.getElem?_eq_getElem (by simpa using hlt), Array.getElem_modify_self, h']
  rfl

/-- The cells of some bytes. -/
def byteCells (l : List UInt8) : List Value := l.map fun b => Value.int .u8 (b.toNat : Int)
theorem byteCells_length (l : List UInt8) : (byteCells l).length = l.length := by simp [byteCells]
theorem byteCells_append (l m : List UInt8) : byteCells l ++ byteCells m = byteCells (l ++ m) := by simp [byteCells]
theorem byteCells_str (s : ByteArray) : strCells s = byteCells s.data.toList := rfl

/-- What a world holds of a writer in block b: its text and its error. -/
def Wr (w : World) (T E : TypeId) (b : Nat) (l : List UInt8) (e : Int) : Prop :=
  ∃ v, w.heap[b]? = some (.cells #[v, .int .i64 e] T (0, 0)) ∧ w.ownsRow (b + 1) E 1 v l.length (byteCells l)

theorem ownsRow_below {w w' : World} {base : Nat} {e : TypeId} {size : Nat} {v : Value} {n : Nat} {xs : List Value} (hb : Below w.heap.size w w') (h : w.ownsRow base e size v n xs) : w'.ownsRow base e size v n xs := by
  obtain ⟨h1, h2⟩ := h
  refine ⟨h1, ?_⟩
  rcases h2 with h2 | ⟨g, cap, cur, hv, hg, hh, r⟩
  · exact .inl h2
  · exact .inr ⟨g, cap, cur, hv, hg, by rw [hb.block g (lt_of_block hh)]; exact hh, r⟩
theorem Wr.below {w w' : World} {T E : TypeId} {b : Nat} {l : List UInt8} {e : Int} (h : Wr w T E b l e) (hb : Below w.heap.size w w') : Wr w' T E b l e := by
  obtain ⟨v, h1, h2⟩ := h
  exact ⟨v, by rw [hb.block b (lt_of_block h1)]; exact h1, ownsRow_below hb h2⟩
theorem Wr.lt {w : World} {T E : TypeId} {b : Nat} {l : List UInt8} {e : Int} (h : Wr w T E b l e) : b < w.heap.size := by
  obtain ⟨v, h1, h2⟩ := h
  exact lt_of_block h1

/-- The error behind a number that is laid. -/
def stepE (e n k : Int) : Int := if putE n k = 0 then e else putE n k
/-- Numbers, each in its width: their bytes, and whether all have room. -/
def laidL : List (Int × Int) → List UInt8
  | [] => []
  | p :: r => (putS p.1 p.2).data.toList ++ laidL r
def laidOk : List (Int × Int) → Bool
  | [] => true
  | p :: r => (putE p.1 p.2 == 0) && laidOk r
def errL : Int → List (Int × Int) → Int
  | e, [] => e
  | e, p :: r => errL (stepE e p.1 p.2) r
def widths : List (Int × Int) → Bool
  | [] => true
  | p :: r => (decide (1 ≤ p.2) && decide (p.2 ≤ 6)) && widths r
theorem putE_two {n k : Int} (h1 : 1 ≤ k) (h6 : k ≤ 6) : putE n k = 0 ∨ putE n k = 2 := by
  unfold putE
  rw [if_neg (by omega)]
  split
  · exact .inr rfl
  · exact .inl rfl
theorem errL_two : ∀ (ps : List (Int × Int)), widths ps = true → errL 2 ps = 2
  | [], _ => rfl
  | p :: r, h => by
    simp only [widths, Bool.and_eq_true, decide_eq_true_eq] at h
    rcases putE_two (n := p.1) h.1.1 h.1.2 with e | e
    · rw [errL, stepE, if_pos e, errL_two r h.2]
    · rw [errL, stepE, if_neg (by omega), e, errL_two r h.2]
theorem errL_ok : ∀ (ps : List (Int × Int)), widths ps = true → errL 0 ps = if laidOk ps = true then 0 else 2
  | [], _ => rfl
  | p :: r, h => by
    simp only [widths, Bool.and_eq_true, decide_eq_true_eq] at h
    rcases putE_two (n := p.1) h.1.1 h.1.2 with e | e
    · rw [errL, stepE, if_pos e, errL_ok r h.2]
      simp [laidOk, e]
    · rw [errL, stepE, if_neg (by omega), e, errL_two r h.2]
      simp [laidOk, e]
theorem putS_size {n k : Int} (h : putE n k = 0) : (putS n k).data.toList.length = k.toNat := by
  unfold putE at h
  split at h
  · omega
  · split at h
    · omega
    · unfold putS
      rw [if_pos (by omega)]
      simp [strOfNums, leI_length]
/-- How many bytes numbers take. -/
def widthSum : List (Int × Int) → Nat
  | [] => 0
  | p :: r => p.2.toNat + widthSum r
theorem laidL_length : ∀ (ps : List (Int × Int)), laidOk ps = true → (laidL ps).length = widthSum ps
  | [], _ => rfl
  | p :: r, h => by
    simp only [laidOk, Bool.and_eq_true, beq_iff_eq] at h
    rw [laidL, List.length_append, putS_size h.1, laidL_length r h.2, widthSum]
theorem putS_le (n k : Int) : (putS n k).data.toList.length ≤ 6 := by
  unfold putS
  split
  · simp [strOfNums, leI_length]; omega
  · simp
theorem laidL_le : ∀ (ps : List (Int × Int)), (laidL ps).length ≤ 6 * ps.length
  | [] => Nat.le_refl _
  | p :: r => by
    have := putS_le p.1 p.2
    have := laidL_le r
    rw [laidL, List.length_append, List.length_cons]
    omega
theorem laidL_append : ∀ (ps qs : List (Int × Int)), laidL (ps ++ qs) = laidL ps ++ laidL qs
  | [], _ => rfl
  | p :: r, qs => by rw [List.cons_append, laidL, laidL, laidL_append r qs, List.append_assoc]
theorem errL_append : ∀ (ps qs : List (Int × Int)) (e : Int), errL e (ps ++ qs) = errL (errL e ps) qs
  | [], _, _ => rfl
  | p :: r, qs, e => by rw [List.cons_append, errL, errL, errL_append r qs]
/-- What a record of numbers tells: bytes ahead, the numbers', bytes 0 behind; and the error. -/
def recS (pre : List UInt8) (ps : List (Int × Int)) (z : Nat) : ByteArray := if laidOk ps = true then ⟨(pre ++ laidL ps ++ List.replicate z 0).toArray⟩ else ByteArray.empty
def recE (ps : List (Int × Int)) : Int := if laidOk ps = true then 0 else 2
theorem recS_no {pre : List UInt8} {ps : List (Int × Int)} {z : Nat} (h : laidOk ps = false) : recS pre ps z = ByteArray.empty := by simp [recS, h]
theorem recE_no {ps : List (Int × Int)} (h : laidOk ps = false) : recE ps = 2 := by simp [recE, h]
theorem recS_ok {pre : List UInt8} {ps : List (Int × Int)} {z : Nat} (h : laidOk ps = true) : recS pre ps z = ⟨(pre ++ laidL ps ++ List.replicate z 0).toArray⟩ := by simp [recS, h]
theorem recE_ok {ps : List (Int × Int)} (h : laidOk ps = true) : recE ps = 0 := by simp [recE, h]
/-- A text of some bytes, filled up to so many that z lack. -/
theorem padS_rec {l : List UInt8} {n z : Nat} (hn : n ≤ 4096) (h : l.length + z = n) : padS ⟨l.toArray⟩ n = ⟨(l ++ List.replicate z 0).toArray⟩ := by
  have hs : (⟨l.toArray⟩ : ByteArray).size = l.length := by simp [ByteArray.size]
  rw [padS_ok hn (by rw [hs]; omega), hs, show n - l.length = z by omega]
theorem padE_rec {l : List UInt8} {n z : Nat} (hn : n ≤ 4096) (h : l.length + z = n) : padE ⟨l.toArray⟩ n = 0 := by
  have hs : (⟨l.toArray⟩ : ByteArray).size = l.length := by simp [ByteArray.size]
  rw [padE_ok hn (by rw [hs]; omega)]
/-- The cells of a block that was laid, with another one behind it. -/
theorem cells_boxed (w : World) (xs : Array Value) (t : TypeId) (o : Obj) (i : Nat) (v : Value) (h : xs[i]? = some v) : ((w.alloc (.cells xs t)).alloc o).cell? ⟨w.heap.size, i, none⟩ = some v := by
  rw [World.cell?_alloc_past _ _ _ (by simp), World.cell?_alloc_at _ _ _ _ rfl]
  exact h
/-- .. and behind a call that changes nothing that was there. -/
theorem cells_kept {w w1 : World} {xs : Array Value} {t : TypeId} (hb : Below (w.alloc (.cells xs t)).heap.size (w.alloc (.cells xs t)) w1) (i : Nat) (v : Value) (h : xs[i]? = some v) : w1.cell? ⟨w.heap.size, i, none⟩ = some v := by
  rw [hb.cell (p := ⟨w.heap.size, i, none⟩) (by simp), World.cell?_alloc_at _ _ _ _ rfl]
  exact h
/-- A head's numbers, each with its width. -/
def headPs (a0 a1 a2 a3 a4 a5 a6 a7 : Int) : List (Int × Int) := [(a0, 6), (a1, 4), (a2, 2), (a3, 4), (a4, 4), (a5, 4), (a6, 6), (a7, 6)]
/-- Some bytes, and so many bytes 0 behind. -/
def padL (l : List UInt8) (z : Nat) : ByteArray := ⟨(l ++ List.replicate z 0).toArray⟩
theorem padL_add (l : List UInt8) (r : ByteArray) (z : Nat) : (⟨l.toArray⟩ ++ r) ++ noughtsS z = padL (l ++ r.data.toList) z := by
  rw [pad_append]
  unfold padL
  congr 1
/-- A superblock's numbers, each with its width; its bytes and its error. -/
def superPs (a0 a1 a2 a3 : Int) : List (Int × Int) := [(a0, 6), (a1, 6), (a2, 6), (a3, 4)]
def superS (a0 a1 a2 a3 : Int) (r : ByteArray) : ByteArray := if r.size = 32 ∧ laidOk (superPs a0 a1 a2 a3) = true then padL (laidL (superPs a0 a1 a2 a3) ++ r.data.toList) 394 else ByteArray.empty
def superE (a0 a1 a2 a3 : Int) (r : ByteArray) : Int := if r.size = 32 then recE (superPs a0 a1 a2 a3) else 1
/-- Whether an entry has a name, or no numbers; its numbers, the bytes ahead of them, its bytes and its error. -/
def entFree (s : ByteArray) (a1 a2 : Int) : Bool := !(s.size == 0) || (a1 == 0 && a2 == 0)
def entPs (a1 a2 : Int) : List (Int × Int) := [(a1, 4), (a2, 4)]
def entPre (s : ByteArray) : List UInt8 := (putS s.size 1).data.toList ++ s.data.toList ++ List.replicate (19 - s.size) 0
def entS (s : ByteArray) (a1 a2 : Int) : ByteArray := if s.size ≤ 19 ∧ entFree s a1 a2 = true then recS (entPre s) (entPs a1 a2) 0 else ByteArray.empty
def entE (s : ByteArray) (a1 a2 : Int) : Int := if s.size ≤ 19 then if entFree s a1 a2 = true then recE (entPs a1 a2) else 5 else 4
theorem toList_some {s : ByteArray} (h : ¬ s.size = 0) : s.toList.isEmpty = false := by
  rw [ByteArray.toList_eq, ← Bool.not_eq_true, List.isEmpty_iff]
  intro e
  apply h
  have : s.data.toList.length = s.size := by simp
  rw [← this, e]
  rfl
theorem entLen {s : ByteArray} (h : s.size ≤ 19) : putE s.size 1 = 0 ∧ (putS s.size 1).data.toList.length = 1 := by
  have e : putE s.size 1 = 0 := putE_ok (m := 1) (by decide) (by decide) (by omega) (by simp; omega)
  exact ⟨e, by rw [putS_size e]; rfl⟩
/-- An inode's numbers: the first four, so many of its twelve blocks, the last two; its bytes and its error. -/
def inoPs (a0 a1 a2 a3 : Int) (d : Nat → Int) (j : Nat) : List (Int × Int) := [(a0, 2), (a1, 4), (a2, 6), (a3, 4)] ++ (List.range j).map fun i => (d i, 4)
def inodePs (a0 a1 a2 a3 : Int) (d : Nat → Int) (a4 a5 : Int) : List (Int × Int) := inoPs a0 a1 a2 a3 d 12 ++ [(a4, 4)] ++ [(a5, 4)]
def inodeS (a0 a1 a2 a3 : Int) (d : Nat → Int) (a4 a5 : Int) : ByteArray := if 0 ≤ a0 ∧ a0 ≤ 3 then recS [] (inodePs a0 a1 a2 a3 d a4 a5) 376 else ByteArray.empty
def inodeE (a0 a1 a2 a3 : Int) (d : Nat → Int) (a4 a5 : Int) : Int := if 0 ≤ a0 ∧ a0 ≤ 3 then recE (inodePs a0 a1 a2 a3 d a4 a5) else 2
theorem inoPs_succ (a0 a1 a2 a3 : Int) (d : Nat → Int) (j : Nat) : inoPs a0 a1 a2 a3 d j ++ [(d j, 4)] = inoPs a0 a1 a2 a3 d (j + 1) := by
  unfold inoPs; rw [List.range_succ, List.map_append, List.append_assoc]; rfl
theorem widths_append : ∀ (ps qs : List (Int × Int)), widths (ps ++ qs) = (widths ps && widths qs)
  | [], _ => by simp [widths]
  | p :: r, qs => by rw [List.cons_append, widths, widths, widths_append r qs]; simp only [Bool.and_assoc]
theorem widthSum_append : ∀ (ps qs : List (Int × Int)), widthSum (ps ++ qs) = widthSum ps + widthSum qs
  | [], _ => by simp [widthSum]
  | p :: r, qs => by rw [List.cons_append, widthSum, widthSum, widthSum_append r qs, Nat.add_assoc]
theorem fours (d : Nat → Int) : ∀ j : Nat, widths ((List.range j).map fun i => (d i, (4 : Int))) = true ∧ widthSum ((List.range j).map fun i => (d i, (4 : Int))) = 4 * j
  | 0 => ⟨rfl, rfl⟩
  | j + 1 => by
    have ih := fours d j
    rw [List.range_succ, List.map_append, widths_append, widthSum_append, ih.1, ih.2]
    exact ⟨rfl, by show 4 * j + 4 = 4 * (j + 1); omega⟩
theorem inode_widths (a0 a1 a2 a3 a4 a5 : Int) (d : Nat → Int) : widths (inodePs a0 a1 a2 a3 d a4 a5) = true ∧ widthSum (inodePs a0 a1 a2 a3 d a4 a5) = 72 := by
  have h := fours d 12
  unfold inodePs inoPs
  rw [widths_append, widths_append, widths_append, widthSum_append, widthSum_append, widthSum_append, h.1, h.2]
  exact ⟨rfl, rfl⟩
theorem inoPs_length (a0 a1 a2 a3 : Int) (d : Nat → Int) (j : Nat) : (inoPs a0 a1 a2 a3 d j).length = 4 + j := by simp [inoPs]; omega
end Go.Proofs.YtdhiopbomnfmnaaGreatDoor

namespace Go.Proofs.YtdhiopbomnfmnaaGreatDoor
set_option maxRecDepth 20000
open Go.RowKit

/-- Are all bytes of a text 0? -/
def allZ (t : ByteArray) : Bool := t.data.toList.all (· == 0)
def strLen : Value → Nat
  | .string t => t.size
  | _ => 0
theorem allZ_cons (t : ByteArray) (h : 0 < t.size) (h0 : t[0].toNat = 0) : allZ (t.extract 1 t.size) = allZ t := by
  have hl : t.data.toList.length = t.size := by simp
  unfold allZ
  rw [Lib.extract_data]
  have e : t.data.toList = t[0] :: t.data.toList.drop 1 := by
    have := List.drop_eq_getElem_cons (l := t.data.toList) (i := 0) (by omega)
    rw [List.drop_zero] at this
    exact this
  have e0 : t[0] = 0 := UInt8.toNat_inj.1 h0
  rw [List.take_of_length_le (by simp)]
  conv => rhs; rw [e]
  simp [e0]
theorem allZ_snoc (t : ByteArray) (n : Nat) (h : t.size = n + 1) (h0 : (t[n]'(by omega)).toNat = 0) : allZ (t.extract 0 n) = allZ t := by
  have hl : t.data.toList.length = t.size := by simp
  unfold allZ
  rw [Lib.extract_data]
  have e : t.data.toList = t.data.toList.take n ++ [t[n]'(by omega)] := by
    have := List.take_succ_eq_append_getElem (l := t.data.toList) (i := n) (by omega)
    rw [List.take_of_length_le (by omega)] at this
    exact this
  have e0 : t[n]'(by omega) = 0 := UInt8.toNat_inj.1 h0
  simp only [List.drop_zero, Nat.sub_zero]
  conv => rhs; rw [e]
  simp [e0]
theorem allZ_first (t : ByteArray) (h : 0 < t.size) (h0 : ¬ t[0].toNat = 0) : allZ t = false := by
  have hl : t.data.toList.length = t.size := by simp
  unfold allZ
  have e : t.data.toList = t[0] :: t.data.toList.drop 1 := by
    have := List.drop_eq_getElem_cons (l := t.data.toList) (i := 0) (by omega)
    rw [List.drop_zero] at this
    exact this
  rw [e]
  have : t[0] ≠ 0 := fun hh => h0 (by rw [hh]; rfl)
  simp [this]
theorem allZ_nil (t : ByteArray) (h : t.size = 0) : allZ t = true := by
  obtain rfl : t = ByteArray.empty := by simpa using h
  rfl

theorem toList_full {s : ByteArray} (h : 0 < s.size) : s.toList.isEmpty = false := by
  rw [ByteArray.toList_eq, ← Bool.not_eq_true, List.isEmpty_iff]
  intro e
  have : s.data.toList.length = s.size := by simp
  rw [e] at this
  simp at this
  omega
theorem toList_void {s : ByteArray} (h : s.size = 0) : s.toList.isEmpty = true := by
  obtain rfl : s = ByteArray.empty := by simpa using h
  rw [ByteArray.toList_eq]
  rfl

set_option maxHeartbeats 400000 in
theorem trimLeft_zero (s : ByteArray) (_hs : s.size ≤ maxLen) (w : World) :
    Calls Tryz.prog 88 #[.string s, .int .u8 0] w fun e w' => (∃ t, e = .returned (.string t) ∧ t.toList.isEmpty = allZ s) ∧ w' = w := by
  unfold maxLen at _hs
  go_enter Tryz.func88, Tryz.ntmps88
  go_wp2
  go_loop [0] (fun v => ∃ t : ByteArray, v = .string t ∧ t.size ≤ s.size ∧ allZ t = allZ s) (fun v => strLen v)
  case atStart => exact ⟨s, rfl, Nat.le_refl _, rfl⟩
  case round =>
    obtain ⟨t, rfl, ht, hz⟩ := hrel
    have HZ : Hid (allZ t = allZ s) := hz
    clear hz
    by_cases h0 : 0 < t.size
    · have h0' : (0 : Int) < t.size := by omega
      by_cases hb : t[0].toNat = 0
      · have hb' : ((t[0].toNat : Int) == 0) = true := by simp [hb]
        have HB : Hid (t[0].toNat = 0) := hb
        clear hb
        go_wp2
        go_round
        case rel => exact ⟨_, rfl, by simp; omega, by rw [allZ_cons t h0 HB.out]; exact HZ.out⟩
        case measure => simp [strLen]; omega
      · have hb' : ((t[0].toNat : Int) == 0) = false := by simp; omega
        have HB : Hid (¬ t[0].toNat = 0) := hb
        clear hb
        go_wp2
        go_ret
        refine ⟨⟨t, rfl, ?_⟩, rfl⟩
        rw [← HZ.out, allZ_first t h0 HB.out]
        exact toList_full h0
    · have h0' : ¬ (0 : Int) < t.size := by omega
      go_wp2
      go_ret
      refine ⟨⟨t, rfl, ?_⟩, rfl⟩
      rw [← HZ.out, allZ_nil t (by omega)]
      exact toList_void (by omega)

set_option maxHeartbeats 400000 in
theorem trimRight_zero (s : ByteArray) (hs : s.size ≤ maxLen) (w : World) :
    Calls Tryz.prog 89 #[.string s, .int .u8 0] w fun e w' => (∃ t : ByteArray, e = .returned (.string t) ∧ t.size ≤ s.size ∧ allZ t = allZ s) ∧ w' = w := by
  unfold maxLen at hs
  go_enter Tryz.func89, Tryz.ntmps89
  go_wp2
  go_loop [0] (fun v => ∃ t : ByteArray, v = .string t ∧ t.size ≤ s.size ∧ allZ t = allZ s) (fun v => strLen v)
  case atStart => exact ⟨s, rfl, Nat.le_refl _, rfl⟩
  case round =>
    obtain ⟨t, rfl, ht, hz⟩ := hrel
    have HZ : Hid (allZ t = allZ s) := hz
    clear hz
    by_cases h0 : 0 < t.size
    · have h0' : (0 : Int) < t.size := by omega
      have hlast : t.size - 1 < t.size := by omega
      by_cases hb : t[t.size - 1].toNat = 0
      · have hb' : ((t[t.size - 1].toNat : Int) == 0) = true := by simp [hb]
        have HB : Hid (t[t.size - 1].toNat = 0) := hb
        clear hb
        go_wp2
        go_round
        case rel => exact ⟨_, rfl, by simp; omega, by rw [allZ_snoc t (t.size - 1) (by omega) HB.out]; exact HZ.out⟩
        case measure => simp [strLen]; omega
      · have hb' : ((t[t.size - 1].toNat : Int) == 0) = false := by simp; omega
        clear hb
        go_wp2
        go_ret
        exact ⟨⟨t, rfl, ht, HZ.out⟩, rfl⟩
    · have h0' : ¬ (0 : Int) < t.size := by omega
      go_wp2
      go_ret
      exact ⟨⟨t, rfl, ht, HZ.out⟩, rfl⟩

set_option maxRecDepth 100000 in
set_option maxHeartbeats 400000 in
theorem trim_zero (s : ByteArray) (hs : s.size ≤ maxLen) (w : World) :
    Calls Tryz.prog 77 #[.string s, .string ⟨#[0]⟩] w fun e w' => (∃ t, e = .returned (.string t) ∧ t.toList.isEmpty = allZ s) ∧ Below w.heap.size w w' := by
  by_cases h0 : s.size = 0
  · have he := toList_void h0
    go_enter Tryz.func77, Tryz.ntmps77
    go_wp2
    go_ret
    exact ⟨⟨s, rfl, by rw [he, allZ_nil s h0]⟩, Below.refl _ _⟩
  · have he := toList_full (show 0 < s.size by omega)
    go_enter Tryz.func77, Tryz.ntmps77
    go_wp2
    go_region_held3 (fun _ => True) (trivial) (first | (go_at_call 89; refine (trimRight_zero s hs _).mono ?_; rintro e w' ⟨⟨t, rfl, ht, hz⟩, rfl⟩) | (go_at_call 88; refine (trimLeft_zero _ (Nat.le_trans (by assumption) hs) _).mono ?_; rintro e w' ⟨⟨t2, rfl, hz2⟩, rfl⟩))
    all_goals
      go_wp2
      go_ret
      exact ⟨⟨_, rfl, hz2.trans hz⟩, by repeat (first | exact Below.refl _ _ | apply Below.drew)⟩

theorem isZero_any (s : ByteArray) (hs : s.size ≤ maxLen) (w : World) :
    Calls Tryz.prog 63 #[.string s] w fun e w' => e = .returned (.bool (allZ s)) ∧ Below w.heap.size w w' := by
  go_enter Tryz.func63, Tryz.ntmps63
  go_wp2_with fail
  refine (trim_zero s hs _).mono ?_
  rintro e w1 ⟨⟨t, rfl, hz⟩, hb⟩
  have HZ : Hid (t.toList.isEmpty = allZ s) := hz
  clear hz
  go_wp2
  go_ret
  exact ⟨by rw [← HZ.out]; rfl, hb⟩
end Go.Proofs.YtdhiopbomnfmnaaGreatDoor

namespace Go.Proofs.YtdhiopbomnfmnaaGreatDoor
set_option maxRecDepth 20000

theorem leI_cons (k : Nat) (n : Int) : leI (k + 1) n = n % 256 :: leI k (n / 256) := by
  have e : ∀ i : Nat, n / 256 ^ (i + 1) % 256 = n / 256 / 256 ^ i % 256 := fun i => by
    rw [Int.ediv_ediv_of_nonneg (by decide), Int.pow_succ, Int.mul_comm]
  simp only [leI, List.range_succ_eq_map, List.map_cons, List.map_map, Function.comp_def, Nat.succ_eq_add_one, e, Int.pow_zero, Int.ediv_one]
theorem leI_leVal : ∀ l : List UInt8, leI l.length (leVal l) = l.map fun x => (x.toNat : Int)
  | [] => rfl
  | b :: r => by
    have hb : b.toNat < 256 := b.toNat_lt
    rw [List.length_cons, leI_cons, leVal, show ((b.toNat : Int) + 256 * leVal r) % 256 = b.toNat by omega, show ((b.toNat : Int) + 256 * leVal r) / 256 = leVal r by omega, leI_leVal r]
    rfl
theorem put_back (l : List UInt8) (k : Nat) (hl : l.length = k) (h1 : 1 ≤ k) (h6 : k ≤ 6) : putE (leVal l) k = 0 ∧ putS (leVal l) k = ⟨l.toArray⟩ := by
  subst hl
  refine ⟨putE_ok h1 h6 (leVal_nonneg l) (leVal_lt l), ?_⟩
  rw [putS_ok h1 h6 (leVal_nonneg l) (leVal_lt l), leI_leVal, str_map_nums]
/-- The numbers of bytes from a place on, each with its width. -/
def pairsOf (L : List UInt8) : Nat → List Nat → List (Int × Int)
  | _, [] => []
  | a, k :: r => (leVal ((L.drop a).take k), (k : Int)) :: pairsOf L (a + k) r
theorem pairs_laid (L : List UInt8) : ∀ (ws : List Nat) (a : Nat), (∀ k ∈ ws, 1 ≤ k ∧ k ≤ 6) → a + ws.sum ≤ L.length → laidOk (pairsOf L a ws) = true ∧ laidL (pairsOf L a ws) = (L.drop a).take ws.sum
  | [], _, _, _ => ⟨rfl, by simp [pairsOf, laidL]⟩
  | k :: r, a, hk, hl => by
    rw [List.sum_cons] at hl
    obtain ⟨h1, h6⟩ := hk k (List.mem_cons_self ..)
    obtain ⟨i1, i2⟩ := pairs_laid L r (a + k) (fun x hx => hk x (List.mem_cons_of_mem _ hx)) (by omega)
    obtain ⟨p1, p2⟩ := put_back ((L.drop a).take k) k (by rw [List.length_take, List.length_drop]; omega) h1 h6
    refine ⟨?_, ?_⟩
    · rw [pairsOf, laidOk, i1, p1]; rfl
    · rw [pairsOf, laidL, i2, p2, List.sum_cons]
      show (L.drop a).take k ++ _ = _
      rw [← List.drop_drop, List.take_add]
theorem allZ_eq (t : ByteArray) (h : allZ t = true) : t.data.toList = List.replicate t.size 0 := by
  unfold allZ at h
  rw [List.all_eq_true] at h
  refine List.eq_replicate_iff.2 ⟨by simp, fun x hx => ?_⟩
  have := h x hx
  simpa using this
theorem text_cut (s : ByteArray) (a b : Nat) : (s.data.toList.drop a).take (b - a) = (s.extract a b).data.toList := by
  simp
theorem text_zeros (s : ByteArray) (a n : Nat) (hs : s.size = n) (ha : a ≤ n) (h : allZ (s.extract a n) = true) : s.data.toList.drop a = List.replicate (n - a) 0 := by
  have e := allZ_eq _ h
  have hz : (s.extract a n).size = n - a := by simp; omega
  rw [hz, ← text_cut s a n, List.take_of_length_le (by simp; omega)] at e
  exact e
theorem ba_of {s : ByteArray} {l : List UInt8} (h : s.data.toList = l) : (⟨l.toArray⟩ : ByteArray) = s := by
  subst h
  apply ByteArray.ext
  simp
end Go.Proofs.YtdhiopbomnfmnaaGreatDoor

namespace Go.Proofs.YtdhiopbomnfmnaaGreatDoor
set_option maxRecDepth 20000
open Go.RowKit

theorem get_noWidth (s : ByteArray) (a k : Int) (h : k < 1 ∨ 6 < k) (w : World) :
    Calls Tryz.prog 76 #[.string s, .int .i64 a, .int .i64 k] w fun e w' => e = .returned (.tuple #[.int .i64 0, .int .i64 1]) ∧ w' = w := by
  rcases h with h | h
  · go_enter Tryz.func76, Tryz.ntmps76
    go_wp2
    go_ret2
    exact ⟨rfl, rfl⟩
  · have h1 : 1 ≤ k := by omega
    have hd : decide (k ≤ 6) = false := by simp; omega
    go_enter Tryz.func76, Tryz.ntmps76
    go_wp2
    go_ret2
    exact ⟨rfl, rfl⟩

theorem get_short (s : ByteArray) (a : Int) (k : Nat) (h1 : 1 ≤ k) (h2 : k ≤ 6) (hs : s.size ≤ maxLen) (h : a < 0 ∨ (s.size : Int) - k < a) (w : World) :
    Calls Tryz.prog 76 #[.string s, .int .i64 a, .int .i64 k] w fun e w' => e = .returned (.tuple #[.int .i64 0, .int .i64 3]) ∧ w' = w := by
  unfold maxLen at hs
  have a1 : (1 : Int) ≤ k := by omega
  have a2 : (k : Int) ≤ 6 := by omega
  by_cases hn : a < 0
  · clear h
    go_enter Tryz.func76, Tryz.ntmps76
    go_wp2
    go_ret2
    exact ⟨rfl, rfl⟩
  · have h3 : (s.size : Int) - k < a := by omega
    clear h
    go_enter Tryz.func76, Tryz.ntmps76
    go_wp2
    go_ret2
    exact ⟨rfl, rfl⟩

set_option maxHeartbeats 400000 in
theorem get_ok (s : ByteArray) (a : Nat) (k : Nat) (h1 : 1 ≤ k) (h2 : k ≤ 6) (hs : s.size ≤ maxLen) (h : a + k ≤ s.size) (w : World) :
    Calls Tryz.prog 76 #[.string s, .int .i64 a, .int .i64 k] w fun e w' => e = .returned (.tuple #[.int .i64 (leVal ((s.data.toList.drop a).take k)), .int .i64 0]) ∧ w' = w := by
  unfold maxLen at hs
  have a1 : (1 : Int) ≤ k := by omega
  have a2 : (k : Int) ≤ 6 := by omega
  have a3 : ¬ (s.size : Int) - k < a := by omega
  go_enter Tryz.func76, Tryz.ntmps76
  go_wp2
  go_loop [8, 24] (fun x i => ∃ j : Nat, j ≤ k ∧ i = .int .i64 j ∧ x = .int .i64 (leVal ((s.data.toList.drop a).take j))) (fun _ i => k - (intOf i).toNat)
  case atStart => exact ⟨0, Nat.zero_le _, rfl, by simp [leVal]⟩
  case round =>
    obtain ⟨j, hj, rfl, rfl⟩ := hrel
    by_cases hlt : j < k
    · obtain ⟨q, hq⟩ : ∃ q, q = leVal ((s.data.toList.drop a).take j) := ⟨_, rfl⟩
      have hq0 : 0 ≤ q := by rw [hq]; exact leVal_nonneg _
      rw [← hq]
      have HQ : Hid (q = leVal ((s.data.toList.drop a).take j)) := hq
      clear hq
      have hix : a + j < s.size := by omega
      go_wp2
      go_roundw
      case rel =>
        refine ⟨j + 1, by omega, by go_num, ?_⟩
        have hlt2 : q < 256 ^ j := by rw [HQ.out]; exact numAt_lt s a j
        rw [or_high q _ j (by omega) hq0 hlt2 (by omega) (by have := s[a + j].toNat_lt; omega), numAt_snoc s a j hix, ← HQ.out]
      case measure => simp [intOf]; omega
    · have hjk : j = k := by omega
      subst hjk
      go_wp2
      go_ret2
      exact ⟨rfl, rfl⟩

/-- pack.Get, whatever it is handed. -/
theorem get_any (s : ByteArray) (a k : Int) (hs : s.size ≤ maxLen) (w : World) :
    Calls Tryz.prog 76 #[.string s, .int .i64 a, .int .i64 k] w fun e w' => e = .returned (.tuple #[.int .i64 (getN s a k), .int .i64 (getE s a k)]) ∧ w' = w := by
  by_cases hk : k < 1 ∨ 6 < k
  · rw [getN_no (.inl hk), getE_noWidth hk]
    exact get_noWidth s a k hk w
  · obtain ⟨m, rfl⟩ := Int.eq_ofNat_of_zero_le (show 0 ≤ k by omega)
    have h1 : 1 ≤ m := by omega
    have h2 : m ≤ 6 := by omega
    by_cases ha : a < 0 ∨ (s.size : Int) - m < a
    · rw [getN_no (.inr ha), getE_short (by omega) (by omega) ha]
      exact get_short s a m h1 h2 hs ha w
    · obtain ⟨b, rfl⟩ := Int.eq_ofNat_of_zero_le (show 0 ≤ a by omega)
      have hb : b + m ≤ s.size := by omega
      rw [getN_ok h1 h2 hb, getE_ok h1 h2 hb]
      exact get_ok s b m h1 h2 hs hb w
end Go.Proofs.YtdhiopbomnfmnaaGreatDoor

namespace Go.Proofs.YtdhiopbomnfmnaaGreatDoor
set_option maxRecDepth 20000
open Go.RowKit

/-- What a reader panics with. -/
def gave (e : Int) : List PanicEntry := [{ v := .iface 120 (.agg #[.int .i64 e]), recovered := false }]
/-- What a world holds of a reader in block b: its text, and where it stands. -/
def Rd (w : World) (b : Nat) (s : ByteArray) (at' : Nat) : Prop := w.heap[b]? = some (.cells #[.string s, .int .i64 at'] 124 (0, 0))
theorem rd_cell0 {w : World} {b : Nat} {u v : Value} {t : TypeId} (h : w.heap[b]? = some (.cells #[u, v] t (0, 0))) : w.cell? ⟨b, 0, none⟩ = some u := by simp [World.cell?, h]
theorem rd_cell1 {w : World} {b : Nat} {u v : Value} {t : TypeId} (h : w.heap[b]? = some (.cells #[u, v] t (0, 0))) : w.cell? ⟨b, 1, none⟩ = some v := by simp [World.cell?, h]
theorem rd_free {w : World} {b : Nat} {u v : Value} {t : TypeId} (i : Nat) (h : w.heap[b]? = some (.cells #[u, v] t (0, 0))) : w.frozen? ⟨b, i, none⟩ = false := by simp [World.frozen?, h]
theorem rd_set {w : World} {b : Nat} {u v x : Value} {t : TypeId} (h : w.heap[b]? = some (.cells #[u, v] t (0, 0))) : (w.setCell ⟨b, 1, none⟩ x).heap[b]? = some (.cells #[u, x] t (0, 0)) := by
  have hlt := lt_of_block h
  have h' : w.heap[b] = .cells #[u, v] t (0, 0) := by simpa [Array.getElem?_eq_getElem hlt] using h
  show (w.heap.modify b _)[b]? = _
  rw [Array.getElem?_eq_getElem (by simpa using hlt), Array.getElem_modify_self, h']
  rfl

theorem rd_step {w : World} {b : Nat} {s : ByteArray} {a : Nat} (h : Rd w b s a) (n q : Nat) (x : Int) (hx : x = ((a + n : Nat) : Int)) :
    Rd ((w.drewN q).setCell ⟨b, 1, none⟩ (.int .i64 x)) b s (a + n) ∧ Only b w ((w.drewN q).setCell ⟨b, 1, none⟩ (.int .i64 x)) := by
  subst hx
  have h' : (w.drewN q).heap[b]? = some (.cells #[.string s, .int .i64 a] 124 (0, 0)) := h
  exact ⟨rd_set h', (below_drewN (Below.refl 0 w) q).setCell (p := ⟨b, 1, none⟩) (Nat.zero_le _) _, fun k _ hb => Below.heap_setCell (w.drewN q) ⟨b, 1, none⟩ _ k hb⟩
theorem Rd.lt {w : World} {b : Nat} {s : ByteArray} {a : Nat} (h : Rd w b s a) : b < w.heap.size := lt_of_block h
theorem Rd.below {w w' : World} {b : Nat} {s : ByteArray} {a : Nat} (h : Rd w b s a) (hb : Below w.heap.size w w') : Rd w' b s a := (hb.block b h.lt).trans h

theorem must_yes (b : Nat) (w : World) : Calls Tryz.prog 62 #[.pointer (some ⟨b, 0, none⟩), .bool true] w fun e w' => e = .returned (.tuple #[]) ∧ w' = w := by
  go_enter Tryz.func62, Tryz.ntmps62
  go_wp2
  go_end0
  exact ⟨rfl, rfl⟩
theorem must_no (b : Nat) (w : World) : Calls Tryz.prog 62 #[.pointer (some ⟨b, 0, none⟩), .bool false] w fun e w' => e = .panicked (gave 5) ∧ w' = w := by
  go_enter Tryz.func62, Tryz.ntmps62
  go_wp2
  exact ⟨rfl, rfl, rfl⟩

set_option maxHeartbeats 400000 in
theorem number_any (b : Nat) (s : ByteArray) (a k : Nat) (h1 : 1 ≤ k) (h6 : k ≤ 6) (ha : a + k ≤ s.size) (hs : s.size ≤ 4096) (w : World) (h : Rd w b s a) :
    Calls Tryz.prog 61 #[.pointer (some ⟨b, 0, none⟩), .int .i64 k] w fun e w' => e = .returned (.int .i64 (leVal ((s.data.toList.drop a).take k))) ∧ Rd w' b s (a + k) ∧ Only b w w' := by
  have hc0 := rd_cell0 h
  have hc1 := rd_cell1 h
  have hf1 := rd_free 1 h
  have HR : Hid (Rd w b s a) := h
  have HN : Hid (getN s a k = leVal ((s.data.toList.drop a).take k) ∧ getE s a k = 0) := ⟨getN_ok h1 h6 ha, getE_ok h1 h6 ha⟩
  clear h
  go_enter Tryz.func61, Tryz.ntmps61
  go_wp2
  go_quiet ((go_at_call 76; exact Calls.quiet_of_same (get_any s a k (by unfold maxLen; omega) _)))
  rw [HN.out.1, HN.out.2]
  go_wp2
  go_ret
  exact ⟨rfl, rd_step HR.out k _ _ (by omega)⟩

set_option maxHeartbeats 400000 in
theorem number_short (b : Nat) (s : ByteArray) (a k : Nat) (h1 : 1 ≤ k) (h6 : k ≤ 6) (ha : ¬ a + k ≤ s.size) (hs : s.size ≤ 4096) (w : World) (h : Rd w b s a) :
    Calls Tryz.prog 61 #[.pointer (some ⟨b, 0, none⟩), .int .i64 k] w fun e w' => e = .panicked (gave 3) ∧ Below w.heap.size w w' := by
  have hc0 := rd_cell0 h
  have hc1 := rd_cell1 h
  have HN : Hid (getN s a k = 0 ∧ getE s a k = 3) := ⟨getN_no (.inr (.inr (by omega))), getE_short (by omega) (by omega) (.inr (by omega))⟩
  clear h
  go_enter Tryz.func61, Tryz.ntmps61
  go_wp2
  go_quiet ((go_at_call 76; exact Calls.quiet_of_same (get_any s a k (by unfold maxLen; omega) _)))
  rw [HN.out.1, HN.out.2]
  go_wp2
  exact ⟨rfl, rfl, below_drewN (Below.refl _ _) _⟩

set_option maxHeartbeats 400000 in
theorem bytes_any (b : Nat) (s : ByteArray) (a n : Nat) (ha : a + n ≤ s.size) (hs : s.size ≤ 4096) (w : World) (h : Rd w b s a) :
    Calls Tryz.prog 60 #[.pointer (some ⟨b, 0, none⟩), .int .i64 n] w fun e w' => e = .returned (.string (s.extract a (a + n))) ∧ Rd w' b s (a + n) ∧ Only b w w' := by
  have hc0 := rd_cell0 h
  have hc1 := rd_cell1 h
  have hf1 := rd_free 1 h
  have HR : Hid (Rd w b s a) := h
  have i1 : ¬ (s.size : Int) - a < n := by omega
  have i2 : (a : Int) + n ≤ s.size := by omega
  have i3 : (0 : Int) ≤ a := by omega
  have i4 : (a : Int) ≤ (a : Int) + n := by omega
  clear h
  go_enter Tryz.func60, Tryz.ntmps60
  go_wp2
  go_quiet (fail)
  go_wp2
  go_quiet (fail)
  go_wp2
  go_ret
  exact ⟨rfl, rd_step HR.out n _ _ (by omega)⟩

set_option maxHeartbeats 400000 in
theorem bytes_short (b : Nat) (s : ByteArray) (a n : Nat) (ha : ¬ a + n ≤ s.size) (hn : n ≤ 4096) (hs : s.size ≤ 4096) (hp : a ≤ 4096) (w : World) (h : Rd w b s a) :
    Calls Tryz.prog 60 #[.pointer (some ⟨b, 0, none⟩), .int .i64 n] w fun e w' => e = .panicked (gave 3) ∧ Below w.heap.size w w' := by
  have hc0 := rd_cell0 h
  have hc1 := rd_cell1 h
  have i1 : (s.size : Int) - a < n := by omega
  clear h
  go_enter Tryz.func60, Tryz.ntmps60
  go_wp2
  go_quiet (fail)
  go_wp2
  exact ⟨rfl, rfl, below_drewN (Below.refl _ _) _⟩
end Go.Proofs.YtdhiopbomnfmnaaGreatDoor
