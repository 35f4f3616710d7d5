/- Plain facts on the writer of package pack: what a world holds of one (its text, its error), and what numbers laid one behind the other come to: no program is named here. -/
import Derived.Test.YtdngoicpcocnnaaGreatDoorMg00
import Derived.Lib.AppendStr
import Derived.OneCell
namespace Go.Proofs.YtdngoicpcocnnaaGreatDoor
set_option maxRecDepth 20000
open Go.RowKit Go.Lib

theorem two_cell0 {w : World} {b : Nat} {u v : Value} {t : TypeId} (h : w.heap[b]? = some (.cells #[u, v] t (0, 0))) : w.cell? ⟨b, 0, none⟩ = some u := by simp [World.cell?, h]
theorem two_cell1 {w : World} {b : Nat} {u v : Value} {t : TypeId} (h : w.heap[b]? = some (.cells #[u, v] t (0, 0))) : w.cell? ⟨b, 1, none⟩ = some v := by simp [World.cell?, h]
theorem two_free {w : World} {b : Nat} {u v : Value} {t : TypeId} (i : Nat) (h : w.heap[b]? = some (.cells #[u, v] t (0, 0))) : w.frozen? ⟨b, i, none⟩ = false := by simp [World.frozen?, h]
theorem two_set0 {w : World} {b : Nat} {u v x : Value} {t : TypeId} (h : w.heap[b]? = some (.cells #[u, v] t (0, 0))) : (w.setCell ⟨b, 0, none⟩ x).heap[b]? = some (.cells #[x, v] t (0, 0)) := by
  have hlt := lt_of_block h
  have h' : w.heap[b] = .cells #[u, v] t (0, 0) := by simpa [Array.getElem?_eq_getElem hlt] using h
  show (w.heap.modify b _)[b]? = _
  rw [Array.getElem?_eq_getElem (by simpa using hlt), Array.getElem_modify_self, h']
  rfl
theorem two_set1 {w : World} {b : Nat} {u v x : Value} {t : TypeId} (h : w.heap[b]? = some (.cells #[u, v] t (0, 0))) : (w.setCell ⟨b, 1, none⟩ x).heap[b]? = some (.cells #[u, x] t (0, 0)) := by
  have hlt := lt_of_block h
  have h' : w.heap[b] = .cells #[u, v] t (0, 0) := by simpa [Array.getElem?_eq_getElem hlt] using h
  show (w.heap.modify b _)[b]? = _
  rw [Array.getElem?_eq_getElem (by simpa using hlt), Array.getElem_modify_self, h']
  rfl

/-- The cells of some bytes. -/
def byteCells (l : List UInt8) : List Value := l.map fun b => Value.int .u8 (b.toNat : Int)
theorem byteCells_length (l : List UInt8) : (byteCells l).length = l.length := by simp [byteCells]
theorem byteCells_append (l m : List UInt8) : byteCells l ++ byteCells m = byteCells (l ++ m) := by simp [byteCells]
theorem byteCells_str (s : ByteArray) : strCells s = byteCells s.data.toList := rfl

/-- What a world holds of a writer in block b: its text and its error. -/
def Wr (w : World) (T E : TypeId) (b : Nat) (l : List UInt8) (e : Int) : Prop :=
  ∃ v, w.heap[b]? = some (.cells #[v, .int .i64 e] T (0, 0)) ∧ w.ownsRow (b + 1) E 1 v l.length (byteCells l)

theorem ownsRow_below {w w' : World} {base : Nat} {e : TypeId} {size : Nat} {v : Value} {n : Nat} {xs : List Value} (hb : Below w.heap.size w w') (h : w.ownsRow base e size v n xs) : w'.ownsRow base e size v n xs := by
  obtain ⟨h1, h2⟩ := h
  refine ⟨h1, ?_⟩
  rcases h2 with h2 | ⟨g, cap, cur, hv, hg, hh, r⟩
  · exact .inl h2
  · exact .inr ⟨g, cap, cur, hv, hg, by rw [hb.block g (lt_of_block hh)]; exact hh, r⟩
theorem Wr.below {w w' : World} {T E : TypeId} {b : Nat} {l : List UInt8} {e : Int} (h : Wr w T E b l e) (hb : Below w.heap.size w w') : Wr w' T E b l e := by
  obtain ⟨v, h1, h2⟩ := h
  exact ⟨v, by rw [hb.block b (lt_of_block h1)]; exact h1, ownsRow_below hb h2⟩
theorem Wr.lt {w : World} {T E : TypeId} {b : Nat} {l : List UInt8} {e : Int} (h : Wr w T E b l e) : b < w.heap.size := by
  obtain ⟨v, h1, h2⟩ := h
  exact lt_of_block h1

/-- The error behind a number that is laid. -/
def stepE (e n k : Int) : Int := if putE n k = 0 then e else putE n k
/-- Numbers, each in its width: their bytes, and whether all have room. -/
def laidL : List (Int × Int) → List UInt8
  | [] => []
  | p :: r => (putS p.1 p.2).data.toList ++ laidL r
def laidOk : List (Int × Int) → Bool
  | [] => true
  | p :: r => (putE p.1 p.2 == 0) && laidOk r
def errL : Int → List (Int × Int) → Int
  | e, [] => e
  | e, p :: r => errL (stepE e p.1 p.2) r
def widths : List (Int × Int) → Bool
  | [] => true
  | p :: r => (decide (1 ≤ p.2) && decide (p.2 ≤ 6)) && widths r
theorem putE_two {n k : Int} (h1 : 1 ≤ k) (h6 : k ≤ 6) : putE n k = 0 ∨ putE n k = 2 := by
  unfold putE
  rw [if_neg (by omega)]
  split
  · exact .inr rfl
  · exact .inl rfl
theorem errL_two : ∀ (ps : List (Int × Int)), widths ps = true → errL 2 ps = 2
  | [], _ => rfl
  | p :: r, h => by
    simp only [widths, Bool.and_eq_true, decide_eq_true_eq] at h
    rcases putE_two (n := p.1) h.1.1 h.1.2 with e | e
    · rw [errL, stepE, if_pos e, errL_two r h.2]
    · rw [errL, stepE, if_neg (by omega), e, errL_two r h.2]
theorem errL_ok : ∀ (ps : List (Int × Int)), widths ps = true → errL 0 ps = if laidOk ps = true then 0 else 2
  | [], _ => rfl
  | p :: r, h => by
    simp only [widths, Bool.and_eq_true, decide_eq_true_eq] at h
    rcases putE_two (n := p.1) h.1.1 h.1.2 with e | e
    · rw [errL, stepE, if_pos e, errL_ok r h.2]
      simp [laidOk, e]
    · rw [errL, stepE, if_neg (by omega), e, errL_two r h.2]
      simp [laidOk, e]
theorem putS_size {n k : Int} (h : putE n k = 0) : (putS n k).data.toList.length = k.toNat := by
  unfold putE at h
  split at h
  · omega
  · split at h
    · omega
    · unfold putS
      rw [if_pos (by omega)]
      simp [strOfNums, leI_length]
/-- How many bytes numbers take. -/
def widthSum : List (Int × Int) → Nat
  | [] => 0
  | p :: r => p.2.toNat + widthSum r
theorem laidL_length : ∀ (ps : List (Int × Int)), laidOk ps = true → (laidL ps).length = widthSum ps
  | [], _ => rfl
  | p :: r, h => by
    simp only [laidOk, Bool.and_eq_true, beq_iff_eq] at h
    rw [laidL, List.length_append, putS_size h.1, laidL_length r h.2, widthSum]
theorem putS_le (n k : Int) : (putS n k).data.toList.length ≤ 6 := by
  unfold putS
  split
  · simp [strOfNums, leI_length]; omega
  · simp
theorem laidL_le : ∀ (ps : List (Int × Int)), (laidL ps).length ≤ 6 * ps.length
  | [] => Nat.le_refl _
  | p :: r => by
    have := putS_le p.1 p.2
    have := laidL_le r
    rw [laidL, List.length_append, List.length_cons]
    omega
theorem laidL_append : ∀ (ps qs : List (Int × Int)), laidL (ps ++ qs) = laidL ps ++ laidL qs
  | [], _ => rfl
  | p :: r, qs => by rw [List.cons_append, laidL, laidL, laidL_append r qs, List.append_assoc]
theorem errL_append : ∀ (ps qs : List (Int × Int)) (e : Int), errL e (ps ++ qs) = errL (errL e ps) qs
  | [], _, _ => rfl
  | p :: r, qs, e => by rw [List.cons_append, errL, errL, errL_append r qs]
/-- What a record of numbers tells: bytes ahead, the numbers', bytes 0 behind; and the error. -/
def recS (pre : List UInt8) (ps : List (Int × Int)) (z : Nat) : ByteArray := if laidOk ps = true then ⟨(pre ++ laidL ps ++ List.replicate z 0).toArray⟩ else ByteArray.empty
def recE (ps : List (Int × Int)) : Int := if laidOk ps = true then 0 else 2
theorem recS_no {pre : List UInt8} {ps : List (Int × Int)} {z : Nat} (h : laidOk ps = false) : recS pre ps z = ByteArray.empty := by simp [recS, h]
theorem recE_no {ps : List (Int × Int)} (h : laidOk ps = false) : recE ps = 2 := by simp [recE, h]
theorem recS_ok {pre : List UInt8} {ps : List (Int × Int)} {z : Nat} (h : laidOk ps = true) : recS pre ps z = ⟨(pre ++ laidL ps ++ List.replicate z 0).toArray⟩ := by simp [recS, h]
theorem recE_ok {ps : List (Int × Int)} (h : laidOk ps = true) : recE ps = 0 := by simp [recE, h]
/-- A text of some bytes, filled up to so many that z lack. -/
theorem padS_rec {l : List UInt8} {n z : Nat} (hn : n ≤ 4096) (h : l.length + z = n) : padS ⟨l.toArray⟩ n = ⟨(l ++ List.replicate z 0).toArray⟩ := by
  have hs : (⟨l.toArray⟩ : ByteArray).size = l.length := by simp [ByteArray.size]
  rw [padS_ok hn (by rw [hs]; omega), hs, show n - l.length = z by omega]
theorem padE_rec {l : List UInt8} {n z : Nat} (hn : n ≤ 4096) (h : l.length + z = n) : padE ⟨l.toArray⟩ n = 0 := by
  have hs : (⟨l.toArray⟩ : ByteArray).size = l.length := by simp [ByteArray.size]
  rw [padE_ok hn (by rw [hs]; omega)]
/-- The cells of a block that was laid, with another one behind it. -/
theorem cells_boxed (w : World) (xs : Array Value) (t : TypeId) (o : Obj) (i : Nat) (v : Value) (h : xs[i]? = some v) : ((w.alloc (.cells xs t)).alloc o).cell? ⟨w.heap.size, i, none⟩ = some v := by
  rw [World.cell?_alloc_past _ _ _ (by simp), World.cell?_alloc_at _ _ _ _ rfl]
  exact h
/-- .. and behind a call that changes nothing that was there. -/
theorem cells_kept {w w1 : World} {xs : Array Value} {t : TypeId} (hb : Below (w.alloc (.cells xs t)).heap.size (w.alloc (.cells xs t)) w1) (i : Nat) (v : Value) (h : xs[i]? = some v) : w1.cell? ⟨w.heap.size, i, none⟩ = some v := by
  rw [hb.cell (p := ⟨w.heap.size, i, none⟩) (by simp), World.cell?_alloc_at _ _ _ _ rfl]
  exact h
/-- A head's numbers, each with its width. -/
def headPs (a0 a1 a2 a3 a4 a5 a6 a7 : Int) : List (Int × Int) := [(a0, 6), (a1, 4), (a2, 2), (a3, 4), (a4, 4), (a5, 4), (a6, 6), (a7, 6)]
/-- Some bytes, and so many bytes 0 behind. -/
def padL (l : List UInt8) (z : Nat) : ByteArray := ⟨(l ++ List.replicate z 0).toArray⟩
theorem padL_add (l : List UInt8) (r : ByteArray) (z : Nat) : (⟨l.toArray⟩ ++ r) ++ noughtsS z = padL (l ++ r.data.toList) z := by
  rw [pad_append]
  unfold padL
  congr 1
/-- A superblock's numbers, each with its width; its bytes and its error. -/
def superPs (a0 a1 a2 a3 : Int) : List (Int × Int) := [(a0, 6), (a1, 6), (a2, 6), (a3, 4)]
def superS (a0 a1 a2 a3 : Int) (r : ByteArray) : ByteArray := if r.size = 32 ∧ laidOk (superPs a0 a1 a2 a3) = true then padL (laidL (superPs a0 a1 a2 a3) ++ r.data.toList) 394 else ByteArray.empty
def superE (a0 a1 a2 a3 : Int) (r : ByteArray) : Int := if r.size = 32 then recE (superPs a0 a1 a2 a3) else 1
/-- Whether an entry has a name, or no numbers; its numbers, the bytes ahead of them, its bytes and its error. -/
def entFree (s : ByteArray) (a1 a2 : Int) : Bool := !(s.size == 0) || (a1 == 0 && a2 == 0)
def entPs (a1 a2 : Int) : List (Int × Int) := [(a1, 4), (a2, 4)]
def entPre (s : ByteArray) : List UInt8 := (putS s.size 1).data.toList ++ s.data.toList ++ List.replicate (19 - s.size) 0
def entS (s : ByteArray) (a1 a2 : Int) : ByteArray := if s.size ≤ 19 ∧ entFree s a1 a2 = true then recS (entPre s) (entPs a1 a2) 0 else ByteArray.empty
def entE (s : ByteArray) (a1 a2 : Int) : Int := if s.size ≤ 19 then if entFree s a1 a2 = true then recE (entPs a1 a2) else 5 else 4
theorem toList_some {s : ByteArray} (h : ¬ s.size = 0) : s.toList.isEmpty = false := by
  rw [ByteArray.toList_eq, ← Bool.not_eq_true, List.isEmpty_iff]
  intro e
  apply h
  have : s.data.toList.length = s.size := by simp
  rw [← this, e]
  rfl
theorem entLen {s : ByteArray} (h : s.size ≤ 19) : putE s.size 1 = 0 ∧ (putS s.size 1).data.toList.length = 1 := by
  have e : putE s.size 1 = 0 := putE_ok (m := 1) (by decide) (by decide) (by omega) (by simp; omega)
  exact ⟨e, by rw [putS_size e]; rfl⟩
/-- An inode's numbers: the first four, so many of its twelve blocks, the last two; its bytes and its error. -/
def inoPs (a0 a1 a2 a3 : Int) (d : Nat → Int) (j : Nat) : List (Int × Int) := [(a0, 2), (a1, 4), (a2, 6), (a3, 4)] ++ (List.range j).map fun i => (d i, 4)
def inodePs (a0 a1 a2 a3 : Int) (d : Nat → Int) (a4 a5 : Int) : List (Int × Int) := inoPs a0 a1 a2 a3 d 12 ++ [(a4, 4)] ++ [(a5, 4)]
def inodeS (a0 a1 a2 a3 : Int) (d : Nat → Int) (a4 a5 : Int) : ByteArray := if 0 ≤ a0 ∧ a0 ≤ 3 then recS [] (inodePs a0 a1 a2 a3 d a4 a5) 376 else ByteArray.empty
def inodeE (a0 a1 a2 a3 : Int) (d : Nat → Int) (a4 a5 : Int) : Int := if 0 ≤ a0 ∧ a0 ≤ 3 then recE (inodePs a0 a1 a2 a3 d a4 a5) else 2
theorem inoPs_succ (a0 a1 a2 a3 : Int) (d : Nat → Int) (j : Nat) : inoPs a0 a1 a2 a3 d j ++ [(d j, 4)] = inoPs a0 a1 a2 a3 d (j + 1) := by
  unfold inoPs; rw [List.range_succ, List.map_append, List.append_assoc]; rfl
theorem widths_append : ∀ (ps qs : List (Int × Int)), widths (ps ++ qs) = (widths ps && widths qs)
  | [], _ => by simp [widths]
  | p :: r, qs => by rw [List.cons_append, widths, widths, widths_append r qs]; simp only [Bool.and_assoc]
theorem widthSum_append : ∀ (ps qs : List (Int × Int)), widthSum (ps ++ qs) = widthSum ps + widthSum qs
  | [], _ => by simp [widthSum]
  | p :: r, qs => by rw [List.cons_append, widthSum, widthSum, widthSum_append r qs, Nat.add_assoc]
theorem fours (d : Nat → Int) : ∀ j : Nat, widths ((List.range j).map fun i => (d i, (4 : Int))) = true ∧ widthSum ((List.range j).map fun i => (d i, (4 : Int))) = 4 * j
  | 0 => ⟨rfl, rfl⟩
  | j + 1 => by
    have ih := fours d j
    rw [List.range_succ, List.map_append, widths_append, widthSum_append, ih.1, ih.2]
    exact ⟨rfl, by show 4 * j + 4 = 4 * (j + 1); omega⟩
theorem inode_widths (a0 a1 a2 a3 a4 a5 : Int) (d : Nat → Int) : widths (inodePs a0 a1 a2 a3 d a4 a5) = true ∧ widthSum (inodePs a0 a1 a2 a3 d a4 a5) = 72 := by
  have h := fours d 12
  unfold inodePs inoPs
  rw [widths_append, widths_append, widths_append, widthSum_append, widthSum_append, widthSum_append, h.1, h.2]
  exact ⟨rfl, rfl⟩
theorem inoPs_length (a0 a1 a2 a3 : Int) (d : Nat → Int) (j : Nat) : (inoPs a0 a1 a2 a3 d j).length = 4 + j := by simp [inoPs]; omega
end Go.Proofs.YtdngoicpcocnnaaGreatDoor
