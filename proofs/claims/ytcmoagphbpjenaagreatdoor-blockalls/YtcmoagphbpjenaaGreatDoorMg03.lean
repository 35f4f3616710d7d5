/- A device in plain words: what is kept, what waits, the fuse, the power, the counts; and how it lies in memory. -/
import Derived.Test.YtcmoagphbpjenaaGreatDoorMg01
import Derived.Test.YtcmoagphbpjenaaGreatDoorMg02
namespace Go.Proofs.YtcmoagphbpjenaaGreatDoor
set_option maxRecDepth 20000
open Go.RowKit

structure PS where
  kept : List ByteArray
  wait : List (Nat × ByteArray)
  fuse : Int
  up : Bool
  reads : Int
  writes : Int

/-- The place behind the last write of a sector, and its text (the last one first). -/
def lastR : List (Nat × ByteArray) → Nat → Nat
  | [], _ => 0
  | (a, _) :: t, i => if a = i then t.length + 1 else lastR t i
def textR : List (Nat × ByteArray) → Nat → Option ByteArray
  | [], _ => none
  | (a, s) :: t, i => if a = i then some s else textR t i
def lastOf (l : List (Nat × ByteArray)) (i : Nat) : Nat := lastR l.reverse i
def textOf (l : List (Nat × ByteArray)) (i : Nat) : Option ByteArray := textR l.reverse i
theorem lastOf_nil (i : Nat) : lastOf [] i = 0 := rfl
theorem lastOf_snoc (l : List (Nat × ByteArray)) (a : Nat) (s : ByteArray) (i : Nat) : lastOf (l ++ [(a, s)]) i = if a = i then l.length + 1 else lastOf l i := by simp [lastOf, lastR]
theorem textOf_snoc (l : List (Nat × ByteArray)) (a : Nat) (s : ByteArray) (i : Nat) : textOf (l ++ [(a, s)]) i = if a = i then some s else textOf l i := by simp [textOf, textR]
theorem lastR_le (i : Nat) : ∀ r : List (Nat × ByteArray), lastR r i ≤ r.length
  | [] => Nat.le_refl _
  | (a, s) :: t => by
    have := lastR_le i t
    simp only [lastR, List.length_cons]
    split <;> omega
theorem lastOf_le (l : List (Nat × ByteArray)) (i : Nat) : lastOf l i ≤ l.length := by simpa [lastOf] using lastR_le i l.reverse
theorem lastR_zero (i : Nat) : ∀ r : List (Nat × ByteArray), lastR r i = 0 → textR r i = none
  | [], _ => rfl
  | (a, s) :: t, h => by
    simp only [lastR] at h
    simp only [textR]
    split
    · rename_i e; rw [if_pos e] at h; omega
    · rename_i e; rw [if_neg e] at h; exact lastR_zero i t h
theorem lastOf_zero {l : List (Nat × ByteArray)} {i : Nat} (h : lastOf l i = 0) : textOf l i = none := lastR_zero i _ h
theorem lastR_text (i k : Nat) : ∀ r : List (Nat × ByteArray), lastR r i = k + 1 → ∃ s, r.reverse[k]? = some (i, s) ∧ textR r i = some s
  | [], h => by simp [lastR] at h
  | (a, s) :: t, h => by
    simp only [lastR] at h
    simp only [textR]
    split
    · rename_i e
      rw [if_pos e] at h
      obtain rfl : k = t.length := by omega
      exact ⟨s, by rw [List.reverse_cons, List.getElem?_append_right (by simp)]; simp [e], rfl⟩
    · rename_i e
      rw [if_neg e] at h
      obtain ⟨s', h1, h2⟩ := lastR_text i k t h
      exact ⟨s', by rw [List.reverse_cons, List.getElem?_append_left (List.getElem?_eq_some_iff.1 h1).1]; exact h1, h2⟩
theorem lastOf_text {l : List (Nat × ByteArray)} {i k : Nat} (h : lastOf l i = k + 1) : ∃ s, l[k]? = some (i, s) ∧ textOf l i = some s := by
  obtain ⟨s, h1, h2⟩ := lastR_text i k _ h
  exact ⟨s, by simpa using h1, h2⟩

/-- The waiting writes as cells. -/
def waitC (l : List (Nat × ByteArray)) : List Value := l.flatMap fun p => [.int .i64 (p.1 : Nat), .string p.2]
theorem waitC_length (l : List (Nat × ByteArray)) : (waitC l).length = l.length * 2 := by
  induction l with
  | nil => rfl
  | cons p t ih => rw [waitC, List.flatMap_cons, List.length_append, ← waitC, ih]; simp; omega
theorem waitC_snoc (l : List (Nat × ByteArray)) (p : Nat × ByteArray) : waitC (l ++ [p]) = waitC l ++ [.int .i64 (p.1 : Nat), .string p.2] := by simp [waitC]
theorem waitC_get : ∀ (l : List (Nat × ByteArray)) (k a : Nat) (s : ByteArray), l[k]? = some (a, s) → (waitC l)[k * 2]? = some (.int .i64 (a : Nat)) ∧ (waitC l)[k * 2 + 1]? = some (.string s)
  | [], k, a, s, h => by simp at h
  | p :: t, 0, a, s, h => by
    simp at h
    subst h
    exact ⟨rfl, rfl⟩
  | p :: t, k + 1, a, s, h => by
    have := waitC_get t k a s (by simpa using h)
    rw [show waitC (p :: t) = .int .i64 (p.1 : Nat) :: .string p.2 :: waitC t from rfl, show (k + 1) * 2 = k * 2 + 1 + 1 by omega, show k * 2 + 1 + 1 + 1 = (k * 2 + 1) + 1 + 1 by omega]
    simpa using this

def plateC (K N n : Nat) (wv : Value) (S : PS) : List Value := [.slice (some ⟨K, 0, none⟩) n n, wv, .slice (some ⟨N, 0, none⟩) n n, .int .i64 S.fuse, .bool S.up, .int .i64 S.reads, .int .i64 S.writes]

structure PlateAt (w : World) (F : Nat → Prop) (B K N : Nat) (wv : Value) (S : PS) : Prop where
  row : Row w B 69 (plateC K N S.kept.length wv S)
  kept : Row w K 9 (S.kept.map Value.string)
  new : Row w N 3 (rowF S.kept.length fun i => .int .i64 (lastOf S.wait i : Nat))
  wait : w.ownsRow 0 72 2 wv S.wait.length (waitC S.wait)
  fB : F B
  fK : F K
  fN : F N
  fW : ∀ g, wv.ownBlock = some g → F g
  bk : B ≠ K
  bn : B ≠ N
  kn : K ≠ N
  wB : wv.ownBlock ≠ some B
  wK : wv.ownBlock ≠ some K
  wN : wv.ownBlock ≠ some N
  most : S.kept.length ≤ 32768
  ats : ∀ p ∈ S.wait, p.1 < S.kept.length ∧ p.2.size = 64
  texts : ∀ s ∈ S.kept, s.size = 0 ∨ s.size = 64
  fuse : -1 ≤ S.fuse ∧ S.fuse < 9223372036854775808
/-- A device in the blocks F, its head in block B. -/
def Plate (w : World) (F : Nat → Prop) (B : Nat) (S : PS) : Prop := ∃ K N wv, PlateAt w F B K N wv S

theorem PlateAt.keep {w w' : World} {F : Nat → Prop} {B K N : Nat} {wv : Value} {S : PS} (h : PlateAt w F B K N wv S) (hk : ∀ k, k < w.heap.size → F k → w'.heap[k]? = w.heap[k]?) : PlateAt w' F B K N wv S :=
  { h with
    row := (hk B h.row.lt h.fB).trans h.row
    kept := (hk K h.kept.lt h.fK).trans h.kept
    new := (hk N h.new.lt h.fN).trans h.new
    wait := owns_keep h.wait fun g hg => hk g (owns_lt h.wait g hg) (h.fW g hg) }
theorem PlateAt.mono {w : World} {F F' : Nat → Prop} {B K N : Nat} {wv : Value} {S : PS} (h : PlateAt w F B K N wv S) (hF : ∀ k, k < w.heap.size → F k → F' k) : PlateAt w F' B K N wv S :=
  { h with
    fB := hF _ h.row.lt h.fB
    fK := hF _ h.kept.lt h.fK
    fN := hF _ h.new.lt h.fN
    fW := fun g hg => hF g (owns_lt h.wait g hg) (h.fW g hg) }
theorem Plate.keep {w w' : World} {F : Nat → Prop} {B : Nat} {S : PS} (h : Plate w F B S) (hk : ∀ k, k < w.heap.size → F k → w'.heap[k]? = w.heap[k]?) : Plate w' F B S := by
  obtain ⟨K, N, wv, h⟩ := h
  exact ⟨K, N, wv, h.keep hk⟩
theorem Plate.mono {w : World} {F F' : Nat → Prop} {B : Nat} {S : PS} (h : Plate w F B S) (hF : ∀ k, k < w.heap.size → F k → F' k) : Plate w F' B S := by
  obtain ⟨K, N, wv, h⟩ := h
  exact ⟨K, N, wv, h.mono hF⟩
theorem Plate.below {w w' : World} {F : Nat → Prop} {B : Nat} {S : PS} (h : Plate w F B S) (hb : Below w.heap.size w w') : Plate w' F B S := h.keep fun k hk _ => hb.block k hk
theorem Plate.lt {w : World} {F : Nat → Prop} {B : Nat} {S : PS} (h : Plate w F B S) : B < w.heap.size := by
  obtain ⟨K, N, wv, h⟩ := h
  exact h.row.lt

/-- The cells of a device. -/
theorem PlateAt.c0 {w : World} {F : Nat → Prop} {B K N : Nat} {wv : Value} {S : PS} (h : PlateAt w F B K N wv S) : w.cell? ⟨B, 0, none⟩ = some (.slice (some ⟨K, 0, none⟩) S.kept.length S.kept.length) := h.row.cell 0
theorem PlateAt.c1 {w : World} {F : Nat → Prop} {B K N : Nat} {wv : Value} {S : PS} (h : PlateAt w F B K N wv S) : w.cell? ⟨B, 1, none⟩ = some wv := h.row.cell 1
theorem PlateAt.c2 {w : World} {F : Nat → Prop} {B K N : Nat} {wv : Value} {S : PS} (h : PlateAt w F B K N wv S) : w.cell? ⟨B, 2, none⟩ = some (.slice (some ⟨N, 0, none⟩) S.kept.length S.kept.length) := h.row.cell 2
theorem PlateAt.c3 {w : World} {F : Nat → Prop} {B K N : Nat} {wv : Value} {S : PS} (h : PlateAt w F B K N wv S) : w.cell? ⟨B, 3, none⟩ = some (.int .i64 S.fuse) := h.row.cell 3
theorem PlateAt.c4 {w : World} {F : Nat → Prop} {B K N : Nat} {wv : Value} {S : PS} (h : PlateAt w F B K N wv S) : w.cell? ⟨B, 4, none⟩ = some (.bool S.up) := h.row.cell 4
theorem PlateAt.c5 {w : World} {F : Nat → Prop} {B K N : Nat} {wv : Value} {S : PS} (h : PlateAt w F B K N wv S) : w.cell? ⟨B, 5, none⟩ = some (.int .i64 S.reads) := h.row.cell 5
theorem PlateAt.c6 {w : World} {F : Nat → Prop} {B K N : Nat} {wv : Value} {S : PS} (h : PlateAt w F B K N wv S) : w.cell? ⟨B, 6, none⟩ = some (.int .i64 S.writes) := h.row.cell 6
theorem PlateAt.cK {w : World} {F : Nat → Prop} {B K N : Nat} {wv : Value} {S : PS} (h : PlateAt w F B K N wv S) (i : Nat) (hi : i < S.kept.length) : w.cell? ⟨K, i, none⟩ = some (.string S.kept[i]) := by
  rw [h.kept.cell, List.getElem?_map, List.getElem?_eq_getElem hi]; rfl
theorem PlateAt.cN {w : World} {F : Nat → Prop} {B K N : Nat} {wv : Value} {S : PS} (h : PlateAt w F B K N wv S) (i : Nat) (hi : i < S.kept.length) : w.cell? ⟨N, i, none⟩ = some (.int .i64 (lastOf S.wait i : Nat)) := h.new.cellF i hi
/-- A number, or the power, of a device written anew. -/
theorem PlateAt.setFuse {w : World} {F : Nat → Prop} {B K N : Nat} {wv : Value} {S : PS} (h : PlateAt w F B K N wv S) (x : Int) (hx : -1 ≤ x ∧ x < 9223372036854775808) : PlateAt (w.setCell ⟨B, 3, none⟩ (.int .i64 x)) F B K N wv { S with fuse := x } :=
  { h with row := h.row.setL 3 _, kept := h.kept.off h.bk.symm _ _, new := h.new.off h.bn.symm _ _, wait := owns_off h.wait h.wB _ _, fuse := hx }
theorem PlateAt.setUp {w : World} {F : Nat → Prop} {B K N : Nat} {wv : Value} {S : PS} (h : PlateAt w F B K N wv S) (x : Bool) : PlateAt (w.setCell ⟨B, 4, none⟩ (.bool x)) F B K N wv { S with up := x } :=
  { h with row := h.row.setL 4 _, kept := h.kept.off h.bk.symm _ _, new := h.new.off h.bn.symm _ _, wait := owns_off h.wait h.wB _ _ }
theorem PlateAt.setReads {w : World} {F : Nat → Prop} {B K N : Nat} {wv : Value} {S : PS} (h : PlateAt w F B K N wv S) (x : Int) : PlateAt (w.setCell ⟨B, 5, none⟩ (.int .i64 x)) F B K N wv { S with reads := x } :=
  { h with row := h.row.setL 5 _, kept := h.kept.off h.bk.symm _ _, new := h.new.off h.bn.symm _ _, wait := owns_off h.wait h.wB _ _ }
theorem PlateAt.setWrites {w : World} {F : Nat → Prop} {B K N : Nat} {wv : Value} {S : PS} (h : PlateAt w F B K N wv S) (x : Int) : PlateAt (w.setCell ⟨B, 6, none⟩ (.int .i64 x)) F B K N wv { S with writes := x } :=
  { h with row := h.row.setL 6 _, kept := h.kept.off h.bk.symm _ _, new := h.new.off h.bn.symm _ _, wait := owns_off h.wait h.wB _ _ }
/-- What is kept of a sector written anew. -/
theorem PlateAt.setKept {w : World} {F : Nat → Prop} {B K N : Nat} {wv : Value} {S : PS} (h : PlateAt w F B K N wv S) (i : Nat) (s : ByteArray) (hs : s.size = 0 ∨ s.size = 64) : PlateAt (w.setCell ⟨K, i, none⟩ (.string s)) F B K N wv { S with kept := S.kept.set i s } := by
  have hl : (S.kept.set i s).length = S.kept.length := List.length_set
  refine { h with row := ?_, kept := ?_, new := ?_, wait := owns_off h.wait h.wK _ _, most := by show (S.kept.set i s).length ≤ _; rw [hl]; exact h.most, ats := ?_, texts := ?_ }
  · show Row _ B _ (plateC K N (S.kept.set i s).length wv _)
    rw [hl]
    exact h.row.off h.bk _ _
  · have := h.kept.setL i (.string s)
    rw [← List.map_set] at this
    exact this
  · show Row _ N _ (rowF (S.kept.set i s).length _)
    rw [hl]
    exact h.new.off h.kn.symm _ _
  · show ∀ p ∈ S.wait, p.1 < (S.kept.set i s).length ∧ p.2.size = 64
    rw [hl]
    exact h.ats
  · intro x hx
    rcases List.mem_or_eq_of_mem_set hx with hx | rfl
    · exact h.texts x hx
    · exact hs
end Go.Proofs.YtcmoagphbpjenaaGreatDoor
