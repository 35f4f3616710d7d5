/- strings.Repeat and strings.Clone: the shelf's contracts, laid at the seat. · A device in plain words: what is kept, what waits, the fuse, the power, the counts; and how it lies in memory. · plate's has, Held and Read, at a device that lies in memory. · plate's Arm, Spoil, Lay and the numbers that a device tells. -/
import Derived.Test.YtbmjablmmlnieaaGreatDoorMg04
import Derived.Shelf.Strings.Repeat
import Derived.Deep.RegionWith
namespace Go.Proofs.YtbmjablmmlnieaaGreatDoor
set_option maxRecDepth 20000
open Go.Shelf Go.RowKit

def pl_lays105_ren : Go.Shelf.Ren := ⟨fun | 105 => 26 | 212 => 53 | 99 => 54 | 165 => 55 | 166 => 56 | 170 => 57 | 169 => 58 | 263 => 87 | 264 => 88 | 206 => 89 | 240 => 90 | 241 => 91 | 276 => 117 | 277 => 118 | n => n, fun | 9 => 9 | 3 => 3 | 4 => 4 | 20 => 20 | 0 => 0 | 46 => 117 | 109 => 118 | 5 => 5 | 72 => 123 | 76 => 125 | 51 => 163 | 146 => 164 | 53 => 166 | 148 => 167 | 70 => 121 | 37 => 92 | 75 => 99 | 127 => 169 | 164 => 195 | 80 => 128 | n => n, fun | n => n⟩
theorem pl_lays105 : Go.Proofs.Lays.n105 Tryz.prog pl_lays105_ren := {
  mixed := by kernel_rfl
  f99 := Tryz.func54.trans (congrArg some (by kernel_rfl))
  f105 := Tryz.func26.trans (congrArg some (by kernel_rfl))
  f165 := Tryz.func55.trans (congrArg some (by kernel_rfl))
  f166 := Tryz.func56.trans (congrArg some (by kernel_rfl))
  f169 := Tryz.func58.trans (congrArg some (by kernel_rfl))
  f170 := Tryz.func57.trans (congrArg some (by kernel_rfl))
  f206 := Tryz.func89.trans (congrArg some (by kernel_rfl))
  f212 := Tryz.func53.trans (congrArg some (by kernel_rfl))
  f240 := Tryz.func90.trans (congrArg some (by kernel_rfl))
  f241 := Tryz.func91.trans (congrArg some (by kernel_rfl))
  f263 := Tryz.func87.trans (congrArg some (by kernel_rfl))
  f264 := Tryz.func88.trans (congrArg some (by kernel_rfl))
  f276 := Tryz.func117.trans (congrArg some (by kernel_rfl))
  f277 := Tryz.func118.trans (congrArg some (by kernel_rfl))
  t0 := Tryz.underlying0
  a0 := Tryz.isAgg0
  z0 := Tryz.sizeOf0
  v0 := Tryz.zeroValue0
  t3 := Tryz.underlying3
  a3 := Tryz.isAgg3
  z3 := Tryz.sizeOf3
  v3 := Tryz.zeroValue3
  t4 := Tryz.underlying4
  a4 := Tryz.isAgg4
  z4 := Tryz.sizeOf4
  v4 := Tryz.zeroValue4
  t5 := Tryz.underlying5
  a5 := Tryz.isAgg5
  z5 := Tryz.sizeOf5
  v5 := Tryz.zeroValue5
  t9 := Tryz.underlying9
  a9 := Tryz.isAgg9
  z9 := Tryz.sizeOf9
  v9 := Tryz.zeroValue9
  t20 := Tryz.underlying20
  a20 := Tryz.isAgg20
  z20 := Tryz.sizeOf20
  v20 := Tryz.zeroValue20
  t37 := Tryz.underlying92
  a37 := Tryz.isAgg92
  z37 := Tryz.sizeOf92
  v37 := Tryz.zeroValue92
  t46 := Tryz.underlying117
  a46 := Tryz.isAgg117
  z46 := Tryz.sizeOf117
  v46 := Tryz.zeroValue117
  t51 := Tryz.underlying163
  a51 := Tryz.isAgg163
  z51 := Tryz.sizeOf163
  v51 := Tryz.zeroValue163
  t53 := Tryz.underlying166
  a53 := Tryz.isAgg166
  z53 := Tryz.sizeOf166
  v53 := Tryz.zeroValue166
  t70 := Tryz.underlying121
  a70 := Tryz.isAgg121
  z70 := Tryz.sizeOf121
  v70 := Tryz.zeroValue121
  t72 := Tryz.underlying123
  a72 := Tryz.isAgg123
  z72 := Tryz.sizeOf123
  v72 := Tryz.zeroValue123
  t75 := Tryz.underlying99
  a75 := Tryz.isAgg99
  z75 := Tryz.sizeOf99
  v75 := Tryz.zeroValue99
  t76 := Tryz.underlying125
  a76 := Tryz.isAgg125
  z76 := Tryz.sizeOf125
  v76 := Tryz.zeroValue125
  t109 := Tryz.underlying118
  a109 := Tryz.isAgg118
  z109 := Tryz.sizeOf118
  v109 := Tryz.zeroValue118
  t127 := Tryz.underlying169
  a127 := Tryz.isAgg169
  z127 := Tryz.sizeOf169
  v127 := Tryz.zeroValue169
  t146 := Tryz.underlying164
  a146 := Tryz.isAgg164
  z146 := Tryz.sizeOf164
  v146 := Tryz.zeroValue164
  t148 := Tryz.underlying167
  a148 := Tryz.isAgg167
  z148 := Tryz.sizeOf167
  v148 := Tryz.zeroValue167
  t164 := Tryz.underlying195
  a164 := Tryz.isAgg195
  z164 := Tryz.sizeOf195
  v164 := Tryz.zeroValue195 }
theorem pl_Builder_Extra_105 : Builder.Extra Tryz.prog pl_lays105_ren := {
  sizeBuilder := by kernel_rfl
  liesBuilder := by kernel_rfl
  t5 := Tryz.underlying5
  a5 := Tryz.isAgg5
  z5 := Tryz.sizeOf5
  v5 := Tryz.zeroValue5
  infoByte := by kernel_rfl
  cellsByte := by kernel_rfl
  sizeByte := by kernel_rfl
  neB5 := by decide }
/-- A text of one byte, so many times. -/
def fillS (v n : Nat) : ByteArray := strOfNums ((List.replicate n v).map fun (x : Nat) => (x : Int))
theorem fillS_size (v n : Nat) : (fillS v n).size = n := by simp [fillS, strOfNums_size]
set_option maxRecDepth 100000 in
theorem blank_eq : (⟨(Lib.repeatL (⟨#[0]⟩ : ByteArray).data.toList 64).toArray⟩ : ByteArray) = fillS 0 64 := by rfl
theorem repeat_blank (w : World) :
    Calls Tryz.prog 26 #[.string ⟨#[0]⟩, .int .i64 64] w fun e w' => e = .returned (.string (fillS 0 64)) ∧ Below w.heap.size w w' := by
  have h := Any.strings_Repeat pl_lays105 pl_Builder_Extra_105 ⟨#[0]⟩ 64 w (by decide) (by decide)
  rw [blank_eq] at h
  exact h
end Go.Proofs.YtbmjablmmlnieaaGreatDoor

namespace Go.Proofs.YtbmjablmmlnieaaGreatDoor
set_option maxRecDepth 20000
open Go.RowKit

structure PS where
  kept : List ByteArray
  wait : List (Nat × ByteArray)
  fuse : Int
  up : Bool
  reads : Int
  writes : Int

/-- The place behind the last write of a sector, and its text (the last one first). -/
def lastR : List (Nat × ByteArray) → Nat → Nat
  | [], _ => 0
  | (a, _) :: t, i => if a = i then t.length + 1 else lastR t i
def textR : List (Nat × ByteArray) → Nat → Option ByteArray
  | [], _ => none
  | (a, s) :: t, i => if a = i then some s else textR t i
def lastOf (l : List (Nat × ByteArray)) (i : Nat) : Nat := lastR l.reverse i
def textOf (l : List (Nat × ByteArray)) (i : Nat) : Option ByteArray := textR l.reverse i
theorem lastOf_nil (i : Nat) : lastOf [] i = 0 := rfl
theorem lastOf_snoc (l : List (Nat × ByteArray)) (a : Nat) (s : ByteArray) (i : Nat) : lastOf (l ++ [(a, s)]) i = if a = i then l.length + 1 else lastOf l i := by simp [lastOf, lastR]
theorem textOf_snoc (l : List (Nat × ByteArray)) (a : Nat) (s : ByteArray) (i : Nat) : textOf (l ++ [(a, s)]) i = if a = i then some s else textOf l i := by simp [textOf, textR]
theorem lastR_le (i : Nat) : ∀ r : List (Nat × ByteArray), lastR r i ≤ r.length
  | [] => Nat.le_refl _
  | (a, s) :: t => by
    have := lastR_le i t
    simp only [lastR, List.length_cons]
    split <;> omega
theorem lastOf_le (l : List (Nat × ByteArray)) (i : Nat) : lastOf l i ≤ l.length := by simpa [lastOf] using lastR_le i l.reverse
theorem lastR_zero (i : Nat) : ∀ r : List (Nat × ByteArray), lastR r i = 0 → textR r i = none
  | [], _ => rfl
  | (a, s) :: t, h => by
    simp only [lastR] at h
    simp only [textR]
    split
    · rename_i e; rw [if_pos e] at h; omega
    · rename_i e; rw [if_neg e] at h; exact lastR_zero i t h
theorem lastOf_zero {l : List (Nat × ByteArray)} {i : Nat} (h : lastOf l i = 0) : textOf l i = none := lastR_zero i _ h
theorem lastR_text (i k : Nat) : ∀ r : List (Nat × ByteArray), lastR r i = k + 1 → ∃ s, r.reverse[k]? = some (i, s) ∧ textR r i = some s
  | [], h => by simp [lastR] at h
  | (a, s) :: t, h => by
    simp only [lastR] at h
    simp only [textR]
    split
    · rename_i e
      rw [if_pos e] at h
      obtain rfl : k = t.length := by omega
      exact ⟨s, by rw [List.reverse_cons, List.getElem?_append_right (by simp)]; simp [e], rfl⟩
    · rename_i e
      rw [if_neg e] at h
      obtain ⟨s', h1, h2⟩ := lastR_text i k t h
      exact ⟨s', by rw [List.reverse_cons, List.getElem?_append_left (List.getElem?_eq_some_iff.1 h1).1]; exact h1, h2⟩
theorem lastOf_text {l : List (Nat × ByteArray)} {i k : Nat} (h : lastOf l i = k + 1) : ∃ s, l[k]? = some (i, s) ∧ textOf l i = some s := by
  obtain ⟨s, h1, h2⟩ := lastR_text i k _ h
  exact ⟨s, by simpa using h1, h2⟩

/-- The waiting writes as cells. -/
def waitC (l : List (Nat × ByteArray)) : List Value := l.flatMap fun p => [.int .i64 (p.1 : Nat), .string p.2]
theorem waitC_length (l : List (Nat × ByteArray)) : (waitC l).length = l.length * 2 := by
  induction l with
  | nil => rfl
  | cons p t ih => rw [waitC, List.flatMap_cons, List.length_append, ← waitC, ih]; simp; omega
theorem waitC_snoc (l : List (Nat × ByteArray)) (p : Nat × ByteArray) : waitC (l ++ [p]) = waitC l ++ [.int .i64 (p.1 : Nat), .string p.2] := by simp [waitC]
theorem waitC_get : ∀ (l : List (Nat × ByteArray)) (k a : Nat) (s : ByteArray), l[k]? = some (a, s) → (waitC l)[k * 2]? = some (.int .i64 (a : Nat)) ∧ (waitC l)[k * 2 + 1]? = some (.string s)
  | [], k, a, s, h => by simp at h
  | p :: t, 0, a, s, h => by
    simp at h
    subst h
    exact ⟨rfl, rfl⟩
  | p :: t, k + 1, a, s, h => by
    have := waitC_get t k a s (by simpa using h)
    rw [show waitC (p :: t) = .int .i64 (p.1 : Nat) :: .string p.2 :: waitC t from rfl, show (k + 1) * 2 = k * 2 + 1 + 1 by omega, show k * 2 + 1 + 1 + 1 = (k * 2 + 1) + 1 + 1 by omega]
    simpa using this

def plateC (K N n : Nat) (wv : Value) (S : PS) : List Value := [.slice (some ⟨K, 0, none⟩) n n, wv, .slice (some ⟨N, 0, none⟩) n n, .int .i64 S.fuse, .bool S.up, .int .i64 S.reads, .int .i64 S.writes]

structure PlateAt (w : World) (F : Nat → Prop) (B K N : Nat) (wv : Value) (S : PS) : Prop where
  row : Row w B 68 (plateC K N S.kept.length wv S)
  kept : Row w K 9 (S.kept.map Value.string)
  new : Row w N 3 (rowF S.kept.length fun i => .int .i64 (lastOf S.wait i : Nat))
  wait : w.ownsRow 0 153 2 wv S.wait.length (waitC S.wait)
  fB : F B
  fK : F K
  fN : F N
  fW : ∀ g, wv.ownBlock = some g → F g
  bk : B ≠ K
  bn : B ≠ N
  kn : K ≠ N
  wB : wv.ownBlock ≠ some B
  wK : wv.ownBlock ≠ some K
  wN : wv.ownBlock ≠ some N
  most : S.kept.length ≤ 32768
  ats : ∀ p ∈ S.wait, p.1 < S.kept.length ∧ p.2.size = 64
  texts : ∀ s ∈ S.kept, s.size = 0 ∨ s.size = 64
  fuse : -1 ≤ S.fuse ∧ S.fuse < 9223372036854775808
/-- A device in the blocks F, its head in block B. -/
def Plate (w : World) (F : Nat → Prop) (B : Nat) (S : PS) : Prop := ∃ K N wv, PlateAt w F B K N wv S

theorem PlateAt.keep {w w' : World} {F : Nat → Prop} {B K N : Nat} {wv : Value} {S : PS} (h : PlateAt w F B K N wv S) (hk : ∀ k, k < w.heap.size → F k → w'.heap[k]? = w.heap[k]?) : PlateAt w' F B K N wv S :=
  { h with
    row := (hk B h.row.lt h.fB).trans h.row
    kept := (hk K h.kept.lt h.fK).trans h.kept
    new := (hk N h.new.lt h.fN).trans h.new
    wait := owns_keep h.wait fun g hg => hk g (owns_lt h.wait g hg) (h.fW g hg) }
theorem PlateAt.mono {w : World} {F F' : Nat → Prop} {B K N : Nat} {wv : Value} {S : PS} (h : PlateAt w F B K N wv S) (hF : ∀ k, k < w.heap.size → F k → F' k) : PlateAt w F' B K N wv S :=
  { h with
    fB := hF _ h.row.lt h.fB
    fK := hF _ h.kept.lt h.fK
    fN := hF _ h.new.lt h.fN
    fW := fun g hg => hF g (owns_lt h.wait g hg) (h.fW g hg) }
theorem Plate.keep {w w' : World} {F : Nat → Prop} {B : Nat} {S : PS} (h : Plate w F B S) (hk : ∀ k, k < w.heap.size → F k → w'.heap[k]? = w.heap[k]?) : Plate w' F B S := by
  obtain ⟨K, N, wv, h⟩ := h
  exact ⟨K, N, wv, h.keep hk⟩
theorem Plate.mono {w : World} {F F' : Nat → Prop} {B : Nat} {S : PS} (h : Plate w F B S) (hF : ∀ k, k < w.heap.size → F k → F' k) : Plate w F' B S := by
  obtain ⟨K, N, wv, h⟩ := h
  exact ⟨K, N, wv, h.mono hF⟩
theorem Plate.below {w w' : World} {F : Nat → Prop} {B : Nat} {S : PS} (h : Plate w F B S) (hb : Below w.heap.size w w') : Plate w' F B S := h.keep fun k hk _ => hb.block k hk
theorem Plate.lt {w : World} {F : Nat → Prop} {B : Nat} {S : PS} (h : Plate w F B S) : B < w.heap.size := by
  obtain ⟨K, N, wv, h⟩ := h
  exact h.row.lt

/-- The cells of a device. -/
theorem PlateAt.c0 {w : World} {F : Nat → Prop} {B K N : Nat} {wv : Value} {S : PS} (h : PlateAt w F B K N wv S) : w.cell? ⟨B, 0, none⟩ = some (.slice (some ⟨K, 0, none⟩) S.kept.length S.kept.length) := h.row.cell 0
theorem PlateAt.c1 {w : World} {F : Nat → Prop} {B K N : Nat} {wv : Value} {S : PS} (h : PlateAt w F B K N wv S) : w.cell? ⟨B, 1, none⟩ = some wv := h.row.cell 1
theorem PlateAt.c2 {w : World} {F : Nat → Prop} {B K N : Nat} {wv : Value} {S : PS} (h : PlateAt w F B K N wv S) : w.cell? ⟨B, 2, none⟩ = some (.slice (some ⟨N, 0, none⟩) S.kept.length S.kept.length) := h.row.cell 2
theorem PlateAt.c3 {w : World} {F : Nat → Prop} {B K N : Nat} {wv : Value} {S : PS} (h : PlateAt w F B K N wv S) : w.cell? ⟨B, 3, none⟩ = some (.int .i64 S.fuse) := h.row.cell 3
theorem PlateAt.c4 {w : World} {F : Nat → Prop} {B K N : Nat} {wv : Value} {S : PS} (h : PlateAt w F B K N wv S) : w.cell? ⟨B, 4, none⟩ = some (.bool S.up) := h.row.cell 4
theorem PlateAt.c5 {w : World} {F : Nat → Prop} {B K N : Nat} {wv : Value} {S : PS} (h : PlateAt w F B K N wv S) : w.cell? ⟨B, 5, none⟩ = some (.int .i64 S.reads) := h.row.cell 5
theorem PlateAt.c6 {w : World} {F : Nat → Prop} {B K N : Nat} {wv : Value} {S : PS} (h : PlateAt w F B K N wv S) : w.cell? ⟨B, 6, none⟩ = some (.int .i64 S.writes) := h.row.cell 6
theorem PlateAt.cK {w : World} {F : Nat → Prop} {B K N : Nat} {wv : Value} {S : PS} (h : PlateAt w F B K N wv S) (i : Nat) (hi : i < S.kept.length) : w.cell? ⟨K, i, none⟩ = some (.string S.kept[i]) := by
  rw [h.kept.cell, List.getElem?_map, List.getElem?_eq_getElem hi]; rfl
theorem PlateAt.cN {w : World} {F : Nat → Prop} {B K N : Nat} {wv : Value} {S : PS} (h : PlateAt w F B K N wv S) (i : Nat) (hi : i < S.kept.length) : w.cell? ⟨N, i, none⟩ = some (.int .i64 (lastOf S.wait i : Nat)) := h.new.cellF i hi
/-- A number, or the power, of a device written anew. -/
theorem PlateAt.setFuse {w : World} {F : Nat → Prop} {B K N : Nat} {wv : Value} {S : PS} (h : PlateAt w F B K N wv S) (x : Int) (hx : -1 ≤ x ∧ x < 9223372036854775808) : PlateAt (w.setCell ⟨B, 3, none⟩ (.int .i64 x)) F B K N wv { S with fuse := x } :=
  { h with row := h.row.setL 3 _, kept := h.kept.off h.bk.symm _ _, new := h.new.off h.bn.symm _ _, wait := owns_off h.wait h.wB _ _, fuse := hx }
theorem PlateAt.setUp {w : World} {F : Nat → Prop} {B K N : Nat} {wv : Value} {S : PS} (h : PlateAt w F B K N wv S) (x : Bool) : PlateAt (w.setCell ⟨B, 4, none⟩ (.bool x)) F B K N wv { S with up := x } :=
  { h with row := h.row.setL 4 _, kept := h.kept.off h.bk.symm _ _, new := h.new.off h.bn.symm _ _, wait := owns_off h.wait h.wB _ _ }
theorem PlateAt.setReads {w : World} {F : Nat → Prop} {B K N : Nat} {wv : Value} {S : PS} (h : PlateAt w F B K N wv S) (x : Int) : PlateAt (w.setCell ⟨B, 5, none⟩ (.int .i64 x)) F B K N wv { S with reads := x } :=
  { h with row := h.row.setL 5 _, kept := h.kept.off h.bk.symm _ _, new := h.new.off h.bn.symm _ _, wait := owns_off h.wait h.wB _ _ }
theorem PlateAt.setWrites {w : World} {F : Nat → Prop} {B K N : Nat} {wv : Value} {S : PS} (h : PlateAt w F B K N wv S) (x : Int) : PlateAt (w.setCell ⟨B, 6, none⟩ (.int .i64 x)) F B K N wv { S with writes := x } :=
  { h with row := h.row.setL 6 _, kept := h.kept.off h.bk.symm _ _, new := h.new.off h.bn.symm _ _, wait := owns_off h.wait h.wB _ _ }
/-- What is kept of a sector written anew. -/
theorem PlateAt.setKept {w : World} {F : Nat → Prop} {B K N : Nat} {wv : Value} {S : PS} (h : PlateAt w F B K N wv S) (i : Nat) (s : ByteArray) (hs : s.size = 0 ∨ s.size = 64) : PlateAt (w.setCell ⟨K, i, none⟩ (.string s)) F B K N wv { S with kept := S.kept.set i s } := by
  have hl : (S.kept.set i s).length = S.kept.length := List.length_set
  refine { h with row := ?_, kept := ?_, new := ?_, wait := owns_off h.wait h.wK _ _, most := by show (S.kept.set i s).length ≤ _; rw [hl]; exact h.most, ats := ?_, texts := ?_ }
  · show Row _ B _ (plateC K N (S.kept.set i s).length wv _)
    rw [hl]
    exact h.row.off h.bk _ _
  · have := h.kept.setL i (.string s)
    rw [← List.map_set] at this
    exact this
  · show Row _ N _ (rowF (S.kept.set i s).length _)
    rw [hl]
    exact h.new.off h.kn.symm _ _
  · show ∀ p ∈ S.wait, p.1 < (S.kept.set i s).length ∧ p.2.size = 64
    rw [hl]
    exact h.ats
  · intro x hx
    rcases List.mem_or_eq_of_mem_set hx with hx | rfl
    · exact h.texts x hx
    · exact hs
end Go.Proofs.YtbmjablmmlnieaaGreatDoor

namespace Go.Proofs.YtbmjablmmlnieaaGreatDoor
set_option maxRecDepth 20000
open Go.RowKit

/-- Is there such a sector; what is told of one. -/
def hasB (S : PS) (at_ : Int) : Bool := decide (0 ≤ at_ ∧ at_ < (S.kept.length : Int))
def keptS (S : PS) (at_ : Int) : ByteArray := S.kept.getD at_.toNat ByteArray.empty
def heldS (S : PS) (at_ : Int) : ByteArray := if hasB S at_ = true then keptS S at_ else ByteArray.empty
def heldE (S : PS) (at_ : Int) : Int := if hasB S at_ = true then (if (keptS S at_).size = 0 then 21 else 0) else 2
def readS (S : PS) (at_ : Int) : ByteArray := if S.up = true then (if hasB S at_ = true then (textOf S.wait at_.toNat).getD (heldS S at_) else ByteArray.empty) else ByteArray.empty
def readE (S : PS) (at_ : Int) : Int := if S.up = true then (if hasB S at_ = true then (if (textOf S.wait at_.toNat).isSome = true then 0 else heldE S at_) else 2) else 20
def readP (S : PS) (at_ : Int) : PS := if S.up = true then (if hasB S at_ = true then { S with reads := wrap64 (S.reads + 1) } else S) else S

theorem hasB_true {S : PS} {at_ : Int} (h : hasB S at_ = true) : 0 ≤ at_ ∧ at_ < (S.kept.length : Int) := by simpa [hasB] using h
theorem hasB_false {S : PS} {at_ : Int} (h : hasB S at_ = false) : ¬ (0 ≤ at_ ∧ at_ < (S.kept.length : Int)) := by simpa [hasB] using h

theorem size_of_toList {s : ByteArray} (h : s.toList.isEmpty = true) : s.size = 0 := by
  rw [ByteArray.toList_eq] at h
  have h2 : s.data.toList = [] := List.isEmpty_iff.1 h
  rw [Lib.size_eq, h2]; rfl

set_option maxHeartbeats 400000 in
theorem has_any (B K n : Nat) (at_ : Int) (S : PS) (hn : n = S.kept.length) (w : World) (c0 : w.cell? ⟨B, 0, none⟩ = some (.slice (some ⟨K, 0, none⟩) n n)) :
    Calls Tryz.prog 128 #[.pointer (some ⟨B, 0, none⟩), .int .i64 at_] w fun e w' => e = .returned (.bool (hasB S at_)) ∧ w' = w := by
  subst hn
  by_cases h0 : 0 ≤ at_
  · by_cases h1 : at_ < (S.kept.length : Int)
    · have hv : hasB S at_ = true := by simp [hasB, h0, h1]
      go_enter Tryz.func128, Tryz.ntmps128
      go_wp2
      go_ret
      exact ⟨by rw [hv]; rfl, rfl⟩
    · have hv : hasB S at_ = false := by simp [hasB, h0, h1]
      go_enter Tryz.func128, Tryz.ntmps128
      go_wp2
      go_ret
      exact ⟨rfl, rfl⟩
  · have hv : hasB S at_ = false := by simp [hasB, h0]
    go_enter Tryz.func128, Tryz.ntmps128
    go_wp2
    go_ret
    exact ⟨rfl, rfl⟩

set_option maxHeartbeats 400000 in
theorem held_any (B : Nat) (F : Nat → Prop) (S : PS) (at_ : Int) (w : World) (hp : Plate w F B S) :
    Calls Tryz.prog 129 #[.pointer (some ⟨B, 0, none⟩), .int .i64 at_] w fun e w' => e = .returned (.tuple #[.string (heldS S at_), .int .i64 (heldE S at_)]) ∧ w' = w := by
  obtain ⟨K, N, wv, hp⟩ := hp
  have c0 := hp.c0
  have hhas := has_any B K _ at_ S rfl w c0
  cases hb : hasB S at_
  · rw [hb] at hhas
    have e1 : heldS S at_ = ByteArray.empty := by simp [heldS, hb]
    have e2 : heldE S at_ = 2 := by simp [heldE, hb]
    rw [e1, e2]
    clear hb hp
    go_enter Tryz.func129, Tryz.ntmps129
    go_wp2_with fail
    refine hhas.mono ?_
    rintro e w1 ⟨rfl, rfl⟩
    go_wp2
    go_ret2
    exact ⟨rfl, rfl⟩
  · rw [hb] at hhas
    obtain ⟨h0, h1⟩ := hasB_true hb
    obtain ⟨i, rfl⟩ : ∃ i : Nat, at_ = i := ⟨at_.toNat, by omega⟩
    have hi : i < S.kept.length := by omega
    have ck := hp.cK i hi
    have ek : keptS S i = S.kept[i] := by simp [keptS, hi]
    obtain ⟨s, hs⟩ : ∃ s, s = S.kept[i] := ⟨_, rfl⟩
    rw [← hs] at ck ek
    have e1 : heldS S i = s := by simp [heldS, hb, ek]
    have e2 : heldE S i = if s.size = 0 then 21 else 0 := by simp [heldE, hb, ek]
    rw [e1, e2]
    clear hb hp e1 e2 ek hs
    by_cases hz : s.size = 0
    · obtain rfl : s = ByteArray.empty := by simpa using hz
      go_enter Tryz.func129, Tryz.ntmps129
      go_wp2_with fail
      refine hhas.mono ?_
      rintro e w1 ⟨rfl, rfl⟩
      go_wp2
      go_ret2
      exact ⟨rfl, rfl⟩
    · have hs1 : s.toList.isEmpty = false := by
        cases hx : s.toList.isEmpty
        · rfl
        · exact absurd (size_of_toList hx) hz
      rw [if_neg hz]
      clear hz
      go_enter Tryz.func129, Tryz.ntmps129
      go_wp2_with fail
      refine hhas.mono ?_
      rintro e w1 ⟨rfl, rfl⟩
      go_wp2
      go_ret2
      exact ⟨rfl, rfl⟩

set_option maxHeartbeats 1000000 in
theorem read_any (B : Nat) (F : Nat → Prop) (S : PS) (at_ : Int) (w : World) (hp : Plate w F B S) (hw : S.wait.length ≤ 1000000) :
    Calls Tryz.prog 114 #[.pointer (some ⟨B, 0, none⟩), .int .i64 at_] w fun e w' => e = .returned (.tuple #[.string (readS S at_), .int .i64 (readE S at_)]) ∧ Plate w' F B (readP S at_) ∧ Touch F w w' := by
  obtain ⟨K, N, wv, hp⟩ := hp
  have c0 := hp.c0
  have c4 := hp.c4
  cases hu : S.up
  · rw [hu] at c4
    have HF : Hid (readS S at_ = ByteArray.empty ∧ readE S at_ = 20 ∧ Plate w F B (readP S at_)) := ⟨by simp [readS, hu], by simp [readE, hu], by simp only [readP, hu]; exact ⟨K, N, wv, hp⟩⟩
    clear hp hu c0
    go_enter Tryz.func114, Tryz.ntmps114
    go_wp2
    go_ret2
    exact ⟨by rw [HF.out.1, HF.out.2.1]; rfl, HF.out.2.2, Touch.refl _ _⟩
  rw [hu] at c4
  have hhas := has_any B K _ at_ S rfl w c0
  cases hb : hasB S at_
  · rw [hb] at hhas
    have HF : Hid (readS S at_ = ByteArray.empty ∧ readE S at_ = 2 ∧ Plate w F B (readP S at_)) := ⟨by simp [readS, hu, hb], by simp [readE, hu, hb], by simp [readP, hu, hb]; exact ⟨K, N, wv, hp⟩⟩
    clear hp hu hb
    go_enter Tryz.func114, Tryz.ntmps114
    go_wp2_with fail
    refine hhas.mono ?_
    rintro e w1 ⟨rfl, rfl⟩
    go_wp2
    go_ret2
    exact ⟨by rw [HF.out.1, HF.out.2.1]; rfl, HF.out.2.2, Touch.refl _ _⟩
  rw [hb] at hhas
  obtain ⟨h0, h1⟩ := hasB_true hb
  obtain ⟨i, rfl⟩ : ∃ i : Nat, at_ = i := ⟨at_.toNat, by omega⟩
  have hi : i < S.kept.length := by omega
  have c5 := hp.c5
  have f5 : w.frozen? ⟨B, 5, none⟩ = false := hp.row.frozen 5
  have hp1 := hp.setReads (wrap64 (S.reads + 1))
  have ht1 : Touch F w (w.setCell ⟨B, 5, none⟩ (.int .i64 (wrap64 (S.reads + 1)))) := (Touch.refl _ _).setCell _ _ _ (.inl hp.fB)
  obtain ⟨w1, hw1⟩ : ∃ w1, w.setCell ⟨B, 5, none⟩ (.int .i64 (wrap64 (S.reads + 1))) = w1 := ⟨_, rfl⟩
  rw [hw1] at hp1 ht1
  have eP : readP S i = { S with reads := wrap64 (S.reads + 1) } := by simp [readP, hu, hb]
  have d2 := hp1.c2
  have dN := hp1.cN i hi
  have d1 := hp1.c1
  cases hl : lastOf S.wait i with
  | zero =>
    simp only [hl] at dN
    have ht : textOf S.wait i = none := lastOf_zero hl
    have eS : readS S i = heldS S i := by simp [readS, hu, hb, ht]
    have eE : readE S i = heldE S i := by simp [readE, hu, hb, ht]
    have hheld := held_any B F _ i w1 ⟨K, N, wv, hp1⟩
    have HF : Hid (readS S i = heldS S i ∧ readE S i = heldE S i ∧ Plate w1 F B (readP S i) ∧ Touch F w w1) := ⟨eS, eE, by rw [eP]; exact ⟨K, N, wv, hp1⟩, ht1⟩
    have e3 : heldS { S with reads := wrap64 (S.reads + 1) } i = heldS S i := rfl
    have e4 : heldE { S with reads := wrap64 (S.reads + 1) } i = heldE S i := rfl
    rw [e3, e4] at hheld
    clear hp hp1 ht1 eS eE eP ht hl hb e3 e4 d1
    go_enter Tryz.func114, Tryz.ntmps114
    go_wp2_with fail
    refine hhas.mono ?_
    rintro e w2 ⟨rfl, rfl⟩
    clear hhas
    go_wp2_with fail
    refine hheld.mono ?_
    rintro e w3 ⟨rfl, rfl⟩
    clear hheld
    go_wp2
    go_ret2
    exact ⟨by rw [HF.out.1, HF.out.2.1]; rfl, HF.out.2.2.1, HF.out.2.2.2⟩
  | succ k =>
    simp only [hl] at dN
    obtain ⟨s, hs, ht⟩ := lastOf_text hl
    have hk : k < S.wait.length := by have := lastOf_le S.wait i; omega
    have eS : readS S i = s := by simp [readS, hu, hb, ht]
    have eE : readE S i = 0 := by simp [readE, hu, hb, ht]
    obtain ⟨g, cap, rfl, hg1, hg2⟩ := owns_form hp1.wait (by show 0 < S.wait.length; omega)
    have dW : w1.cell? ⟨g, k * 2 + 1, none⟩ = some (.string s) := hg2 _ _ (waitC_get S.wait k i s hs).2
    have HF : Hid (readS S i = s ∧ readE S i = 0 ∧ Plate w1 F B (readP S i) ∧ Touch F w w1) := ⟨eS, eE, by rw [eP]; exact ⟨K, N, _, hp1⟩, ht1⟩
    have j1 : (0 : Int) < ((k + 1 : Nat) : Int) := by omega
    have j2 : IntKind.i64.wrap (((k + 1 : Nat) : Int) - 1) = k := by rw [IntKind.wrap_i64]; omega
    have j3 : (k : Int) < ((S.wait.length : Nat) : Int) := by omega
    have d1' : w1.cell? ⟨B, 1, none⟩ = some (.slice (some ⟨g, 0, none⟩) S.wait.length cap) := d1
    clear hp hp1 ht1 eS eE eP ht hl hb hs d1 hg1 hg2
    go_enter Tryz.func114, Tryz.ntmps114
    go_wp2_with fail
    refine hhas.mono ?_
    rintro e w2 ⟨rfl, rfl⟩
    clear hhas
    go_wp2
    go_ret2
    exact ⟨by rw [HF.out.1, HF.out.2.1]; rfl, HF.out.2.2.1, HF.out.2.2.2⟩
end Go.Proofs.YtbmjablmmlnieaaGreatDoor

namespace Go.Proofs.YtbmjablmmlnieaaGreatDoor
set_option maxRecDepth 20000
open Go.RowKit

def armE (S : PS) (n : Int) : Int := if n < 0 then 1 else if S.up = true then 0 else 20
def armP (S : PS) (n : Int) : PS := if n < 0 then S else if S.up = true then { S with fuse := n } else S
def spoilE (S : PS) (at_ : Int) : Int := if hasB S at_ = true then 0 else 2
def spoilP (S : PS) (at_ : Int) : PS := if hasB S at_ = true then { S with kept := S.kept.set at_.toNat ByteArray.empty } else S
def layE (S : PS) (at_ : Int) (s : ByteArray) : Int := if s.size = 64 then (if hasB S at_ = true then 0 else 2) else 1
def layP (S : PS) (at_ : Int) (s : ByteArray) : PS := if s.size = 64 then (if hasB S at_ = true then { S with kept := S.kept.set at_.toNat s } else S) else S

theorem up_any (B : Nat) (F : Nat → Prop) (S : PS) (w : World) (hp : Plate w F B S) :
    Calls Tryz.prog 40 #[.pointer (some ⟨B, 0, none⟩)] w fun e w' => e = .returned (.bool S.up) ∧ w' = w := by
  obtain ⟨K, N, wv, hp⟩ := hp
  have c4 := hp.c4
  clear hp
  cases hu : S.up <;> rw [hu] at c4 <;> clear hu
  · go_enter Tryz.func40, Tryz.ntmps40
    go_wp2
    go_ret
    exact ⟨rfl, rfl⟩
  · go_enter Tryz.func40, Tryz.ntmps40
    go_wp2
    go_ret
    exact ⟨rfl, rfl⟩

theorem sectors_any (B : Nat) (F : Nat → Prop) (S : PS) (w : World) (hp : Plate w F B S) :
    Calls Tryz.prog 60 #[.pointer (some ⟨B, 0, none⟩)] w fun e w' => e = .returned (.int .i64 (S.kept.length : Nat)) ∧ w' = w := by
  obtain ⟨K, N, wv, hp⟩ := hp
  have c4 := hp.c0
  clear hp
  go_enter Tryz.func60, Tryz.ntmps60
  go_wp2
  go_ret
  exact ⟨rfl, rfl⟩

theorem owns_len {w : World} {e : TypeId} {z n : Nat} {v : Value} {xs : List Value} (h : w.ownsRow 0 e z v n xs) : (∃ cap, v = .slice none n cap) ∨ ∃ g cap, v = .slice (some ⟨g, 0, none⟩) n cap := by
  rcases h.2 with ⟨rfl, rfl⟩ | ⟨g, cap, cur, rfl, _⟩
  · exact .inl ⟨0, rfl⟩
  · exact .inr ⟨g, cap, rfl⟩

set_option maxHeartbeats 400000 in
theorem arm_any (B : Nat) (F : Nat → Prop) (S : PS) (n : Int) (hn : n < 9223372036854775808) (w : World) (hp : Plate w F B S) :
    Calls Tryz.prog 20 #[.pointer (some ⟨B, 0, none⟩), .int .i64 n] w fun e w' => e = .returned (.int .i64 (armE S n)) ∧ Plate w' F B (armP S n) ∧ Touch F w w' := by
  by_cases h0 : n < 0
  · have HF : Hid (armE S n = 1 ∧ Plate w F B (armP S n)) := ⟨by simp [armE, h0], by simp only [armP, h0, if_true]; exact hp⟩
    clear hp
    go_enter Tryz.func20, Tryz.ntmps20
    go_wp2
    go_ret
    exact ⟨by rw [HF.out.1]; rfl, HF.out.2, Touch.refl _ _⟩
  obtain ⟨K, N, wv, hp⟩ := hp
  have c4 := hp.c4
  cases hu : S.up
  · rw [hu] at c4
    have HF : Hid (armE S n = 20 ∧ Plate w F B (armP S n)) := ⟨by simp [armE, h0, hu], by simp [armP, h0, hu]; exact ⟨K, N, wv, hp⟩⟩
    clear hp hu
    go_enter Tryz.func20, Tryz.ntmps20
    go_wp2
    go_ret
    exact ⟨by rw [HF.out.1]; rfl, HF.out.2, Touch.refl _ _⟩
  · rw [hu] at c4
    have c3 := hp.c3
    have f3 : w.frozen? ⟨B, 3, none⟩ = false := hp.row.frozen 3
    obtain ⟨w1, hw1⟩ : ∃ w1, w.setCell ⟨B, 3, none⟩ (.int .i64 n) = w1 := ⟨_, rfl⟩
    have HF : Hid (armE S n = 0 ∧ Plate w1 F B (armP S n) ∧ Touch F w w1) := ⟨by simp [armE, h0, hu], by rw [show armP S n = { S with fuse := n } by simp only [armP, h0, if_false, hu, if_true]]; exact ⟨K, N, wv, by rw [← hw1]; exact hp.setFuse n ⟨by omega, hn⟩⟩, by rw [← hw1]; exact (Touch.refl _ _).setCell _ _ _ (.inl hp.fB)⟩
    clear hp hu
    go_enter Tryz.func20, Tryz.ntmps20
    go_wp2
    go_ret
    exact ⟨by rw [HF.out.1]; rfl, HF.out.2.1, HF.out.2.2⟩

end Go.Proofs.YtbmjablmmlnieaaGreatDoor
