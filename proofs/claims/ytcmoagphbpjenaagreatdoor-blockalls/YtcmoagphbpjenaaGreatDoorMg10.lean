/- The document's device: how it lies in memory; the same plain words as of plate's. -/
import Derived.Test.YtcmoagphbpjenaaGreatDoorMg09
import Derived.Deep.AppendLies
namespace Go.Proofs.YtcmoagphbpjenaaGreatDoor
set_option maxRecDepth 20000
open Go.RowKit

def refC (kv dv wv : Value) (S : PS) : List Value := [kv, dv, wv, .int .i64 S.fuse, .bool (!S.up), .int .i64 S.reads, .int .i64 S.writes]
/-- A block is not one of an owned slice's. -/
def Apart (v : Value) (b : Nat) : Prop := v.ownBlock ≠ some b
def Apart2 (v u : Value) : Prop := ∀ g, v.ownBlock = some g → u.ownBlock ≠ some g

structure RefAt (w : World) (F : Nat → Prop) (B : Nat) (kv dv wv : Value) (ks : List ByteArray) (ds : List Bool) (S : PS) : Prop where
  row : Row w B 40 (refC kv dv wv S)
  kept : w.ownsRow 0 9 1 kv S.kept.length (ks.map Value.string)
  dumb : w.ownsRow 0 4 1 dv S.kept.length (ds.map Value.bool)
  wait : w.ownsRow 0 74 2 wv S.wait.length (waitC S.wait)
  fB : F B
  fK : ∀ g, kv.ownBlock = some g → F g
  fD : ∀ g, dv.ownBlock = some g → F g
  fW : ∀ g, wv.ownBlock = some g → F g
  kB : Apart kv B
  dB : Apart dv B
  wB : Apart wv B
  kd : Apart2 kv dv
  kw : Apart2 kv wv
  dw : Apart2 dv wv
  most : S.kept.length ≤ 32768
  ats : ∀ p ∈ S.wait, p.1 < S.kept.length ∧ p.2.size = 64
  says : ∀ i, i < S.kept.length → S.kept[i]? = some (if ds.getD i false = true then ByteArray.empty else ks.getD i ByteArray.empty)
  texts : ∀ s ∈ ks, s.size = 64
  fuse : -1 ≤ S.fuse ∧ S.fuse < 9223372036854775808
def RefP (w : World) (F : Nat → Prop) (B : Nat) (S : PS) : Prop := ∃ kv dv wv ks ds, RefAt w F B kv dv wv ks ds S

theorem RefAt.lk {w : World} {F : Nat → Prop} {B : Nat} {kv dv wv : Value} {ks : List ByteArray} {ds : List Bool} {S : PS} (h : RefAt w F B kv dv wv ks ds S) : ks.length = S.kept.length := by simpa using h.kept.1
theorem RefAt.ld {w : World} {F : Nat → Prop} {B : Nat} {kv dv wv : Value} {ks : List ByteArray} {ds : List Bool} {S : PS} (h : RefAt w F B kv dv wv ks ds S) : ds.length = S.kept.length := by simpa using h.dumb.1
theorem RefAt.keep {w w' : World} {F : Nat → Prop} {B : Nat} {kv dv wv : Value} {ks : List ByteArray} {ds : List Bool} {S : PS} (h : RefAt w F B kv dv wv ks ds S) (hk : ∀ k, k < w.heap.size → F k → w'.heap[k]? = w.heap[k]?) : RefAt w' F B kv dv wv ks ds S :=
  { h with
    row := (hk B h.row.lt h.fB).trans h.row
    kept := owns_keep h.kept fun g hg => hk g (owns_lt h.kept g hg) (h.fK g hg)
    dumb := owns_keep h.dumb fun g hg => hk g (owns_lt h.dumb g hg) (h.fD g hg)
    wait := owns_keep h.wait fun g hg => hk g (owns_lt h.wait g hg) (h.fW g hg) }
theorem RefAt.mono {w : World} {F F' : Nat → Prop} {B : Nat} {kv dv wv : Value} {ks : List ByteArray} {ds : List Bool} {S : PS} (h : RefAt w F B kv dv wv ks ds S) (hF : ∀ k, k < w.heap.size → F k → F' k) : RefAt w F' B kv dv wv ks ds S :=
  { h with
    fB := hF _ h.row.lt h.fB
    fK := fun g hg => hF g (owns_lt h.kept g hg) (h.fK g hg)
    fD := fun g hg => hF g (owns_lt h.dumb g hg) (h.fD g hg)
    fW := fun g hg => hF g (owns_lt h.wait g hg) (h.fW g hg) }
theorem RefP.keep {w w' : World} {F : Nat → Prop} {B : Nat} {S : PS} (h : RefP w F B S) (hk : ∀ k, k < w.heap.size → F k → w'.heap[k]? = w.heap[k]?) : RefP w' F B S := by
  obtain ⟨kv, dv, wv, ks, ds, h⟩ := h
  exact ⟨kv, dv, wv, ks, ds, h.keep hk⟩
theorem RefP.mono {w : World} {F F' : Nat → Prop} {B : Nat} {S : PS} (h : RefP w F B S) (hF : ∀ k, k < w.heap.size → F k → F' k) : RefP w F' B S := by
  obtain ⟨kv, dv, wv, ks, ds, h⟩ := h
  exact ⟨kv, dv, wv, ks, ds, h.mono hF⟩

/-- One cell of an owned slice written anew. -/
theorem owns_set {w : World} {e : TypeId} {n g cap i : Nat} {xs : List Value} (h : w.ownsRow 0 e 1 (.slice (some ⟨g, 0, none⟩) n cap) n xs) (u : Value) : (w.setCell ⟨g, i, none⟩ u).ownsRow 0 e 1 (.slice (some ⟨g, 0, none⟩) n cap) n (xs.set i u) ∧ w.frozen? ⟨g, i, none⟩ = false := by
  rcases h.2 with ⟨hn, _⟩ | ⟨g', cap', cur, hv, h0, hg, hc, hm, hs, ht⟩
  · cases hn
  · cases hv
    refine ⟨⟨by rw [List.length_set]; exact h.1, .inr ⟨g, cap, _, rfl, h0, heap_setCell_same w g i cur e u hg, hc, hm, by simp [hs], ?_⟩⟩, by simp [World.frozen?, hg]⟩
    rw [← ht, Array.toList_setIfInBounds, List.take_set]
theorem owns_cell {w : World} {e : TypeId} {n g cap i : Nat} {xs : List Value} {u : Value} (h : w.ownsRow 0 e 1 (.slice (some ⟨g, 0, none⟩) n cap) n xs) (hi : xs[i]? = some u) : w.cell? ⟨g, i, none⟩ = some u := by
  obtain ⟨g', cap', e', _, hc⟩ := owns_form h (by have := (List.getElem?_eq_some_iff.1 hi).1; have := h.1; omega)
  cases e'
  exact hc i u hi

theorem RefAt.c0 {w : World} {F : Nat → Prop} {B : Nat} {kv dv wv : Value} {ks : List ByteArray} {ds : List Bool} {S : PS} (h : RefAt w F B kv dv wv ks ds S) : w.cell? ⟨B, 0, none⟩ = some kv := h.row.cell 0
theorem RefAt.c1 {w : World} {F : Nat → Prop} {B : Nat} {kv dv wv : Value} {ks : List ByteArray} {ds : List Bool} {S : PS} (h : RefAt w F B kv dv wv ks ds S) : w.cell? ⟨B, 1, none⟩ = some dv := h.row.cell 1
theorem RefAt.c2 {w : World} {F : Nat → Prop} {B : Nat} {kv dv wv : Value} {ks : List ByteArray} {ds : List Bool} {S : PS} (h : RefAt w F B kv dv wv ks ds S) : w.cell? ⟨B, 2, none⟩ = some wv := h.row.cell 2
theorem RefAt.c3 {w : World} {F : Nat → Prop} {B : Nat} {kv dv wv : Value} {ks : List ByteArray} {ds : List Bool} {S : PS} (h : RefAt w F B kv dv wv ks ds S) : w.cell? ⟨B, 3, none⟩ = some (.int .i64 S.fuse) := h.row.cell 3
theorem RefAt.c4 {w : World} {F : Nat → Prop} {B : Nat} {kv dv wv : Value} {ks : List ByteArray} {ds : List Bool} {S : PS} (h : RefAt w F B kv dv wv ks ds S) : w.cell? ⟨B, 4, none⟩ = some (.bool (!S.up)) := h.row.cell 4
theorem RefAt.c5 {w : World} {F : Nat → Prop} {B : Nat} {kv dv wv : Value} {ks : List ByteArray} {ds : List Bool} {S : PS} (h : RefAt w F B kv dv wv ks ds S) : w.cell? ⟨B, 5, none⟩ = some (.int .i64 S.reads) := h.row.cell 5
theorem RefAt.c6 {w : World} {F : Nat → Prop} {B : Nat} {kv dv wv : Value} {ks : List ByteArray} {ds : List Bool} {S : PS} (h : RefAt w F B kv dv wv ks ds S) : w.cell? ⟨B, 6, none⟩ = some (.int .i64 S.writes) := h.row.cell 6
theorem RefAt.setFuse {w : World} {F : Nat → Prop} {B : Nat} {kv dv wv : Value} {ks : List ByteArray} {ds : List Bool} {S : PS} (h : RefAt w F B kv dv wv ks ds S) (x : Int) (hx : -1 ≤ x ∧ x < 9223372036854775808) : RefAt (w.setCell ⟨B, 3, none⟩ (.int .i64 x)) F B kv dv wv ks ds { S with fuse := x } :=
  { h with row := h.row.setL 3 _, kept := owns_off h.kept h.kB _ _, dumb := owns_off h.dumb h.dB _ _, wait := owns_off h.wait h.wB _ _, fuse := hx }
theorem RefAt.setUp {w : World} {F : Nat → Prop} {B : Nat} {kv dv wv : Value} {ks : List ByteArray} {ds : List Bool} {S : PS} (h : RefAt w F B kv dv wv ks ds S) (x : Bool) : RefAt (w.setCell ⟨B, 4, none⟩ (.bool (!x))) F B kv dv wv ks ds { S with up := x } :=
  { h with row := h.row.setL 4 _, kept := owns_off h.kept h.kB _ _, dumb := owns_off h.dumb h.dB _ _, wait := owns_off h.wait h.wB _ _ }
theorem RefAt.setReads {w : World} {F : Nat → Prop} {B : Nat} {kv dv wv : Value} {ks : List ByteArray} {ds : List Bool} {S : PS} (h : RefAt w F B kv dv wv ks ds S) (x : Int) : RefAt (w.setCell ⟨B, 5, none⟩ (.int .i64 x)) F B kv dv wv ks ds { S with reads := x } :=
  { h with row := h.row.setL 5 _, kept := owns_off h.kept h.kB _ _, dumb := owns_off h.dumb h.dB _ _, wait := owns_off h.wait h.wB _ _ }
theorem RefAt.setWrites {w : World} {F : Nat → Prop} {B : Nat} {kv dv wv : Value} {ks : List ByteArray} {ds : List Bool} {S : PS} (h : RefAt w F B kv dv wv ks ds S) (x : Int) : RefAt (w.setCell ⟨B, 6, none⟩ (.int .i64 x)) F B kv dv wv ks ds { S with writes := x } :=
  { h with row := h.row.setL 6 _, kept := owns_off h.kept h.kB _ _, dumb := owns_off h.dumb h.dB _ _, wait := owns_off h.wait h.wB _ _ }
/-- Nothing waits any more. -/
theorem RefAt.setNone {w : World} {F : Nat → Prop} {B : Nat} {kv dv wv : Value} {ks : List ByteArray} {ds : List Bool} {S : PS} (h : RefAt w F B kv dv wv ks ds S) : RefAt (w.setCell ⟨B, 2, none⟩ (.slice none 0 0)) F B kv dv (.slice none 0 0) ks ds { S with wait := [] } :=
  { h with row := h.row.setL 2 _, kept := owns_off h.kept h.kB _ _, dumb := owns_off h.dumb h.dB _ _, wait := World.ownsRow_nil _ _ _ _, fW := fun g hg => (by cases hg), wB := by simp [Apart, Value.ownBlock], kw := fun g _ => by simp [Value.ownBlock], dw := fun g _ => by simp [Value.ownBlock], ats := fun p hp => by cases hp }
theorem getD_set {α : Type} (l : List α) (i j : Nat) (x d : α) (hi : i < l.length) : (l.set i x).getD j d = if j = i then x else l.getD j d := by
  rw [List.getD_eq_getElem?_getD, List.getElem?_set, List.getD_eq_getElem?_getD]
  by_cases e : j = i
  · subst e; simp [hi]
  · rw [if_neg (fun h => e h.symm), if_neg e]
/-- A sector cannot be read; a sector kept anew. -/
theorem RefAt.setDumb {w : World} {F : Nat → Prop} {B g cap i : Nat} {kv wv : Value} {ks : List ByteArray} {ds : List Bool} {S : PS} (h : RefAt w F B kv (.slice (some ⟨g, 0, none⟩) S.kept.length cap) wv ks ds S) (hi : i < S.kept.length) :
    RefAt (w.setCell ⟨g, i, none⟩ (.bool true)) F B kv (.slice (some ⟨g, 0, none⟩) S.kept.length cap) wv ks (ds.set i true) { S with kept := S.kept.set i ByteArray.empty } := by
  have hl : (S.kept.set i ByteArray.empty).length = S.kept.length := List.length_set
  have hd := (owns_set (i := i) h.dumb (.bool true)).1
  rw [← List.map_set] at hd
  refine { h with row := h.row.off (fun e => h.dB (by rw [e]; rfl)) _ _, kept := ?_, dumb := ?_, wait := owns_off h.wait (fun e => h.dw g rfl (by rw [e])) _ _, most := by show (S.kept.set i ByteArray.empty).length ≤ _; rw [hl]; exact h.most, ats := ?_, says := ?_ }
  · show World.ownsRow _ _ _ _ _ (S.kept.set i ByteArray.empty).length _
    rw [hl]
    exact owns_off h.kept (fun e => h.kd g e rfl) _ _
  · show World.ownsRow _ _ _ _ _ (S.kept.set i ByteArray.empty).length _
    rw [hl]
    exact hd
  · show ∀ p ∈ S.wait, p.1 < (S.kept.set i ByteArray.empty).length ∧ p.2.size = 64
    rw [hl]; exact h.ats
  · show ∀ j, j < (S.kept.set i ByteArray.empty).length → (S.kept.set i ByteArray.empty)[j]? = _
    rw [hl]
    intro j hj
    rw [getD_set _ _ _ _ _ (by rw [h.ld]; exact hi), List.getElem?_set]
    by_cases e : j = i
    · subst e; simp [hj]
    · rw [if_neg (fun x => e x.symm), if_neg e]; exact h.says j hj
theorem RefAt.setKept {w : World} {F : Nat → Prop} {B gk ck gd cd i : Nat} {wv : Value} {ks : List ByteArray} {ds : List Bool} {S : PS} {s : ByteArray} (h : RefAt w F B (.slice (some ⟨gk, 0, none⟩) S.kept.length ck) (.slice (some ⟨gd, 0, none⟩) S.kept.length cd) wv ks ds S) (hi : i < S.kept.length) (hs : s.size = 64) :
    RefAt ((w.setCell ⟨gk, i, none⟩ (.string s)).setCell ⟨gd, i, none⟩ (.bool false)) F B (.slice (some ⟨gk, 0, none⟩) S.kept.length ck) (.slice (some ⟨gd, 0, none⟩) S.kept.length cd) wv (ks.set i s) (ds.set i false) { S with kept := S.kept.set i s } := by
  have hl : (S.kept.set i s).length = S.kept.length := List.length_set
  have hne : gk ≠ gd := fun e => h.kd gk rfl (by rw [e]; rfl)
  have hk := (owns_set (i := i) h.kept (.string s)).1
  have hd := (owns_set (i := i) (owns_off h.dumb (b := gk) (fun e => hne (by cases e; rfl)) i (.string s)) (.bool false)).1
  rw [← List.map_set] at hk hd
  refine { h with row := (h.row.off (fun e => h.kB (by rw [e]; rfl)) _ _).off (fun e => h.dB (by rw [e]; rfl)) _ _, kept := ?_, dumb := ?_, wait := owns_off (owns_off h.wait (fun e => h.kw gk rfl (by rw [e])) _ _) (fun e => h.dw gd rfl (by rw [e])) _ _, most := by show (S.kept.set i s).length ≤ _; rw [hl]; exact h.most, ats := ?_, says := ?_, texts := ?_ }
  · show World.ownsRow _ _ _ _ _ (S.kept.set i s).length _
    rw [hl]
    exact owns_off hk (fun e => hne (by cases e; rfl)) _ _
  · show World.ownsRow _ _ _ _ _ (S.kept.set i s).length _
    rw [hl]
    exact hd
  · show ∀ p ∈ S.wait, p.1 < (S.kept.set i s).length ∧ p.2.size = 64
    rw [hl]; exact h.ats
  · show ∀ j, j < (S.kept.set i s).length → (S.kept.set i s)[j]? = _
    rw [hl]
    intro j hj
    rw [getD_set _ _ _ _ _ (by rw [h.ld]; exact hi), getD_set _ _ _ _ _ (by rw [h.lk]; exact hi), List.getElem?_set]
    by_cases e : j = i
    · subst e; simp [hj]
    · rw [if_neg (fun x => e x.symm), if_neg e, if_neg e]; exact h.says j hj
  · intro x hx
    rcases List.mem_or_eq_of_mem_set hx with hx | rfl
    · exact h.texts x hx
    · exact hs
end Go.Proofs.YtcmoagphbpjenaaGreatDoor
