/- The document's put and flush, one behind the other, and journal's steps; arithmetic, nothing of the program's calls. · The document's device: how it lies in memory; the same plain words as of plate's. · The document's none, Held and Read. · The document's Write, Arm, Spoil, keep and Lay. -/
import Derived.Test.YtoopaigpjefonaaGreatDoorMg20
import Derived.Test.YtoopaigpjefonaaGreatDoorMg12
import Derived.Test.YtoopaigpjefonaaGreatDoorMg09
import Derived.Deep.AppendLies
namespace Go.Proofs.YtoopaigpjefonaaGreatDoor
set_option maxRecDepth 20000
open Go.RowKit

theorem write_ans {S : PS} {k : Int} {t : ByteArray} (ht : t.size = 64) (hk : hasB S k = true) : writeE S k t = 0 ∨ writeE S k t = 20 := by
  unfold writeE
  rw [if_pos ht]
  by_cases h2 : S.up = true
  · rw [if_pos h2, if_pos hk]
    split
    · exact .inr rfl
    · exact .inl rfl
  · rw [if_neg h2]
    exact .inr rfl
theorem write_kept (S : PS) (k : Int) (t : ByteArray) : (writeP S k t).kept = S.kept := by
  unfold writeP
  repeat' split
  all_goals rfl
theorem putGo_ans (r : ByteArray) (hr : r.size = 512) (a : Nat) : ∀ (n j : Nat) (S : PS), j + n ≤ 8 → 8 * a + 8 ≤ S.kept.length → (putGo r a n j S).1 = 0 ∨ (putGo r a n j S).1 = 20
  | 0, j, S, _, _ => .inl rfl
  | n + 1, j, S, hj, ha => by
    have h1 : writeE S ((8 * a + j : Nat) : Int) (secS r j) = 0 ∨ writeE S ((8 * a + j : Nat) : Int) (secS r j) = 20 := write_ans (secS_size hr (by omega)) (by simp [hasB]; omega)
    unfold putGo
    by_cases h0 : writeE S ((8 * a + j : Nat) : Int) (secS r j) = 0
    · rw [if_pos h0]
      exact putGo_ans r hr a n (j + 1) _ (by omega) (by rw [write_kept]; exact ha)
    · rw [if_neg h0]
      exact .inr (h1.resolve_left h0)
theorem put_ans {S : PS} {x : Wt} (h : FitW S.kept.length x) : bputE S x.at_ x.raw = 0 ∨ bputE S x.at_ x.raw = 20 := by
  obtain ⟨⟨a, ea, ha⟩, hr⟩ := h
  have hB : bhasB S x.at_ = true := by rw [ea]; simp [bhasB]; omega
  unfold bputE
  rw [if_pos hr, if_pos hB, ea, Int.toNat_natCast]
  exact putGo_ans x.raw hr a 8 0 S (by omega) ha
theorem flush_ans (S : PS) : flushE S = 0 ∨ flushE S = 20 := by
  unfold flushE
  split
  · exact .inl rfl
  · exact .inr rfl
theorem take_ans : ∀ (l : List Wt) (S : PS), (∀ x, x ∈ l → FitW S.kept.length x) → takeE l S = 0 ∨ takeE l S = 20
  | [], S, _ => flush_ans S
  | x :: l, S, h => by
    unfold takeE
    by_cases h0 : bputE S x.at_ x.raw = 0
    · rw [if_pos h0]
      exact take_ans l _ fun y hy => by rw [(bput_wait S x.at_ x.raw).2]; exact h y (List.mem_cons_of_mem _ hy)
    · rw [if_neg h0]
      exact .inr ((put_ans (h x (List.mem_cons_self ..))).resolve_left h0)
theorem fol_ans : ∀ (ls : List (List Wt)) (S : PS), (∀ l, l ∈ ls → ∀ x, x ∈ l → FitW S.kept.length x) → folE ls S = 0 ∨ folE ls S = 20
  | [], _, _ => .inl rfl
  | l :: ls, S, h => by
    unfold folE
    by_cases h0 : takeE l S = 0
    · rw [if_pos h0]
      exact fol_ans ls _ fun m hm x hx => by rw [take_kept]; exact h m (List.mem_cons_of_mem _ hm) x hx
    · rw [if_neg h0]
      exact .inr ((take_ans l S (h l (List.mem_cons_self ..))).resolve_left h0)
/-- The document's put and flush: nothing more behind what was refused. -/
def rputB (b : Bool) (S : PS) (x : Wt) : Bool × PS := if b then (decide (bputE S x.at_ x.raw = 0), bputP S x.at_ x.raw) else (false, S)
def rflB (b : Bool) (S : PS) : Bool × PS := if b then (decide (flushE S = 0), flushP S) else (false, S)
def rtakeB : List Wt → Bool → PS → Bool × PS
  | [], b, S => rflB b S
  | x :: l, b, S => rtakeB l (rputB b S x).1 (rputB b S x).2
def rfolB : List (List Wt) → Bool → PS → Bool × PS
  | [], b, S => (b, S)
  | l :: ls, b, S => rfolB ls (rtakeB l b S).1 (rtakeB l b S).2
theorem rtake_off : ∀ (l : List Wt) (S : PS), rtakeB l false S = (false, S)
  | [], _ => rfl
  | _ :: l, S => rtake_off l S
theorem rtake_on : ∀ (l : List Wt) (S : PS), rtakeB l true S = (decide (takeE l S = 0), takeP l S)
  | [], _ => rfl
  | x :: l, S => by
    unfold rtakeB takeE takeP
    show rtakeB l (decide (bputE S x.at_ x.raw = 0)) (bputP S x.at_ x.raw) = _
    by_cases h0 : bputE S x.at_ x.raw = 0
    · rw [decide_eq_true h0, if_pos h0, if_pos h0]
      exact rtake_on l _
    · rw [decide_eq_false h0, if_neg h0, if_neg h0, rtake_off, decide_eq_false h0]
theorem rfol_off : ∀ (ls : List (List Wt)) (S : PS), rfolB ls false S = (false, S)
  | [], _ => rfl
  | l :: ls, S => by
    unfold rfolB
    rw [rtake_off]
    exact rfol_off ls S
theorem rfol_on : ∀ (ls : List (List Wt)) (S : PS), rfolB ls true S = (decide (folE ls S = 0), folP ls S)
  | [], _ => rfl
  | l :: ls, S => by
    unfold rfolB folE folP
    rw [rtake_on]
    by_cases h0 : takeE l S = 0
    · rw [decide_eq_true h0, if_pos h0, if_pos h0]
      exact rfol_on ls _
    · rw [decide_eq_false h0, if_neg h0, if_neg h0, decide_eq_false h0]
      exact rfol_off ls _
/-- What the document's steps end with is what journal's do, where all addresses are there. -/
theorem ended_ans (ls : List (List Wt)) (S : PS) (h : ∀ l, l ∈ ls → ∀ x, x ∈ l → FitW S.kept.length x) : (if (rfolB ls true S).1 = true then (0 : Int) else 20) = ansE (folE ls S) := by
  rw [rfol_on]
  rcases fol_ans ls S h with e | e
  · rw [e]
    rfl
  · rw [e]
    rfl
end Go.Proofs.YtoopaigpjefonaaGreatDoor

namespace Go.Proofs.YtoopaigpjefonaaGreatDoor
set_option maxRecDepth 20000
open Go.RowKit

def refC (kv dv wv : Value) (S : PS) : List Value := [kv, dv, wv, .int .i64 S.fuse, .bool (!S.up), .int .i64 S.reads, .int .i64 S.writes]

structure RefAt (w : World) (F : Nat → Prop) (B : Nat) (kv dv wv : Value) (ks : List ByteArray) (ds : List Bool) (S : PS) : Prop where
  row : Row w B 82 (refC kv dv wv S)
  kept : w.ownsRow 0 9 1 kv S.kept.length (ks.map Value.string)
  dumb : w.ownsRow 0 4 1 dv S.kept.length (ds.map Value.bool)
  wait : w.ownsRow 0 149 2 wv S.wait.length (waitC S.wait)
  fB : F B
  fK : ∀ g, kv.ownBlock = some g → F g
  fD : ∀ g, dv.ownBlock = some g → F g
  fW : ∀ g, wv.ownBlock = some g → F g
  kB : Apart kv B
  dB : Apart dv B
  wB : Apart wv B
  kd : Apart2 kv dv
  kw : Apart2 kv wv
  dw : Apart2 dv wv
  most : S.kept.length ≤ 32768
  ats : ∀ p ∈ S.wait, p.1 < S.kept.length ∧ p.2.size = 64
  says : ∀ i, i < S.kept.length → S.kept[i]? = some (if ds.getD i false = true then ByteArray.empty else ks.getD i ByteArray.empty)
  texts : ∀ s ∈ ks, s.size = 64
  fuse : -1 ≤ S.fuse ∧ S.fuse < 9223372036854775808
def RefP (w : World) (F : Nat → Prop) (B : Nat) (S : PS) : Prop := ∃ kv dv wv ks ds, RefAt w F B kv dv wv ks ds S

theorem RefAt.lk {w : World} {F : Nat → Prop} {B : Nat} {kv dv wv : Value} {ks : List ByteArray} {ds : List Bool} {S : PS} (h : RefAt w F B kv dv wv ks ds S) : ks.length = S.kept.length := by simpa using h.kept.1
theorem RefAt.ld {w : World} {F : Nat → Prop} {B : Nat} {kv dv wv : Value} {ks : List ByteArray} {ds : List Bool} {S : PS} (h : RefAt w F B kv dv wv ks ds S) : ds.length = S.kept.length := by simpa using h.dumb.1
theorem RefAt.keep {w w' : World} {F : Nat → Prop} {B : Nat} {kv dv wv : Value} {ks : List ByteArray} {ds : List Bool} {S : PS} (h : RefAt w F B kv dv wv ks ds S) (hk : ∀ k, k < w.heap.size → F k → w'.heap[k]? = w.heap[k]?) : RefAt w' F B kv dv wv ks ds S :=
  { h with
    row := (hk B h.row.lt h.fB).trans h.row
    kept := owns_keep h.kept fun g hg => hk g (owns_lt h.kept g hg) (h.fK g hg)
    dumb := owns_keep h.dumb fun g hg => hk g (owns_lt h.dumb g hg) (h.fD g hg)
    wait := owns_keep h.wait fun g hg => hk g (owns_lt h.wait g hg) (h.fW g hg) }
theorem RefAt.mono {w : World} {F F' : Nat → Prop} {B : Nat} {kv dv wv : Value} {ks : List ByteArray} {ds : List Bool} {S : PS} (h : RefAt w F B kv dv wv ks ds S) (hF : ∀ k, k < w.heap.size → F k → F' k) : RefAt w F' B kv dv wv ks ds S :=
  { h with
    fB := hF _ h.row.lt h.fB
    fK := fun g hg => hF g (owns_lt h.kept g hg) (h.fK g hg)
    fD := fun g hg => hF g (owns_lt h.dumb g hg) (h.fD g hg)
    fW := fun g hg => hF g (owns_lt h.wait g hg) (h.fW g hg) }
theorem RefP.keep {w w' : World} {F : Nat → Prop} {B : Nat} {S : PS} (h : RefP w F B S) (hk : ∀ k, k < w.heap.size → F k → w'.heap[k]? = w.heap[k]?) : RefP w' F B S := by
  obtain ⟨kv, dv, wv, ks, ds, h⟩ := h
  exact ⟨kv, dv, wv, ks, ds, h.keep hk⟩
theorem RefP.mono {w : World} {F F' : Nat → Prop} {B : Nat} {S : PS} (h : RefP w F B S) (hF : ∀ k, k < w.heap.size → F k → F' k) : RefP w F' B S := by
  obtain ⟨kv, dv, wv, ks, ds, h⟩ := h
  exact ⟨kv, dv, wv, ks, ds, h.mono hF⟩

/-- One cell of an owned slice written anew. -/
theorem owns_set {w : World} {e : TypeId} {n g cap i : Nat} {xs : List Value} (h : w.ownsRow 0 e 1 (.slice (some ⟨g, 0, none⟩) n cap) n xs) (u : Value) : (w.setCell ⟨g, i, none⟩ u).ownsRow 0 e 1 (.slice (some ⟨g, 0, none⟩) n cap) n (xs.set i u) ∧ w.frozen? ⟨g, i, none⟩ = false := by
  rcases h.2 with ⟨hn, _⟩ | ⟨g', cap', cur, hv, h0, hg, hc, hm, hs, ht⟩
  · cases hn
  · cases hv
    refine ⟨⟨by rw [List.length_set]; exact h.1, .inr ⟨g, cap, _, rfl, h0, heap_setCell_same w g i cur e u hg, hc, hm, by simp [hs], ?_⟩⟩, by simp [World.frozen?, hg]⟩
    rw [← ht, Array.toList_setIfInBounds, List.take_set]
theorem owns_cell {w : World} {e : TypeId} {n g cap i : Nat} {xs : List Value} {u : Value} (h : w.ownsRow 0 e 1 (.slice (some ⟨g, 0, none⟩) n cap) n xs) (hi : xs[i]? = some u) : w.cell? ⟨g, i, none⟩ = some u := by
  obtain ⟨g', cap', e', _, hc⟩ := owns_form h (by have := (List.getElem?_eq_some_iff.1 hi).1; have := h.1; omega)
  cases e'
  exact hc i u hi

theorem RefAt.c0 {w : World} {F : Nat → Prop} {B : Nat} {kv dv wv : Value} {ks : List ByteArray} {ds : List Bool} {S : PS} (h : RefAt w F B kv dv wv ks ds S) : w.cell? ⟨B, 0, none⟩ = some kv := h.row.cell 0
theorem RefAt.c1 {w : World} {F : Nat → Prop} {B : Nat} {kv dv wv : Value} {ks : List ByteArray} {ds : List Bool} {S : PS} (h : RefAt w F B kv dv wv ks ds S) : w.cell? ⟨B, 1, none⟩ = some dv := h.row.cell 1
theorem RefAt.c2 {w : World} {F : Nat → Prop} {B : Nat} {kv dv wv : Value} {ks : List ByteArray} {ds : List Bool} {S : PS} (h : RefAt w F B kv dv wv ks ds S) : w.cell? ⟨B, 2, none⟩ = some wv := h.row.cell 2
theorem RefAt.c3 {w : World} {F : Nat → Prop} {B : Nat} {kv dv wv : Value} {ks : List ByteArray} {ds : List Bool} {S : PS} (h : RefAt w F B kv dv wv ks ds S) : w.cell? ⟨B, 3, none⟩ = some (.int .i64 S.fuse) := h.row.cell 3
theorem RefAt.c4 {w : World} {F : Nat → Prop} {B : Nat} {kv dv wv : Value} {ks : List ByteArray} {ds : List Bool} {S : PS} (h : RefAt w F B kv dv wv ks ds S) : w.cell? ⟨B, 4, none⟩ = some (.bool (!S.up)) := h.row.cell 4
theorem RefAt.c5 {w : World} {F : Nat → Prop} {B : Nat} {kv dv wv : Value} {ks : List ByteArray} {ds : List Bool} {S : PS} (h : RefAt w F B kv dv wv ks ds S) : w.cell? ⟨B, 5, none⟩ = some (.int .i64 S.reads) := h.row.cell 5
theorem RefAt.c6 {w : World} {F : Nat → Prop} {B : Nat} {kv dv wv : Value} {ks : List ByteArray} {ds : List Bool} {S : PS} (h : RefAt w F B kv dv wv ks ds S) : w.cell? ⟨B, 6, none⟩ = some (.int .i64 S.writes) := h.row.cell 6
theorem RefAt.setFuse {w : World} {F : Nat → Prop} {B : Nat} {kv dv wv : Value} {ks : List ByteArray} {ds : List Bool} {S : PS} (h : RefAt w F B kv dv wv ks ds S) (x : Int) (hx : -1 ≤ x ∧ x < 9223372036854775808) : RefAt (w.setCell ⟨B, 3, none⟩ (.int .i64 x)) F B kv dv wv ks ds { S with fuse := x } :=
  { h with row := h.row.setL 3 _, kept := owns_off h.kept h.kB _ _, dumb := owns_off h.dumb h.dB _ _, wait := owns_off h.wait h.wB _ _, fuse := hx }
theorem RefAt.setUp {w : World} {F : Nat → Prop} {B : Nat} {kv dv wv : Value} {ks : List ByteArray} {ds : List Bool} {S : PS} (h : RefAt w F B kv dv wv ks ds S) (x : Bool) : RefAt (w.setCell ⟨B, 4, none⟩ (.bool (!x))) F B kv dv wv ks ds { S with up := x } :=
  { h with row := h.row.setL 4 _, kept := owns_off h.kept h.kB _ _, dumb := owns_off h.dumb h.dB _ _, wait := owns_off h.wait h.wB _ _ }
theorem RefAt.setReads {w : World} {F : Nat → Prop} {B : Nat} {kv dv wv : Value} {ks : List ByteArray} {ds : List Bool} {S : PS} (h : RefAt w F B kv dv wv ks ds S) (x : Int) : RefAt (w.setCell ⟨B, 5, none⟩ (.int .i64 x)) F B kv dv wv ks ds { S with reads := x } :=
  { h with row := h.row.setL 5 _, kept := owns_off h.kept h.kB _ _, dumb := owns_off h.dumb h.dB _ _, wait := owns_off h.wait h.wB _ _ }
theorem RefAt.setWrites {w : World} {F : Nat → Prop} {B : Nat} {kv dv wv : Value} {ks : List ByteArray} {ds : List Bool} {S : PS} (h : RefAt w F B kv dv wv ks ds S) (x : Int) : RefAt (w.setCell ⟨B, 6, none⟩ (.int .i64 x)) F B kv dv wv ks ds { S with writes := x } :=
  { h with row := h.row.setL 6 _, kept := owns_off h.kept h.kB _ _, dumb := owns_off h.dumb h.dB _ _, wait := owns_off h.wait h.wB _ _ }
/-- Nothing waits any more. -/
theorem RefAt.setNone {w : World} {F : Nat → Prop} {B : Nat} {kv dv wv : Value} {ks : List ByteArray} {ds : List Bool} {S : PS} (h : RefAt w F B kv dv wv ks ds S) : RefAt (w.setCell ⟨B, 2, none⟩ (.slice none 0 0)) F B kv dv (.slice none 0 0) ks ds { S with wait := [] } :=
  { h with row := h.row.setL 2 _, kept := owns_off h.kept h.kB _ _, dumb := owns_off h.dumb h.dB _ _, wait := World.ownsRow_nil _ _ _ _, fW := fun g hg => (by cases hg), wB := by simp [Apart, Value.ownBlock], kw := fun g _ => by simp [Value.ownBlock], dw := fun g _ => by simp [Value.ownBlock], ats := fun p hp => by cases hp }
theorem getD_set {α : Type} (l : List α) (i j : Nat) (x d : α) (hi : i < l.length) : (l.set i x).getD j d = if j = i then x else l.getD j d := by
  rw [List.getD_eq_getElem?_getD, List.getElem?_set, List.getD_eq_getElem?_getD]
  by_cases e : j = i
  · subst e; simp [hi]
  · rw [if_neg (fun h => e h.symm), if_neg e]
/-- A sector cannot be read; a sector kept anew. -/
theorem RefAt.setDumb {w : World} {F : Nat → Prop} {B g cap i : Nat} {kv wv : Value} {ks : List ByteArray} {ds : List Bool} {S : PS} (h : RefAt w F B kv (.slice (some ⟨g, 0, none⟩) S.kept.length cap) wv ks ds S) (hi : i < S.kept.length) :
    RefAt (w.setCell ⟨g, i, none⟩ (.bool true)) F B kv (.slice (some ⟨g, 0, none⟩) S.kept.length cap) wv ks (ds.set i true) { S with kept := S.kept.set i ByteArray.empty } := by
  have hl : (S.kept.set i ByteArray.empty).length = S.kept.length := List.length_set
  have hd := (owns_set (i := i) h.dumb (.bool true)).1
  rw [← List.map_set] at hd
  refine { h with row := h.row.off (fun e => h.dB (by rw [e]; rfl)) _ _, kept := ?_, dumb := ?_, wait := owns_off h.wait (fun e => h.dw g rfl (by rw [e])) _ _, most := by show (S.kept.set i ByteArray.empty).length ≤ _; rw [hl]; exact h.most, ats := ?_, says := ?_ }
  · show World.ownsRow _ _ _ _ _ (S.kept.set i ByteArray.empty).length _
    rw [hl]
    exact owns_off h.kept (fun e => h.kd g e rfl) _ _
  · show World.ownsRow _ _ _ _ _ (S.kept.set i ByteArray.empty).length _
    rw [hl]
    exact hd
  · show ∀ p ∈ S.wait, p.1 < (S.kept.set i ByteArray.empty).length ∧ p.2.size = 64
    rw [hl]; exact h.ats
  · show ∀ j, j < (S.kept.set i ByteArray.empty).length → (S.kept.set i ByteArray.empty)[j]? = _
    rw [hl]
    intro j hj
    rw [getD_set _ _ _ _ _ (by rw [h.ld]; exact hi), List.getElem?_set]
    by_cases e : j = i
    · subst e; simp [hj]
    · rw [if_neg (fun x => e x.symm), if_neg e]; exact h.says j hj
theorem RefAt.setKept {w : World} {F : Nat → Prop} {B gk ck gd cd i : Nat} {wv : Value} {ks : List ByteArray} {ds : List Bool} {S : PS} {s : ByteArray} (h : RefAt w F B (.slice (some ⟨gk, 0, none⟩) S.kept.length ck) (.slice (some ⟨gd, 0, none⟩) S.kept.length cd) wv ks ds S) (hi : i < S.kept.length) (hs : s.size = 64) :
    RefAt ((w.setCell ⟨gk, i, none⟩ (.string s)).setCell ⟨gd, i, none⟩ (.bool false)) F B (.slice (some ⟨gk, 0, none⟩) S.kept.length ck) (.slice (some ⟨gd, 0, none⟩) S.kept.length cd) wv (ks.set i s) (ds.set i false) { S with kept := S.kept.set i s } := by
  have hl : (S.kept.set i s).length = S.kept.length := List.length_set
  have hne : gk ≠ gd := fun e => h.kd gk rfl (by rw [e]; rfl)
  have hk := (owns_set (i := i) h.kept (.string s)).1
  have hd := (owns_set (i := i) (owns_off h.dumb (b := gk) (fun e => hne (by cases e; rfl)) i (.string s)) (.bool false)).1
  rw [← List.map_set] at hk hd
  refine { h with row := (h.row.off (fun e => h.kB (by rw [e]; rfl)) _ _).off (fun e => h.dB (by rw [e]; rfl)) _ _, kept := ?_, dumb := ?_, wait := owns_off (owns_off h.wait (fun e => h.kw gk rfl (by rw [e])) _ _) (fun e => h.dw gd rfl (by rw [e])) _ _, most := by show (S.kept.set i s).length ≤ _; rw [hl]; exact h.most, ats := ?_, says := ?_, texts := ?_ }
  · show World.ownsRow _ _ _ _ _ (S.kept.set i s).length _
    rw [hl]
    exact owns_off hk (fun e => hne (by cases e; rfl)) _ _
  · show World.ownsRow _ _ _ _ _ (S.kept.set i s).length _
    rw [hl]
    exact hd
  · show ∀ p ∈ S.wait, p.1 < (S.kept.set i s).length ∧ p.2.size = 64
    rw [hl]; exact h.ats
  · show ∀ j, j < (S.kept.set i s).length → (S.kept.set i s)[j]? = _
    rw [hl]
    intro j hj
    rw [getD_set _ _ _ _ _ (by rw [h.ld]; exact hi), getD_set _ _ _ _ _ (by rw [h.lk]; exact hi), List.getElem?_set]
    by_cases e : j = i
    · subst e; simp [hj]
    · rw [if_neg (fun x => e x.symm), if_neg e, if_neg e]; exact h.says j hj
  · intro x hx
    rcases List.mem_or_eq_of_mem_set hx with hx | rfl
    · exact h.texts x hx
    · exact hs
end Go.Proofs.YtoopaigpjefonaaGreatDoor

namespace Go.Proofs.YtoopaigpjefonaaGreatDoor
set_option maxRecDepth 20000
open Go.RowKit

theorem owns_some {w : World} {e : TypeId} {z n : Nat} {v : Value} {xs : List Value} (h : w.ownsRow 0 e z v n xs) (hn : 0 < n) : ∃ g cap, v = .slice (some ⟨g, 0, none⟩) n cap ∧ n ≤ cap := by
  obtain ⟨g, cap, e, hc, _⟩ := owns_form h hn
  exact ⟨g, cap, e, hc⟩

set_option maxHeartbeats 400000 in
theorem none_any (B : Nat) (oa : Option Addr) (n cap : Nat) (at_ : Int) (S : PS) (hn : n = S.kept.length) (w : World) (c0 : w.cell? ⟨B, 0, none⟩ = some (.slice oa n cap)) :
    Calls Tryz.prog 74 #[.pointer (some ⟨B, 0, none⟩), .int .i64 at_] w fun e w' => e = .returned (.bool (!hasB S at_)) ∧ w' = w := by
  subst hn
  by_cases h0 : 0 ≤ at_
  · by_cases h1 : at_ < (S.kept.length : Int)
    · have hv : hasB S at_ = true := by simp [hasB, h0, h1]
      rw [hv]
      have h0' : ¬ at_ < 0 := by omega
      have h1' : ¬ (S.kept.length : Int) ≤ at_ := by omega
      go_enter Tryz.func74, Tryz.ntmps74
      go_wp2
      go_ret
      exact ⟨rfl, rfl⟩
    · have hv : hasB S at_ = false := by simp [hasB, h0, h1]
      rw [hv]
      have h0' : ¬ at_ < 0 := by omega
      have h1' : (S.kept.length : Int) ≤ at_ := by omega
      go_enter Tryz.func74, Tryz.ntmps74
      go_wp2
      go_ret
      exact ⟨rfl, rfl⟩
  · have hv : hasB S at_ = false := by simp [hasB, h0]
    rw [hv]
    have h0' : at_ < 0 := by omega
    go_enter Tryz.func74, Tryz.ntmps74
    go_wp2
    go_ret
    exact ⟨rfl, rfl⟩

set_option maxHeartbeats 400000 in
theorem rheld_any (B : Nat) (F : Nat → Prop) (S : PS) (at_ : Int) (w : World) (hp : RefP w F B S) :
    Calls Tryz.prog 43 #[.pointer (some ⟨B, 0, none⟩), .int .i64 at_] w fun e w' => e = .returned (.tuple #[.string (heldS S at_), .int .i64 (heldE S at_)]) ∧ w' = w := by
  obtain ⟨kv, dv, wv, ks, ds, hp⟩ := hp
  have hkl : ∃ oa cap, kv = .slice oa S.kept.length cap := by
    rcases owns_len hp.kept with ⟨cap, e⟩ | ⟨g, cap, e⟩
    · exact ⟨_, cap, e⟩
    · exact ⟨_, cap, e⟩
  obtain ⟨oa, cap, rfl⟩ := hkl
  have hhas := none_any B oa _ cap at_ S rfl w hp.c0
  cases hb : hasB S at_
  · rw [hb] at hhas
    have e1 : heldS S at_ = ByteArray.empty := by simp [heldS, hb]
    have e2 : heldE S at_ = 2 := by simp [heldE, hb]
    rw [e1, e2]
    clear hb hp
    go_enter Tryz.func43, Tryz.ntmps43
    go_wp2_with fail
    refine hhas.mono ?_
    rintro e w1 ⟨rfl, rfl⟩
    go_wp2
    go_ret2
    exact ⟨rfl, rfl⟩
  · rw [hb] at hhas
    obtain ⟨h0, h1⟩ := hasB_true hb
    obtain ⟨i, rfl⟩ : ∃ i : Nat, at_ = i := ⟨at_.toNat, by omega⟩
    have hi : i < S.kept.length := by omega
    obtain ⟨g, cp, hkv, hgc⟩ := owns_some hp.kept (by omega)
    obtain ⟨rfl, rfl⟩ : oa = some ⟨g, 0, none⟩ ∧ cap = cp := by cases hkv; exact ⟨rfl, rfl⟩
    obtain ⟨g2, cap2, rfl, hgc2⟩ := owns_some hp.dumb (by omega)
    have d0 := hp.c0
    have d1 := hp.c1
    have cd : w.cell? ⟨g2, i, none⟩ = some (.bool (ds.getD i false)) := owns_cell hp.dumb (by rw [List.getElem?_map, List.getElem?_eq_getElem (by rw [hp.ld]; exact hi), List.getD_eq_getElem?_getD, List.getElem?_eq_getElem (by rw [hp.ld]; exact hi)]; rfl)
    have ck : w.cell? ⟨g, i, none⟩ = some (.string (ks.getD i ByteArray.empty)) := owns_cell hp.kept (by rw [List.getElem?_map, List.getElem?_eq_getElem (by rw [hp.lk]; exact hi), List.getD_eq_getElem?_getD, List.getElem?_eq_getElem (by rw [hp.lk]; exact hi)]; rfl)
    have hsay := hp.says i hi
    have h64 : (ks.getD i ByteArray.empty).size = 64 := by
      rw [List.getD_eq_getElem?_getD, List.getElem?_eq_getElem (by rw [hp.lk]; exact hi)]
      exact hp.texts _ (List.getElem_mem _)
    have ek : keptS S i = if ds.getD i false = true then ByteArray.empty else ks.getD i ByteArray.empty := by
      rw [keptS, Int.toNat_natCast, List.getD_eq_getElem?_getD, hsay]; rfl
    generalize ks.getD i ByteArray.empty = s at *
    clear hsay
    cases hd : ds.getD i false <;> rw [hd] at cd ek
    · have e1 : heldS S i = s := by simp [heldS, hb, ek]
      have e2 : heldE S i = 0 := by simp [heldE, hb, ek, h64]
      rw [e1, e2]
      clear hb hp hd ek e1 e2 h64
      go_enter Tryz.func43, Tryz.ntmps43
      go_wp2_with fail
      refine hhas.mono ?_
      rintro e w1 ⟨rfl, rfl⟩
      clear hhas
      go_wp2
      go_ret2
      exact ⟨rfl, rfl⟩
    · have e1 : heldS S i = ByteArray.empty := by simp [heldS, hb, ek]
      have e2 : heldE S i = 21 := by simp [heldE, hb, ek]
      rw [e1, e2]
      clear hb hp hd ek e1 e2 h64
      go_enter Tryz.func43, Tryz.ntmps43
      go_wp2_with fail
      refine hhas.mono ?_
      rintro e w1 ⟨rfl, rfl⟩
      clear hhas
      go_wp2
      go_ret2
      exact ⟨rfl, rfl⟩

/-- What is said of a sector by the first j waiting writes. -/
def seenS (S : PS) (i j : Nat) : ByteArray := (textOf (S.wait.take j) i).getD (heldS S (i : Nat))
def seenE (S : PS) (i j : Nat) : Int := if (textOf (S.wait.take j) i).isSome = true then 0 else heldE S (i : Nat)
theorem seen_step {S : PS} {i j a : Nat} {s : ByteArray} (h : S.wait[j]? = some (a, s)) : seenS S i (j + 1) = (if a = i then s else seenS S i j) ∧ seenE S i (j + 1) = (if a = i then 0 else seenE S i j) := by
  have e : S.wait.take (j + 1) = S.wait.take j ++ [(a, s)] := by rw [List.take_add_one, h]; rfl
  rw [seenS, seenE, e, textOf_snoc]
  by_cases hc : a = i
  · simp [hc]
  · simp [hc, seenS, seenE]

end Go.Proofs.YtoopaigpjefonaaGreatDoor

namespace Go.Proofs.YtoopaigpjefonaaGreatDoor
set_option maxRecDepth 20000
open Go.RowKit

theorem RefAt.appended {w0 w w' : World} {F : Nat → Prop} {B i : Nat} {kv dv wv v' : Value} {ks : List ByteArray} {ds : List Bool} {S : PS} {s : ByteArray} (h : RefAt w F B kv dv wv ks ds S) (ht : Touch F w0 w) (hi : i < S.kept.length) (hs : s.size = 64)
    (hown : w'.ownsRow 0 149 2 v' (S.wait.length + 1) (waitC S.wait ++ [.int .i64 (i : Nat), .string s])) (hg : w.grownBy w' wv.ownBlock) (hat : v'.ownBlock = wv.ownBlock ∨ v'.ownBlock = some w.heap.size) :
    w'.cell? ⟨B, 2, none⟩ = some wv ∧ w'.frozen? ⟨B, 2, none⟩ = false ∧ RefAt (w'.setCell ⟨B, 2, none⟩ v') (grow F w0 (w'.setCell ⟨B, 2, none⟩ v')) B kv dv v' ks ds { S with wait := S.wait ++ [(i, s)] } ∧ Touch F w0 (w'.setCell ⟨B, 2, none⟩ v') := by
  have hB := h.row.lt
  have r1 : Row w' B _ _ := (hg.block B h.row.lt (fun e => h.wB e.symm)).trans h.row
  have r2 := owns_keep (w' := w') h.kept fun g hg' => hg.block g (owns_lt h.kept g hg') (fun e => h.kw g hg' e.symm)
  have r3 := owns_keep (w' := w') h.dumb fun g hg' => hg.block g (owns_lt h.dumb g hg') (fun e => h.dw g hg' e.symm)
  have nB : Apart v' B := by
    rcases hat with e | e
    · unfold Apart; rw [e]; exact h.wB
    · unfold Apart; rw [e]; intro e2; cases e2; omega
  have nK : Apart2 kv v' := fun g hg' => by
    rcases hat with e | e
    · rw [e]; exact h.kw g hg'
    · rw [e]; intro e2; cases e2; have := owns_lt h.kept _ hg'; omega
  have nD : Apart2 dv v' := fun g hg' => by
    rcases hat with e | e
    · rw [e]; exact h.dw g hg'
    · rw [e]; intro e2; cases e2; have := owns_lt h.dumb _ hg'; omega
  have hsz : (w'.setCell ⟨B, 2, none⟩ v').heap.size = w'.heap.size := by simp
  have ht2 : Touch F w0 w' := ⟨ht.1.trans ⟨hg.os, hg.tape, hg.output, hg.size, fun k hk => absurd hk (Nat.not_lt_zero k)⟩, fun k hk hn => (hg.block k (Nat.lt_of_lt_of_le hk ht.size) (fun e => hn (h.fW k e.symm))).trans (ht.2 k hk hn)⟩
  refine ⟨r1.cell 2, r1.frozen 2, ⟨r1.setL 2 v', owns_off r2 h.kB _ _, owns_off r3 h.dB _ _, ?_, .inl h.fB, fun g hg' => .inl (h.fK g hg'), fun g hg' => .inl (h.fD g hg'), fun g hg' => ?_, h.kB, h.dB, nB, h.kd, nK, nD, h.most, ?_, h.says, h.texts, h.fuse⟩, ht2.setCell _ _ _ (.inl h.fB)⟩
  · rw [waitC_snoc]
    show World.ownsRow _ _ _ _ _ (S.wait ++ [(i, s)]).length _
    rw [List.length_append]
    exact owns_off hown nB _ _
  · have hlt := owns_lt hown g hg'
    rcases hat with e | e
    · exact .inl (h.fW g (by rw [← e]; exact hg'))
    · rw [e] at hg'
      cases hg'
      exact .inr ⟨ht.size, by rw [hsz]; exact hlt⟩
  · intro p hp
    rcases List.mem_append.1 hp with hp | hp
    · exact h.ats p hp
    · rw [List.mem_singleton] at hp
      subst hp
      exact ⟨hi, hs⟩
theorem info_rwrite : (Tryz.prog.info? 149).map (fun i => (i.zero, i.size, i.bytes)) = some (some (.agg #[.int .i64 0, .string ⟨#[]⟩]), 2, 24) := by kernel_rfl
theorem RefAt.kform {w : World} {F : Nat → Prop} {B : Nat} {kv dv wv : Value} {ks : List ByteArray} {ds : List Bool} {S : PS} (h : RefAt w F B kv dv wv ks ds S) : ∃ oa cap, kv = .slice oa S.kept.length cap := by
  rcases owns_len h.kept with ⟨cap, e⟩ | ⟨g, cap, e⟩
  · exact ⟨_, cap, e⟩
  · exact ⟨_, cap, e⟩
theorem RefAt.wform {w : World} {F : Nat → Prop} {B : Nat} {kv dv wv : Value} {ks : List ByteArray} {ds : List Bool} {S : PS} (h : RefAt w F B kv dv wv ks ds S) : ∃ oa cap, wv = .slice oa S.wait.length cap := by
  rcases owns_len h.wait with ⟨cap, e⟩ | ⟨g, cap, e⟩
  · exact ⟨_, cap, e⟩
  · exact ⟨_, cap, e⟩

set_option maxRecDepth 10000 in
set_option maxHeartbeats 2000000 in
theorem rwrite_any (B : Nat) (F : Nat → Prop) (S : PS) (at_ : Int) (s : ByteArray) (w : World) (hp : RefP w F B S) (hw : S.wait.length ≤ 1000000) :
    Calls Tryz.prog 118 #[.pointer (some ⟨B, 0, none⟩), .int .i64 at_, .string s] w fun e w' => e = .returned (.int .i64 (writeE S at_ s)) ∧ RefP w' (grow F w w') B (writeP S at_ s) ∧ Touch F w w' := by
  by_cases hs : s.size = 64
  case neg =>
    have HF : Hid (writeE S at_ s = 1 ∧ RefP w (grow F w w) B (writeP S at_ s)) := ⟨by simp [writeE, hs], by simp only [writeP, hs, if_false]; exact hp.mono fun k _ h => .inl h⟩
    clear hp
    have hs' : ¬ (s.size : Int) = 64 := by omega
    go_enter Tryz.func118, Tryz.ntmps118
    go_wp2
    go_ret
    exact ⟨by rw [HF.out.1]; rfl, HF.out.2, Touch.refl _ _⟩
  have hs' : (s.size : Int) = 64 := by omega
  have hp0 := hp.mono (F' := grow F w w) fun k _ h => .inl h
  obtain ⟨kv, dv, wv, ks, ds, hp⟩ := hp
  have c4 := hp.c4
  cases hu : S.up
  · rw [hu] at c4
    have HF : Hid (writeE S at_ s = 20 ∧ RefP w (grow F w w) B (writeP S at_ s)) := ⟨by simp [writeE, hs, hu], by simp [writeP, hs, hu]; exact hp0⟩
    clear hp hp0 hu
    go_enter Tryz.func118, Tryz.ntmps118
    go_wp2
    go_ret
    exact ⟨by rw [HF.out.1]; rfl, HF.out.2, Touch.refl _ _⟩
  rw [hu] at c4
  obtain ⟨oa, ca, rfl⟩ := hp.kform
  have hhas := none_any B oa _ ca at_ S rfl w hp.c0
  cases hb : hasB S at_
  · rw [hb] at hhas
    have HF : Hid (writeE S at_ s = 2 ∧ RefP w (grow F w w) B (writeP S at_ s)) := ⟨by simp [writeE, hs, hu, hb], by simp [writeP, hs, hu, hb]; exact hp0⟩
    clear hp hp0 hu hb
    go_enter Tryz.func118, Tryz.ntmps118
    go_wp2_with fail
    refine hhas.mono ?_
    rintro e w1 ⟨rfl, rfl⟩
    clear hhas
    go_wp2
    go_ret
    exact ⟨by rw [HF.out.1]; rfl, HF.out.2, Touch.refl _ _⟩
  rw [hb] at hhas
  have c3 := hp.c3
  clear hp0
  by_cases hf0 : S.fuse = 0
  · rw [hf0] at c3
    have f4 : w.frozen? ⟨B, 4, none⟩ = false := hp.row.frozen 4
    obtain ⟨w1, hw1⟩ : ∃ w1, w.setCell ⟨B, 4, none⟩ (.bool true) = w1 := ⟨_, rfl⟩
    have HF : Hid (writeE S at_ s = 20 ∧ RefP w1 (grow F w w1) B (writeP S at_ s) ∧ Touch F w w1) := ⟨by simp [writeE, hs, hu, hb, hf0], by rw [show writeP S at_ s = { S with up := false } by simp only [writeP, hs, if_true, hu, hb, hf0]]; exact ⟨_, _, _, _, _, by rw [← hw1]; exact (hp.setUp false).mono fun k _ h => .inl h⟩, by rw [← hw1]; exact (Touch.refl _ _).setCell _ _ _ (.inl hp.fB)⟩
    clear hp hu hb hf0
    go_enter Tryz.func118, Tryz.ntmps118
    go_wp2_with fail
    refine hhas.mono ?_
    rintro e w2 ⟨rfl, rfl⟩
    clear hhas
    go_wp2
    go_ret
    exact ⟨by rw [HF.out.1]; rfl, HF.out.2.1, HF.out.2.2⟩
  obtain ⟨h0, h1⟩ := hasB_true hb
  obtain ⟨i, rfl⟩ : ∃ i : Nat, at_ = i := ⟨at_.toNat, by omega⟩
  have hi : i < S.kept.length := by omega
  obtain ⟨fz, hfz⟩ : ∃ fz, fz = if S.fuse = -1 then -1 else S.fuse - 1 := ⟨_, rfl⟩
  have hE : writeE S i s = 0 := by simp [writeE, hs, hu, hb, hf0]
  have hP : writeP S i s = { S with fuse := fz, writes := wrap64 (S.writes + 1), wait := S.wait ++ [(i, s)] } := by rw [hfz]; simp only [writeP, hs, if_true, hu, hb, hf0, if_false, Int.toNat_natCast]
  obtain ⟨j0, hj, hy0, hy1, hy2⟩ := info_parts info_rwrite
  have hfr := hp.fuse
  have key : ∃ w1, RefAt w1 F B (.slice oa S.kept.length ca) dv wv ks ds { S with fuse := fz } ∧ Touch F w w1 ∧ ((S.fuse = -1 ∧ w1 = w) ∨ (0 < S.fuse ∧ w.setCell ⟨B, 3, none⟩ (.int .i64 (S.fuse - 1)) = w1)) := by
    by_cases h1 : S.fuse = -1
    · refine ⟨w, ?_, Touch.refl _ _, .inl ⟨h1, rfl⟩⟩
      rw [hfz, if_pos h1, ← h1]; exact hp
    · refine ⟨_, ?_, (Touch.refl _ _).setCell B 3 (.int .i64 (S.fuse - 1)) (.inl hp.fB), .inr ⟨by omega, rfl⟩⟩
      rw [hfz, if_neg h1]; exact hp.setFuse (S.fuse - 1) (by omega)
  obtain ⟨w1, hp1, ht1, hway⟩ := key
  have d6 := hp1.c6
  have e6 : w1.frozen? ⟨B, 6, none⟩ = false := hp1.row.frozen 6
  have hp2 := hp1.setWrites (wrap64 (S.writes + 1))
  have ht2 := ht1.setCell B 6 (.int .i64 (wrap64 (S.writes + 1))) (.inl hp.fB)
  obtain ⟨w2, hw2⟩ : ∃ w2, w1.setCell ⟨B, 6, none⟩ (.int .i64 (wrap64 (S.writes + 1))) = w2 := ⟨_, rfl⟩
  rw [hw2] at hp2 ht2
  obtain ⟨S2, hS2⟩ : ∃ S2 : PS, S2 = { S with fuse := fz, writes := wrap64 (S.writes + 1) } := ⟨_, rfl⟩
  have hp2' : RefAt w2 F B (.slice oa S.kept.length ca) dv wv ks ds S2 := by rw [hS2]; exact hp2
  have hP' : writeP S i s = { S2 with wait := S2.wait ++ [(i, s)] } := by rw [hP, hS2]
  have hk2 : S2.kept.length = S.kept.length := by rw [hS2]
  have hl2 : S2.wait.length ≤ 1000000 := by rw [hS2]; exact hw
  obtain ⟨ob, cb, rfl⟩ := hp2'.wform
  have HK : Hid (RefAt w2 F B (.slice oa S.kept.length ca) dv (.slice ob S2.wait.length cb) ks ds S2 ∧ Touch F w w2 ∧ writeE S i s = 0 ∧ writeP S i s = { S2 with wait := S2.wait ++ [(i, s)] }) := ⟨hp2', ht2, hE, hP'⟩
  have d2 := hp2'.c2
  have f3 : w.frozen? ⟨B, 3, none⟩ = false := hp.row.frozen 3
  have hi2 : i < S2.kept.length := by omega
  clear hp hp1 hp2 hp2' ht1 ht2 hE hP hP' hS2 hfz hu hb
  have hway' : (S.fuse = -1 ∧ w1 = w) ∨ (0 < S.fuse ∧ w.setCell ⟨B, 3, none⟩ (.int .i64 (S.fuse - 1)) = w1) := hway
  clear hway
  rcases hway' with ⟨hm, rfl⟩ | ⟨hm, hw3⟩
  case' inl =>
    rw [hm] at c3
    go_enter Tryz.func118, Tryz.ntmps118
    go_wp2_with fail
    refine hhas.mono ?_
    rintro e w9 ⟨rfl, rfl⟩
    clear hhas
  case' inr =>
    have hq2 : IntKind.i64.wrap (S.fuse - 1) = S.fuse - 1 := by rw [IntKind.wrap_i64]; omega
    go_enter Tryz.func118, Tryz.ntmps118
    go_wp2_with fail
    refine hhas.mono ?_
    rintro e w9 ⟨rfl, rfl⟩
    clear hhas
  all_goals
    go_wp2_with (first | (at_builtin; refine wpList_append_own_at _ rfl _ _ 80 rfl 0 149 j0 (.agg #[.int .i64 0, .string ⟨#[]⟩]) 2 24 Tryz.underlying80 hj hy0 hy1 hy2 rfl (by decide) (.slice ob S2.wait.length cb) S2.wait.length (waitC S2.wait) rfl (owns_keep HK.out.1.wait fun g hg => Below.heap_alloc w2 _ g (owns_lt HK.out.1.wait g hg)) ⟨w2.heap.size, 0, none⟩ 1 1 [.int .i64 (i : Nat), .string s] rfl rfl (World.news_of_block (heap_alloc_new w2 _)) (by intro u hu; simp at hu; rcases hu with rfl | rfl <;> rfl) (by unfold maxLen; omega) (by omega) (Nat.zero_le _) ?_))
    intro v1 wB hown1 hgrow1 _ hat1
    obtain ⟨g1, cap1, rfl, hgc, _⟩ := owns_form hown1 (by omega)
    have hA2 := HK.out.1.keep (w' := w2.alloc (.cells #[.int .i64 (i : Nat), .string s] 149)) (fun k hk _ => Below.heap_alloc w2 _ k hk)
    have hTB : Touch F w9 (w2.alloc (.cells #[.int .i64 (i : Nat), .string s] 149)) := ⟨HK.out.2.1.1.alloc (Nat.zero_le _) _, fun k hk hn => (Below.heap_alloc w2 _ k (Nat.lt_of_lt_of_le hk HK.out.2.1.size)).trans (HK.out.2.1.2 k hk hn)⟩
    obtain ⟨x1, x2, hmid, hT3⟩ := hA2.appended hTB hi2 hs hown1 hgrow1 (by rw [show (w2.alloc (.cells #[.int .i64 (i : Nat), .string s] 149)).heap.size = w2.heap.size + 1 by simp]; exact hat1)
    obtain ⟨w5, hw5⟩ : ∃ w5, wB.setCell ⟨B, 2, none⟩ (.slice (some ⟨g1, 0, none⟩) (S2.wait.length + 1) cap1) = w5 := ⟨_, rfl⟩
    rw [hw5] at hmid hT3
    have HF : Hid (RefP w5 (grow F w9 w5) B (writeP S i s) ∧ Touch F w9 w5) := ⟨by rw [HK.out.2.2.2]; exact ⟨_, _, _, _, _, hmid⟩, hT3⟩
    clear hmid hT3 hA2 hTB hown1 hgrow1 hat1
    go_wp2
    go_ret
    exact ⟨by rw [HK.out.2.2.1]; rfl, HF.out.1, HF.out.2⟩
end Go.Proofs.YtoopaigpjefonaaGreatDoor
