/- A script that came in: a slice of steps, each with a slice of truth values of its own. · The law's step: both devices do a step, answer alike, and stand alike behind it. · The laws' body, and chapter 6's first example. · Both devices, plate's and the document's, behind the same marks: the laws' both. · The document's Get and Put of a block, at a device that lies in memory. · The document's Put of a block, at a device that lies in memory. · The document's put, flush and ended. · A device of the document's within a call: where it lies, what is kept beside it. · The document's Layout. · The document's Live. · The document's Noughts, called with a number from 0 to 4096, tells so many bytes 0, and changes nothing that was there. · The document's Format. -/
import Derived.Test.YtoopaigpjefonaaGreatDoorMg22
import Derived.Test.YtoopaigpjefonaaGreatDoorMg05
import Derived.Test.YtoopaigpjefonaaGreatDoorMg08
import Derived.Test.YtoopaigpjefonaaGreatDoorMg21
import Derived.Test.YtoopaigpjefonaaGreatDoorMg13
import Derived.Test.YtoopaigpjefonaaGreatDoorMg11
import Derived.Test.YtoopaigpjefonaaGreatDoorMg00
import Derived.Deep.RegionHeld3
import Derived.Deep.Cut
namespace Go.Proofs.YtoopaigpjefonaaGreatDoor
set_option maxRecDepth 20000
open Go.ChangeShapes Go.WideShapes Go.RowKit Go.Deep

structure OpT where
  kind : Int
  at_ : Int
  len : Int
  v : Nat
  kv : Value
  keep : List Bool
instance : Inhabited OpT := ⟨⟨0, 0, 0, 0, .slice none 0 0, []⟩⟩
structure OpAt (W : World) (g o : Nat) (x : OpT) : Prop where
  c0 : W.cell? ⟨g, o, none⟩ = some (.int .i64 x.kind)
  c1 : W.cell? ⟨g, o + 1, none⟩ = some (.int .i64 x.at_)
  c2 : W.cell? ⟨g, o + 2, none⟩ = some (.int .i64 x.len)
  c3 : W.cell? ⟨g, o + 3, none⟩ = some (.int .u8 (x.v : Nat))
  c4 : W.cell? ⟨g, o + 4, none⟩ = some x.kv
  bools : Bools W (fun k => W.heap.size ≤ k) x.kv x.keep
  wat : (Lit.int .i64 x.at_).wf = true
  byte : x.v < 256
def Ops (W : World) (v : Value) (l : List OpT) : Prop := (∃ oa cap, v = .slice oa 0 cap ∧ l = []) ∨ ∃ g o cap, v = .slice (some ⟨g, o, none⟩) l.length cap ∧ g < W.heap.size ∧ ∀ i x, l[i]? = some x → OpAt W g (o + i * 5) x

section
variable {H : Type} {enc : TypeId × Value → H} {W : World}
theorem field_at {n : Nat} {cs : List Value} {xs : List (DataW H × List MemPlace)} {fs : Array Field} (hf : ∀ (i : Nat) (f : Field), fs[i]? = some f → DataW.trod enc Tryz.prog W 0 (fun _ => true) true n f.type ((cs.drop f.offset).take (Tryz.prog.cellsOf f.type)) = xs[i]?)
    (i t o : Nat) (f : Field) (h0 : fs[i]? = some f) (h1 : f.type = t) (h2 : f.offset = o) (h3 : Tryz.prog.cellsOf t = 1) : DataW.trod enc Tryz.prog W 0 (fun _ => true) true n t ((cs.drop o).take 1) = xs[i]? := by
  subst h1 h2
  rw [← h3]
  exact hf i f h0
end
theorem Ops.form {W : World} {v : Value} {l : List OpT} (h : Ops W v l) : ∃ oa cap, v = .slice oa l.length cap := by
  rcases h with ⟨oa, cap, rfl, rfl⟩ | ⟨g, o, cap, rfl, _⟩
  · exact ⟨_, _, rfl⟩
  · exact ⟨_, _, rfl⟩
theorem Ops.get {W : World} {oa : Option Addr} {cap : Nat} {l : List OpT} (h : Ops W (.slice oa l.length cap) l) (hl : 0 < l.length) : ∃ g o, oa = some ⟨g, o, none⟩ ∧ g < W.heap.size ∧ ∀ i x, l[i]? = some x → OpAt W g (o + i * 5) x := by
  rcases h with ⟨oa', cap', e, e2⟩ | ⟨g, o, cap', e, hg, hx⟩
  · rw [e2] at hl; exact absurd hl (Nat.lt_irrefl 0)
  · cases e; exact ⟨g, o, rfl, hg, hx⟩
theorem Bools.form {W : World} {F : Nat → Prop} {v : Value} {l : List Bool} (h : Bools W F v l) : ∃ oa cap, v = .slice oa l.length cap := by
  rcases h with ⟨oa, cap, rfl, rfl⟩ | ⟨g, o, cap, rfl, _⟩
  · exact ⟨_, _, rfl⟩
  · exact ⟨_, _, rfl⟩
/-- What a step says, in a later world of the call. -/
theorem OpAt.later {W w' : World} {g o : Nat} {x : OpT} (h : OpAt W g o x) (hg : g < W.heap.size) (hb : Below W.heap.size W w') :
    w'.cell? ⟨g, o, none⟩ = some (.int .i64 x.kind) ∧ w'.cell? ⟨g, o + 1, none⟩ = some (.int .i64 x.at_) ∧ w'.cell? ⟨g, o + 2, none⟩ = some (.int .i64 x.len) ∧ w'.cell? ⟨g, o + 3, none⟩ = some (.int .u8 (x.v : Nat)) ∧ w'.cell? ⟨g, o + 4, none⟩ = some x.kv := by
  have hk := hb.block g hg
  refine ⟨?_, ?_, ?_, ?_, ?_⟩
  · rw [World.cell?_of_block (a := ⟨g, o, none⟩) hk]; exact h.c0
  · rw [World.cell?_of_block (a := ⟨g, o + 1, none⟩) hk]; exact h.c1
  · rw [World.cell?_of_block (a := ⟨g, o + 2, none⟩) hk]; exact h.c2
  · rw [World.cell?_of_block (a := ⟨g, o + 3, none⟩) hk]; exact h.c3
  · rw [World.cell?_of_block (a := ⟨g, o + 4, none⟩) hk]; exact h.c4
end Go.Proofs.YtoopaigpjefonaaGreatDoor

namespace Go.Proofs.YtoopaigpjefonaaGreatDoor
set_option maxRecDepth 20000
open Go.RowKit

/-- Two devices, plate's and the document's, in blocks of F, apart. -/
def PairF (w : World) (F : Nat → Prop) (B1 B2 : Nat) (S1 S2 : PS) : Prop := ∃ F1 F2, Plate w F1 B1 S1 ∧ RefP w F2 B2 S2 ∧ (∀ k, F1 k → F k) ∧ (∀ k, F2 k → F k) ∧ (∀ k, F1 k → ¬ F2 k) ∧ ∀ k, F1 k ∨ F2 k → k < w.heap.size
theorem PairF.keep {w w' : World} {F : Nat → Prop} {B1 B2 : Nat} {S1 S2 : PS} (h : PairF w F B1 B2 S1 S2) (hs : w.heap.size ≤ w'.heap.size) (hk : ∀ k, k < w.heap.size → F k → w'.heap[k]? = w.heap[k]?) : PairF w' F B1 B2 S1 S2 := by
  obtain ⟨F1, F2, h1, h2, s1, s2, dj, lt⟩ := h
  exact ⟨F1, F2, h1.keep fun k hk' hf => hk k hk' (s1 k hf), h2.keep fun k hk' hf => hk k hk' (s2 k hf), s1, s2, dj, fun k hf => Nat.lt_of_lt_of_le (lt k hf) hs⟩
theorem PairF.mono {w : World} {F F' : Nat → Prop} {B1 B2 : Nat} {S1 S2 : PS} (h : PairF w F B1 B2 S1 S2) (hF : ∀ k, k < w.heap.size → F k → F' k) : PairF w F' B1 B2 S1 S2 := by
  obtain ⟨F1, F2, h1, h2, s1, s2, dj, lt⟩ := h
  exact ⟨F1, F2, h1, h2, fun k hf => hF k (lt k (.inl hf)) (s1 k hf), fun k hf => hF k (lt k (.inr hf)) (s2 k hf), dj, lt⟩
theorem PairF.tight {w : World} {F : Nat → Prop} {B1 B2 : Nat} {S1 S2 : PS} (h : PairF w F B1 B2 S1 S2) : PairF w (fun k => F k ∧ k < w.heap.size) B1 B2 S1 S2 := h.mono fun _ hk hf => ⟨hf, hk⟩
theorem pairL {w w' : World} {F F1 F2 : Nat → Prop} {B1 B2 : Nat} {S1' S2 : PS} (h2 : RefP w F2 B2 S2) (s1 : ∀ k, F1 k → F k) (s2 : ∀ k, F2 k → F k) (dj : ∀ k, F1 k → ¬ F2 k) (lt : ∀ k, F1 k ∨ F2 k → k < w.heap.size) (hp : Plate w' (grow F1 w w') B1 S1') (ht : Touch F1 w w') : PairF w' (grow F w w') B1 B2 S1' S2 ∧ Touch F w w' :=
  ⟨⟨grow F1 w w', F2, hp, h2.keep fun k hk hf => ht.2 k hk fun h1 => dj k h1 hf, fun k hk => hk.elim (fun h => .inl (s1 k h)) .inr, fun k hk => .inl (s2 k hk), fun k hk hf => by
    rcases hk with h | h
    · exact dj k h hf
    · have := lt k (.inr hf); omega, fun k hk => by
    have hs := ht.size
    rcases hk with (h | h) | h
    · have := lt k (.inl h); omega
    · omega
    · have := lt k (.inr h); omega⟩, ht.mono s1⟩
theorem pairR {w w' : World} {F F1 F2 : Nat → Prop} {B1 B2 : Nat} {S1 S2' : PS} (h1 : Plate w F1 B1 S1) (s1 : ∀ k, F1 k → F k) (s2 : ∀ k, F2 k → F k) (dj : ∀ k, F1 k → ¬ F2 k) (lt : ∀ k, F1 k ∨ F2 k → k < w.heap.size) (hp : RefP w' (grow F2 w w') B2 S2') (ht : Touch F2 w w') : PairF w' (grow F w w') B1 B2 S1 S2' ∧ Touch F w w' :=
  ⟨⟨F1, grow F2 w w', h1.keep fun k hk hf => ht.2 k hk fun h2 => dj k hf h2, hp, fun k hk => .inl (s1 k hk), fun k hk => hk.elim (fun h => .inl (s2 k h)) .inr, fun k hf hk => by
    rcases hk with h | h
    · exact dj k hf h
    · have := lt k (.inl hf); omega, fun k hk => by
    have hs := ht.size
    rcases hk with h | (h | h)
    · have := lt k (.inl h); omega
    · have := lt k (.inr h); omega
    · omega⟩, ht.mono s2⟩
theorem pgrow_grow {F : Nat → Prop} {w w1 w2 : World} (h1 : w.heap.size ≤ w1.heap.size) (h2 : w1.heap.size ≤ w2.heap.size) (k : Nat) (h : grow (grow F w w1) w1 w2 k) : grow F w w2 k := by
  rcases h with (h | h) | h
  · exact .inl h
  · exact .inr ⟨h.1, by omega⟩
  · exact .inr ⟨by omega, h.2⟩
/-- Further on from where a step began. -/
structure Far (F : Nat → Prop) (w wc : World) (B1 B2 : Nat) (S1 S2 : PS) : Prop where
  pair : PairF wc (grow F w wc) B1 B2 S1 S2
  touch : Touch F w wc
theorem Far.left {F : Nat → Prop} {w wc : World} {B1 B2 f : Nat} {args : Array Value} {S1 S2 S1' : PS} {R : Ending → Prop} (h : Far F w wc B1 B2 S1 S2)
    (hc : ∀ F1, Plate wc F1 B1 S1 → Calls Tryz.prog f args wc fun e w' => R e ∧ Plate w' (grow F1 wc w') B1 S1' ∧ Touch F1 wc w') : Calls Tryz.prog f args wc fun e w' => R e ∧ Far F w w' B1 B2 S1' S2 := by
  obtain ⟨F1, F2, h1, h2, s1, s2, dj, lt⟩ := h.pair
  refine (hc F1 h1).mono fun e w' ⟨he, hp, ht⟩ => ?_
  obtain ⟨q1, q2⟩ := pairL h2 s1 s2 dj lt hp ht
  exact ⟨he, q1.mono fun k _ hk => pgrow_grow h.touch.size ht.size k hk, h.touch.trans q2⟩
theorem Far.right {F : Nat → Prop} {w wc : World} {B1 B2 f : Nat} {args : Array Value} {S1 S2 S2' : PS} {R : Ending → Prop} (h : Far F w wc B1 B2 S1 S2)
    (hc : ∀ F2, RefP wc F2 B2 S2 → Calls Tryz.prog f args wc fun e w' => R e ∧ RefP w' (grow F2 wc w') B2 S2' ∧ Touch F2 wc w') : Calls Tryz.prog f args wc fun e w' => R e ∧ Far F w w' B1 B2 S1 S2' := by
  obtain ⟨F1, F2, h1, h2, s1, s2, dj, lt⟩ := h.pair
  refine (hc F2 h2).mono fun e w' ⟨he, hp, ht⟩ => ?_
  obtain ⟨q1, q2⟩ := pairR h1 s1 s2 dj lt hp ht
  exact ⟨he, q1.mono fun k _ hk => pgrow_grow h.touch.size ht.size k hk, h.touch.trans q2⟩
theorem Far.below {F : Nat → Prop} {w wc w' : World} {B1 B2 : Nat} {S1 S2 : PS} (h : Far F w wc B1 B2 S1 S2) (hb : Below wc.heap.size wc w') : Far F w w' B1 B2 S1 S2 :=
  ⟨(h.pair.keep hb.size fun k hk _ => hb.block k hk).mono fun _ _ hk => hk.elim .inl fun x => .inr ⟨x.1, Nat.lt_of_lt_of_le x.2 hb.size⟩, h.touch.trans (Touch.of_below hb)⟩
theorem Far.gone {F : Nat → Prop} {w wc : World} {B1 B2 f : Nat} {args : Array Value} {S1 S2 : PS} {R : Ending → Prop} (h : Far F w wc B1 B2 S1 S2) (hc : ∀ F1, Plate wc F1 B1 S1 → Calls Tryz.prog f args wc fun e w' => R e ∧ w' = wc) : Calls Tryz.prog f args wc fun e w' => R e ∧ w' = wc := by
  obtain ⟨F1, F2, h1, _⟩ := h.pair
  exact hc F1 h1
theorem Far.goneR {F : Nat → Prop} {w wc : World} {B1 B2 f : Nat} {args : Array Value} {S1 S2 : PS} {R : Ending → Prop} (h : Far F w wc B1 B2 S1 S2) (hc : ∀ F2, RefP wc F2 B2 S2 → Calls Tryz.prog f args wc fun e w' => R e ∧ w' = wc) : Calls Tryz.prog f args wc fun e w' => R e ∧ w' = wc := by
  obtain ⟨F1, F2, _, h2, _⟩ := h.pair
  exact hc F2 h2
theorem bools_far {w wc : World} {F F1 : Nat → Prop} {kv : Value} {l : List Bool} (h : Bools w F kv l) (hc : ∀ k, k < w.heap.size → ¬ F k → wc.heap[k]? = w.heap[k]?) (hs : w.heap.size ≤ wc.heap.size) (hF : ∀ k, k < w.heap.size → F1 k → F k) : Bools wc F1 kv l := by
  rcases h with h | ⟨g, o, cap, rfl, hg, hf, hx⟩
  · exact .inl h
  · exact .inr ⟨g, o, cap, rfl, Nat.lt_of_lt_of_le hg hs, fun x => hf (hF g hg x), fun i b hi => by rw [World.cell?_of_block (a := ⟨g, o + i, none⟩) (hc g hg hf)]; exact hx i b hi⟩
theorem Far.leftF {F : Nat → Prop} {w wc : World} {B1 B2 f : Nat} {args : Array Value} {S1 S2 S1' : PS} {R : Ending → Prop} (h : Far F w wc B1 B2 S1 S2)
    (hc : ∀ F1, (∀ k, F1 k → grow F w wc k) → Plate wc F1 B1 S1 → Calls Tryz.prog f args wc fun e w' => R e ∧ Plate w' (grow F1 wc w') B1 S1' ∧ Touch F1 wc w') : Calls Tryz.prog f args wc fun e w' => R e ∧ Far F w w' B1 B2 S1' S2 := by
  obtain ⟨F1, F2, h1, h2, s1, s2, dj, lt⟩ := h.pair
  refine (hc F1 s1 h1).mono fun e w' ⟨he, hp, ht⟩ => ?_
  obtain ⟨q1, q2⟩ := pairL h2 s1 s2 dj lt hp ht
  exact ⟨he, q1.mono fun k _ hk => pgrow_grow h.touch.size ht.size k hk, h.touch.trans q2⟩
theorem Far.rightF {F : Nat → Prop} {w wc : World} {B1 B2 f : Nat} {args : Array Value} {S1 S2 S2' : PS} {R : Ending → Prop} (h : Far F w wc B1 B2 S1 S2)
    (hc : ∀ F2, (∀ k, F2 k → grow F w wc k) → RefP wc F2 B2 S2 → Calls Tryz.prog f args wc fun e w' => R e ∧ RefP w' (grow F2 wc w') B2 S2' ∧ Touch F2 wc w') : Calls Tryz.prog f args wc fun e w' => R e ∧ Far F w w' B1 B2 S1 S2' := by
  obtain ⟨F1, F2, h1, h2, s1, s2, dj, lt⟩ := h.pair
  refine (hc F2 s2 h2).mono fun e w' ⟨he, hp, ht⟩ => ?_
  obtain ⟨q1, q2⟩ := pairR h1 s1 s2 dj lt hp ht
  exact ⟨he, q1.mono fun k _ hk => pgrow_grow h.touch.size ht.size k hk, h.touch.trans q2⟩
theorem plate_grow {w w' : World} {F : Nat → Prop} {B : Nat} {S : PS} (h : Plate w' F B S) : Plate w' (grow F w w') B S := h.mono fun _ _ h => .inl h
theorem ref_grow {w w' : World} {F : Nat → Prop} {B : Nat} {S : PS} (h : RefP w' F B S) : RefP w' (grow F w w') B S := h.mono fun _ _ h => .inl h

/-- How long a step's text is. -/
def someN (n : Int) : Nat := if n < 0 ∨ 200 < n then 64 else n.toNat
theorem someN_le (n : Int) : someN n ≤ 200 := by unfold someN; split <;> omega
def stepP (S : PS) (x : OpT) : PS :=
  if x.kind = 1 then readP S x.at_ else if x.kind = 3 then writeP S x.at_ (fillS x.v (someN x.len)) else if x.kind = 4 then flushP S else if x.kind = 5 then armP S x.at_ else if x.kind = 6 then startP x.keep S
  else if x.kind = 7 then layP S x.at_ (fillS x.v (someN x.len)) else if x.kind = 8 then spoilP S x.at_ else S
def opV (x : OpT) : Value := .agg #[.int .i64 x.kind, .int .i64 x.at_, .int .i64 x.len, .int .u8 (x.v : Nat), x.kv]

theorem step_wait (S : PS) (x : OpT) : (stepP S x).wait.length ≤ S.wait.length + 1 := by
  unfold stepP readP flushP armP layP spoilP writeP startP settleP
  repeat' split
  all_goals simp
end Go.Proofs.YtoopaigpjefonaaGreatDoor

namespace Go.Proofs.YtoopaigpjefonaaGreatDoor
set_option maxRecDepth 20000
open Go.RowKit Go.Lib

def cut448 (s : ByteArray) : ByteArray := if 448 < s.size then s.extract 0 448 else s
theorem cut448_size (s : ByteArray) : (cut448 s).size ≤ 448 := by
  unfold cut448
  split
  · simp; omega
  · omega
def bodyS (s : ByteArray) : ByteArray := cut448 s ++ noughtsS (448 - (cut448 s).size)
theorem bodyS_size (s : ByteArray) : (bodyS s).size = 448 := by
  have := cut448_size s
  unfold bodyS
  rw [ByteArray.size_append, noughtsS_size]
  omega
def h9 : Hd := ⟨0, 9, 0, 0, 0, 0, 0, 0⟩
theorem h9_err : h9.err = 0 := by decide
theorem new_one (h : Hd) (s : ByteArray) : numOf (addN newV.seals (h.four s)) (h.four s) = 1 := by
  rw [numOf_add]
  rfl
/-- A block that was sealed by a new vault. -/
theorem new_seal (h : Hd) (s : ByteArray) (e : h.err = 0) (hs : s.size = 448) : bsealS newV h s = blkS h s 1 ∧ bsealE h s = 0 ∧ bsealP newV h s = ⟨[], [], [h.four s]⟩ := by
  have hB : bsealB h s = true := by simp [bsealB, hs, e]
  refine ⟨?_, by simp [bsealE, hs, e], ?_⟩
  · unfold bsealS; rw [hB, if_pos rfl, new_one]
  · unfold bsealP; rw [hB, if_pos rfl]; rfl
theorem new_opens (h : Hd) (s : ByteArray) (e : h.err = 0) (hs : s.size = 448) : bopenE ⟨[], [], [h.four s]⟩ (blkS h s 1) = 0 ∧ bopenH ⟨[], [], [h.four s]⟩ (blkS h s 1) = h ∧ bopenS ⟨[], [], [h.four s]⟩ (blkS h s 1) = s := by
  have h1 : numOf [h.four s] (h.four s) = 1 := by simp [numOf]
  have := bopen_blk ⟨[], [], [h.four s]⟩ h s (by show (1 : Nat) ≤ _; omega) e hs (by show numOf [h.four s] (h.four s) ≠ 0; rw [h1]; omega)
  rw [show numOf (VS.mk [] [] [h.four s]).seals (h.four s) = 1 from h1] at this
  exact this
theorem field_ok (ok : Bool) (x0 x1 x2 x3 x4 x5 x6 x7 : Int) (s : ByteArray) (w : World) : (Instr.field 125 (.agg #[.bool ok, .int .i64 x0, .int .i64 x1, .int .i64 x2, .int .i64 x3, .int .i64 x4, .int .i64 x5, .int .i64 x6, .int .i64 x7, .string s]) 0).run Tryz.prog w = .ok (.bool ok) w := by kernel_rfl
end Go.Proofs.YtoopaigpjefonaaGreatDoor

namespace Go.Proofs.YtoopaigpjefonaaGreatDoor
set_option maxRecDepth 20000
open Go.ChangeShapes Go.WideShapes Go.RowKit Go.Deep

structure MarkV where
  kind : Int
  at_ : Int
  v : Int
instance : Inhabited MarkV := ⟨⟨0, 0, 0⟩⟩
structure MarkV.Ok (x : MarkV) : Prop where
  kind : (Lit.int .i64 x.kind).wf = true
  at_ : (Lit.int .i64 x.at_).wf = true
  v : (Lit.int .u8 x.v).wf = true
def MarkV.cells (x : MarkV) : List Value := [.int .i64 x.kind, .int .i64 x.at_, .int .u8 x.v]
structure MarkVAt (W : World) (g o : Nat) (x : MarkV) : Prop where
  c0 : W.cell? ⟨g, o, none⟩ = some (.int .i64 x.kind)
  c1 : W.cell? ⟨g, o + 1, none⟩ = some (.int .i64 x.at_)
  c2 : W.cell? ⟨g, o + 2, none⟩ = some (.int .u8 x.v)
def MarkVs (W : World) (v : Value) (l : List MarkV) : Prop := (∃ oa cap, v = .slice oa 0 cap ∧ l = []) ∨ ∃ g o cap, v = .slice (some ⟨g, o, none⟩) l.length cap ∧ g < W.heap.size ∧ ∀ i x, l[i]? = some x → MarkVAt W g (o + i * 3) x
theorem MarkVs.form {W : World} {v : Value} {l : List MarkV} (h : MarkVs W v l) : ∃ oa cap, v = .slice oa l.length cap := by
  rcases h with ⟨oa, cap, rfl, rfl⟩ | ⟨g, o, cap, rfl, _⟩
  · exact ⟨oa, cap, rfl⟩
  · exact ⟨_, cap, rfl⟩
theorem MarkVs.get {W : World} {oa : Option Addr} {cap : Nat} {l : List MarkV} (h : MarkVs W (.slice oa l.length cap) l) {i : Nat} (hi : i < l.length) : ∃ g o, oa = some ⟨g, o, none⟩ ∧ g < W.heap.size ∧ ∀ j x, l[j]? = some x → MarkVAt W g (o + j * 3) x := by
  rcases h with ⟨oa', cap', e, rfl⟩ | ⟨g, o, cap', e, hg, hx⟩
  · simp at hi
  · simp only [Value.slice.injEq] at e
    exact ⟨g, o, e.1, hg, hx⟩
theorem MarkVAt.keep {W W' : World} {g o : Nat} {x : MarkV} (h : MarkVAt W g o x) (k : W'.heap[g]? = W.heap[g]?) : MarkVAt W' g o x := ⟨(World.cell?_of_block (a := ⟨g, o, none⟩) k).trans h.c0, (World.cell?_of_block (a := ⟨g, o + 1, none⟩) k).trans h.c1, (World.cell?_of_block (a := ⟨g, o + 2, none⟩) k).trans h.c2⟩
section
variable {H : Type} {enc : TypeId × Value → H} {W : World}
theorem markv_add_plain (b o j : Nat) : (⟨b, o, none⟩ : Addr).add j = ⟨b, o + j, none⟩ := by unfold Addr.add; split <;> simp_all
end
section
variable {H : Type} {enc : TypeId × Value → H} {W : World}
end
/-- Both devices, in blocks from base on. -/
def Pr (base : Nat) (w : World) (B1 B2 : Nat) (S1 S2 : PS) : Prop := PairF w (fun k => base ≤ k) B1 B2 S1 S2
theorem Pr.below {base : Nat} {w w' : World} {B1 B2 : Nat} {S1 S2 : PS} (h : Pr base w B1 B2 S1 S2) (hb : Below w.heap.size w w') : Pr base w' B1 B2 S1 S2 := h.keep hb.size fun k hk _ => hb.block k hk
theorem Pr.left {base : Nat} {wc : World} {B1 B2 f : Nat} {args : Array Value} {S1 S2 S1' : PS} {R : Ending → Prop} (h : Pr base wc B1 B2 S1 S2) (hb : base ≤ wc.heap.size)
    (hc : ∀ F1, (∀ k, F1 k → base ≤ k) → Plate wc F1 B1 S1 → Calls Tryz.prog f args wc fun e w' => R e ∧ Plate w' (grow F1 wc w') B1 S1' ∧ Touch F1 wc w') : Calls Tryz.prog f args wc fun e w' => R e ∧ Pr base w' B1 B2 S1' S2 ∧ Below base wc w' := by
  have hf : Far (fun k => base ≤ k) wc wc B1 B2 S1 S2 := ⟨h.mono fun _ _ hk => .inl hk, Touch.refl _ _⟩
  refine (hf.leftF (R := R) fun F1 hF hp => hc F1 (fun k hk => (hF k hk).elim id fun x => by omega) hp).mono fun e w' ⟨he, h1⟩ => ?_
  exact ⟨he, h1.pair.mono fun k _ hk => hk.elim id fun x => Nat.le_trans hb x.1, h1.touch.below hb fun k hk => hk⟩
theorem Pr.right {base : Nat} {wc : World} {B1 B2 f : Nat} {args : Array Value} {S1 S2 S2' : PS} {R : Ending → Prop} (h : Pr base wc B1 B2 S1 S2) (hb : base ≤ wc.heap.size)
    (hc : ∀ F2, RefP wc F2 B2 S2 → Calls Tryz.prog f args wc fun e w' => R e ∧ RefP w' (grow F2 wc w') B2 S2' ∧ Touch F2 wc w') : Calls Tryz.prog f args wc fun e w' => R e ∧ Pr base w' B1 B2 S1 S2' ∧ Below base wc w' := by
  have hf : Far (fun k => base ≤ k) wc wc B1 B2 S1 S2 := ⟨h.mono fun _ _ hk => .inl hk, Touch.refl _ _⟩
  refine (hf.right (R := R) fun F2 hp => hc F2 hp).mono fun e w' ⟨he, h1⟩ => ?_
  exact ⟨he, h1.pair.mono fun k _ hk => hk.elim id fun x => Nat.le_trans hb x.1, h1.touch.below hb fun k hk => hk⟩
theorem layP_wait (S : PS) (a : Int) (s : ByteArray) : (layP S a s).wait = S.wait ∧ (layP S a s).kept.length = S.kept.length := by
  unfold layP; split
  · split
    · exact ⟨rfl, List.length_set ..⟩
    · exact ⟨rfl, rfl⟩
  · exact ⟨rfl, rfl⟩
theorem spoilP_wait (S : PS) (a : Int) : (spoilP S a).wait = S.wait ∧ (spoilP S a).kept.length = S.kept.length := by
  unfold spoilP; split
  · exact ⟨rfl, List.length_set ..⟩
  · exact ⟨rfl, rfl⟩
theorem writeP_wait (S : PS) (a : Int) (s : ByteArray) : (writeP S a s).wait.length ≤ S.wait.length + 1 ∧ (writeP S a s).kept.length = S.kept.length := by
  unfold writeP
  split
  · split
    · split
      · split
        · exact ⟨Nat.le_succ _, rfl⟩
        · exact ⟨by simp, rfl⟩
      · exact ⟨Nat.le_succ _, rfl⟩
    · exact ⟨Nat.le_succ _, rfl⟩
  · exact ⟨Nat.le_succ _, rfl⟩
/-- So many bytes have been filled in. -/
def fillF (v j : Nat) (k : Nat) : Value := .int .u8 ((if k < j then v else 0 : Nat) : Int)
theorem fill_get (n v i : Nat) (h : i < n) : ((List.replicate n v).map fun (x : Nat) => (x : Int)).getD i 0 = (v : Int) := by
  rw [List.map_replicate, List.getD_eq_getElem?_getD, List.getElem?_replicate, if_pos h]
  rfl
theorem fillF_step (v j k : Nat) : (if k = j then Value.int .u8 (v : Int) else fillF v j k) = fillF v (j + 1) k := by
  unfold fillF
  by_cases e : k = j
  · rw [if_pos e, if_pos (by omega)]
  · rw [if_neg e]
    by_cases h : k < j
    · rw [if_pos h, if_pos (by omega)]
    · rw [if_neg h, if_neg (by omega)]
end Go.Proofs.YtoopaigpjefonaaGreatDoor

namespace Go.Proofs.YtoopaigpjefonaaGreatDoor
set_option maxRecDepth 20000
open Go.RowKit

theorem readE_has {S : PS} {x : Int} (h : hasB S x = true) : readE S x = 0 ∨ readE S x = 20 ∨ readE S x = 21 := by
  unfold readE heldE
  rw [h]
  simp only [if_true]
  split
  · split
    · exact .inl rfl
    · split
      · exact .inr (.inr rfl)
      · exact .inl rfl
  · exact .inr (.inl rfl)
theorem rreadS_size {w : World} {F : Nat → Prop} {B : Nat} {S : PS} (hp : RefP w F B S) (x : Int) : (readS S x).size ≤ 64 := by
  obtain ⟨kv, dv, wv, ks, ds, h⟩ := hp
  have hk : (keptS S x).size ≤ 64 := by
    unfold keptS
    rw [List.getD_eq_getElem?_getD]
    by_cases hi : x.toNat < S.kept.length
    · rw [h.says _ hi]
      simp only [Option.getD_some]
      split
      · decide
      · rw [List.getD_eq_getElem?_getD]
        by_cases hj : x.toNat < ks.length
        · rw [List.getElem?_eq_getElem hj]
          have := h.texts _ (List.getElem_mem hj)
          simp
          omega
        · rw [List.getElem?_eq_none (by omega)]
          decide
    · rw [List.getElem?_eq_none (by omega)]
      decide
  have hh : (heldS S x).size ≤ 64 := by
    unfold heldS
    split
    · exact hk
    · decide
  unfold readS
  split
  · split
    · cases ht : textOf S.wait x.toNat with
      | none => exact hh
      | some u =>
        have h2 : u.size = 64 := (h.ats _ (List.mem_reverse.1 (textR_mem ht))).2
        simp only [Option.getD_some]
        omega
    · decide
  · decide
theorem RefP.c0 {w : World} {F : Nat → Prop} {B : Nat} {S : PS} (hp : RefP w F B S) : ∃ oa cap, w.cell? ⟨B, 0, none⟩ = some (.slice oa S.kept.length cap) ∧ S.kept.length ≤ 32768 := by
  obtain ⟨kv, dv, wv, ks, ds, h⟩ := hp
  obtain ⟨oa, cap, rfl⟩ := h.kform
  exact ⟨oa, cap, Row.cell h.row 0, h.most⟩
end Go.Proofs.YtoopaigpjefonaaGreatDoor

namespace Go.Proofs.YtoopaigpjefonaaGreatDoor
set_option maxRecDepth 20000
open Go.RowKit

theorem ref_grown {w w1 w2 : World} {F : Nat → Prop} {B : Nat} {S : PS} (h : RefP w2 (grow (grow F w w1) w1 w2) B S) (h1 : w.heap.size ≤ w1.heap.size) (h2 : w1.heap.size ≤ w2.heap.size) : RefP w2 (grow F w w2) B S := h.mono fun k _ hk => grow_grow h1 h2 k hk
set_option maxHeartbeats 4000000 in
theorem rbput_any (B : Nat) (F : Nat → Prop) (S : PS) (at_ : Int) (r : ByteArray) (w : World) (hp : RefP w F B S) (hw : S.wait.length ≤ 900000) :
    Calls Tryz.prog 71 #[.pointer (some ⟨B, 0, none⟩), .int .i64 at_, .string r] w fun e w' => e = .returned (.int .i64 (bputE S at_ r)) ∧ RefP w' (grow F w w') B (bputP S at_ r) ∧ Touch F w w' := by
  by_cases hr : r.size = 512
  · obtain ⟨oa, cap, c0, hm⟩ := hp.c0
    obtain ⟨n, hn⟩ : ∃ n, n = S.kept.length := ⟨_, rfl⟩
    rw [← hn] at c0 hm
    obtain ⟨nb, hnb⟩ : ∃ nb : Nat, nb = n / 8 := ⟨_, rfl⟩
    have d8 : (n : Int) / 8 = (nb : Int) := by omega
    have hr2 : (r.size : Int) = 512 := by omega
    have HSZ : Hid (r.size = 512) := hr
    cases hb : bhasB S at_
    · have hno : ¬ (0 ≤ at_ ∧ at_ < (nb : Int)) := by
        have := of_decide_eq_false hb
        rwa [← hn, ← hnb] at this
      have HF : Hid ((bputE S at_ r = 2 ∧ bputP S at_ r = S) ∧ RefP w F B S) := ⟨by simp [bputE, bputP, hb, hr], hp⟩
      rw [HF.out.1.1, HF.out.1.2]
      clear hp hn hnb hr
      by_cases h0 : at_ < 0
      · clear hno
        go_enter Tryz.func71, Tryz.ntmps71
        go_wp2
        go_ret
        exact ⟨rfl, ref_grow HF.out.2, Touch.refl _ _⟩
      · have h1 : decide (at_ < 0) = false := decide_eq_false h0
        have h2 : (nb : Int) ≤ at_ := by omega
        clear hno
        go_enter Tryz.func71, Tryz.ntmps71
        go_wp2
        go_ret
        exact ⟨rfl, ref_grow HF.out.2, Touch.refl _ _⟩
    · have hb2 : 0 ≤ at_ ∧ at_ < (nb : Int) := by
        have := of_decide_eq_true hb
        rwa [← hn, ← hnb] at this
      obtain ⟨a, rfl⟩ : ∃ a : Nat, at_ = a := ⟨at_.toNat, by omega⟩
      have HR : Hid (bputE S (a : Int) r = (putGo r a 8 0 S).1 ∧ bputP S (a : Int) r = (putGo r a 8 0 S).2) := ⟨by simp [bputE, hb, hr], by simp [bputP, hb, hr]⟩
      rw [HR.out.1, HR.out.2]
      have ha : a < 4096 := by omega
      have h2 : decide (nb ≤ a) = false := decide_eq_false (by omega)
      obtain ⟨G, hG⟩ : ∃ G, putGo r a 8 0 S = G := ⟨_, rfl⟩
      rw [hG]
      have HG : Hid (putGo r a 8 0 S = G) := hG
      have HP : Hid (RefP w (grow F w w) B S) := ref_grow hp
      have HA2 : Hid (a < nb) := by show _ < _; omega
      clear hp hb HR hb2 hG hn hnb hr
      go_enter Tryz.func71, Tryz.ntmps71
      go_wp2_with fail
      go_loopw [7] (fun i wr => ∃ (j : Nat) (Sj : PS), j ≤ 8 ∧ i = .int .i64 (j : Int) ∧ putGo r a (8 - j) j Sj = G ∧ RefP wr (grow F w wr) B Sj ∧ Touch F w wr ∧ Sj.wait.length ≤ 900000 + j) (fun i _ => 8 - (intOf i).toNat)
      case atStart => exact ⟨0, S, by omega, rfl, HG.out, HP.out, Touch.refl _ _, by omega⟩
      case round =>
        clear HG HP c0
        obtain ⟨j, Sj, hj, rfl, hgo, hpj, htj, hwj⟩ := hrel
        by_cases hlt8 : j < 8
        · have j1 : (j : Int) < 8 := by omega
          obtain ⟨x, hx⟩ : ∃ x : Int, x = ((8 * a + j : Nat) : Int) := ⟨_, rfl⟩
          have HGO : Hid (putGo r a (8 - j) j Sj = if writeE Sj x (secS r j) = 0 then putGo r a (8 - (j + 1)) (j + 1) (writeP Sj x (secS r j)) else (writeE Sj x (secS r j), writeP Sj x (secS r j))) := by
            show _ = _
            rw [show 8 - j = (8 - (j + 1)) + 1 by omega, hx]
            rfl
          rw [HGO.out] at hgo
          have hwr := rwrite_any B (grow F w wr) Sj x (secS r j) wr hpj (by omega)
          have hwl : (writeP Sj x (secS r j)).wait.length ≤ 900000 + (j + 1) := by have := (writeP_len Sj x (secS r j)).2; omega
          have HWL : Hid ((writeP Sj x (secS r j)).wait.length ≤ 900000 + (j + 1)) := hwl
          have m4 : IntKind.i64.wrap (8 * (a : Int)) = 8 * (a : Int) := by rw [IntKind.wrap_i64]; omega
          have m5 : IntKind.i64.wrap (8 * (a : Int) + (j : Int)) = x := by rw [IntKind.wrap_i64]; omega
          have hex : r.extract (64 * j) (64 * j + 64) = secS r j := rfl
          have b1 : (64 : Int) * (j : Int) + 64 ≤ (r.size : Int) := by omega
          have b1' : (64 : Int) * (j : Int) + 64 ≤ 512 := by omega
          have b2 : (0 : Int) ≤ 64 * (j : Int) := by omega
          have b3 : (64 : Int) * (j : Int) ≤ 64 * (j : Int) + 64 := by omega
          have HT : Hid (Touch F w wr) := htj
          clear HGO hpj htj hx hwl
          generalize secS r j = sc at *
          generalize writeE Sj x sc = y at *
          generalize writeP Sj x sc = Sk at *
          by_cases hy : y = 0
          · subst hy
            rw [if_pos rfl] at hgo
            have HGO : Hid _ := hgo
            clear hgo
            go_wp2_with fail
            refine hwr.mono ?_
            rintro e w3 ⟨rfl, hp3, ht3⟩
            have HF : Hid (RefP w3 (grow F w w3) B Sk ∧ Touch F w w3) := ⟨ref_grown hp3 HT.out.size ht3.size, HT.out.trans ht3⟩
            clear hwr hp3 ht3 HT
            go_wp2
            go_roundw
            case rel => exact ⟨j + 1, Sk, by omega, by go_num, HGO.out, HF.out.1, HF.out.2, HWL.out⟩
            case measure => simp [intOf]; omega
          · have hyz : (y == 0) = false := by simp [hy]
            rw [if_neg hy] at hgo
            have HGO : Hid _ := hgo
            clear hgo
            go_wp2_with fail
            refine hwr.mono ?_
            rintro e w3 ⟨rfl, hp3, ht3⟩
            have HF : Hid (RefP w3 (grow F w w3) B Sk ∧ Touch F w w3) := ⟨ref_grown hp3 HT.out.size ht3.size, HT.out.trans ht3⟩
            clear hwr hp3 ht3 HT
            go_wp2
            go_ret
            rw [← HGO.out]
            exact ⟨rfl, HF.out⟩
        · obtain rfl : j = 8 := by omega
          have HF : Hid (((0 : Int), Sj) = G ∧ RefP wr (grow F w wr) B Sj ∧ Touch F w wr) := ⟨hgo, hpj, htj⟩
          clear hgo hpj htj
          go_wp2
          go_ret
          rw [← HF.out.1]
          exact ⟨rfl, HF.out.2⟩
  · have HF : Hid ((bputE S at_ r = 1 ∧ bputP S at_ r = S) ∧ RefP w F B S) := ⟨by simp [bputE, bputP, hr], hp⟩
    rw [HF.out.1.1, HF.out.1.2]
    have hr2 : ((r.size : Int) == 512) = false := by simp; omega
    clear hp
    go_enter Tryz.func71, Tryz.ntmps71
    go_wp2
    go_ret
    exact ⟨rfl, ref_grow HF.out.2, Touch.refl _ _⟩
end Go.Proofs.YtoopaigpjefonaaGreatDoor

namespace Go.Proofs.YtoopaigpjefonaaGreatDoor
set_option maxRecDepth 20000
open Go.RowKit

theorem same_refp {w w' : World} {F : Nat → Prop} {B : Nat} {S : PS} (h : RefP w F B S) (hb : Below w.heap.size w w') : RefP w' (grow F w w') B S := (h.keep fun k hk _ => hb.block k hk).mono fun _ _ h => .inl h
theorem rput12_any (B : Nat) (F : Nat → Prop) (S : PS) (ok : Bool) (a : Int) (r : ByteArray) (w : World) (h : RefP w F B S) (hw : S.wait.length ≤ 900000) :
    Calls Tryz.prog 35 #[.pointer (some ⟨B, 0, none⟩), .bool ok, .int .i64 a, .string r] w fun e w' => e = .returned (.bool (rputB ok S ⟨a, r⟩).1) ∧ RefP w' (grow F w w') B (rputB ok S ⟨a, r⟩).2 ∧ Touch F w w' := by
  cases ok with
  | false =>
    have HF : Hid (RefP w (grow F w w) B S ∧ Touch F w w) := ⟨same_refp h (Below.refl _ _), Touch.of_below (Below.refl _ _)⟩
    clear h hw
    go_enter Tryz.func35, Tryz.ntmps35
    go_wp2
    go_ret
    exact ⟨rfl, HF.out.1, HF.out.2⟩
  | true =>
    have h1 := rbput_any B F S a r w h hw
    have HE : Hid (rputB true S ⟨a, r⟩ = (decide (bputE S a r = 0), bputP S a r)) := rfl
    rw [HE.out]
    generalize bputE S a r = E at *
    generalize bputP S a r = S2 at *
    clear h hw HE
    go_enter Tryz.func35, Tryz.ntmps35
    go_wp2_with fail
    refine h1.mono ?_
    rintro e w1 ⟨rfl, hp1, ht1⟩
    have HF : Hid (RefP w1 (grow F w w1) B S2 ∧ Touch F w w1) := ⟨hp1, ht1⟩
    clear h1 hp1 ht1
    go_wp2
    go_ret
    exact ⟨rfl, HF.out.1, HF.out.2⟩
theorem rflush12_any (B : Nat) (F : Nat → Prop) (S : PS) (ok : Bool) (w : World) (h : RefP w F B S) (hw : S.wait.length ≤ 900000) :
    Calls Tryz.prog 37 #[.pointer (some ⟨B, 0, none⟩), .bool ok] w fun e w' => e = .returned (.bool (rflB ok S).1) ∧ RefP w' F B (rflB ok S).2 ∧ Touch F w w' := by
  cases ok with
  | false =>
    have HF : Hid (RefP w F B S ∧ Touch F w w) := ⟨h, Touch.of_below (Below.refl _ _)⟩
    clear h hw
    go_enter Tryz.func37, Tryz.ntmps37
    go_wp2
    go_ret
    exact ⟨rfl, HF.out.1, HF.out.2⟩
  | true =>
    have h1 := rflush_any B F S w h (by omega)
    have HE : Hid (rflB true S = (decide (flushE S = 0), flushP S)) := rfl
    rw [HE.out]
    generalize flushE S = E at *
    generalize flushP S = S2 at *
    clear h hw HE
    go_enter Tryz.func37, Tryz.ntmps37
    go_wp2_with fail
    refine h1.mono ?_
    rintro e w1 ⟨rfl, hp1, ht1⟩
    have HF : Hid (RefP w1 F B S2 ∧ Touch F w w1) := ⟨hp1, ht1⟩
    clear h1 hp1 ht1
    go_wp2
    go_ret
    exact ⟨rfl, HF.out.1, HF.out.2⟩
theorem rended_any (ok : Bool) (w : World) : Calls Tryz.prog 38 #[.bool ok] w fun e w' => e = .returned (.int .i64 (if ok = true then 0 else 20)) ∧ w' = w := by
  cases ok
  all_goals
    go_enter Tryz.func38, Tryz.ntmps38
    go_wp2
    go_ret
    exact ⟨rfl, rfl⟩
end Go.Proofs.YtoopaigpjefonaaGreatDoor

namespace Go.Proofs.YtoopaigpjefonaaGreatDoor
set_option maxRecDepth 20000
open Go.RowKit

structure RSt (K : Nat → Obj → Prop) (F : Nat → Prop) (w W : World) (B : Nat) (P : PS) : Prop where
  ex : ∃ F' : Nat → Prop, RefP W F' B P ∧ (∀ k, F' k → F k ∨ w.heap.size ≤ k) ∧ (∀ k, F' k → k < W.heap.size) ∧ ∀ g c, K g c → W.heap[g]? = some c ∧ ¬ F' g
  touch : Touch F w W
theorem RSt.size {K : Nat → Obj → Prop} {F : Nat → Prop} {w W : World} {B : Nat} {P : PS} (h : RSt K F w W B P) : w.heap.size ≤ W.heap.size := h.touch.size
theorem RSt.start {F : Nat → Prop} {w : World} {B : Nat} {P : PS} (h : RefP w F B P) (hlt : ∀ k, F k → k < w.heap.size) : RSt (fun _ _ => False) F w w B P := ⟨⟨F, h, fun _ hk => .inl hk, hlt, fun _ _ hk => hk.elim⟩, Touch.of_below (Below.refl _ _)⟩
theorem RSt.below {K : Nat → Obj → Prop} {F : Nat → Prop} {w W W' : World} {B : Nat} {P : PS} (h : RSt K F w W B P) (hb : Below W.heap.size W W') : RSt K F w W' B P := by
  obtain ⟨F', h1, h2, h3, h4⟩ := h.ex
  refine ⟨⟨F', h1.keep fun k hk _ => hb.block k hk, h2, fun k hk => Nat.lt_of_lt_of_le (h3 k hk) hb.size, fun g c hk => ?_⟩, ?_⟩
  · obtain ⟨q1, q2⟩ := h4 g c hk
    exact ⟨(hb.block g (lt_of_block q1)).trans q1, q2⟩
  · exact h.touch.trans ((Touch.of_below (F := F) hb).mono fun _ hk => .inl hk)
theorem RSt.hold {K : Nat → Obj → Prop} {F : Nat → Prop} {w W : World} {B : Nat} {P : PS} (h : RSt K F w W B P) {g : Nat} {c : Obj} (o : Obj) (he : o = c) (hg : g = W.heap.size) : RSt (fun k d => K k d ∨ (k = g ∧ d = c)) F w (W.alloc o) B P := by
  subst he hg
  have hb := bel_alloc W o
  obtain ⟨F3, r1, r2, r3, r4⟩ := h.ex
  refine ⟨⟨F3, r1.keep fun k hk _ => hb.block k hk, r2, fun k hk => Nat.lt_of_lt_of_le (r3 k hk) hb.size, fun k d hk => ?_⟩, (h.below hb).touch⟩
  rcases hk with hk | ⟨rfl, rfl⟩
  · obtain ⟨x1, x2⟩ := r4 k d hk
    exact ⟨(hb.block k (lt_of_block x1)).trans x1, x2⟩
  · exact ⟨heap_alloc_new W _, fun hk => by have := r3 _ hk; omega⟩
theorem RSt.step {K : Nat → Obj → Prop} {F : Nat → Prop} {w W W' : World} {B : Nat} {P P' : PS} (h : RSt K F w W B P) (hs : ∀ F', RefP W F' B P → (∀ k, F' k → k < W.heap.size) → RefP W' (grow F' W W') B P' ∧ Touch F' W W') : RSt K F w W' B P' := by
  obtain ⟨F', h1, h2, h3, h4⟩ := h.ex
  obtain ⟨s1, s2⟩ := hs F' h1 h3
  have hz := h.size
  refine ⟨⟨grow F' W W', s1, fun k hk => ?_, fun k hk => ?_, fun g c hk => ?_⟩, h.touch.trans (s2.mono fun k hk => ?_)⟩
  · rcases hk with hk | hk
    · exact h2 k hk
    · exact .inr (Nat.le_trans hz hk.1)
  · rcases hk with hk | hk
    · exact Nat.lt_of_lt_of_le (h3 k hk) s2.size
    · exact hk.2
  · obtain ⟨q1, q2⟩ := h4 g c hk
    have q3 := lt_of_block q1
    refine ⟨(s2.2 g q3 q2).trans q1, fun q => ?_⟩
    rcases q with q | q
    · exact q2 q
    · have := q.1; omega
  · exact (h2 k hk).imp id fun q => ⟨q, h3 k hk⟩
theorem RSt.get {K : Nat → Obj → Prop} {F : Nat → Prop} {w W : World} {B : Nat} {P : PS} (h : RSt K F w W B P) {g : Nat} {c : Obj} (hk : K g c) : W.heap[g]? = some c := by
  obtain ⟨F', _, _, _, h4⟩ := h.ex
  exact (h4 g c hk).1
theorem RSt.out {K : Nat → Obj → Prop} {F : Nat → Prop} {w W : World} {B : Nat} {P : PS} (h : RSt K F w W B P) : RefP W (grow F w W) B P ∧ Touch F w W := by
  obtain ⟨F', h1, h2, h3, _⟩ := h.ex
  refine ⟨h1.mono fun k hk hF => ?_, h.touch⟩
  rcases h2 k hF with q | q
  · exact .inl q
  · exact .inr ⟨q, hk⟩
theorem RSt.c0 {K : Nat → Obj → Prop} {F : Nat → Prop} {w W : World} {B : Nat} {P : PS} (h : RSt K F w W B P) : ∃ oa cap, W.cell? ⟨B, 0, none⟩ = some (.slice oa P.kept.length cap) ∧ P.kept.length ≤ 32768 := by
  obtain ⟨F', h1, _⟩ := h.ex
  exact h1.c0
theorem rputB_wait (b : Bool) (S : PS) (x : Wt) : (rputB b S x).2.wait.length ≤ S.wait.length + 8 := by
  unfold rputB
  split
  · exact (bput_wait S x.at_ x.raw).1
  · exact Nat.le_add_right _ _
theorem rflB_wait (b : Bool) (S : PS) : (rflB b S).2.wait.length ≤ S.wait.length := by
  unfold rflB
  split
  · exact flush_wait S
  · exact Nat.le_refl _
theorem RSt.put {K : Nat → Obj → Prop} {F : Nat → Prop} {w W : World} {B : Nat} {P : PS} (h : RSt K F w W B P) (ok : Bool) (a : Int) (r : ByteArray) (hw : P.wait.length ≤ 900000) :
    Calls Tryz.prog 35 #[.pointer (some ⟨B, 0, none⟩), .bool ok, .int .i64 a, .string r] W fun e W' => e = .returned (.bool (rputB ok P ⟨a, r⟩).1) ∧ RSt K F w W' B (rputB ok P ⟨a, r⟩).2 := by
  obtain ⟨F', h1, h2, h3, h4⟩ := h.ex
  refine (rput12_any B F' P ok a r W h1 hw).mono fun e W' ⟨he, hp, ht⟩ => ⟨he, ?_⟩
  have hz := h.size
  refine ⟨⟨grow F' W W', hp, fun k hk => ?_, fun k hk => ?_, fun g c hk => ?_⟩, h.touch.trans (ht.mono fun k hk => (h2 k hk).imp id fun q => ⟨q, h3 k hk⟩)⟩
  · rcases hk with hk | hk
    · exact h2 k hk
    · exact .inr (Nat.le_trans hz hk.1)
  · rcases hk with hk | hk
    · exact Nat.lt_of_lt_of_le (h3 k hk) ht.size
    · exact hk.2
  · obtain ⟨q1, q2⟩ := h4 g c hk
    have q3 := lt_of_block q1
    refine ⟨(ht.2 g q3 q2).trans q1, fun q => ?_⟩
    rcases q with q | q
    · exact q2 q
    · have := q.1; omega
theorem RSt.flush {K : Nat → Obj → Prop} {F : Nat → Prop} {w W : World} {B : Nat} {P : PS} (h : RSt K F w W B P) (ok : Bool) (hw : P.wait.length ≤ 900000) :
    Calls Tryz.prog 37 #[.pointer (some ⟨B, 0, none⟩), .bool ok] W fun e W' => e = .returned (.bool (rflB ok P).1) ∧ RSt K F w W' B (rflB ok P).2 := by
  obtain ⟨F', h1, h2, h3, h4⟩ := h.ex
  refine (rflush12_any B F' P ok W h1 hw).mono fun e W' ⟨he, hp, ht⟩ => ⟨he, ?_⟩
  refine ⟨⟨F', hp, h2, fun k hk => Nat.lt_of_lt_of_le (h3 k hk) ht.size, fun g c hk => ?_⟩, h.touch.trans (ht.mono fun k hk => (h2 k hk).imp id fun q => ⟨q, h3 k hk⟩)⟩
  obtain ⟨q1, q2⟩ := h4 g c hk
  exact ⟨(ht.2 g (lt_of_block q1) q2).trans q1, q2⟩
end Go.Proofs.YtoopaigpjefonaaGreatDoor

namespace Go.Proofs.YtoopaigpjefonaaGreatDoor
set_option maxRecDepth 20000
open Go.RowKit

theorem rlay_ret (tmps : Array Value) (w w' : World) (y : Int) (cs : Array Value) (h1 : tmps.getD 2 undef = .pointer (some ⟨w.heap.size, 0, none⟩)) (h3 : tmps.getD 3 undef = .int .i64 y) (hg : w'.heap[w.heap.size]? = some (.cells cs 51 (0, 0))) (hs : cs.size = 16) (hb : Below w.heap.size w w') :
    bodyPost Tryz.prog Tryz.f19 (fun e w'' => e = .returned (.tuple #[.agg cs, .int .i64 y]) ∧ Below w.heap.size w w'') .ret { tmps := tmps, defers := [] } w' := by
  have hr := run_loadVar_row (P := Tryz.prog) w' w.heap.size 51 51 cs (0, 0) _ hg Tryz.underlying51 rfl (by rw [hs]; kernel_rfl)
  simp at h1 h3
  exact bodyPost_ret (v := .tuple #[.agg cs, .int .i64 y]) (by simp [results, Tryz.results19, asAddr, hr, h1, h3]) rfl ⟨rfl, hb⟩
theorem rlayout_bad (n : Int) (hn : n < 48 ∨ 1024 < n) (w : World) :
    Calls Tryz.prog 19 #[.int .i64 n] w fun e w' => e = .returned (.tuple #[.agg layZ, .int .i64 1]) ∧ Below w.heap.size w w' := by
  unfold layZ
  rcases hn with h | h
  · go_enter Tryz.func19, Tryz.ntmps19
    go_wp2
    exact rlay_ret _ w _ 1 _ rfl rfl (heap_alloc_new w _) rfl ((Below.refl _ _).alloc (Nat.le_refl _) _)
  · have h0 : ¬ n < 48 := by omega
    go_enter Tryz.func19, Tryz.ntmps19
    go_wp2
    exact rlay_ret _ w _ 1 _ rfl rfl (heap_alloc_new w _) rfl ((Below.refl _ _).alloc (Nat.le_refl _) _)
set_option maxHeartbeats 2000000 in
theorem rlayout_any (n : Nat) (h0 : 48 ≤ n) (h1 : n ≤ 1024) (w : World) :
    Calls Tryz.prog 19 #[.int .i64 (n : Int)] w fun e w' => e = .returned (.tuple #[.agg (layA n (layQ n) (layS n) (layT n)), .int .i64 0]) ∧ Below w.heap.size w w' := by
  have i0 : ¬ (n : Int) < 48 := by omega
  have i1 : ¬ (1024 : Int) < n := by omega
  have r1 := rup_any (n / 8) 16 (by omega) (by decide) (by decide)
  have r2 := rup_any n 64 (by omega) (by decide) (by decide)
  have d1 : (n : Int) / 8 = ((layQ n : Nat) : Int) := rfl
  have b1 : layQ n ≤ 128 := by unfold layQ; omega
  have b2 : layS n ≤ 9 := by unfold layS; omega
  have b3 : layT n ≤ 17 := by unfold layT; omega
  rw [show n / 8 = layQ n from rfl, show (layQ n + 16 - 1) / 16 = layS n from rfl] at r1
  rw [show (n + 64 - 1) / 64 = layT n from rfl] at r2
  generalize layQ n = q at *
  generalize layS n = s at *
  generalize layT n = t at *
  have e1 : (30 : Int) + q + s = 29 + q + s + 1 := by omega
  have e2 : (2 : Int) * n + 1 + t = n + 1 + t + n := by omega
  have HE : Hid ((30 : Int) + q + s = 29 + q + s + 1 ∧ (2 : Int) * n + 1 + t = n + 1 + t + n) := ⟨e1, e2⟩
  clear e1 e2
  go_enter Tryz.func19, Tryz.ntmps19
  go_wp2_with fail
  refine (r1 _).mono ?_
  rintro e w1 ⟨rfl, rfl⟩
  go_wp2_with fail
  refine (r2 _).mono ?_
  rintro e w1 ⟨rfl, rfl⟩
  go_wp2_with fail
  rw [HE.out.1, HE.out.2]
  exact rlay_ret _ w _ 0 (layA n q s t) rfl rfl (heap_alloc_new w _) rfl ((Below.refl _ _).alloc (Nat.le_refl _) _)
theorem rlayout_all (n : Int) (w : World) : Calls Tryz.prog 19 #[.int .i64 n] w fun e w' => e = .returned (.tuple #[.agg (layV n), .int .i64 (clayE n)]) ∧ Below w.heap.size w w' := by
  unfold layV clayE
  by_cases h : 48 ≤ n ∧ n ≤ 1024
  · rw [if_pos h, if_pos h]
    obtain ⟨m, rfl⟩ : ∃ m : Nat, n = m := ⟨n.toNat, by omega⟩
    exact rlayout_any m (by omega) (by omega) w
  · rw [if_neg h, if_neg h]
    exact rlayout_bad n (by omega) w
end Go.Proofs.YtoopaigpjefonaaGreatDoor

namespace Go.Proofs.YtoopaigpjefonaaGreatDoor
set_option maxRecDepth 20000
open Go.RowKit

set_option maxHeartbeats 4000000 in
theorem rlive_any (s : Int) (w : World) :
    Calls Tryz.prog 33 #[.int .i64 s] w fun e w' => e = .returned (.tuple #[.int .i64 (loN s), .int .i64 (loE s)]) ∧ Below w.heap.size w w' := by
  obtain ⟨X, hX⟩ : ∃ X, X = loN s := ⟨_, rfl⟩
  obtain ⟨Y, hY⟩ : ∃ Y, Y = loE s := ⟨_, rfl⟩
  rw [← hX, ← hY]
  have HX : Hid (X = loN s ∧ Y = loE s) := ⟨hX, hY⟩
  clear hX hY
  go_enter Tryz.func33, Tryz.ntmps33
  go_wp2_with fail
  go_loopw [4] (fun iv wr => ∃ k : Nat, iv = .int .i64 (k : Int) ∧ Hid (48 ≤ k ∧ k ≤ 1025 ∧ liveO s = lvGo s (1025 - k) k ∧ Below w.heap.size w wr)) (fun iv _ => 1025 - (intOf iv).toNat)
  case atStart => exact ⟨48, rfl, Nat.le_refl _, by omega, rfl, Below.refl _ _⟩
  case round =>
    obtain ⟨k, rfl, HR⟩ := hrel
    obtain ⟨hk, _, hgo, _⟩ := HR.out
    by_cases hlt : k ≤ 1024
    · have j1 : (k : Int) ≤ 1024 := by omega
      have hl := rlayout_any k hk hlt
      have hT := totI_bound hlt
      have HG : Hid ((totI k * 8 = s → X = (k : Int) ∧ Y = 0) ∧ (¬ totI k * 8 = s → liveO s = lvGo s (1025 - (k + 1)) (k + 1))) := by
        have e : liveO s = if totI k * 8 = s then some k else lvGo s (1025 - (k + 1)) (k + 1) := by rw [hgo, show 1025 - k = (1025 - (k + 1)) + 1 by omega]; rfl
        refine ⟨fun h => ?_, fun h => by rw [e, if_neg h]⟩
        rw [if_pos h] at e
        rw [HX.out.1, HX.out.2, loN, loE, e]
        exact ⟨rfl, rfl⟩
      clear hgo
      unfold totI at hT HG
      unfold layA at hl
      generalize layQ k = q at *
      generalize layS k = s2 at *
      generalize layT k = tt at *
      generalize (k : Int) + 1 + (tt : Int) + (k : Int) = t at *
      by_cases hs : t * 8 = s
      · have HXY : Hid (X = (k : Int) ∧ Y = 0) := HG.out.1 hs
        have hs3 : 8 * t = s := by omega
        clear HG
        subst hs
        have hs1 : (8 * t == t * 8) = true := by simp; omega
        go_wp2_with fail
        refine (hl _).mono ?_
        rintro e w1 ⟨rfl, hb1⟩
        have HB : Hid (Below w.heap.size w w1) := HR.out.2.2.2.trans (hb1.mono HR.out.2.2.2.size)
        clear hb1 hl HR
        go_wp2
        go_ret2
        exact ⟨by rw [HXY.out.1, HXY.out.2]; rfl, HB.out.alloc HB.out.size _⟩
      · have HN : Hid (liveO s = lvGo s (1025 - (k + 1)) (k + 1)) := HG.out.2 hs
        have hs1 : (8 * t == s) = false := by simp; omega
        have hs2 : ¬ 8 * t = s := by omega
        clear HG
        go_wp2_with fail
        refine (hl _).mono ?_
        rintro e w1 ⟨rfl, hb1⟩
        have HB : Hid (Below w.heap.size w w1) := HR.out.2.2.2.trans (hb1.mono HR.out.2.2.2.size)
        clear hb1 hl HR
        go_wp2
        go_roundw
        case rel => exact ⟨k + 1, by go_num, by omega, by omega, HN.out, HB.out.alloc HB.out.size _⟩
        case measure => simp [intOf]; omega
    · have j1 : ¬ (k : Int) ≤ 1024 := by omega
      have hk5 := HR.out.2.1
      have HE : Hid (X = 0 ∧ Y = 30) := by
        have e : liveO s = none := by rw [hgo, show 1025 - k = 0 by omega]; rfl
        rw [HX.out.1, HX.out.2, loN, loE, e]
        exact ⟨rfl, rfl⟩
      clear hgo
      go_wp2
      go_ret2
      exact ⟨by rw [HE.out.1, HE.out.2]; rfl, HR.out.2.2.2⟩
end Go.Proofs.YtoopaigpjefonaaGreatDoor

namespace Go.Proofs.YtoopaigpjefonaaGreatDoor
set_option maxRecDepth 20000
open Go.RowKit

/-- The document's Noughts. -/
theorem noughts_any (n : Nat) (h : n ≤ 4096) (w : World) :
    Calls Tryz.prog 36 #[.int .i64 n] w fun e w' => e = .returned (.string (noughtsS n)) ∧ Below w.heap.size w w' := by
  obtain ⟨i0, hi, hz0, hz1, hz2⟩ := info_parts info5
  go_enter Tryz.func36, Tryz.ntmps36
  go_wp2_with (at_make; refine wpList_make_full _ rfl _ _ 143 rfl w.heap.size 5 i0 (.int .u8 0) 1 Tryz.underlying143 hi hz0 hz1 .i64 .i64 _ _ n rfl rfl rfl rfl ?c1 ?c2 (Nat.le_refl _) ?_)
  case c1 => first | omega | (rw [hz2]; omega)
  case c2 => unfold maxLen; omega
  intro w1 hown1 hgrow1
  have hb1 : Below w.heap.size w w1 := (Below.refl _ _).grown hgrow1 (Nat.le_refl _) (fun k hk => by simp at hk)
  have hown2 : w1.ownsRow w.heap.size 5 1 (.slice (some ⟨w.heap.size, 0, none⟩) n n) n (List.replicate n (Value.int .u8 0)) := by
    simpa [toList_madeCells_one, Value.cells] using hown1
  clear hown1 hgrow1
  have hcv := run_convert_bytes_arg (P := Tryz.prog) w1 143 5 Tryz.underlying143 Tryz.underlying5 w.heap.size 0 n n (List.replicate n 0) (by simp) (fun i hi => by
    rw [Nat.zero_add, hown2.cellAt i (by omega)]
    simp [hi, List.getD]) 9 Tryz.underlying9
  rw [show strOfNums (List.replicate n 0) = noughtsS n from rfl] at hcv
  clear hown2
  go_wp2
  go_ret
  exact ⟨rfl, hb1⟩
/-- The same, its argument told by an equation. -/
theorem noughts_z (z : Int) (n : Nat) (hz : z = n) (h : n ≤ 4096) (w : World) :
    Calls Tryz.prog 36 #[.int .i64 z] w fun e w' => e = .returned (.string (noughtsS n)) ∧ Below w.heap.size w w' := by
  subst hz
  exact noughts_any n h w
end Go.Proofs.YtoopaigpjefonaaGreatDoor

namespace Go.Proofs.YtoopaigpjefonaaGreatDoor
set_option maxRecDepth 20000
open Go.RowKit

theorem noughts_fill (n : Nat) : noughtsS n = fillS 0 n := by
  unfold noughtsS fillS
  simp
set_option maxHeartbeats 4000000 in
theorem rfmt_no (v : Value) (B : Nat) (F : Nat → Prop) (P : PS) (a0 a1 a2 a3 : Int) (r : ByteArray) (w : World) (hp : RefP w F B P) (hno : ¬ (loE (P.kept.length : Nat) = 0 ∧ loN (P.kept.length : Nat) = a3)) :
    Calls Tryz.prog 10 #[.pointer (some ⟨B, 0, none⟩), v, .agg #[.int .i64 a0, .int .i64 a1, .int .i64 a2, .int .i64 a3, .string r]] w fun e w' => e = .returned (.int .i64 1) ∧ Below w.heap.size w w' := by
  obtain ⟨oa, cap, c0, hm⟩ := hp.c0
  have hl := fun W => rlive_any (P.kept.length : Nat) W
  have hb0 := bel_alloc w (.cells #[.int .i64 a0, .int .i64 a1, .int .i64 a2, .int .i64 a3, .string r] 23)
  have g0 := heap_alloc_new w (.cells #[.int .i64 a0, .int .i64 a1, .int .i64 a2, .int .i64 a3, .string r] 23)
  have hway : (loE (P.kept.length : Nat) != 0) = true ∨ (loE (P.kept.length : Nat) = 0 ∧ (loN (P.kept.length : Nat) != a3) = true) := by
    by_cases h0 : loE (P.kept.length : Nat) = 0
    · exact .inr ⟨h0, bne_iff_ne.2 fun h => hno ⟨h0, h⟩⟩
    · exact .inl (bne_iff_ne.2 h0)
  have c1 := (hb0.cell (p := ⟨B, 0, none⟩) (World.block_lt_of_cell? _ _ c0)).trans c0
  have HB : Hid _ := hb0
  have HG : Hid _ := g0
  generalize loE (P.kept.length : Nat) = X at *
  generalize loN (P.kept.length : Nat) = Y at *
  generalize P.kept.length = n at *
  clear hp hno c0 hb0 g0
  rcases hway with hx | ⟨hx, hy⟩
  · go_enter Tryz.func10, Tryz.ntmps10
    go_wp2_with fail
    refine (hl _).mono ?_
    rintro e w1 ⟨rfl, hb1⟩
    have HB1 : Hid (Below w.heap.size w w1) := HB.out.trans (hb1.mono HB.out.size)
    clear hl hb1 HB HG c1
    go_wp2
    go_ret
    exact ⟨rfl, HB1.out⟩
  · subst hx
    go_enter Tryz.func10, Tryz.ntmps10
    go_wp2_with fail
    refine (hl _).mono ?_
    rintro e w1 ⟨rfl, hb1⟩
    have gw := (hb1.block w.heap.size (by simp)).trans HG.out
    have d3 : w1.cell? ⟨w.heap.size, 3, none⟩ = some (.int .i64 a3) := cell_of_row _ _ 3 _ _ _ gw
    have HB1 : Hid (Below w.heap.size w w1) := HB.out.trans (hb1.mono HB.out.size)
    clear hl hb1 HB HG c1 gw
    go_wp2
    go_ret
    exact ⟨rfl, HB1.out⟩
set_option maxHeartbeats 4000000 in
theorem rfmt_err (v : Value) (B : Nat) (F : Nat → Prop) (P : PS) (a0 a1 a2 a3 : Int) (r : ByteArray) (A E : Int) (R : ByteArray) (w : World) (hp : RefP w F B P) (hyes : loE (P.kept.length : Nat) = 0 ∧ loN (P.kept.length : Nat) = a3) (hE : ¬ E = 0)
    (hsup : ∀ W, Below w.heap.size w W → Calls Tryz.prog 34 #[v, .agg #[.int .i64 a0, .int .i64 a1, .int .i64 a2, .int .i64 a3, .string r]] W fun e W' => e = .returned (.tuple #[.agg #[.int .i64 A, .string R], .int .i64 E]) ∧ Below W.heap.size W W') :
    Calls Tryz.prog 10 #[.pointer (some ⟨B, 0, none⟩), v, .agg #[.int .i64 a0, .int .i64 a1, .int .i64 a2, .int .i64 a3, .string r]] w fun e w' => e = .returned (.int .i64 E) ∧ Below w.heap.size w w' := by
  obtain ⟨oa, cap, c0, hm⟩ := hp.c0
  have hl := fun W => rlive_any (P.kept.length : Nat) W
  have hb0 := bel_alloc w (.cells #[.int .i64 a0, .int .i64 a1, .int .i64 a2, .int .i64 a3, .string r] 23)
  have g0 := heap_alloc_new w (.cells #[.int .i64 a0, .int .i64 a1, .int .i64 a2, .int .i64 a3, .string r] 23)
  have c1 := (hb0.cell (p := ⟨B, 0, none⟩) (World.block_lt_of_cell? _ _ c0)).trans c0
  have hE1 : (E != 0) = true := bne_iff_ne.2 hE
  rw [hyes.1, hyes.2] at hl
  have HB : Hid _ := hb0
  have HG : Hid _ := g0
  generalize P.kept.length = n at *
  clear hp hyes c0 hb0 g0 hE
  go_enter Tryz.func10, Tryz.ntmps10
  go_wp2_with fail
  refine (hl _).mono ?_
  rintro e w1 ⟨rfl, hb1⟩
  have gw := (hb1.block w.heap.size (by simp)).trans HG.out
  have d0 : w1.cell? ⟨w.heap.size, 0, none⟩ = some (.int .i64 a0) := cell_of_row _ _ 0 _ _ _ gw
  have d1 : w1.cell? ⟨w.heap.size, 1, none⟩ = some (.int .i64 a1) := cell_of_row _ _ 1 _ _ _ gw
  have d2 : w1.cell? ⟨w.heap.size, 2, none⟩ = some (.int .i64 a2) := cell_of_row _ _ 2 _ _ _ gw
  have d3 : w1.cell? ⟨w.heap.size, 3, none⟩ = some (.int .i64 a3) := cell_of_row _ _ 3 _ _ _ gw
  have d4 : w1.cell? ⟨w.heap.size, 4, none⟩ = some (.string r) := cell_of_row _ _ 4 _ _ _ gw
  have HB1 : Hid (Below w.heap.size w w1) := HB.out.trans (hb1.mono HB.out.size)
  have h2 := hsup w1 HB1.out
  clear hl hb1 HB HG c1 gw hsup
  go_wp2_with fail
  refine h2.mono ?_
  rintro e w2 ⟨rfl, hb2⟩
  have HB2 : Hid (Below w.heap.size w (w2.alloc (.cells #[.int .i64 A, .string R] 68))) := by
    have q := HB1.out.trans (hb2.mono HB1.out.size)
    exact q.alloc q.size _
  clear h2 hb2 HB1 d0 d1 d2 d3 d4
  go_wp2
  go_ret
  exact ⟨rfl, HB2.out⟩
set_option maxHeartbeats 8000000 in
theorem rfmt_in (v : Value) (B : Nat) (F : Nat → Prop) (P : PS) (a0 a1 a2 a3 : Int) (r : ByteArray) (A : Int) (R : ByteArray) (w : World) (hp : RefP w F B P) (hlt : ∀ k, F k → k < w.heap.size) (hw : P.wait.length ≤ 100000) (hA : 0 ≤ A ∧ A ≤ 1) (hyes : loE (P.kept.length : Nat) = 0 ∧ loN (P.kept.length : Nat) = a3)
    (hsup : ∀ W, Below w.heap.size w W → Calls Tryz.prog 34 #[v, .agg #[.int .i64 a0, .int .i64 a1, .int .i64 a2, .int .i64 a3, .string r]] W fun e W' => e = .returned (.tuple #[.agg #[.int .i64 A, .string R], .int .i64 0]) ∧ Below W.heap.size W W') :
    Calls Tryz.prog 10 #[.pointer (some ⟨B, 0, none⟩), v, .agg #[.int .i64 a0, .int .i64 a1, .int .i64 a2, .int .i64 a3, .string r]] w fun e w' => e = .returned (.int .i64 (if (rfolB [[⟨1 - A, fillS 0 512⟩, ⟨2, fillS 0 512⟩], [⟨A, R⟩]] true P).1 = true then 0 else 20)) ∧ RefP w' (grow F w w') B (rfolB [[⟨1 - A, fillS 0 512⟩, ⟨2, fillS 0 512⟩], [⟨A, R⟩]] true P).2 ∧ Touch F w w' := by
  obtain ⟨oa, cap, c0, hm⟩ := hp.c0
  have hl := fun W => rlive_any (P.kept.length : Nat) W
  have hb0 := bel_alloc w (.cells #[.int .i64 a0, .int .i64 a1, .int .i64 a2, .int .i64 a3, .string r] 23)
  have g0 := heap_alloc_new w (.cells #[.int .i64 a0, .int .i64 a1, .int .i64 a2, .int .i64 a3, .string r] 23)
  have c1 := (hb0.cell (p := ⟨B, 0, none⟩) (World.block_lt_of_cell? _ _ c0)).trans c0
  rw [hyes.1, hyes.2] at hl
  have HB : Hid _ := hb0
  have HG : Hid _ := g0
  have HS0 : Hid (RSt (fun _ _ => False) F w w B P) := RSt.start hp hlt
  have hno : ∀ W, Calls Tryz.prog 36 #[.int .i64 512] W fun e w' => e = .returned (.string (fillS 0 512)) ∧ Below W.heap.size W w' := fun W => by
    have q := noughts_any 512 (by decide) W
    rw [noughts_fill] at q
    exact q
  have hwr : IntKind.i64.wrap (1 - A) = 1 - A := by
    rcases (show A = 0 ∨ A = 1 by omega) with rfl | rfl <;> rfl
  generalize fillS 0 512 = z at *
  obtain ⟨r1, e1⟩ : ∃ r1, rputB true P ⟨1 - A, z⟩ = r1 := ⟨_, rfl⟩
  obtain ⟨r2, e2⟩ : ∃ r2, rputB r1.1 r1.2 ⟨2, z⟩ = r2 := ⟨_, rfl⟩
  obtain ⟨r3, e3⟩ : ∃ r3, rflB r2.1 r2.2 = r3 := ⟨_, rfl⟩
  obtain ⟨r4, e4⟩ : ∃ r4, rputB r3.1 r3.2 ⟨A, R⟩ = r4 := ⟨_, rfl⟩
  obtain ⟨r5, e5⟩ : ∃ r5, rflB r4.1 r4.2 = r5 := ⟨_, rfl⟩
  have hall : rfolB [[⟨1 - A, z⟩, ⟨2, z⟩], [⟨A, R⟩]] true P = r5 := by
    show ((rflB (rputB (rflB (rputB (rputB true P ⟨1 - A, z⟩).1 (rputB true P ⟨1 - A, z⟩).2 ⟨2, z⟩).1 _).1 _ ⟨A, R⟩).1 _).1, _) = r5
    rw [← e5, ← e4, ← e3, ← e2, ← e1]
    rfl
  rw [hall]
  have w1' := rputB_wait true P ⟨1 - A, z⟩
  rw [e1] at w1'
  have w2' := rputB_wait r1.1 r1.2 ⟨2, z⟩
  rw [e2] at w2'
  have w3' := rflB_wait r2.1 r2.2
  rw [e3] at w3'
  have w4' := rputB_wait r3.1 r3.2 ⟨A, R⟩
  rw [e4] at w4'
  have HP1 : Hid (∀ K W, RSt K F w W B P → Calls Tryz.prog 35 #[.pointer (some ⟨B, 0, none⟩), .bool true, .int .i64 (IntKind.i64.wrap (1 - A)), .string z] W fun e W' => e = .returned (.bool r1.1) ∧ RSt K F w W' B r1.2) := fun K W h => by
    have q := h.put true (1 - A) z (by omega)
    rw [e1] at q
    rw [hwr]
    exact q
  have HP2 : Hid (∀ K W, RSt K F w W B r1.2 → Calls Tryz.prog 35 #[.pointer (some ⟨B, 0, none⟩), .bool r1.1, .int .i64 2, .string z] W fun e W' => e = .returned (.bool r2.1) ∧ RSt K F w W' B r2.2) := fun K W h => by
    have q := h.put r1.1 2 z (by omega)
    rw [e2] at q
    exact q
  have HP3 : Hid (∀ K W, RSt K F w W B r2.2 → Calls Tryz.prog 37 #[.pointer (some ⟨B, 0, none⟩), .bool r2.1] W fun e W' => e = .returned (.bool r3.1) ∧ RSt K F w W' B r3.2) := fun K W h => by
    have q := h.flush r2.1 (by omega)
    rw [e3] at q
    exact q
  have HP4 : Hid (∀ K W, RSt K F w W B r3.2 → Calls Tryz.prog 35 #[.pointer (some ⟨B, 0, none⟩), .bool r3.1, .int .i64 A, .string R] W fun e W' => e = .returned (.bool r4.1) ∧ RSt K F w W' B r4.2) := fun K W h => by
    have q := h.put r3.1 A R (by omega)
    rw [e4] at q
    exact q
  have HP5 : Hid (∀ K W, RSt K F w W B r4.2 → Calls Tryz.prog 37 #[.pointer (some ⟨B, 0, none⟩), .bool r4.1] W fun e W' => e = .returned (.bool r5.1) ∧ RSt K F w W' B r5.2) := fun K W h => by
    have q := h.flush r4.1 (by omega)
    rw [e5] at q
    exact q
  have hend := fun W => rended_any r5.1 W
  generalize P.kept.length = n at *
  clear hp hlt hw hA hyes c0 hb0 g0 hall e1 e2 e3 e4 e5 w1' w2' w3' w4' hwr
  obtain ⟨b1, P1⟩ := r1
  obtain ⟨b2, P2⟩ := r2
  obtain ⟨b3, P3⟩ := r3
  obtain ⟨b4, P4⟩ := r4
  obtain ⟨b5, P5⟩ := r5
  simp only at HP1 HP2 HP3 HP4 HP5 hend ⊢
  go_enter Tryz.func10, Tryz.ntmps10
  go_wp2_with fail
  refine (hl _).mono ?_
  rintro e x1 ⟨rfl, hb1⟩
  have gw := (hb1.block w.heap.size (by simp)).trans HG.out
  have d0 : x1.cell? ⟨w.heap.size, 0, none⟩ = some (.int .i64 a0) := cell_of_row _ _ 0 _ _ _ gw
  have d1 : x1.cell? ⟨w.heap.size, 1, none⟩ = some (.int .i64 a1) := cell_of_row _ _ 1 _ _ _ gw
  have d2 : x1.cell? ⟨w.heap.size, 2, none⟩ = some (.int .i64 a2) := cell_of_row _ _ 2 _ _ _ gw
  have d3 : x1.cell? ⟨w.heap.size, 3, none⟩ = some (.int .i64 a3) := cell_of_row _ _ 3 _ _ _ gw
  have d4 : x1.cell? ⟨w.heap.size, 4, none⟩ = some (.string r) := cell_of_row _ _ 4 _ _ _ gw
  have HB1 : Hid (Below w.heap.size w x1) := HB.out.trans (hb1.mono HB.out.size)
  have h2 := hsup x1 HB1.out
  clear hl hb1 HB HG c1 gw hsup
  go_wp2_with fail
  refine h2.mono ?_
  rintro e x2 ⟨rfl, hb2⟩
  obtain ⟨X3, hX3⟩ : ∃ X3, x2.alloc (.cells #[.int .i64 A, .string R] 68) = X3 := ⟨_, rfl⟩
  have HS3 : Hid (RSt (fun k d => False ∨ (k = x2.heap.size ∧ d = .cells #[.int .i64 A, .string R] 68 (0, 0))) F w X3 B P) := by
    rw [← hX3]
    exact (HS0.out.below (HB1.out.trans (hb2.mono HB1.out.size))).hold _ rfl rfl
  clear h2 hb2 HB1 d0 d1 d2 d3 d4 HS0
  have HK : Hid (∀ W P', RSt (fun k d => False ∨ (k = x2.heap.size ∧ d = .cells #[.int .i64 A, .string R] 68 (0, 0))) F w W B P' → W.cell? ⟨x2.heap.size, 0, none⟩ = some (.int .i64 A) ∧ W.cell? ⟨x2.heap.size, 1, none⟩ = some (.string R)) := fun W P' h => by
    have g := h.get (.inr ⟨rfl, rfl⟩)
    exact ⟨cell_of_row _ _ 0 _ _ _ g, cell_of_row _ _ 1 _ _ _ g⟩
  generalize (fun (k : Nat) (d : Obj) => False ∨ (k = x2.heap.size ∧ d = .cells #[.int .i64 A, .string R] 68 (0, 0))) = K at *
  have hc3 := (HK.out X3 P HS3.out).1
  have hc3d := (HK.out X3.drew P (HS3.out.below (Below.refl X3.heap.size X3).drew)).1
  go_wp2_with fail
  go_cut [11] from 12 (fun s11 wc => s11 = .bool b1 ∧ Hid (RSt K F w wc B P1))
  case first =>
    go_region_held3 (fun w' => w'.cell? ⟨x2.heap.size, 0, none⟩ = some (.int .i64 A)) (first | exact hc4 | exact hcN | exact hc3 | exact hc3d | simp [go_sem, *]) (first
      | (go_at_call 36; refine (hno _).mono ?_; rintro e xN ⟨rfl, hbN⟩; have HSN : Hid (RSt K F w xN B P) := (by first | exact (HS3.out.below (Below.refl X3.heap.size X3).drew).below hbN | exact HS3.out.below hbN); have hcN := (HK.out xN P HSN.out).1; clear hbN)
      | (go_at_call 35; refine (HP1.out K _ HSN.out).mono ?_; rintro e x4 ⟨rfl, hs4⟩; have HS4 : Hid (RSt K F w x4 B P1) := hs4; have hc4 := (HK.out x4 P1 hs4).1; clear hs4))
    all_goals
      go_wp2_with fail
      go_meet
      exact ⟨rfl, HS4⟩
  case rest =>
    obtain ⟨rfl, HS4⟩ := hcut
    generalize wc = x4 at *
    clear HS3 hc3 hc3d HP1
    go_wp2_with fail
    refine (hno _).mono ?_
    rintro e x5 ⟨rfl, hb5⟩
    have h6 := HP2.out K x5 (HS4.out.below hb5)
    clear hb5 HS4 HP2
    go_wp2_with fail
    refine h6.mono ?_
    rintro e x6 ⟨rfl, hs6⟩
    have h7 := HP3.out K x6 hs6
    clear h6 hs6 HP3
    go_wp2_with fail
    refine h7.mono ?_
    rintro e x7 ⟨rfl, hs7⟩
    obtain ⟨q0, q1⟩ := HK.out x7 P3 hs7
    have h8 := HP4.out K x7 hs7
    clear h7 hs7 HP4
    go_wp2_with fail
    refine h8.mono ?_
    rintro e x8 ⟨rfl, hs8⟩
    have h9 := HP5.out K x8 hs8
    clear h8 hs8 HP5 q0 q1
    go_wp2_with fail
    refine h9.mono ?_
    rintro e x9 ⟨rfl, hs9⟩
    have HF : Hid (RefP x9 (grow F w x9) B P5 ∧ Touch F w x9) := hs9.out
    clear h9 hs9
    go_wp2_with fail
    refine (hend _).mono ?_
    rintro e x10 ⟨rfl, rfl⟩
    clear hend
    go_wp2
    all_goals
      go_ret
      exact ⟨rfl, HF.out.1, HF.out.2⟩
end Go.Proofs.YtoopaigpjefonaaGreatDoor
