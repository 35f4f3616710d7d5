/- A script that came in: a slice of steps, each with a slice of truth values of its own. · The law's step: both devices do a step, answer alike, and stand alike behind it. -/
import Derived.Test.YtcmoagphbpjenaaGreatDoorMg14
import Derived.Test.YtcmoagphbpjenaaGreatDoorMg15
namespace Go.Proofs.YtcmoagphbpjenaaGreatDoor
set_option maxRecDepth 20000
open Go.ChangeShapes Go.WideShapes Go.RowKit Go.Deep

structure OpT where
  kind : Int
  at_ : Int
  len : Int
  v : Nat
  kv : Value
  keep : List Bool
instance : Inhabited OpT := ⟨⟨0, 0, 0, 0, .slice none 0 0, []⟩⟩
structure OpAt (W : World) (g o : Nat) (x : OpT) : Prop where
  c0 : W.cell? ⟨g, o, none⟩ = some (.int .i64 x.kind)
  c1 : W.cell? ⟨g, o + 1, none⟩ = some (.int .i64 x.at_)
  c2 : W.cell? ⟨g, o + 2, none⟩ = some (.int .i64 x.len)
  c3 : W.cell? ⟨g, o + 3, none⟩ = some (.int .u8 (x.v : Nat))
  c4 : W.cell? ⟨g, o + 4, none⟩ = some x.kv
  bools : Bools W (fun k => W.heap.size ≤ k) x.kv x.keep
  wat : (Lit.int .i64 x.at_).wf = true
  byte : x.v < 256
def Ops (W : World) (v : Value) (l : List OpT) : Prop := (∃ oa cap, v = .slice oa 0 cap ∧ l = []) ∨ ∃ g o cap, v = .slice (some ⟨g, o, none⟩) l.length cap ∧ g < W.heap.size ∧ ∀ i x, l[i]? = some x → OpAt W g (o + i * 5) x

section
variable {H : Type} {enc : TypeId × Value → H} {W : World}
theorem field_at {n : Nat} {cs : List Value} {xs : List (DataW H × List MemPlace)} {fs : Array Field} (hf : ∀ (i : Nat) (f : Field), fs[i]? = some f → DataW.trod enc Tryz.prog W 0 (fun _ => true) true n f.type ((cs.drop f.offset).take (Tryz.prog.cellsOf f.type)) = xs[i]?)
    (i t o : Nat) (f : Field) (h0 : fs[i]? = some f) (h1 : f.type = t) (h2 : f.offset = o) (h3 : Tryz.prog.cellsOf t = 1) : DataW.trod enc Tryz.prog W 0 (fun _ => true) true n t ((cs.drop o).take 1) = xs[i]? := by
  subst h1 h2
  rw [← h3]
  exact hf i f h0
end
theorem Ops.form {W : World} {v : Value} {l : List OpT} (h : Ops W v l) : ∃ oa cap, v = .slice oa l.length cap := by
  rcases h with ⟨oa, cap, rfl, rfl⟩ | ⟨g, o, cap, rfl, _⟩
  · exact ⟨_, _, rfl⟩
  · exact ⟨_, _, rfl⟩
theorem Ops.get {W : World} {oa : Option Addr} {cap : Nat} {l : List OpT} (h : Ops W (.slice oa l.length cap) l) (hl : 0 < l.length) : ∃ g o, oa = some ⟨g, o, none⟩ ∧ g < W.heap.size ∧ ∀ i x, l[i]? = some x → OpAt W g (o + i * 5) x := by
  rcases h with ⟨oa', cap', e, e2⟩ | ⟨g, o, cap', e, hg, hx⟩
  · rw [e2] at hl; exact absurd hl (Nat.lt_irrefl 0)
  · cases e; exact ⟨g, o, rfl, hg, hx⟩
theorem Bools.form {W : World} {F : Nat → Prop} {v : Value} {l : List Bool} (h : Bools W F v l) : ∃ oa cap, v = .slice oa l.length cap := by
  rcases h with ⟨oa, cap, rfl, rfl⟩ | ⟨g, o, cap, rfl, _⟩
  · exact ⟨_, _, rfl⟩
  · exact ⟨_, _, rfl⟩
/-- What a step says, in a later world of the call. -/
theorem OpAt.later {W w' : World} {g o : Nat} {x : OpT} (h : OpAt W g o x) (hg : g < W.heap.size) (hb : Below W.heap.size W w') :
    w'.cell? ⟨g, o, none⟩ = some (.int .i64 x.kind) ∧ w'.cell? ⟨g, o + 1, none⟩ = some (.int .i64 x.at_) ∧ w'.cell? ⟨g, o + 2, none⟩ = some (.int .i64 x.len) ∧ w'.cell? ⟨g, o + 3, none⟩ = some (.int .u8 (x.v : Nat)) ∧ w'.cell? ⟨g, o + 4, none⟩ = some x.kv := by
  have hk := hb.block g hg
  refine ⟨?_, ?_, ?_, ?_, ?_⟩
  · rw [World.cell?_of_block (a := ⟨g, o, none⟩) hk]; exact h.c0
  · rw [World.cell?_of_block (a := ⟨g, o + 1, none⟩) hk]; exact h.c1
  · rw [World.cell?_of_block (a := ⟨g, o + 2, none⟩) hk]; exact h.c2
  · rw [World.cell?_of_block (a := ⟨g, o + 3, none⟩) hk]; exact h.c3
  · rw [World.cell?_of_block (a := ⟨g, o + 4, none⟩) hk]; exact h.c4
end Go.Proofs.YtcmoagphbpjenaaGreatDoor

namespace Go.Proofs.YtcmoagphbpjenaaGreatDoor
set_option maxRecDepth 20000
open Go.RowKit

/-- Two devices, plate's and the document's, in blocks of F, apart. -/
def PairF (w : World) (F : Nat → Prop) (B1 B2 : Nat) (S1 S2 : PS) : Prop := ∃ F1 F2, Plate w F1 B1 S1 ∧ RefP w F2 B2 S2 ∧ (∀ k, F1 k → F k) ∧ (∀ k, F2 k → F k) ∧ (∀ k, F1 k → ¬ F2 k) ∧ ∀ k, F1 k ∨ F2 k → k < w.heap.size
theorem PairF.keep {w w' : World} {F : Nat → Prop} {B1 B2 : Nat} {S1 S2 : PS} (h : PairF w F B1 B2 S1 S2) (hs : w.heap.size ≤ w'.heap.size) (hk : ∀ k, k < w.heap.size → F k → w'.heap[k]? = w.heap[k]?) : PairF w' F B1 B2 S1 S2 := by
  obtain ⟨F1, F2, h1, h2, s1, s2, dj, lt⟩ := h
  exact ⟨F1, F2, h1.keep fun k hk' hf => hk k hk' (s1 k hf), h2.keep fun k hk' hf => hk k hk' (s2 k hf), s1, s2, dj, fun k hf => Nat.lt_of_lt_of_le (lt k hf) hs⟩
theorem PairF.mono {w : World} {F F' : Nat → Prop} {B1 B2 : Nat} {S1 S2 : PS} (h : PairF w F B1 B2 S1 S2) (hF : ∀ k, k < w.heap.size → F k → F' k) : PairF w F' B1 B2 S1 S2 := by
  obtain ⟨F1, F2, h1, h2, s1, s2, dj, lt⟩ := h
  exact ⟨F1, F2, h1, h2, fun k hf => hF k (lt k (.inl hf)) (s1 k hf), fun k hf => hF k (lt k (.inr hf)) (s2 k hf), dj, lt⟩
theorem PairF.tight {w : World} {F : Nat → Prop} {B1 B2 : Nat} {S1 S2 : PS} (h : PairF w F B1 B2 S1 S2) : PairF w (fun k => F k ∧ k < w.heap.size) B1 B2 S1 S2 := h.mono fun _ hk hf => ⟨hf, hk⟩
theorem pairL {w w' : World} {F F1 F2 : Nat → Prop} {B1 B2 : Nat} {S1' S2 : PS} (h2 : RefP w F2 B2 S2) (s1 : ∀ k, F1 k → F k) (s2 : ∀ k, F2 k → F k) (dj : ∀ k, F1 k → ¬ F2 k) (lt : ∀ k, F1 k ∨ F2 k → k < w.heap.size) (hp : Plate w' (grow F1 w w') B1 S1') (ht : Touch F1 w w') : PairF w' (grow F w w') B1 B2 S1' S2 ∧ Touch F w w' :=
  ⟨⟨grow F1 w w', F2, hp, h2.keep fun k hk hf => ht.2 k hk fun h1 => dj k h1 hf, fun k hk => hk.elim (fun h => .inl (s1 k h)) .inr, fun k hk => .inl (s2 k hk), fun k hk hf => by
    rcases hk with h | h
    · exact dj k h hf
    · have := lt k (.inr hf); omega, fun k hk => by
    have hs := ht.size
    rcases hk with (h | h) | h
    · have := lt k (.inl h); omega
    · omega
    · have := lt k (.inr h); omega⟩, ht.mono s1⟩
theorem pairR {w w' : World} {F F1 F2 : Nat → Prop} {B1 B2 : Nat} {S1 S2' : PS} (h1 : Plate w F1 B1 S1) (s1 : ∀ k, F1 k → F k) (s2 : ∀ k, F2 k → F k) (dj : ∀ k, F1 k → ¬ F2 k) (lt : ∀ k, F1 k ∨ F2 k → k < w.heap.size) (hp : RefP w' (grow F2 w w') B2 S2') (ht : Touch F2 w w') : PairF w' (grow F w w') B1 B2 S1 S2' ∧ Touch F w w' :=
  ⟨⟨F1, grow F2 w w', h1.keep fun k hk hf => ht.2 k hk fun h2 => dj k hf h2, hp, fun k hk => .inl (s1 k hk), fun k hk => hk.elim (fun h => .inl (s2 k h)) .inr, fun k hf hk => by
    rcases hk with h | h
    · exact dj k hf h
    · have := lt k (.inl hf); omega, fun k hk => by
    have hs := ht.size
    rcases hk with h | (h | h)
    · have := lt k (.inl h); omega
    · have := lt k (.inr h); omega
    · omega⟩, ht.mono s2⟩
theorem grow_grow {F : Nat → Prop} {w w1 w2 : World} (h1 : w.heap.size ≤ w1.heap.size) (h2 : w1.heap.size ≤ w2.heap.size) (k : Nat) (h : grow (grow F w w1) w1 w2 k) : grow F w w2 k := by
  rcases h with (h | h) | h
  · exact .inl h
  · exact .inr ⟨h.1, by omega⟩
  · exact .inr ⟨by omega, h.2⟩
/-- Further on from where a step began. -/
structure Far (F : Nat → Prop) (w wc : World) (B1 B2 : Nat) (S1 S2 : PS) : Prop where
  pair : PairF wc (grow F w wc) B1 B2 S1 S2
  touch : Touch F w wc
theorem Far.left {F : Nat → Prop} {w wc : World} {B1 B2 f : Nat} {args : Array Value} {S1 S2 S1' : PS} {R : Ending → Prop} (h : Far F w wc B1 B2 S1 S2)
    (hc : ∀ F1, Plate wc F1 B1 S1 → Calls Tryz.prog f args wc fun e w' => R e ∧ Plate w' (grow F1 wc w') B1 S1' ∧ Touch F1 wc w') : Calls Tryz.prog f args wc fun e w' => R e ∧ Far F w w' B1 B2 S1' S2 := by
  obtain ⟨F1, F2, h1, h2, s1, s2, dj, lt⟩ := h.pair
  refine (hc F1 h1).mono fun e w' ⟨he, hp, ht⟩ => ?_
  obtain ⟨q1, q2⟩ := pairL h2 s1 s2 dj lt hp ht
  exact ⟨he, q1.mono fun k _ hk => grow_grow h.touch.size ht.size k hk, h.touch.trans q2⟩
theorem Far.right {F : Nat → Prop} {w wc : World} {B1 B2 f : Nat} {args : Array Value} {S1 S2 S2' : PS} {R : Ending → Prop} (h : Far F w wc B1 B2 S1 S2)
    (hc : ∀ F2, RefP wc F2 B2 S2 → Calls Tryz.prog f args wc fun e w' => R e ∧ RefP w' (grow F2 wc w') B2 S2' ∧ Touch F2 wc w') : Calls Tryz.prog f args wc fun e w' => R e ∧ Far F w w' B1 B2 S1 S2' := by
  obtain ⟨F1, F2, h1, h2, s1, s2, dj, lt⟩ := h.pair
  refine (hc F2 h2).mono fun e w' ⟨he, hp, ht⟩ => ?_
  obtain ⟨q1, q2⟩ := pairR h1 s1 s2 dj lt hp ht
  exact ⟨he, q1.mono fun k _ hk => grow_grow h.touch.size ht.size k hk, h.touch.trans q2⟩
theorem Far.below {F : Nat → Prop} {w wc w' : World} {B1 B2 : Nat} {S1 S2 : PS} (h : Far F w wc B1 B2 S1 S2) (hb : Below wc.heap.size wc w') : Far F w w' B1 B2 S1 S2 :=
  ⟨(h.pair.keep hb.size fun k hk _ => hb.block k hk).mono fun _ _ hk => hk.elim .inl fun x => .inr ⟨x.1, Nat.lt_of_lt_of_le x.2 hb.size⟩, h.touch.trans (Touch.of_below hb)⟩
theorem Far.gone {F : Nat → Prop} {w wc : World} {B1 B2 f : Nat} {args : Array Value} {S1 S2 : PS} {R : Ending → Prop} (h : Far F w wc B1 B2 S1 S2) (hc : ∀ F1, Plate wc F1 B1 S1 → Calls Tryz.prog f args wc fun e w' => R e ∧ w' = wc) : Calls Tryz.prog f args wc fun e w' => R e ∧ w' = wc := by
  obtain ⟨F1, F2, h1, _⟩ := h.pair
  exact hc F1 h1
theorem Far.goneR {F : Nat → Prop} {w wc : World} {B1 B2 f : Nat} {args : Array Value} {S1 S2 : PS} {R : Ending → Prop} (h : Far F w wc B1 B2 S1 S2) (hc : ∀ F2, RefP wc F2 B2 S2 → Calls Tryz.prog f args wc fun e w' => R e ∧ w' = wc) : Calls Tryz.prog f args wc fun e w' => R e ∧ w' = wc := by
  obtain ⟨F1, F2, _, h2, _⟩ := h.pair
  exact hc F2 h2
theorem bools_far {w wc : World} {F F1 : Nat → Prop} {kv : Value} {l : List Bool} (h : Bools w F kv l) (hc : ∀ k, k < w.heap.size → ¬ F k → wc.heap[k]? = w.heap[k]?) (hs : w.heap.size ≤ wc.heap.size) (hF : ∀ k, k < w.heap.size → F1 k → F k) : Bools wc F1 kv l := by
  rcases h with h | ⟨g, o, cap, rfl, hg, hf, hx⟩
  · exact .inl h
  · exact .inr ⟨g, o, cap, rfl, Nat.lt_of_lt_of_le hg hs, fun x => hf (hF g hg x), fun i b hi => by rw [World.cell?_of_block (a := ⟨g, o + i, none⟩) (hc g hg hf)]; exact hx i b hi⟩
theorem Far.leftF {F : Nat → Prop} {w wc : World} {B1 B2 f : Nat} {args : Array Value} {S1 S2 S1' : PS} {R : Ending → Prop} (h : Far F w wc B1 B2 S1 S2)
    (hc : ∀ F1, (∀ k, F1 k → grow F w wc k) → Plate wc F1 B1 S1 → Calls Tryz.prog f args wc fun e w' => R e ∧ Plate w' (grow F1 wc w') B1 S1' ∧ Touch F1 wc w') : Calls Tryz.prog f args wc fun e w' => R e ∧ Far F w w' B1 B2 S1' S2 := by
  obtain ⟨F1, F2, h1, h2, s1, s2, dj, lt⟩ := h.pair
  refine (hc F1 s1 h1).mono fun e w' ⟨he, hp, ht⟩ => ?_
  obtain ⟨q1, q2⟩ := pairL h2 s1 s2 dj lt hp ht
  exact ⟨he, q1.mono fun k _ hk => grow_grow h.touch.size ht.size k hk, h.touch.trans q2⟩
theorem Far.rightF {F : Nat → Prop} {w wc : World} {B1 B2 f : Nat} {args : Array Value} {S1 S2 S2' : PS} {R : Ending → Prop} (h : Far F w wc B1 B2 S1 S2)
    (hc : ∀ F2, (∀ k, F2 k → grow F w wc k) → RefP wc F2 B2 S2 → Calls Tryz.prog f args wc fun e w' => R e ∧ RefP w' (grow F2 wc w') B2 S2' ∧ Touch F2 wc w') : Calls Tryz.prog f args wc fun e w' => R e ∧ Far F w w' B1 B2 S1 S2' := by
  obtain ⟨F1, F2, h1, h2, s1, s2, dj, lt⟩ := h.pair
  refine (hc F2 s2 h2).mono fun e w' ⟨he, hp, ht⟩ => ?_
  obtain ⟨q1, q2⟩ := pairR h1 s1 s2 dj lt hp ht
  exact ⟨he, q1.mono fun k _ hk => grow_grow h.touch.size ht.size k hk, h.touch.trans q2⟩
theorem plate_grow {w w' : World} {F : Nat → Prop} {B : Nat} {S : PS} (h : Plate w' F B S) : Plate w' (grow F w w') B S := h.mono fun _ _ h => .inl h
theorem ref_grow {w w' : World} {F : Nat → Prop} {B : Nat} {S : PS} (h : RefP w' F B S) : RefP w' (grow F w w') B S := h.mono fun _ _ h => .inl h

/-- How long a step's text is. -/
def someN (n : Int) : Nat := if n < 0 ∨ 200 < n then 64 else n.toNat
theorem someN_le (n : Int) : someN n ≤ 200 := by unfold someN; split <;> omega
def stepP (S : PS) (x : OpT) : PS :=
  if x.kind = 1 then readP S x.at_ else if x.kind = 3 then writeP S x.at_ (fillS x.v (someN x.len)) else if x.kind = 4 then flushP S else if x.kind = 5 then armP S x.at_ else if x.kind = 6 then startP x.keep S
  else if x.kind = 7 then layP S x.at_ (fillS x.v (someN x.len)) else if x.kind = 8 then spoilP S x.at_ else S
def opV (x : OpT) : Value := .agg #[.int .i64 x.kind, .int .i64 x.at_, .int .i64 x.len, .int .u8 (x.v : Nat), x.kv]

theorem step_wait (S : PS) (x : OpT) : (stepP S x).wait.length ≤ S.wait.length + 1 := by
  unfold stepP readP flushP armP layP spoilP writeP startP settleP
  repeat' split
  all_goals simp
end Go.Proofs.YtcmoagphbpjenaaGreatDoor
