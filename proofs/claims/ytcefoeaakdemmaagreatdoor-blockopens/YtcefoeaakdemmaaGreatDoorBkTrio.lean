/- The ideal vault, the document's, and a list of texts, side by side in memory. -/
import Derived.Test.YtcefoeaakdemmaaGreatDoorRfOpen
import Derived.Test.YtcefoeaakdemmaaGreatDoorBkHeads
import Derived.Maps.AppendAt
namespace Go.Proofs.YtcefoeaakdemmaaGreatDoor
set_option maxRecDepth 20000
open Go.RowKit

def Trio (w : World) (N B B' : Nat) (S S' : VS) (v : Value) (l : List ByteArray) : Prop :=
  ∃ F F' : Nat → Prop, Ideal w F B S ∧ RefV w F' B' S' ∧ w.ownsRow 0 9 1 v l.length (l.map Value.string) ∧ (∀ k, F k → N ≤ k ∧ ¬ F' k ∧ v.ownBlock ≠ some k ∧ k < w.heap.size) ∧ (∀ k, F' k → N ≤ k ∧ k < w.heap.size ∧ v.ownBlock ≠ some k) ∧ (∀ g, v.ownBlock = some g → N ≤ g) ∧ N ≤ w.heap.size
theorem Trio.below {w w' : World} {N B B' : Nat} {S S' : VS} {v : Value} {l : List ByteArray} (t : Trio w N B B' S S' v l) (hb : Below w.heap.size w w') : Trio w' N B B' S S' v l := by
  obtain ⟨F, F', h1, h2, h3, h4, h5, h6, h7⟩ := t
  exact ⟨F, F', h1.below hb, h2.below hb, owns_keep h3 fun g hg => hb.block g (owns_lt h3 g hg), fun k hk => ⟨(h4 k hk).1, (h4 k hk).2.1, (h4 k hk).2.2.1, Nat.lt_of_lt_of_le (h4 k hk).2.2.2 hb.size⟩, fun k hk => ⟨(h5 k hk).1, Nat.lt_of_lt_of_le (h5 k hk).2.1 hb.size, (h5 k hk).2.2⟩, h6, Nat.le_trans h7 hb.size⟩
theorem Trio.size {w : World} {N B B' : Nat} {S S' : VS} {v : Value} {l : List ByteArray} (t : Trio w N B B' S S' v l) : N ≤ w.heap.size := by
  obtain ⟨F, F', h1, h2, h3, h4, h5, h6, h7⟩ := t
  exact h7
theorem Trio.form {w : World} {N B B' : Nat} {S S' : VS} {v : Value} {l : List ByteArray} (t : Trio w N B B' S S' v l) : ∃ oa cap, v = .slice oa l.length cap := by
  obtain ⟨F, F', h1, h2, h3, h4, h5, h6, h7⟩ := t
  exact owns_slice h3
theorem Trio.text {w : World} {N B B' : Nat} {S S' : VS} {oa : Option Addr} {cap : Nat} {l : List ByteArray} (t : Trio w N B B' S S' (.slice oa l.length cap) l) {i : Nat} (hi : i < l.length) : ∃ g, oa = some ⟨g, 0, none⟩ ∧ w.cell? ⟨g, i, none⟩ = some (.string l[i]) := by
  obtain ⟨F, F', h1, h2, h3, h4, h5, h6, h7⟩ := t
  obtain ⟨g, cap', e, _, hc⟩ := owns_form h3 (by omega)
  simp only [Value.slice.injEq] at e
  exact ⟨g, e.1, hc i _ (by rw [List.getElem?_map, List.getElem?_eq_getElem hi]; rfl)⟩
theorem tseal_any (N B B' : Nat) (S S' : VS) (v : Value) (l : List ByteArray) (h : Hd) (s : ByteArray) (hl : S.seals.length ≤ 1000000) (w : World) (t : Trio w N B B' S S' v l) :
    Calls Tryz.prog 6 #[.pointer (some ⟨B, 0, none⟩), .agg h.arr, .string s] w fun e w' => e = .returned (.tuple #[.string (bsealS S h s), .int .i64 (bsealE h s)]) ∧ Trio w' N B B' (bsealP S h s) S' v l ∧ Below N w w' := by
  obtain ⟨F, F', h1, h2, h3, h4, h5, h6, h7⟩ := t
  refine (bseal_any B F S h s hl w h1).mono fun e w' ⟨he, hI, ht⟩ => ⟨he, ⟨F, F', hI, h2.keep fun k hk hF => ht.2 k hk fun hf => (h4 k hf).2.1 hF, owns_keep h3 fun g hg => ht.2 g (owns_lt h3 g hg) fun hf => (h4 g hf).2.2.1 hg, fun k hk => ⟨(h4 k hk).1, (h4 k hk).2.1, (h4 k hk).2.2.1, Nat.lt_of_lt_of_le (h4 k hk).2.2.2 ht.size⟩, fun k hk => ⟨(h5 k hk).1, Nat.lt_of_lt_of_le (h5 k hk).2.1 ht.size, (h5 k hk).2.2⟩, h6, Nat.le_trans h7 ht.size⟩, ht.below h7 fun k hk => (h4 k hk).1⟩
theorem trseal_any (N B B' : Nat) (S S' : VS) (v : Value) (l : List ByteArray) (h : Hd) (s : ByteArray) (hi : hdInt h) (hl : S'.seals.length ≤ 1000000) (w : World) (t : Trio w N B B' S S' v l) :
    Calls Tryz.prog 8 #[.pointer (some ⟨B', 0, none⟩), .agg h.arr, .string s] w fun e w' => e = .returned (.tuple #[.string (bsealS S' h s), .int .i64 (bsealE h s)]) ∧ Trio w' N B B' S (bsealP S' h s) v l ∧ Below N w w' := by
  obtain ⟨F, F', h1, h2, h3, h4, h5, h6, h7⟩ := t
  refine (rbseal_any B' F' S' h s hi hl w h2).mono fun e w' ⟨he, hR, ht⟩ => ⟨he, ⟨F, grow F' w w', h1.keep fun k hk hF => ht.2 k hk (h4 k hF).2.1, hR, owns_keep h3 fun g hg => ht.2 g (owns_lt h3 g hg) fun hf => (h5 g hf).2.2 hg, fun k hk => ⟨(h4 k hk).1, fun hg => hg.elim (h4 k hk).2.1 fun x => absurd x.1 (Nat.not_le.2 (h4 k hk).2.2.2), (h4 k hk).2.2.1, Nat.lt_of_lt_of_le (h4 k hk).2.2.2 ht.size⟩, fun k hk => hk.elim (fun hf => ⟨(h5 k hf).1, Nat.lt_of_lt_of_le (h5 k hf).2.1 ht.size, (h5 k hf).2.2⟩) fun x => ⟨Nat.le_trans h7 x.1, x.2, fun e => absurd (owns_lt h3 k e) (Nat.not_lt.2 x.1)⟩, h6, Nat.le_trans h7 ht.size⟩, ht.below h7 fun k hk => (h5 k hk).1⟩
theorem Trio.append {w w' : World} {N B B' : Nat} {S S' : VS} {v v' : Value} {l : List ByteArray} {s : ByteArray} (t : Trio w N B B' S S' v l) (hown : w'.ownsRow 0 9 1 v' (l.length + 1) (l.map Value.string ++ [.string s])) (hg : w.grownBy w' v.ownBlock) (hat : v'.ownBlock = v.ownBlock ∨ v'.ownBlock = some w.heap.size) : Trio w' N B B' S S' v' (l ++ [s]) ∧ Below N w w' := by
  obtain ⟨F, F', h1, h2, h3, h4, h5, h6, h7⟩ := t
  have hz := hg.size
  have e1 : l.map Value.string ++ [.string s] = (l ++ [s]).map Value.string := by simp
  have e2 : l.length + 1 = (l ++ [s]).length := by simp
  rw [e1, e2] at hown
  refine ⟨⟨F, F', h1.keep fun k hk hF => hg.block k hk fun e => (h4 k hF).2.2.1 e.symm, h2.keep fun k hk hF => hg.block k hk fun e => (h5 k hF).2.2 e.symm, hown, fun k hk => ⟨(h4 k hk).1, (h4 k hk).2.1, fun e => ?_, Nat.lt_of_lt_of_le (h4 k hk).2.2.2 hz⟩, fun k hk => ⟨(h5 k hk).1, Nat.lt_of_lt_of_le (h5 k hk).2.1 hz, fun e => ?_⟩, fun g e => ?_, Nat.le_trans h7 hz⟩, ⟨hg.os, hg.tape, hg.output, hz, fun k hk => hg.block k (by omega) fun e => absurd (h6 k e.symm) (by omega)⟩⟩
  · rcases hat with x | x
    · exact (h4 k hk).2.2.1 (x.symm.trans e)
    · rw [x] at e; cases e; exact absurd (h4 _ hk).2.2.2 (Nat.lt_irrefl _)
  · rcases hat with x | x
    · exact (h5 k hk).2.2 (x.symm.trans e)
    · rw [x] at e; cases e; exact absurd (h5 _ hk).2.1 (Nat.lt_irrefl _)
  · rcases hat with x | x
    · exact h6 g (x.symm.trans e)
    · rw [x] at e; cases e; exact h7
theorem Trio.owns {w : World} {N B B' : Nat} {S S' : VS} {v : Value} {l : List ByteArray} (t : Trio w N B B' S S' v l) : w.ownsRow 0 9 1 v l.length (l.map Value.string) := by
  obtain ⟨F, F', h1, h2, h3, h4, h5, h6, h7⟩ := t
  exact h3
theorem topen_any (N B B' : Nat) (S S' : VS) (v : Value) (l : List ByteArray) (r : ByteArray) (hl : S.seals.length ≤ 1000000) (w : World) (t : Trio w N B B' S S' v l) :
    Calls Tryz.prog 11 #[.pointer (some ⟨B, 0, none⟩), .string r] w fun e w' => e = .returned (.tuple #[.agg (bopenH S r).arr, .string (bopenS S r), .int .i64 (bopenE S r)]) ∧ Below w.heap.size w w' := by
  obtain ⟨F, F', h1, h2, h3, h4, h5, h6, h7⟩ := t
  exact bopen_any B F S r hl w h1
theorem tropen_any (N B B' : Nat) (S S' : VS) (v : Value) (l : List ByteArray) (r : ByteArray) (hl : S'.seals.length ≤ 1000000) (w : World) (t : Trio w N B B' S S' v l) :
    Calls Tryz.prog 12 #[.pointer (some ⟨B', 0, none⟩), .string r] w fun e w' => e = .returned (.tuple #[.agg (bopenH S' r).arr, .string (bopenS S' r), .int .i64 (bopenE S' r)]) ∧ Below w.heap.size w w' := by
  obtain ⟨F, F', h1, h2, h3, h4, h5, h6, h7⟩ := t
  exact rbopen_any B' F' S' r hl w h2
theorem bsealP_len (S : VS) (h : Hd) (s : ByteArray) : (bsealP S h s).seals.length ≤ S.seals.length + 1 := by
  unfold bsealP
  split
  · exact addN_length S.seals (h.four s)
  · exact Nat.le_succ _
/-- A new pair, and an empty list. -/
theorem trio_new {w w1 : World} {B : Nat} (h1 : Ideal w1 (fun k => w.heap.size ≤ k ∧ k < w1.heap.size) B newV) (hb : Below w.heap.size w w1) :
    Trio (w1.alloc (.cells #[.bool true, .string ⟨#[]⟩, .slice none 0 0, .slice none 0 0, .slice none 0 0] 36)) w.heap.size B w1.heap.size newV newV (.slice none 0 0) [] := by
  have hz := hb.size
  have hs : (w1.alloc (.cells #[.bool true, .string ⟨#[]⟩, .slice none 0 0, .slice none 0 0, .slice none 0 0] 36)).heap.size = w1.heap.size + 1 := by simp
  refine ⟨_, _, h1.below ((Below.refl w1.heap.size w1).alloc (Nat.le_refl _) _), rv_new w1, World.ownsRow_nil _ _ _ _, fun k hk => ⟨hk.1, fun e => by have := hk.2; omega, (fun e => by cases e), by have := hk.2; omega⟩, fun k hk => ⟨by omega, by omega, (fun e => by cases e)⟩, (fun g e => by cases e), by omega⟩
end Go.Proofs.YtcefoeaakdemmaaGreatDoor
