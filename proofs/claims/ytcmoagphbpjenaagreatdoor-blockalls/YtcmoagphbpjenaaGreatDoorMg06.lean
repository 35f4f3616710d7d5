/- What plate's settle does, in plain words: the waiting writes whose places last are kept, in order; the notes of the last writes are struck. · plate's settle over the closures of Flush and of Start: the waiting writes whose places last are kept. · plate's Flush and Start, and the two closures that they hand to settle. -/
import Derived.Test.YtcmoagphbpjenaaGreatDoorMg05
namespace Go.Proofs.YtcmoagphbpjenaaGreatDoor
set_option maxRecDepth 20000
open Go.RowKit

def keptAt (f : Nat → Bool) (wait : List (Nat × ByteArray)) (kept : List ByteArray) : Nat → List ByteArray
  | 0 => kept
  | j + 1 => match wait[j]? with
    | some p => if f j = true then (keptAt f wait kept j).set p.1 p.2 else keptAt f wait kept j
    | none => keptAt f wait kept j
def newAt (wait : List (Nat × ByteArray)) : Nat → Nat → Nat
  | 0, i => lastOf wait i
  | j + 1, i => match wait[j]? with
    | some p => if i = p.1 then 0 else newAt wait j i
    | none => newAt wait j i
def settleP (f : Nat → Bool) (S : PS) : PS := { S with kept := keptAt f S.wait S.kept S.wait.length, wait := [] }

theorem keptAt_length (f : Nat → Bool) (wait : List (Nat × ByteArray)) (kept : List ByteArray) : ∀ j, (keptAt f wait kept j).length = kept.length
  | 0 => rfl
  | j + 1 => by
    have ih := keptAt_length f wait kept j
    simp only [keptAt]
    split
    · split
      · rw [List.length_set]; exact ih
      · exact ih
    · exact ih
theorem keptAt_step {f : Nat → Bool} {wait : List (Nat × ByteArray)} {kept : List ByteArray} {j a : Nat} {s : ByteArray} (h : wait[j]? = some (a, s)) : keptAt f wait kept (j + 1) = if f j = true then (keptAt f wait kept j).set a s else keptAt f wait kept j := by
  simp only [keptAt, h]
theorem newAt_step {wait : List (Nat × ByteArray)} {j a : Nat} {s : ByteArray} (h : wait[j]? = some (a, s)) (i : Nat) : newAt wait (j + 1) i = if i = a then 0 else newAt wait j i := by
  simp only [newAt, h]
theorem newAt_zero (wait : List (Nat × ByteArray)) (i : Nat) : ∀ j, newAt wait j i = 0 ∨ (newAt wait j i = lastOf wait i ∧ ∀ k, k < j → ∀ p, wait[k]? = some p → p.1 ≠ i)
  | 0 => .inr ⟨rfl, fun k hk => absurd hk (Nat.not_lt_zero k)⟩
  | j + 1 => by
    simp only [newAt]
    rcases newAt_zero wait i j with h | ⟨h, h2⟩
    · left
      split
      · split
        · rfl
        · exact h
      · exact h
    · cases hj : wait[j]? with
      | none =>
        right
        refine ⟨h, fun k hk p hp => ?_⟩
        by_cases e : k = j
        · subst e; rw [hj] at hp; cases hp
        · exact h2 k (by omega) p hp
      | some q =>
        dsimp only
        by_cases e : i = q.1
        · left; rw [if_pos e]
        · right
          rw [if_neg e]
          refine ⟨h, fun k hk p hp => ?_⟩
          by_cases e2 : k = j
          · subst e2; rw [hj] at hp; cases hp; exact fun e3 => e e3.symm
          · exact h2 k (by omega) p hp
theorem newAt_all (wait : List (Nat × ByteArray)) (i : Nat) : newAt wait wait.length i = 0 := by
  rcases newAt_zero wait i wait.length with h | ⟨h, h2⟩
  · exact h
  · rw [h]
    cases hl : lastOf wait i with
    | zero => rfl
    | succ k =>
      obtain ⟨s, hs, _⟩ := lastOf_text hl
      exact absurd rfl (h2 k (List.getElem?_eq_some_iff.1 hs).1 (i, s) hs)
theorem keptAt_texts {f : Nat → Bool} {wait : List (Nat × ByteArray)} {kept : List ByteArray} (hw : ∀ p ∈ wait, p.2.size = 64) (hk : ∀ s ∈ kept, s.size = 0 ∨ s.size = 64) : ∀ j, ∀ s ∈ keptAt f wait kept j, s.size = 0 ∨ s.size = 64
  | 0 => hk
  | j + 1 => by
    have ih := keptAt_texts hw hk (f := f) j
    intro s hs
    cases hj : wait[j]? with
    | none => simp only [keptAt, hj] at hs; exact ih s hs
    | some p =>
      simp only [keptAt, hj] at hs
      split at hs
      · rcases List.mem_or_eq_of_mem_set hs with h | rfl
        · exact ih s h
        · exact .inr (hw p (List.mem_of_getElem? hj))
      · exact ih s hs

/-- In the middle of settle: the first j writes are dealt with. -/
structure SetAt (w0 w : World) (F : Nat → Prop) (B K N : Nat) (wv : Value) (S : PS) (f : Nat → Bool) (j : Nat) : Prop where
  row : Row w B 69 (plateC K N S.kept.length wv S)
  kept : Row w K 9 ((keptAt f S.wait S.kept j).map Value.string)
  new : Row w N 3 (rowF S.kept.length fun i => .int .i64 (newAt S.wait j i : Nat))
  wait : w.ownsRow 0 72 2 wv S.wait.length (waitC S.wait)
  touch : Touch F w0 w
theorem SetAt.of {w : World} {F : Nat → Prop} {B K N : Nat} {wv : Value} {S : PS} {f : Nat → Bool} (h : PlateAt w F B K N wv S) : SetAt w w F B K N wv S f 0 := ⟨h.row, h.kept, h.new, h.wait, Touch.refl _ _⟩
theorem SetAt.below {w0 w w' : World} {F : Nat → Prop} {B K N j : Nat} {wv : Value} {S : PS} {f : Nat → Bool} (h : SetAt w0 w F B K N wv S f j) (hb : Below w.heap.size w w') : SetAt w0 w' F B K N wv S f j :=
  ⟨h.row.below hb h.row.lt, h.kept.below hb h.kept.lt, h.new.below hb h.new.lt, owns_keep h.wait fun g hg => hb.block g (owns_lt h.wait g hg), ⟨h.touch.1.trans (hb.mono (Nat.zero_le _)), fun k hk hn => (hb.block k (Nat.lt_of_lt_of_le hk h.touch.size)).trans (h.touch.2 k hk hn)⟩⟩
theorem SetAt.drew {w0 w : World} {F : Nat → Prop} {B K N j : Nat} {wv : Value} {S : PS} {f : Nat → Bool} (h : SetAt w0 w F B K N wv S f j) : SetAt w0 w.drew F B K N wv S f j := h.below (Below.refl _ _).drew
/-- The round's two stores. -/
structure SetMid (w0 w : World) (F : Nat → Prop) (B K N : Nat) (wv : Value) (S : PS) (f : Nat → Bool) (j : Nat) : Prop where
  row : Row w B 69 (plateC K N S.kept.length wv S)
  kept : Row w K 9 ((keptAt f S.wait S.kept (j + 1)).map Value.string)
  new : Row w N 3 (rowF S.kept.length fun i => .int .i64 (newAt S.wait j i : Nat))
  wait : w.ownsRow 0 72 2 wv S.wait.length (waitC S.wait)
  touch : Touch F w0 w
theorem SetAt.mid {w0 w wp : World} {F : Nat → Prop} {B K N j a : Nat} {wv : Value} {S : PS} {f : Nat → Bool} {s : ByteArray} (h : SetAt w0 w F B K N wv S f j) (hp : PlateAt wp F B K N wv S) (hj : S.wait[j]? = some (a, s)) (hf : f j = true) : SetMid w0 (w.setCell ⟨K, a, none⟩ (.string s)) F B K N wv S f j := by
  refine ⟨h.row.off hp.bk _ _, ?_, h.new.off hp.kn.symm _ _, owns_off h.wait hp.wK _ _, h.touch.setCell _ _ _ (.inl hp.fK)⟩
  have := h.kept.setL a (.string s)
  rw [keptAt_step hj, if_pos hf]
  rw [← List.map_set] at this
  exact this
theorem SetAt.skip {w0 w : World} {F : Nat → Prop} {B K N j a : Nat} {wv : Value} {S : PS} {f : Nat → Bool} {s : ByteArray} (h : SetAt w0 w F B K N wv S f j) (hj : S.wait[j]? = some (a, s)) (hf : f j = false) : SetMid w0 w F B K N wv S f j := by
  refine ⟨h.row, ?_, h.new, h.wait, h.touch⟩
  rw [keptAt_step hj, hf]
  exact h.kept
theorem SetMid.drew {w0 w : World} {F : Nat → Prop} {B K N j : Nat} {wv : Value} {S : PS} {f : Nat → Bool} (h : SetMid w0 w F B K N wv S f j) : SetMid w0 w.drew F B K N wv S f j :=
  ⟨h.row, h.kept, h.new, owns_keep h.wait fun _ _ => rfl, h.touch.drew⟩
theorem SetMid.next {w0 w wp : World} {F : Nat → Prop} {B K N j a : Nat} {wv : Value} {S : PS} {f : Nat → Bool} {s : ByteArray} (h : SetMid w0 w F B K N wv S f j) (hp : PlateAt wp F B K N wv S) (hj : S.wait[j]? = some (a, s)) : SetAt w0 (w.setCell ⟨N, a, none⟩ (.int .i64 0)) F B K N wv S f (j + 1) := by
  refine ⟨h.row.off hp.bn _ _, h.kept.off hp.kn _ _, ?_, owns_off h.wait hp.wN _ _, h.touch.setCell _ _ _ (.inl hp.fN)⟩
  refine (h.new.setF a (.int .i64 0)).congr (rowF_congr fun k _ => ?_)
  rw [newAt_step hj]
  by_cases e : k = a
  · rw [if_pos e, if_pos e]; rfl
  · rw [if_neg e, if_neg e]
theorem SetAt.done {w0 w wp : World} {F : Nat → Prop} {B K N : Nat} {wv : Value} {S : PS} {f : Nat → Bool} (h : SetAt w0 w F B K N wv S f S.wait.length) (hp : PlateAt wp F B K N wv S) : PlateAt (w.setCell ⟨B, 1, none⟩ (.slice none 0 0)) F B K N (.slice none 0 0) (settleP f S) ∧ Touch F w0 (w.setCell ⟨B, 1, none⟩ (.slice none 0 0)) := by
  have hl : (settleP f S).kept.length = S.kept.length := keptAt_length _ _ _ _
  refine ⟨⟨?_, h.kept.off hp.bk.symm _ _, ?_, World.ownsRow_nil _ _ _ _, hp.fB, hp.fK, hp.fN, fun g hg => (by cases hg), hp.bk, hp.bn, hp.kn, by simp [Value.ownBlock], by simp [Value.ownBlock], by simp [Value.ownBlock], by rw [hl]; exact hp.most, by simp [settleP], keptAt_texts (fun p hp' => (hp.ats p hp').2) hp.texts _, hp.fuse⟩, h.touch.setCell _ _ _ (.inl hp.fB)⟩
  · rw [hl]; exact h.row.setL 1 (.slice none 0 0)
  · rw [hl]
    refine (h.new.off hp.bn.symm 1 (.slice none 0 0)).congr (rowF_congr fun k _ => ?_)
    rw [newAt_all]
    rfl
theorem SetAt.cW {w0 w : World} {F : Nat → Prop} {B K N j a : Nat} {wv : Value} {S : PS} {f : Nat → Bool} {i : Nat} {s : ByteArray} (h : SetAt w0 w F B K N wv S f j) {g cap : Nat} (hg : wv = .slice (some ⟨g, 0, none⟩) S.wait.length cap) (hi : S.wait[i]? = some (a, s)) : w.cell? ⟨g, i * 2, none⟩ = some (.int .i64 (a : Nat)) ∧ w.cell? ⟨g, i * 2 + 1, none⟩ = some (.string s) := by
  obtain ⟨g', cap', e, _, hc⟩ := owns_form h.wait (by have := (List.getElem?_eq_some_iff.1 hi).1; omega)
  rw [hg] at e
  cases e
  exact ⟨hc _ _ (waitC_get _ _ _ _ hi).1, hc _ _ (waitC_get _ _ _ _ hi).2⟩
end Go.Proofs.YtcmoagphbpjenaaGreatDoor

namespace Go.Proofs.YtcmoagphbpjenaaGreatDoor
set_option maxRecDepth 20000
open Go.RowKit

end Go.Proofs.YtcmoagphbpjenaaGreatDoor

namespace Go.Proofs.YtcmoagphbpjenaaGreatDoor
set_option maxRecDepth 20000
open Go.RowKit

/-- A list of truth values that lies outside the blocks F. -/
def Bools (w : World) (F : Nat → Prop) (kv : Value) (l : List Bool) : Prop := (∃ oa cap, kv = .slice oa 0 cap ∧ l = []) ∨ ∃ g o cap, kv = .slice (some ⟨g, o, none⟩) l.length cap ∧ g < w.heap.size ∧ ¬ F g ∧ ∀ i b, l[i]? = some b → w.cell? ⟨g, o + i, none⟩ = some (.bool b)
theorem Bools.touch {w w' : World} {F : Nat → Prop} {kv : Value} {l : List Bool} (h : Bools w F kv l) (ht : Touch F w w') : Bools w' F kv l := by
  rcases h with h | ⟨g, o, cap, rfl, hg, hf, hc⟩
  · exact .inl h
  · exact .inr ⟨g, o, cap, rfl, Nat.lt_of_lt_of_le hg ht.size, hf, fun i b hi => by rw [World.cell?_of_block (a := ⟨g, o + i, none⟩) (ht.2 g hg hf)]; exact hc i b hi⟩
theorem Bools.mono {w : World} {F F' : Nat → Prop} {kv : Value} {l : List Bool} (h : Bools w F kv l) (hF : ∀ k, k < w.heap.size → F' k → F k) : Bools w F' kv l := by
  rcases h with h | ⟨g, o, cap, rfl, hg, hf, hc⟩
  · exact .inl h
  · exact .inr ⟨g, o, cap, rfl, hg, fun h => hf (hF g hg h), hc⟩
def lastsB (l : List Bool) (j : Nat) : Bool := l.getD j false

def flushE (S : PS) : Int := if S.up = true then 0 else 20
def flushP (S : PS) : PS := if S.up = true then settleP (fun _ => true) S else S
def startP (l : List Bool) (S : PS) : PS := { settleP (lastsB l) S with fuse := -1, up := true }

end Go.Proofs.YtcmoagphbpjenaaGreatDoor
