/- A device behind block's Put, read by Get: arithmetic; nothing of the program's calls. · What plate's settle does, in plain words: the waiting writes whose places last are kept, in order; the notes of the last writes are struck. · plate's settle over the closures of Flush and of Start: the waiting writes whose places last are kept. -/
import Derived.Test.YtbmjablmmlnieaaGreatDoorMg12
import Derived.Test.YtbmjablmmlnieaaGreatDoorMg10
namespace Go.Proofs.YtbmjablmmlnieaaGreatDoor
set_option maxRecDepth 20000
open Go.RowKit

theorem readP_same (S : PS) (x y : Int) : readE (readP S x) y = readE S y ∧ readS (readP S x) y = readS S y ∧ (readP S x).up = S.up ∧ (readP S x).kept = S.kept ∧ (readP S x).wait = S.wait := by
  unfold readP
  split
  · split
    · exact ⟨rfl, rfl, rfl, rfl, rfl⟩
    · exact ⟨rfl, rfl, rfl, rfl, rfl⟩
  · exact ⟨rfl, rfl, rfl, rfl, rfl⟩
/-- Two devices that are read alike. -/
def Alike (S S' : PS) : Prop := S'.up = S.up ∧ S'.kept = S.kept ∧ S'.wait = S.wait ∧ S'.fuse = S.fuse
theorem readP_alike (S : PS) (x : Int) : Alike S (readP S x) := by
  unfold readP
  split
  · split
    · exact ⟨rfl, rfl, rfl, rfl⟩
    · exact ⟨rfl, rfl, rfl, rfl⟩
  · exact ⟨rfl, rfl, rfl, rfl⟩
theorem Alike.trans {S S1 S2 : PS} (h : Alike S S1) (k : Alike S1 S2) : Alike S S2 := ⟨k.1.trans h.1, k.2.1.trans h.2.1, k.2.2.1.trans h.2.2.1, k.2.2.2.trans h.2.2.2⟩
theorem Alike.reads {S S' : PS} (h : Alike S S') (x : Int) : readE S' x = readE S x ∧ readS S' x = readS S x := by
  obtain ⟨h1, h2, h3, _⟩ := h
  unfold readE readS heldE heldS keptS hasB
  rw [h1, h2, h3]
  exact ⟨rfl, rfl⟩
/-- Whatever is read: the device stays alike. -/
theorem getGo_alike (a : Nat) : ∀ (n j : Nat) (S : PS) (t : ByteArray) (m : Nat), Alike S (getGo a n j S t m).2
  | 0, _, _, _, _ => ⟨rfl, rfl, rfl, rfl⟩
  | n + 1, j, S, t, m => by
    unfold getGo
    split
    · exact (readP_alike S _).trans (getGo_alike a n _ _ _ _)
    · split
      · exact (readP_alike S _).trans (getGo_alike a n _ _ _ _)
      · exact readP_alike S _
theorem sec_join (r : ByteArray) (j n : Nat) : secS r j ++ r.extract (64 * (j + 1)) (64 * (j + 1 + n)) = r.extract (64 * j) (64 * (j + (n + 1))) := by
  unfold secS
  rw [show 64 * j + 64 = 64 * (j + 1) by omega, show 64 * (j + 1 + n) = 64 * (j + (n + 1)) by omega, ByteArray.extract_append_extract, Nat.min_eq_left (by omega), Nat.max_eq_right (by omega)]
/-- All sectors can be read. -/
theorem getGo_all (a : Nat) (r : ByteArray) : ∀ (n j : Nat) (S : PS) (t : ByteArray) (m : Nat), (∀ i, j ≤ i → i < j + n → readE S ((8 * a + i : Nat) : Int) = 0 ∧ readS S ((8 * a + i : Nat) : Int) = secS r i) → (getGo a n j S t m).1 = (t ++ r.extract (64 * j) (64 * (j + n)), m, 0)
  | 0, j, S, t, m, _ => by
    simp [getGo]
  | n + 1, j, S, t, m, h => by
    obtain ⟨h1, h2⟩ := h j (Nat.le_refl _) (by omega)
    unfold getGo
    rw [if_pos h1, getGo_all a r n (j + 1) _ _ _ fun i hi hn => by
      obtain ⟨q1, q2⟩ := (readP_alike S ((8 * a + j : Nat) : Int)).reads ((8 * a + i : Nat) : Int)
      rw [q1, q2]
      exact h i (by omega) (by omega), h2, ByteArray.append_assoc, sec_join]
/-- One can't: the number is not 0. -/
theorem getGo_mask (a : Nat) : ∀ (n j : Nat) (S : PS) (t : ByteArray) (m : Nat), (∀ i, j ≤ i → i < j + n → readE S ((8 * a + i : Nat) : Int) = 0 ∨ readE S ((8 * a + i : Nat) : Int) = 21) → m ≤ (getGo a n j S t m).1.2.1 ∧ (getGo a n j S t m).1.2.2 = 0 ∧ ((∃ i, j ≤ i ∧ i < j + n ∧ readE S ((8 * a + i : Nat) : Int) = 21) → 0 < (getGo a n j S t m).1.2.1)
  | 0, j, S, t, m, _ => ⟨Nat.le_refl _, rfl, fun ⟨i, h1, h2, _⟩ => by omega⟩
  | n + 1, j, S, t, m, h => by
    have hk : ∀ i, j + 1 ≤ i → i < j + 1 + n → readE (readP S ((8 * a + j : Nat) : Int)) ((8 * a + i : Nat) : Int) = 0 ∨ readE (readP S ((8 * a + j : Nat) : Int)) ((8 * a + i : Nat) : Int) = 21 := fun i hi hn => by
      rw [((readP_alike S ((8 * a + j : Nat) : Int)).reads ((8 * a + i : Nat) : Int)).1]
      exact h i (by omega) (by omega)
    unfold getGo
    by_cases h0 : readE S ((8 * a + j : Nat) : Int) = 0
    · rw [if_pos h0]
      obtain ⟨q1, q2, q3⟩ := getGo_mask a n (j + 1) (readP S ((8 * a + j : Nat) : Int)) (t ++ readS S ((8 * a + j : Nat) : Int)) m hk
      refine ⟨q1, q2, fun ⟨i, h1, h2, h3⟩ => q3 ⟨i, ?_, by omega, ?_⟩⟩
      · by_cases e : i = j
        · subst e; omega
        · omega
      · rw [((readP_alike S ((8 * a + j : Nat) : Int)).reads ((8 * a + i : Nat) : Int)).1]
        exact h3
    · have h21 : readE S ((8 * a + j : Nat) : Int) = 21 := (h j (Nat.le_refl _) (by omega)).resolve_left h0
      rw [if_neg h0, if_pos h21]
      obtain ⟨q1, q2, _⟩ := getGo_mask a n (j + 1) (readP S ((8 * a + j : Nat) : Int)) (t ++ fillS 0 64) (m + 2 ^ j) hk
      have hp : 0 < 2 ^ j := Nat.two_pow_pos j
      exact ⟨by omega, q2, fun _ => by omega⟩
/-- The sectors of a block as writes. -/
def secsW (r : ByteArray) (a j : Nat) : Nat → List (Nat × ByteArray)
  | 0 => []
  | n + 1 => (8 * a + j, secS r j) :: secsW r a (j + 1) n
theorem putGo_all (r : ByteArray) (a : Nat) (hr : r.size = 512) : ∀ (n j : Nat) (S : PS), j + n ≤ 8 → S.up = true → S.fuse = -1 → 8 * a + 8 ≤ S.kept.length → ∃ w', putGo r a n j S = (0, { S with writes := w', wait := S.wait ++ secsW r a j n })
  | 0, j, S, _, _, _, _ => ⟨S.writes, by simp [putGo, secsW]⟩
  | n + 1, j, S, hj, hu, hf, hk => by
    have hs : (secS r j).size = 64 := by simp [secS, hr]; omega
    have hh : hasB S ((8 * a + j : Nat) : Int) = true := by simp [hasB]; omega
    have hE : writeE S ((8 * a + j : Nat) : Int) (secS r j) = 0 := by
      unfold writeE
      rw [if_pos hs, if_pos hu, if_pos hh, if_neg (by rw [hf]; decide)]
    have hP : writeP S ((8 * a + j : Nat) : Int) (secS r j) = { S with writes := wrap64 (S.writes + 1), wait := S.wait ++ [(8 * a + j, secS r j)] } := by
      simp only [writeP, hs, if_true, hu, hh, hf, Int.toNat_natCast]
      simp
    unfold putGo
    rw [if_pos hE, hP]
    obtain ⟨w', h'⟩ := putGo_all r a hr n (j + 1) { S with writes := wrap64 (S.writes + 1), wait := S.wait ++ [(8 * a + j, secS r j)] } (by omega) hu hf hk
    refine ⟨w', ?_⟩
    rw [h']
    simp [secsW]
theorem textOf_append (l m : List (Nat × ByteArray)) (i : Nat) : textOf (l ++ m) i = (textOf m i).or (textOf l i) := by
  have h : ∀ a b : List (Nat × ByteArray), textR (a ++ b) i = (textR a i).or (textR b i) := fun a b => by
    induction a with
    | nil => simp [textR]
    | cons p t ih =>
      obtain ⟨k, s⟩ := p
      rw [List.cons_append]
      simp only [textR]
      split
      · rfl
      · exact ih
  unfold textOf
  rw [List.reverse_append, h]
theorem textOf_secs (r : ByteArray) (a : Nat) : ∀ (n j i : Nat), textOf (secsW r a j n) (8 * a + i) = if j ≤ i ∧ i < j + n then some (secS r i) else none
  | 0, j, i => by
    rw [if_neg (by omega)]
    rfl
  | n + 1, j, i => by
    rw [show secsW r a j (n + 1) = [(8 * a + j, secS r j)] ++ secsW r a (j + 1) n from rfl, textOf_append, textOf_secs r a n (j + 1) i]
    by_cases h1 : j + 1 ≤ i ∧ i < j + 1 + n
    · rw [if_pos h1, if_pos (by omega)]
      rfl
    · rw [if_neg h1]
      by_cases h2 : i = j
      · subst h2
        rw [if_pos (by omega)]
        simp [textOf, textR]
      · rw [if_neg (by omega)]
        simp [textOf, textR]
        omega
/-- What was put is read. -/
theorem put_reads (r : ByteArray) (a : Nat) (S : PS) (w' : Int) (hu : S.up = true) (hk : 8 * a + 8 ≤ S.kept.length) (i : Nat) (hi : i < 8) : readE { S with writes := w', wait := S.wait ++ secsW r a 0 8 } ((8 * a + i : Nat) : Int) = 0 ∧ readS { S with writes := w', wait := S.wait ++ secsW r a 0 8 } ((8 * a + i : Nat) : Int) = secS r i := by
  have hh : hasB { S with writes := w', wait := S.wait ++ secsW r a 0 8 } ((8 * a + i : Nat) : Int) = true := by simp [hasB]; omega
  have ht : textOf (S.wait ++ secsW r a 0 8) (8 * a + i) = some (secS r i) := by
    rw [textOf_append, textOf_secs, if_pos (by omega)]
    rfl
  unfold readE readS
  rw [if_pos hu, if_pos hh, if_pos hu, if_pos hh]
  simp only [Int.toNat_natCast, ht]
  exact ⟨rfl, rfl⟩
end Go.Proofs.YtbmjablmmlnieaaGreatDoor

namespace Go.Proofs.YtbmjablmmlnieaaGreatDoor
set_option maxRecDepth 20000
open Go.RowKit

def keptAt (f : Nat → Bool) (wait : List (Nat × ByteArray)) (kept : List ByteArray) : Nat → List ByteArray
  | 0 => kept
  | j + 1 => match wait[j]? with
    | some p => if f j = true then (keptAt f wait kept j).set p.1 p.2 else keptAt f wait kept j
    | none => keptAt f wait kept j
def newAt (wait : List (Nat × ByteArray)) : Nat → Nat → Nat
  | 0, i => lastOf wait i
  | j + 1, i => match wait[j]? with
    | some p => if i = p.1 then 0 else newAt wait j i
    | none => newAt wait j i
def settleP (f : Nat → Bool) (S : PS) : PS := { S with kept := keptAt f S.wait S.kept S.wait.length, wait := [] }

theorem keptAt_length (f : Nat → Bool) (wait : List (Nat × ByteArray)) (kept : List ByteArray) : ∀ j, (keptAt f wait kept j).length = kept.length
  | 0 => rfl
  | j + 1 => by
    have ih := keptAt_length f wait kept j
    simp only [keptAt]
    split
    · split
      · rw [List.length_set]; exact ih
      · exact ih
    · exact ih
theorem keptAt_step {f : Nat → Bool} {wait : List (Nat × ByteArray)} {kept : List ByteArray} {j a : Nat} {s : ByteArray} (h : wait[j]? = some (a, s)) : keptAt f wait kept (j + 1) = if f j = true then (keptAt f wait kept j).set a s else keptAt f wait kept j := by
  simp only [keptAt, h]
theorem newAt_step {wait : List (Nat × ByteArray)} {j a : Nat} {s : ByteArray} (h : wait[j]? = some (a, s)) (i : Nat) : newAt wait (j + 1) i = if i = a then 0 else newAt wait j i := by
  simp only [newAt, h]
theorem newAt_zero (wait : List (Nat × ByteArray)) (i : Nat) : ∀ j, newAt wait j i = 0 ∨ (newAt wait j i = lastOf wait i ∧ ∀ k, k < j → ∀ p, wait[k]? = some p → p.1 ≠ i)
  | 0 => .inr ⟨rfl, fun k hk => absurd hk (Nat.not_lt_zero k)⟩
  | j + 1 => by
    simp only [newAt]
    rcases newAt_zero wait i j with h | ⟨h, h2⟩
    · left
      split
      · split
        · rfl
        · exact h
      · exact h
    · cases hj : wait[j]? with
      | none =>
        right
        refine ⟨h, fun k hk p hp => ?_⟩
        by_cases e : k = j
        · subst e; rw [hj] at hp; cases hp
        · exact h2 k (by omega) p hp
      | some q =>
        dsimp only
        by_cases e : i = q.1
        · left; rw [if_pos e]
        · right
          rw [if_neg e]
          refine ⟨h, fun k hk p hp => ?_⟩
          by_cases e2 : k = j
          · subst e2; rw [hj] at hp; cases hp; exact fun e3 => e e3.symm
          · exact h2 k (by omega) p hp
theorem newAt_all (wait : List (Nat × ByteArray)) (i : Nat) : newAt wait wait.length i = 0 := by
  rcases newAt_zero wait i wait.length with h | ⟨h, h2⟩
  · exact h
  · rw [h]
    cases hl : lastOf wait i with
    | zero => rfl
    | succ k =>
      obtain ⟨s, hs, _⟩ := lastOf_text hl
      exact absurd rfl (h2 k (List.getElem?_eq_some_iff.1 hs).1 (i, s) hs)
theorem keptAt_texts {f : Nat → Bool} {wait : List (Nat × ByteArray)} {kept : List ByteArray} (hw : ∀ p ∈ wait, p.2.size = 64) (hk : ∀ s ∈ kept, s.size = 0 ∨ s.size = 64) : ∀ j, ∀ s ∈ keptAt f wait kept j, s.size = 0 ∨ s.size = 64
  | 0 => hk
  | j + 1 => by
    have ih := keptAt_texts hw hk (f := f) j
    intro s hs
    cases hj : wait[j]? with
    | none => simp only [keptAt, hj] at hs; exact ih s hs
    | some p =>
      simp only [keptAt, hj] at hs
      split at hs
      · rcases List.mem_or_eq_of_mem_set hs with h | rfl
        · exact ih s h
        · exact .inr (hw p (List.mem_of_getElem? hj))
      · exact ih s hs

/-- In the middle of settle: the first j writes are dealt with. -/
structure SetAt (w0 w : World) (F : Nat → Prop) (B K N : Nat) (wv : Value) (S : PS) (f : Nat → Bool) (j : Nat) : Prop where
  row : Row w B 68 (plateC K N S.kept.length wv S)
  kept : Row w K 9 ((keptAt f S.wait S.kept j).map Value.string)
  new : Row w N 3 (rowF S.kept.length fun i => .int .i64 (newAt S.wait j i : Nat))
  wait : w.ownsRow 0 153 2 wv S.wait.length (waitC S.wait)
  touch : Touch F w0 w
theorem SetAt.of {w : World} {F : Nat → Prop} {B K N : Nat} {wv : Value} {S : PS} {f : Nat → Bool} (h : PlateAt w F B K N wv S) : SetAt w w F B K N wv S f 0 := ⟨h.row, h.kept, h.new, h.wait, Touch.refl _ _⟩
theorem SetAt.below {w0 w w' : World} {F : Nat → Prop} {B K N j : Nat} {wv : Value} {S : PS} {f : Nat → Bool} (h : SetAt w0 w F B K N wv S f j) (hb : Below w.heap.size w w') : SetAt w0 w' F B K N wv S f j :=
  ⟨h.row.below hb h.row.lt, h.kept.below hb h.kept.lt, h.new.below hb h.new.lt, owns_keep h.wait fun g hg => hb.block g (owns_lt h.wait g hg), ⟨h.touch.1.trans (hb.mono (Nat.zero_le _)), fun k hk hn => (hb.block k (Nat.lt_of_lt_of_le hk h.touch.size)).trans (h.touch.2 k hk hn)⟩⟩
theorem SetAt.drew {w0 w : World} {F : Nat → Prop} {B K N j : Nat} {wv : Value} {S : PS} {f : Nat → Bool} (h : SetAt w0 w F B K N wv S f j) : SetAt w0 w.drew F B K N wv S f j := h.below (Below.refl _ _).drew
/-- The round's two stores. -/
structure SetMid (w0 w : World) (F : Nat → Prop) (B K N : Nat) (wv : Value) (S : PS) (f : Nat → Bool) (j : Nat) : Prop where
  row : Row w B 68 (plateC K N S.kept.length wv S)
  kept : Row w K 9 ((keptAt f S.wait S.kept (j + 1)).map Value.string)
  new : Row w N 3 (rowF S.kept.length fun i => .int .i64 (newAt S.wait j i : Nat))
  wait : w.ownsRow 0 153 2 wv S.wait.length (waitC S.wait)
  touch : Touch F w0 w
theorem SetAt.mid {w0 w wp : World} {F : Nat → Prop} {B K N j a : Nat} {wv : Value} {S : PS} {f : Nat → Bool} {s : ByteArray} (h : SetAt w0 w F B K N wv S f j) (hp : PlateAt wp F B K N wv S) (hj : S.wait[j]? = some (a, s)) (hf : f j = true) : SetMid w0 (w.setCell ⟨K, a, none⟩ (.string s)) F B K N wv S f j := by
  refine ⟨h.row.off hp.bk _ _, ?_, h.new.off hp.kn.symm _ _, owns_off h.wait hp.wK _ _, h.touch.setCell _ _ _ (.inl hp.fK)⟩
  have := h.kept.setL a (.string s)
  rw [keptAt_step hj, if_pos hf]
  rw [← List.map_set] at this
  exact this
theorem SetAt.skip {w0 w : World} {F : Nat → Prop} {B K N j a : Nat} {wv : Value} {S : PS} {f : Nat → Bool} {s : ByteArray} (h : SetAt w0 w F B K N wv S f j) (hj : S.wait[j]? = some (a, s)) (hf : f j = false) : SetMid w0 w F B K N wv S f j := by
  refine ⟨h.row, ?_, h.new, h.wait, h.touch⟩
  rw [keptAt_step hj, hf]
  exact h.kept
theorem SetMid.drew {w0 w : World} {F : Nat → Prop} {B K N j : Nat} {wv : Value} {S : PS} {f : Nat → Bool} (h : SetMid w0 w F B K N wv S f j) : SetMid w0 w.drew F B K N wv S f j :=
  ⟨h.row, h.kept, h.new, owns_keep h.wait fun _ _ => rfl, h.touch.drew⟩
theorem SetMid.next {w0 w wp : World} {F : Nat → Prop} {B K N j a : Nat} {wv : Value} {S : PS} {f : Nat → Bool} {s : ByteArray} (h : SetMid w0 w F B K N wv S f j) (hp : PlateAt wp F B K N wv S) (hj : S.wait[j]? = some (a, s)) : SetAt w0 (w.setCell ⟨N, a, none⟩ (.int .i64 0)) F B K N wv S f (j + 1) := by
  refine ⟨h.row.off hp.bn _ _, h.kept.off hp.kn _ _, ?_, owns_off h.wait hp.wN _ _, h.touch.setCell _ _ _ (.inl hp.fN)⟩
  refine (h.new.setF a (.int .i64 0)).congr (rowF_congr fun k _ => ?_)
  rw [newAt_step hj]
  by_cases e : k = a
  · rw [if_pos e, if_pos e]; rfl
  · rw [if_neg e, if_neg e]
theorem SetAt.done {w0 w wp : World} {F : Nat → Prop} {B K N : Nat} {wv : Value} {S : PS} {f : Nat → Bool} (h : SetAt w0 w F B K N wv S f S.wait.length) (hp : PlateAt wp F B K N wv S) : PlateAt (w.setCell ⟨B, 1, none⟩ (.slice none 0 0)) F B K N (.slice none 0 0) (settleP f S) ∧ Touch F w0 (w.setCell ⟨B, 1, none⟩ (.slice none 0 0)) := by
  have hl : (settleP f S).kept.length = S.kept.length := keptAt_length _ _ _ _
  refine ⟨⟨?_, h.kept.off hp.bk.symm _ _, ?_, World.ownsRow_nil _ _ _ _, hp.fB, hp.fK, hp.fN, fun g hg => (by cases hg), hp.bk, hp.bn, hp.kn, by simp [Value.ownBlock], by simp [Value.ownBlock], by simp [Value.ownBlock], by rw [hl]; exact hp.most, by simp [settleP], keptAt_texts (fun p hp' => (hp.ats p hp').2) hp.texts _, hp.fuse⟩, h.touch.setCell _ _ _ (.inl hp.fB)⟩
  · rw [hl]; exact h.row.setL 1 (.slice none 0 0)
  · rw [hl]
    refine (h.new.off hp.bn.symm 1 (.slice none 0 0)).congr (rowF_congr fun k _ => ?_)
    rw [newAt_all]
    rfl
theorem SetAt.cW {w0 w : World} {F : Nat → Prop} {B K N j a : Nat} {wv : Value} {S : PS} {f : Nat → Bool} {i : Nat} {s : ByteArray} (h : SetAt w0 w F B K N wv S f j) {g cap : Nat} (hg : wv = .slice (some ⟨g, 0, none⟩) S.wait.length cap) (hi : S.wait[i]? = some (a, s)) : w.cell? ⟨g, i * 2, none⟩ = some (.int .i64 (a : Nat)) ∧ w.cell? ⟨g, i * 2 + 1, none⟩ = some (.string s) := by
  obtain ⟨g', cap', e, _, hc⟩ := owns_form h.wait (by have := (List.getElem?_eq_some_iff.1 hi).1; omega)
  rw [hg] at e
  cases e
  exact ⟨hc _ _ (waitC_get _ _ _ _ hi).1, hc _ _ (waitC_get _ _ _ _ hi).2⟩
end Go.Proofs.YtbmjablmmlnieaaGreatDoor

namespace Go.Proofs.YtbmjablmmlnieaaGreatDoor
set_option maxRecDepth 20000
open Go.RowKit

set_option maxRecDepth 10000 in
set_option maxHeartbeats 2000000 in
theorem settleF (B : Nat) (F : Nat → Prop) (S : PS) (f : Nat → Bool) (w : World) (hp : Plate w F B S) (hw : S.wait.length ≤ 1000000)
    (hcall : ∀ (j : Nat) w1, j < S.wait.length → Touch F w w1 → Calls Tryz.prog 125 #[.int .i64 (j : Int)] w1 fun e w2 => e = .returned (.bool (f j)) ∧ w2 = w1) :
    Calls Tryz.prog 44 #[.pointer (some ⟨B, 0, none⟩), .func (.func 125) #[] #[]] w fun e w' => e = .returned (.tuple #[]) ∧ Plate w' F B (settleP f S) ∧ Touch F w w' := by
  obtain ⟨K, N, wv, hp⟩ := hp
  have c1 := hp.c1
  have HP : Hid (PlateAt w F B K N wv S) := hp
  have HC : Hid (∀ (j : Nat) w1, j < S.wait.length → Touch F w w1 → Calls Tryz.prog 125 #[.int .i64 (j : Int)] w1 fun e w2 => e = .returned (.bool (f j)) ∧ w2 = w1) := hcall
  clear hcall
  have hform : ∃ oa cap, wv = .slice oa S.wait.length cap := by
    rcases owns_len hp.wait with ⟨cap, e⟩ | ⟨g, cap, e⟩
    · exact ⟨_, cap, e⟩
    · exact ⟨_, cap, e⟩
  obtain ⟨oa, cap, rfl⟩ := hform
  clear hp
  go_enter Tryz.func44, Tryz.ntmps44
  go_wp2_with fail
  go_loopw [11] (fun v wr => ∃ j : Nat, j ≤ S.wait.length ∧ v = .int .i64 j ∧ SetAt w wr F B K N (.slice oa S.wait.length cap) S f j) (fun v _ => S.wait.length - (intOf v).toNat)
  case atStart => exact ⟨0, Nat.zero_le _, rfl, SetAt.of HP.out⟩
  case round =>
    clear c1
    obtain ⟨j, hj, rfl, hS⟩ := hrel
    by_cases hlt : j < S.wait.length
    · have j1 : (j : Int) < S.wait.length := by omega
      obtain ⟨a, s, hjs⟩ : ∃ a s, S.wait[j]? = some (a, s) := ⟨S.wait[j].1, S.wait[j].2, List.getElem?_eq_getElem hlt⟩
      obtain ⟨g, cap', hwv, hgc, _⟩ := owns_form hS.wait (by omega)
      obtain ⟨rfl, rfl⟩ : oa = some ⟨g, 0, none⟩ ∧ cap = cap' := by cases hwv; exact ⟨rfl, rfl⟩
      obtain ⟨d0, d1⟩ := hS.cW rfl hjs
      have ha : a < S.kept.length := (HP.out.ats (a, s) (List.mem_of_getElem? hjs)).1
      have hb3 : Below wr.heap.size wr (wr.alloc (.cells #[.int .i64 (a : Nat), .string s] 153)) := (Below.refl _ _).alloc (Nat.le_refl _) _
      have n0 : (wr.alloc (.cells #[.int .i64 (a : Nat), .string s] 153)).heap[wr.heap.size]? = some (.cells #[.int .i64 (a : Nat), .string s] 153 (0, 0)) := heap_alloc_new wr _
      have HS : Hid (SetAt w (wr.alloc (.cells #[.int .i64 (a : Nat), .string s] 153)) F B K N (.slice (some ⟨g, 0, none⟩) S.wait.length cap) S f j) := hS.below hb3
      have HJ : Hid (S.wait[j]? = some (a, s)) := hjs
      have HS2 : Hid (Row wr K _ _ ∧ Row wr N _ _ ∧ Row wr B _ _) := ⟨hS.kept, hS.new, hS.row⟩
      clear hS hjs
      have hW : wr.heap.size ≠ K ∧ wr.heap.size ≠ N ∧ wr.heap.size ≠ B := ⟨by have := HS2.out.1.lt; omega, by have := HS2.out.2.1.lt; omega, by have := HS2.out.2.2.lt; omega⟩
      obtain ⟨w3, hw3⟩ : ∃ w3, wr.alloc (.cells #[.int .i64 (a : Nat), .string s] 153) = w3 := ⟨_, rfl⟩
      rw [hw3] at HS n0
      have n1 : Row w3 wr.heap.size 153 [.int .i64 (a : Nat), .string s] := n0
      have hcl := HC.out j w3 hlt HS.out.touch
      clear n0 hb3 HS2
      generalize hwz : wr.heap.size = wz at *
      cases hf : f j <;> rw [hf] at hcl
      case' true =>
        have m0 : w3.cell? ⟨wz, 0, none⟩ = some (.int .i64 (a : Nat)) := n1.cell 0
        have m1 : w3.cell? ⟨wz, 1, none⟩ = some (.string s) := n1.cell 1
        have b0 : w3.cell? ⟨B, 0, none⟩ = some (.slice (some ⟨K, 0, none⟩) S.kept.length S.kept.length) := HS.out.row.cell 0
        have hcK : ∃ old, w3.cell? ⟨K, a, none⟩ = some (.string old) := ⟨(keptAt f S.wait S.kept j)[a]'(by rw [keptAt_length]; exact ha), by rw [HS.out.kept.cell, List.getElem?_map, List.getElem?_eq_getElem (by rw [keptAt_length]; exact ha)]; rfl⟩
        obtain ⟨old, hcK⟩ := hcK
        have hfK : w3.frozen? ⟨K, a, none⟩ = false := HS.out.kept.frozen a
        have hoff : ∀ v, (w3.setCell ⟨K, a, none⟩ v).cell? ⟨B, 0, none⟩ = some (.slice (some ⟨K, 0, none⟩) S.kept.length S.kept.length) ∧ (w3.setCell ⟨K, a, none⟩ v).cell? ⟨wz, 0, none⟩ = some (.int .i64 (a : Nat)) ∧ (w3.setCell ⟨K, a, none⟩ v).cell? ⟨wz, 1, none⟩ = some (.string s) := fun v => ⟨(HS.out.row.off HP.out.bk _ _).cell 0, (n1.off hW.1 _ _).cell 0, (n1.off hW.1 _ _).cell 1⟩
        have ha1 : (a : Int) < S.kept.length := by omega
        go_wp2_with fail
        refine hcl.mono ?_
        rintro e w9 ⟨rfl, rfl⟩
        go_wp2_with fail
        go_region_held3 (fun w' => w'.cell? ⟨B, 0, none⟩ = some (.slice (some ⟨K, 0, none⟩) S.kept.length S.kept.length) ∧ w'.cell? ⟨wz, 0, none⟩ = some (.int .i64 (a : Nat)) ∧ w'.cell? ⟨wz, 1, none⟩ = some (.string s)) (first | exact hoff _ | exact ⟨b0, m0, m1⟩ | simp [go_sem, *]) (fail)
        have HM : Hid (SetMid w (w9.setCell ⟨K, a, none⟩ (.string s)).drew F B K N (.slice (some ⟨g, 0, none⟩) S.wait.length cap) S f j) := (HS.out.mid HP.out HJ.out hf).drew
        have n4 : Row (w9.setCell ⟨K, a, none⟩ (.string s)).drew wz 153 [.int .i64 (a : Nat), .string s] := n1.off hW.1 _ _
        obtain ⟨w4, hw4⟩ : ∃ w4, (w9.setCell ⟨K, a, none⟩ (.string s)).drew = w4 := ⟨_, rfl⟩
        rw [hw4] at HM n4
        try rw [hw4]
        clear m0 m1 b0 hcK hfK hoff hcl n1 HS
      case' false =>
        have HM : Hid (SetMid w w3 F B K N (.slice (some ⟨g, 0, none⟩) S.wait.length cap) S f j) := HS.out.skip HJ.out hf
        go_wp2_with fail
        refine hcl.mono ?_
        rintro e w4 ⟨rfl, rfl⟩
        have n4 := n1
        clear hcl n1 HS
      all_goals
        have m0 : w4.cell? ⟨wz, 0, none⟩ = some (.int .i64 (a : Nat)) := n4.cell 0
        have b2 : w4.cell? ⟨B, 2, none⟩ = some (.slice (some ⟨N, 0, none⟩) S.kept.length S.kept.length) := HM.out.row.cell 2
        have hcN : w4.cell? ⟨N, a, none⟩ = some (.int .i64 (newAt S.wait j a : Nat)) := HM.out.new.cellF a ha
        have hfN : w4.frozen? ⟨N, a, none⟩ = false := HM.out.new.frozen a
        have hoff : ∀ v, (w4.setCell ⟨N, a, none⟩ v).cell? ⟨B, 2, none⟩ = some (.slice (some ⟨N, 0, none⟩) S.kept.length S.kept.length) ∧ (w4.setCell ⟨N, a, none⟩ v).cell? ⟨wz, 0, none⟩ = some (.int .i64 (a : Nat)) := fun v => ⟨(HM.out.row.off HP.out.bn _ _).cell 2, (n4.off hW.2.1 _ _).cell 0⟩
        have ha1 : (a : Int) < S.kept.length := by omega
        go_wp2_with fail
        go_region_held3 (fun w' => w'.cell? ⟨B, 2, none⟩ = some (.slice (some ⟨N, 0, none⟩) S.kept.length S.kept.length) ∧ w'.cell? ⟨wz, 0, none⟩ = some (.int .i64 (a : Nat))) (first | exact hoff _ | exact ⟨b2, m0⟩ | simp [go_sem, *]) (fail)
        have HF : Hid (SetAt w (w4.setCell ⟨N, a, none⟩ (.int .i64 0)).drew F B K N (.slice (some ⟨g, 0, none⟩) S.wait.length cap) S f (j + 1)) := (HM.out.next HP.out HJ.out).drew
        clear m0 b2 hcN hfN hoff HM n4
        go_wp2
        go_roundw
        case rel => exact ⟨j + 1, by omega, by go_num, HF.out⟩
        case measure => simp [intOf]; omega
    · obtain rfl : j = S.wait.length := by omega
      have hX := hS.done HP.out
      have b1 : wr.cell? ⟨B, 1, none⟩ = some (.slice oa S.wait.length cap) := hS.row.cell 1
      have f1 : wr.frozen? ⟨B, 1, none⟩ = false := hS.row.frozen 1
      obtain ⟨w5, hw5⟩ : ∃ w5, wr.setCell ⟨B, 1, none⟩ (.slice none 0 0) = w5 := ⟨_, rfl⟩
      rw [hw5] at hX
      have HX : Hid (Plate w5 F B (settleP f S) ∧ Touch F w w5) := ⟨⟨K, N, _, hX.1⟩, hX.2⟩
      clear hX hS
      go_wp2
      go_end0
      exact ⟨rfl, HX.out.1, HX.out.2⟩

set_option maxRecDepth 10000 in
set_option maxHeartbeats 2000000 in
theorem settleS (B : Nat) (F : Nat → Prop) (S : PS) (f : Nat → Bool) (cP : Value) (w : World) (hp : Plate w F B S) (hw : S.wait.length ≤ 1000000)
    (hcall : ∀ (j : Nat) w1, j < S.wait.length → Touch F w w1 → Calls Tryz.prog 45 #[.int .i64 (j : Int), cP] w1 fun e w2 => e = .returned (.bool (f j)) ∧ w2 = w1) :
    Calls Tryz.prog 44 #[.pointer (some ⟨B, 0, none⟩), .func (.func 45) #[] #[cP]] w fun e w' => e = .returned (.tuple #[]) ∧ Plate w' F B (settleP f S) ∧ Touch F w w' := by
  obtain ⟨K, N, wv, hp⟩ := hp
  have c1 := hp.c1
  have HP : Hid (PlateAt w F B K N wv S) := hp
  have HC : Hid (∀ (j : Nat) w1, j < S.wait.length → Touch F w w1 → Calls Tryz.prog 45 #[.int .i64 (j : Int), cP] w1 fun e w2 => e = .returned (.bool (f j)) ∧ w2 = w1) := hcall
  clear hcall
  have hform : ∃ oa cap, wv = .slice oa S.wait.length cap := by
    rcases owns_len hp.wait with ⟨cap, e⟩ | ⟨g, cap, e⟩
    · exact ⟨_, cap, e⟩
    · exact ⟨_, cap, e⟩
  obtain ⟨oa, cap, rfl⟩ := hform
  clear hp
  go_enter Tryz.func44, Tryz.ntmps44
  go_wp2_with fail
  go_loopw [11] (fun v wr => ∃ j : Nat, j ≤ S.wait.length ∧ v = .int .i64 j ∧ SetAt w wr F B K N (.slice oa S.wait.length cap) S f j) (fun v _ => S.wait.length - (intOf v).toNat)
  case atStart => exact ⟨0, Nat.zero_le _, rfl, SetAt.of HP.out⟩
  case round =>
    clear c1
    obtain ⟨j, hj, rfl, hS⟩ := hrel
    by_cases hlt : j < S.wait.length
    · have j1 : (j : Int) < S.wait.length := by omega
      obtain ⟨a, s, hjs⟩ : ∃ a s, S.wait[j]? = some (a, s) := ⟨S.wait[j].1, S.wait[j].2, List.getElem?_eq_getElem hlt⟩
      obtain ⟨g, cap', hwv, hgc, _⟩ := owns_form hS.wait (by omega)
      obtain ⟨rfl, rfl⟩ : oa = some ⟨g, 0, none⟩ ∧ cap = cap' := by cases hwv; exact ⟨rfl, rfl⟩
      obtain ⟨d0, d1⟩ := hS.cW rfl hjs
      have ha : a < S.kept.length := (HP.out.ats (a, s) (List.mem_of_getElem? hjs)).1
      have hb3 : Below wr.heap.size wr (wr.alloc (.cells #[.int .i64 (a : Nat), .string s] 153)) := (Below.refl _ _).alloc (Nat.le_refl _) _
      have n0 : (wr.alloc (.cells #[.int .i64 (a : Nat), .string s] 153)).heap[wr.heap.size]? = some (.cells #[.int .i64 (a : Nat), .string s] 153 (0, 0)) := heap_alloc_new wr _
      have HS : Hid (SetAt w (wr.alloc (.cells #[.int .i64 (a : Nat), .string s] 153)) F B K N (.slice (some ⟨g, 0, none⟩) S.wait.length cap) S f j) := hS.below hb3
      have HJ : Hid (S.wait[j]? = some (a, s)) := hjs
      have HS2 : Hid (Row wr K _ _ ∧ Row wr N _ _ ∧ Row wr B _ _) := ⟨hS.kept, hS.new, hS.row⟩
      clear hS hjs
      have hW : wr.heap.size ≠ K ∧ wr.heap.size ≠ N ∧ wr.heap.size ≠ B := ⟨by have := HS2.out.1.lt; omega, by have := HS2.out.2.1.lt; omega, by have := HS2.out.2.2.lt; omega⟩
      obtain ⟨w3, hw3⟩ : ∃ w3, wr.alloc (.cells #[.int .i64 (a : Nat), .string s] 153) = w3 := ⟨_, rfl⟩
      rw [hw3] at HS n0
      have n1 : Row w3 wr.heap.size 153 [.int .i64 (a : Nat), .string s] := n0
      have hcl := HC.out j w3 hlt HS.out.touch
      clear n0 hb3 HS2
      generalize hwz : wr.heap.size = wz at *
      cases hf : f j <;> rw [hf] at hcl
      case' true =>
        have m0 : w3.cell? ⟨wz, 0, none⟩ = some (.int .i64 (a : Nat)) := n1.cell 0
        have m1 : w3.cell? ⟨wz, 1, none⟩ = some (.string s) := n1.cell 1
        have b0 : w3.cell? ⟨B, 0, none⟩ = some (.slice (some ⟨K, 0, none⟩) S.kept.length S.kept.length) := HS.out.row.cell 0
        have hcK : ∃ old, w3.cell? ⟨K, a, none⟩ = some (.string old) := ⟨(keptAt f S.wait S.kept j)[a]'(by rw [keptAt_length]; exact ha), by rw [HS.out.kept.cell, List.getElem?_map, List.getElem?_eq_getElem (by rw [keptAt_length]; exact ha)]; rfl⟩
        obtain ⟨old, hcK⟩ := hcK
        have hfK : w3.frozen? ⟨K, a, none⟩ = false := HS.out.kept.frozen a
        have hoff : ∀ v, (w3.setCell ⟨K, a, none⟩ v).cell? ⟨B, 0, none⟩ = some (.slice (some ⟨K, 0, none⟩) S.kept.length S.kept.length) ∧ (w3.setCell ⟨K, a, none⟩ v).cell? ⟨wz, 0, none⟩ = some (.int .i64 (a : Nat)) ∧ (w3.setCell ⟨K, a, none⟩ v).cell? ⟨wz, 1, none⟩ = some (.string s) := fun v => ⟨(HS.out.row.off HP.out.bk _ _).cell 0, (n1.off hW.1 _ _).cell 0, (n1.off hW.1 _ _).cell 1⟩
        have ha1 : (a : Int) < S.kept.length := by omega
        go_wp2_with fail
        refine hcl.mono ?_
        rintro e w9 ⟨rfl, rfl⟩
        go_wp2_with fail
        go_region_held3 (fun w' => w'.cell? ⟨B, 0, none⟩ = some (.slice (some ⟨K, 0, none⟩) S.kept.length S.kept.length) ∧ w'.cell? ⟨wz, 0, none⟩ = some (.int .i64 (a : Nat)) ∧ w'.cell? ⟨wz, 1, none⟩ = some (.string s)) (first | exact hoff _ | exact ⟨b0, m0, m1⟩ | simp [go_sem, *]) (fail)
        have HM : Hid (SetMid w (w9.setCell ⟨K, a, none⟩ (.string s)).drew F B K N (.slice (some ⟨g, 0, none⟩) S.wait.length cap) S f j) := (HS.out.mid HP.out HJ.out hf).drew
        have n4 : Row (w9.setCell ⟨K, a, none⟩ (.string s)).drew wz 153 [.int .i64 (a : Nat), .string s] := n1.off hW.1 _ _
        obtain ⟨w4, hw4⟩ : ∃ w4, (w9.setCell ⟨K, a, none⟩ (.string s)).drew = w4 := ⟨_, rfl⟩
        rw [hw4] at HM n4
        try rw [hw4]
        clear m0 m1 b0 hcK hfK hoff hcl n1 HS
      case' false =>
        have HM : Hid (SetMid w w3 F B K N (.slice (some ⟨g, 0, none⟩) S.wait.length cap) S f j) := HS.out.skip HJ.out hf
        go_wp2_with fail
        refine hcl.mono ?_
        rintro e w4 ⟨rfl, rfl⟩
        have n4 := n1
        clear hcl n1 HS
      all_goals
        have m0 : w4.cell? ⟨wz, 0, none⟩ = some (.int .i64 (a : Nat)) := n4.cell 0
        have b2 : w4.cell? ⟨B, 2, none⟩ = some (.slice (some ⟨N, 0, none⟩) S.kept.length S.kept.length) := HM.out.row.cell 2
        have hcN : w4.cell? ⟨N, a, none⟩ = some (.int .i64 (newAt S.wait j a : Nat)) := HM.out.new.cellF a ha
        have hfN : w4.frozen? ⟨N, a, none⟩ = false := HM.out.new.frozen a
        have hoff : ∀ v, (w4.setCell ⟨N, a, none⟩ v).cell? ⟨B, 2, none⟩ = some (.slice (some ⟨N, 0, none⟩) S.kept.length S.kept.length) ∧ (w4.setCell ⟨N, a, none⟩ v).cell? ⟨wz, 0, none⟩ = some (.int .i64 (a : Nat)) := fun v => ⟨(HM.out.row.off HP.out.bn _ _).cell 2, (n4.off hW.2.1 _ _).cell 0⟩
        have ha1 : (a : Int) < S.kept.length := by omega
        go_wp2_with fail
        go_region_held3 (fun w' => w'.cell? ⟨B, 2, none⟩ = some (.slice (some ⟨N, 0, none⟩) S.kept.length S.kept.length) ∧ w'.cell? ⟨wz, 0, none⟩ = some (.int .i64 (a : Nat))) (first | exact hoff _ | exact ⟨b2, m0⟩ | simp [go_sem, *]) (fail)
        have HF : Hid (SetAt w (w4.setCell ⟨N, a, none⟩ (.int .i64 0)).drew F B K N (.slice (some ⟨g, 0, none⟩) S.wait.length cap) S f (j + 1)) := (HM.out.next HP.out HJ.out).drew
        clear m0 b2 hcN hfN hoff HM n4
        go_wp2
        go_roundw
        case rel => exact ⟨j + 1, by omega, by go_num, HF.out⟩
        case measure => simp [intOf]; omega
    · obtain rfl : j = S.wait.length := by omega
      have hX := hS.done HP.out
      have b1 : wr.cell? ⟨B, 1, none⟩ = some (.slice oa S.wait.length cap) := hS.row.cell 1
      have f1 : wr.frozen? ⟨B, 1, none⟩ = false := hS.row.frozen 1
      obtain ⟨w5, hw5⟩ : ∃ w5, wr.setCell ⟨B, 1, none⟩ (.slice none 0 0) = w5 := ⟨_, rfl⟩
      rw [hw5] at hX
      have HX : Hid (Plate w5 F B (settleP f S) ∧ Touch F w w5) := ⟨⟨K, N, _, hX.1⟩, hX.2⟩
      clear hX hS
      go_wp2
      go_end0
      exact ⟨rfl, HX.out.1, HX.out.2⟩
end Go.Proofs.YtbmjablmmlnieaaGreatDoor
