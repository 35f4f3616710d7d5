/- A device behind block's Put, read by Get: arithmetic; nothing of the program's calls. -/
import Derived.Test.YtdcooepeehamnaaGreatDoorBkGet
namespace Go.Proofs.YtdcooepeehamnaaGreatDoor
set_option maxRecDepth 20000
open Go.RowKit

theorem readP_same (S : PS) (x y : Int) : readE (readP S x) y = readE S y ∧ readS (readP S x) y = readS S y ∧ (readP S x).up = S.up ∧ (readP S x).kept = S.kept ∧ (readP S x).wait = S.wait := by
  unfold readP
  split
  · split
    · exact ⟨rfl, rfl, rfl, rfl, rfl⟩
    · exact ⟨rfl, rfl, rfl, rfl, rfl⟩
  · exact ⟨rfl, rfl, rfl, rfl, rfl⟩
/-- Two devices that are read alike. -/
def Alike (S S' : PS) : Prop := S'.up = S.up ∧ S'.kept = S.kept ∧ S'.wait = S.wait ∧ S'.fuse = S.fuse
theorem readP_alike (S : PS) (x : Int) : Alike S (readP S x) := by
  unfold readP
  split
  · split
    · exact ⟨rfl, rfl, rfl, rfl⟩
    · exact ⟨rfl, rfl, rfl, rfl⟩
  · exact ⟨rfl, rfl, rfl, rfl⟩
theorem Alike.trans {S S1 S2 : PS} (h : Alike S S1) (k : Alike S1 S2) : Alike S S2 := ⟨k.1.trans h.1, k.2.1.trans h.2.1, k.2.2.1.trans h.2.2.1, k.2.2.2.trans h.2.2.2⟩
theorem Alike.reads {S S' : PS} (h : Alike S S') (x : Int) : readE S' x = readE S x ∧ readS S' x = readS S x := by
  obtain ⟨h1, h2, h3, _⟩ := h
  unfold readE readS heldE heldS keptS hasB
  rw [h1, h2, h3]
  exact ⟨rfl, rfl⟩
/-- Whatever is read: the device stays alike. -/
theorem getGo_alike (a : Nat) : ∀ (n j : Nat) (S : PS) (t : ByteArray) (m : Nat), Alike S (getGo a n j S t m).2
  | 0, _, _, _, _ => ⟨rfl, rfl, rfl, rfl⟩
  | n + 1, j, S, t, m => by
    unfold getGo
    split
    · exact (readP_alike S _).trans (getGo_alike a n _ _ _ _)
    · split
      · exact (readP_alike S _).trans (getGo_alike a n _ _ _ _)
      · exact readP_alike S _
theorem sec_join (r : ByteArray) (j n : Nat) : secS r j ++ r.extract (64 * (j + 1)) (64 * (j + 1 + n)) = r.extract (64 * j) (64 * (j + (n + 1))) := by
  unfold secS
  rw [show 64 * j + 64 = 64 * (j + 1) by omega, show 64 * (j + 1 + n) = 64 * (j + (n + 1)) by omega, ByteArray.extract_append_extract, Nat.min_eq_left (by omega), Nat.max_eq_right (by omega)]
/-- All sectors can be read. -/
theorem getGo_all (a : Nat) (r : ByteArray) : ∀ (n j : Nat) (S : PS) (t : ByteArray) (m : Nat), (∀ i, j ≤ i → i < j + n → readE S ((8 * a + i : Nat) : Int) = 0 ∧ readS S ((8 * a + i : Nat) : Int) = secS r i) → (getGo a n j S t m).1 = (t ++ r.extract (64 * j) (64 * (j + n)), m, 0)
  | 0, j, S, t, m, _ => by
    simp [getGo]
  | n + 1, j, S, t, m, h => by
    obtain ⟨h1, h2⟩ := h j (Nat.le_refl _) (by omega)
    unfold getGo
    rw [if_pos h1, getGo_all a r n (j + 1) _ _ _ fun i hi hn => by
      obtain ⟨q1, q2⟩ := (readP_alike S ((8 * a + j : Nat) : Int)).reads ((8 * a + i : Nat) : Int)
      rw [q1, q2]
      exact h i (by omega) (by omega), h2, ByteArray.append_assoc, sec_join]
/-- One can't: the number is not 0. -/
theorem getGo_mask (a : Nat) : ∀ (n j : Nat) (S : PS) (t : ByteArray) (m : Nat), (∀ i, j ≤ i → i < j + n → readE S ((8 * a + i : Nat) : Int) = 0 ∨ readE S ((8 * a + i : Nat) : Int) = 21) → m ≤ (getGo a n j S t m).1.2.1 ∧ (getGo a n j S t m).1.2.2 = 0 ∧ ((∃ i, j ≤ i ∧ i < j + n ∧ readE S ((8 * a + i : Nat) : Int) = 21) → 0 < (getGo a n j S t m).1.2.1)
  | 0, j, S, t, m, _ => ⟨Nat.le_refl _, rfl, fun ⟨i, h1, h2, _⟩ => by omega⟩
  | n + 1, j, S, t, m, h => by
    have hk : ∀ i, j + 1 ≤ i → i < j + 1 + n → readE (readP S ((8 * a + j : Nat) : Int)) ((8 * a + i : Nat) : Int) = 0 ∨ readE (readP S ((8 * a + j : Nat) : Int)) ((8 * a + i : Nat) : Int) = 21 := fun i hi hn => by
      rw [((readP_alike S ((8 * a + j : Nat) : Int)).reads ((8 * a + i : Nat) : Int)).1]
      exact h i (by omega) (by omega)
    unfold getGo
    by_cases h0 : readE S ((8 * a + j : Nat) : Int) = 0
    · rw [if_pos h0]
      obtain ⟨q1, q2, q3⟩ := getGo_mask a n (j + 1) (readP S ((8 * a + j : Nat) : Int)) (t ++ readS S ((8 * a + j : Nat) : Int)) m hk
      refine ⟨q1, q2, fun ⟨i, h1, h2, h3⟩ => q3 ⟨i, ?_, by omega, ?_⟩⟩
      · by_cases e : i = j
        · subst e; omega
        · omega
      · rw [((readP_alike S ((8 * a + j : Nat) : Int)).reads ((8 * a + i : Nat) : Int)).1]
        exact h3
    · have h21 : readE S ((8 * a + j : Nat) : Int) = 21 := (h j (Nat.le_refl _) (by omega)).resolve_left h0
      rw [if_neg h0, if_pos h21]
      obtain ⟨q1, q2, _⟩ := getGo_mask a n (j + 1) (readP S ((8 * a + j : Nat) : Int)) (t ++ fillS 0 64) (m + 2 ^ j) hk
      have hp : 0 < 2 ^ j := Nat.two_pow_pos j
      exact ⟨by omega, q2, fun _ => by omega⟩
/-- The sectors of a block as writes. -/
def secsW (r : ByteArray) (a j : Nat) : Nat → List (Nat × ByteArray)
  | 0 => []
  | n + 1 => (8 * a + j, secS r j) :: secsW r a (j + 1) n
theorem putGo_all (r : ByteArray) (a : Nat) (hr : r.size = 512) : ∀ (n j : Nat) (S : PS), j + n ≤ 8 → S.up = true → S.fuse = -1 → 8 * a + 8 ≤ S.kept.length → ∃ w', putGo r a n j S = (0, { S with writes := w', wait := S.wait ++ secsW r a j n })
  | 0, j, S, _, _, _, _ => ⟨S.writes, by simp [putGo, secsW]⟩
  | n + 1, j, S, hj, hu, hf, hk => by
    have hs : (secS r j).size = 64 := by simp [secS, hr]; omega
    have hh : hasB S ((8 * a + j : Nat) : Int) = true := by simp [hasB]; omega
    have hE : writeE S ((8 * a + j : Nat) : Int) (secS r j) = 0 := by
      unfold writeE
      rw [if_pos hs, if_pos hu, if_pos hh, if_neg (by rw [hf]; decide)]
    have hP : writeP S ((8 * a + j : Nat) : Int) (secS r j) = { S with writes := wrap64 (S.writes + 1), wait := S.wait ++ [(8 * a + j, secS r j)] } := by
      simp only [writeP, hs, if_true, hu, hh, hf, Int.toNat_natCast]
      simp
    unfold putGo
    rw [if_pos hE, hP]
    obtain ⟨w', h'⟩ := putGo_all r a hr n (j + 1) { S with writes := wrap64 (S.writes + 1), wait := S.wait ++ [(8 * a + j, secS r j)] } (by omega) hu hf hk
    refine ⟨w', ?_⟩
    rw [h']
    simp [secsW]
theorem textOf_append (l m : List (Nat × ByteArray)) (i : Nat) : textOf (l ++ m) i = (textOf m i).or (textOf l i) := by
  have h : ∀ a b : List (Nat × ByteArray), textR (a ++ b) i = (textR a i).or (textR b i) := fun a b => by
    induction a with
    | nil => simp [textR]
    | cons p t ih =>
      obtain ⟨k, s⟩ := p
      rw [List.cons_append]
      simp only [textR]
      split
      · rfl
      · exact ih
  unfold textOf
  rw [List.reverse_append, h]
theorem textOf_secs (r : ByteArray) (a : Nat) : ∀ (n j i : Nat), textOf (secsW r a j n) (8 * a + i) = if j ≤ i ∧ i < j + n then some (secS r i) else none
  | 0, j, i => by
    rw [if_neg (by omega)]
    rfl
  | n + 1, j, i => by
    rw [show secsW r a j (n + 1) = [(8 * a + j, secS r j)] ++ secsW r a (j + 1) n from rfl, textOf_append, textOf_secs r a n (j + 1) i]
    by_cases h1 : j + 1 ≤ i ∧ i < j + 1 + n
    · rw [if_pos h1, if_pos (by omega)]
      rfl
    · rw [if_neg h1]
      by_cases h2 : i = j
      · subst h2
        rw [if_pos (by omega)]
        simp [textOf, textR]
      · rw [if_neg (by omega)]
        simp [textOf, textR]
        omega
/-- What was put is read. -/
theorem put_reads (r : ByteArray) (a : Nat) (S : PS) (w' : Int) (hu : S.up = true) (hk : 8 * a + 8 ≤ S.kept.length) (i : Nat) (hi : i < 8) : readE { S with writes := w', wait := S.wait ++ secsW r a 0 8 } ((8 * a + i : Nat) : Int) = 0 ∧ readS { S with writes := w', wait := S.wait ++ secsW r a 0 8 } ((8 * a + i : Nat) : Int) = secS r i := by
  have hh : hasB { S with writes := w', wait := S.wait ++ secsW r a 0 8 } ((8 * a + i : Nat) : Int) = true := by simp [hasB]; omega
  have ht : textOf (S.wait ++ secsW r a 0 8) (8 * a + i) = some (secS r i) := by
    rw [textOf_append, textOf_secs, if_pos (by omega)]
    rfl
  unfold readE readS
  rw [if_pos hu, if_pos hh, if_pos hu, if_pos hh]
  simp only [Int.toNat_natCast, ht]
  exact ⟨rfl, rfl⟩
end Go.Proofs.YtdcooepeehamnaaGreatDoor
