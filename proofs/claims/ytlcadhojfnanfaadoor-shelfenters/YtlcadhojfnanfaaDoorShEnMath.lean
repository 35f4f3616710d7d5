/- A new name in the first free slot: the arithmetic; nothing of the program. -/
import Derived.Test.YtlcadhojfnanfaaDoorShRMath
namespace Go.Proofs.YtlcadhojfnanfaaDoor
set_option maxRecDepth 20000
open Go.RowKit

theorem fstI_same {p : En → Bool} {l M : List En} (hlen : l.length ≤ M.length) (h1 : ∀ j (hj : j < l.length), p (M[j]'(by omega)) = p l[j]) (h2 : ∀ j (hj : j < M.length), l.length ≤ j → p M[j] = false) : fstI p M = fstI p l := by
  cases h : l.findIdx? p with
  | none =>
    rw [List.findIdx?_eq_none_iff] at h
    have hl : ∀ j (hj : j < l.length), p l[j] = false := fun j hj => h _ (List.getElem_mem hj)
    rw [fstI_miss hl]
    exact fstI_miss fun j hj => by
      by_cases hjl : j < l.length
      · rw [h1 j hjl]; exact hl j hjl
      · exact h2 j hj (by omega)
  | some i =>
    obtain ⟨hi, hp, hb⟩ := List.findIdx?_eq_some_iff_getElem.1 h
    have hb' : ∀ j (hj : j < i), p (l[j]'(by omega)) = false := fun j hj => by have := hb j hj; simpa using this
    rw [fstI_hit hi hp hb']
    exact fstI_hit (by omega) (by rw [h1 i hi]; exact hp) fun j hj => by rw [h1 j (by omega)]; exact hb' j hj
/-- Where a new name goes. -/
structure SpareAt (l : List En) (a : Nat) : Prop where
  le : a ≤ l.length
  free : ∀ h : a < l.length, frE l[a] = true
theorem spare_at (l : List En) : ∃ a : Nat, spareI l = (a : Int) ∧ SpareAt l a := by
  unfold spareI
  cases h : l.findIdx? frE with
  | none =>
    have e : fstI frE l = -1 := by unfold fstI; rw [h]
    rw [e, if_pos (by omega)]
    exact ⟨_, rfl, Nat.le_refl _, fun h => absurd h (by omega)⟩
  | some i =>
    have e : fstI frE l = i := by unfold fstI; rw [h]
    obtain ⟨hi, hp, _⟩ := List.findIdx?_eq_some_iff_getElem.1 h
    rw [e, if_neg (by omega)]
    exact ⟨i, rfl, by omega, fun _ => hp⟩
/-- What a list with a new entry says. -/
structure Entered (l M : List En) (x : En) (a : Nat) : Prop where
  find : fstI (hasN x.nm) M = (a : Int)
  rest : ∀ s : ByteArray, s ≠ x.nm → fstI (hasN s) M = fstI (hasN s) l
  names : (namedL M).length = (namedL l).length + 1
  len : M.length ≤ l.length + 1
theorem has_none {l : List En} {s : ByteArray} (h : fstI (hasN s) l < 0) : ∀ j (hj : j < l.length), hasN s l[j] = false := fun j hj => by
  cases e : l.findIdx? (hasN s) with
  | none => rw [List.findIdx?_eq_none_iff] at e; exact e _ (List.getElem_mem hj)
  | some i =>
    have : fstI (hasN s) l = i := by unfold fstI; rw [e]
    omega
theorem entered_push {l : List En} {x : En} (hx : frE x = false) (h : fstI (hasN x.nm) l < 0) : Entered l (l ++ [x]) x l.length := by
  refine ⟨?_, fun s hs => ?_, ?_, by simp⟩
  · refine fstI_hit (by simp) ?_ fun j hj => ?_
    · rw [List.getElem_append_right (Nat.le_refl _)]; simp [hasN_self hx]
    · rw [List.getElem_append_left hj]; exact has_none h j hj
  · refine fstI_same (by simp) (fun j hj => by rw [List.getElem_append_left hj]) fun j hj hl => ?_
    rw [List.getElem_append_right hl]
    simp [hasN_other hs]
  · unfold namedL
    rw [List.filter_append]
    simp [hx]
theorem named_set : ∀ (l : List En) (a : Nat) (x : En) (h : a < l.length), frE l[a] = true → frE x = false → (namedL (l.set a x)).length = (namedL l).length + 1
  | [], a, x, h, _, _ => by simp at h
  | y :: l, 0, x, h, h1, h2 => by
    simp only [List.getElem_cons_zero] at h1
    simp [namedL, h1, h2]
  | y :: l, a + 1, x, h, h1, h2 => by
    have := named_set l a x (by simpa using h) (by simpa using h1) h2
    unfold namedL at this ⊢
    rw [List.set_cons_succ, List.filter_cons, List.filter_cons]
    cases frE y
    · simp only [Bool.not_false, if_true, List.length_cons, this]
    · simpa using this
theorem entered_set {l : List En} {x : En} {a : Nat} (ha : a < l.length) (hf : frE l[a] = true) (hx : frE x = false) (h : fstI (hasN x.nm) l < 0) : Entered l (l.set a x) x a := by
  have hn := has_none h
  refine ⟨?_, fun s hs => ?_, named_set l a x ha hf hx, by simp⟩
  · refine fstI_hit (by simpa using ha) ?_ fun j hj => ?_
    · rw [List.getElem_set_self]; exact hasN_self hx
    · rw [List.getElem_set_ne (by omega)]; exact hn j (by omega)
  · refine fstI_same (by simp) (fun j hj => ?_) fun j hj hl => ?_
    · by_cases e : j = a
      · subst e
        rw [List.getElem_set_self, hasN_other hs, hasN_free hf]
      · rw [List.getElem_set_ne (by omega)]
    · simp at hj; omega
theorem nm_ne {l : List En} {s : ByteArray} (h : fstI (hasN s) l < 0) {j : Nat} (hj : j < l.length) (hf : frE l[j] = false) : l[j].nm ≠ s := fun e => by
  have := has_none h j hj
  rw [← e, hasN_self hf] at this
  cases this
end Go.Proofs.YtlcadhojfnanfaaDoor
