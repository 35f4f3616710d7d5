/- How many blocks a file of rising indices has, counted index by index, and place by place: the same. Nothing of the program's steps. -/
import Derived.Test.YtcmbphppeobhfabGrMath
import Derived.Test.YtcmbphppeobhfabCtPlace
namespace Go.Proofs.Ytcmbphppeobhfab
set_option maxRecDepth 20000
open Go.RowKit

/-- Rising indices. -/
def riseP (l : List Int) : Prop := l.Pairwise (· < ·) ∧ ∀ x ∈ l, 0 ≤ x ∧ x < 12668
/-- The last of a list, or what is ahead of it. -/
def lastD (a : Int) : List Int → Int
  | [] => a
  | x :: r => lastD x r
theorem lastD_snoc (p : List Int) : ∀ (a x : Int), lastD a (p ++ [x]) = x := by
  induction p with
  | nil => intro a x; rfl
  | cons y r ih => intro a x; exact ih y x
theorem lastD_mem (p : List Int) : ∀ (a : Int), lastD a p = a ∨ lastD a p ∈ p := by
  induction p with
  | nil => intro a; exact .inl rfl
  | cons y r ih =>
    intro a
    rcases ih y with h | h
    · exact .inr (by rw [show lastD a (y :: r) = lastD y r from rfl, h]; exact List.mem_cons_self ..)
    · exact .inr (List.mem_cons_of_mem _ h)
theorem lastD_top (p : List Int) : ∀ (a : Int), (a :: p).Pairwise (· < ·) → ∀ y ∈ a :: p, y ≤ lastD a p := by
  induction p with
  | nil => intro a _ y hy; simp at hy; rw [hy]; exact Int.le_refl _
  | cons z r ih =>
    intro a h y hy
    have h' := List.pairwise_cons.1 h
    have hz := ih z h'.2
    rcases List.mem_cons.1 hy with rfl | hy
    · exact Int.le_trans (Int.le_of_lt (h'.1 z (by simp))) (hz z (by simp))
    · exact hz y hy
def lastZ (p : List Int) : Int := lastD (-1) p
theorem rise_top {p : List Int} (h : riseP p) {y : Int} (hy : y ∈ p) : y ≤ lastZ p :=
  lastD_top p (-1) (List.pairwise_cons.2 ⟨fun z hz => by have := h.2 z hz; omega, h.1⟩) y (List.mem_cons_of_mem _ hy)
theorem lastZ_low {p : List Int} (h : riseP p) : -1 ≤ lastZ p := by
  rcases lastD_mem p (-1) with e | e
  · show -1 ≤ lastD (-1) p; omega
  · have := h.2 _ e; show -1 ≤ lastD (-1) p; omega
theorem lastZ_snoc (p : List Int) (x : Int) : lastZ (p ++ [x]) = x := lastD_snoc p _ x
theorem rise_step {p : List Int} {x : Int} (h : riseP p) (h1 : lastZ p < x) (h2 : x < 12668) : riseP (p ++ [x]) := by
  refine ⟨List.pairwise_append.2 ⟨h.1, List.pairwise_singleton _ _, fun y hy z hz => ?_⟩, fun y hy => ?_⟩
  · simp at hz; subst hz; exact Int.lt_of_le_of_lt (rise_top h hy) h1
  · rcases List.mem_append.1 hy with hy | hy
    · exact h.2 y hy
    · simp at hy; subst hy; have := lastZ_low h; omega
theorem rise_init {p q : List Int} (h : riseP (p ++ q)) : riseP p := ⟨(List.pairwise_append.1 h.1).1, fun y hy => h.2 y (List.mem_append_left _ hy)⟩
theorem rise_lt {p : List Int} {x : Int} (h : riseP (p ++ [x])) : lastZ p < x ∧ 0 ≤ x ∧ x < 12668 := by
  have hx := h.2 x (by simp)
  refine ⟨?_, hx⟩
  rcases lastD_mem p (-1) with e | e
  · show lastD (-1) p < x; omega
  · exact (List.pairwise_append.1 h.1).2.2 _ e x (by simp)
theorem take_snoc {l : List Int} {j : Nat} (h : j < l.length) : l.take (j + 1) = l.take j ++ [l[j]] := by rw [List.take_add_one, List.getElem?_eq_getElem h]; rfl
theorem rise_take {l : List Int} (h : riseP l) (j : Nat) : riseP (l.take j) := rise_init (q := l.drop j) (by rwa [List.take_append_drop])
theorem rise_stop {l : List Int} {j : Nat} (hj : j < l.length) (h : l[j] ≤ lastZ (l.take j) ∨ 12668 ≤ l[j]) : ¬ riseP l := fun hr => by
  have h1 := rise_take hr (j + 1)
  rw [take_snoc hj] at h1
  have := rise_lt h1
  omega
/-- How many blocks an index brings. -/
def broN (a x : Int) : Nat := (if 124 ≤ x ∧ a < 124 then 1 else 0) + (if 12 ≤ x ∧ a < x - (x - 12) % 112 then 1 else 0) + 1
def cntD (a : Int) : List Int → Nat
  | [] => 0
  | x :: r => broN a x + cntD x r
theorem cntD_snoc (p : List Int) : ∀ (a x : Int), cntD a (p ++ [x]) = cntD a p + broN (lastD a p) x := by
  induction p with
  | nil => intro a x; show broN a x + 0 = 0 + broN a x; omega
  | cons y r ih => intro a x; show broN a y + cntD y (r ++ [x]) = broN a y + cntD y r + broN (lastD y r) x; rw [ih y x]; omega
def cntN (l : List Int) : Nat := cntD (-1) l
theorem cntN_snoc (p : List Int) (x : Int) : cntN (p ++ [x]) = cntN p + broN (lastZ p) x := cntD_snoc p _ x
theorem broN_le (a x : Int) : broN a x ≤ 3 := by unfold broN; split <;> split <;> omega
theorem cntN_le (l : List Int) : cntN l ≤ 3 * l.length := by
  unfold cntN
  generalize (-1 : Int) = a
  induction l generalizing a with
  | nil => exact Nat.le_refl _
  | cons x r ih => have := ih x; have := broN_le a x; show broN a x + cntD x r ≤ 3 * (r.length + 1); omega
/-- Whether an index is told by way of the place q: the table, the tables, each of these. -/
def inQ (q : Nat) (x : Int) : Bool := (q == 0 && plL x == 1) || (q == 1 && plL x == 2) || (decide (2 ≤ q) && plL x == 2 && plA x == (q : Int) - 2)
def hasQ (l : List Int) (q : Nat) : Bool := l.any (inQ q)
def nB (l : List Int) : Nat := l.length + cntU (hasQ l) 114
theorem hasQ_snoc (p : List Int) (x : Int) (q : Nat) : hasQ (p ++ [x]) q = (hasQ p q || inQ q x) := by simp [hasQ]
theorem plL_of {x : Int} (h : 0 ≤ x ∧ x < 12668) : plL x = if x < 12 then 0 else if x < 124 then 1 else 2 := by unfold plL; rw [if_neg (by omega)]
theorem plA_2 {x : Int} (h : 124 ≤ x ∧ x < 12668) : plA x = (x - 124) / 112 := by unfold plA; rw [if_neg (by omega), if_neg (by omega), if_neg (by omega)]
theorem inQ_0 {x : Int} (h : 0 ≤ x ∧ x < 12668) : inQ 0 x = decide (12 ≤ x ∧ x < 124) := by
  unfold inQ; rw [plL_of h]
  by_cases h1 : x < 12
  · simp [h1]; omega
  · by_cases h2 : x < 124
    · simp [h1, h2]; omega
    · simp [h1, h2]
theorem inQ_1 {x : Int} (h : 0 ≤ x ∧ x < 12668) : inQ 1 x = decide (124 ≤ x) := by
  unfold inQ; rw [plL_of h]
  by_cases h1 : x < 12
  · simp [h1]; omega
  · by_cases h2 : x < 124
    · simp [h1, h2]
    · simp [h1, h2]; omega
theorem inQ_2 {x : Int} (h : 0 ≤ x ∧ x < 12668) (a : Nat) : inQ (2 + a) x = decide (124 ≤ x ∧ (x - 124) / 112 = (a : Int)) := by
  have e0 : ((2 + a == 0) : Bool) = false := by simp
  have e1 : ((2 + a == 1) : Bool) = false := by simp; omega
  have e2 : decide (2 ≤ 2 + a) = true := by simp
  unfold inQ; rw [plL_of h, e0, e1, e2]
  by_cases h1 : x < 12
  · simp [h1]; omega
  · by_cases h2 : x < 124
    · simp [h1, h2]; omega
    · rw [plA_2 (by omega), show ((2 + a : Nat) : Int) - 2 = (a : Int) by omega, if_neg h1, if_neg h2, Bool.eq_iff_iff]
      simp [show 124 ≤ x by omega]
def addQ (u : Nat → Bool) (i : Nat) : Nat → Bool := fun k => u k || decide (k = i)
theorem cntU_add (u : Nat → Bool) (i m : Nat) (h : i < m) : cntU (addQ u i) m = cntU u m + (if u i = true then 0 else 1) := by
  by_cases e : u i = true
  · rw [if_pos e]
    refine cntU_same m fun k _ => ?_
    unfold addQ
    by_cases hk : k = i
    · subst hk; simp [e]
    · simp [hk]
  · rw [if_neg e, ← cntU_put u i (by simpa using e) m h]
    refine cntU_same m fun k _ => ?_
    unfold addQ putU
    by_cases hk : k = i
    · subst hk; simp
    · simp [hk]
theorem hasQ_true {p : List Int} {q : Nat} : hasQ p q = true ↔ ∃ y ∈ p, inQ q y = true := by simp [hasQ]
theorem cnt_step (p : List Int) (x : Int) (h : riseP (p ++ [x])) : cntU (hasQ (p ++ [x])) 114 + 1 = cntU (hasQ p) 114 + broN (lastZ p) x := by
  obtain ⟨hl, hx⟩ := rise_lt h
  have hp := rise_init h
  have hlo := lastZ_low hp
  have hlm : -1 < lastZ p → lastZ p ∈ p := fun hh => by
    rcases lastD_mem p (-1) with e | e
    · exact absurd (show lastZ p = -1 from e) (by omega)
    · exact e
  by_cases h1 : x < 12
  · have e : cntU (hasQ (p ++ [x])) 114 = cntU (hasQ p) 114 := cntU_same _ fun q _ => by
      rw [hasQ_snoc]
      have : inQ q x = false := by
        rcases q with _ | _ | a
        · rw [inQ_0 hx]; simp; omega
        · rw [inQ_1 hx]; simp; omega
        · rw [show a + 1 + 1 = 2 + a by omega, inQ_2 hx]; simp; omega
      rw [this, Bool.or_false]
    rw [e]; unfold broN; rw [if_neg (by omega), if_neg (by omega)]
  by_cases h2 : x < 124
  · have e : cntU (hasQ (p ++ [x])) 114 = cntU (addQ (hasQ p) 0) 114 := cntU_same _ fun q _ => by
      rw [hasQ_snoc]
      unfold addQ
      congr 1
      rcases q with _ | _ | a
      · rw [inQ_0 hx]; simp; omega
      · rw [inQ_1 hx]; simp; omega
      · rw [show a + 1 + 1 = 2 + a by omega, inQ_2 hx]; simp; omega
    have e2 : (hasQ p 0 = true) ↔ ¬ lastZ p < x - (x - 12) % 112 := by
      rw [hasQ_true, show x - (x - 12) % 112 = 12 by omega]
      constructor
      · rintro ⟨y, hy, hq⟩
        rw [inQ_0 (hp.2 y hy)] at hq
        have := rise_top hp hy
        simp at hq; omega
      · intro hh
        exact ⟨_, hlm (by omega), by rw [inQ_0 (hp.2 _ (hlm (by omega)))]; simp; omega⟩
    rw [e, cntU_add _ _ _ (by decide)]
    unfold broN; rw [if_neg (show ¬ (124 ≤ x ∧ lastZ p < 124) by omega)]
    by_cases hh : hasQ p 0 = true
    · rw [if_pos hh, if_neg (by have := e2.1 hh; omega)]
    · rw [if_neg hh, if_pos ⟨by omega, by have := mt e2.2 hh; omega⟩]
  · obtain ⟨a, ha⟩ : ∃ a : Nat, (x - 124) / 112 = (a : Int) := ⟨((x - 124) / 112).toNat, by omega⟩
    have e : cntU (hasQ (p ++ [x])) 114 = cntU (addQ (addQ (hasQ p) 1) (2 + a)) 114 := cntU_same _ fun q _ => by
      rw [hasQ_snoc]
      unfold addQ
      rw [Bool.or_assoc]
      congr 1
      rcases q with _ | _ | b
      · rw [inQ_0 hx, Bool.eq_iff_iff]; simp only [Bool.or_eq_true, decide_eq_true_eq]; omega
      · rw [show 0 + 1 = 1 from rfl, inQ_1 hx, decide_eq_true (show 124 ≤ x by omega), decide_eq_true (show (1 : Nat) = 1 from rfl)]; rfl
      · rw [show b + 1 + 1 = 2 + b by omega, inQ_2 hx, ha, Bool.eq_iff_iff]; simp only [Bool.or_eq_true, decide_eq_true_eq]; omega
    have e1 : (hasQ p 1 = true) ↔ ¬ lastZ p < 124 := by
      rw [hasQ_true]
      constructor
      · rintro ⟨y, hy, hq⟩
        rw [inQ_1 (hp.2 y hy)] at hq
        have := rise_top hp hy
        simp at hq; omega
      · intro hh
        exact ⟨_, hlm (by omega), by rw [inQ_1 (hp.2 _ (hlm (by omega)))]; simp; omega⟩
    have e2 : (addQ (hasQ p) 1 (2 + a) = true) ↔ ¬ lastZ p < x - (x - 12) % 112 := by
      have : addQ (hasQ p) 1 (2 + a) = hasQ p (2 + a) := by unfold addQ; simp; omega
      rw [this, hasQ_true]
      constructor
      · rintro ⟨y, hy, hq⟩
        rw [inQ_2 (hp.2 y hy)] at hq
        have := rise_top hp hy
        simp at hq; omega
      · intro hh
        exact ⟨_, hlm (by omega), by rw [inQ_2 (hp.2 _ (hlm (by omega)))]; simp; omega⟩
    rw [e, cntU_add _ _ _ (by omega), cntU_add _ _ _ (by decide)]
    unfold broN
    by_cases hh : hasQ p 1 = true <;> by_cases hk : addQ (hasQ p) 1 (2 + a) = true
    · rw [if_pos hh, if_pos hk, if_neg (by have := e1.1 hh; omega), if_neg (by have := e2.1 hk; omega)]
    · rw [if_pos hh, if_neg hk, if_neg (by have := e1.1 hh; omega), if_pos ⟨by omega, by have := mt e2.2 hk; omega⟩]
    · rw [if_neg hh, if_pos hk, if_pos ⟨by omega, by have := mt e1.2 hh; omega⟩, if_neg (by have := e2.1 hk; omega)]
    · rw [if_neg hh, if_neg hk, if_pos ⟨by omega, by have := mt e1.2 hh; omega⟩, if_pos ⟨by omega, by have := mt e2.2 hk; omega⟩]
theorem cnt_take (l : List Int) (h : riseP l) : ∀ j, j ≤ l.length → cntN (l.take j) = nB (l.take j)
  | 0, _ => by
    have : cntU (hasQ []) 114 = 0 := by
      have := cntU_beyond (hasQ []) 0 (fun i _ => rfl) 114
      simpa [cntU] using this
    simp [cntN, cntD, nB, this]
  | j + 1, hj => by
    have ih := cnt_take l h j (by omega)
    have h1 := rise_take h (j + 1)
    rw [take_snoc (by omega)] at h1 ⊢
    have h2 := cnt_step _ _ h1
    rw [cntN_snoc, ih]
    unfold nB
    rw [List.length_append]
    simp only [List.length_singleton]
    omega
theorem cnt_eq (l : List Int) (h : riseP l) : cntN l = nB l := by
  have := cnt_take l h l.length (Nat.le_refl _)
  rwa [List.take_length] at this
end Go.Proofs.Ytcmbphppeobhfab
