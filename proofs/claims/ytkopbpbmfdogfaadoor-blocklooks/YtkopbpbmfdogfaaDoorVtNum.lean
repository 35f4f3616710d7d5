/- The number of a thing in a list of unlike things: its place, and one more; 0, where it is not there. And a number as so many bytes. -/
import Derived.Test.YtkopbpbmfdogfaaDoorLeVal
namespace Go.Proofs.YtkopbpbmfdogfaaDoor
set_option maxRecDepth 20000

section
variable {α : Type} [DecidableEq α]
def numOf : List α → α → Nat
  | [], _ => 0
  | y :: t, x => if y = x then 1 else if numOf t x = 0 then 0 else numOf t x + 1
theorem numOf_zero {x : α} : ∀ {l : List α}, numOf l x = 0 ↔ x ∉ l
  | [] => by simp [numOf]
  | y :: t => by
    have ih := numOf_zero (x := x) (l := t)
    unfold numOf
    by_cases e : y = x
    · simp [e]
    · by_cases h : numOf t x = 0
      · simp [h, e, ih.1 h, Ne.symm e]
      · have := mt ih.2 h
        simp [h, e] at this ⊢
        intro _; exact this
theorem numOf_le (x : α) : ∀ l : List α, numOf l x ≤ l.length
  | [] => Nat.le_refl _
  | y :: t => by
    have := numOf_le x t
    unfold numOf
    simp only [List.length_cons]
    split
    · omega
    · split <;> omega
theorem numOf_get {x : α} : ∀ {l : List α} {k : Nat}, numOf l x = k + 1 → l[k]? = some x
  | [], k, h => by simp [numOf] at h
  | y :: t, k, h => by
    unfold numOf at h
    by_cases e : y = x
    · rw [if_pos e] at h
      obtain rfl : k = 0 := by omega
      simp [e]
    · rw [if_neg e] at h
      by_cases h0 : numOf t x = 0
      · rw [if_pos h0] at h; omega
      · rw [if_neg h0] at h
        obtain ⟨m, rfl⟩ : ∃ m, k = m + 1 := ⟨k - 1, by omega⟩
        rw [List.getElem?_cons_succ]
        exact numOf_get (by omega)
theorem numOf_first {x : α} : ∀ {l : List α} {k : Nat}, l[k]? = some x → (∀ j, j < k → l[j]? ≠ some x) → numOf l x = k + 1
  | [], k, h, _ => by simp at h
  | y :: t, 0, h, _ => by simp at h; unfold numOf; rw [if_pos h]
  | y :: t, k + 1, h, hn => by
    have e : ¬ y = x := fun e => hn 0 (by omega) (by simp [e])
    have := numOf_first (l := t) (k := k) (by simpa using h) (fun j hj => by have := hn (j + 1) (by omega); simpa using this)
    unfold numOf
    rw [if_neg e, this, if_neg (by omega)]
theorem numOf_before {x : α} : ∀ {l : List α} {k : Nat}, numOf l x = k + 1 → ∀ j, j < k → l[j]? ≠ some x
  | [], k, h, _, _ => by simp [numOf] at h
  | y :: t, k, h, j, hj => by
    unfold numOf at h
    by_cases e : y = x
    · rw [if_pos e] at h; omega
    · rw [if_neg e] at h
      by_cases h0 : numOf t x = 0
      · rw [if_pos h0] at h; omega
      · rw [if_neg h0] at h
        obtain ⟨m, rfl⟩ : ∃ m, k = m + 1 := ⟨k - 1, by omega⟩
        cases j with
        | zero => simpa using e
        | succ j =>
          rw [List.getElem?_cons_succ]
          exact numOf_before (l := t) (k := m) (by omega) j (by omega)
theorem numOf_none {x : α} {l : List α} (h : ∀ j, j < l.length → l[j]? ≠ some x) : numOf l x = 0 :=
  numOf_zero.2 fun hm => by
    obtain ⟨j, hj, e⟩ := List.getElem_of_mem hm
    exact h j hj (by rw [List.getElem?_eq_getElem hj, e])
theorem numOf_snoc (l : List α) (y x : α) : numOf (l ++ [y]) x = if numOf l x = 0 then (if y = x then l.length + 1 else 0) else numOf l x := by
  induction l with
  | nil => simp [numOf]
  | cons z t ih =>
    rw [List.cons_append]
    unfold numOf
    by_cases e : z = x
    · simp [e]
    · rw [if_neg e, if_neg e, ih]
      by_cases h0 : numOf t x = 0
      · simp only [h0, if_true]
        by_cases e2 : y = x
        · simp [e2]
        · simp [e2]
      · simp [h0]
theorem numOf_inj {l : List α} {x y : α} (h : numOf l x = numOf l y) (hx : numOf l x ≠ 0) : x = y := by
  obtain ⟨k, hk⟩ : ∃ k, numOf l x = k + 1 := ⟨numOf l x - 1, by omega⟩
  have h1 := numOf_get hk
  have h2 := numOf_get (h.symm.trans hk)
  rw [h1] at h2
  exact Option.some.inj h2
/-- The list with a thing, that is numbered once. -/
def addN (l : List α) (x : α) : List α := if numOf l x = 0 then l ++ [x] else l
theorem addN_new {l : List α} {x : α} (h : numOf l x = 0) : addN l x = l ++ [x] := by unfold addN; rw [if_pos h]
theorem addN_old {l : List α} {x : α} (h : ¬ numOf l x = 0) : addN l x = l := by unfold addN; rw [if_neg h]
theorem addN_length (l : List α) (x : α) : (addN l x).length ≤ l.length + 1 := by
  unfold addN; split <;> simp
theorem numOf_add (l : List α) (x : α) : numOf (addN l x) x = if numOf l x = 0 then l.length + 1 else numOf l x := by
  by_cases h : numOf l x = 0
  · rw [addN_new h, numOf_snoc, if_pos h, if_pos h, if_pos rfl]
  · rw [addN_old h, if_neg h]
theorem numOf_add_pos (l : List α) (x : α) : numOf (addN l x) x ≠ 0 := by
  rw [numOf_add]; split <;> omega
theorem numOf_add_keeps {l : List α} (x : α) {y : α} (h : numOf l y ≠ 0) : numOf (addN l x) y = numOf l y := by
  by_cases h0 : numOf l x = 0
  · rw [addN_new h0, numOf_snoc, if_neg h]
  · rw [addN_old h0]
theorem numOf_add_other {l : List α} {x y : α} (h : x ≠ y) : numOf (addN l x) y = numOf l y := by
  by_cases h0 : numOf l x = 0
  · rw [addN_new h0, numOf_snoc, if_neg h]
    split
    · rename_i e; exact e.symm
    · rfl
  · rw [addN_old h0]
end

/-- A number as so many bytes. -/
def wideS (n k : Nat) : ByteArray := putS n 6 ++ noughtsS (k - 6)
theorem put6 {n : Nat} (hn : n < 281474976710656) : putS n 6 = strOfNums (leI 6 n) := putS_ok (m := 6) (by decide) (by decide) (by omega) (by rw [show (256 : Int) ^ 6 = 281474976710656 by decide]; omega)
theorem put6_size {n : Nat} (hn : n < 281474976710656) : (putS n 6).size = 6 := by rw [put6 hn, strOfNums_size, leI_length]
theorem wideS_size {n k : Nat} (hn : n < 281474976710656) (hk : 6 ≤ k) : (wideS n k).size = k := by
  unfold wideS
  rw [ByteArray.size_append, put6_size hn, noughtsS_size]
  omega
theorem pad_wide {n k : Nat} (hn : n < 281474976710656) (hk : 6 ≤ k) (hk2 : k ≤ 4096) : padS (putS n 6) k = wideS n k := by
  unfold wideS
  rw [padS_ok hk2 (by rw [put6_size hn]; exact hk), pad_append, put6_size hn]
theorem mk_inj {l m : List UInt8} (h : (⟨l.toArray⟩ : ByteArray) = ⟨m.toArray⟩) : l = m := by
  injection h with h
  simpa using h
theorem str_inj {l m : List Int} (h : strOfNums l = strOfNums m) : l.map (fun x => UInt8.ofNat x.toNat) = m.map (fun x => UInt8.ofNat x.toNat) := mk_inj h
theorem put6_val {n : Nat} (hn : n < 281474976710656) : leVal ((leI 6 (n : Int)).map fun x => UInt8.ofNat x.toNat) = n :=
  leVal_leI 6 n (by omega) (by rw [show (256 : Int) ^ 6 = 281474976710656 by decide]; omega)
theorem put6_inj {m n : Nat} (hm : m < 281474976710656) (hn : n < 281474976710656) (h : putS m 6 = putS n 6) : m = n := by
  rw [put6 hm, put6 hn] at h
  have e := congrArg leVal (str_inj h)
  rw [put6_val hm, put6_val hn] at e
  omega
theorem app_inj {a b c : ByteArray} (hs : a.size = b.size) (h : a ++ c = b ++ c) : a = b := by
  have h2 := congrArg (fun b : ByteArray => b.data.toList) h
  simp only [ByteArray.data_append, Array.toList_append] at h2
  have h3 := (List.append_inj h2 (by simpa using hs)).1
  exact ByteArray.ext (Array.toList_inj.1 h3)
theorem wideS_inj {m n k : Nat} (hm : m < 281474976710656) (hn : n < 281474976710656) (h : wideS m k = wideS n k) : m = n :=
  put6_inj hm hn (app_inj ((put6_size hm).trans (put6_size hn).symm) h)
end Go.Proofs.YtkopbpbmfdogfaaDoor
