/- PlateKeeps in plain words: the states of its device, and why an unwritten sector stays. -/
import Derived.Test.YtmnojmcbghdciaaPlOps
namespace Go.Proofs.Ytmnojmcbghdciaa
open Go.RowKit

/-- A device that is whole: on, without a fuse, all that is kept and all that waits of 64 bytes. -/
structure Whole (n : Nat) (S : PS) : Prop where
  up : S.up = true
  fuse : S.fuse = -1
  len : S.kept.length = n
  texts : ∀ s ∈ S.kept, s.size = 64
  waits : ∀ p ∈ S.wait, p.2.size = 64
theorem whole_new (n : Nat) : Whole n (newP n) := ⟨rfl, rfl, by simp [newP], fun s hs => by
  simp [newP] at hs
  rw [hs.2, fillS_size], fun p hp => by simp [newP] at hp⟩
theorem Whole.write {n : Nat} {S : PS} (h : Whole n S) (at_ : Int) (s : ByteArray) : Whole n (writeP S at_ s) := by
  have hf : ¬ S.fuse = 0 := by rw [h.fuse]; decide
  unfold writeP
  rw [if_neg hf]
  split
  · rename_i hs
    split
    · split
      · refine ⟨h.up, by rw [if_pos h.fuse], h.len, h.texts, fun p hp => ?_⟩
        rcases List.mem_append.1 hp with hp | hp
        · exact h.waits p hp
        · rw [List.mem_singleton] at hp
          subst hp
          exact hs
      · exact h
    · exact h
  · exact h
theorem write_wait (S : PS) (at_ : Int) (s : ByteArray) : (writeP S at_ s).wait.length ≤ S.wait.length + 1 ∧ (writeP S at_ s).kept = S.kept := by
  unfold writeP
  repeat' split
  all_goals simp
theorem Whole.write_in {n : Nat} {S : PS} (h : Whole n S) (at_ : Int) (s : ByteArray) (p : Nat × ByteArray) (hp : p ∈ (writeP S at_ s).wait) : p ∈ S.wait ∨ (writeE S at_ s = 0 ∧ 0 ≤ at_ ∧ p.1 = at_.toNat) := by
  have hf : ¬ S.fuse = 0 := by rw [h.fuse]; decide
  unfold writeP at hp
  unfold writeE
  rw [if_neg hf] at hp
  rw [if_neg hf]
  split at hp
  · rename_i hs
    rw [if_pos hs]
    split at hp
    · rename_i hu
      rw [if_pos hu]
      split at hp
      · rename_i hb
        rw [if_pos hb]
        rcases List.mem_append.1 hp with hp | hp
        · exact .inl hp
        · rw [List.mem_singleton] at hp
          subst hp
          exact .inr ⟨rfl, (hasB_true hb).1, rfl⟩
      · exact .inl hp
    · exact .inl hp
  · exact .inl hp
theorem writeE_has {S : PS} {at_ : Int} {s : ByteArray} (h : writeE S at_ s = 0) : 0 ≤ at_ ∧ at_ < (S.kept.length : Int) := by
  unfold writeE at h
  split at h
  · split at h
    · split at h
      · rename_i hb; exact hasB_true hb
      · exact absurd h (by decide)
    · exact absurd h (by decide)
  · exact absurd h (by decide)
theorem keptAt_64 {f : Nat → Bool} {wait : List (Nat × ByteArray)} {kept : List ByteArray} (hw : ∀ p ∈ wait, p.2.size = 64) (hk : ∀ s ∈ kept, s.size = 64) : ∀ j, ∀ s ∈ keptAt f wait kept j, s.size = 64
  | 0 => hk
  | j + 1 => by
    have ih := keptAt_64 hw hk (f := f) j
    intro s hs
    cases hj : wait[j]? with
    | none => simp only [keptAt, hj] at hs; exact ih s hs
    | some p =>
      simp only [keptAt, hj] at hs
      split at hs
      · rcases List.mem_or_eq_of_mem_set hs with h | rfl
        · exact ih s h
        · exact hw p (List.mem_of_getElem? hj)
      · exact ih s hs
theorem keptAt_off {f : Nat → Bool} {wait : List (Nat × ByteArray)} {kept : List ByteArray} {i : Nat} (hw : ∀ p ∈ wait, p.1 ≠ i) : ∀ j, (keptAt f wait kept j)[i]? = kept[i]?
  | 0 => rfl
  | j + 1 => by
    have ih := keptAt_off hw (f := f) (kept := kept) j
    cases hj : wait[j]? with
    | none => simp only [keptAt, hj]; exact ih
    | some p =>
      simp only [keptAt, hj]
      split
      · rw [List.getElem?_set_ne (hw p (List.mem_of_getElem? hj))]; exact ih
      · exact ih
theorem Whole.settle {n : Nat} {S : PS} (h : Whole n S) (f : Nat → Bool) : Whole n (settleP f S) :=
  ⟨h.up, h.fuse, by show (keptAt _ _ _ _).length = n; rw [keptAt_length]; exact h.len, keptAt_64 h.waits h.texts _, fun p hp => by simp [settleP] at hp⟩
theorem Whole.start {n : Nat} {S : PS} (h : Whole n S) (k : List Bool) : Whole n (startP k S) :=
  ⟨rfl, rfl, (h.settle (lastsB k)).len, (h.settle (lastsB k)).texts, (h.settle (lastsB k)).waits⟩

/-- The first writes; the second ones, and where they were taken. -/
def firstS (n : Nat) (l : List OpT) : Nat → PS
  | 0 => newP n
  | j + 1 => writeP (firstS n l j) (l.getD j default).at_ (fillS (l.getD j default).v 64)
def secondS (S : PS) (l : List OpT) : Nat → PS
  | 0 => S
  | j + 1 => if j % 2 = 0 then writeP (secondS S l j) (l.getD j default).at_ (fillS (((l.getD j default).v + 1) % 256) 64) else secondS S l j
def wroteB (S : PS) (l : List OpT) : Nat → Nat → Bool
  | 0, _ => false
  | j + 1, i => if j % 2 = 0 ∧ writeE (secondS S l j) (l.getD j default).at_ (fillS (((l.getD j default).v + 1) % 256) 64) = 0 ∧ i = (l.getD j default).at_.toNat then true else wroteB S l j i
theorem first_whole (n : Nat) (l : List OpT) : ∀ j, Whole n (firstS n l j) ∧ (firstS n l j).wait.length ≤ j
  | 0 => ⟨whole_new n, by simp [firstS, newP]⟩
  | j + 1 => by
    have ih := first_whole n l j
    refine ⟨ih.1.write _ _, ?_⟩
    have := (write_wait (firstS n l j) (l.getD j default).at_ (fillS (l.getD j default).v 64)).1
    show (writeP _ _ _).wait.length ≤ j + 1
    omega
theorem second_whole {n : Nat} {S : PS} (l : List OpT) (h : Whole n S) (h0 : S.wait = []) : ∀ j, Whole n (secondS S l j) ∧ (secondS S l j).wait.length ≤ j ∧ (secondS S l j).kept = S.kept ∧ ∀ p ∈ (secondS S l j).wait, wroteB S l j p.1 = true
  | 0 => ⟨h, by simp [secondS, h0], rfl, fun p hp => by simp [secondS, h0] at hp⟩
  | j + 1 => by
    obtain ⟨i1, i2, i3, i4⟩ := second_whole l h h0 j
    by_cases hj : j % 2 = 0
    · have e : secondS S l (j + 1) = writeP (secondS S l j) (l.getD j default).at_ (fillS (((l.getD j default).v + 1) % 256) 64) := by simp only [secondS, hj, if_true]
      rw [e]
      have hw := write_wait (secondS S l j) (l.getD j default).at_ (fillS (((l.getD j default).v + 1) % 256) 64)
      refine ⟨i1.write _ _, by omega, by rw [hw.2]; exact i3, fun p hp => ?_⟩
      rcases i1.write_in _ _ p hp with hp | ⟨h1, h2, h3⟩
      · simp only [wroteB]
        split
        · rfl
        · exact i4 p hp
      · simp only [wroteB]
        rw [if_pos ⟨hj, h1, h3⟩]
    · have e : secondS S l (j + 1) = secondS S l j := by simp only [secondS, hj, if_false]
      rw [e]
      refine ⟨i1, by omega, i3, fun p hp => ?_⟩
      simp only [wroteB]
      rw [if_neg (fun h => hj h.1)]
      exact i4 p hp
/-- Behind the start: each sector reads, and what was not written is what it was. -/
theorem keeps_read {n : Nat} {S : PS} (l : List OpT) (k : List Bool) (h : Whole n S) (h0 : S.wait = []) (J i : Nat) (r : Int) (hi : i < n) :
    readE { startP k (secondS S l J) with reads := r } i = 0 ∧ (wroteB S l J i = false → readS { startP k (secondS S l J) with reads := r } i = heldS S i) := by
  obtain ⟨i1, i2, i3, i4⟩ := second_whole l h h0 J
  have hw := i1.start k
  obtain ⟨Z, hZ⟩ : ∃ Z, Z = startP k (secondS S l J) := ⟨_, rfl⟩
  have hz0 : Z.wait = [] := by rw [hZ]; rfl
  have hzk : Z.kept = keptAt (lastsB k) (secondS S l J).wait (secondS S l J).kept (secondS S l J).wait.length := by rw [hZ]; rfl
  rw [← hZ] at hw
  rw [← hZ]
  obtain ⟨kp, wt, fu, up, rd, wr⟩ := Z
  obtain rfl : wt = [] := hz0
  obtain rfl : up = true := hw.up
  have hzk2 : kp = keptAt (lastsB k) (secondS S l J).wait (secondS S l J).kept (secondS S l J).wait.length := hzk
  have hlen : kp.length = n := hw.len
  have hb : hasB ⟨kp, [], fu, true, r, wr⟩ (i : Int) = true := by simp [hasB, hlen, hi]
  have hbS : hasB S (i : Int) = true := by
    have := h.len
    simp [hasB, this, hi]
  have hlz : i < kp.length := by omega
  have hks : keptS ⟨kp, [], fu, true, r, wr⟩ (i : Int) = kp[i] := by simp [keptS, hlz]
  have h64 : (kp[i]).size = 64 := hw.texts _ (List.getElem_mem _)
  refine ⟨?_, fun hno => ?_⟩
  · show readE ⟨kp, [], fu, true, r, wr⟩ i = 0
    simp only [readE, hb, if_true, textOf, textR, List.reverse_nil, heldE, hks, h64]
    rfl
  · have hoff : ∀ p ∈ (secondS S l J).wait, p.1 ≠ i := fun p hp e => by
      have := i4 p hp
      rw [e, hno] at this
      cases this
    have hk : kp[i]? = S.kept[i]? := by rw [hzk2, keptAt_off hoff, i3]
    show readS ⟨kp, [], fu, true, r, wr⟩ i = _
    simp only [readS, hb, if_true, textOf, textR, List.reverse_nil, heldS, hbS, Option.getD_none]
    simp only [keptS, Int.toNat_natCast, List.getD_eq_getElem?_getD, hk]
end Go.Proofs.Ytmnojmcbghdciaa
