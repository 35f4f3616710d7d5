/- plate's has, Held and Read, at a device that lies in memory. -/
import Derived.Test.YtcmoagphbpjenaaGreatDoorMg03
namespace Go.Proofs.YtcmoagphbpjenaaGreatDoor
set_option maxRecDepth 20000
open Go.RowKit

/-- Is there such a sector; what is told of one. -/
def hasB (S : PS) (at_ : Int) : Bool := decide (0 ≤ at_ ∧ at_ < (S.kept.length : Int))
def keptS (S : PS) (at_ : Int) : ByteArray := S.kept.getD at_.toNat ByteArray.empty
def heldS (S : PS) (at_ : Int) : ByteArray := if hasB S at_ = true then keptS S at_ else ByteArray.empty
def heldE (S : PS) (at_ : Int) : Int := if hasB S at_ = true then (if (keptS S at_).size = 0 then 21 else 0) else 2
def readS (S : PS) (at_ : Int) : ByteArray := if S.up = true then (if hasB S at_ = true then (textOf S.wait at_.toNat).getD (heldS S at_) else ByteArray.empty) else ByteArray.empty
def readE (S : PS) (at_ : Int) : Int := if S.up = true then (if hasB S at_ = true then (if (textOf S.wait at_.toNat).isSome = true then 0 else heldE S at_) else 2) else 20
def readP (S : PS) (at_ : Int) : PS := if S.up = true then (if hasB S at_ = true then { S with reads := wrap64 (S.reads + 1) } else S) else S

theorem hasB_true {S : PS} {at_ : Int} (h : hasB S at_ = true) : 0 ≤ at_ ∧ at_ < (S.kept.length : Int) := by simpa [hasB] using h
theorem hasB_false {S : PS} {at_ : Int} (h : hasB S at_ = false) : ¬ (0 ≤ at_ ∧ at_ < (S.kept.length : Int)) := by simpa [hasB] using h

theorem size_of_toList {s : ByteArray} (h : s.toList.isEmpty = true) : s.size = 0 := by
  rw [ByteArray.toList_eq] at h
  have h2 : s.data.toList = [] := List.isEmpty_iff.1 h
  rw [Lib.size_eq, h2]; rfl

set_option maxHeartbeats 400000 in
theorem has_any (B K n : Nat) (at_ : Int) (S : PS) (hn : n = S.kept.length) (w : World) (c0 : w.cell? ⟨B, 0, none⟩ = some (.slice (some ⟨K, 0, none⟩) n n)) :
    Calls Tryz.prog 32 #[.pointer (some ⟨B, 0, none⟩), .int .i64 at_] w fun e w' => e = .returned (.bool (hasB S at_)) ∧ w' = w := by
  subst hn
  by_cases h0 : 0 ≤ at_
  · by_cases h1 : at_ < (S.kept.length : Int)
    · have hv : hasB S at_ = true := by simp [hasB, h0, h1]
      go_enter Tryz.func32, Tryz.ntmps32
      go_wp2
      go_ret
      exact ⟨by rw [hv]; rfl, rfl⟩
    · have hv : hasB S at_ = false := by simp [hasB, h0, h1]
      go_enter Tryz.func32, Tryz.ntmps32
      go_wp2
      go_ret
      exact ⟨rfl, rfl⟩
  · have hv : hasB S at_ = false := by simp [hasB, h0]
    go_enter Tryz.func32, Tryz.ntmps32
    go_wp2
    go_ret
    exact ⟨rfl, rfl⟩

set_option maxHeartbeats 400000 in
theorem held_any (B : Nat) (F : Nat → Prop) (S : PS) (at_ : Int) (w : World) (hp : Plate w F B S) :
    Calls Tryz.prog 72 #[.pointer (some ⟨B, 0, none⟩), .int .i64 at_] w fun e w' => e = .returned (.tuple #[.string (heldS S at_), .int .i64 (heldE S at_)]) ∧ w' = w := by
  obtain ⟨K, N, wv, hp⟩ := hp
  have c0 := hp.c0
  have hhas := has_any B K _ at_ S rfl w c0
  cases hb : hasB S at_
  · rw [hb] at hhas
    have e1 : heldS S at_ = ByteArray.empty := by simp [heldS, hb]
    have e2 : heldE S at_ = 2 := by simp [heldE, hb]
    rw [e1, e2]
    clear hb hp
    go_enter Tryz.func72, Tryz.ntmps72
    go_wp2_with fail
    refine hhas.mono ?_
    rintro e w1 ⟨rfl, rfl⟩
    go_wp2
    go_ret2
    exact ⟨rfl, rfl⟩
  · rw [hb] at hhas
    obtain ⟨h0, h1⟩ := hasB_true hb
    obtain ⟨i, rfl⟩ : ∃ i : Nat, at_ = i := ⟨at_.toNat, by omega⟩
    have hi : i < S.kept.length := by omega
    have ck := hp.cK i hi
    have ek : keptS S i = S.kept[i] := by simp [keptS, hi]
    obtain ⟨s, hs⟩ : ∃ s, s = S.kept[i] := ⟨_, rfl⟩
    rw [← hs] at ck ek
    have e1 : heldS S i = s := by simp [heldS, hb, ek]
    have e2 : heldE S i = if s.size = 0 then 21 else 0 := by simp [heldE, hb, ek]
    rw [e1, e2]
    clear hb hp e1 e2 ek hs
    by_cases hz : s.size = 0
    · obtain rfl : s = ByteArray.empty := by simpa using hz
      go_enter Tryz.func72, Tryz.ntmps72
      go_wp2_with fail
      refine hhas.mono ?_
      rintro e w1 ⟨rfl, rfl⟩
      go_wp2
      go_ret2
      exact ⟨rfl, rfl⟩
    · have hs1 : s.toList.isEmpty = false := by
        cases hx : s.toList.isEmpty
        · rfl
        · exact absurd (size_of_toList hx) hz
      rw [if_neg hz]
      clear hz
      go_enter Tryz.func72, Tryz.ntmps72
      go_wp2_with fail
      refine hhas.mono ?_
      rintro e w1 ⟨rfl, rfl⟩
      go_wp2
      go_ret2
      exact ⟨rfl, rfl⟩

set_option maxHeartbeats 1000000 in
theorem read_any (B : Nat) (F : Nat → Prop) (S : PS) (at_ : Int) (w : World) (hp : Plate w F B S) (hw : S.wait.length ≤ 1000000) :
    Calls Tryz.prog 52 #[.pointer (some ⟨B, 0, none⟩), .int .i64 at_] w fun e w' => e = .returned (.tuple #[.string (readS S at_), .int .i64 (readE S at_)]) ∧ Plate w' F B (readP S at_) ∧ Touch F w w' := by
  obtain ⟨K, N, wv, hp⟩ := hp
  have c0 := hp.c0
  have c4 := hp.c4
  cases hu : S.up
  · rw [hu] at c4
    have HF : Hid (readS S at_ = ByteArray.empty ∧ readE S at_ = 20 ∧ Plate w F B (readP S at_)) := ⟨by simp [readS, hu], by simp [readE, hu], by simp only [readP, hu]; exact ⟨K, N, wv, hp⟩⟩
    clear hp hu c0
    go_enter Tryz.func52, Tryz.ntmps52
    go_wp2
    go_ret2
    exact ⟨by rw [HF.out.1, HF.out.2.1]; rfl, HF.out.2.2, Touch.refl _ _⟩
  rw [hu] at c4
  have hhas := has_any B K _ at_ S rfl w c0
  cases hb : hasB S at_
  · rw [hb] at hhas
    have HF : Hid (readS S at_ = ByteArray.empty ∧ readE S at_ = 2 ∧ Plate w F B (readP S at_)) := ⟨by simp [readS, hu, hb], by simp [readE, hu, hb], by simp [readP, hu, hb]; exact ⟨K, N, wv, hp⟩⟩
    clear hp hu hb
    go_enter Tryz.func52, Tryz.ntmps52
    go_wp2_with fail
    refine hhas.mono ?_
    rintro e w1 ⟨rfl, rfl⟩
    go_wp2
    go_ret2
    exact ⟨by rw [HF.out.1, HF.out.2.1]; rfl, HF.out.2.2, Touch.refl _ _⟩
  rw [hb] at hhas
  obtain ⟨h0, h1⟩ := hasB_true hb
  obtain ⟨i, rfl⟩ : ∃ i : Nat, at_ = i := ⟨at_.toNat, by omega⟩
  have hi : i < S.kept.length := by omega
  have c5 := hp.c5
  have f5 : w.frozen? ⟨B, 5, none⟩ = false := hp.row.frozen 5
  have hp1 := hp.setReads (wrap64 (S.reads + 1))
  have ht1 : Touch F w (w.setCell ⟨B, 5, none⟩ (.int .i64 (wrap64 (S.reads + 1)))) := (Touch.refl _ _).setCell _ _ _ (.inl hp.fB)
  obtain ⟨w1, hw1⟩ : ∃ w1, w.setCell ⟨B, 5, none⟩ (.int .i64 (wrap64 (S.reads + 1))) = w1 := ⟨_, rfl⟩
  rw [hw1] at hp1 ht1
  have eP : readP S i = { S with reads := wrap64 (S.reads + 1) } := by simp [readP, hu, hb]
  have d2 := hp1.c2
  have dN := hp1.cN i hi
  have d1 := hp1.c1
  cases hl : lastOf S.wait i with
  | zero =>
    simp only [hl] at dN
    have ht : textOf S.wait i = none := lastOf_zero hl
    have eS : readS S i = heldS S i := by simp [readS, hu, hb, ht]
    have eE : readE S i = heldE S i := by simp [readE, hu, hb, ht]
    have hheld := held_any B F _ i w1 ⟨K, N, wv, hp1⟩
    have HF : Hid (readS S i = heldS S i ∧ readE S i = heldE S i ∧ Plate w1 F B (readP S i) ∧ Touch F w w1) := ⟨eS, eE, by rw [eP]; exact ⟨K, N, wv, hp1⟩, ht1⟩
    have e3 : heldS { S with reads := wrap64 (S.reads + 1) } i = heldS S i := rfl
    have e4 : heldE { S with reads := wrap64 (S.reads + 1) } i = heldE S i := rfl
    rw [e3, e4] at hheld
    clear hp hp1 ht1 eS eE eP ht hl hb e3 e4 d1
    go_enter Tryz.func52, Tryz.ntmps52
    go_wp2_with fail
    refine hhas.mono ?_
    rintro e w2 ⟨rfl, rfl⟩
    clear hhas
    go_wp2_with fail
    refine hheld.mono ?_
    rintro e w3 ⟨rfl, rfl⟩
    clear hheld
    go_wp2
    go_ret2
    exact ⟨by rw [HF.out.1, HF.out.2.1]; rfl, HF.out.2.2.1, HF.out.2.2.2⟩
  | succ k =>
    simp only [hl] at dN
    obtain ⟨s, hs, ht⟩ := lastOf_text hl
    have hk : k < S.wait.length := by have := lastOf_le S.wait i; omega
    have eS : readS S i = s := by simp [readS, hu, hb, ht]
    have eE : readE S i = 0 := by simp [readE, hu, hb, ht]
    obtain ⟨g, cap, rfl, hg1, hg2⟩ := owns_form hp1.wait (by show 0 < S.wait.length; omega)
    have dW : w1.cell? ⟨g, k * 2 + 1, none⟩ = some (.string s) := hg2 _ _ (waitC_get S.wait k i s hs).2
    have HF : Hid (readS S i = s ∧ readE S i = 0 ∧ Plate w1 F B (readP S i) ∧ Touch F w w1) := ⟨eS, eE, by rw [eP]; exact ⟨K, N, _, hp1⟩, ht1⟩
    have j1 : (0 : Int) < ((k + 1 : Nat) : Int) := by omega
    have j2 : IntKind.i64.wrap (((k + 1 : Nat) : Int) - 1) = k := by rw [IntKind.wrap_i64]; omega
    have j3 : (k : Int) < ((S.wait.length : Nat) : Int) := by omega
    have d1' : w1.cell? ⟨B, 1, none⟩ = some (.slice (some ⟨g, 0, none⟩) S.wait.length cap) := d1
    clear hp hp1 ht1 eS eE eP ht hl hb hs d1 hg1 hg2
    go_enter Tryz.func52, Tryz.ntmps52
    go_wp2_with fail
    refine hhas.mono ?_
    rintro e w2 ⟨rfl, rfl⟩
    clear hhas
    go_wp2
    go_ret2
    exact ⟨by rw [HF.out.1, HF.out.2.1]; rfl, HF.out.2.2.1, HF.out.2.2.2⟩
end Go.Proofs.YtcmoagphbpjenaaGreatDoor
