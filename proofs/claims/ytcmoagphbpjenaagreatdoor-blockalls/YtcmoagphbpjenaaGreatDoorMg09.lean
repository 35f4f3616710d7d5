/- The law's bytes (a byte, so many times), and its awake: chapter 4's first example. · The calls of one device in a law: it lies at or above a bound, and nothing below the bound is changed. -/
import Derived.Test.YtcmoagphbpjenaaGreatDoorMg06
import Derived.Test.YtcmoagphbpjenaaGreatDoorMg07
import Derived.Test.YtcmoagphbpjenaaGreatDoorMg08
namespace Go.Proofs.YtcmoagphbpjenaaGreatDoor
set_option maxRecDepth 20000
open Go.RowKit

theorem fillS_num (v n : Nat) : fillS v n = strOfNums ((List.replicate n v).map fun (x : Nat) => (x : Int)) := rfl

theorem awake_state (s : ByteArray) (hs : s.size = 64) : writeE (newP 2) 0 s = 0 ∧ (writeP (newP 2) 0 s).wait.length = 1 ∧ readS (startP [true] (writeP (newP 2) 0 s)) 0 = s ∧ readE (startP [true] (writeP (newP 2) 0 s)) 0 = 0 ∧ (startP [true] (writeP (newP 2) 0 s)).wait.length = 0 := by
  have e1 : writeP (newP 2) 0 s = ⟨[fillS 0 64, fillS 0 64], [(0, s)], -1, true, 0, 1⟩ := by simp [writeP, hs, newP, hasB, wrap64]
  have e2 : startP [true] (writeP (newP 2) 0 s) = ⟨[s, fillS 0 64], [], -1, true, 0, 1⟩ := by rw [e1]; simp [startP, settleP, keptAt, lastsB]
  refine ⟨by simp [writeE, hs, newP, hasB], by rw [e1]; rfl, ?_, ?_, by rw [e2]; rfl⟩
  · rw [e2]; simp [readS, hasB, textOf, textR, heldS, keptS]
  · rw [e2]; simp [readE, hasB, textOf, textR, heldE, keptS, hs]

end Go.Proofs.YtcmoagphbpjenaaGreatDoor

namespace Go.Proofs.YtcmoagphbpjenaaGreatDoor
set_option maxRecDepth 20000
open Go.RowKit

def OnB (base : Nat) (w : World) (B : Nat) (S : PS) : Prop := ∃ F, Plate w F B S ∧ ∀ k, F k → base ≤ k ∧ k < w.heap.size
theorem OnB.base {base B : Nat} {w : World} {S : PS} (h : OnB base w B S) : base ≤ w.heap.size := by
  obtain ⟨F, ⟨K, N, wv, hp⟩, hF⟩ := h
  have := hF B hp.fB
  omega
theorem OnB.below {base B : Nat} {w w' : World} {S : PS} (h : OnB base w B S) (hb : Below w.heap.size w w') : OnB base w' B S := by
  obtain ⟨F, hp, hF⟩ := h
  exact ⟨F, hp.below hb, fun k hk => ⟨(hF k hk).1, Nat.lt_of_lt_of_le (hF k hk).2 hb.size⟩⟩
theorem OnB.of {base B : Nat} {w w' : World} {F : Nat → Prop} {S : PS} (hw : base ≤ w.heap.size) (hF : ∀ k, F k → base ≤ k ∧ k < w.heap.size) (hp : Plate w' (grow F w w') B S) (ht : Touch F w w') : OnB base w' B S ∧ Below base w w' :=
  ⟨⟨_, hp, fun _ hk => by
    rcases hk with h | h
    · have := hF _ h; have := ht.size; omega
    · omega⟩, ht.below hw fun k h => (hF k h).1⟩
theorem OnB.same {base B : Nat} {w w' : World} {F : Nat → Prop} {S : PS} (hw : base ≤ w.heap.size) (hF : ∀ k, F k → base ≤ k ∧ k < w.heap.size) (hp : Plate w' F B S) (ht : Touch F w w') : OnB base w' B S ∧ Below base w w' :=
  OnB.of hw hF (hp.mono fun _ _ h => .inl h) ht

theorem new_on (n : Nat) (hn : n ≤ 32768) (w : World) :
    Calls Tryz.prog 22 #[.int .i64 n] w fun e w' => ∃ B, e = .returned (.tuple #[.pointer (some ⟨B, 0, none⟩), .int .i64 0]) ∧ OnB w.heap.size w' B (newP n) ∧ Below w.heap.size w w' :=
  (new_any n hn w).mono fun _ _ ⟨B, he, hp, hb⟩ => ⟨B, he, ⟨_, hp, fun _ h => h⟩, hb⟩
theorem read_on (base B : Nat) (S : PS) (at_ : Int) (w : World) (hp : OnB base w B S) (hw : S.wait.length ≤ 1000000) :
    Calls Tryz.prog 52 #[.pointer (some ⟨B, 0, none⟩), .int .i64 at_] w fun e w' => e = .returned (.tuple #[.string (readS S at_), .int .i64 (readE S at_)]) ∧ OnB base w' B (readP S at_) ∧ Below base w w' := by
  have hb := hp.base
  obtain ⟨F, hp, hF⟩ := hp
  exact (read_any B F S at_ w hp hw).mono fun e w' ⟨he, h1, h2⟩ => ⟨he, OnB.same hb hF h1 h2⟩
theorem held_on (base B : Nat) (S : PS) (at_ : Int) (w : World) (hp : OnB base w B S) :
    Calls Tryz.prog 72 #[.pointer (some ⟨B, 0, none⟩), .int .i64 at_] w fun e w' => e = .returned (.tuple #[.string (heldS S at_), .int .i64 (heldE S at_)]) ∧ w' = w := by
  obtain ⟨F, hp, hF⟩ := hp
  exact held_any B F S at_ w hp
theorem write_on (base B : Nat) (S : PS) (at_ : Int) (s : ByteArray) (w : World) (hp : OnB base w B S) (hw : S.wait.length ≤ 1000000) :
    Calls Tryz.prog 10 #[.pointer (some ⟨B, 0, none⟩), .int .i64 at_, .string s] w fun e w' => e = .returned (.int .i64 (writeE S at_ s)) ∧ OnB base w' B (writeP S at_ s) ∧ Below base w w' := by
  have hb := hp.base
  obtain ⟨F, hp, hF⟩ := hp
  exact (write_any B F S at_ s w hp hw).mono fun e w' ⟨he, h1, h2⟩ => ⟨he, OnB.of hb hF h1 h2⟩
theorem arm_on (base B : Nat) (S : PS) (n : Int) (hn : n < 9223372036854775808) (w : World) (hp : OnB base w B S) :
    Calls Tryz.prog 8 #[.pointer (some ⟨B, 0, none⟩), .int .i64 n] w fun e w' => e = .returned (.int .i64 (armE S n)) ∧ OnB base w' B (armP S n) ∧ Below base w w' := by
  have hb := hp.base
  obtain ⟨F, hp, hF⟩ := hp
  exact (arm_any B F S n hn w hp).mono fun e w' ⟨he, h1, h2⟩ => ⟨he, OnB.same hb hF h1 h2⟩
theorem spoil_on (base B : Nat) (S : PS) (at_ : Int) (w : World) (hp : OnB base w B S) :
    Calls Tryz.prog 26 #[.pointer (some ⟨B, 0, none⟩), .int .i64 at_] w fun e w' => e = .returned (.int .i64 (spoilE S at_)) ∧ OnB base w' B (spoilP S at_) ∧ Below base w w' := by
  have hb := hp.base
  obtain ⟨F, hp, hF⟩ := hp
  exact (spoil_any B F S at_ w hp).mono fun e w' ⟨he, h1, h2⟩ => ⟨he, OnB.same hb hF h1 h2⟩
theorem lay_on (base B : Nat) (S : PS) (at_ : Int) (s : ByteArray) (w : World) (hp : OnB base w B S) :
    Calls Tryz.prog 24 #[.pointer (some ⟨B, 0, none⟩), .int .i64 at_, .string s] w fun e w' => e = .returned (.int .i64 (layE S at_ s)) ∧ OnB base w' B (layP S at_ s) ∧ Below base w w' := by
  have hb := hp.base
  obtain ⟨F, hp, hF⟩ := hp
  exact (lay_any B F S at_ s w hp).mono fun e w' ⟨he, h1, h2⟩ => ⟨he, OnB.same hb hF h1 h2⟩
theorem up_on (base B : Nat) (S : PS) (w : World) (hp : OnB base w B S) :
    Calls Tryz.prog 19 #[.pointer (some ⟨B, 0, none⟩)] w fun e w' => e = .returned (.bool S.up) ∧ w' = w := by
  obtain ⟨F, hp, hF⟩ := hp
  exact up_any B F S w hp
theorem writes_on (base B : Nat) (S : PS) (w : World) (hp : OnB base w B S) :
    Calls Tryz.prog 17 #[.pointer (some ⟨B, 0, none⟩)] w fun e w' => e = .returned (.int .i64 S.writes) ∧ w' = w := by
  obtain ⟨F, hp, hF⟩ := hp
  exact writes_any B F S w hp
theorem reads_on (base B : Nat) (S : PS) (w : World) (hp : OnB base w B S) :
    Calls Tryz.prog 14 #[.pointer (some ⟨B, 0, none⟩)] w fun e w' => e = .returned (.int .i64 S.reads) ∧ w' = w := by
  obtain ⟨F, hp, hF⟩ := hp
  exact reads_any B F S w hp
theorem pending_on (base B : Nat) (S : PS) (w : World) (hp : OnB base w B S) :
    Calls Tryz.prog 18 #[.pointer (some ⟨B, 0, none⟩)] w fun e w' => e = .returned (.int .i64 (S.wait.length : Nat)) ∧ w' = w := by
  obtain ⟨F, hp, hF⟩ := hp
  exact pending_any B F S w hp
theorem sectors_on (base B : Nat) (S : PS) (w : World) (hp : OnB base w B S) :
    Calls Tryz.prog 56 #[.pointer (some ⟨B, 0, none⟩)] w fun e w' => e = .returned (.int .i64 (S.kept.length : Nat)) ∧ w' = w := by
  obtain ⟨F, hp, hF⟩ := hp
  exact sectors_any B F S w hp
end Go.Proofs.YtcmoagphbpjenaaGreatDoor
