/- plate's Arm, Spoil, Lay and the numbers that a device tells. -/
import Derived.Test.YtcmoagphbpjenaaGreatDoorMg04
import Derived.Deep.RegionWith
namespace Go.Proofs.YtcmoagphbpjenaaGreatDoor
set_option maxRecDepth 20000
open Go.RowKit

def armE (S : PS) (n : Int) : Int := if n < 0 then 1 else if S.up = true then 0 else 20
def armP (S : PS) (n : Int) : PS := if n < 0 then S else if S.up = true then { S with fuse := n } else S
def spoilE (S : PS) (at_ : Int) : Int := if hasB S at_ = true then 0 else 2
def spoilP (S : PS) (at_ : Int) : PS := if hasB S at_ = true then { S with kept := S.kept.set at_.toNat ByteArray.empty } else S
def layE (S : PS) (at_ : Int) (s : ByteArray) : Int := if s.size = 64 then (if hasB S at_ = true then 0 else 2) else 1
def layP (S : PS) (at_ : Int) (s : ByteArray) : PS := if s.size = 64 then (if hasB S at_ = true then { S with kept := S.kept.set at_.toNat s } else S) else S

theorem up_any (B : Nat) (F : Nat → Prop) (S : PS) (w : World) (hp : Plate w F B S) :
    Calls Tryz.prog 19 #[.pointer (some ⟨B, 0, none⟩)] w fun e w' => e = .returned (.bool S.up) ∧ w' = w := by
  obtain ⟨K, N, wv, hp⟩ := hp
  have c4 := hp.c4
  clear hp
  cases hu : S.up <;> rw [hu] at c4 <;> clear hu
  · go_enter Tryz.func19, Tryz.ntmps19
    go_wp2
    go_ret
    exact ⟨rfl, rfl⟩
  · go_enter Tryz.func19, Tryz.ntmps19
    go_wp2
    go_ret
    exact ⟨rfl, rfl⟩

theorem writes_any (B : Nat) (F : Nat → Prop) (S : PS) (w : World) (hp : Plate w F B S) :
    Calls Tryz.prog 17 #[.pointer (some ⟨B, 0, none⟩)] w fun e w' => e = .returned (.int .i64 S.writes) ∧ w' = w := by
  obtain ⟨K, N, wv, hp⟩ := hp
  have c4 := hp.c6
  clear hp
  go_enter Tryz.func17, Tryz.ntmps17
  go_wp2
  go_ret
  exact ⟨rfl, rfl⟩

theorem reads_any (B : Nat) (F : Nat → Prop) (S : PS) (w : World) (hp : Plate w F B S) :
    Calls Tryz.prog 14 #[.pointer (some ⟨B, 0, none⟩)] w fun e w' => e = .returned (.int .i64 S.reads) ∧ w' = w := by
  obtain ⟨K, N, wv, hp⟩ := hp
  have c4 := hp.c5
  clear hp
  go_enter Tryz.func14, Tryz.ntmps14
  go_wp2
  go_ret
  exact ⟨rfl, rfl⟩

theorem sectors_any (B : Nat) (F : Nat → Prop) (S : PS) (w : World) (hp : Plate w F B S) :
    Calls Tryz.prog 56 #[.pointer (some ⟨B, 0, none⟩)] w fun e w' => e = .returned (.int .i64 (S.kept.length : Nat)) ∧ w' = w := by
  obtain ⟨K, N, wv, hp⟩ := hp
  have c4 := hp.c0
  clear hp
  go_enter Tryz.func56, Tryz.ntmps56
  go_wp2
  go_ret
  exact ⟨rfl, rfl⟩

theorem owns_len {w : World} {e : TypeId} {z n : Nat} {v : Value} {xs : List Value} (h : w.ownsRow 0 e z v n xs) : (∃ cap, v = .slice none n cap) ∨ ∃ g cap, v = .slice (some ⟨g, 0, none⟩) n cap := by
  rcases h.2 with ⟨rfl, rfl⟩ | ⟨g, cap, cur, rfl, _⟩
  · exact .inl ⟨0, rfl⟩
  · exact .inr ⟨g, cap, rfl⟩

theorem pending_any (B : Nat) (F : Nat → Prop) (S : PS) (w : World) (hp : Plate w F B S) :
    Calls Tryz.prog 18 #[.pointer (some ⟨B, 0, none⟩)] w fun e w' => e = .returned (.int .i64 (S.wait.length : Nat)) ∧ w' = w := by
  obtain ⟨K, N, wv, hp⟩ := hp
  have c4 := hp.c1
  have hw := owns_len hp.wait
  clear hp
  rcases hw with ⟨cap, rfl⟩ | ⟨g, cap, rfl⟩
  · go_enter Tryz.func18, Tryz.ntmps18
    go_wp2
    go_ret
    exact ⟨rfl, rfl⟩
  · go_enter Tryz.func18, Tryz.ntmps18
    go_wp2
    go_ret
    exact ⟨rfl, rfl⟩

set_option maxHeartbeats 400000 in
theorem arm_any (B : Nat) (F : Nat → Prop) (S : PS) (n : Int) (hn : n < 9223372036854775808) (w : World) (hp : Plate w F B S) :
    Calls Tryz.prog 8 #[.pointer (some ⟨B, 0, none⟩), .int .i64 n] w fun e w' => e = .returned (.int .i64 (armE S n)) ∧ Plate w' F B (armP S n) ∧ Touch F w w' := by
  by_cases h0 : n < 0
  · have HF : Hid (armE S n = 1 ∧ Plate w F B (armP S n)) := ⟨by simp [armE, h0], by simp only [armP, h0, if_true]; exact hp⟩
    clear hp
    go_enter Tryz.func8, Tryz.ntmps8
    go_wp2
    go_ret
    exact ⟨by rw [HF.out.1]; rfl, HF.out.2, Touch.refl _ _⟩
  obtain ⟨K, N, wv, hp⟩ := hp
  have c4 := hp.c4
  cases hu : S.up
  · rw [hu] at c4
    have HF : Hid (armE S n = 20 ∧ Plate w F B (armP S n)) := ⟨by simp [armE, h0, hu], by simp [armP, h0, hu]; exact ⟨K, N, wv, hp⟩⟩
    clear hp hu
    go_enter Tryz.func8, Tryz.ntmps8
    go_wp2
    go_ret
    exact ⟨by rw [HF.out.1]; rfl, HF.out.2, Touch.refl _ _⟩
  · rw [hu] at c4
    have c3 := hp.c3
    have f3 : w.frozen? ⟨B, 3, none⟩ = false := hp.row.frozen 3
    obtain ⟨w1, hw1⟩ : ∃ w1, w.setCell ⟨B, 3, none⟩ (.int .i64 n) = w1 := ⟨_, rfl⟩
    have HF : Hid (armE S n = 0 ∧ Plate w1 F B (armP S n) ∧ Touch F w w1) := ⟨by simp [armE, h0, hu], by rw [show armP S n = { S with fuse := n } by simp only [armP, h0, if_false, hu, if_true]]; exact ⟨K, N, wv, by rw [← hw1]; exact hp.setFuse n ⟨by omega, hn⟩⟩, by rw [← hw1]; exact (Touch.refl _ _).setCell _ _ _ (.inl hp.fB)⟩
    clear hp hu
    go_enter Tryz.func8, Tryz.ntmps8
    go_wp2
    go_ret
    exact ⟨by rw [HF.out.1]; rfl, HF.out.2.1, HF.out.2.2⟩

set_option maxHeartbeats 400000 in
theorem spoil_any (B : Nat) (F : Nat → Prop) (S : PS) (at_ : Int) (w : World) (hp : Plate w F B S) :
    Calls Tryz.prog 26 #[.pointer (some ⟨B, 0, none⟩), .int .i64 at_] w fun e w' => e = .returned (.int .i64 (spoilE S at_)) ∧ Plate w' F B (spoilP S at_) ∧ Touch F w w' := by
  obtain ⟨K, N, wv, hp⟩ := hp
  have c0 := hp.c0
  have hhas := has_any B K _ at_ S rfl w c0
  cases hb : hasB S at_
  · rw [hb] at hhas
    have HF : Hid (spoilE S at_ = 2 ∧ Plate w F B (spoilP S at_)) := ⟨by simp [spoilE, hb], by simp [spoilP, hb]; exact ⟨K, N, wv, hp⟩⟩
    clear hp hb
    go_enter Tryz.func26, Tryz.ntmps26
    go_wp2_with fail
    refine hhas.mono ?_
    rintro e w1 ⟨rfl, rfl⟩
    go_wp2
    go_ret
    exact ⟨by rw [HF.out.1]; rfl, HF.out.2, Touch.refl _ _⟩
  · rw [hb] at hhas
    obtain ⟨h0, h1⟩ := hasB_true hb
    obtain ⟨i, rfl⟩ : ∃ i : Nat, at_ = i := ⟨at_.toNat, by omega⟩
    have hi : i < S.kept.length := by omega
    have ck := hp.cK i hi
    have fk : w.frozen? ⟨K, i, none⟩ = false := hp.kept.frozen i
    obtain ⟨w1, hw1⟩ : ∃ w1, w.setCell ⟨K, i, none⟩ (.string ⟨#[]⟩) = w1 := ⟨_, rfl⟩
    have HF : Hid (spoilE S i = 0 ∧ Plate w1 F B (spoilP S i) ∧ Touch F w w1) := ⟨by simp [spoilE, hb], by simp [spoilP, hb]; exact ⟨K, N, wv, by rw [← hw1]; exact hp.setKept i ByteArray.empty (.inl rfl)⟩, by rw [← hw1]; exact (Touch.refl _ _).setCell _ _ _ (.inl hp.fK)⟩
    clear hp hb
    go_enter Tryz.func26, Tryz.ntmps26
    go_wp2_with fail
    refine hhas.mono ?_
    rintro e w2 ⟨rfl, rfl⟩
    clear hhas
    go_wp2
    go_ret
    exact ⟨by rw [HF.out.1]; rfl, HF.out.2.1, HF.out.2.2⟩

set_option maxHeartbeats 1000000 in
theorem lay_any (B : Nat) (F : Nat → Prop) (S : PS) (at_ : Int) (s : ByteArray) (w : World) (hp : Plate w F B S) :
    Calls Tryz.prog 24 #[.pointer (some ⟨B, 0, none⟩), .int .i64 at_, .string s] w fun e w' => e = .returned (.int .i64 (layE S at_ s)) ∧ Plate w' F B (layP S at_ s) ∧ Touch F w w' := by
  by_cases hs : s.size = 64
  case neg =>
    have HF : Hid (layE S at_ s = 1 ∧ Plate w F B (layP S at_ s)) := ⟨by simp [layE, hs], by simp only [layP, hs, if_false]; exact hp⟩
    clear hp
    have hs' : ¬ (s.size : Int) = 64 := by omega
    go_enter Tryz.func24, Tryz.ntmps24
    go_wp2
    go_ret
    exact ⟨by rw [HF.out.1]; rfl, HF.out.2, Touch.refl _ _⟩
  have hs' : (s.size : Int) = 64 := by omega
  obtain ⟨K, N, wv, hp⟩ := hp
  have c0 := hp.c0
  have hhas := has_any B K _ at_ S rfl w c0
  cases hb : hasB S at_
  · rw [hb] at hhas
    have HF : Hid (layE S at_ s = 2 ∧ Plate w F B (layP S at_ s)) := ⟨by simp [layE, hb, hs], by simp [layP, hb]; exact ⟨K, N, wv, hp⟩⟩
    clear hp hb
    go_enter Tryz.func24, Tryz.ntmps24
    go_wp2_with fail
    refine hhas.mono ?_
    rintro e w1 ⟨rfl, rfl⟩
    go_wp2
    go_ret
    exact ⟨by rw [HF.out.1]; rfl, HF.out.2, Touch.refl _ _⟩
  · rw [hb] at hhas
    obtain ⟨h0, h1⟩ := hasB_true hb
    obtain ⟨i, rfl⟩ : ∃ i : Nat, at_ = i := ⟨at_.toNat, by omega⟩
    have hi : i < S.kept.length := by omega
    have HP : Hid (PlateAt w F B K N wv S) := hp
    have HE : Hid (layE S i s = 0 ∧ layP S i s = { S with kept := S.kept.set i s }) := ⟨by simp [layE, hb, hs], by simp [layP, hb, hs]⟩
    clear hp hb
    go_enter Tryz.func24, Tryz.ntmps24
    go_wp2_with fail
    refine hhas.mono ?_
    rintro e w2 ⟨rfl, rfl⟩
    clear hhas
    go_wp2_with fail
    go_region_held3 (fun w' => w'.cell? ⟨B, 0, none⟩ = some (.slice (some ⟨K, 0, none⟩) S.kept.length S.kept.length)) (first | exact hA.c0 | exact (hA.row.off hA.bk _ _).cell 0 | simp [go_sem, *]) (first | (go_at_call 33; refine (clone_any s _ (by omega)).mono ?_; rintro e wA ⟨rfl, hbA⟩; have hA : PlateAt wA F B K N wv S := HP.out.keep (fun k hk _ => hbA.block k hk); have hT : Touch F w2 wA := ⟨(Below.refl _ _).drew.trans (hbA.mono (Nat.zero_le _)), fun k hk _ => hbA.block k hk⟩; have ck := hA.cK i hi; have fk : wA.frozen? ⟨K, i, none⟩ = false := hA.kept.frozen i))
    go_wp2
    go_ret
    exact ⟨by rw [HE.out.1]; rfl, by rw [HE.out.2]; exact ⟨K, N, wv, hA.setKept i s (.inr hs)⟩, hT.setCell _ _ _ (.inl HP.out.fK)⟩
end Go.Proofs.YtcmoagphbpjenaaGreatDoor
