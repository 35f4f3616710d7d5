/- The document's none, Held and Read. -/
import Derived.Test.YtcmoagphbpjenaaGreatDoorMg10
namespace Go.Proofs.YtcmoagphbpjenaaGreatDoor
set_option maxRecDepth 20000
open Go.RowKit

theorem owns_some {w : World} {e : TypeId} {z n : Nat} {v : Value} {xs : List Value} (h : w.ownsRow 0 e z v n xs) (hn : 0 < n) : ∃ g cap, v = .slice (some ⟨g, 0, none⟩) n cap ∧ n ≤ cap := by
  obtain ⟨g, cap, e, hc, _⟩ := owns_form h hn
  exact ⟨g, cap, e, hc⟩

set_option maxHeartbeats 400000 in
theorem none_any (B : Nat) (oa : Option Addr) (n cap : Nat) (at_ : Int) (S : PS) (hn : n = S.kept.length) (w : World) (c0 : w.cell? ⟨B, 0, none⟩ = some (.slice oa n cap)) :
    Calls Tryz.prog 34 #[.pointer (some ⟨B, 0, none⟩), .int .i64 at_] w fun e w' => e = .returned (.bool (!hasB S at_)) ∧ w' = w := by
  subst hn
  by_cases h0 : 0 ≤ at_
  · by_cases h1 : at_ < (S.kept.length : Int)
    · have hv : hasB S at_ = true := by simp [hasB, h0, h1]
      rw [hv]
      have h0' : ¬ at_ < 0 := by omega
      have h1' : ¬ (S.kept.length : Int) ≤ at_ := by omega
      go_enter Tryz.func34, Tryz.ntmps34
      go_wp2
      go_ret
      exact ⟨rfl, rfl⟩
    · have hv : hasB S at_ = false := by simp [hasB, h0, h1]
      rw [hv]
      have h0' : ¬ at_ < 0 := by omega
      have h1' : (S.kept.length : Int) ≤ at_ := by omega
      go_enter Tryz.func34, Tryz.ntmps34
      go_wp2
      go_ret
      exact ⟨rfl, rfl⟩
  · have hv : hasB S at_ = false := by simp [hasB, h0]
    rw [hv]
    have h0' : at_ < 0 := by omega
    go_enter Tryz.func34, Tryz.ntmps34
    go_wp2
    go_ret
    exact ⟨rfl, rfl⟩

set_option maxHeartbeats 400000 in
theorem rheld_any (B : Nat) (F : Nat → Prop) (S : PS) (at_ : Int) (w : World) (hp : RefP w F B S) :
    Calls Tryz.prog 55 #[.pointer (some ⟨B, 0, none⟩), .int .i64 at_] w fun e w' => e = .returned (.tuple #[.string (heldS S at_), .int .i64 (heldE S at_)]) ∧ w' = w := by
  obtain ⟨kv, dv, wv, ks, ds, hp⟩ := hp
  have hkl : ∃ oa cap, kv = .slice oa S.kept.length cap := by
    rcases owns_len hp.kept with ⟨cap, e⟩ | ⟨g, cap, e⟩
    · exact ⟨_, cap, e⟩
    · exact ⟨_, cap, e⟩
  obtain ⟨oa, cap, rfl⟩ := hkl
  have hhas := none_any B oa _ cap at_ S rfl w hp.c0
  cases hb : hasB S at_
  · rw [hb] at hhas
    have e1 : heldS S at_ = ByteArray.empty := by simp [heldS, hb]
    have e2 : heldE S at_ = 2 := by simp [heldE, hb]
    rw [e1, e2]
    clear hb hp
    go_enter Tryz.func55, Tryz.ntmps55
    go_wp2_with fail
    refine hhas.mono ?_
    rintro e w1 ⟨rfl, rfl⟩
    go_wp2
    go_ret2
    exact ⟨rfl, rfl⟩
  · rw [hb] at hhas
    obtain ⟨h0, h1⟩ := hasB_true hb
    obtain ⟨i, rfl⟩ : ∃ i : Nat, at_ = i := ⟨at_.toNat, by omega⟩
    have hi : i < S.kept.length := by omega
    obtain ⟨g, cp, hkv, hgc⟩ := owns_some hp.kept (by omega)
    obtain ⟨rfl, rfl⟩ : oa = some ⟨g, 0, none⟩ ∧ cap = cp := by cases hkv; exact ⟨rfl, rfl⟩
    obtain ⟨g2, cap2, rfl, hgc2⟩ := owns_some hp.dumb (by omega)
    have d0 := hp.c0
    have d1 := hp.c1
    have cd : w.cell? ⟨g2, i, none⟩ = some (.bool (ds.getD i false)) := owns_cell hp.dumb (by rw [List.getElem?_map, List.getElem?_eq_getElem (by rw [hp.ld]; exact hi), List.getD_eq_getElem?_getD, List.getElem?_eq_getElem (by rw [hp.ld]; exact hi)]; rfl)
    have ck : w.cell? ⟨g, i, none⟩ = some (.string (ks.getD i ByteArray.empty)) := owns_cell hp.kept (by rw [List.getElem?_map, List.getElem?_eq_getElem (by rw [hp.lk]; exact hi), List.getD_eq_getElem?_getD, List.getElem?_eq_getElem (by rw [hp.lk]; exact hi)]; rfl)
    have hsay := hp.says i hi
    have h64 : (ks.getD i ByteArray.empty).size = 64 := by
      rw [List.getD_eq_getElem?_getD, List.getElem?_eq_getElem (by rw [hp.lk]; exact hi)]
      exact hp.texts _ (List.getElem_mem _)
    have ek : keptS S i = if ds.getD i false = true then ByteArray.empty else ks.getD i ByteArray.empty := by
      rw [keptS, Int.toNat_natCast, List.getD_eq_getElem?_getD, hsay]; rfl
    generalize ks.getD i ByteArray.empty = s at *
    clear hsay
    cases hd : ds.getD i false <;> rw [hd] at cd ek
    · have e1 : heldS S i = s := by simp [heldS, hb, ek]
      have e2 : heldE S i = 0 := by simp [heldE, hb, ek, h64]
      rw [e1, e2]
      clear hb hp hd ek e1 e2 h64
      go_enter Tryz.func55, Tryz.ntmps55
      go_wp2_with fail
      refine hhas.mono ?_
      rintro e w1 ⟨rfl, rfl⟩
      clear hhas
      go_wp2
      go_ret2
      exact ⟨rfl, rfl⟩
    · have e1 : heldS S i = ByteArray.empty := by simp [heldS, hb, ek]
      have e2 : heldE S i = 21 := by simp [heldE, hb, ek]
      rw [e1, e2]
      clear hb hp hd ek e1 e2 h64
      go_enter Tryz.func55, Tryz.ntmps55
      go_wp2_with fail
      refine hhas.mono ?_
      rintro e w1 ⟨rfl, rfl⟩
      clear hhas
      go_wp2
      go_ret2
      exact ⟨rfl, rfl⟩

/-- What is said of a sector by the first j waiting writes. -/
def seenS (S : PS) (i j : Nat) : ByteArray := (textOf (S.wait.take j) i).getD (heldS S (i : Nat))
def seenE (S : PS) (i j : Nat) : Int := if (textOf (S.wait.take j) i).isSome = true then 0 else heldE S (i : Nat)
theorem seen_step {S : PS} {i j a : Nat} {s : ByteArray} (h : S.wait[j]? = some (a, s)) : seenS S i (j + 1) = (if a = i then s else seenS S i j) ∧ seenE S i (j + 1) = (if a = i then 0 else seenE S i j) := by
  have e : S.wait.take (j + 1) = S.wait.take j ++ [(a, s)] := by rw [List.take_add_one, h]; rfl
  rw [seenS, seenE, e, textOf_snoc]
  by_cases hc : a = i
  · simp [hc]
  · simp [hc, seenS, seenE]

set_option maxHeartbeats 1000000 in
theorem rread_any (B : Nat) (F : Nat → Prop) (S : PS) (at_ : Int) (w : World) (hp : RefP w F B S) (hw : S.wait.length ≤ 1000000) :
    Calls Tryz.prog 39 #[.pointer (some ⟨B, 0, none⟩), .int .i64 at_] w fun e w' => e = .returned (.tuple #[.string (readS S at_), .int .i64 (readE S at_)]) ∧ RefP w' F B (readP S at_) ∧ Touch F w w' := by
  have hp0 := hp
  obtain ⟨kv, dv, wv, ks, ds, hp⟩ := hp
  have c4 := hp.c4
  cases hu : S.up
  · rw [hu] at c4
    have HF : Hid (readS S at_ = ByteArray.empty ∧ readE S at_ = 20 ∧ RefP w F B (readP S at_)) := ⟨by simp [readS, hu], by simp [readE, hu], by simp only [readP, hu]; exact hp0⟩
    clear hp hp0 hu
    go_enter Tryz.func39, Tryz.ntmps39
    go_wp2
    go_ret2
    exact ⟨by rw [HF.out.1, HF.out.2.1]; rfl, HF.out.2.2, Touch.refl _ _⟩
  rw [hu] at c4
  have hkl : ∃ oa cap, kv = .slice oa S.kept.length cap := by
    rcases owns_len hp.kept with ⟨cap, e⟩ | ⟨g, cap, e⟩
    · exact ⟨_, cap, e⟩
    · exact ⟨_, cap, e⟩
  obtain ⟨oa, cap, rfl⟩ := hkl
  have hhas := none_any B oa _ cap at_ S rfl w hp.c0
  cases hb : hasB S at_
  · rw [hb] at hhas
    have HF : Hid (readS S at_ = ByteArray.empty ∧ readE S at_ = 2 ∧ RefP w F B (readP S at_)) := ⟨by simp [readS, hu, hb], by simp [readE, hu, hb], by simp [readP, hu, hb]; exact hp0⟩
    clear hp hp0 hu hb
    go_enter Tryz.func39, Tryz.ntmps39
    go_wp2_with fail
    refine hhas.mono ?_
    rintro e w1 ⟨rfl, rfl⟩
    go_wp2
    go_ret2
    exact ⟨by rw [HF.out.1, HF.out.2.1]; rfl, HF.out.2.2, Touch.refl _ _⟩
  rw [hb] at hhas
  obtain ⟨h0, h1⟩ := hasB_true hb
  obtain ⟨i, rfl⟩ : ∃ i : Nat, at_ = i := ⟨at_.toNat, by omega⟩
  have c5 := hp.c5
  have f5 : w.frozen? ⟨B, 5, none⟩ = false := hp.row.frozen 5
  have hp1 := hp.setReads (wrap64 (S.reads + 1))
  have ht1 : Touch F w (w.setCell ⟨B, 5, none⟩ (.int .i64 (wrap64 (S.reads + 1)))) := (Touch.refl _ _).setCell _ _ _ (.inl hp.fB)
  obtain ⟨w1, hw1⟩ : ∃ w1, w.setCell ⟨B, 5, none⟩ (.int .i64 (wrap64 (S.reads + 1))) = w1 := ⟨_, rfl⟩
  rw [hw1] at hp1 ht1
  have eP : readP S i = { S with reads := wrap64 (S.reads + 1) } := by simp [readP, hu, hb]
  have hheld := rheld_any B F _ i w1 ⟨_, _, _, _, _, hp1⟩
  have e3 : heldS { S with reads := wrap64 (S.reads + 1) } i = seenS S i 0 := rfl
  have e4 : heldE { S with reads := wrap64 (S.reads + 1) } i = seenE S i 0 := rfl
  rw [e3, e4] at hheld
  have d2 := hp1.c2
  have hwl : ∃ ob cb, wv = .slice ob S.wait.length cb := by
    rcases owns_len hp.wait with ⟨cap, e⟩ | ⟨g, cap, e⟩
    · exact ⟨_, cap, e⟩
    · exact ⟨_, cap, e⟩
  obtain ⟨ob, cb, rfl⟩ := hwl
  have HW : Hid (w1.ownsRow 0 74 2 (.slice ob S.wait.length cb) S.wait.length (waitC S.wait)) := hp1.wait
  have HF : Hid (readS S i = seenS S i S.wait.length ∧ readE S i = seenE S i S.wait.length ∧ RefP w1 F B (readP S i) ∧ Touch F w w1) := ⟨by simp [readS, hu, hb, seenS], by simp [readE, hu, hb, seenE], by rw [eP]; exact ⟨_, _, _, _, _, hp1⟩, ht1⟩
  clear hp hp0 hp1 ht1 eP e3 e4 hu hb
  go_enter Tryz.func39, Tryz.ntmps39
  go_wp2_with fail
  refine hhas.mono ?_
  rintro e w9 ⟨rfl, rfl⟩
  clear hhas
  go_wp2_with fail
  refine hheld.mono ?_
  rintro e w8 ⟨rfl, rfl⟩
  clear hheld
  go_wp2_with fail
  go_loopw [6, 7, 8] (fun a b c wr => ∃ j : Nat, j ≤ S.wait.length ∧ a = .string (seenS S i j) ∧ b = .int .i64 (seenE S i j) ∧ c = .int .i64 j ∧ wr = w8) (fun _ _ c _ => S.wait.length - (intOf c).toNat)
  case atStart => exact ⟨0, Nat.zero_le _, rfl, rfl, rfl, rfl⟩
  case round =>
    obtain ⟨j, hj, rfl, rfl, rfl, rfl⟩ := hrel
    by_cases hlt : j < S.wait.length
    · have j1 : (j : Int) < (S.wait.length : Nat) := by omega
      obtain ⟨a, s, hjs⟩ : ∃ a s, S.wait[j]? = some (a, s) := ⟨S.wait[j].1, S.wait[j].2, List.getElem?_eq_getElem hlt⟩
      obtain ⟨g, cap', hwv, hgc, hcells⟩ := owns_form HW.out (by omega)
      obtain ⟨rfl, rfl⟩ : ob = some ⟨g, 0, none⟩ ∧ cb = cap' := by cases hwv; exact ⟨rfl, rfl⟩
      have k0 := hcells _ _ (waitC_get S.wait j a s hjs).1
      have k1 := hcells _ _ (waitC_get S.wait j a s hjs).2
      have HST : Hid (seenS S i (j + 1) = (if a = i then s else seenS S i j) ∧ seenE S i (j + 1) = (if a = i then 0 else seenE S i j)) := seen_step hjs
      clear hcells hjs hwv
      by_cases hai : a = i
      · subst hai
        have hx : ((a : Int) == (a : Int)) = true := by simp
        go_wp2
        go_roundw
        case rel => exact ⟨j + 1, by omega, by rw [HST.out.1, if_pos rfl], by rw [HST.out.2, if_pos rfl], by go_num, by first | rfl | trivial⟩
        case measure => simp [intOf]; omega
      · have hx : ¬ a = i := hai
        go_wp2
        go_roundw
        case rel => exact ⟨j + 1, by omega, by rw [HST.out.1, if_neg hai], by rw [HST.out.2, if_neg hai], by go_num, by first | rfl | trivial⟩
        case measure => simp [intOf]; omega
    · obtain rfl : j = S.wait.length := by omega
      go_wp2
      go_ret2
      exact ⟨by rw [HF.out.1, HF.out.2.1]; rfl, HF.out.2.2.1, HF.out.2.2.2⟩
end Go.Proofs.YtcmoagphbpjenaaGreatDoor
