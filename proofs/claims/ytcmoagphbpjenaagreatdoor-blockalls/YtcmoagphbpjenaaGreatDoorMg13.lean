/- The document's Arm, Spoil, keep, Lay, Flush and Start. -/
import Derived.Test.YtcmoagphbpjenaaGreatDoorMg12
namespace Go.Proofs.YtcmoagphbpjenaaGreatDoor
set_option maxRecDepth 20000
open Go.RowKit

set_option maxHeartbeats 400000 in
theorem rarm_any (B : Nat) (F : Nat → Prop) (S : PS) (n : Int) (hn : n < 9223372036854775808) (w : World) (hp : RefP w F B S) :
    Calls Tryz.prog 9 #[.pointer (some ⟨B, 0, none⟩), .int .i64 n] w fun e w' => e = .returned (.int .i64 (armE S n)) ∧ RefP w' F B (armP S n) ∧ Touch F w w' := by
  by_cases h0 : n < 0
  · have HF : Hid (armE S n = 1 ∧ RefP w F B (armP S n)) := ⟨by simp [armE, h0], by simp only [armP, h0, if_true]; exact hp⟩
    clear hp
    go_enter Tryz.func9, Tryz.ntmps9
    go_wp2
    go_ret
    exact ⟨by rw [HF.out.1]; rfl, HF.out.2, Touch.refl _ _⟩
  have hp0 := hp
  obtain ⟨kv, dv, wv, ks, ds, hp⟩ := hp
  have c4 := hp.c4
  cases hu : S.up
  · rw [hu] at c4
    have HF : Hid (armE S n = 20 ∧ RefP w F B (armP S n)) := ⟨by simp [armE, h0, hu], by simp [armP, h0, hu]; exact hp0⟩
    clear hp hp0 hu
    go_enter Tryz.func9, Tryz.ntmps9
    go_wp2
    go_ret
    exact ⟨by rw [HF.out.1]; rfl, HF.out.2, Touch.refl _ _⟩
  · rw [hu] at c4
    have c3 := hp.c3
    have f3 : w.frozen? ⟨B, 3, none⟩ = false := hp.row.frozen 3
    obtain ⟨w1, hw1⟩ : ∃ w1, w.setCell ⟨B, 3, none⟩ (.int .i64 n) = w1 := ⟨_, rfl⟩
    have HF : Hid (armE S n = 0 ∧ RefP w1 F B (armP S n) ∧ Touch F w w1) := ⟨by simp [armE, h0, hu], by rw [show armP S n = { S with fuse := n } by simp only [armP, h0, if_false, hu, if_true]]; exact ⟨_, _, _, _, _, by rw [← hw1]; exact hp.setFuse n ⟨by omega, hn⟩⟩, by rw [← hw1]; exact (Touch.refl _ _).setCell _ _ _ (.inl hp.fB)⟩
    clear hp hp0 hu
    go_enter Tryz.func9, Tryz.ntmps9
    go_wp2
    go_ret
    exact ⟨by rw [HF.out.1]; rfl, HF.out.2.1, HF.out.2.2⟩

set_option maxHeartbeats 400000 in
theorem rspoil_any (B : Nat) (F : Nat → Prop) (S : PS) (at_ : Int) (w : World) (hp : RefP w F B S) :
    Calls Tryz.prog 27 #[.pointer (some ⟨B, 0, none⟩), .int .i64 at_] w fun e w' => e = .returned (.int .i64 (spoilE S at_)) ∧ RefP w' F B (spoilP S at_) ∧ Touch F w w' := by
  have hp0 := hp
  obtain ⟨kv, dv, wv, ks, ds, hp⟩ := hp
  obtain ⟨oa, ca, rfl⟩ := hp.kform
  have hhas := none_any B oa _ ca at_ S rfl w hp.c0
  cases hb : hasB S at_
  · rw [hb] at hhas
    have HF : Hid (spoilE S at_ = 2 ∧ RefP w F B (spoilP S at_)) := ⟨by simp [spoilE, hb], by simp [spoilP, hb]; exact hp0⟩
    clear hp hp0 hb
    go_enter Tryz.func27, Tryz.ntmps27
    go_wp2_with fail
    refine hhas.mono ?_
    rintro e w1 ⟨rfl, rfl⟩
    go_wp2
    go_ret
    exact ⟨by rw [HF.out.1]; rfl, HF.out.2, Touch.refl _ _⟩
  · rw [hb] at hhas
    obtain ⟨h0, h1⟩ := hasB_true hb
    obtain ⟨i, rfl⟩ : ∃ i : Nat, at_ = i := ⟨at_.toNat, by omega⟩
    have hi : i < S.kept.length := by omega
    obtain ⟨g, cap, rfl, hgc⟩ := owns_some hp.dumb (by omega)
    have d1 := hp.c1
    have cd : w.cell? ⟨g, i, none⟩ = some (.bool (ds.getD i false)) := owns_cell hp.dumb (by rw [List.getElem?_map, List.getElem?_eq_getElem (by rw [hp.ld]; exact hi), List.getD_eq_getElem?_getD, List.getElem?_eq_getElem (by rw [hp.ld]; exact hi)]; rfl)
    have fk : w.frozen? ⟨g, i, none⟩ = false := (owns_set hp.dumb (.bool true)).2
    obtain ⟨w1, hw1⟩ : ∃ w1, w.setCell ⟨g, i, none⟩ (.bool true) = w1 := ⟨_, rfl⟩
    have HF : Hid (spoilE S i = 0 ∧ RefP w1 F B (spoilP S i) ∧ Touch F w w1) := ⟨by simp [spoilE, hb], by simp [spoilP, hb]; exact ⟨_, _, _, _, _, by rw [← hw1]; exact hp.setDumb hi⟩, by rw [← hw1]; exact (Touch.refl _ _).setCell _ _ _ (.inl (hp.fD g rfl))⟩
    generalize ds.getD i false = od at cd
    clear hp hp0 hb
    go_enter Tryz.func27, Tryz.ntmps27
    go_wp2_with fail
    refine hhas.mono ?_
    rintro e w2 ⟨rfl, rfl⟩
    clear hhas
    go_wp2
    go_ret
    exact ⟨by rw [HF.out.1]; rfl, HF.out.2.1, HF.out.2.2⟩

set_option maxHeartbeats 1000000 in
theorem rkeep_any (B : Nat) (F : Nat → Prop) (S : PS) (a : Nat) (s : ByteArray) (ha : a < S.kept.length) (hs : s.size = 64) (w : World) (hp : RefP w F B S) :
    Calls Tryz.prog 45 #[.pointer (some ⟨B, 0, none⟩), .agg #[.int .i64 (a : Nat), .string s]] w fun e w' => e = .returned (.tuple #[]) ∧ RefP w' F B { S with kept := S.kept.set a s } ∧ Touch F w w' := by
  obtain ⟨kv, dv, wv, ks, ds, hp⟩ := hp
  obtain ⟨gk, ck, rfl, _⟩ := owns_some hp.kept (by omega)
  obtain ⟨gd, cd, rfl, _⟩ := owns_some hp.dumb (by omega)
  have hb1 : Below w.heap.size w (w.alloc (.cells #[.int .i64 (a : Nat), .string s] 74)) := (Below.refl _ _).alloc (Nat.le_refl _) _
  have n1 : Row (w.alloc (.cells #[.int .i64 (a : Nat), .string s] 74)) w.heap.size 74 [.int .i64 (a : Nat), .string s] := heap_alloc_new w _
  have hp1 := hp.keep (w' := w.alloc (.cells #[.int .i64 (a : Nat), .string s] 74)) fun k hk _ => hb1.block k hk
  have hgk := owns_lt hp.kept gk rfl
  have hgd := owns_lt hp.dumb gd rfl
  obtain ⟨w1, hw1⟩ : ∃ w1, w.alloc (.cells #[.int .i64 (a : Nat), .string s] 74) = w1 := ⟨_, rfl⟩
  rw [hw1] at hb1 n1 hp1
  obtain ⟨wz, hwz⟩ : ∃ wz, w.heap.size = wz := ⟨_, rfl⟩
  have hne1 : wz ≠ gk := by omega
  have hne2 : wz ≠ gd := by omega
  have hne3 : gd ≠ gk := fun e => hp.kd gk rfl (by rw [← e]; rfl)
  have hBk : B ≠ gk := fun e => hp.kB (by rw [e]; rfl)
  have hBd : B ≠ gd := fun e => hp.dB (by rw [e]; rfl)
  rw [hwz] at n1
  have b0 := hp1.c0
  have b1 := hp1.c1
  have m0 : w1.cell? ⟨wz, 0, none⟩ = some (.int .i64 (a : Nat)) := n1.cell 0
  have m1 : w1.cell? ⟨wz, 1, none⟩ = some (.string s) := n1.cell 1
  obtain ⟨ok, hok⟩ : ∃ ok, w1.cell? ⟨gk, a, none⟩ = some (.string ok) := ⟨_, owns_cell hp1.kept (by rw [List.getElem?_map, List.getElem?_eq_getElem (by rw [hp1.lk]; exact ha)]; rfl)⟩
  have fk : w1.frozen? ⟨gk, a, none⟩ = false := (owns_set hp1.kept (.string s)).2
  have hoff : ∀ v, (w1.setCell ⟨gk, a, none⟩ v).cell? ⟨B, 0, none⟩ = some (.slice (some ⟨gk, 0, none⟩) S.kept.length ck) ∧ (w1.setCell ⟨gk, a, none⟩ v).cell? ⟨wz, 0, none⟩ = some (.int .i64 (a : Nat)) ∧ (w1.setCell ⟨gk, a, none⟩ v).cell? ⟨wz, 1, none⟩ = some (.string s) := fun v => ⟨(hp1.row.off hBk _ _).cell 0, (n1.off hne1 _ _).cell 0, (n1.off hne1 _ _).cell 1⟩
  obtain ⟨w2, hw2⟩ : ∃ w2, (w1.setCell ⟨gk, a, none⟩ (.string s)).drew = w2 := ⟨_, rfl⟩
  have r2 : Row w2 B 40 (refC (.slice (some ⟨gk, 0, none⟩) S.kept.length ck) (.slice (some ⟨gd, 0, none⟩) S.kept.length cd) wv S) := by rw [← hw2]; exact hp1.row.off hBk _ _
  have n2 : Row w2 wz 74 [.int .i64 (a : Nat), .string s] := by rw [← hw2]; exact n1.off hne1 _ _
  have o2 : w2.ownsRow 0 4 1 (.slice (some ⟨gd, 0, none⟩) S.kept.length cd) S.kept.length (ds.map Value.bool) := by rw [← hw2]; exact owns_keep (owns_off hp1.dumb (b := gk) (fun e => hne3 (by cases e; rfl)) a (.string s)) fun _ _ => rfl
  have b0' : w2.cell? ⟨B, 0, none⟩ = some (.slice (some ⟨gk, 0, none⟩) S.kept.length ck) := r2.cell 0
  have m1' : w2.cell? ⟨wz, 1, none⟩ = some (.string s) := n2.cell 1
  have b1' : w2.cell? ⟨B, 1, none⟩ = some (.slice (some ⟨gd, 0, none⟩) S.kept.length cd) := r2.cell 1
  have m0' : w2.cell? ⟨wz, 0, none⟩ = some (.int .i64 (a : Nat)) := n2.cell 0
  obtain ⟨od, hod⟩ : ∃ od, w2.cell? ⟨gd, a, none⟩ = some (.bool od) := ⟨_, owns_cell o2 (by rw [List.getElem?_map, List.getElem?_eq_getElem (by rw [hp1.ld]; exact ha)]; rfl)⟩
  have fd : w2.frozen? ⟨gd, a, none⟩ = false := (owns_set o2 (.bool false)).2
  have hoff2 : ∀ v, (w2.setCell ⟨gd, a, none⟩ v).cell? ⟨B, 1, none⟩ = some (.slice (some ⟨gd, 0, none⟩) S.kept.length cd) ∧ (w2.setCell ⟨gd, a, none⟩ v).cell? ⟨wz, 0, none⟩ = some (.int .i64 (a : Nat)) := fun v => ⟨(r2.off hBd _ _).cell 1, (n2.off hne2 _ _).cell 0⟩
  have HF : Hid (RefP (w2.setCell ⟨gd, a, none⟩ (.bool false)).drew F B { S with kept := S.kept.set a s } ∧ Touch F w (w2.setCell ⟨gd, a, none⟩ (.bool false)).drew) := by
    have hX := hp1.setKept ha hs
    refine ⟨⟨_, _, _, _, _, hX.keep (w' := (w2.setCell ⟨gd, a, none⟩ (.bool false)).drew) fun k _ _ => by rw [← hw2]; rfl⟩, ?_⟩
    rw [← hw2]
    exact (((Touch.of_below hb1).setCell gk a (.string s) (.inl (hp.fK gk rfl))).drew.setCell gd a (.bool false) (.inl (hp.fD gd rfl))).drew
  have ha1 : (a : Int) < S.kept.length := by omega
  clear hp hp1 hb1 n1 r2 n2 o2
  go_enter Tryz.func45, Tryz.ntmps45
  go_wp2_with fail
  go_region_held3 (fun w' => w'.cell? ⟨B, 0, none⟩ = some (.slice (some ⟨gk, 0, none⟩) S.kept.length ck) ∧ w'.cell? ⟨wz, 0, none⟩ = some (.int .i64 (a : Nat)) ∧ w'.cell? ⟨wz, 1, none⟩ = some (.string s)) (first | exact hoff _ | exact ⟨b0, m0, m1⟩ | exact ⟨b0', m0', m1'⟩ | simp [go_sem, *]) (fail)
  try rw [hw2]
  go_wp2_with fail
  go_region_held3 (fun w' => w'.cell? ⟨B, 1, none⟩ = some (.slice (some ⟨gd, 0, none⟩) S.kept.length cd) ∧ w'.cell? ⟨wz, 0, none⟩ = some (.int .i64 (a : Nat))) (first | exact hoff2 _ | exact ⟨b1', m0'⟩ | simp [go_sem, *]) (fail)
  go_wp2
  go_end0
  exact ⟨rfl, HF.out.1, HF.out.2⟩

set_option maxHeartbeats 400000 in
theorem rlay_any (B : Nat) (F : Nat → Prop) (S : PS) (at_ : Int) (s : ByteArray) (w : World) (hp : RefP w F B S) :
    Calls Tryz.prog 25 #[.pointer (some ⟨B, 0, none⟩), .int .i64 at_, .string s] w fun e w' => e = .returned (.int .i64 (layE S at_ s)) ∧ RefP w' F B (layP S at_ s) ∧ Touch F w w' := by
  by_cases hs : s.size = 64
  case neg =>
    have HF : Hid (layE S at_ s = 1 ∧ RefP w F B (layP S at_ s)) := ⟨by simp [layE, hs], by simp only [layP, hs, if_false]; exact hp⟩
    clear hp
    have hs' : ¬ (s.size : Int) = 64 := by omega
    go_enter Tryz.func25, Tryz.ntmps25
    go_wp2
    go_ret
    exact ⟨by rw [HF.out.1]; rfl, HF.out.2, Touch.refl _ _⟩
  have hs' : (s.size : Int) = 64 := by omega
  have hp0 := hp
  obtain ⟨kv, dv, wv, ks, ds, hp⟩ := hp
  obtain ⟨oa, ca, rfl⟩ := hp.kform
  have hhas := none_any B oa _ ca at_ S rfl w hp.c0
  cases hb : hasB S at_
  · rw [hb] at hhas
    have HF : Hid (layE S at_ s = 2 ∧ RefP w F B (layP S at_ s)) := ⟨by simp [layE, hb, hs], by simp [layP, hb]; exact hp0⟩
    clear hp hp0 hb
    go_enter Tryz.func25, Tryz.ntmps25
    go_wp2_with fail
    refine hhas.mono ?_
    rintro e w1 ⟨rfl, rfl⟩
    go_wp2
    go_ret
    exact ⟨by rw [HF.out.1]; rfl, HF.out.2, Touch.refl _ _⟩
  · rw [hb] at hhas
    obtain ⟨h0, h1⟩ := hasB_true hb
    obtain ⟨i, rfl⟩ : ∃ i : Nat, at_ = i := ⟨at_.toNat, by omega⟩
    have hi : i < S.kept.length := by omega
    have hk := rkeep_any B F S i s hi hs w hp0
    have HE : Hid (layE S i s = 0 ∧ layP S i s = { S with kept := S.kept.set i s }) := ⟨by simp [layE, hb, hs], by simp [layP, hb, hs]⟩
    clear hp hp0 hb
    go_enter Tryz.func25, Tryz.ntmps25
    go_wp2_with fail
    refine hhas.mono ?_
    rintro e w2 ⟨rfl, rfl⟩
    clear hhas
    go_wp2_with fail
    refine hk.mono ?_
    rintro e w3 ⟨rfl, h3, h4⟩
    clear hk
    go_wp2
    go_ret
    exact ⟨by rw [HE.out.1]; rfl, by rw [HE.out.2]; exact h3, h4⟩

theorem keptAt_put {f : Nat → Bool} {S : PS} {j a : Nat} {s : ByteArray} (h : S.wait[j]? = some (a, s)) (hf : f j = true) : ({ S with kept := (keptAt f S.wait S.kept j).set a s } : PS) = { S with kept := keptAt f S.wait S.kept (j + 1) } := by rw [keptAt_step h, if_pos hf]
theorem keptAt_not {f : Nat → Bool} {S : PS} {j a : Nat} {s : ByteArray} (h : S.wait[j]? = some (a, s)) (hf : f j = false) : keptAt f S.wait S.kept (j + 1) = keptAt f S.wait S.kept j := by rw [keptAt_step h, hf]; rfl
theorem touch_trans {F : Nat → Prop} {w w1 w2 : World} (h : Touch F w w1) (k : Touch F w1 w2) : Touch F w w2 := h.trans (k.mono fun _ h => .inl h)

end Go.Proofs.YtcmoagphbpjenaaGreatDoor
