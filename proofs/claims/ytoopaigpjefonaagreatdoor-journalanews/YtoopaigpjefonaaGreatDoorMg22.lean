/- The document's Arm, Spoil, keep, Lay, Flush and Start. · Slices that came in: of truth values, of bytes, of a script's steps. · The law PlateOrder, called with any bytes and any truth values, returns true, and changes nothing that was there. · The document's New and Start. -/
import Derived.Test.YtoopaigpjefonaaGreatDoorMg21
import Derived.Test.YtoopaigpjefonaaGreatDoorMg09
import Derived.Deep.Slices
import Derived.WideShapes
import Derived.ProofKit
import Derived.ChangeOld
namespace Go.Proofs.YtoopaigpjefonaaGreatDoor
set_option maxRecDepth 20000
open Go.RowKit

set_option maxHeartbeats 400000 in
theorem rarm_any (B : Nat) (F : Nat → Prop) (S : PS) (n : Int) (hn : n < 9223372036854775808) (w : World) (hp : RefP w F B S) :
    Calls Tryz.prog 26 #[.pointer (some ⟨B, 0, none⟩), .int .i64 n] w fun e w' => e = .returned (.int .i64 (armE S n)) ∧ RefP w' F B (armP S n) ∧ Touch F w w' := by
  by_cases h0 : n < 0
  · have HF : Hid (armE S n = 1 ∧ RefP w F B (armP S n)) := ⟨by simp [armE, h0], by simp only [armP, h0, if_true]; exact hp⟩
    clear hp
    go_enter Tryz.func26, Tryz.ntmps26
    go_wp2
    go_ret
    exact ⟨by rw [HF.out.1]; rfl, HF.out.2, Touch.refl _ _⟩
  have hp0 := hp
  obtain ⟨kv, dv, wv, ks, ds, hp⟩ := hp
  have c4 := hp.c4
  cases hu : S.up
  · rw [hu] at c4
    have HF : Hid (armE S n = 20 ∧ RefP w F B (armP S n)) := ⟨by simp [armE, h0, hu], by simp [armP, h0, hu]; exact hp0⟩
    clear hp hp0 hu
    go_enter Tryz.func26, Tryz.ntmps26
    go_wp2
    go_ret
    exact ⟨by rw [HF.out.1]; rfl, HF.out.2, Touch.refl _ _⟩
  · rw [hu] at c4
    have c3 := hp.c3
    have f3 : w.frozen? ⟨B, 3, none⟩ = false := hp.row.frozen 3
    obtain ⟨w1, hw1⟩ : ∃ w1, w.setCell ⟨B, 3, none⟩ (.int .i64 n) = w1 := ⟨_, rfl⟩
    have HF : Hid (armE S n = 0 ∧ RefP w1 F B (armP S n) ∧ Touch F w w1) := ⟨by simp [armE, h0, hu], by rw [show armP S n = { S with fuse := n } by simp only [armP, h0, if_false, hu, if_true]]; exact ⟨_, _, _, _, _, by rw [← hw1]; exact hp.setFuse n ⟨by omega, hn⟩⟩, by rw [← hw1]; exact (Touch.refl _ _).setCell _ _ _ (.inl hp.fB)⟩
    clear hp hp0 hu
    go_enter Tryz.func26, Tryz.ntmps26
    go_wp2
    go_ret
    exact ⟨by rw [HF.out.1]; rfl, HF.out.2.1, HF.out.2.2⟩

set_option maxHeartbeats 1000000 in
theorem rkeep_any (B : Nat) (F : Nat → Prop) (S : PS) (a : Nat) (s : ByteArray) (ha : a < S.kept.length) (hs : s.size = 64) (w : World) (hp : RefP w F B S) :
    Calls Tryz.prog 77 #[.pointer (some ⟨B, 0, none⟩), .agg #[.int .i64 (a : Nat), .string s]] w fun e w' => e = .returned (.tuple #[]) ∧ RefP w' F B { S with kept := S.kept.set a s } ∧ Touch F w w' := by
  obtain ⟨kv, dv, wv, ks, ds, hp⟩ := hp
  obtain ⟨gk, ck, rfl, _⟩ := owns_some hp.kept (by omega)
  obtain ⟨gd, cd, rfl, _⟩ := owns_some hp.dumb (by omega)
  have hb1 : Below w.heap.size w (w.alloc (.cells #[.int .i64 (a : Nat), .string s] 149)) := (Below.refl _ _).alloc (Nat.le_refl _) _
  have n1 : Row (w.alloc (.cells #[.int .i64 (a : Nat), .string s] 149)) w.heap.size 149 [.int .i64 (a : Nat), .string s] := heap_alloc_new w _
  have hp1 := hp.keep (w' := w.alloc (.cells #[.int .i64 (a : Nat), .string s] 149)) fun k hk _ => hb1.block k hk
  have hgk := owns_lt hp.kept gk rfl
  have hgd := owns_lt hp.dumb gd rfl
  obtain ⟨w1, hw1⟩ : ∃ w1, w.alloc (.cells #[.int .i64 (a : Nat), .string s] 149) = w1 := ⟨_, rfl⟩
  rw [hw1] at hb1 n1 hp1
  obtain ⟨wz, hwz⟩ : ∃ wz, w.heap.size = wz := ⟨_, rfl⟩
  have hne1 : wz ≠ gk := by omega
  have hne2 : wz ≠ gd := by omega
  have hne3 : gd ≠ gk := fun e => hp.kd gk rfl (by rw [← e]; rfl)
  have hBk : B ≠ gk := fun e => hp.kB (by rw [e]; rfl)
  have hBd : B ≠ gd := fun e => hp.dB (by rw [e]; rfl)
  rw [hwz] at n1
  have b0 := hp1.c0
  have b1 := hp1.c1
  have m0 : w1.cell? ⟨wz, 0, none⟩ = some (.int .i64 (a : Nat)) := n1.cell 0
  have m1 : w1.cell? ⟨wz, 1, none⟩ = some (.string s) := n1.cell 1
  obtain ⟨ok, hok⟩ : ∃ ok, w1.cell? ⟨gk, a, none⟩ = some (.string ok) := ⟨_, owns_cell hp1.kept (by rw [List.getElem?_map, List.getElem?_eq_getElem (by rw [hp1.lk]; exact ha)]; rfl)⟩
  have fk : w1.frozen? ⟨gk, a, none⟩ = false := (owns_set hp1.kept (.string s)).2
  have hoff : ∀ v, (w1.setCell ⟨gk, a, none⟩ v).cell? ⟨B, 0, none⟩ = some (.slice (some ⟨gk, 0, none⟩) S.kept.length ck) ∧ (w1.setCell ⟨gk, a, none⟩ v).cell? ⟨wz, 0, none⟩ = some (.int .i64 (a : Nat)) ∧ (w1.setCell ⟨gk, a, none⟩ v).cell? ⟨wz, 1, none⟩ = some (.string s) := fun v => ⟨(hp1.row.off hBk _ _).cell 0, (n1.off hne1 _ _).cell 0, (n1.off hne1 _ _).cell 1⟩
  obtain ⟨w2, hw2⟩ : ∃ w2, (w1.setCell ⟨gk, a, none⟩ (.string s)).drew = w2 := ⟨_, rfl⟩
  have r2 : Row w2 B 82 (refC (.slice (some ⟨gk, 0, none⟩) S.kept.length ck) (.slice (some ⟨gd, 0, none⟩) S.kept.length cd) wv S) := by rw [← hw2]; exact hp1.row.off hBk _ _
  have n2 : Row w2 wz 149 [.int .i64 (a : Nat), .string s] := by rw [← hw2]; exact n1.off hne1 _ _
  have o2 : w2.ownsRow 0 4 1 (.slice (some ⟨gd, 0, none⟩) S.kept.length cd) S.kept.length (ds.map Value.bool) := by rw [← hw2]; exact owns_keep (owns_off hp1.dumb (b := gk) (fun e => hne3 (by cases e; rfl)) a (.string s)) fun _ _ => rfl
  have b0' : w2.cell? ⟨B, 0, none⟩ = some (.slice (some ⟨gk, 0, none⟩) S.kept.length ck) := r2.cell 0
  have m1' : w2.cell? ⟨wz, 1, none⟩ = some (.string s) := n2.cell 1
  have b1' : w2.cell? ⟨B, 1, none⟩ = some (.slice (some ⟨gd, 0, none⟩) S.kept.length cd) := r2.cell 1
  have m0' : w2.cell? ⟨wz, 0, none⟩ = some (.int .i64 (a : Nat)) := n2.cell 0
  obtain ⟨od, hod⟩ : ∃ od, w2.cell? ⟨gd, a, none⟩ = some (.bool od) := ⟨_, owns_cell o2 (by rw [List.getElem?_map, List.getElem?_eq_getElem (by rw [hp1.ld]; exact ha)]; rfl)⟩
  have fd : w2.frozen? ⟨gd, a, none⟩ = false := (owns_set o2 (.bool false)).2
  have hoff2 : ∀ v, (w2.setCell ⟨gd, a, none⟩ v).cell? ⟨B, 1, none⟩ = some (.slice (some ⟨gd, 0, none⟩) S.kept.length cd) ∧ (w2.setCell ⟨gd, a, none⟩ v).cell? ⟨wz, 0, none⟩ = some (.int .i64 (a : Nat)) := fun v => ⟨(r2.off hBd _ _).cell 1, (n2.off hne2 _ _).cell 0⟩
  have HF : Hid (RefP (w2.setCell ⟨gd, a, none⟩ (.bool false)).drew F B { S with kept := S.kept.set a s } ∧ Touch F w (w2.setCell ⟨gd, a, none⟩ (.bool false)).drew) := by
    have hX := hp1.setKept ha hs
    refine ⟨⟨_, _, _, _, _, hX.keep (w' := (w2.setCell ⟨gd, a, none⟩ (.bool false)).drew) fun k _ _ => by rw [← hw2]; rfl⟩, ?_⟩
    rw [← hw2]
    exact (((Touch.of_below hb1).setCell gk a (.string s) (.inl (hp.fK gk rfl))).drew.setCell gd a (.bool false) (.inl (hp.fD gd rfl))).drew
  have ha1 : (a : Int) < S.kept.length := by omega
  clear hp hp1 hb1 n1 r2 n2 o2
  go_enter Tryz.func77, Tryz.ntmps77
  go_wp2_with fail
  go_region_held3 (fun w' => w'.cell? ⟨B, 0, none⟩ = some (.slice (some ⟨gk, 0, none⟩) S.kept.length ck) ∧ w'.cell? ⟨wz, 0, none⟩ = some (.int .i64 (a : Nat)) ∧ w'.cell? ⟨wz, 1, none⟩ = some (.string s)) (first | exact hoff _ | exact ⟨b0, m0, m1⟩ | exact ⟨b0', m0', m1'⟩ | simp [go_sem, *]) (fail)
  try rw [hw2]
  go_wp2_with fail
  go_region_held3 (fun w' => w'.cell? ⟨B, 1, none⟩ = some (.slice (some ⟨gd, 0, none⟩) S.kept.length cd) ∧ w'.cell? ⟨wz, 0, none⟩ = some (.int .i64 (a : Nat))) (first | exact hoff2 _ | exact ⟨b1', m0'⟩ | simp [go_sem, *]) (fail)
  go_wp2
  go_end0
  exact ⟨rfl, HF.out.1, HF.out.2⟩

theorem keptAt_put {f : Nat → Bool} {S : PS} {j a : Nat} {s : ByteArray} (h : S.wait[j]? = some (a, s)) (hf : f j = true) : ({ S with kept := (keptAt f S.wait S.kept j).set a s } : PS) = { S with kept := keptAt f S.wait S.kept (j + 1) } := by rw [keptAt_step h, if_pos hf]
theorem keptAt_not {f : Nat → Bool} {S : PS} {j a : Nat} {s : ByteArray} (h : S.wait[j]? = some (a, s)) (hf : f j = false) : keptAt f S.wait S.kept (j + 1) = keptAt f S.wait S.kept j := by rw [keptAt_step h, hf]; rfl
theorem touch_trans {F : Nat → Prop} {w w1 w2 : World} (h : Touch F w w1) (k : Touch F w1 w2) : Touch F w w2 := h.trans (k.mono fun _ h => .inl h)

set_option maxHeartbeats 1000000 in
theorem rflush_any (B : Nat) (F : Nat → Prop) (S : PS) (w : World) (hp : RefP w F B S) (hw : S.wait.length ≤ 1000000) :
    Calls Tryz.prog 72 #[.pointer (some ⟨B, 0, none⟩)] w fun e w' => e = .returned (.int .i64 (flushE S)) ∧ RefP w' F B (flushP S) ∧ Touch F w w' := by
  have hp0 := hp
  obtain ⟨kv, dv, wv, ks, ds, hp⟩ := hp
  have c4 := hp.c4
  have hats := hp.ats
  cases hu : S.up
  · rw [hu] at c4
    have HF : Hid (flushE S = 20 ∧ RefP w F B (flushP S)) := ⟨by simp [flushE, hu], by simp only [flushP, hu]; exact hp0⟩
    clear hp hp0 hu
    go_enter Tryz.func72, Tryz.ntmps72
    go_wp2
    go_ret
    exact ⟨by rw [HF.out.1]; rfl, HF.out.2, Touch.refl _ _⟩
  rw [hu] at c4
  have HE : Hid (flushE S = 0 ∧ flushP S = settleP (fun _ => true) S) := ⟨by simp [flushE, hu], by simp only [flushP, hu, if_true]⟩
  have HA : Hid (∀ p ∈ S.wait, p.1 < S.kept.length ∧ p.2.size = 64) := hats
  have HP : Hid (RefP w F B { S with kept := keptAt (fun _ => true) S.wait S.kept 0 }) := hp0
  clear hp hp0 hu hats
  go_enter Tryz.func72, Tryz.ntmps72
  go_wp2_with fail
  go_loopw [3] (fun v wr => ∃ j : Nat, j ≤ S.wait.length ∧ v = .int .i64 j ∧ RefP wr F B { S with kept := keptAt (fun _ => true) S.wait S.kept j } ∧ Touch F w wr) (fun v _ => S.wait.length - (intOf v).toNat)
  case atStart => exact ⟨0, Nat.zero_le _, rfl, HP.out, Touch.refl _ _⟩
  case round =>
    clear HP c4
    obtain ⟨j, hj, rfl, hp, hT⟩ := hrel
    have hp0 := hp
    obtain ⟨kv, dv, wv, ks, ds, hp⟩ := hp
    obtain ⟨ob, cb, hwf⟩ := hp.wform
    have hwf' : wv = .slice ob S.wait.length cb := hwf
    subst hwf'
    have c2 : wr.cell? ⟨B, 2, none⟩ = some (.slice ob S.wait.length cb) := hp.c2
    by_cases hlt : j < S.wait.length
    · have j1 : (j : Int) < (S.wait.length : Nat) := by omega
      obtain ⟨a, s, hjs⟩ : ∃ a s, S.wait[j]? = some (a, s) := ⟨S.wait[j].1, S.wait[j].2, List.getElem?_eq_getElem hlt⟩
      obtain ⟨g, cap', hwv, hgc, hcells⟩ := owns_form hp.wait (by show 0 < S.wait.length; omega)
      obtain ⟨rfl, rfl⟩ : ob = some ⟨g, 0, none⟩ ∧ cb = cap' := by cases hwv; exact ⟨rfl, rfl⟩
      have k0 := hcells _ _ (waitC_get S.wait j a s hjs).1
      have k1 := hcells _ _ (waitC_get S.wait j a s hjs).2
      obtain ⟨ha, hs⟩ := HA.out (a, s) (List.mem_of_getElem? hjs)
      have hk := rkeep_any B F _ a s (by show a < (keptAt _ _ _ _).length; rw [keptAt_length]; exact ha) hs wr hp0
      have hk' := (keptAt_put (f := fun _ => true) (S := S) hjs rfl)
      rw [hk'] at hk
      have HT : Hid (Touch F w wr) := hT
      clear hp hp0 hT hcells hjs hwv hwf hk' ha hs
      go_wp2_with fail
      refine hk.mono ?_
      rintro e w3 ⟨rfl, h3, h4⟩
      clear hk
      have HF : Hid (RefP w3 F B { S with kept := keptAt (fun _ => true) S.wait S.kept (j + 1) } ∧ Touch F w w3) := ⟨h3, touch_trans HT.out h4⟩
      clear h3 h4
      go_wp2
      go_roundw
      case rel => exact ⟨j + 1, by omega, by go_num, HF.out.1, HF.out.2⟩
      case measure => simp [intOf]; omega
    · obtain rfl : j = S.wait.length := by omega
      have f2 : wr.frozen? ⟨B, 2, none⟩ = false := hp.row.frozen 2
      obtain ⟨w5, hw5⟩ : ∃ w5, wr.setCell ⟨B, 2, none⟩ (.slice none 0 0) = w5 := ⟨_, rfl⟩
      have HF : Hid (RefP w5 F B (settleP (fun _ => true) S) ∧ Touch F w w5) := ⟨⟨_, _, _, _, _, by rw [← hw5]; exact hp.setNone⟩, by rw [← hw5]; exact hT.setCell _ _ _ (.inl hp.fB)⟩
      clear hp hp0 hT
      go_wp2
      go_ret
      exact ⟨by rw [HE.out.1]; rfl, by rw [HE.out.2]; exact HF.out.1, HF.out.2⟩
end Go.Proofs.YtoopaigpjefonaaGreatDoor

namespace Go.Proofs.YtoopaigpjefonaaGreatDoor
set_option maxRecDepth 20000
open Go.ChangeShapes Go.WideShapes Go.RowKit Go.Deep

section
variable {H : Type} {enc : TypeId × Value → H} {W : World}
theorem bools_of_cells {fuel : Nat} {cs : List Value} {x : DataW H × List MemPlace} (h : DataW.trod enc Tryz.prog W 0 (fun _ => true) true fuel 24 cs = some x) : ∃ v l, cs = [v] ∧ Bools W (fun k => W.heap.size ≤ k) v l := by
  have hlt := DataW.trod_lt fuel _ _ _ h
  rcases open_slice1 Tryz.underlying24 (show Tryz.prog.cellsOf 4 = 1 by kernel_rfl) h with ⟨rfl, rfl⟩ | ⟨a, len, cap, m, n, V, D, Pl, rfl, _, hl, hm, hmm, rfl, hx⟩
  · exact ⟨_, [], rfl, .inl ⟨none, 0, rfl, rfl⟩⟩
  · simp only [if_true] at hmm
    by_cases h0 : len = 0
    · subst h0; exact ⟨_, [], rfl, .inl ⟨_, _, rfl, rfl⟩⟩
    have hV : ∀ i, i < len → ∃ b, W.cell? (a.add i) = some (.bool b) := fun i hi => by
      obtain ⟨h1, h2⟩ := hx i (by omega)
      obtain ⟨b, hb, _⟩ := DataW.trod_bool Tryz.underlying4 h2
      simp only [List.cons.injEq, and_true] at hb
      exact ⟨b, by rw [h1, hb]⟩
    obtain ⟨f, hf⟩ := choose_lt hV
    obtain ⟨b, off, spot⟩ := a
    have hspot : spot = none := by simpa [Addr.add] using World.cell?_spot (hf 0 (by omega))
    subst hspot
    have hbW : b < W.heap.size := hlt (.cell b off) (List.mem_append_left _ (MemPlace.mem_row.2 ⟨0, by omega, by simp⟩))
    refine ⟨_, (List.range len).map f, rfl, .inr ⟨b, off, cap, by simp, hbW, Nat.not_le.2 hbW, fun i u hu => ?_⟩⟩
    rw [List.getElem?_map] at hu
    have hi : i < len := by
      by_cases hi : i < len
      · exact hi
      · rw [List.getElem?_eq_none (by simp; omega)] at hu; cases hu
    rw [List.getElem?_range hi] at hu
    simp only [Option.map_some, Option.some.injEq] at hu
    rw [← hu, ← add_plain]
    exact hf i hi
theorem bools_of_trod {v : Value} {d : DataW H} {p : List MemPlace} {base : Nat} (hok : Value.okWide Tryz.prog W .any base 24 v) (h : DataW.Trod enc Tryz.prog W 0 (fun _ => true) true 24 v d p) : ∃ l, Bools W (fun k => W.heap.size ≤ k) v l := by
  obtain ⟨a0, len, cap, rfl⟩ := okWide_slice Tryz.underlying24 hok
  obtain ⟨fuel, hf⟩ := h
  obtain ⟨v', l, e, hb⟩ := bools_of_cells hf
  have e2 : .slice a0 len cap = v' := by simpa [Value.cells] using e
  subst e2
  exact ⟨l, hb⟩

/-- A list of bytes that came in. -/
def Nums8 (w : World) (v : Value) (l : List Nat) : Prop := (∃ oa cap, v = .slice oa 0 cap ∧ l = []) ∨ ∃ g o cap, v = .slice (some ⟨g, o, none⟩) l.length cap ∧ g < w.heap.size ∧ ∀ i x, l[i]? = some x → w.cell? ⟨g, o + i, none⟩ = some (.int .u8 (x : Nat))
theorem nums_of_trod {v : Value} {d : DataW H} {p : List MemPlace} {base : Nat} (hok : Value.okWide Tryz.prog W .any base 143 v) (h : DataW.Trod enc Tryz.prog W 0 (fun _ => true) true 143 v d p) : ∃ l, Nums8 W v l := by
  obtain ⟨a0, len, cap, rfl⟩ := okWide_slice Tryz.underlying143 hok
  obtain ⟨fuel, hf⟩ := h
  have hlt := DataW.trod_lt fuel _ _ _ hf
  rcases open_slice1 Tryz.underlying143 (show Tryz.prog.cellsOf 5 = 1 by kernel_rfl) hf with ⟨hcs, hx⟩ | ⟨a, len', cap', m, n, V, D, Pl, hcs, _, hl, hm, hmm, hx0, hx⟩
  · simp [Value.cells] at hcs
    obtain ⟨rfl, rfl, rfl⟩ := hcs
    exact ⟨[], .inl ⟨none, 0, rfl, rfl⟩⟩
  · simp [Value.cells] at hcs
    obtain ⟨rfl, rfl, rfl⟩ := hcs
    simp only [if_true] at hmm
    by_cases h0 : len = 0
    · subst h0; exact ⟨[], .inl ⟨_, _, rfl, rfl⟩⟩
    have hV : ∀ i, i < len → ∃ b : Nat, W.cell? (a.add i) = some (.int .u8 (b : Nat)) := fun i hi => by
      obtain ⟨h1, h2⟩ := hx i (by omega)
      obtain ⟨b, hb, _, hw⟩ := DataW.trod_int Tryz.underlying5 h2
      simp only [List.cons.injEq, and_true] at hb
      have hb0 : 0 ≤ b := by simp [Lit.wf, IntKind.min, IntKind.max, IntKind.signed, IntKind.bits] at hw; omega
      exact ⟨b.toNat, by rw [h1, hb, Int.toNat_of_nonneg hb0]⟩
    obtain ⟨f, hf⟩ := choose_lt hV
    obtain ⟨b, off, spot⟩ := a
    have hspot : spot = none := by simpa [Addr.add] using World.cell?_spot (hf 0 (by omega))
    subst hspot
    have hbW : b < W.heap.size := hlt (.cell b off) (by rw [hx0]; exact List.mem_append_left _ (MemPlace.mem_row.2 ⟨0, by omega, by simp⟩))
    refine ⟨(List.range len).map f, .inr ⟨b, off, cap, by simp, hbW, fun i u hu => ?_⟩⟩
    rw [List.getElem?_map] at hu
    have hi : i < len := by
      by_cases hi : i < len
      · exact hi
      · rw [List.getElem?_eq_none (by simp; omega)] at hu; cases hu
    rw [List.getElem?_range hi] at hu
    simp only [Option.map_some, Option.some.injEq] at hu
    rw [← hu, ← add_plain]
    exact hf i hi
end
end Go.Proofs.YtoopaigpjefonaaGreatDoor

namespace Go.Proofs.YtoopaigpjefonaaGreatDoor
set_option maxRecDepth 20000
open Go.RowKit

theorem rep_get (v : Value) (n i : Nat) (h : i < n) : (List.replicate n v)[i]? = some v := by simp [h]
theorem rep_getD (n i : Nat) (h : i < n) : ((List.replicate n 0).map fun (x : Nat) => (x : Int)).getD i 0 = 0 := by
  rw [List.getD_eq_getElem?_getD, List.getElem?_map, List.getElem?_replicate, if_pos h]; rfl

set_option maxHeartbeats 400000 in
theorem blank_any (w : World) : Calls Tryz.prog 47 #[] w fun e w' => e = .returned (.string (fillS 0 64)) ∧ Below w.heap.size w w' := by
  have hm : ∀ w, (Instr.makeSlice 143 (.int .i64 64) (.int .i64 64)).run Tryz.prog w = .ok (.slice (some ⟨w.heap.size, 0, none⟩) 64 64) (w.alloc (.cells (madeCells #[.int .u8 0] 64) 5)) := run_make_row' (P := Tryz.prog) 143 5 (.int .u8 0) 1 Tryz.underlying143 info_u8 rfl .i64 .i64 64 (by omega) (by omega)
  have hr : Row (w.alloc (.cells (madeCells #[.int .u8 0] 64) 5)) w.heap.size 5 (List.replicate 64 (.int .u8 0)) := made_row (heap_alloc_new w _)
  have hb := (Below.refl w.heap.size w).alloc (Nat.le_refl _) (.cells (madeCells #[.int .u8 0] 64) 5)
  obtain ⟨ms, hms⟩ : ∃ ms, madeCells #[.int .u8 0] 64 = ms := ⟨_, rfl⟩
  rw [hms] at hr hb
  simp only [hms] at hm
  clear hms
  obtain ⟨w0, hw0⟩ : ∃ w0, w.alloc (.cells ms 5) = w0 := ⟨_, rfl⟩
  rw [hw0] at hr hb
  have hcv := run_convert_bytes_arg (P := Tryz.prog) w0 143 5 Tryz.underlying143 Tryz.underlying5 w.heap.size 0 64 64 ((List.replicate 64 0).map fun (x : Nat) => (x : Int)) (by simp) (fun i hi => by
    rw [Nat.zero_add, hr.cell, rep_get _ _ _ hi, rep_getD _ _ hi]) 9 Tryz.underlying9
  rw [← fillS_num] at hcv
  have HF : Hid (Below w.heap.size w w0) := hb
  clear hr hb
  obtain ⟨X, hX⟩ : ∃ X, X = fillS 0 64 := ⟨_, rfl⟩
  rw [← hX] at hcv
  have HX : Hid (X = fillS 0 64) := hX
  clear hX
  go_enter Tryz.func47, Tryz.ntmps47
  go_wp2
  first
    | (rw [hcv]; go_wp2)
    | skip
  go_ret
  exact ⟨by rw [← HX.out]; rfl, HF.out⟩

/-- Behind j writes, and what the sector must say then. -/
def orderS (l : List Nat) (j : Nat) : PS := ⟨[fillS 0 64], (List.range j).map fun i => (0, fillS (l.getD i 0) 64), -1, true, 0, (j : Nat)⟩
def wantS (l : List Nat) (k : List Bool) : Nat → ByteArray
  | 0 => fillS 0 64
  | j + 1 => if lastsB k j = true then fillS (l.getD j 0) 64 else wantS l k j
theorem wantS_size (l : List Nat) (k : List Bool) : ∀ j, (wantS l k j).size = 64
  | 0 => fillS_size _ _
  | j + 1 => by
    simp only [wantS]
    split
    · exact fillS_size _ _
    · exact wantS_size l k j
theorem orderS_wait (l : List Nat) (j : Nat) : (orderS l j).wait.length = j := by simp [orderS]
theorem orderS_step (l : List Nat) (j : Nat) (hj : j < 60) : writeP (orderS l j) 0 (fillS (l.getD j 0) 64) = orderS l (j + 1) := by
  have hb : hasB (orderS l j) 0 = true := by simp [hasB, orderS]
  have hf1 : (orderS l j).fuse = -1 := rfl
  have hu : (orderS l j).up = true := rfl
  have hw : wrap64 ((orderS l j).writes + 1) = ((j + 1 : Nat) : Int) := by simp only [orderS, wrap64]; omega
  simp only [writeP, fillS_size, hu, hb, hf1, if_true, hw]
  simp only [orderS, List.range_succ, List.map_append, List.map_cons, List.map_nil]
  rfl
theorem order_kept (l : List Nat) (k : List Bool) (J : Nat) : ∀ j, j ≤ J → keptAt (lastsB k) (orderS l J).wait [fillS 0 64] j = [wantS l k j]
  | 0, _ => rfl
  | j + 1, hj => by
    have ih := order_kept l k J j (by omega)
    have hw : (orderS l J).wait[j]? = some (0, fillS (l.getD j 0) 64) := by
      show ((List.range J).map _)[j]? = _
      rw [List.getElem?_map, List.getElem?_range (by omega)]
      rfl
    rw [keptAt_step hw, ih, wantS]
    split <;> rfl
theorem order_end (l : List Nat) (k : List Bool) (J : Nat) : readS (startP k (orderS l J)) 0 = wantS l k J ∧ readE (startP k (orderS l J)) 0 = 0 ∧ (startP k (orderS l J)).wait.length = 0 := by
  have e : startP k (orderS l J) = ⟨[wantS l k J], [], -1, true, 0, (J : Nat)⟩ := by
    have h1 := order_kept l k J J (Nat.le_refl _)
    have h2 : (orderS l J).kept = [fillS 0 64] := rfl
    simp only [startP, settleP, orderS_wait, h2, h1]
    rfl
  rw [e]
  refine ⟨by simp [readS, hasB, textOf, textR, heldS, keptS], by simp [readE, hasB, textOf, textR, heldE, keptS, wantS_size], rfl⟩

end Go.Proofs.YtoopaigpjefonaaGreatDoor

namespace Go.Proofs.YtoopaigpjefonaaGreatDoor
set_option maxRecDepth 20000
open Go.RowKit

theorem keptAt_tail {f : Nat → Bool} {wait : List (Nat × ByteArray)} {kept : List ByteArray} {M : Nat} (h : ∀ j, M ≤ j → f j = false) : ∀ d, keptAt f wait kept (M + d) = keptAt f wait kept M
  | 0 => rfl
  | d + 1 => by
    rw [show M + (d + 1) = (M + d) + 1 by omega]
    cases hj : wait[M + d]? with
    | none => simp only [keptAt, hj]; exact keptAt_tail h d
    | some p =>
      simp only [keptAt, hj, h (M + d) (by omega)]
      exact keptAt_tail h d
theorem lastsB_beyond (l : List Bool) (j : Nat) (h : l.length ≤ j) : lastsB l j = false := by rw [lastsB, List.getD_eq_getElem?_getD, List.getElem?_eq_none h]; rfl

set_option maxRecDepth 10000 in
set_option maxHeartbeats 2000000 in
theorem rstart_any (B : Nat) (F : Nat → Prop) (S : PS) (kv0 : Value) (l : List Bool) (w : World) (hp : RefP w F B S) (hw : S.wait.length ≤ 1000000) (hk : Bools w F kv0 l) :
    Calls Tryz.prog 45 #[.pointer (some ⟨B, 0, none⟩), kv0] w fun e w' => e = .returned (.tuple #[]) ∧ RefP w' F B (startP l S) ∧ Touch F w w' := by
  have hkf : ∃ oa cap, kv0 = .slice oa l.length cap := by
    rcases hk with ⟨oa, cap, rfl, rfl⟩ | ⟨g, o, cap, rfl, _⟩
    · exact ⟨_, _, rfl⟩
    · exact ⟨_, _, rfl⟩
  obtain ⟨ok, cpk, rfl⟩ := hkf
  have HA : Hid (∀ p ∈ S.wait, p.1 < S.kept.length ∧ p.2.size = 64) := by
    obtain ⟨kv, dv, wv, ks, ds, hp⟩ := hp
    exact hp.ats
  have HP : Hid (RefP w F B { S with kept := keptAt (lastsB l) S.wait S.kept 0 }) := hp
  have HK : Hid (Bools w F (.slice ok l.length cpk) l) := hk
  obtain ⟨M, hM, hcase, hend⟩ : ∃ M, (M ≤ S.wait.length ∧ M ≤ l.length) ∧ ((¬ (M : Int) < (S.wait.length : Nat)) ∨ ((M : Int) < (S.wait.length : Nat) ∧ ¬ (M : Int) < (l.length : Nat))) ∧ keptAt (lastsB l) S.wait S.kept S.wait.length = keptAt (lastsB l) S.wait S.kept M := by
    refine ⟨min S.wait.length l.length, by omega, by omega, ?_⟩
    by_cases h : S.wait.length ≤ l.length
    · rw [Nat.min_eq_left h]
    · rw [Nat.min_eq_right (by omega)]
      have := keptAt_tail (wait := S.wait) (kept := S.kept) (lastsB_beyond l) (S.wait.length - l.length)
      rw [show l.length + (S.wait.length - l.length) = S.wait.length by omega] at this
      exact this
  have HE : Hid (startP l S = { S with kept := keptAt (lastsB l) S.wait S.kept M, wait := [], fuse := -1, up := true }) := by
    show startP l S = _
    simp only [startP, settleP, hend]
  clear hp hk hend
  rcases hcase with hcs | ⟨hcs, hcs2⟩
  all_goals
    go_enter Tryz.func45, Tryz.ntmps45
    go_wp2_with fail
    go_loopw [4] (fun v wr => ∃ j : Nat, j ≤ M ∧ v = .int .i64 j ∧ RefP wr F B { S with kept := keptAt (lastsB l) S.wait S.kept j } ∧ Touch F w wr) (fun v _ => M - (intOf v).toNat)
    case atStart => exact ⟨0, Nat.zero_le _, rfl, HP.out, Touch.refl _ _⟩
    case round =>
      clear HP
      obtain ⟨j, hj, rfl, hp, hT⟩ := hrel
      have hp0 := hp
      obtain ⟨kv, dv, wv, ks, ds, hp⟩ := hp
      obtain ⟨ob, cb, hwf⟩ := hp.wform
      have hwf' : wv = .slice ob S.wait.length cb := hwf
      subst hwf'
      have c2 : wr.cell? ⟨B, 2, none⟩ = some (.slice ob S.wait.length cb) := hp.c2
      by_cases hlt : j < M
      · have j1 : (j : Int) < (S.wait.length : Nat) := by omega
        have j2 : (j : Int) < (l.length : Nat) := by omega
        obtain ⟨a, s, hjs⟩ : ∃ a s, S.wait[j]? = some (a, s) := ⟨(S.wait[j]'(by omega)).1, (S.wait[j]'(by omega)).2, List.getElem?_eq_getElem (by omega)⟩
        obtain ⟨b, hb⟩ : ∃ b, l[j]? = some b := ⟨l[j]'(by omega), List.getElem?_eq_getElem (by omega)⟩
        have hbd : lastsB l j = b := by rw [lastsB, List.getD_eq_getElem?_getD, hb]; rfl
        have hkw := HK.out.touch hT
        obtain ⟨g2, o2, cb2, hv2, hc2⟩ : ∃ g o cb', (Value.slice ok l.length cpk) = .slice (some ⟨g, o, none⟩) l.length cb' ∧ ∀ i b, l[i]? = some b → wr.cell? ⟨g, o + i, none⟩ = some (.bool b) := by
          rcases hkw with ⟨oa', cap, e, e2⟩ | ⟨g, o, cap, e, h1, _, h2⟩
          · exact absurd hlt (by have : l.length = 0 := by rw [e2]; rfl
                                 omega)
          · exact ⟨g, o, cap, e, h2⟩
        obtain ⟨rfl, rfl⟩ : ok = some ⟨g2, o2, none⟩ ∧ cpk = cb2 := by cases hv2; exact ⟨rfl, rfl⟩
        have c3 := hc2 j b hb
        obtain ⟨g, cap', hwv, hgc, hcells⟩ := owns_form hp.wait (by show 0 < S.wait.length; omega)
        obtain ⟨rfl, rfl⟩ : ob = some ⟨g, 0, none⟩ ∧ cb = cap' := by cases hwv; exact ⟨rfl, rfl⟩
        have k0 := hcells _ _ (waitC_get S.wait j a s hjs).1
        have k1 := hcells _ _ (waitC_get S.wait j a s hjs).2
        obtain ⟨ha, hs⟩ := HA.out (a, s) (List.mem_of_getElem? hjs)
        clear hkw hc2 hv2 hb hcells hwv hwf
        cases b
        · have HF : Hid (RefP wr F B { S with kept := keptAt (lastsB l) S.wait S.kept (j + 1) } ∧ Touch F w wr) := ⟨by rw [keptAt_not hjs hbd]; exact hp0, hT⟩
          clear hp hp0 hT hjs hbd ha hs
          go_wp2
          go_roundw
          case rel => exact ⟨j + 1, by omega, by go_num, HF.out.1, HF.out.2⟩
          case measure => simp [intOf]; omega
        · have hk := rkeep_any B F _ a s (by show a < (keptAt _ _ _ _).length; rw [keptAt_length]; exact ha) hs wr hp0
          rw [keptAt_put (f := lastsB l) (S := S) hjs hbd] at hk
          have HT : Hid (Touch F w wr) := hT
          clear hp hp0 hT hjs hbd ha hs
          go_wp2_with fail
          refine hk.mono ?_
          rintro e w3 ⟨rfl, h3, h4⟩
          clear hk
          have HF : Hid (RefP w3 F B { S with kept := keptAt (lastsB l) S.wait S.kept (j + 1) } ∧ Touch F w w3) := ⟨h3, touch_trans HT.out h4⟩
          clear h3 h4
          go_wp2
          go_roundw
          case rel => exact ⟨j + 1, by omega, by go_num, HF.out.1, HF.out.2⟩
          case measure => simp [intOf]; omega
      · obtain rfl : j = M := by omega
        have f2 : wr.frozen? ⟨B, 2, none⟩ = false := hp.row.frozen 2
        have h5 := hp.setNone
        have t5 := hT.setCell B 2 (.slice none 0 0) (.inl hp.fB)
        obtain ⟨w5, hw5⟩ : ∃ w5, wr.setCell ⟨B, 2, none⟩ (.slice none 0 0) = w5 := ⟨_, rfl⟩
        rw [hw5] at h5 t5
        have c3 := h5.c3
        have f3 : w5.frozen? ⟨B, 3, none⟩ = false := h5.row.frozen 3
        have h6 := h5.setFuse (-1) (by omega)
        have t6 := t5.setCell B 3 (.int .i64 (-1)) (.inl hp.fB)
        obtain ⟨w6, hw6⟩ : ∃ w6, w5.setCell ⟨B, 3, none⟩ (.int .i64 (-1)) = w6 := ⟨_, rfl⟩
        rw [hw6] at h6 t6
        have c4 := h6.c4
        have f4 : w6.frozen? ⟨B, 4, none⟩ = false := h6.row.frozen 4
        have h7 := h6.setUp true
        have t7 := t6.setCell B 4 (.bool false) (.inl hp.fB)
        obtain ⟨w7, hw7⟩ : ∃ w7, w6.setCell ⟨B, 4, none⟩ (.bool false) = w7 := ⟨_, rfl⟩
        have h7' : RefAt (w6.setCell ⟨B, 4, none⟩ (.bool false)) _ _ _ _ _ _ _ _ := h7
        rw [hw7] at h7' t7
        have HF : Hid (RefP w7 F B (startP l S) ∧ Touch F w w7) := ⟨by rw [HE.out]; exact ⟨_, _, _, _, _, h7'⟩, t7⟩
        clear hp hp0 hT h5 h6 h7 h7' t5 t6 t7
        go_wp2
        go_end0
        exact ⟨rfl, HF.out.1, HF.out.2⟩

/-- A device in the making: n sectors have texts, m have notes. -/
structure NewMid (base : Nat) (w : World) (B : Nat) (kv dv : Value) (n m : Nat) : Prop where
  row : Row w B 82 [kv, dv, .slice none 0 0, .int .i64 (-1), .bool false, .int .i64 0, .int .i64 0]
  kept : w.ownsRow 0 9 1 kv n (List.replicate n (.string (fillS 0 64)))
  dumb : w.ownsRow 0 4 1 dv m (List.replicate m (.bool false))
  low : base ≤ B
  fK : ∀ g, kv.ownBlock = some g → base ≤ g
  fD : ∀ g, dv.ownBlock = some g → base ≤ g
  kB : Apart kv B
  dB : Apart dv B
  kd : Apart2 kv dv
theorem NewMid.keep {base : Nat} {w w' : World} {B n m : Nat} {kv dv : Value} (h : NewMid base w B kv dv n m) (hb : ∀ k, k < w.heap.size → w'.heap[k]? = w.heap[k]?) : NewMid base w' B kv dv n m :=
  { h with row := (hb B h.row.lt).trans h.row, kept := owns_keep h.kept fun g hg => hb g (owns_lt h.kept g hg), dumb := owns_keep h.dumb fun g hg => hb g (owns_lt h.dumb g hg) }
theorem NewMid.growK {base : Nat} {w w' : World} {B n m : Nat} {kv dv v' : Value} (h : NewMid base w B kv dv n m) (hbase : base ≤ w.heap.size) (hown : w'.ownsRow 0 9 1 v' (n + 1) (List.replicate n (.string (fillS 0 64)) ++ [.string (fillS 0 64)])) (hg : w.grownBy w' kv.ownBlock) (hat : v'.ownBlock = kv.ownBlock ∨ v'.ownBlock = some w.heap.size) :
    w'.cell? ⟨B, 0, none⟩ = some kv ∧ w'.frozen? ⟨B, 0, none⟩ = false ∧ NewMid base (w'.setCell ⟨B, 0, none⟩ v') B v' dv (n + 1) m := by
  have hB := h.row.lt
  have r1 : Row w' B _ _ := (hg.block B h.row.lt (fun e => h.kB e.symm)).trans h.row
  have r3 := owns_keep (w' := w') h.dumb fun g hg' => hg.block g (owns_lt h.dumb g hg') (fun e => h.kd g e.symm hg')
  have nB : Apart v' B := by
    rcases hat with e | e
    · unfold Apart; rw [e]; exact h.kB
    · unfold Apart; rw [e]; intro e2; cases e2; omega
  have nD : Apart2 v' dv := fun g hg' e2 => by
    rcases hat with e | e
    · exact h.kd g (by rw [← e]; exact hg') e2
    · rw [e] at hg'; cases hg'; have := owns_lt h.dumb _ e2; omega
  refine ⟨r1.cell 0, r1.frozen 0, r1.setL 0 v', ?_, owns_off r3 h.dB _ _, h.low, fun g hg' => ?_, h.fD, nB, h.dB, nD⟩
  · have := owns_off hown nB 0 v'
    rw [← List.replicate_succ'] at this
    exact this
  · rcases hat with e | e
    · exact h.fK g (by rw [← e]; exact hg')
    · rw [e] at hg'; cases hg'; exact hbase
theorem NewMid.growD {base : Nat} {w w' : World} {B n m : Nat} {kv dv v' : Value} (h : NewMid base w B kv dv n m) (hbase : base ≤ w.heap.size) (hown : w'.ownsRow 0 4 1 v' (m + 1) (List.replicate m (.bool false) ++ [.bool false])) (hg : w.grownBy w' dv.ownBlock) (hat : v'.ownBlock = dv.ownBlock ∨ v'.ownBlock = some w.heap.size) :
    w'.cell? ⟨B, 1, none⟩ = some dv ∧ w'.frozen? ⟨B, 1, none⟩ = false ∧ NewMid base (w'.setCell ⟨B, 1, none⟩ v') B kv v' n (m + 1) := by
  have hB := h.row.lt
  have r1 : Row w' B _ _ := (hg.block B h.row.lt (fun e => h.dB e.symm)).trans h.row
  have r3 := owns_keep (w' := w') h.kept fun g hg' => hg.block g (owns_lt h.kept g hg') (fun e => h.kd g hg' e.symm)
  have nB : Apart v' B := by
    rcases hat with e | e
    · unfold Apart; rw [e]; exact h.dB
    · unfold Apart; rw [e]; intro e2; cases e2; omega
  have nD : Apart2 kv v' := fun g hg' e2 => by
    rcases hat with e | e
    · exact h.kd g hg' (by rw [← e]; exact e2)
    · rw [e] at e2; cases e2; have := owns_lt h.kept _ hg'; omega
  refine ⟨r1.cell 1, r1.frozen 1, r1.setL 1 v', owns_off r3 h.kB _ _, ?_, h.low, h.fK, fun g hg' => ?_, h.kB, nB, nD⟩
  · have := owns_off hown nB 1 v'
    rw [← List.replicate_succ'] at this
    exact this
  · rcases hat with e | e
    · exact h.fD g (by rw [← e]; exact hg')
    · rw [e] at hg'; cases hg'; exact hbase
theorem NewMid.done {base : Nat} {w : World} {B n : Nat} {kv dv : Value} (h : NewMid base w B kv dv n n) (hn : n ≤ 32768) : RefP w (fun k => base ≤ k ∧ k < w.heap.size) B (newP n) := by
  have hl : (newP n).kept.length = n := by simp [newP]
  refine ⟨kv, dv, .slice none 0 0, List.replicate n (fillS 0 64), List.replicate n false, h.row, ?_, ?_, World.ownsRow_nil _ _ _ _, ⟨h.low, h.row.lt⟩, fun g hg => ⟨h.fK g hg, owns_lt h.kept g hg⟩, fun g hg => ⟨h.fD g hg, owns_lt h.dumb g hg⟩, fun g hg => (by cases hg), h.kB, h.dB, by simp [Apart, Value.ownBlock], h.kd, fun g _ => by simp [Value.ownBlock], fun g _ => by simp [Value.ownBlock], by rw [hl]; exact hn, by simp [newP], fun i hi => ?_, fun s hs => ?_, by simp [newP]⟩
  · rw [hl, List.map_replicate]; exact h.kept
  · rw [hl, List.map_replicate]; exact h.dumb
  · rw [hl] at hi
    simp [newP, hi]
  · rw [(List.mem_replicate.1 hs).2, fillS_size]

set_option maxHeartbeats 400000 in
theorem rnew_bad (n : Int) (hn : n < 0 ∨ 32768 < n) (w : World) :
    Calls Tryz.prog 16 #[.int .i64 n] w fun e w' => e = .returned (.tuple #[.pointer none, .int .i64 1]) ∧ w' = w := by
  rcases hn with h | h
  · go_enter Tryz.func16, Tryz.ntmps16
    go_wp2
    go_ret2
    exact ⟨rfl, rfl⟩
  · obtain ⟨m, rfl⟩ : ∃ m : Nat, n = m := ⟨n.toNat, by omega⟩
    go_enter Tryz.func16, Tryz.ntmps16
    go_wp2
    go_ret2
    exact ⟨rfl, rfl⟩

set_option maxRecDepth 10000 in
set_option maxHeartbeats 2000000 in
theorem rnew_any (n : Nat) (hn : n ≤ 32768) (w : World) :
    Calls Tryz.prog 16 #[.int .i64 n] w fun e w' => ∃ B, e = .returned (.tuple #[.pointer (some ⟨B, 0, none⟩), .int .i64 0]) ∧ RefP w' (fun k => w.heap.size ≤ k ∧ k < w'.heap.size) B (newP n) ∧ Below w.heap.size w w' := by
  have i0 : ¬ (n : Int) < 0 := by omega
  have i1 : ¬ (32768 : Int) < n := by omega
  obtain ⟨q0, hq, hz0, hz1, hz2⟩ := info_parts info_string
  obtain ⟨q1, hq', hy0, hy1, hy2⟩ := info_parts (show (Tryz.prog.info? 4).map (fun i => (i.zero, i.size, i.bytes)) = some (some (.bool false), 1, 1) by kernel_rfl)
  have hM0 : NewMid w.heap.size (w.alloc (.cells #[.slice none 0 0, .slice none 0 0, .slice none 0 0, .int .i64 (-1), .bool false, .int .i64 0, .int .i64 0] 82)) w.heap.size (.slice none 0 0) (.slice none 0 0) 0 0 :=
    ⟨heap_alloc_new w _, World.ownsRow_nil _ _ _ _, World.ownsRow_nil _ _ _ _, Nat.le_refl _, fun g hg => (by cases hg), fun g hg => (by cases hg), by simp [Apart, Value.ownBlock], by simp [Apart, Value.ownBlock], fun g hg => (by cases hg)⟩
  have hb0 := (Below.refl w.heap.size w).alloc (Nat.le_refl _) (.cells #[.slice none 0 0, .slice none 0 0, .slice none 0 0, .int .i64 (-1), .bool false, .int .i64 0, .int .i64 0] 82)
  obtain ⟨w0, hw0⟩ : ∃ w0, w.alloc (.cells #[.slice none 0 0, .slice none 0 0, .slice none 0 0, .int .i64 (-1), .bool false, .int .i64 0, .int .i64 0] 82) = w0 := ⟨_, rfl⟩
  rw [hw0] at hM0 hb0
  have HI : Hid (NewMid w.heap.size w0 w.heap.size (.slice none 0 0) (.slice none 0 0) 0 0 ∧ Below w.heap.size w w0) := ⟨hM0, hb0⟩
  clear hM0 hb0
  go_enter Tryz.func16, Tryz.ntmps16
  go_wp2_with fail
  go_loopw [5] (fun v wr => ∃ j : Nat, j ≤ n ∧ v = .int .i64 j ∧ (∃ kv dv, NewMid w.heap.size wr w.heap.size kv dv j j) ∧ Below w.heap.size w wr) (fun v _ => n - (intOf v).toNat)
  case atStart => exact ⟨0, Nat.zero_le _, rfl, ⟨_, _, HI.out.1⟩, HI.out.2⟩
  case round =>
    clear HI hw0
    obtain ⟨j, hj, rfl, ⟨kv, dv, hM⟩, hT⟩ := hrel
    by_cases hlt : j < n
    · have j1 : (j : Int) < n := by omega
      have c0 : wr.cell? ⟨w.heap.size, 0, none⟩ = some kv := hM.row.cell 0
      have HM : Hid (NewMid w.heap.size wr w.heap.size kv dv j j ∧ Below w.heap.size w wr) := ⟨hM, hT⟩
      have hds : ∃ ob cb, dv = .slice ob j cb := by
        rcases owns_len hM.dumb with ⟨cap, e⟩ | ⟨g, cap, e⟩
        · exact ⟨_, cap, e⟩
        · exact ⟨_, cap, e⟩
      obtain ⟨ob, cb, rfl⟩ := hds
      clear hM hT
      go_wp2_with fail
      go_region_law (first | (refine step_append_at _ rfl _ _ 79 rfl 0 9 q0 (.string ⟨#[]⟩) 1 16 Tryz.underlying79 hq hz0 hz1 hz2 rfl (by decide) kv j (List.replicate j (.string (fillS 0 64))) rfl (owns_keep hA.kept fun g hg => Below.heap_alloc wA _ g (owns_lt hA.kept g hg)) ⟨wA.heap.size, 0, none⟩ 1 1 [.string (fillS 0 64)] rfl rfl (World.news_of_block (heap_alloc_new wA _)) (by intro u hu; rw [List.mem_singleton] at hu; rw [hu]; rfl) (by unfold maxLen; omega) (by omega) (Nat.zero_le _) ?_; intro v1 wB hown1 hgrow1 hat1; obtain ⟨g1, cap1, rfl, hgc, _⟩ := owns_form hown1 (by omega); have hA2 := hA.keep (w' := wA.alloc (.cells #[.string (fillS 0 64)] 9)) (fun k hk => Below.heap_alloc wA _ k hk); have hTB : Below w.heap.size w wB := (hTA.alloc hTA.size _).grown hgrow1 (Nat.le_trans hTA.size (by simp)) (fun k hk => hA.fK k hk); obtain ⟨x1, x2, hmid⟩ := hA2.growK (Nat.le_trans hTA.size (by simp)) hown1 hgrow1 hat1; have HG : Hid _ := hmid; clear hmid hA2 hown1 hgrow1 hat1) | (go_simp; refine (blank_any _).mono ?_; rintro e wA ⟨rfl, hbA⟩; dsimp only; have hA : NewMid w.heap.size wA w.heap.size kv (.slice ob j cb) j j := HM.out.1.keep (fun k hk => hbA.block k hk); have hTA : Below w.heap.size w wA := HM.out.2.drew.trans (hbA.mono HM.out.2.size); have dA : wA.cell? ⟨w.heap.size, 0, none⟩ = some kv := hA.row.cell 0; have dA2 : ∀ o, (wA.alloc o).cell? ⟨w.heap.size, 0, none⟩ = some kv := fun o => (hA.keep (w' := wA.alloc o) (fun k hk => Below.heap_alloc wA o k hk)).row.cell 0))
      all_goals
        obtain ⟨w5, hw5⟩ : ∃ w5, wB.setCell ⟨w.heap.size, 0, none⟩ (.slice (some ⟨g1, 0, none⟩) (j + 1) cap1) = w5 := ⟨_, rfl⟩
        have hT5 : Below w.heap.size w w5 := by rw [← hw5]; exact hTB.setCell (p := ⟨w.heap.size, 0, none⟩) (Nat.le_refl _) _
        rw [hw5] at HG
        have c1 : w5.cell? ⟨w.heap.size, 1, none⟩ = some (.slice ob j cb) := HG.out.row.cell 1
        have HH : Hid (Below w.heap.size w w5) := hT5
        clear x1 x2 dA dA2 hA hTA hbA hTB hT5 c0
        try rw [hw5]
        go_wp2_with (first | (at_builtin; refine wpList_append_own_at _ rfl _ _ 24 rfl 0 4 q1 (.bool false) 1 1 Tryz.underlying24 hq' hy0 hy1 hy2 rfl (by decide) (.slice ob j cb) j (List.replicate j (.bool false)) rfl (owns_keep HG.out.dumb fun g hg => Below.heap_alloc w5 _ g (owns_lt HG.out.dumb g hg)) ⟨w5.heap.size, 0, none⟩ 1 1 [.bool false] rfl rfl (World.news_of_block (heap_alloc_new w5 _)) (by intro u hu; rw [List.mem_singleton] at hu; rw [hu]; rfl) (by unfold maxLen; omega) (by omega) (Nat.zero_le _) ?_))
        intro v2 wC hown2 hgrow2 _ hat2
        obtain ⟨g2, cap2, rfl, hgc2, _⟩ := owns_form hown2 (by omega)
        have hG2 := HG.out.keep (w' := w5.alloc (.cells #[.bool false] 4)) (fun k hk => Below.heap_alloc w5 _ k hk)
        have hTC : Below w.heap.size w wC := (HH.out.alloc HH.out.size _).grown hgrow2 (Nat.le_trans HH.out.size (by simp)) (fun k hk => HG.out.fD k hk)
        obtain ⟨y1, y2, hmid2⟩ := hG2.growD (Nat.le_trans HH.out.size (by simp)) hown2 hgrow2 (by rw [show (w5.alloc (.cells #[.bool false] 4)).heap.size = w5.heap.size + 1 by simp]; exact hat2)
        obtain ⟨w6, hw6⟩ : ∃ w6, wC.setCell ⟨w.heap.size, 1, none⟩ (.slice (some ⟨g2, 0, none⟩) (j + 1) cap2) = w6 := ⟨_, rfl⟩
        have hT6 : Below w.heap.size w w6 := by rw [← hw6]; exact hTC.setCell (p := ⟨w.heap.size, 1, none⟩) (Nat.le_refl _) _
        rw [hw6] at hmid2
        have HF : Hid ((∃ kv dv, NewMid w.heap.size w6 w.heap.size kv dv (j + 1) (j + 1)) ∧ Below w.heap.size w w6) := ⟨⟨_, _, hmid2⟩, hT6⟩
        clear hmid2 hT6 hTC hG2 hown2 hgrow2 hat2
        go_wp2
        go_roundw
        case rel => exact ⟨j + 1, by omega, by go_num, HF.out.1, HF.out.2⟩
        case measure => simp [intOf]; omega
    · obtain rfl : j = n := by omega
      have HF : Hid (RefP wr (fun k => w.heap.size ≤ k ∧ k < wr.heap.size) w.heap.size (newP j) ∧ Below w.heap.size w wr) := ⟨hM.done hn, hT⟩
      clear hM hT
      go_wp2
      go_ret2
      exact ⟨w.heap.size, rfl, HF.out.1, HF.out.2⟩
end Go.Proofs.YtoopaigpjefonaaGreatDoor
