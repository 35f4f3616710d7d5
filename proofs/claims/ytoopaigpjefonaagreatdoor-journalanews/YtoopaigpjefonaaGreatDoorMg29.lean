/- sum's Mix.Feed: what was fed stands behind what the mix has; nothing else is changed. · sum's Mix.Feed, where the mix lies in the middle of a block: what was fed stands behind what the mix has; nothing else is changed. -/
import Derived.Test.YtoopaigpjefonaaGreatDoorMg28
import Derived.BigRegion
namespace Go.Proofs.YtoopaigpjefonaaGreatDoor.Sm
set_option maxRecDepth 20000
open Go.RowKit

theorem Cubes.only {w w' : World} (h : Cubes w) {B : Nat} (ho : Only B w w') (hB : 2 < B) : Cubes w' := by
  have hk := ho.2 2 h.1 (by omega)
  refine ⟨Nat.lt_of_lt_of_le h.1 ho.size, fun i hi => ?_⟩
  have h1 := h.2 i hi
  simpa [World.cell?, hk] using h1
theorem store_state (w : World) (B : Nat) (st X : St) (rest : List Value) (hr : Row w B 166 (mixA st ++ rest)) :
    ((storeCells ⟨B, 1, none⟩ (stC X).toList).run Tryz.prog w = .ok () (w.setCells B 1 (stC X).toList)) ∧ Row (w.setCells B 1 (stC X).toList) B 166 (mixA X ++ rest) ∧ Only B w (w.setCells B 1 (stC X).toList) := by
  have h8 : (stC X).toList.length = 8 := rfl
  refine ⟨run_storeCells_cells (P := Tryz.prog) B 1 (stC X).toList 0 w (fun j hj => ?_) (fun j _ => hr.frozen _) (fun v hv => ?_), ?_, Only.setCells _ _ _ (Only.refl _ _)⟩
  · rw [hr.cell, List.getElem?_append_left (by simp [mixA]; omega), List.getElem?_eq_getElem (by simp [mixA]; omega)]; rfl
  · simp only [stC, List.mem_cons, List.not_mem_nil, or_false] at hv
    rcases hv with rfl | rfl | rfl | rfl | rfl | rfl | rfl | rfl <;> rfl
  · have h1 : Row w B 166 ([Value.bool true] ++ (stC st).toList ++ rest) := hr
    exact Row.setCells (stC X).toList (stC st).toList [Value.bool true] w 1 rfl rfl h1

theorem mixAt_block (w : World) (B : Nat) (l1 un : List Nat) (h_ N : Nat) (hh : h_ = l1.length % 64) (hk : un.length = 64 - h_)
    (hr : Row w B 166 (mixV (comp (absorb l1 (l1.length / 64)) (l1.drop (64 * (l1.length / 64)) ++ un)) (byV (l1.drop (64 * (l1.length / 64)) ++ un)) 0 N)) : MixAt w B (l1 ++ un) N := by
  have e1 : (l1 ++ un).length / 64 = l1.length / 64 + 1 := by rw [List.length_append]; omega
  have e2 : (l1 ++ un).length % 64 = 0 := by rw [List.length_append]; omega
  refine ⟨byV (l1.drop (64 * (l1.length / 64)) ++ un), by rw [e2]; simp [byV]; omega, ?_⟩
  rw [e1, e2, absorb_step l1 un _ (by omega) (by omega), List.drop_eq_nil_of_le (show (l1 ++ un).length ≤ 64 * (l1.length / 64 + 1) by rw [List.length_append]; omega)]
  exact hr

set_option maxRecDepth 10000 in
set_option maxHeartbeats 1000000 in
theorem feed_any (B : Nat) (l : List Nat) (hb : Bytes l) (s : ByteArray) (hs : l.length + s.size < 1099511627776) (w : World) (hq : Cubes w) (hB : 2 < B) (hm : MixAt w B l l.length) :
    Calls Tryz.prog 126 #[.pointer (some ⟨B, 0, none⟩), .string s] w fun e w' => e = .returned (.tuple #[]) ∧ MixAt w' B (l ++ numsOf s) (l ++ numsOf s).length ∧ Only B w w' := by
  obtain ⟨R, hR, hr⟩ := hm
  have hlm : (mixA (absorb l (l.length / 64)) ++ (byV (l.drop (64 * (l.length / 64))) ++ R)).length = 73 := by simp [mixA, byV, hR]; omega
  have c0 : w.cell? ⟨B, 0, none⟩ = some (.bool true) := hr.cell 0
  have c1 : w.cell? ⟨B, 74, none⟩ = some (.int .i64 (l.length : Nat)) := by
    rw [hr.cell, mixV, List.getElem?_append_right (by rw [hlm]; decide), hlm]; rfl
  have c2 : ∀ i, w.frozen? ⟨B, i, none⟩ = false := fun i => hr.frozen i
  have j1 : IntKind.i64.wrap ((l.length : Int) + (s.size : Int)) = l.length + s.size := by rw [IntKind.wrap_i64]; omega
  go_enter Tryz.func126, Tryz.ntmps126
  go_wp2_with fail
  obtain ⟨W1, hW1⟩ : ∃ W1, w.setCell ⟨B, 74, none⟩ (.int .i64 ((l.length : Int) + (s.size : Int))) = W1 := ⟨_, rfl⟩
  have hm1 : MixAt W1 B l (l ++ numsOf s).length := by
    refine ⟨R, hR, ?_⟩
    rw [← hW1]
    have h1 : Row w B 166 ((mixA (absorb l (l.length / 64)) ++ (byV (l.drop (64 * (l.length / 64))) ++ R) ++ [.int .i64 ((l.length % 64 : Nat) : Int)]) ++ [.int .i64 (l.length : Nat)] ++ []) := by simpa [mixV, mixT] using hr
    have h2 := h1.set (n := 74) (.int .i64 ((l.length : Int) + (s.size : Int))) (by rw [List.length_append, hlm]; rfl)
    have h3 : ((l ++ numsOf s).length : Int) = (l.length : Int) + (s.size : Int) := by rw [List.length_append, numsOf_length]; omega
    rw [mixV, mixT, h3]
    simpa using h2
  have ho1 : Only B w W1 := by rw [← hW1]; exact (Only.refl _ _).setCell _ _
  rw [hW1]
  clear c0 c1 c2 hlm hR hr hW1
  go_loopw [1] (fun v wr => ∃ p : Nat, p ≤ s.size ∧ v = .string (s.extract p s.size) ∧ MixAt wr B (l ++ (numsOf s).take p) (l ++ numsOf s).length ∧ Only B w wr) (fun v _ => strSize v)
  case atStart => exact ⟨0, Nat.zero_le _, by simp, by simpa using hm1, ho1⟩
  case round =>
    clear hm1 ho1
    obtain ⟨p, hp, rfl, hm1, ho1⟩ := hrel
    by_cases hlt : p < s.size
    case neg =>
      obtain rfl : p = s.size := by omega
      have hx : (s.extract s.size s.size).size = 0 := by simp
      obtain ⟨u, hu⟩ : ∃ u, u = s.extract s.size s.size := ⟨_, rfl⟩
      rw [← hu] at hx
      rw [← hu]
      clear hu
      go_wp2
      go_end0
      rw [List.take_of_length_le (by rw [numsOf_length]; exact Nat.le_refl _)] at hm1
      exact ⟨rfl, hm1, ho1⟩
    obtain ⟨l1, hl1⟩ : ∃ l1, l1 = l ++ (numsOf s).take p := ⟨_, rfl⟩
    obtain ⟨N, hN⟩ : ∃ N, N = (l ++ numsOf s).length := ⟨_, rfl⟩
    rw [← hl1, ← hN] at hm1
    obtain ⟨R, hR, hr⟩ := hm1
    obtain ⟨h_, hh⟩ : ∃ h_, h_ = l1.length % 64 := ⟨_, rfl⟩
    have hh64 : h_ < 64 := by omega
    have hlm := mix_len l1 R hR
    have hdl : (byV (l1.drop (64 * (l1.length / 64)))).length = h_ := by simp [byV]; omega
    rw [← hh] at hr hR
    obtain ⟨u, hu⟩ : ∃ u, u = s.extract p s.size := ⟨_, rfl⟩
    have hus : u.size = s.size - p := by rw [hu]; simp
    have hun : numsOf u = (numsOf s).drop p := by
      rw [hu, numsOf_extract, List.take_of_length_le (by rw [List.length_drop, numsOf_length]; omega)]
    have c1 : wr.cell? ⟨B, 73, none⟩ = some (.int .i64 (h_ : Nat)) := by
      rw [hr.cell, mixV, List.getElem?_append_right (by rw [hlm]; decide), hlm]; rfl
    have i0 : (0 : Int) < (u.size : Int) := by omega
    have i1 : (0 : Int) ≤ (h_ : Int) := by omega
    have i2 : (h_ : Int) ≤ 64 := by omega
    have i3 : ¬ 64 = h_ := by omega
    obtain ⟨D, hD⟩ : ∃ D, D = l1.drop (64 * (l1.length / 64)) := ⟨_, rfl⟩
    obtain ⟨st, hst⟩ : ∃ st, st = absorb l1 (l1.length / 64) := ⟨_, rfl⟩
    rw [← hD, ← hst] at hr
    rw [← hD] at hdl
    have hul : (byV (numsOf u)).length = u.size := by simp [byV, numsOf_length]
    rw [← hu]
    have HH : Hid (l1 = l ++ (numsOf s).take p ∧ N = (l ++ numsOf s).length ∧ h_ = l1.length % 64 ∧ u = s.extract p s.size ∧ u.size = s.size - p ∧ numsOf u = (numsOf s).drop p ∧ D = l1.drop (64 * (l1.length / 64)) ∧ st = absorb l1 (l1.length / 64)) := ⟨hl1, hN, hh, hu, hus, hun, hD, hst⟩
    clear hlm hl1 hN hh hu hus hun hD hst hp hs
    by_cases hroom : u.size < 64 - h_
    · have hcells : ∀ j, j < u.size → (wr.drew.cell? ⟨B, 9 + h_ + j, none⟩).isSome = true := fun j hj => by
        show (wr.cell? ⟨B, 9 + h_ + j, none⟩).isSome = true
        rw [hr.cell, List.getElem?_eq_getElem (by simp [mixV, mixA, mixT, hdl, hR]; omega)]; rfl
      have hcp := run_copy_string (P := Tryz.prog) wr.drew 143 9 3 5 B (9 + h_) (64 - h_) (64 - h_) u Tryz.underlying143 size_u8 (by omega) hcells (fun j _ => hr.frozen _)
      have hv : (u.data.toList.map fun x => Value.int .u8 (x.toNat : Int)) = byV (numsOf u) := by simp [byV, numsOf]
      rw [hv] at hcp
      have hr2 : Row (wr.drew.setCells B (9 + h_) (byV (numsOf u))) B 166 ((mixA st ++ byV D) ++ byV (numsOf u) ++ (R.drop u.size ++ mixT h_ N)) := Row.setCells _ (R.take u.size) _ _ _ (by rw [hul, List.length_take, hR]; omega) (by simp [mixA, hdl]; omega) (by
        have e : mixV st (byV D ++ (R.take u.size ++ R.drop u.size)) h_ N = (mixA st ++ byV D) ++ R.take u.size ++ (R.drop u.size ++ mixT h_ N) := by simp only [mixV, List.append_assoc]
        rw [← e, List.take_append_drop]
        exact hr)
      have ho2 : Only B w (wr.drew.setCells B (9 + h_) (byV (numsOf u))) := Only.setCells _ _ _ ho1.drew
      obtain ⟨w2, hw2⟩ : ∃ w2, wr.drew.setCells B (9 + h_) (byV (numsOf u)) = w2 := ⟨_, rfl⟩
      rw [hw2] at hcp hr2 ho2
      have hl73 : (mixA st ++ byV D ++ byV (numsOf u) ++ R.drop u.size).length = 73 := by simp [mixA, hdl, hul, hR]; omega
      have c2 : w2.cell? ⟨B, 73, none⟩ = some (.int .i64 (h_ : Nat)) := by
        rw [hr2.cell, ← List.append_assoc, List.getElem?_append_right (by rw [hl73]; decide), hl73]; rfl
      have c3 : ∀ i, w2.frozen? ⟨B, i, none⟩ = false := fun i => hr2.frozen i
      have j2 : IntKind.i64.wrap ((h_ : Int) + (u.size : Int)) = h_ + u.size := by rw [IntKind.wrap_i64]; omega
      have hr3 : Row (w2.setCell ⟨B, 73, none⟩ (.int .i64 ((h_ : Int) + (u.size : Int)))) B 166 ((mixA st ++ byV D ++ byV (numsOf u) ++ R.drop u.size) ++ [.int .i64 ((h_ : Int) + (u.size : Int))] ++ [.int .i64 (N : Nat)]) := Row.set (q := .int .i64 (h_ : Nat)) (by simpa [mixT] using hr2) _ hl73.symm
      have ho3 := ho2.setCell 73 (.int .i64 ((h_ : Int) + (u.size : Int)))
      obtain ⟨w3, hw3⟩ : ∃ w3, w2.setCell ⟨B, 73, none⟩ (.int .i64 ((h_ : Int) + (u.size : Int))) = w3 := ⟨_, rfl⟩
      rw [hw3] at hr3 ho3
      have c4 : w3.cell? ⟨B, 73, none⟩ = some (.int .i64 ((h_ : Int) + (u.size : Int))) := by
        rw [hr3.cell, List.append_assoc, List.getElem?_append_right (by rw [hl73]; decide), hl73]; rfl
      have ib : (((h_ : Int) + (u.size : Int)) == 64) = false := by simp; omega
      have k1 : (u.size : Int) ≤ u.size := by omega
      have HF : Hid (MixAt w3 B (l ++ (numsOf s).take s.size) N ∧ Only B w w3) := by
        obtain ⟨hl1, hN, hh, hu, hus, hun, hD, hst⟩ := HH.out
        have e : l ++ (numsOf s).take s.size = l1 ++ numsOf u := by
          rw [hl1, hun, List.append_assoc, List.take_append_drop, List.take_of_length_le (by rw [numsOf_length]; exact Nat.le_refl _)]
        rw [e]
        refine ⟨mixAt_part w3 B l1 (numsOf u) (R.drop u.size) h_ u.size N _ ?_ hh (numsOf_length u) (by omega) (by rw [List.length_drop, hR]; omega) (by rw [← hst, ← hD]; exact hr3), ho3⟩
        omega
      clear hr hr2 hr3 ho1 ho2 ho3 hcells hv
      go_wp2_with fail
      go_region_held3 (fun w' => w'.cell? ⟨B, 73, none⟩ = some (.int .i64 (h_ : Nat))) (simp [go_sem, *]) (fail)
      go_wp2_with fail
      refine ⟨⟨s.size, Nat.le_refl _, by simp, ?_, HF.out.2⟩, by simp [strSize]; omega⟩
      have := HF.out.1
      rw [HH.out.2.1] at this
      exact this
    · have hcells : ∀ j, j < 64 - h_ → (wr.drew.cell? ⟨B, 9 + h_ + j, none⟩).isSome = true := fun j hj => by
        show (wr.cell? ⟨B, 9 + h_ + j, none⟩).isSome = true
        rw [hr.cell, List.getElem?_eq_getElem (by simp [mixV, mixA, mixT, hdl, hR]; omega)]; rfl
      have hcp := run_copy_part (P := Tryz.prog) wr.drew 143 9 3 5 B (9 + h_) (64 - h_) (64 - h_) u Tryz.underlying143 size_u8 (by omega) hcells (fun j _ => hr.frozen _)
      obtain ⟨un, hun0⟩ : ∃ un, un = (numsOf u).take (64 - h_) := ⟨_, rfl⟩
      have hv : ((u.data.toList.take (64 - h_)).map fun x => Value.int .u8 (x.toNat : Int)) = byV un := by rw [hun0, byV, numsOf, List.map_take, List.map_take, List.map_map]; rfl
      have hunl : un.length = 64 - h_ := by rw [hun0, List.length_take, numsOf_length]; omega
      have hunb : Bytes un := by rw [hun0]; exact (numsOf_bytes u).take _
      have HU : Hid (un = (numsOf u).take (64 - h_)) := hun0
      clear hun0
      rw [hv] at hcp
      have hr2 : Row (wr.drew.setCells B (9 + h_) (byV un)) B 166 ((mixA st ++ byV D) ++ byV un ++ mixT h_ N) := Row.setCells _ R _ _ _ (by simp [byV, hunl, hR]) (by simp [mixA, hdl]; omega) (by
        have e : mixV st (byV D ++ R) h_ N = (mixA st ++ byV D) ++ R ++ mixT h_ N := by simp only [mixV, List.append_assoc]
        rw [← e]
        exact hr)
      have ho2 : Only B w (wr.drew.setCells B (9 + h_) (byV un)) := Only.setCells _ _ _ ho1.drew
      obtain ⟨w2, hw2⟩ : ∃ w2, wr.drew.setCells B (9 + h_) (byV un) = w2 := ⟨_, rfl⟩
      rw [hw2] at hcp hr2 ho2
      have hl73 : (mixA st ++ byV D ++ byV un).length = 73 := by
        have : (byV un).length = 64 - h_ := by simp [byV, hunl]
        simp [mixA, hdl, this]; omega
      have c2 : w2.cell? ⟨B, 73, none⟩ = some (.int .i64 (h_ : Nat)) := by
        rw [hr2.cell, List.getElem?_append_right (by rw [hl73]; decide), hl73]; rfl
      have c3 : ∀ i, w2.frozen? ⟨B, i, none⟩ = false := fun i => hr2.frozen i
      have j2 : IntKind.i64.wrap ((h_ : Int) + ((64 - h_ : Nat) : Int)) = 64 := by rw [IntKind.wrap_i64]; omega
      have hr3 : Row (w2.setCell ⟨B, 73, none⟩ (.int .i64 64)) B 166 ((mixA st ++ byV D ++ byV un) ++ [.int .i64 64] ++ [.int .i64 (N : Nat)]) := Row.set (q := .int .i64 (h_ : Nat)) (by simpa [mixT] using hr2) _ hl73.symm
      have ho3 := ho2.setCell 73 (.int .i64 64)
      obtain ⟨w3, hw3⟩ : ∃ w3, w2.setCell ⟨B, 73, none⟩ (.int .i64 64) = w3 := ⟨_, rfl⟩
      rw [hw3] at hr3 ho3
      have c4 : w3.cell? ⟨B, 73, none⟩ = some (.int .i64 64) := by
        rw [hr3.cell, List.append_assoc, List.getElem?_append_right (by rw [hl73]; decide), hl73]; rfl
      have k1 : ((64 - h_ : Nat) : Int) ≤ u.size := by omega
      have k2 : (0 : Int) ≤ ((64 - h_ : Nat) : Int) := by omega
      have e1 : w3.cell? ⟨B, 1, none⟩ = some (.int .u32 (st.a : Nat)) := hr3.cell 1
      have e2 : w3.cell? ⟨B, 2, none⟩ = some (.int .u32 (st.b : Nat)) := hr3.cell 2
      have e3 : w3.cell? ⟨B, 3, none⟩ = some (.int .u32 (st.c : Nat)) := hr3.cell 3
      have e4 : w3.cell? ⟨B, 4, none⟩ = some (.int .u32 (st.d : Nat)) := hr3.cell 4
      have e5 : w3.cell? ⟨B, 5, none⟩ = some (.int .u32 (st.e : Nat)) := hr3.cell 5
      have e6 : w3.cell? ⟨B, 6, none⟩ = some (.int .u32 (st.f : Nat)) := hr3.cell 6
      have e7 : w3.cell? ⟨B, 7, none⟩ = some (.int .u32 (st.g : Nat)) := hr3.cell 7
      have e8 : w3.cell? ⟨B, 8, none⟩ = some (.int .u32 (st.h : Nat)) := hr3.cell 8
      have HR3 : Hid (Row w3 B 166 ((mixA st ++ byV D ++ byV un) ++ [.int .i64 64] ++ [.int .i64 (N : Nat)]) ∧ Only B w w3 ∧ (mixA st ++ byV D ++ byV un).length = 73) := ⟨hr3, ho3, hl73⟩
      clear hr hr2 hr3 ho1 ho2 ho3 hcells hv hl73
      go_wp2_with fail
      go_region_held3 (fun w' => w'.cell? ⟨B, 73, none⟩ = some (.int .i64 (h_ : Nat))) (simp [go_sem, *]) (fail)
      go_wp2_with fail
      obtain ⟨hr3, ho3, hl73⟩ := HR3.out
      obtain ⟨hl1, hN, hh, hu, hus, hun, hD, hst⟩ := HH.out
      have hl1b : Bytes l1 := by rw [hl1]; exact hb.append ((numsOf_bytes s).take _)
      have hDb : Bytes (D ++ un) := by rw [hD]; exact (hl1b.drop _).append hunb
      have hok : st.ok := by rw [hst]; exact absorb_ok _ _
      have hDl : (D ++ un).length = 64 := by
        have h1 : D.length = h_ := by rw [hD, List.length_drop]; omega
        rw [List.length_append, h1, hunl]; omega
      have HC : Hid (∀ i, i < 64 → w3.cell? ⟨B, 9 + i, none⟩ = some (.int .u8 ((D ++ un).getD i 0 : Nat))) := fun i hi => by
        have hr4 : Row w3 B 166 (mixA st ++ byV (D ++ un) ++ ([.int .i64 64] ++ [.int .i64 (N : Nat)])) := by
          rw [byV_append]; simpa using hr3
        rw [hr4.cell, List.append_assoc, List.getElem?_append_right (by simp [mixA]), show 9 + i - (mixA st).length = i by simp [mixA], List.getElem?_append_left (by rw [byV, List.length_map, hDl]; exact hi), byV_get _ i (by omega)]
      have hq3 : Cubes w3 := hq.only ho3 hB
      have HQ : Hid (Cubes w3 ∧ Bytes (D ++ un) ∧ st.ok ∧ B < w3.heap.size) := ⟨hq3, hDb, hok, hr3.lt⟩
      have HR4 : Hid (Row w3 B 166 (mixA st ++ (byV D ++ byV un ++ ([.int .i64 64] ++ [.int .i64 (N : Nat)])))) := by
        show Row _ _ _ _
        simpa using hr3
      clear hr3 ho3 hl73 hl1 hN hh hu hus hun hD hst hl1b hDb hok hDl hq3
      go_region_with (first | (go_at_call 156; refine (with_any st HQ.out.2.2.1 (D ++ un) HQ.out.2.1 B 9 w3.drew HQ.out.1 HQ.out.2.2.2 HC.out).mono ?_; rintro e w4 ⟨rfl, hb4⟩; have HS := store_state w4 B st (comp st (D ++ un)) _ (Row.below (w := w3.drew) HR4.out hb4 HQ.out.2.2.2); obtain ⟨w5, hw5⟩ : ∃ w5, w4.setCells B 1 (stC (comp st (D ++ un))).toList = w5 := ⟨_, rfl⟩; rw [hw5] at HS; have hs5 := HS.1; have H5 : Hid _ := HS.2; clear HS hw5))
      obtain ⟨hr5, ho5⟩ := H5.out
      have hlA : (mixA (comp st (D ++ un)) ++ (byV D ++ byV un)).length = 73 := by
        have := HR3.out.2.2
        simp [mixA] at this ⊢; omega
      have hr5' : Row w5 B 166 ((mixA (comp st (D ++ un)) ++ (byV D ++ byV un)) ++ [.int .i64 64] ++ [.int .i64 (N : Nat)]) := by simpa using hr5
      have c5 : w5.cell? ⟨B, 73, none⟩ = some (.int .i64 64) := by
        rw [hr5'.cell, List.append_assoc, List.getElem?_append_right (by rw [hlA]; decide), hlA]; rfl
      have c6 : w5.frozen? ⟨B, 73, none⟩ = false := hr5'.frozen _
      have hr6 : Row (w5.setCell ⟨B, 73, none⟩ (.int .i64 0)) B 166 (mixV (comp st (D ++ un)) (byV (D ++ un)) 0 N) := by
        have h1 := hr5'.set (.int .i64 0) hlA.symm
        rw [mixV, byV_append, mixT]
        simpa using h1
      have ho6 : Only B w (w5.setCell ⟨B, 73, none⟩ (.int .i64 0)) := (((HR3.out.2.1.drew).trans (Only.of_below hb4)).trans ho5).setCell _ _
      obtain ⟨w6, hw6⟩ : ∃ w6, w5.setCell ⟨B, 73, none⟩ (.int .i64 0) = w6 := ⟨_, rfl⟩
      rw [hw6] at hr6 ho6
      have HF : Hid (MixAt w6 B (l ++ (numsOf s).take (p + (64 - h_))) N ∧ Only B w w6 ∧ u.extract (64 - h_) u.size = s.extract (p + (64 - h_)) s.size ∧ p + (64 - h_) ≤ s.size ∧ N = (l ++ numsOf s).length) := by
        obtain ⟨hl1, hN, hh, hu, hus, hun, hD, hst⟩ := HH.out
        have e : l ++ (numsOf s).take (p + (64 - h_)) = l1 ++ un := by
          rw [hl1, HU.out, hun, List.append_assoc, List.take_add]
        refine ⟨?_, ho6, ?_, by omega, hN⟩
        · rw [e]
          exact mixAt_block w6 B l1 un h_ N hh hunl (by rw [← hst, ← hD]; exact hr6)
        · rw [hu, ByteArray.extract_extract]
          congr 1
          simp
          omega
      clear hr5 ho5 hr5' hr6 ho6 hb4 hs5 H5 hlA
      go_wp2_with fail
      refine ⟨⟨p + (64 - h_), HF.out.2.2.2.1, by rw [HF.out.2.2.1], ?_, HF.out.2.1⟩, ?_⟩
      · rw [← HF.out.2.2.2.2]; exact HF.out.1
      · simp [strSize]; omega
end Go.Proofs.YtoopaigpjefonaaGreatDoor.Sm

namespace Go.Proofs.YtoopaigpjefonaaGreatDoor.Sm
set_option maxRecDepth 20000
open Go.RowKit

/-- A mix in the middle of block B: behind the cells A, ahead of the cells C. -/
def MixIn (w : World) (B : Nat) (t : TypeId) (A C : List Value) (l : List Nat) (n : Nat) : Prop := ∃ R : List Value, R.length = 64 - l.length % 64 ∧ (∀ v ∈ R, v.oneCell' = true) ∧ Row w B t (A ++ mixV (absorb l (l.length / 64)) (byV (l.drop (64 * (l.length / 64))) ++ R) (l.length % 64) n ++ C)

theorem byV_one (l : List Nat) : ∀ v ∈ byV l, v.oneCell' = true := fun v hv => by
  obtain ⟨x, _, rfl⟩ := List.mem_map.1 hv
  rfl
theorem Row.at {w : World} {g n : Nat} {t : TypeId} {X Y : List Value} {v : Value} (h : Row w g t (X ++ [v] ++ Y)) (hn : n = X.length) : w.cell? ⟨g, n, none⟩ = some v := by
  rw [h.cell, List.append_assoc, List.getElem?_append_right (by omega), hn, Nat.sub_self]
  rfl
theorem mixA_length (st : St) : (mixA st).length = 9 := rfl
theorem store_stateM (w : World) (B o : Nat) (t : TypeId) (A : List Value) (ho : o = A.length) (st X : St) (rest : List Value) (hr : Row w B t (A ++ mixA st ++ rest)) :
    ((storeCells ⟨B, o + 1, none⟩ (stC X).toList).run Tryz.prog w = .ok () (w.setCells B (o + 1) (stC X).toList)) ∧ Row (w.setCells B (o + 1) (stC X).toList) B t (A ++ mixA X ++ rest) ∧ Only B w (w.setCells B (o + 1) (stC X).toList) := by
  refine ⟨run_storeCells_cells (P := Tryz.prog) B (o + 1) (stC X).toList 0 w (fun j hj => ?_) (fun j _ => hr.frozen _) (fun v hv => ?_), ?_, Only.setCells _ _ _ (Only.refl _ _)⟩
  · have h8 : (stC X).toList.length = 8 := rfl
    have h9 : (mixA st).length = 9 := rfl
    rw [hr.cell, List.getElem?_eq_getElem (by simp only [List.length_append]; omega)]; rfl
  · simp only [stC, List.mem_cons, List.not_mem_nil, or_false] at hv
    rcases hv with rfl | rfl | rfl | rfl | rfl | rfl | rfl | rfl <;> rfl
  · have h1 : Row w B t ((A ++ [Value.bool true]) ++ (stC st).toList ++ rest) := by
      have e : A ++ mixA st ++ rest = (A ++ [Value.bool true]) ++ (stC st).toList ++ rest := by simp [mixA, stC]
      rw [← e]; exact hr
    have h2 := Row.setCells (stC X).toList (stC st).toList (A ++ [Value.bool true]) w (o + 1) rfl (by simp [ho]) h1
    have e : A ++ mixA X ++ rest = (A ++ [Value.bool true]) ++ (stC X).toList ++ rest := by simp [mixA, stC]
    rw [e]; exact h2

theorem stIn_cell {w : World} {B o : Nat} {t : TypeId} {A X Y Z V : List Value} {st : St} (hr : Row w B t (A ++ mixA st ++ X ++ Y ++ Z ++ V)) (ho : o = A.length) (n : Nat) (v : Value) (hn : n < 9) (hv : (mixA st)[n]? = some v) : w.cell? ⟨B, o + n, none⟩ = some v := by
  rw [hr.cell, List.append_assoc, List.append_assoc, List.append_assoc, List.append_assoc, List.getElem?_append_right (by omega), ho, Nat.add_sub_cancel_left, List.getElem?_append_left (by rw [mixA_length]; exact hn), hv]
theorem mixIn_part (w : World) (B : Nat) (t : TypeId) (A C : List Value) (l1 un : List Nat) (R : List Value) (h_ k N : Nat) (z : Int) (hz : z = ((h_ + k : Nat) : Int)) (hh : h_ = l1.length % 64) (hk : un.length = k) (hlt : h_ + k < 64) (hR : R.length = 64 - (h_ + k)) (hRo : ∀ v ∈ R, v.oneCell' = true)
    (hr : Row w B t ((A ++ mixA (absorb l1 (l1.length / 64)) ++ byV (l1.drop (64 * (l1.length / 64))) ++ byV un ++ R) ++ [.int .i64 z] ++ ([.int .i64 (N : Nat)] ++ C))) : MixIn w B t A C (l1 ++ un) N := by
  have e1 : (l1 ++ un).length / 64 = l1.length / 64 := by rw [List.length_append]; omega
  have e2 : (l1 ++ un).length % 64 = h_ + k := by rw [List.length_append]; omega
  refine ⟨R, by rw [e2]; exact hR, hRo, ?_⟩
  rw [e1, e2, absorb_append _ _ _ (by omega), List.drop_append_of_le_length (by omega), byV_append, mixV, mixT, ← hz]
  simpa using hr
theorem mixIn_block (w : World) (B : Nat) (t : TypeId) (A C : List Value) (l1 un : List Nat) (h_ N : Nat) (hh : h_ = l1.length % 64) (hk : un.length = 64 - h_)
    (hr : Row w B t (A ++ mixV (comp (absorb l1 (l1.length / 64)) (l1.drop (64 * (l1.length / 64)) ++ un)) (byV (l1.drop (64 * (l1.length / 64)) ++ un)) 0 N ++ C)) : MixIn w B t A C (l1 ++ un) N := by
  have e1 : (l1 ++ un).length / 64 = l1.length / 64 + 1 := by rw [List.length_append]; omega
  have e2 : (l1 ++ un).length % 64 = 0 := by rw [List.length_append]; omega
  refine ⟨byV (l1.drop (64 * (l1.length / 64)) ++ un), by rw [e2]; simp [byV]; omega, byV_one _, ?_⟩
  rw [e1, e2, absorb_step l1 un _ (by omega) (by omega), List.drop_eq_nil_of_le (show (l1 ++ un).length ≤ 64 * (l1.length / 64 + 1) by rw [List.length_append]; omega)]
  exact hr

set_option maxRecDepth 10000 in
set_option maxHeartbeats 1000000 in
theorem feed_mid (B o : Nat) (t : TypeId) (A C : List Value) (ho0 : o = A.length) (l : List Nat) (hb : Bytes l) (s : ByteArray) (hs : l.length + s.size < 1099511627776) (w : World) (hq : Cubes w) (hB : 2 < B) (hm : MixIn w B t A C l l.length) :
    Calls Tryz.prog 126 #[.pointer (some ⟨B, o, none⟩), .string s] w fun e w' => e = .returned (.tuple #[]) ∧ MixIn w' B t A C (l ++ numsOf s) (l ++ numsOf s).length ∧ Only B w w' := by
  have HO0 : Hid (o = A.length) := ho0
  clear ho0
  obtain ⟨R, hR, hRo, hr⟩ := hm
  have hlm : (A ++ mixA (absorb l (l.length / 64)) ++ (byV (l.drop (64 * (l.length / 64))) ++ R)).length = o + 73 := by have h0 := HO0.out; simp [mixA, byV, hR]; omega
  have hr' : Row w B t ((A ++ mixA (absorb l (l.length / 64)) ++ (byV (l.drop (64 * (l.length / 64))) ++ R) ++ [.int .i64 ((l.length % 64 : Nat) : Int)]) ++ [.int .i64 (l.length : Nat)] ++ C) := by simpa [mixV, mixT] using hr
  have c0 : w.cell? ⟨B, o, none⟩ = some (.bool true) := by
    rw [hr.cell, List.append_assoc, List.getElem?_append_right (by have := HO0.out; omega), HO0.out, Nat.sub_self]; rfl
  have c1 : w.cell? ⟨B, o + 74, none⟩ = some (.int .i64 (l.length : Nat)) := hr'.at (by rw [List.length_append, hlm]; rfl)
  have c2 : ∀ i, w.frozen? ⟨B, i, none⟩ = false := fun i => hr.frozen i
  have j1 : IntKind.i64.wrap ((l.length : Int) + (s.size : Int)) = l.length + s.size := by rw [IntKind.wrap_i64]; omega
  go_enter Tryz.func126, Tryz.ntmps126
  go_wp2_with fail
  obtain ⟨W1, hW1⟩ : ∃ W1, w.setCell ⟨B, o + 74, none⟩ (.int .i64 ((l.length : Int) + (s.size : Int))) = W1 := ⟨_, rfl⟩
  have hm1 : MixIn W1 B t A C l (l ++ numsOf s).length := by
    refine ⟨R, hR, hRo, ?_⟩
    rw [← hW1]
    have h2 := hr'.set (n := o + 74) (.int .i64 ((l.length : Int) + (s.size : Int))) (by rw [List.length_append, hlm]; rfl)
    have h3 : ((l ++ numsOf s).length : Int) = (l.length : Int) + (s.size : Int) := by rw [List.length_append, numsOf_length]; omega
    rw [mixV, mixT, h3]
    simpa using h2
  have ho1 : Only B w W1 := by rw [← hW1]; exact (Only.refl _ _).setCell _ _
  rw [hW1]
  clear c0 c1 c2 hlm hR hRo hr hr' hW1
  go_loopw [1] (fun v wr => ∃ p : Nat, p ≤ s.size ∧ v = .string (s.extract p s.size) ∧ MixIn wr B t A C (l ++ (numsOf s).take p) (l ++ numsOf s).length ∧ Only B w wr) (fun v _ => strSize v)
  case atStart => exact ⟨0, Nat.zero_le _, by simp, by simpa using hm1, ho1⟩
  case round =>
    clear hm1 ho1
    obtain ⟨p, hp, rfl, hm1, ho1⟩ := hrel
    by_cases hlt : p < s.size
    case neg =>
      obtain rfl : p = s.size := by omega
      have hx : (s.extract s.size s.size).size = 0 := by simp
      obtain ⟨u, hu⟩ : ∃ u, u = s.extract s.size s.size := ⟨_, rfl⟩
      rw [← hu] at hx
      rw [← hu]
      clear hu
      go_wp2
      go_end0
      rw [List.take_of_length_le (by rw [numsOf_length]; exact Nat.le_refl _)] at hm1
      exact ⟨rfl, hm1, ho1⟩
    obtain ⟨l1, hl1⟩ : ∃ l1, l1 = l ++ (numsOf s).take p := ⟨_, rfl⟩
    obtain ⟨N, hN⟩ : ∃ N, N = (l ++ numsOf s).length := ⟨_, rfl⟩
    rw [← hl1, ← hN] at hm1
    obtain ⟨R, hR, hRo, hr⟩ := hm1
    have HRO : Hid (∀ v ∈ R, v.oneCell' = true) := hRo
    clear hRo
    obtain ⟨h_, hh⟩ : ∃ h_, h_ = l1.length % 64 := ⟨_, rfl⟩
    have hh64 : h_ < 64 := by omega
    have hlm : (A ++ mixA (absorb l1 (l1.length / 64)) ++ (byV (l1.drop (64 * (l1.length / 64))) ++ R)).length = o + 73 := by have h0 := HO0.out; simp [mixA, byV, hR]; omega
    have hdl : (byV (l1.drop (64 * (l1.length / 64)))).length = h_ := by simp [byV]; omega
    rw [← hh] at hr hR
    obtain ⟨u, hu⟩ : ∃ u, u = s.extract p s.size := ⟨_, rfl⟩
    have hus : u.size = s.size - p := by rw [hu]; simp
    have hun : numsOf u = (numsOf s).drop p := by
      rw [hu, numsOf_extract, List.take_of_length_le (by rw [List.length_drop, numsOf_length]; omega)]
    have c1 : wr.cell? ⟨B, o + 73, none⟩ = some (.int .i64 (h_ : Nat)) := by
      have h1 : Row wr B t ((A ++ mixA (absorb l1 (l1.length / 64)) ++ (byV (l1.drop (64 * (l1.length / 64))) ++ R)) ++ [.int .i64 (h_ : Nat)] ++ ([.int .i64 (N : Nat)] ++ C)) := by simpa [mixV, mixT] using hr
      exact h1.at hlm.symm
    have i0 : (0 : Int) < (u.size : Int) := by omega
    have i1 : (0 : Int) ≤ (h_ : Int) := by omega
    have i2 : (h_ : Int) ≤ 64 := by omega
    have i3 : ¬ 64 = h_ := by omega
    obtain ⟨D, hD⟩ : ∃ D, D = l1.drop (64 * (l1.length / 64)) := ⟨_, rfl⟩
    obtain ⟨st, hst⟩ : ∃ st, st = absorb l1 (l1.length / 64) := ⟨_, rfl⟩
    rw [← hD, ← hst] at hr
    rw [← hD] at hdl
    have hul : (byV (numsOf u)).length = u.size := by simp [byV, numsOf_length]
    rw [← hu]
    have HH : Hid (l1 = l ++ (numsOf s).take p ∧ N = (l ++ numsOf s).length ∧ h_ = l1.length % 64 ∧ u = s.extract p s.size ∧ u.size = s.size - p ∧ numsOf u = (numsOf s).drop p ∧ D = l1.drop (64 * (l1.length / 64)) ∧ st = absorb l1 (l1.length / 64)) := ⟨hl1, hN, hh, hu, hus, hun, hD, hst⟩
    clear hlm hl1 hN hh hu hus hun hD hst hp hs
    by_cases hroom : u.size < 64 - h_
    · have hcells : ∀ j, j < u.size → (wr.drew.cell? ⟨B, o + 9 + h_ + j, none⟩).isSome = true := fun j hj => by
        show (wr.cell? ⟨B, o + 9 + h_ + j, none⟩).isSome = true
        rw [hr.cell, List.getElem?_eq_getElem (by have h0 := HO0.out; simp [mixV, mixA, mixT, hdl, hR]; omega)]; rfl
      have hcp := run_copy_string (P := Tryz.prog) wr.drew 143 9 3 5 B (o + 9 + h_) (64 - h_) (64 - h_) u Tryz.underlying143 size_u8 (by omega) hcells (fun j _ => hr.frozen _)
      have hv : (u.data.toList.map fun x => Value.int .u8 (x.toNat : Int)) = byV (numsOf u) := by simp [byV, numsOf]
      rw [hv] at hcp
      have hr2 : Row (wr.drew.setCells B (o + 9 + h_) (byV (numsOf u))) B t ((A ++ mixA st ++ byV D) ++ byV (numsOf u) ++ (R.drop u.size ++ (mixT h_ N ++ C))) := Row.setCells _ (R.take u.size) _ _ _ (by rw [hul, List.length_take, hR]; omega) (by have h0 := HO0.out; simp [mixA, hdl]; omega) (by
        have e : A ++ mixV st (byV D ++ (R.take u.size ++ R.drop u.size)) h_ N ++ C = (A ++ mixA st ++ byV D) ++ R.take u.size ++ (R.drop u.size ++ (mixT h_ N ++ C)) := by simp only [mixV, List.append_assoc]
        rw [← e, List.take_append_drop]
        exact hr)
      have ho2 : Only B w (wr.drew.setCells B (o + 9 + h_) (byV (numsOf u))) := Only.setCells _ _ _ ho1.drew
      obtain ⟨w2, hw2⟩ : ∃ w2, wr.drew.setCells B (o + 9 + h_) (byV (numsOf u)) = w2 := ⟨_, rfl⟩
      rw [hw2] at hcp hr2 ho2
      have hl73 : (A ++ mixA st ++ byV D ++ byV (numsOf u) ++ R.drop u.size).length = o + 73 := by have h0 := HO0.out; simp [mixA, hdl, hul, hR]; omega
      have hr2' : Row w2 B t ((A ++ mixA st ++ byV D ++ byV (numsOf u) ++ R.drop u.size) ++ [.int .i64 (h_ : Nat)] ++ ([.int .i64 (N : Nat)] ++ C)) := by simpa [mixT] using hr2
      have c2 : w2.cell? ⟨B, o + 73, none⟩ = some (.int .i64 (h_ : Nat)) := hr2'.at hl73.symm
      have c3 : ∀ i, w2.frozen? ⟨B, i, none⟩ = false := fun i => hr2.frozen i
      have j2 : IntKind.i64.wrap ((h_ : Int) + (u.size : Int)) = h_ + u.size := by rw [IntKind.wrap_i64]; omega
      have hr3 : Row (w2.setCell ⟨B, o + 73, none⟩ (.int .i64 ((h_ : Int) + (u.size : Int)))) B t ((A ++ mixA st ++ byV D ++ byV (numsOf u) ++ R.drop u.size) ++ [.int .i64 ((h_ : Int) + (u.size : Int))] ++ ([.int .i64 (N : Nat)] ++ C)) := hr2'.set _ hl73.symm
      have ho3 := ho2.setCell (o + 73) (.int .i64 ((h_ : Int) + (u.size : Int)))
      obtain ⟨w3, hw3⟩ : ∃ w3, w2.setCell ⟨B, o + 73, none⟩ (.int .i64 ((h_ : Int) + (u.size : Int))) = w3 := ⟨_, rfl⟩
      rw [hw3] at hr3 ho3
      have c4 : w3.cell? ⟨B, o + 73, none⟩ = some (.int .i64 ((h_ : Int) + (u.size : Int))) := hr3.at hl73.symm
      have ib : (((h_ : Int) + (u.size : Int)) == 64) = false := by simp; omega
      have k1 : (u.size : Int) ≤ u.size := by omega
      have HF : Hid (MixIn w3 B t A C (l ++ (numsOf s).take s.size) N ∧ Only B w w3) := by
        obtain ⟨hl1, hN, hh, hu, hus, hun, hD, hst⟩ := HH.out
        have e : l ++ (numsOf s).take s.size = l1 ++ numsOf u := by
          rw [hl1, hun, List.append_assoc, List.take_append_drop, List.take_of_length_le (by rw [numsOf_length]; exact Nat.le_refl _)]
        rw [e]
        refine ⟨mixIn_part w3 B t A C l1 (numsOf u) (R.drop u.size) h_ u.size N _ ?_ hh (numsOf_length u) (by omega) (by rw [List.length_drop, hR]; omega) (fun v hv => HRO.out v (List.mem_of_mem_drop hv)) (by rw [← hst, ← hD]; exact hr3), ho3⟩
        omega
      clear hr hr2 hr2' hr3 ho1 ho2 ho3 hcells hv
      go_wp2_with fail
      go_region_held3 (fun w' => w'.cell? ⟨B, o + 73, none⟩ = some (.int .i64 (h_ : Nat))) (simp [go_sem, *]) (fail)
      go_wp2_with fail
      refine ⟨⟨s.size, Nat.le_refl _, by simp, ?_, HF.out.2⟩, by simp [strSize]; omega⟩
      have := HF.out.1
      rw [HH.out.2.1] at this
      exact this
    · have hcells : ∀ j, j < 64 - h_ → (wr.drew.cell? ⟨B, o + 9 + h_ + j, none⟩).isSome = true := fun j hj => by
        show (wr.cell? ⟨B, o + 9 + h_ + j, none⟩).isSome = true
        rw [hr.cell, List.getElem?_eq_getElem (by have h0 := HO0.out; simp [mixV, mixA, mixT, hdl, hR]; omega)]; rfl
      have hcp := run_copy_part (P := Tryz.prog) wr.drew 143 9 3 5 B (o + 9 + h_) (64 - h_) (64 - h_) u Tryz.underlying143 size_u8 (by omega) hcells (fun j _ => hr.frozen _)
      obtain ⟨un, hun0⟩ : ∃ un, un = (numsOf u).take (64 - h_) := ⟨_, rfl⟩
      have hv : ((u.data.toList.take (64 - h_)).map fun x => Value.int .u8 (x.toNat : Int)) = byV un := by rw [hun0, byV, numsOf, List.map_take, List.map_take, List.map_map]; rfl
      have hunl : un.length = 64 - h_ := by rw [hun0, List.length_take, numsOf_length]; omega
      have hunb : Bytes un := by rw [hun0]; exact (numsOf_bytes u).take _
      have HU : Hid (un = (numsOf u).take (64 - h_)) := hun0
      clear hun0
      rw [hv] at hcp
      have hr2 : Row (wr.drew.setCells B (o + 9 + h_) (byV un)) B t ((A ++ mixA st ++ byV D) ++ byV un ++ (mixT h_ N ++ C)) := Row.setCells _ R _ _ _ (by simp [byV, hunl, hR]) (by have h0 := HO0.out; simp [mixA, hdl]; omega) (by
        have e : A ++ mixV st (byV D ++ R) h_ N ++ C = (A ++ mixA st ++ byV D) ++ R ++ (mixT h_ N ++ C) := by simp only [mixV, List.append_assoc]
        rw [← e]
        exact hr)
      have ho2 : Only B w (wr.drew.setCells B (o + 9 + h_) (byV un)) := Only.setCells _ _ _ ho1.drew
      obtain ⟨w2, hw2⟩ : ∃ w2, wr.drew.setCells B (o + 9 + h_) (byV un) = w2 := ⟨_, rfl⟩
      rw [hw2] at hcp hr2 ho2
      have hl73 : (A ++ mixA st ++ byV D ++ byV un).length = o + 73 := by
        have : (byV un).length = 64 - h_ := by simp [byV, hunl]
        have h0 := HO0.out
        simp [mixA, hdl, this]; omega
      have hr2' : Row w2 B t ((A ++ mixA st ++ byV D ++ byV un) ++ [.int .i64 (h_ : Nat)] ++ ([.int .i64 (N : Nat)] ++ C)) := by simpa [mixT] using hr2
      have c2 : w2.cell? ⟨B, o + 73, none⟩ = some (.int .i64 (h_ : Nat)) := hr2'.at hl73.symm
      have c3 : ∀ i, w2.frozen? ⟨B, i, none⟩ = false := fun i => hr2.frozen i
      have j2 : IntKind.i64.wrap ((h_ : Int) + ((64 - h_ : Nat) : Int)) = 64 := by rw [IntKind.wrap_i64]; omega
      have hr3 : Row (w2.setCell ⟨B, o + 73, none⟩ (.int .i64 64)) B t ((A ++ mixA st ++ byV D ++ byV un) ++ [.int .i64 64] ++ ([.int .i64 (N : Nat)] ++ C)) := hr2'.set _ hl73.symm
      have ho3 := ho2.setCell (o + 73) (.int .i64 64)
      obtain ⟨w3, hw3⟩ : ∃ w3, w2.setCell ⟨B, o + 73, none⟩ (.int .i64 64) = w3 := ⟨_, rfl⟩
      rw [hw3] at hr3 ho3
      have c4 : w3.cell? ⟨B, o + 73, none⟩ = some (.int .i64 64) := hr3.at hl73.symm
      have k1 : ((64 - h_ : Nat) : Int) ≤ u.size := by omega
      have k2 : (0 : Int) ≤ ((64 - h_ : Nat) : Int) := by omega
      have e1 : w3.cell? ⟨B, o + 1, none⟩ = some (.int .u32 (st.a : Nat)) := stIn_cell hr3 HO0.out 1 _ (by decide) rfl
      have e2 : w3.cell? ⟨B, o + 2, none⟩ = some (.int .u32 (st.b : Nat)) := stIn_cell hr3 HO0.out 2 _ (by decide) rfl
      have e3 : w3.cell? ⟨B, o + 3, none⟩ = some (.int .u32 (st.c : Nat)) := stIn_cell hr3 HO0.out 3 _ (by decide) rfl
      have e4 : w3.cell? ⟨B, o + 4, none⟩ = some (.int .u32 (st.d : Nat)) := stIn_cell hr3 HO0.out 4 _ (by decide) rfl
      have e5 : w3.cell? ⟨B, o + 5, none⟩ = some (.int .u32 (st.e : Nat)) := stIn_cell hr3 HO0.out 5 _ (by decide) rfl
      have e6 : w3.cell? ⟨B, o + 6, none⟩ = some (.int .u32 (st.f : Nat)) := stIn_cell hr3 HO0.out 6 _ (by decide) rfl
      have e7 : w3.cell? ⟨B, o + 7, none⟩ = some (.int .u32 (st.g : Nat)) := stIn_cell hr3 HO0.out 7 _ (by decide) rfl
      have e8 : w3.cell? ⟨B, o + 8, none⟩ = some (.int .u32 (st.h : Nat)) := stIn_cell hr3 HO0.out 8 _ (by decide) rfl
      have HR3 : Hid (Row w3 B t ((A ++ mixA st ++ byV D ++ byV un) ++ [.int .i64 64] ++ ([.int .i64 (N : Nat)] ++ C)) ∧ Only B w w3 ∧ (A ++ mixA st ++ byV D ++ byV un).length = o + 73) := ⟨hr3, ho3, hl73⟩
      clear hr hr2 hr2' hr3 ho1 ho2 ho3 hcells hv hl73
      go_wp2_with fail
      go_region_held3 (fun w' => w'.cell? ⟨B, o + 73, none⟩ = some (.int .i64 (h_ : Nat))) (simp [go_sem, *]) (fail)
      go_wp2_with fail
      obtain ⟨hr3, ho3, hl73⟩ := HR3.out
      obtain ⟨hl1, hN, hh, hu, hus, hun, hD, hst⟩ := HH.out
      have hl1b : Bytes l1 := by rw [hl1]; exact hb.append ((numsOf_bytes s).take _)
      have hDb : Bytes (D ++ un) := by rw [hD]; exact (hl1b.drop _).append hunb
      have hok : st.ok := by rw [hst]; exact absorb_ok _ _
      have hDl : (D ++ un).length = 64 := by
        have h1 : D.length = h_ := by rw [hD, List.length_drop]; omega
        rw [List.length_append, h1, hunl]; omega
      have HC : Hid (∀ i, i < 64 → w3.cell? ⟨B, o + 9 + i, none⟩ = some (.int .u8 ((D ++ un).getD i 0 : Nat))) := fun i hi => by
        have hr4 : Row w3 B t (A ++ mixA st ++ byV (D ++ un) ++ ([.int .i64 64] ++ [.int .i64 (N : Nat)] ++ C)) := by
          rw [byV_append]; simpa using hr3
        have hl9 : (A ++ mixA st).length = o + 9 := by have h0 := HO0.out; simp [mixA]; omega
        rw [hr4.cell, List.append_assoc, List.getElem?_append_right (by omega), hl9, show o + 9 + i - (o + 9) = i by omega, List.getElem?_append_left (by rw [byV, List.length_map, hDl]; exact hi), byV_get _ i (by omega)]
      have hq3 : Cubes w3 := hq.only ho3 hB
      have HQ : Hid (Cubes w3 ∧ Bytes (D ++ un) ∧ st.ok ∧ B < w3.heap.size) := ⟨hq3, hDb, hok, hr3.lt⟩
      have HR4 : Hid (Row w3 B t (A ++ mixA st ++ (byV D ++ byV un ++ ([.int .i64 64] ++ [.int .i64 (N : Nat)] ++ C)))) := by
        show Row _ _ _ _
        simpa using hr3
      clear hr3 ho3 hl73 hl1 hN hh hu hus hun hD hst hl1b hDb hok hDl hq3
      go_region_with (first | (go_at_call 156; refine (with_any st HQ.out.2.2.1 (D ++ un) HQ.out.2.1 B (o + 9) w3.drew HQ.out.1 HQ.out.2.2.2 HC.out).mono ?_; rintro e w4 ⟨rfl, hb4⟩; have HS := store_stateM w4 B o t A HO0.out st (comp st (D ++ un)) _ (Row.below (w := w3.drew) HR4.out hb4 HQ.out.2.2.2); obtain ⟨w5, hw5⟩ : ∃ w5, w4.setCells B (o + 1) (stC (comp st (D ++ un))).toList = w5 := ⟨_, rfl⟩; rw [hw5] at HS; have hs5 := HS.1; have H5 : Hid _ := HS.2; clear HS hw5))
      obtain ⟨hr5, ho5⟩ := H5.out
      have hlA : (A ++ mixA (comp st (D ++ un)) ++ (byV D ++ byV un)).length = o + 73 := by
        have := HR3.out.2.2
        have h0 := HO0.out
        simp only [List.length_append, mixA_length] at this ⊢; omega
      have hr5' : Row w5 B t ((A ++ mixA (comp st (D ++ un)) ++ (byV D ++ byV un)) ++ [.int .i64 64] ++ ([.int .i64 (N : Nat)] ++ C)) := by simpa using hr5
      have c5 : w5.cell? ⟨B, o + 73, none⟩ = some (.int .i64 64) := hr5'.at hlA.symm
      have c6 : w5.frozen? ⟨B, o + 73, none⟩ = false := hr5'.frozen _
      have hr6 : Row (w5.setCell ⟨B, o + 73, none⟩ (.int .i64 0)) B t (A ++ mixV (comp st (D ++ un)) (byV (D ++ un)) 0 N ++ C) := by
        have h1 := hr5'.set (.int .i64 0) hlA.symm
        rw [mixV, byV_append, mixT]
        simpa using h1
      have ho6 : Only B w (w5.setCell ⟨B, o + 73, none⟩ (.int .i64 0)) := (((HR3.out.2.1.drew).trans (Only.of_below hb4)).trans ho5).setCell _ _
      obtain ⟨w6, hw6⟩ : ∃ w6, w5.setCell ⟨B, o + 73, none⟩ (.int .i64 0) = w6 := ⟨_, rfl⟩
      rw [hw6] at hr6 ho6
      have HF : Hid (MixIn w6 B t A C (l ++ (numsOf s).take (p + (64 - h_))) N ∧ Only B w w6 ∧ u.extract (64 - h_) u.size = s.extract (p + (64 - h_)) s.size ∧ p + (64 - h_) ≤ s.size ∧ N = (l ++ numsOf s).length) := by
        obtain ⟨hl1, hN, hh, hu, hus, hun, hD, hst⟩ := HH.out
        have e : l ++ (numsOf s).take (p + (64 - h_)) = l1 ++ un := by
          rw [hl1, HU.out, hun, List.append_assoc, List.take_add]
        refine ⟨?_, ho6, ?_, by omega, hN⟩
        · rw [e]
          exact mixIn_block w6 B t A C l1 un h_ N hh hunl (by rw [← hst, ← hD]; exact hr6)
        · rw [hu, ByteArray.extract_extract]
          congr 1
          simp
          omega
      clear hr5 ho5 hr5' hr6 ho6 hb4 hs5 H5 hlA
      go_wp2_with fail
      refine ⟨⟨p + (64 - h_), HF.out.2.2.2.1, by rw [HF.out.2.2.1], ?_, HF.out.2.1⟩, ?_⟩
      · rw [← HF.out.2.2.2.2]; exact HF.out.1
      · simp [strSize]; omega
end Go.Proofs.YtoopaigpjefonaaGreatDoor.Sm
