/- sum's Mix.Feed: what was fed stands behind what the mix has; nothing else is changed. -/
import Derived.Test.YtgokehbdappcdaaDoorMg28
namespace Go.Proofs.YtgokehbdappcdaaDoor.Sm
set_option maxRecDepth 20000
open Go.RowKit

/-- A text's bytes as numbers. -/
def numsOf (s : ByteArray) : List Nat := s.data.toList.map (·.toNat)
theorem numsOf_length (s : ByteArray) : (numsOf s).length = s.size := by simp [numsOf]
theorem numsOf_bytes (s : ByteArray) : Bytes (numsOf s) := fun x hx => by
  obtain ⟨y, _, rfl⟩ := List.mem_map.1 hx
  exact y.toNat_lt
def strSize : Value → Nat
  | .string t => t.size
  | _ => 0
/-- The mix in block B has the bytes l; its count says n. -/
def MixAt (w : World) (B : Nat) (l : List Nat) (n : Nat) : Prop := ∃ R : List Value, R.length = 64 - l.length % 64 ∧ Row w B 96 (mixV (absorb l (l.length / 64)) (byV (l.drop (64 * (l.length / 64))) ++ R) (l.length % 64) n)

theorem size_u8 (w : World) : (Go.sizeOf 5).run Tryd.prog w = .ok 1 w := by
  obtain ⟨i0, hi, hz0, hz1, hz2⟩ := info_parts (show (Tryd.prog.info? 5).map (fun i => (i.zero, i.size, i.bytes)) = some (some (.int .u8 0), 1, 1) by kernel_rfl)
  simp [Go.sizeOf, typeInfo, hi, hz1]
theorem numsOf_extract (s : ByteArray) (p q : Nat) : numsOf (s.extract p q) = ((numsOf s).drop p).take (q - p) := by
  rw [numsOf, Lib.extract_data, List.map_take, List.map_drop]
  rfl
theorem mix_len (l : List Nat) (R : List Value) (hR : R.length = 64 - l.length % 64) : (mixA (absorb l (l.length / 64)) ++ (byV (l.drop (64 * (l.length / 64))) ++ R)).length = 73 := by
  simp [mixA, byV, hR]; omega

theorem mixAt_part (w : World) (B : Nat) (l1 un : List Nat) (R : List Value) (h_ k N : Nat) (z : Int) (hz : z = ((h_ + k : Nat) : Int)) (hh : h_ = l1.length % 64) (hk : un.length = k) (hlt : h_ + k < 64) (hR : R.length = 64 - (h_ + k))
    (hr : Row w B 96 ((mixA (absorb l1 (l1.length / 64)) ++ byV (l1.drop (64 * (l1.length / 64))) ++ byV un ++ R) ++ [.int .i64 z] ++ [.int .i64 (N : Nat)])) : MixAt w B (l1 ++ un) N := by
  have e1 : (l1 ++ un).length / 64 = l1.length / 64 := by rw [List.length_append]; omega
  have e2 : (l1 ++ un).length % 64 = h_ + k := by rw [List.length_append]; omega
  refine ⟨R, by rw [e2]; exact hR, ?_⟩
  rw [e1, e2, absorb_append _ _ _ (by omega), List.drop_append_of_le_length (by omega), byV_append, mixV, mixT, ← hz]
  simpa using hr
set_option maxRecDepth 10000 in
set_option maxHeartbeats 1000000 in
theorem feed_short (B : Nat) (l : List Nat) (s : ByteArray) (hf : l.length % 64 + s.size < 64) (hs : l.length + s.size < 1099511627776) (w : World) (hm : MixAt w B l l.length) :
    Calls Tryd.prog 67 #[.pointer (some ⟨B, 0, none⟩), .string s] w fun e w' => e = .returned (.tuple #[]) ∧ MixAt w' B (l ++ numsOf s) (l ++ numsOf s).length ∧ Only B w w' := by
  have HF0 : Hid (l.length % 64 + s.size < 64) := hf
  clear hf
  obtain ⟨R, hR, hr⟩ := hm
  have hlm : (mixA (absorb l (l.length / 64)) ++ (byV (l.drop (64 * (l.length / 64))) ++ R)).length = 73 := by simp [mixA, byV, hR]; omega
  have c0 : w.cell? ⟨B, 0, none⟩ = some (.bool true) := hr.cell 0
  have c1 : w.cell? ⟨B, 74, none⟩ = some (.int .i64 (l.length : Nat)) := by
    rw [hr.cell, mixV, List.getElem?_append_right (by rw [hlm]; decide), hlm]; rfl
  have c2 : ∀ i, w.frozen? ⟨B, i, none⟩ = false := fun i => hr.frozen i
  have j1 : IntKind.i64.wrap ((l.length : Int) + (s.size : Int)) = l.length + s.size := by rw [IntKind.wrap_i64]; omega
  go_enter Tryd.func67, Tryd.ntmps67
  go_wp2_with fail
  obtain ⟨W1, hW1⟩ : ∃ W1, w.setCell ⟨B, 74, none⟩ (.int .i64 ((l.length : Int) + (s.size : Int))) = W1 := ⟨_, rfl⟩
  have hm1 : MixAt W1 B l (l ++ numsOf s).length := by
    refine ⟨R, hR, ?_⟩
    rw [← hW1]
    have h1 : Row w B 96 ((mixA (absorb l (l.length / 64)) ++ (byV (l.drop (64 * (l.length / 64))) ++ R) ++ [.int .i64 ((l.length % 64 : Nat) : Int)]) ++ [.int .i64 (l.length : Nat)] ++ []) := by simpa [mixV, mixT] using hr
    have h2 := h1.set (n := 74) (.int .i64 ((l.length : Int) + (s.size : Int))) (by rw [List.length_append, hlm]; rfl)
    have h3 : ((l ++ numsOf s).length : Int) = (l.length : Int) + (s.size : Int) := by rw [List.length_append, numsOf_length]; omega
    rw [mixV, mixT, h3]
    simpa using h2
  have ho1 : Only B w W1 := by rw [← hW1]; exact (Only.refl _ _).setCell _ _
  rw [hW1]
  clear c0 c1 c2 hlm hR hr hW1
  go_loopw [1] (fun v wr => ∃ p : Nat, p ≤ s.size ∧ v = .string (s.extract p s.size) ∧ MixAt wr B (l ++ (numsOf s).take p) (l ++ numsOf s).length ∧ Only B w wr) (fun v _ => strSize v)
  case atStart => exact ⟨0, Nat.zero_le _, by simp, by simpa using hm1, ho1⟩
  case round =>
    clear hm1 ho1
    obtain ⟨p, hp, rfl, hm1, ho1⟩ := hrel
    by_cases hlt : p < s.size
    case neg =>
      obtain rfl : p = s.size := by omega
      have hx : (s.extract s.size s.size).size = 0 := by simp
      obtain ⟨u, hu⟩ : ∃ u, u = s.extract s.size s.size := ⟨_, rfl⟩
      rw [← hu] at hx
      rw [← hu]
      clear hu
      go_wp2
      go_end0
      rw [List.take_of_length_le (by rw [numsOf_length]; exact Nat.le_refl _)] at hm1
      exact ⟨rfl, hm1, ho1⟩
    obtain ⟨l1, hl1⟩ : ∃ l1, l1 = l ++ (numsOf s).take p := ⟨_, rfl⟩
    obtain ⟨N, hN⟩ : ∃ N, N = (l ++ numsOf s).length := ⟨_, rfl⟩
    rw [← hl1, ← hN] at hm1
    obtain ⟨R, hR, hr⟩ := hm1
    obtain ⟨h_, hh⟩ : ∃ h_, h_ = l1.length % 64 := ⟨_, rfl⟩
    have hh64 : h_ < 64 := by omega
    have hlm := mix_len l1 R hR
    have hdl : (byV (l1.drop (64 * (l1.length / 64)))).length = h_ := by simp [byV]; omega
    rw [← hh] at hr hR
    obtain ⟨u, hu⟩ : ∃ u, u = s.extract p s.size := ⟨_, rfl⟩
    have hus : u.size = s.size - p := by rw [hu]; simp
    have hun : numsOf u = (numsOf s).drop p := by
      rw [hu, numsOf_extract, List.take_of_length_le (by rw [List.length_drop, numsOf_length]; omega)]
    have c1 : wr.cell? ⟨B, 73, none⟩ = some (.int .i64 (h_ : Nat)) := by
      rw [hr.cell, mixV, List.getElem?_append_right (by rw [hlm]; decide), hlm]; rfl
    have i0 : (0 : Int) < (u.size : Int) := by omega
    have i1 : (0 : Int) ≤ (h_ : Int) := by omega
    have i2 : (h_ : Int) ≤ 64 := by omega
    have i3 : ¬ 64 = h_ := by omega
    obtain ⟨D, hD⟩ : ∃ D, D = l1.drop (64 * (l1.length / 64)) := ⟨_, rfl⟩
    obtain ⟨st, hst⟩ : ∃ st, st = absorb l1 (l1.length / 64) := ⟨_, rfl⟩
    rw [← hD, ← hst] at hr
    rw [← hD] at hdl
    have hul : (byV (numsOf u)).length = u.size := by simp [byV, numsOf_length]
    rw [← hu]
    have HH : Hid (l1 = l ++ (numsOf s).take p ∧ N = (l ++ numsOf s).length ∧ h_ = l1.length % 64 ∧ u = s.extract p s.size ∧ u.size = s.size - p ∧ numsOf u = (numsOf s).drop p ∧ D = l1.drop (64 * (l1.length / 64)) ∧ st = absorb l1 (l1.length / 64)) := ⟨hl1, hN, hh, hu, hus, hun, hD, hst⟩
    clear hlm hl1 hN hh hu hus hun hD hst hp hs
    by_cases hroom : u.size < 64 - h_
    · have hcells : ∀ j, j < u.size → (wr.drew.cell? ⟨B, 9 + h_ + j, none⟩).isSome = true := fun j hj => by
        show (wr.cell? ⟨B, 9 + h_ + j, none⟩).isSome = true
        rw [hr.cell, List.getElem?_eq_getElem (by simp [mixV, mixA, mixT, hdl, hR]; omega)]; rfl
      have hcp := run_copy_string (P := Tryd.prog) wr.drew 107 9 3 5 B (9 + h_) (64 - h_) (64 - h_) u Tryd.underlying107 size_u8 (by omega) hcells (fun j _ => hr.frozen _)
      have hv : (u.data.toList.map fun x => Value.int .u8 (x.toNat : Int)) = byV (numsOf u) := by simp [byV, numsOf]
      rw [hv] at hcp
      have hr2 : Row (wr.drew.setCells B (9 + h_) (byV (numsOf u))) B 96 ((mixA st ++ byV D) ++ byV (numsOf u) ++ (R.drop u.size ++ mixT h_ N)) := Row.setCells _ (R.take u.size) _ _ _ (by rw [hul, List.length_take, hR]; omega) (by simp [mixA, hdl]; omega) (by
        have e : mixV st (byV D ++ (R.take u.size ++ R.drop u.size)) h_ N = (mixA st ++ byV D) ++ R.take u.size ++ (R.drop u.size ++ mixT h_ N) := by simp only [mixV, List.append_assoc]
        rw [← e, List.take_append_drop]
        exact hr)
      have ho2 : Only B w (wr.drew.setCells B (9 + h_) (byV (numsOf u))) := Only.setCells _ _ _ ho1.drew
      obtain ⟨w2, hw2⟩ : ∃ w2, wr.drew.setCells B (9 + h_) (byV (numsOf u)) = w2 := ⟨_, rfl⟩
      rw [hw2] at hcp hr2 ho2
      have hl73 : (mixA st ++ byV D ++ byV (numsOf u) ++ R.drop u.size).length = 73 := by simp [mixA, hdl, hul, hR]; omega
      have c2 : w2.cell? ⟨B, 73, none⟩ = some (.int .i64 (h_ : Nat)) := by
        rw [hr2.cell, ← List.append_assoc, List.getElem?_append_right (by rw [hl73]; decide), hl73]; rfl
      have c3 : ∀ i, w2.frozen? ⟨B, i, none⟩ = false := fun i => hr2.frozen i
      have j2 : IntKind.i64.wrap ((h_ : Int) + (u.size : Int)) = h_ + u.size := by rw [IntKind.wrap_i64]; omega
      have hr3 : Row (w2.setCell ⟨B, 73, none⟩ (.int .i64 ((h_ : Int) + (u.size : Int)))) B 96 ((mixA st ++ byV D ++ byV (numsOf u) ++ R.drop u.size) ++ [.int .i64 ((h_ : Int) + (u.size : Int))] ++ [.int .i64 (N : Nat)]) := Row.set (q := .int .i64 (h_ : Nat)) (by simpa [mixT] using hr2) _ hl73.symm
      have ho3 := ho2.setCell 73 (.int .i64 ((h_ : Int) + (u.size : Int)))
      obtain ⟨w3, hw3⟩ : ∃ w3, w2.setCell ⟨B, 73, none⟩ (.int .i64 ((h_ : Int) + (u.size : Int))) = w3 := ⟨_, rfl⟩
      rw [hw3] at hr3 ho3
      have c4 : w3.cell? ⟨B, 73, none⟩ = some (.int .i64 ((h_ : Int) + (u.size : Int))) := by
        rw [hr3.cell, List.append_assoc, List.getElem?_append_right (by rw [hl73]; decide), hl73]; rfl
      have ib : (((h_ : Int) + (u.size : Int)) == 64) = false := by simp; omega
      have k1 : (u.size : Int) ≤ u.size := by omega
      have HF : Hid (MixAt w3 B (l ++ (numsOf s).take s.size) N ∧ Only B w w3) := by
        obtain ⟨hl1, hN, hh, hu, hus, hun, hD, hst⟩ := HH.out
        have e : l ++ (numsOf s).take s.size = l1 ++ numsOf u := by
          rw [hl1, hun, List.append_assoc, List.take_append_drop, List.take_of_length_le (by rw [numsOf_length]; exact Nat.le_refl _)]
        rw [e]
        refine ⟨mixAt_part w3 B l1 (numsOf u) (R.drop u.size) h_ u.size N _ ?_ hh (numsOf_length u) (by omega) (by rw [List.length_drop, hR]; omega) (by rw [← hst, ← hD]; exact hr3), ho3⟩
        omega
      clear hr hr2 hr3 ho1 ho2 ho3 hcells hv
      go_wp2_with fail
      go_region_held3 (fun w' => w'.cell? ⟨B, 73, none⟩ = some (.int .i64 (h_ : Nat))) (simp [go_sem, *]) (fail)
      go_wp2_with fail
      refine ⟨⟨s.size, Nat.le_refl _, by simp, ?_, HF.out.2⟩, by simp [strSize]; omega⟩
      have := HF.out.1
      rw [HH.out.2.1] at this
      exact this
    · exfalso
      obtain ⟨hl1, hN, hh, hu, hus, hun, hD, hst⟩ := HH.out
      have h1 : l1.length = l.length + p := by rw [hl1, List.length_append, List.length_take, numsOf_length]; omega
      have h2 := HF0.out
      omega
end Go.Proofs.YtgokehbdappcdaaDoor.Sm
