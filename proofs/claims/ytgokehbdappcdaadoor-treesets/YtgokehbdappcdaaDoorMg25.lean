/- sum.schedule, called with a pointer to a block of 64 bytes, tells its 64 words, and changes nothing that was there. -/
import Derived.Test.YtgokehbdappcdaaDoorMg24
import Derived.Deep.WholeRow
import Derived.Deep.RegionHeld3
import Derived.Deep.QuietTactic
import Derived.BigQuiet
namespace Go.Proofs.YtgokehbdappcdaaDoor.Sm
set_option maxRecDepth 20000
open Go.RowKit

/-- A row of 64 words, of which the first ones are told. -/
def rowC (l : List Nat) : Array Value := (l.map (fun x => Value.int .u32 (x : Nat)) ++ List.replicate (64 - l.length) (Value.int .u32 0)).toArray
theorem rowC_set (l : List Nat) (x : Nat) (h : l.length < 64) : (rowC l).setIfInBounds l.length (Value.int .u32 (x : Nat)) = rowC (l ++ [x]) := by
  obtain ⟨k, hk⟩ : ∃ k, 64 - l.length = k + 1 := ⟨63 - l.length, by omega⟩
  have hk2 : 64 - (l ++ [x]).length = k := by simp; omega
  unfold rowC
  rw [hk, hk2, List.setIfInBounds_toArray, List.replicate_succ]
  congr 1
  rw [List.set_append_right _ _ (by simp)]
  simp
theorem rowC_get (l : List Nat) (i : Nat) (h : i < l.length) : (rowC l)[i]? = some (Value.int .u32 (l.getD i 0 : Nat)) := by
  unfold rowC
  rw [List.getElem?_toArray, List.getElem?_append_left (by simpa using h), List.getElem?_map, List.getElem?_eq_getElem h, getD_at _ _ h]
  rfl
theorem rowC_rest (l : List Nat) (i : Nat) (h : l.length ≤ i) (h2 : i < 64) : (rowC l)[i]? = some (Value.int .u32 0) := by
  unfold rowC
  rw [List.getElem?_toArray, List.getElem?_append_right (by simpa using h), List.getElem?_replicate, if_pos (by simp; omega)]
theorem rowC_size (l : List Nat) (h : l.length ≤ 64) : (rowC l).size = 64 := by
  simp [rowC]; omega
theorem rowC_full (l : List Nat) (h : l.length = 64) : rowC l = (l.map fun x => Value.int .u32 (x : Nat)).toArray := by
  simp [rowC, h]
theorem rowC_nil : rowC [] = (List.replicate 64 (Value.int .u32 0)).toArray := by simp [rowC]
theorem word_bits (x0 x1 x2 x3 : Nat) (h0 : x0 < 256) (h1 : x1 < 256) (h2 : x2 < 256) (h3 : x3 < 256) :
    bits .or .u32 (bits .or .u32 (bits .or .u32 (IntKind.u32.wrap (IntKind.u32.wrap (x0 : Int) * 16777216)) (IntKind.u32.wrap (IntKind.u32.wrap (x1 : Int) * 65536))) (IntKind.u32.wrap (IntKind.u32.wrap (x2 : Int) * 256))) (IntKind.u32.wrap (x3 : Int)) = ((x0 * 16777216 + x1 * 65536 + x2 * 256 + x3 : Nat) : Int) := by
  have e0 : IntKind.u32.wrap (IntKind.u32.wrap (x0 : Int) * 16777216) = ((x0 * 16777216 : Nat) : Int) := by rw [IntKind.wrap_u32, IntKind.wrap_u32]; omega
  have e1 : IntKind.u32.wrap (IntKind.u32.wrap (x1 : Int) * 65536) = ((x1 * 65536 : Nat) : Int) := by rw [IntKind.wrap_u32, IntKind.wrap_u32]; omega
  have e2 : IntKind.u32.wrap (IntKind.u32.wrap (x2 : Int) * 256) = ((x2 * 256 : Nat) : Int) := by rw [IntKind.wrap_u32, IntKind.wrap_u32]; omega
  have e3 : IntKind.u32.wrap (x3 : Int) = (x3 : Int) := by rw [IntKind.wrap_u32]; omega
  rw [e0, e1, e2, e3, u32_or_nat _ _ (by omega) (by omega), nat_join 24 _ _ (by omega) (by omega), u32_or_nat _ _ (by omega) (by omega), nat_join 16 _ _ (by omega) (by omega), u32_or_nat _ _ (by omega) (by omega), nat_join 8 _ _ (by omega) (by omega)]
theorem ss0_bits (y : Nat) (h : y < 4294967296) : bits .xor .u32 (bits .xor .u32 ((rotr y 7 : Nat) : Int) ((rotr y 18 : Nat) : Int)) ((y : Int) / 8) = ((ss0 y : Nat) : Int) := by
  rw [show (y : Int) / 8 = ((y / 8 : Nat) : Int) by omega, u32_xor_nat _ _ (rotr_lt _ _) (rotr_lt _ _), u32_xor_nat _ _ (xor_lt (rotr_lt _ _) (rotr_lt _ _)) (by omega)]
  rfl
theorem ss1_bits (y : Nat) (h : y < 4294967296) : bits .xor .u32 (bits .xor .u32 ((rotr y 17 : Nat) : Int) ((rotr y 19 : Nat) : Int)) ((y : Int) / 1024) = ((ss1 y : Nat) : Int) := by
  rw [show (y : Int) / 1024 = ((y / 1024 : Nat) : Int) by omega, u32_xor_nat _ _ (rotr_lt _ _) (rotr_lt _ _), u32_xor_nat _ _ (xor_lt (rotr_lt _ _) (rotr_lt _ _)) (by omega)]
  rfl
theorem next_bits (y16 y15 y7 y2 : Nat) (h15 : y15 < 4294967296) (h2 : y2 < 4294967296) :
    IntKind.u32.wrap (IntKind.u32.wrap (IntKind.u32.wrap ((y16 : Int) + bits .xor .u32 (bits .xor .u32 ((rotr y15 7 : Nat) : Int) ((rotr y15 18 : Nat) : Int)) ((y15 : Int) / 8)) + (y7 : Int)) + bits .xor .u32 (bits .xor .u32 ((rotr y2 17 : Nat) : Int) ((rotr y2 19 : Nat) : Int)) ((y2 : Int) / 1024)) = (((y16 + ss0 y15 + y7 + ss1 y2) % 4294967296 : Nat) : Int) := by
  rw [ss0_bits y15 h15, ss1_bits y2 h2, IntKind.wrap_u32, IntKind.wrap_u32, IntKind.wrap_u32]
  omega
theorem below_rowG {B g : Nat} {w0 w : World} (h : Below B w0 w) (hg : B ≤ g) (cs : Array Value) : Below B w0 (w.setRow g cs) :=
  h.trans ⟨rfl, rfl, rfl, by simp [World.setRow], fun k hk => setRow_other _ _ _ _ (by omega)⟩
theorem zeros_alloc2 (w : World) (o1 : Obj) (c : Array Value) (t : TypeId) : ((w.alloc o1).alloc (.cells c t)).heap[w.heap.size + 1]? = some (.cells c t (0, 0)) := heap_alloc2_new w _ _

set_option maxHeartbeats 4000000 in
theorem schedule_any (b : List Nat) (hb : Bytes b) (g off : Nat) (w : World) (hg : g < w.heap.size)
    (hc : ∀ i, i < 64 → w.cell? ⟨g, off + i, none⟩ = some (.int .u8 (b.getD i 0 : Nat))) :
    Calls Tryd.prog 78 #[.pointer (some ⟨g, off, none⟩)] w fun e w' => e = .returned (.agg ((schedL b).map fun x => Value.int .u32 (x : Nat)).toArray) ∧ Below w.heap.size w w' := by
  have HC : Hid (∀ i, i < 64 → w.cell? ⟨g, off + i, none⟩ = some (.int .u8 (b.getD i 0 : Nat))) := hc
  clear hc
  go_enter Tryd.func78, Tryd.ntmps78
  go_wp2_with fail
  go_loopw [8] (fun i wr => ∃ j : Nat, j ≤ 16 ∧ i = .int .i64 j ∧ wr.heap[w.heap.size + 1]? = some (.cells (rowC (words16 b j)) 146 (0, 0)) ∧ wr.heap[w.heap.size]? = some (.cells (rowC []) 146 (0, 0)) ∧ Below w.heap.size w wr) (fun i _ => 16 - (intOf i).toNat)
  case atStart =>
    refine ⟨0, Nat.zero_le _, rfl, ?_, ?_, ?_⟩
    · exact heap_alloc2_new w _ _
    · exact heap_alloc2_old w _ _
    · exact ((Below.refl _ _).alloc (Nat.le_refl _) _).alloc (by simp) _
  case round =>
    obtain ⟨j, hj, rfl, k1, k0, hbw⟩ := hrel
    by_cases hlt : j < 16
    · have c0 := (hbw.cell (p := ⟨g, off + 4 * j, none⟩) hg).trans (HC.out (4 * j) (by omega))
      have c1 := (hbw.cell (p := ⟨g, off + (4 * j + 1), none⟩) hg).trans (HC.out (4 * j + 1) (by omega))
      have c2 := (hbw.cell (p := ⟨g, off + (4 * j + 2), none⟩) hg).trans (HC.out (4 * j + 2) (by omega))
      have c3 := (hbw.cell (p := ⟨g, off + (4 * j + 3), none⟩) hg).trans (HC.out (4 * j + 3) (by omega))
      obtain ⟨x0, hx0⟩ : ∃ x, x = b.getD (4 * j) 0 := ⟨_, rfl⟩
      obtain ⟨x1, hx1⟩ : ∃ x, x = b.getD (4 * j + 1) 0 := ⟨_, rfl⟩
      obtain ⟨x2, hx2⟩ : ∃ x, x = b.getD (4 * j + 2) 0 := ⟨_, rfl⟩
      obtain ⟨x3, hx3⟩ : ∃ x, x = b.getD (4 * j + 3) 0 := ⟨_, rfl⟩
      rw [← hx0] at c0
      rw [← hx1] at c1
      rw [← hx2] at c2
      rw [← hx3] at c3
      have b0 : x0 < 256 := by rw [hx0]; exact getD_lt (by decide) hb _
      have b1 : x1 < 256 := by rw [hx1]; exact getD_lt (by decide) hb _
      have b2 : x2 < 256 := by rw [hx2]; exact getD_lt (by decide) hb _
      have b3 : x3 < 256 := by rw [hx3]; exact getD_lt (by decide) hb _
      have HX : Hid (wordN b j = x0 * 16777216 + x1 * 65536 + x2 * 256 + x3) := by show wordN b j = _; rw [wordN, hx0, hx1, hx2, hx3]
      clear hx0 hx1 hx2 hx3
      have t0 : ((4 : Int) * j).toNat = 4 * j := by omega
      have t1 : ((4 : Int) * j + 1).toNat = 4 * j + 1 := by omega
      have t2 : ((4 : Int) * j + 2).toNat = 4 * j + 2 := by omega
      have t3 : ((4 : Int) * j + 3).toNat = 4 * j + 3 := by omega
      have q0 : IntKind.i64.wrap (4 * (j : Int)) = 4 * j := by rw [IntKind.wrap_i64]; omega
      have q1 : IntKind.i64.wrap (4 * (j : Int) + 1) = 4 * j + 1 := by rw [IntKind.wrap_i64]; omega
      have q2 : IntKind.i64.wrap (4 * (j : Int) + 2) = 4 * j + 2 := by rw [IntKind.wrap_i64]; omega
      have q3 : IntKind.i64.wrap (4 * (j : Int) + 3) = 4 * j + 3 := by rw [IntKind.wrap_i64]; omega
      have r0 : (0 : Int) ≤ 4 * (j : Int) := by omega
      have r1 : (0 : Int) ≤ 4 * (j : Int) + 1 := by omega
      have r2 : (0 : Int) ≤ 4 * (j : Int) + 2 := by omega
      have r3 : (0 : Int) ≤ 4 * (j : Int) + 3 := by omega
      have s0 : 4 * (j : Int) < 64 := by omega
      have s1 : 4 * (j : Int) + 1 < 64 := by omega
      have s2 : 4 * (j : Int) + 2 < 64 := by omega
      have s3 : 4 * (j : Int) + 3 < 64 := by omega
      have s4 : (j : Int) < 64 := by omega
      have d1 : wr.cell? ⟨w.heap.size + 1, j, none⟩ = some (.int .u32 0) := (cell_of_row _ _ _ _ _ _ k1).trans (rowC_rest _ _ (by rw [words16_length]; exact Nat.le_refl _) (by omega))
      have hgne : g ≠ w.heap.size + 1 := by omega
      have hgne' := hgne.symm
      have d2 : wr.frozen? ⟨w.heap.size + 1, j, none⟩ = false := by simp [World.frozen?, k1]
      go_wp2_with fail
      go_region_held3 (fun w' => w'.cell? ⟨g, off + 4 * j, none⟩ = some (.int .u8 x0) ∧ w'.cell? ⟨g, off + (4 * j + 1), none⟩ = some (.int .u8 x1) ∧ w'.cell? ⟨g, off + (4 * j + 2), none⟩ = some (.int .u8 x2) ∧ w'.cell? ⟨g, off + (4 * j + 3), none⟩ = some (.int .u8 x3)) (simp [go_sem, *]) (fail)
      rw [word_bits x0 x1 x2 x3 b0 b1 b2 b3, ← HX.out]
      have k1' := heap_setCell_same wr (w.heap.size + 1) j _ _ (Value.int .u32 (wordN b j : Nat)) k1
      have k0' := (Below.heap_setCell wr ⟨w.heap.size + 1, j, none⟩ (Value.int .u32 (wordN b j : Nat)) w.heap.size (by simp)).trans k0
      have hbw' := hbw.setCell (p := ⟨w.heap.size + 1, j, none⟩) (by simp) (Value.int .u32 (wordN b j : Nat))
      have hr := rowC_set (words16 b j) (wordN b j) (by rw [words16_length]; omega)
      rw [words16_length] at hr
      rw [hr] at k1'
      clear hr
      generalize wr.setCell ⟨w.heap.size + 1, j, none⟩ (Value.int .u32 (wordN b j : Nat)) = w2 at *
      clear c0 c1 c2 c3 d1 d2 k0 k1 hbw
      go_wp2
      go_roundw
      case rel => exact ⟨j + 1, by omega, by go_num, k1', k0', hbw'.drew⟩
      case measure => simp [intOf]; omega
    · obtain rfl : j = 16 := by omega
      rw [show ((16 : Nat) : Int) = 16 from rfl]
      go_wp2_with fail
      go_loopw [5] (fun i wr => ∃ j : Nat, 16 ≤ j ∧ j ≤ 64 ∧ i = .int .i64 j ∧ wr.heap[w.heap.size + 1]? = some (.cells (rowC (grow (words16 b 16) (j - 16))) 146 (0, 0)) ∧ wr.heap[w.heap.size]? = some (.cells (rowC []) 146 (0, 0)) ∧ Below w.heap.size w wr) (fun i _ => 64 - (intOf i).toNat)
      case atStart => exact ⟨16, Nat.le_refl _, by omega, rfl, k1, k0, hbw⟩
      case round =>
        clear k1 k0 hbw
        obtain ⟨j, hj1, hj2, rfl, k1, k0, hbw⟩ := hrel
        obtain ⟨l, hl2⟩ : ∃ l, l = grow (words16 b 16) (j - 16) := ⟨_, rfl⟩
        have hll : l.length = j := by rw [hl2, grow_length, words16_length]; omega
        rw [← hl2] at k1
        by_cases hlt : j < 64
        · have cget : ∀ i, i < j → wr.cell? ⟨w.heap.size + 1, i, none⟩ = some (.int .u32 (l.getD i 0 : Nat)) := fun i hi => (cell_of_row _ _ _ _ _ _ k1).trans (rowC_get _ _ (by omega))
          have lget : ∀ i, i < j → l.getD i 0 < 4294967296 := fun i hi => by
            have h1 := schedN_eq b i (j - 16) (by omega) (by omega)
            rw [← hl2] at h1
            rw [← h1]
            exact schedN_lt hb i
          have c16 := cget (j - 16) (by omega)
          have c15 := cget (j - 15) (by omega)
          have c7 := cget (j - 7) (by omega)
          have c2 := cget (j - 2) (by omega)
          have b16 := lget (j - 16) (by omega)
          have b15 := lget (j - 15) (by omega)
          have b7 := lget (j - 7) (by omega)
          have b2 := lget (j - 2) (by omega)
          have HN : Hid (nextW l = (l.getD (j - 16) 0 + ss0 (l.getD (j - 15) 0) + l.getD (j - 7) 0 + ss1 (l.getD (j - 2) 0)) % 4294967296) := by show nextW l = _; rw [nextW, hll]
          have HL : Hid (l = grow (words16 b 16) (j - 16) ∧ l.length = j) := ⟨hl2, hll⟩
          generalize l.getD (j - 16) 0 = y16 at *
          generalize l.getD (j - 15) 0 = y15 at *
          generalize l.getD (j - 7) 0 = y7 at *
          generalize l.getD (j - 2) 0 = y2 at *
          have d1 : wr.cell? ⟨w.heap.size + 1, j, none⟩ = some (.int .u32 0) := (cell_of_row _ _ _ _ _ _ k1).trans (rowC_rest _ _ (by omega) (by omega))
          have d2 : ∀ i, wr.frozen? ⟨w.heap.size + 1, i, none⟩ = false := fun i => by simp [World.frozen?, k1]
          clear cget lget hl2 hll
          have t0 : ((j : Int) - 16).toNat = j - 16 := by omega
          have t1 : ((j : Int) - 15).toNat = j - 15 := by omega
          have t2 : ((j : Int) - 7).toNat = j - 7 := by omega
          have t3 : ((j : Int) - 2).toNat = j - 2 := by omega
          have q0 : IntKind.i64.wrap ((j : Int) - 16) = j - 16 := by rw [IntKind.wrap_i64]; omega
          have q1 : IntKind.i64.wrap ((j : Int) - 15) = j - 15 := by rw [IntKind.wrap_i64]; omega
          have q2 : IntKind.i64.wrap ((j : Int) - 7) = j - 7 := by rw [IntKind.wrap_i64]; omega
          have q3 : IntKind.i64.wrap ((j : Int) - 2) = j - 2 := by rw [IntKind.wrap_i64]; omega
          have r0 : (0 : Int) ≤ (j : Int) - 16 := by omega
          have r1 : (0 : Int) ≤ (j : Int) - 15 := by omega
          have r2 : (0 : Int) ≤ (j : Int) - 7 := by omega
          have r3 : (0 : Int) ≤ (j : Int) - 2 := by omega
          have s0 : (j : Int) - 16 < 64 := by omega
          have s1 : (j : Int) - 15 < 64 := by omega
          have s2 : (j : Int) - 7 < 64 := by omega
          have s3 : (j : Int) - 2 < 64 := by omega
          have s4 : (j : Int) < 64 := by omega
          have u0 : (16 : Int) ≤ (j : Int) := by omega
          have u1 : (15 : Int) ≤ (j : Int) := by omega
          have u2 : (7 : Int) ≤ (j : Int) := by omega
          have u3 : (2 : Int) ≤ (j : Int) := by omega
          go_wp2_with fail
          go_region_held3 (fun w' => w'.cell? ⟨w.heap.size + 1, j - 15, none⟩ = some (.int .u32 y15) ∧ w'.cell? ⟨w.heap.size + 1, j - 2, none⟩ = some (.int .u32 y2)) (simp [go_sem, *]) (fail)
          go_wp2_with fail
          go_region_held3 (fun w' => w'.cell? ⟨w.heap.size + 1, j - 16, none⟩ = some (.int .u32 y16) ∧ w'.cell? ⟨w.heap.size + 1, j - 7, none⟩ = some (.int .u32 y7)) (simp [go_sem, *]) (first | (go_at_call 79; refine (right_any y15 7 b15 (by decide) (by decide) _).mono ?_; rintro e w' ⟨rfl, rfl⟩) | (go_at_call 79; refine (right_any y15 18 b15 (by decide) (by decide) _).mono ?_; rintro e w' ⟨rfl, rfl⟩) | (go_at_call 79; refine (right_any y2 17 b2 (by decide) (by decide) _).mono ?_; rintro e w' ⟨rfl, rfl⟩) | (go_at_call 79; refine (right_any y2 19 b2 (by decide) (by decide) _).mono ?_; rintro e w' ⟨rfl, rfl⟩))
          rw [next_bits y16 y15 y7 y2 b15 b2, ← HN.out]
          have k1' := heap_setCell_same wr (w.heap.size + 1) j _ _ (Value.int .u32 (nextW l : Nat)) k1
          have k0' := (Below.heap_setCell wr ⟨w.heap.size + 1, j, none⟩ (Value.int .u32 (nextW l : Nat)) w.heap.size (by simp)).trans k0
          have hbw' := hbw.setCell (p := ⟨w.heap.size + 1, j, none⟩) (by simp) (Value.int .u32 (nextW l : Nat))
          have hr := rowC_set l (nextW l) (by have := HL.out.2; omega)
          rw [HL.out.2] at hr
          rw [hr] at k1'
          clear hr
          generalize wr.setCell ⟨w.heap.size + 1, j, none⟩ (Value.int .u32 (nextW l : Nat)) = w2 at *
          clear c16 c15 c7 c2 d1 d2 k0 k1 hbw
          go_wp2
          go_roundw
          case rel =>
            refine ⟨j + 1, by omega, by omega, by go_num, ?_, k0', hbw'.drew.drew⟩
            rw [show j + 1 - 16 = (j - 16) + 1 by omega, grow, ← HL.out.1]
            exact k1'
          case measure => simp [intOf]; omega
        · obtain rfl : j = 64 := by omega
          have hrow : rowC l = ((schedL b).map fun x => Value.int .u32 (x : Nat)).toArray := by
            rw [rowC_full l hll, hl2]; rfl
          have hsz : ((schedL b).map fun x => Value.int .u32 (x : Nat)).toArray.size = 64 := by simp [schedL_length]
          have hone : (((schedL b).map fun x => Value.int .u32 (x : Nat)).toArray).all (·.oneCell') = true := by simp [Value.oneCell']
          rw [hrow] at k1
          clear hrow hll hl2
          obtain ⟨cs, hcs⟩ : ∃ cs, cs = ((schedL b).map fun x => Value.int .u32 (x : Nat)).toArray := ⟨_, rfl⟩
          rw [← hcs] at k1 hsz hone
          have HCS : Hid (cs = ((schedL b).map fun x => Value.int .u32 (x : Nat)).toArray) := hcs
          clear hcs
          have hs0 : (rowC []).size = cs.size := by rw [hsz]; rfl
          have hinfo : (Tryd.prog.info? 146).map (·.size) = some cs.size := by rw [hsz]; kernel_rfl
          have hba := below_rowG hbw (Nat.le_refl _) cs
          have hl0 := run_loadVar_row (P := Tryd.prog) (wr.setRow w.heap.size cs) w.heap.size 146 146 cs (0, 0) _ (setRow_heap _ _ _ _ _ _ k0) Tryd.underlying146 rfl hinfo
          go_wp2_with (first | refine wpList_load_row rfl 146 _ rfl (w.heap.size + 1) rfl 146 _ (0, 0) _ k1 Tryd.underlying146 rfl hinfo ?_ | refine wpList_store_row rfl 146 _ _ rfl w.heap.size cs rfl rfl 146 _ k0 hinfo hs0 hone ?_)
          exact bodyPost_ret (v := .agg cs) (by simp [results, Tryd.results78, asAddr, Act.put, hl0]) rfl ⟨by rw [HCS.out], hba⟩
end Go.Proofs.YtgokehbdappcdaaDoor.Sm
