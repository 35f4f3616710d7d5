/- The document's words: the 64 words of a block. -/
import Derived.Test.YtdhiopbomnfmnaaGreatDoorMg35
import Derived.Deep.RegionHeld3
import Derived.BigFrame
import Derived.BigQuiet
import Derived.Test.YtdhiopbomnfmnaaGreatDoorMg24
namespace Go.Proofs.YtdhiopbomnfmnaaGreatDoor.Sm
set_option maxRecDepth 20000
open Go.RowKit

theorem Below.size' {w w' : World} (h : Below w.heap.size w w') : w.heap.size ≤ w'.heap.size := h.size
theorem info_int : (Tryz.prog.info? 3).map (fun i => (i.zero, i.size, i.bytes)) = some (some (.int .i64 0), 1, 8) := by kernel_rfl
theorem grown_cell {wr w1 : World} {o : Obj} {row : Option Nat} {B g : Nat} (h : ((wr.alloc o).drew).grownBy w1 row) (hne : ∀ g', row = some g' → B ≤ g') (hg : g < B) (hlt : g < wr.heap.size) (i : Nat) : w1.cell? ⟨g, i, none⟩ = wr.cell? ⟨g, i, none⟩ :=
  (h.cell_far ⟨g, i, none⟩ (by show g < ((wr.alloc o).drew).heap.size; simp [World.drew]; omega) (fun e => by have := hne g e.symm; omega)).trans (World.cell?_of_block (Below.heap_alloc wr o g (by omega)))

theorem rss0_bits (y : Nat) (h : y < 4294967296) : bits .xor .i64 (bits .xor .i64 ((rotr y 7 : Nat) : Int) ((rotr y 18 : Nat) : Int)) ((y : Int) / 8) = ((ss0 y : Nat) : Int) := by
  have h1 := rotr_lt y 7
  have h2 := rotr_lt y 18
  have h3 := xor_lt h1 h2
  rw [show (y : Int) / 8 = ((y / 8 : Nat) : Int) by omega, i64_xor_nat _ _ (by omega) (by omega), i64_xor_nat _ _ (by omega) (by omega)]
  rfl
theorem rss1_bits (y : Nat) (h : y < 4294967296) : bits .xor .i64 (bits .xor .i64 ((rotr y 17 : Nat) : Int) ((rotr y 19 : Nat) : Int)) ((y : Int) / 1024) = ((ss1 y : Nat) : Int) := by
  have h1 := rotr_lt y 17
  have h2 := rotr_lt y 19
  have h3 := xor_lt h1 h2
  rw [show (y : Int) / 1024 = ((y / 1024 : Nat) : Int) by omega, i64_xor_nat _ _ (by omega) (by omega), i64_xor_nat _ _ (by omega) (by omega)]
  rfl
theorem rnext_bits (y16 y15 y7 y2 : Nat) (h16 : y16 < 4294967296) (h15 : y15 < 4294967296) (h7 : y7 < 4294967296) (h2 : y2 < 4294967296) :
    IntKind.i64.wrap (IntKind.i64.wrap (IntKind.i64.wrap ((y16 : Int) + bits .xor .i64 (bits .xor .i64 ((rotr y15 7 : Nat) : Int) ((rotr y15 18 : Nat) : Int)) ((y15 : Int) / 8)) + (y7 : Int)) + bits .xor .i64 (bits .xor .i64 ((rotr y2 17 : Nat) : Int) ((rotr y2 19 : Nat) : Int)) ((y2 : Int) / 1024)) = ((y16 + ss0 y15 + y7 + ss1 y2 : Nat) : Int) := by
  have e1 := ss0_lt h15
  have e2 := ss1_lt h2
  rw [rss0_bits y15 h15, rss1_bits y2 h2, IntKind.wrap_i64, IntKind.wrap_i64, IntKind.wrap_i64]
  omega
theorem grown_cell' {wr w0 w1 : World} {row : Option Nat} {B g : Nat} (h : w0.grownBy w1 row) (hw : Below wr.heap.size wr w0) (hne : ∀ g', row = some g' → B ≤ g') (hg : g < B) (hlt : g < wr.heap.size) (i : Nat) : w1.cell? ⟨g, i, none⟩ = wr.cell? ⟨g, i, none⟩ :=
  (h.cell_far ⟨g, i, none⟩ (Nat.lt_of_lt_of_le hlt hw.size) (fun e => by have := hne g e.symm; omega)).trans (hw.cell hlt)
theorem rright_i (x : Nat) (z : Int) (hx : x < 4294967296) (h1 : 2 ≤ z) (h2 : z ≤ 31) (w : World) :
    Calls Tryz.prog 70 #[.int .i64 x, .int .i64 z] w fun e w' => e = .returned (.int .i64 (rotr x z.toNat : Nat)) ∧ w' = w.drew := by
  obtain ⟨n, rfl⟩ := Int.eq_ofNat_of_zero_le (show 0 ≤ z by omega)
  exact rright_any x n hx (by omega) (by omega) w

set_option maxRecDepth 10000 in
set_option maxHeartbeats 1000000 in
theorem words_any (b : List Nat) (hb : Bytes b) (g off cap : Nat) (w : World) (hg : g < w.heap.size)
    (hc : ∀ i, i < 64 → w.cell? ⟨g, off + i, none⟩ = some (.int .u8 (b.getD i 0 : Nat))) :
    Calls Tryz.prog 69 #[.slice (some ⟨g, off, none⟩) 64 cap] w fun e w' => ∃ v, e = .returned v ∧ w'.ownsRow w.heap.size 3 1 v 64 ((schedL b).map fun (x : Nat) => Value.int .i64 (x : Int)) ∧ Below w.heap.size w w' := by
  obtain ⟨i0, hi, hz0, hz1, hz2⟩ := info_parts info_int
  go_enter Tryz.func69, Tryz.ntmps69
  go_wp2_with fail
  go_loopw [3, 4] (fun v i wr => ∃ j : Nat, j ≤ 16 ∧ i = .int .i64 j ∧ wr.ownsRow w.heap.size 3 1 v j ((words16 b j).map fun (x : Nat) => Value.int .i64 (x : Int)) ∧ Below w.heap.size w wr) (fun _ i _ => 16 - (intOf i).toNat)
  case atStart => exact ⟨0, Nat.zero_le _, rfl, World.ownsRow_nil _ _ _ _, Below.refl _ _⟩
  case round =>
    obtain ⟨j, hj, rfl, hown, hbw⟩ := hrel
    by_cases hlt : j < 16
    · have c0 := (hbw.cell (p := ⟨g, off + 4 * j, none⟩) hg).trans (hc (4 * j) (by omega))
      have c1 := (hbw.cell (p := ⟨g, off + (4 * j + 1), none⟩) hg).trans (hc (4 * j + 1) (by omega))
      have c2 := (hbw.cell (p := ⟨g, off + (4 * j + 2), none⟩) hg).trans (hc (4 * j + 2) (by omega))
      have c3 := (hbw.cell (p := ⟨g, off + (4 * j + 3), none⟩) hg).trans (hc (4 * j + 3) (by omega))
      have q0 : IntKind.i64.wrap (4 * (j : Int)) = 4 * j := by rw [IntKind.wrap_i64]; omega
      have q1 : IntKind.i64.wrap (4 * (j : Int) + 1) = 4 * j + 1 := by rw [IntKind.wrap_i64]; omega
      have q2 : IntKind.i64.wrap (4 * (j : Int) + 2) = 4 * j + 2 := by rw [IntKind.wrap_i64]; omega
      have q3 : IntKind.i64.wrap (4 * (j : Int) + 3) = 4 * j + 3 := by rw [IntKind.wrap_i64]; omega
      have t0 : ((4 : Int) * j).toNat = 4 * j := by omega
      have t1 : ((4 : Int) * j + 1).toNat = 4 * j + 1 := by omega
      have t2 : ((4 : Int) * j + 2).toNat = 4 * j + 2 := by omega
      have t3 : ((4 : Int) * j + 3).toNat = 4 * j + 3 := by omega
      have r0 : (0 : Int) ≤ 4 * (j : Int) := by omega
      have s0 : 4 * (j : Int) < 64 := by omega
      have s1 : 4 * (j : Int) + 1 < 64 := by omega
      have s2 : 4 * (j : Int) + 2 < 64 := by omega
      have s3 : 4 * (j : Int) + 3 < 64 := by omega
      have r1 : (0 : Int) ≤ 4 * (j : Int) + 1 := by omega
      have r2 : (0 : Int) ≤ 4 * (j : Int) + 2 := by omega
      have r3 : (0 : Int) ≤ 4 * (j : Int) + 3 := by omega
      have s4 : (j : Int) < 16 := by omega
      obtain ⟨x0, hx0⟩ : ∃ x, x = b.getD (4 * j) 0 := ⟨_, rfl⟩
      obtain ⟨x1, hx1⟩ : ∃ x, x = b.getD (4 * j + 1) 0 := ⟨_, rfl⟩
      obtain ⟨x2, hx2⟩ : ∃ x, x = b.getD (4 * j + 2) 0 := ⟨_, rfl⟩
      obtain ⟨x3, hx3⟩ : ∃ x, x = b.getD (4 * j + 3) 0 := ⟨_, rfl⟩
      have l0 : x0 < 256 := by rw [hx0]; exact getD_lt (by decide) hb _
      have l1 : x1 < 256 := by rw [hx1]; exact getD_lt (by decide) hb _
      have l2 : x2 < 256 := by rw [hx2]; exact getD_lt (by decide) hb _
      have l3 : x3 < 256 := by rw [hx3]; exact getD_lt (by decide) hb _
      rw [← hx0] at c0
      rw [← hx1] at c1
      rw [← hx2] at c2
      rw [← hx3] at c3
      have HX : Hid (x0 * 16777216 + x1 * 65536 + x2 * 256 + x3 = wordN b j) := by show _ = _; rw [hx0, hx1, hx2, hx3]; rfl
      clear hx0 hx1 hx2 hx3
      have z0 : IntKind.i64.wrap (x0 : Int) = x0 := by rw [IntKind.wrap_i64]; omega
      have z1 : IntKind.i64.wrap (x1 : Int) = x1 := by rw [IntKind.wrap_i64]; omega
      have z2 : IntKind.i64.wrap (x2 : Int) = x2 := by rw [IntKind.wrap_i64]; omega
      have z3 : IntKind.i64.wrap (x3 : Int) = x3 := by rw [IntKind.wrap_i64]; omega
      have y0 : IntKind.i64.wrap ((x0 : Int) * 16777216) = x0 * 16777216 := by rw [IntKind.wrap_i64]; omega
      have y1 : IntKind.i64.wrap ((x1 : Int) * 65536) = x1 * 65536 := by rw [IntKind.wrap_i64]; omega
      have y2 : IntKind.i64.wrap ((x2 : Int) * 256) = x2 * 256 := by rw [IntKind.wrap_i64]; omega
      have v1 : IntKind.i64.wrap ((x0 : Int) * 16777216 + x1 * 65536) = x0 * 16777216 + x1 * 65536 := by rw [IntKind.wrap_i64]; omega
      have v2 : IntKind.i64.wrap ((x0 : Int) * 16777216 + x1 * 65536 + x2 * 256) = x0 * 16777216 + x1 * 65536 + x2 * 256 := by rw [IntKind.wrap_i64]; omega
      have v3 : IntKind.i64.wrap ((x0 : Int) * 16777216 + x1 * 65536 + x2 * 256 + x3) = x0 * 16777216 + x1 * 65536 + x2 * 256 + x3 := by rw [IntKind.wrap_i64]; omega
      clear hc
      have hgr : g < wr.heap.size := Nat.lt_of_lt_of_le hg hbw.size
      have A0 : ∀ o, (wr.alloc o).cell? ⟨g, off + 4 * j, none⟩ = some (.int .u8 (x0 : Nat)) := fun o => (World.cell?_of_block (Below.heap_alloc wr o g (by omega))).trans c0
      have A1 : ∀ o, (wr.alloc o).cell? ⟨g, off + (4 * j + 1), none⟩ = some (.int .u8 (x1 : Nat)) := fun o => (World.cell?_of_block (Below.heap_alloc wr o g (by omega))).trans c1
      have A2 : ∀ o, (wr.alloc o).cell? ⟨g, off + (4 * j + 2), none⟩ = some (.int .u8 (x2 : Nat)) := fun o => (World.cell?_of_block (Below.heap_alloc wr o g (by omega))).trans c2
      have A3 : ∀ o, (wr.alloc o).cell? ⟨g, off + (4 * j + 3), none⟩ = some (.int .u8 (x3 : Nat)) := fun o => (World.cell?_of_block (Below.heap_alloc wr o g (by omega))).trans c3
      have HO : Hid (∀ o, ((wr.alloc o).drew).ownsRow w.heap.size 3 1 u3 j ((words16 b j).map fun (x : Nat) => Value.int .i64 (x : Int)) ∧ Below w.heap.size w ((wr.alloc o).drew)) := fun o => ⟨(hown.alloc o).drew, (hbw.alloc hbw.size o).drew⟩
      have HNE : Hid (∀ g', u3.ownBlock = some g' → w.heap.size ≤ g') := fun g' hg' => by
        rcases hown.2 with ⟨rfl, _⟩ | ⟨g'', cap, cur, rfl, hg'', _⟩
        · simp [Value.ownBlock] at hg'
        · simp [Value.ownBlock] at hg'; omega
      clear hown
      go_wp2_with fail
      go_region_held3 (fun w' => w'.cell? ⟨g, off + 4 * j, none⟩ = some (.int .u8 (x0 : Nat)) ∧ w'.cell? ⟨g, off + (4 * j + 1), none⟩ = some (.int .u8 (x1 : Nat)) ∧ w'.cell? ⟨g, off + (4 * j + 2), none⟩ = some (.int .u8 (x2 : Nat)) ∧ w'.cell? ⟨g, off + (4 * j + 3), none⟩ = some (.int .u8 (x3 : Nat))) (simp [go_sem, *]) (first | (refine step_append_lies _ rfl _ _ 91 rfl w.heap.size 3 i0 (.int .i64 0) 1 8 Tryz.underlying91 hi hz0 hz1 hz2 rfl (by decide) _ j _ rfl (HO.out _).1 ⟨wr.heap.size, 0, none⟩ 1 1 [.int .i64 ((x0 : Int) * 16777216 + x1 * 65536 + x2 * 256 + x3)] rfl rfl (World.news_of_block (heap_alloc_new wr _)) (by intro u hu; rw [List.mem_singleton] at hu; rw [hu]; rfl) (by decide) (by unfold maxLen; omega) (by omega) (Below.size' (HO.out _).2) _ rfl ?_; intro g1 cap1 w1 hown1 hgrow1 hat1 hlt1; have d0 := (grown_cell hgrow1 HNE.out hg hgr (off + 4 * j)).trans c0; have d1 := (grown_cell hgrow1 HNE.out hg hgr (off + (4 * j + 1))).trans c1; have d2 := (grown_cell hgrow1 HNE.out hg hgr (off + (4 * j + 2))).trans c2; have d3 := (grown_cell hgrow1 HNE.out hg hgr (off + (4 * j + 3))).trans c3))
      have hb2 : Below w.heap.size w w1 := (HO.out _).2.grown hgrow1 (Below.size' (HO.out _).2) (fun g hg => HNE.out g hg)
      have hown2 : w1.ownsRow w.heap.size 3 1 (.slice (some ⟨g1, 0, none⟩) (j + 1) cap1) (j + 1) ((words16 b (j + 1)).map fun (x : Nat) => Value.int .i64 (x : Int)) := by
        rw [words16, List.map_append, ← HX.out]
        exact hown1
      have HF : Hid (w1.ownsRow w.heap.size 3 1 (.slice (some ⟨g1, 0, none⟩) (j + 1) cap1) (j + 1) ((words16 b (j + 1)).map fun (x : Nat) => Value.int .i64 (x : Int)) ∧ Below w.heap.size w w1) := ⟨hown2, hb2⟩
      clear hown1 hown2 hgrow1 hat1 hlt1 hb2 d0 d1 d2 d3 A0 A1 A2 A3 c0 c1 c2 c3
      go_wp2
      go_roundw
      case rel => exact ⟨j + 1, by omega, by go_num, HF.out.1, HF.out.2⟩
      case measure => simp [intOf]; omega
    · obtain rfl : j = 16 := by omega
      clear hc hlt hj
      rw [show ((16 : Nat) : Int) = 16 from rfl]
      go_wp2_with fail
      go_loopw [3, 5] (fun v i wr => ∃ m : Nat, 16 ≤ m ∧ m ≤ 64 ∧ i = .int .i64 m ∧ wr.ownsRow w.heap.size 3 1 v m ((grow (words16 b 16) (m - 16)).map fun (x : Nat) => Value.int .i64 (x : Int)) ∧ Below w.heap.size w wr) (fun _ i _ => 64 - (intOf i).toNat)
      case atStart => exact ⟨16, by decide, by decide, rfl, hown, hbw⟩
      case round =>
        clear hown hbw
        obtain ⟨m, hm1, hm2, rfl, hown, hbw⟩ := hrel
        by_cases hlt : m < 64
        · obtain ⟨gw, cap1, rfl, hgb, hglt⟩ := hown.form (by omega)
          have hll : (grow (words16 b 16) (m - 16)).length = m := by rw [grow_length, words16_length]; omega
          have cell : ∀ i, i < m → wr.cell? ⟨gw, i, none⟩ = some (.int .i64 ((schedN b i : Nat) : Int)) := fun i hi => by
            rw [hown.cellAt i (by omega), List.getElem?_map, List.getElem?_eq_getElem (by omega), schedN_eq b i (m - 16) (by omega) (by omega), getD_at _ _ (by omega)]
            rfl
          have k16 := cell (m - 16) (by omega)
          have k15 := cell (m - 15) (by omega)
          have k7 := cell (m - 7) (by omega)
          have k2 := cell (m - 2) (by omega)
          obtain ⟨y16, hy16⟩ : ∃ y, y = schedN b (m - 16) := ⟨_, rfl⟩
          obtain ⟨y15, hy15⟩ : ∃ y, y = schedN b (m - 15) := ⟨_, rfl⟩
          obtain ⟨y7, hy7⟩ : ∃ y, y = schedN b (m - 7) := ⟨_, rfl⟩
          obtain ⟨y2, hy2⟩ : ∃ y, y = schedN b (m - 2) := ⟨_, rfl⟩
          have l16 : y16 < 4294967296 := by rw [hy16]; exact schedN_lt hb _
          have l15 : y15 < 4294967296 := by rw [hy15]; exact schedN_lt hb _
          have l7 : y7 < 4294967296 := by rw [hy7]; exact schedN_lt hb _
          have l2 : y2 < 4294967296 := by rw [hy2]; exact schedN_lt hb _
          rw [← hy16] at k16
          rw [← hy15] at k15
          rw [← hy7] at k7
          rw [← hy2] at k2
          have HY : Hid ((y16 + ss0 y15 + y7 + ss1 y2) % 4294967296 = schedN b m) := by
            show _ = _
            rw [schedN_high b m hm1 hlt, hy16, hy15, hy7, hy2]
          have HC : Hid (∀ i, i < m → wr.cell? ⟨gw, i, none⟩ = some (.int .i64 ((schedN b i : Nat) : Int))) := cell
          clear hy16 hy15 hy7 hy2 cell
          have q16 : IntKind.i64.wrap ((m : Int) - 16) = m - 16 := by rw [IntKind.wrap_i64]; omega
          have q15 : IntKind.i64.wrap ((m : Int) - 15) = m - 15 := by rw [IntKind.wrap_i64]; omega
          have q7 : IntKind.i64.wrap ((m : Int) - 7) = m - 7 := by rw [IntKind.wrap_i64]; omega
          have q2 : IntKind.i64.wrap ((m : Int) - 2) = m - 2 := by rw [IntKind.wrap_i64]; omega
          have t16 : ((m : Int) - 16).toNat = m - 16 := by omega
          have t15 : ((m : Int) - 15).toNat = m - 15 := by omega
          have t7 : ((m : Int) - 7).toNat = m - 7 := by omega
          have t2 : ((m : Int) - 2).toNat = m - 2 := by omega
          have r16 : (16 : Int) ≤ (m : Int) := by omega
          have r15 : (15 : Int) ≤ (m : Int) := by omega
          have r7 : (7 : Int) ≤ (m : Int) := by omega
          have r2 : (2 : Int) ≤ (m : Int) := by omega
          have s16 : (m : Int) - 16 < m := by omega
          have s15 : (m : Int) - 15 < m := by omega
          have s7 : (m : Int) - 7 < m := by omega
          have s2 : (m : Int) - 2 < m := by omega
          have s64 : (m : Int) < 64 := by omega
          have A16 : ∀ o, (wr.alloc o).cell? ⟨gw, m - 16, none⟩ = some (.int .i64 (y16 : Nat)) := fun o => (World.cell?_of_block (Below.heap_alloc wr o gw (by omega))).trans k16
          have A7 : ∀ o, (wr.alloc o).cell? ⟨gw, m - 7, none⟩ = some (.int .i64 (y7 : Nat)) := fun o => (World.cell?_of_block (Below.heap_alloc wr o gw (by omega))).trans k7
          have HO : Hid (∀ o, ((wr.alloc o).drew.drew.drew.drew.drew).ownsRow w.heap.size 3 1 (.slice (some ⟨gw, 0, none⟩) m cap1) m ((grow (words16 b 16) (m - 16)).map fun (x : Nat) => Value.int .i64 (x : Int)) ∧ Below w.heap.size w ((wr.alloc o).drew.drew.drew.drew.drew)) := fun o => ⟨hown.alloc o, (hbw.alloc hbw.size o).drew.drew.drew.drew.drew⟩
          have HG : Hid (∀ i u, ((grow (words16 b 16) (m - 16)).map fun (x : Nat) => Value.int .i64 (x : Int))[i]? = some u → wr.cell? ⟨gw, i, none⟩ = some u) := fun i u hu => by
            have hi := (List.getElem?_eq_some_iff.1 hu).1
            rw [List.length_map, hll] at hi
            rw [hown.cellAt i (by omega)]
            exact hu
          have HL : Hid ((grow (words16 b 16) (m - 16)).map (fun (x : Nat) => Value.int .i64 (x : Int)) ++ [.int .i64 (((y16 + ss0 y15 + y7 + ss1 y2) % 4294967296 : Nat) : Int)] = (grow (words16 b 16) (m + 1 - 16)).map fun (x : Nat) => Value.int .i64 (x : Int)) := by
            show _ = _
            rw [show m + 1 - 16 = (m - 16) + 1 by omega, grow, List.map_append, HY.out, nextW, hll, schedN_high b m hm1 hlt, schedN_eq b (m - 16) (m - 16) (by omega) (by omega), schedN_eq b (m - 15) (m - 16) (by omega) (by omega), schedN_eq b (m - 7) (m - 16) (by omega) (by omega), schedN_eq b (m - 2) (m - 16) (by omega) (by omega)]
            rfl
          have i16 : ((grow (words16 b 16) (m - 16)).map fun (x : Nat) => Value.int .i64 (x : Int))[m - 16]? = some (.int .i64 (y16 : Nat)) := by rw [← hown.cellAt (m - 16) (by omega)]; exact k16
          have i7 : ((grow (words16 b 16) (m - 16)).map fun (x : Nat) => Value.int .i64 (x : Int))[m - 7]? = some (.int .i64 (y7 : Nat)) := by rw [← hown.cellAt (m - 7) (by omega)]; exact k7
          have HI : Hid (((grow (words16 b 16) (m - 16)).map fun (x : Nat) => Value.int .i64 (x : Int))[m - 16]? = some (.int .i64 (y16 : Nat)) ∧ ((grow (words16 b 16) (m - 16)).map fun (x : Nat) => Value.int .i64 (x : Int))[m - 7]? = some (.int .i64 (y7 : Nat))) := ⟨i16, i7⟩
          clear hown hll HC i16 i7
          go_wp2_with fail
          go_region_held3 (fun w' => w'.cell? ⟨gw, m - 16, none⟩ = some (.int .i64 (y16 : Nat)) ∧ w'.cell? ⟨gw, m - 7, none⟩ = some (.int .i64 (y7 : Nat))) (simp [go_sem, *]) (first | (go_at_call 70; refine (rright_i _ _ (by assumption) (by decide) (by decide) _).mono ?_; rintro e w1 ⟨rfl, rfl⟩) | (go_at_call 71; refine (low_z _ (y16 + ss0 y15 + y7 + ss1 y2) (rnext_bits y16 y15 y7 y2 l16 l15 l7 l2) (by have := ss0_lt l15; have := ss1_lt l2; omega) _).mono ?_; rintro e w1 ⟨rfl, rfl⟩) | (refine step_append_kept _ rfl _ _ 91 rfl w.heap.size 3 i0 (.int .i64 0) 8 Tryz.underlying91 hi hz0 hz1 hz2 rfl (.slice (some ⟨gw, 0, none⟩) m cap1) m _ rfl (HO.out _).1 ⟨wr.heap.size, 0, none⟩ 1 1 [.int .i64 (((y16 + ss0 y15 + y7 + ss1 y2) % 4294967296 : Nat) : Int)] rfl rfl (World.news_of_block (heap_alloc_new wr _)) (by intro u hu; rw [List.mem_singleton] at hu; rw [hu]; rfl) (by decide) (by unfold maxLen; omega) (by omega) (Below.size' (HO.out _).2) ?_; intro g1 cap2 w1 hown1 hgrow1 hat1 hkep1; have d0 := hkep1 gw rfl _ _ HI.out.1; have d1 := hkep1 gw rfl _ _ HI.out.2))
          have hb2 : Below w.heap.size w w1 := (HO.out _).2.grown hgrow1 (Below.size' (HO.out _).2) (fun k hk => by obtain rfl : gw = k := (by simpa [Value.ownBlock] using hk); exact hgb)
          have HF : Hid (w1.ownsRow w.heap.size 3 1 (.slice (some ⟨g1, 0, none⟩) (m + 1) cap2) (m + 1) ((grow (words16 b 16) (m + 1 - 16)).map fun (x : Nat) => Value.int .i64 (x : Int)) ∧ Below w.heap.size w w1) := ⟨HL.out ▸ hown1, hb2⟩
          clear hown1 hgrow1 hat1 hkep1 hb2 d0 d1 A16 A7 k16 k15 k7 k2
          go_wp2
          go_roundw
          case rel => exact ⟨m + 1, by omega, by omega, by go_num, HF.out.1, HF.out.2⟩
          case measure => simp [intOf]; omega
        · obtain rfl : m = 64 := by omega
          have HF : Hid (wr.ownsRow w.heap.size 3 1 u3 64 ((schedL b).map fun (x : Nat) => Value.int .i64 (x : Int)) ∧ Below w.heap.size w wr) := ⟨hown, hbw⟩
          clear hown hbw
          go_wp2_with fail
          exact bodyPost_ret (v := u3) (by simp [results, Tryz.results69]) rfl ⟨u3, rfl, HF.out.1, HF.out.2⟩
end Go.Proofs.YtdhiopbomnfmnaaGreatDoor.Sm
