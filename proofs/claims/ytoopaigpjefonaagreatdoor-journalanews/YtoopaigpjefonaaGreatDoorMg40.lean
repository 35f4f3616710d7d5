/- The document's words: the 64 words of a block. · A slice that the call owns, told by its cells alone (the row of []byte(s) bears a mark behind its end); append onto it; []byte(s). · The document's filled: a text, filled up to whole blocks. · The numbers of the document's rounds, as they stand in the program's ints. -/
import Derived.Test.YtoopaigpjefonaaGreatDoorMg39
import Derived.Deep.RegionHeld3
import Derived.BigFrame
import Derived.BigQuiet
import Derived.Test.YtoopaigpjefonaaGreatDoorMg33
import Derived.Test.YtoopaigpjefonaaGreatDoorMg28
import Derived.Lib.ConvBytes
import Derived.Laws.IdiomCopy
import Derived.Deep.Upon
namespace Go.Proofs.YtoopaigpjefonaaGreatDoor.Sm
set_option maxRecDepth 20000
open Go.RowKit

theorem Below.size' {w w' : World} (h : Below w.heap.size w w') : w.heap.size ≤ w'.heap.size := h.size
theorem info_int : (Tryz.prog.info? 3).map (fun i => (i.zero, i.size, i.bytes)) = some (some (.int .i64 0), 1, 8) := by kernel_rfl
theorem grown_cell {wr w1 : World} {o : Obj} {row : Option Nat} {B g : Nat} (h : ((wr.alloc o).drew).grownBy w1 row) (hne : ∀ g', row = some g' → B ≤ g') (hg : g < B) (hlt : g < wr.heap.size) (i : Nat) : w1.cell? ⟨g, i, none⟩ = wr.cell? ⟨g, i, none⟩ :=
  (h.cell_far ⟨g, i, none⟩ (by show g < ((wr.alloc o).drew).heap.size; simp [World.drew]; omega) (fun e => by have := hne g e.symm; omega)).trans (World.cell?_of_block (Below.heap_alloc wr o g (by omega)))

theorem rss0_bits (y : Nat) (h : y < 4294967296) : bits .xor .i64 (bits .xor .i64 ((rotr y 7 : Nat) : Int) ((rotr y 18 : Nat) : Int)) ((y : Int) / 8) = ((ss0 y : Nat) : Int) := by
  have h1 := rotr_lt y 7
  have h2 := rotr_lt y 18
  have h3 := xor_lt h1 h2
  rw [show (y : Int) / 8 = ((y / 8 : Nat) : Int) by omega, i64_xor_nat _ _ (by omega) (by omega), i64_xor_nat _ _ (by omega) (by omega)]
  rfl
theorem rss1_bits (y : Nat) (h : y < 4294967296) : bits .xor .i64 (bits .xor .i64 ((rotr y 17 : Nat) : Int) ((rotr y 19 : Nat) : Int)) ((y : Int) / 1024) = ((ss1 y : Nat) : Int) := by
  have h1 := rotr_lt y 17
  have h2 := rotr_lt y 19
  have h3 := xor_lt h1 h2
  rw [show (y : Int) / 1024 = ((y / 1024 : Nat) : Int) by omega, i64_xor_nat _ _ (by omega) (by omega), i64_xor_nat _ _ (by omega) (by omega)]
  rfl
theorem rnext_bits (y16 y15 y7 y2 : Nat) (h16 : y16 < 4294967296) (h15 : y15 < 4294967296) (h7 : y7 < 4294967296) (h2 : y2 < 4294967296) :
    IntKind.i64.wrap (IntKind.i64.wrap (IntKind.i64.wrap ((y16 : Int) + bits .xor .i64 (bits .xor .i64 ((rotr y15 7 : Nat) : Int) ((rotr y15 18 : Nat) : Int)) ((y15 : Int) / 8)) + (y7 : Int)) + bits .xor .i64 (bits .xor .i64 ((rotr y2 17 : Nat) : Int) ((rotr y2 19 : Nat) : Int)) ((y2 : Int) / 1024)) = ((y16 + ss0 y15 + y7 + ss1 y2 : Nat) : Int) := by
  have e1 := ss0_lt h15
  have e2 := ss1_lt h2
  rw [rss0_bits y15 h15, rss1_bits y2 h2, IntKind.wrap_i64, IntKind.wrap_i64, IntKind.wrap_i64]
  omega
theorem grown_cell' {wr w0 w1 : World} {row : Option Nat} {B g : Nat} (h : w0.grownBy w1 row) (hw : Below wr.heap.size wr w0) (hne : ∀ g', row = some g' → B ≤ g') (hg : g < B) (hlt : g < wr.heap.size) (i : Nat) : w1.cell? ⟨g, i, none⟩ = wr.cell? ⟨g, i, none⟩ :=
  (h.cell_far ⟨g, i, none⟩ (Nat.lt_of_lt_of_le hlt hw.size) (fun e => by have := hne g e.symm; omega)).trans (hw.cell hlt)
theorem rright_i (x : Nat) (z : Int) (hx : x < 4294967296) (h1 : 2 ≤ z) (h2 : z ≤ 31) (w : World) :
    Calls Tryz.prog 161 #[.int .i64 x, .int .i64 z] w fun e w' => e = .returned (.int .i64 (rotr x z.toNat : Nat)) ∧ w' = w.drew := by
  obtain ⟨n, rfl⟩ := Int.eq_ofNat_of_zero_le (show 0 ≤ z by omega)
  exact rright_any x n hx (by omega) (by omega) w

set_option maxRecDepth 10000 in
set_option maxHeartbeats 1000000 in
theorem words_any (b : List Nat) (hb : Bytes b) (g off cap : Nat) (w : World) (hg : g < w.heap.size)
    (hc : ∀ i, i < 64 → w.cell? ⟨g, off + i, none⟩ = some (.int .u8 (b.getD i 0 : Nat))) :
    Calls Tryz.prog 160 #[.slice (some ⟨g, off, none⟩) 64 cap] w fun e w' => ∃ v, e = .returned v ∧ w'.ownsRow w.heap.size 3 1 v 64 ((schedL b).map fun (x : Nat) => Value.int .i64 (x : Int)) ∧ Below w.heap.size w w' := by
  obtain ⟨i0, hi, hz0, hz1, hz2⟩ := info_parts info_int
  go_enter Tryz.func160, Tryz.ntmps160
  go_wp2_with fail
  go_loopw [3, 4] (fun v i wr => ∃ j : Nat, j ≤ 16 ∧ i = .int .i64 j ∧ wr.ownsRow w.heap.size 3 1 v j ((words16 b j).map fun (x : Nat) => Value.int .i64 (x : Int)) ∧ Below w.heap.size w wr) (fun _ i _ => 16 - (intOf i).toNat)
  case atStart => exact ⟨0, Nat.zero_le _, rfl, World.ownsRow_nil _ _ _ _, Below.refl _ _⟩
  case round =>
    obtain ⟨j, hj, rfl, hown, hbw⟩ := hrel
    by_cases hlt : j < 16
    · have c0 := (hbw.cell (p := ⟨g, off + 4 * j, none⟩) hg).trans (hc (4 * j) (by omega))
      have c1 := (hbw.cell (p := ⟨g, off + (4 * j + 1), none⟩) hg).trans (hc (4 * j + 1) (by omega))
      have c2 := (hbw.cell (p := ⟨g, off + (4 * j + 2), none⟩) hg).trans (hc (4 * j + 2) (by omega))
      have c3 := (hbw.cell (p := ⟨g, off + (4 * j + 3), none⟩) hg).trans (hc (4 * j + 3) (by omega))
      have q0 : IntKind.i64.wrap (4 * (j : Int)) = 4 * j := by rw [IntKind.wrap_i64]; omega
      have q1 : IntKind.i64.wrap (4 * (j : Int) + 1) = 4 * j + 1 := by rw [IntKind.wrap_i64]; omega
      have q2 : IntKind.i64.wrap (4 * (j : Int) + 2) = 4 * j + 2 := by rw [IntKind.wrap_i64]; omega
      have q3 : IntKind.i64.wrap (4 * (j : Int) + 3) = 4 * j + 3 := by rw [IntKind.wrap_i64]; omega
      have t0 : ((4 : Int) * j).toNat = 4 * j := by omega
      have t1 : ((4 : Int) * j + 1).toNat = 4 * j + 1 := by omega
      have t2 : ((4 : Int) * j + 2).toNat = 4 * j + 2 := by omega
      have t3 : ((4 : Int) * j + 3).toNat = 4 * j + 3 := by omega
      have r0 : (0 : Int) ≤ 4 * (j : Int) := by omega
      have s0 : 4 * (j : Int) < 64 := by omega
      have s1 : 4 * (j : Int) + 1 < 64 := by omega
      have s2 : 4 * (j : Int) + 2 < 64 := by omega
      have s3 : 4 * (j : Int) + 3 < 64 := by omega
      have r1 : (0 : Int) ≤ 4 * (j : Int) + 1 := by omega
      have r2 : (0 : Int) ≤ 4 * (j : Int) + 2 := by omega
      have r3 : (0 : Int) ≤ 4 * (j : Int) + 3 := by omega
      have s4 : (j : Int) < 16 := by omega
      obtain ⟨x0, hx0⟩ : ∃ x, x = b.getD (4 * j) 0 := ⟨_, rfl⟩
      obtain ⟨x1, hx1⟩ : ∃ x, x = b.getD (4 * j + 1) 0 := ⟨_, rfl⟩
      obtain ⟨x2, hx2⟩ : ∃ x, x = b.getD (4 * j + 2) 0 := ⟨_, rfl⟩
      obtain ⟨x3, hx3⟩ : ∃ x, x = b.getD (4 * j + 3) 0 := ⟨_, rfl⟩
      have l0 : x0 < 256 := by rw [hx0]; exact getD_lt (by decide) hb _
      have l1 : x1 < 256 := by rw [hx1]; exact getD_lt (by decide) hb _
      have l2 : x2 < 256 := by rw [hx2]; exact getD_lt (by decide) hb _
      have l3 : x3 < 256 := by rw [hx3]; exact getD_lt (by decide) hb _
      rw [← hx0] at c0
      rw [← hx1] at c1
      rw [← hx2] at c2
      rw [← hx3] at c3
      have HX : Hid (x0 * 16777216 + x1 * 65536 + x2 * 256 + x3 = wordN b j) := by show _ = _; rw [hx0, hx1, hx2, hx3]; rfl
      clear hx0 hx1 hx2 hx3
      have z0 : IntKind.i64.wrap (x0 : Int) = x0 := by rw [IntKind.wrap_i64]; omega
      have z1 : IntKind.i64.wrap (x1 : Int) = x1 := by rw [IntKind.wrap_i64]; omega
      have z2 : IntKind.i64.wrap (x2 : Int) = x2 := by rw [IntKind.wrap_i64]; omega
      have z3 : IntKind.i64.wrap (x3 : Int) = x3 := by rw [IntKind.wrap_i64]; omega
      have y0 : IntKind.i64.wrap ((x0 : Int) * 16777216) = x0 * 16777216 := by rw [IntKind.wrap_i64]; omega
      have y1 : IntKind.i64.wrap ((x1 : Int) * 65536) = x1 * 65536 := by rw [IntKind.wrap_i64]; omega
      have y2 : IntKind.i64.wrap ((x2 : Int) * 256) = x2 * 256 := by rw [IntKind.wrap_i64]; omega
      have v1 : IntKind.i64.wrap ((x0 : Int) * 16777216 + x1 * 65536) = x0 * 16777216 + x1 * 65536 := by rw [IntKind.wrap_i64]; omega
      have v2 : IntKind.i64.wrap ((x0 : Int) * 16777216 + x1 * 65536 + x2 * 256) = x0 * 16777216 + x1 * 65536 + x2 * 256 := by rw [IntKind.wrap_i64]; omega
      have v3 : IntKind.i64.wrap ((x0 : Int) * 16777216 + x1 * 65536 + x2 * 256 + x3) = x0 * 16777216 + x1 * 65536 + x2 * 256 + x3 := by rw [IntKind.wrap_i64]; omega
      clear hc
      have hgr : g < wr.heap.size := Nat.lt_of_lt_of_le hg hbw.size
      have A0 : ∀ o, (wr.alloc o).cell? ⟨g, off + 4 * j, none⟩ = some (.int .u8 (x0 : Nat)) := fun o => (World.cell?_of_block (Below.heap_alloc wr o g (by omega))).trans c0
      have A1 : ∀ o, (wr.alloc o).cell? ⟨g, off + (4 * j + 1), none⟩ = some (.int .u8 (x1 : Nat)) := fun o => (World.cell?_of_block (Below.heap_alloc wr o g (by omega))).trans c1
      have A2 : ∀ o, (wr.alloc o).cell? ⟨g, off + (4 * j + 2), none⟩ = some (.int .u8 (x2 : Nat)) := fun o => (World.cell?_of_block (Below.heap_alloc wr o g (by omega))).trans c2
      have A3 : ∀ o, (wr.alloc o).cell? ⟨g, off + (4 * j + 3), none⟩ = some (.int .u8 (x3 : Nat)) := fun o => (World.cell?_of_block (Below.heap_alloc wr o g (by omega))).trans c3
      have HO : Hid (∀ o, ((wr.alloc o).drew).ownsRow w.heap.size 3 1 u3 j ((words16 b j).map fun (x : Nat) => Value.int .i64 (x : Int)) ∧ Below w.heap.size w ((wr.alloc o).drew)) := fun o => ⟨(hown.alloc o).drew, (hbw.alloc hbw.size o).drew⟩
      have HNE : Hid (∀ g', u3.ownBlock = some g' → w.heap.size ≤ g') := fun g' hg' => by
        rcases hown.2 with ⟨rfl, _⟩ | ⟨g'', cap, cur, rfl, hg'', _⟩
        · simp [Value.ownBlock] at hg'
        · simp [Value.ownBlock] at hg'; omega
      clear hown
      go_wp2_with fail
      go_region_held3 (fun w' => w'.cell? ⟨g, off + 4 * j, none⟩ = some (.int .u8 (x0 : Nat)) ∧ w'.cell? ⟨g, off + (4 * j + 1), none⟩ = some (.int .u8 (x1 : Nat)) ∧ w'.cell? ⟨g, off + (4 * j + 2), none⟩ = some (.int .u8 (x2 : Nat)) ∧ w'.cell? ⟨g, off + (4 * j + 3), none⟩ = some (.int .u8 (x3 : Nat))) (simp [go_sem, *]) (first | (refine step_append_lies _ rfl _ _ 92 rfl w.heap.size 3 i0 (.int .i64 0) 1 8 Tryz.underlying92 hi hz0 hz1 hz2 rfl (by decide) _ j _ rfl (HO.out _).1 ⟨wr.heap.size, 0, none⟩ 1 1 [.int .i64 ((x0 : Int) * 16777216 + x1 * 65536 + x2 * 256 + x3)] rfl rfl (World.news_of_block (heap_alloc_new wr _)) (by intro u hu; rw [List.mem_singleton] at hu; rw [hu]; rfl) (by decide) (by unfold maxLen; omega) (by omega) (Below.size' (HO.out _).2) _ rfl ?_; intro g1 cap1 w1 hown1 hgrow1 hat1 hlt1; have d0 := (grown_cell hgrow1 HNE.out hg hgr (off + 4 * j)).trans c0; have d1 := (grown_cell hgrow1 HNE.out hg hgr (off + (4 * j + 1))).trans c1; have d2 := (grown_cell hgrow1 HNE.out hg hgr (off + (4 * j + 2))).trans c2; have d3 := (grown_cell hgrow1 HNE.out hg hgr (off + (4 * j + 3))).trans c3))
      have hb2 : Below w.heap.size w w1 := (HO.out _).2.grown hgrow1 (Below.size' (HO.out _).2) (fun g hg => HNE.out g hg)
      have hown2 : w1.ownsRow w.heap.size 3 1 (.slice (some ⟨g1, 0, none⟩) (j + 1) cap1) (j + 1) ((words16 b (j + 1)).map fun (x : Nat) => Value.int .i64 (x : Int)) := by
        rw [words16, List.map_append, ← HX.out]
        exact hown1
      have HF : Hid (w1.ownsRow w.heap.size 3 1 (.slice (some ⟨g1, 0, none⟩) (j + 1) cap1) (j + 1) ((words16 b (j + 1)).map fun (x : Nat) => Value.int .i64 (x : Int)) ∧ Below w.heap.size w w1) := ⟨hown2, hb2⟩
      clear hown1 hown2 hgrow1 hat1 hlt1 hb2 d0 d1 d2 d3 A0 A1 A2 A3 c0 c1 c2 c3
      go_wp2
      go_roundw
      case rel => exact ⟨j + 1, by omega, by go_num, HF.out.1, HF.out.2⟩
      case measure => simp [intOf]; omega
    · obtain rfl : j = 16 := by omega
      clear hc hlt hj
      rw [show ((16 : Nat) : Int) = 16 from rfl]
      go_wp2_with fail
      go_loopw [3, 5] (fun v i wr => ∃ m : Nat, 16 ≤ m ∧ m ≤ 64 ∧ i = .int .i64 m ∧ wr.ownsRow w.heap.size 3 1 v m ((grow (words16 b 16) (m - 16)).map fun (x : Nat) => Value.int .i64 (x : Int)) ∧ Below w.heap.size w wr) (fun _ i _ => 64 - (intOf i).toNat)
      case atStart => exact ⟨16, by decide, by decide, rfl, hown, hbw⟩
      case round =>
        clear hown hbw
        obtain ⟨m, hm1, hm2, rfl, hown, hbw⟩ := hrel
        by_cases hlt : m < 64
        · obtain ⟨gw, cap1, rfl, hgb, hglt⟩ := hown.form (by omega)
          have hll : (grow (words16 b 16) (m - 16)).length = m := by rw [grow_length, words16_length]; omega
          have cell : ∀ i, i < m → wr.cell? ⟨gw, i, none⟩ = some (.int .i64 ((schedN b i : Nat) : Int)) := fun i hi => by
            rw [hown.cellAt i (by omega), List.getElem?_map, List.getElem?_eq_getElem (by omega), schedN_eq b i (m - 16) (by omega) (by omega), getD_at _ _ (by omega)]
            rfl
          have k16 := cell (m - 16) (by omega)
          have k15 := cell (m - 15) (by omega)
          have k7 := cell (m - 7) (by omega)
          have k2 := cell (m - 2) (by omega)
          obtain ⟨y16, hy16⟩ : ∃ y, y = schedN b (m - 16) := ⟨_, rfl⟩
          obtain ⟨y15, hy15⟩ : ∃ y, y = schedN b (m - 15) := ⟨_, rfl⟩
          obtain ⟨y7, hy7⟩ : ∃ y, y = schedN b (m - 7) := ⟨_, rfl⟩
          obtain ⟨y2, hy2⟩ : ∃ y, y = schedN b (m - 2) := ⟨_, rfl⟩
          have l16 : y16 < 4294967296 := by rw [hy16]; exact schedN_lt hb _
          have l15 : y15 < 4294967296 := by rw [hy15]; exact schedN_lt hb _
          have l7 : y7 < 4294967296 := by rw [hy7]; exact schedN_lt hb _
          have l2 : y2 < 4294967296 := by rw [hy2]; exact schedN_lt hb _
          rw [← hy16] at k16
          rw [← hy15] at k15
          rw [← hy7] at k7
          rw [← hy2] at k2
          have HY : Hid ((y16 + ss0 y15 + y7 + ss1 y2) % 4294967296 = schedN b m) := by
            show _ = _
            rw [schedN_high b m hm1 hlt, hy16, hy15, hy7, hy2]
          have HC : Hid (∀ i, i < m → wr.cell? ⟨gw, i, none⟩ = some (.int .i64 ((schedN b i : Nat) : Int))) := cell
          clear hy16 hy15 hy7 hy2 cell
          have q16 : IntKind.i64.wrap ((m : Int) - 16) = m - 16 := by rw [IntKind.wrap_i64]; omega
          have q15 : IntKind.i64.wrap ((m : Int) - 15) = m - 15 := by rw [IntKind.wrap_i64]; omega
          have q7 : IntKind.i64.wrap ((m : Int) - 7) = m - 7 := by rw [IntKind.wrap_i64]; omega
          have q2 : IntKind.i64.wrap ((m : Int) - 2) = m - 2 := by rw [IntKind.wrap_i64]; omega
          have t16 : ((m : Int) - 16).toNat = m - 16 := by omega
          have t15 : ((m : Int) - 15).toNat = m - 15 := by omega
          have t7 : ((m : Int) - 7).toNat = m - 7 := by omega
          have t2 : ((m : Int) - 2).toNat = m - 2 := by omega
          have r16 : (16 : Int) ≤ (m : Int) := by omega
          have r15 : (15 : Int) ≤ (m : Int) := by omega
          have r7 : (7 : Int) ≤ (m : Int) := by omega
          have r2 : (2 : Int) ≤ (m : Int) := by omega
          have s16 : (m : Int) - 16 < m := by omega
          have s15 : (m : Int) - 15 < m := by omega
          have s7 : (m : Int) - 7 < m := by omega
          have s2 : (m : Int) - 2 < m := by omega
          have s64 : (m : Int) < 64 := by omega
          have A16 : ∀ o, (wr.alloc o).cell? ⟨gw, m - 16, none⟩ = some (.int .i64 (y16 : Nat)) := fun o => (World.cell?_of_block (Below.heap_alloc wr o gw (by omega))).trans k16
          have A7 : ∀ o, (wr.alloc o).cell? ⟨gw, m - 7, none⟩ = some (.int .i64 (y7 : Nat)) := fun o => (World.cell?_of_block (Below.heap_alloc wr o gw (by omega))).trans k7
          have HO : Hid (∀ o, ((wr.alloc o).drew.drew.drew.drew.drew).ownsRow w.heap.size 3 1 (.slice (some ⟨gw, 0, none⟩) m cap1) m ((grow (words16 b 16) (m - 16)).map fun (x : Nat) => Value.int .i64 (x : Int)) ∧ Below w.heap.size w ((wr.alloc o).drew.drew.drew.drew.drew)) := fun o => ⟨hown.alloc o, (hbw.alloc hbw.size o).drew.drew.drew.drew.drew⟩
          have HG : Hid (∀ i u, ((grow (words16 b 16) (m - 16)).map fun (x : Nat) => Value.int .i64 (x : Int))[i]? = some u → wr.cell? ⟨gw, i, none⟩ = some u) := fun i u hu => by
            have hi := (List.getElem?_eq_some_iff.1 hu).1
            rw [List.length_map, hll] at hi
            rw [hown.cellAt i (by omega)]
            exact hu
          have HL : Hid ((grow (words16 b 16) (m - 16)).map (fun (x : Nat) => Value.int .i64 (x : Int)) ++ [.int .i64 (((y16 + ss0 y15 + y7 + ss1 y2) % 4294967296 : Nat) : Int)] = (grow (words16 b 16) (m + 1 - 16)).map fun (x : Nat) => Value.int .i64 (x : Int)) := by
            show _ = _
            rw [show m + 1 - 16 = (m - 16) + 1 by omega, grow, List.map_append, HY.out, nextW, hll, schedN_high b m hm1 hlt, schedN_eq b (m - 16) (m - 16) (by omega) (by omega), schedN_eq b (m - 15) (m - 16) (by omega) (by omega), schedN_eq b (m - 7) (m - 16) (by omega) (by omega), schedN_eq b (m - 2) (m - 16) (by omega) (by omega)]
            rfl
          have i16 : ((grow (words16 b 16) (m - 16)).map fun (x : Nat) => Value.int .i64 (x : Int))[m - 16]? = some (.int .i64 (y16 : Nat)) := by rw [← hown.cellAt (m - 16) (by omega)]; exact k16
          have i7 : ((grow (words16 b 16) (m - 16)).map fun (x : Nat) => Value.int .i64 (x : Int))[m - 7]? = some (.int .i64 (y7 : Nat)) := by rw [← hown.cellAt (m - 7) (by omega)]; exact k7
          have HI : Hid (((grow (words16 b 16) (m - 16)).map fun (x : Nat) => Value.int .i64 (x : Int))[m - 16]? = some (.int .i64 (y16 : Nat)) ∧ ((grow (words16 b 16) (m - 16)).map fun (x : Nat) => Value.int .i64 (x : Int))[m - 7]? = some (.int .i64 (y7 : Nat))) := ⟨i16, i7⟩
          clear hown hll HC i16 i7
          go_wp2_with fail
          go_region_held3 (fun w' => w'.cell? ⟨gw, m - 16, none⟩ = some (.int .i64 (y16 : Nat)) ∧ w'.cell? ⟨gw, m - 7, none⟩ = some (.int .i64 (y7 : Nat))) (simp [go_sem, *]) (first | (go_at_call 161; refine (rright_i _ _ (by assumption) (by decide) (by decide) _).mono ?_; rintro e w1 ⟨rfl, rfl⟩) | (go_at_call 162; refine (low_z _ (y16 + ss0 y15 + y7 + ss1 y2) (rnext_bits y16 y15 y7 y2 l16 l15 l7 l2) (by have := ss0_lt l15; have := ss1_lt l2; omega) _).mono ?_; rintro e w1 ⟨rfl, rfl⟩) | (refine step_append_kept _ rfl _ _ 92 rfl w.heap.size 3 i0 (.int .i64 0) 8 Tryz.underlying92 hi hz0 hz1 hz2 rfl (.slice (some ⟨gw, 0, none⟩) m cap1) m _ rfl (HO.out _).1 ⟨wr.heap.size, 0, none⟩ 1 1 [.int .i64 (((y16 + ss0 y15 + y7 + ss1 y2) % 4294967296 : Nat) : Int)] rfl rfl (World.news_of_block (heap_alloc_new wr _)) (by intro u hu; rw [List.mem_singleton] at hu; rw [hu]; rfl) (by decide) (by unfold maxLen; omega) (by omega) (Below.size' (HO.out _).2) ?_; intro g1 cap2 w1 hown1 hgrow1 hat1 hkep1; have d0 := hkep1 gw rfl _ _ HI.out.1; have d1 := hkep1 gw rfl _ _ HI.out.2))
          have hb2 : Below w.heap.size w w1 := (HO.out _).2.grown hgrow1 (Below.size' (HO.out _).2) (fun k hk => by obtain rfl : gw = k := (by simpa [Value.ownBlock] using hk); exact hgb)
          have HF : Hid (w1.ownsRow w.heap.size 3 1 (.slice (some ⟨g1, 0, none⟩) (m + 1) cap2) (m + 1) ((grow (words16 b 16) (m + 1 - 16)).map fun (x : Nat) => Value.int .i64 (x : Int)) ∧ Below w.heap.size w w1) := ⟨HL.out ▸ hown1, hb2⟩
          clear hown1 hgrow1 hat1 hkep1 hb2 d0 d1 A16 A7 k16 k15 k7 k2
          go_wp2
          go_roundw
          case rel => exact ⟨m + 1, by omega, by omega, by go_num, HF.out.1, HF.out.2⟩
          case measure => simp [intOf]; omega
        · obtain rfl : m = 64 := by omega
          have HF : Hid (wr.ownsRow w.heap.size 3 1 u3 64 ((schedL b).map fun (x : Nat) => Value.int .i64 (x : Int)) ∧ Below w.heap.size w wr) := ⟨hown, hbw⟩
          clear hown hbw
          go_wp2_with fail
          exact bodyPost_ret (v := u3) (by simp [results, Tryz.results160]) rfl ⟨u3, rfl, HF.out.1, HF.out.2⟩
end Go.Proofs.YtoopaigpjefonaaGreatDoor.Sm

namespace Go.Proofs.YtoopaigpjefonaaGreatDoor.Sm
set_option maxRecDepth 20000
open Go.RowKit

structure OwnC (w : World) (base g n cap : Nat) (xs : List Value) : Prop where
  len : xs.length = n
  low : base ≤ g
  lt : g < w.heap.size
  room : n ≤ cap
  most : cap ≤ maxLen
  there : ∀ i, i < cap → (w.cell? ⟨g, i, none⟩).isSome = true
  free : ∀ i, i < cap → w.frozen? ⟨g, i, none⟩ = false
  cells : ∀ i u, xs[i]? = some u → w.cell? ⟨g, i, none⟩ = some u

theorem OwnC.drew {w : World} {base g n cap : Nat} {xs : List Value} (h : OwnC w base g n cap xs) : OwnC w.drew base g n cap xs := ⟨h.len, h.low, h.lt, h.room, h.most, h.there, h.free, h.cells⟩
theorem OwnC.kept {w w' : World} {base g n cap : Nat} {xs : List Value} (h : OwnC w base g n cap xs) (hb : w'.heap[g]? = w.heap[g]?) (hs : w.heap.size ≤ w'.heap.size) : OwnC w' base g n cap xs :=
  ⟨h.len, h.low, Nat.lt_of_lt_of_le h.lt hs, h.room, h.most, fun i hi => by rw [World.cell?_of_block (a := ⟨g, i, none⟩) hb]; exact h.there i hi, fun i hi => by rw [World.frozen?_of_block (a := ⟨g, i, none⟩) hb]; exact h.free i hi, fun i u hu => by rw [World.cell?_of_block (a := ⟨g, i, none⟩) hb]; exact h.cells i u hu⟩
theorem OwnC.alloc {w : World} {base g n cap : Nat} {xs : List Value} (h : OwnC w base g n cap xs) (o : Obj) : OwnC (w.alloc o) base g n cap xs := h.kept (Below.heap_alloc w o g (by have := h.lt; omega)) (by simp)
theorem OwnC.below {w w' : World} {base g n cap B : Nat} {xs : List Value} (h : OwnC w base g n cap xs) (hb : Below B w w') (hg : g < B) : OwnC w' base g n cap xs := h.kept (hb.block g hg) hb.size
/-- A row that is owned in the kit's sense, and not nil. -/
theorem OwnC.of {w : World} {base n : Nat} {e : TypeId} {v : Value} {xs : List Value} (h : w.ownsRow base e 1 v n xs) (hn : 0 < n) : ∃ g cap, v = .slice (some ⟨g, 0, none⟩) n cap ∧ OwnC w base g n cap xs := by
  rcases h.2 with ⟨_, h0⟩ | ⟨g, cap, cur, hv, hb, hg, hnc, hcm, hcs, htake⟩
  · omega
  · have hl := h.1
    simp only [Nat.mul_one] at hcs htake hl
    refine ⟨g, cap, hv, hl, hb, (Array.getElem?_eq_some_iff.1 hg).1, hnc, hcm, fun i hi => ?_, fun i _ => by simp [World.frozen?, hg], fun i u hu => ?_⟩
    · rw [cell_of_row w g i cur e (0, 0) hg, Array.getElem?_eq_getElem (by omega)]; rfl
    · rw [cell_of_row w g i cur e (0, 0) hg]
      rw [← htake, List.getElem?_take] at hu
      split at hu
      · simpa using hu
      · cases hu

theorem OwnC.append {P : Program} (w : World) (base : Nat) (t ty e : TypeId) (i : TypeInfo) (z : Value) (bytes : Nat) (ht : P.underlying t = some (.slice e)) (hi : P.info? e = some i) (hz : i.zero = some z)
    (hsize : i.size = 1) (hby : i.bytes = bytes) (hzs : z.cells.size = 1)
    (g n cap : Nat) (xs : List Value) (hown : OwnC w base g n cap xs)
    (a : Addr) (m c : Nat) (news : List Value) (hl : news.length = m) (hnews : ∀ j u, news[j]? = some u → w.cell? (a.add j) = some u) (h1 : ∀ u ∈ news, u.oneCell' = true)
    (h63 : n + m ≤ maxLen) (hbytes : (n + m) * bytes ≤ 140737488355328) (hbase : base ≤ w.heap.size) :
    ∃ g' cap' w', (Builtin.append_ #[t, t] ty #[.slice (some ⟨g, 0, none⟩) n cap, .slice (some a) m c]).run P w = .ok (.slice (some ⟨g', 0, none⟩) (n + m) cap') w' ∧ OwnC w' base g' (n + m) cap' (xs ++ news) ∧ w.grownBy w' (some g) ∧ (g' = g ∨ g' = w.heap.size) := by
  subst hby
  have hlx := hown.len
  have hlen : (xs ++ news).length = n + m := by rw [List.length_append]; omega
  by_cases hroom : n + m ≤ cap
  · have hf := run_firstCells_some (P := P) w i.size m a m c news (by rw [hsize]; omega) hnews
    have hst := run_storeCells_cells (P := P) g n news 0 w (fun j hj => by simpa using hown.there (n + j) (by omega)) (fun j hj => by simpa using hown.free (n + j) (by omega)) h1
    rw [Nat.add_zero] at hst
    have hcin := World.cell?_setCells_in g news n w (fun j hj => hown.there (n + j) (by omega))
    refine ⟨g, cap, w.setCells g n news, ?_, ⟨hlen, hown.low, ?_, hroom, hown.most, fun i hi => ?_, fun i hi => ?_, fun i u hu => ?_⟩, ⟨World.os_setCells _ _ _ _, ?_, World.output_setCells _ _ _ _, ?_, fun k hk hne => ?_⟩, .inl rfl⟩
    · rw [hsize] at hf
      simp [Builtin.append_, run_underlying ht, sizeOf, typeInfo, hi, Builtin.lenOf, hroom, hf, Addr.add_lit, hst, hsize]
    · exact Nat.lt_of_lt_of_le hown.lt (Only.setCells news n w (Only.refl g w)).size
    · by_cases hin : n ≤ i ∧ i < n + news.length
      · have := hcin (i - n) (by omega)
        rw [show n + (i - n) = i by omega] at this
        rw [this]; rfl
      · rw [World.cell?_setCells_out g news n w ⟨g, i, none⟩ (fun _ _ => by show i < n ∨ n + news.length ≤ i; omega)]
        exact hown.there i hi
    · rw [World.frozen?_setCells]; exact hown.free i hi
    · by_cases hin : i < n
      · rw [World.cell?_setCells_out g news n w ⟨g, i, none⟩ (fun _ _ => by show i < n ∨ _; omega)]
        rw [List.getElem?_append_left (by omega)] at hu
        exact hown.cells i u hu
      · rw [List.getElem?_append_right (by omega)] at hu
        have hlt := (List.getElem?_eq_some_iff.1 hu).1
        have := hcin (i - n) (by omega)
        rw [show n + (i - n) = i by omega] at this
        rw [this, ← hu, hlx, List.getElem?_eq_getElem]
    · exact (Only.setCells news n w (Only.refl g w)).1.tape
    · exact (Only.setCells news n w (Only.refl g w)).size
    · exact (Only.setCells news n w (Only.refl g w)).2 k hk (fun e => hne (by rw [e]))
  · have holds : ∀ j u, xs[j]? = some u → w.cell? ((⟨g, 0, none⟩ : Addr).add j) = some u := fun j u hu => by
      have hadd : (⟨g, 0, none⟩ : Addr).add j = ⟨g, j, none⟩ := by unfold Addr.add; split <;> simp_all
      rw [hadd]; exact hown.cells j u hu
    have h := run_append_grow (P := P) w t ty e i z ht hi hz ⟨g, 0, none⟩ n cap xs (by rw [hsize]; omega) holds a m c news (by rw [hsize]; omega) hnews (by omega) (by unfold maxLen at h63; omega) (growslice_fits (by omega) hbytes)
    have hge := grownCap_ge w (n + m) cap e
    have hcm : grownCap w (n + m) cap e ≤ maxLen := grownCap_le_maxLen w (n + m) cap e h63
    have hnew : (w.drew.alloc (.cells (xs.toArray ++ news.toArray ++ Builtin.zeroCells z.cells (grownCap w (n + m) cap e - (n + m))) e)).heap[w.heap.size]? = some (.cells (xs.toArray ++ news.toArray ++ Builtin.zeroCells z.cells (grownCap w (n + m) cap e - (n + m))) e (0, 0)) := heap_alloc_new w.drew _
    have hsz : (xs.toArray ++ news.toArray ++ Builtin.zeroCells z.cells (grownCap w (n + m) cap e - (n + m))).size = grownCap w (n + m) cap e := by
      rw [Array.size_append, Array.size_append, List.size_toArray, List.size_toArray, size_zeroCells, hzs]; omega
    refine ⟨w.heap.size, _, _, h, ⟨hlen, hbase, by simp, hge, hcm, fun i hi => ?_, fun i _ => ?_, fun i u hu => ?_⟩, ⟨rfl, rfl, rfl, by simp, fun k hk _ => Below.heap_alloc w.drew _ k (by have : w.drew.heap.size = w.heap.size := rfl; omega)⟩, .inr rfl⟩
    · rw [cell_of_row _ _ _ _ _ _ hnew, Array.getElem?_eq_getElem (by omega)]; rfl
    · simp only [World.frozen?, hnew]; simp
    · rw [cell_of_row _ _ _ _ _ _ hnew, Array.getElem?_append_left (by have := (List.getElem?_eq_some_iff.1 hu).1; simp at this ⊢; omega)]
      simpa using hu

theorem wpList_appendC {P : Program} (w : World) {ops : Array Oper} {rest : List Oper} {o : Oper} {a : Act} {Q : Exit → Act → World → Prop} (hgd : o.guard = none) (s x : Operand) (t : TypeId)
    (ho : o.op = .call { callee := .builtin .append, args := #[s, x], argTypes := #[t, t] })
    (base : Nat) (e : TypeId) (i : TypeInfo) (z : Value) (bytes : Nat) (ht : P.underlying t = some (.slice e)) (hi : P.info? e = some i) (hz : i.zero = some z)
    (hsize : i.size = 1) (hby : i.bytes = bytes) (hzs : z.cells.size = 1)
    (g n cap : Nat) (xs : List Value) (hs : a.eval s = .slice (some ⟨g, 0, none⟩) n cap) (hown : OwnC w base g n cap xs)
    (ad : Addr) (m c : Nat) (news : List Value) (hx : a.eval x = .slice (some ad) m c) (hl : news.length = m) (hnews : ∀ j u, news[j]? = some u → w.cell? (ad.add j) = some u) (h1 : ∀ u ∈ news, u.oneCell' = true)
    (h63 : n + m ≤ maxLen) (hbytes : (n + m) * bytes ≤ 140737488355328) (hbase : base ≤ w.heap.size)
    (h : ∀ g' cap' w', OwnC w' base g' (n + m) cap' (xs ++ news) → w.grownBy w' (some g) → (g' = g ∨ g' = w.heap.size) → wpList P ops Q rest (a.put o.dst (.slice (some ⟨g', 0, none⟩) (n + m) cap')) w') : wpList P ops Q (o :: rest) a w := by
  refine wpList_plain hgd fun K hK => ?_
  obtain ⟨g', cap', w', hr, h2, h3, h4⟩ := OwnC.append (P := P) w base t o.type e i z bytes ht hi hz hsize hby hzs g n cap xs hown ad m c news hl hnews h1 h63 hbytes hbase
  unfold Oper.wp execOp
  simp only [ho, resolve, invoke, builtin, Sem.run_bind, Sem.run_pure, Result.andThen_ok, List.map_toArray, List.map_cons, List.map_nil, hs, hx, hr]
  exact hK _ _ (h g' cap' w' h2 h3 h4)

theorem bytesWorld_below (w : World) (e : TypeId) (s : ByteArray) : Below w.heap.size w (Lib.bytesWorld w e s) :=
  ⟨rfl, rfl, rfl, by rw [Lib.bytesWorld_size]; omega, fun k hk => Lib.bytesWorld_at_old w e s k hk⟩
theorem bytesWorld_own (w : World) (e : TypeId) (s : ByteArray) (hs : s.size ≤ maxLen) : OwnC (Lib.bytesWorld w e s) w.heap.size w.heap.size s.size (grownCap w s.size 0 e) (s.data.toList.map fun x => Value.int .u8 (x.toNat : Int)) := by
  have hge := grownCap_ge w s.size 0 e
  have hnew := Lib.bytesWorld_at_new w e s
  have hsz : (Lib.bytesCells w e s).size = grownCap w s.size 0 e := by simp [Lib.bytesCells]; omega
  refine ⟨by simp, Nat.le_refl _, by rw [Lib.bytesWorld_size]; omega, hge, grownCap_le_maxLen w s.size 0 e hs, fun i hi => ?_, fun i hi => ?_, fun i u hu => ?_⟩
  · rw [cell_of_row _ _ _ _ _ _ hnew, Array.getElem?_eq_getElem (by omega)]; rfl
  · simp [World.frozen?, hnew, hsz]; omega
  · have hlt := (List.getElem?_eq_some_iff.1 hu).1
    simp only [List.length_map, Array.length_toList] at hlt
    have h2 : i < s.size := by simpa using hlt
    rw [Lib.bytesWorld_cell w e s i h2, ← hu]
    simp [List.getD, h2]
end Go.Proofs.YtoopaigpjefonaaGreatDoor.Sm

namespace Go.Proofs.YtoopaigpjefonaaGreatDoor.Sm
set_option maxRecDepth 20000
open Go.RowKit

theorem info_u8 : (Tryz.prog.info? 5).map (fun i => (i.zero, i.size, i.bytes)) = some (some (.int .u8 0), 1, 1) := by kernel_rfl
theorem numsV (s : ByteArray) : (s.data.toList.map fun x => Value.int .u8 (x.toNat : Int)) = byV (numsOf s) := by simp [byV, numsOf]

def sliceLen : Value → Nat
  | .slice _ n _ => n
  | _ => 0

set_option maxRecDepth 10000 in
set_option maxHeartbeats 1000000 in
theorem filled_any (s : ByteArray) (hs : s.size < 1099511627776) (w : World) :
    Calls Tryz.prog 158 #[.string s] w fun e w' => ∃ g cap, e = .returned (.slice (some ⟨g, 0, none⟩) (fillL (numsOf s)).length cap) ∧ OwnC w' w.heap.size g (fillL (numsOf s)).length cap (byV (fillL (numsOf s))) ∧ Below w.heap.size w w' := by
  obtain ⟨i0, hi, hz0, hz1, hz2⟩ := info_parts info_u8
  have hcv := fun w' => Lib.run_convert_string_bytes (P := Tryz.prog) w' 9 143 5 s Tryz.underlying9 Tryz.underlying143 Tryz.underlying5
  have hO := bytesWorld_own w 5 s (by unfold maxLen; omega)
  rw [numsV] at hO
  have hB := bytesWorld_below w 5 s
  have HO : Hid (OwnC (Lib.bytesWorld w 5 s) w.heap.size w.heap.size s.size (grownCap w s.size 0 5) (byV (numsOf s)) ∧ Below w.heap.size w (Lib.bytesWorld w 5 s)) := ⟨hO, hB⟩
  clear hO hB
  go_enter Tryz.func158, Tryz.ntmps158
  go_wp2_with (at_builtin; refine wpList_appendC _ rfl _ _ 143 rfl w.heap.size 5 i0 (.int .u8 0) 1 Tryz.underlying143 hi hz0 hz1 hz2 rfl w.heap.size s.size (grownCap w s.size 0 5) (byV (numsOf s)) rfl (HO.out.1.alloc _) ⟨(Lib.bytesWorld w 5 s).heap.size, 0, none⟩ 1 1 [.int .u8 128] rfl rfl (World.news_of_block (heap_alloc_new _ _)) ?c2 ?c3 ?c4 ?c5 ?_)
  case c2 => intro u hu; rw [List.mem_singleton] at hu; rw [hu]; rfl
  case c3 => unfold maxLen; omega
  case c4 => omega
  case c5 => have := HO.out.2.size; simp; omega
  intro g1 cap1 w1 hown1 hgrow1 _
  have hb1 : Below w.heap.size w w1 := (HO.out.2.alloc HO.out.2.size _).grown hgrow1 (by have := HO.out.2.size; simp; omega) (fun k hk => by obtain rfl : w.heap.size = k := (by simpa using hk); exact Nat.le_refl _)
  clear hgrow1 HO hcv
  go_wp2_with fail
  go_loopw [3] (fun v wr => ∃ j g cap : Nat, j ≤ lack s.size ∧ v = .slice (some ⟨g, 0, none⟩) (s.size + 1 + j) cap ∧ OwnC wr w.heap.size g (s.size + 1 + j) cap (byV (numsOf s ++ 128 :: List.replicate j 0)) ∧ Below w.heap.size w wr) (fun v _ => s.size + 100 - sliceLen v)
  case atStart => exact ⟨0, g1, cap1, Nat.zero_le _, rfl, by rw [byV_append]; exact hown1, hb1⟩
  case round =>
    clear hown1 hb1
    obtain ⟨j, g, cap, hj, rfl, hown, hb⟩ := hrel
    by_cases hlt : j < lack s.size
    · have cnd : (((s.size : Int) + 1 + (j : Int)) % 64 != 56) = true := by rw [bne_iff_ne]; unfold lack at hlt; omega
      have hjb : j < 64 := by unfold lack at hlt; omega
      go_wp2_with (at_builtin; refine wpList_appendC _ rfl _ _ 143 rfl w.heap.size 5 i0 (.int .u8 0) 1 Tryz.underlying143 hi hz0 hz1 hz2 rfl g (s.size + 1 + j) cap (byV (numsOf s ++ 128 :: List.replicate j 0)) rfl (hown.alloc _) ⟨wr.heap.size, 0, none⟩ 1 1 [.int .u8 0] rfl rfl (World.news_of_block (heap_alloc_new _ _)) ?c2 ?c3 ?c4 ?c5 ?_)
      case c2 => intro u hu; rw [List.mem_singleton] at hu; rw [hu]; rfl
      case c3 => unfold maxLen; omega
      case c4 => omega
      case c5 => have := hb.size; simp; omega
      intro g2 cap2 w2 hown2 hgrow2 _
      have hlow := hown.low
      have hb2 : Below w.heap.size w w2 := (hb.alloc hb.size _).grown hgrow2 (by have := hb.size; simp; omega) (fun k hk => by obtain rfl : g = k := (by simpa using hk); exact hlow)
      have hown3 : OwnC w2 w.heap.size g2 (s.size + 1 + (j + 1)) cap2 (byV (numsOf s ++ 128 :: List.replicate (j + 1) 0)) := by
        have e : byV (numsOf s ++ 128 :: List.replicate (j + 1) 0) = byV (numsOf s ++ 128 :: List.replicate j 0) ++ [.int .u8 0] := by
          rw [List.replicate_succ', byV_append, byV_append]
          simp [byV]
        rw [e]
        exact hown2
      clear hown hown2 hgrow2 hb
      go_wp2
      go_roundw
      case rel => exact ⟨j + 1, g2, cap2, by omega, rfl, hown3, hb2⟩
      case measure => simp [sliceLen]; omega
    · obtain rfl : j = lack s.size := by omega
      have cnd : (((s.size : Int) + 1 + (lack s.size : Int)) % 64 != 56) = false := by
        have : ((s.size : Int) + 1 + (lack s.size : Int)) % 64 = 56 := by unfold lack; omega
        rw [this]; rfl
      have hlb : lack s.size < 64 := by unfold lack; omega
      have HL : Hid (byV (fillL (numsOf s)) = byV (numsOf s ++ 128 :: List.replicate (lack s.size) 0) ++ beV 8 (8 * s.size) ∧ (fillL (numsOf s)).length = s.size + 1 + lack s.size + 8) := by
        refine ⟨?_, ?_⟩
        · rw [fillL, numsOf_length, byV_append, beV8]
        · rw [fillL, List.length_append, List.length_append, List.length_cons, List.length_replicate, be8_length, numsOf_length]; omega
      obtain ⟨n, hn⟩ : ∃ n, n = s.size + 1 + lack s.size := ⟨_, rfl⟩
      obtain ⟨L, hL⟩ : ∃ L, L = numsOf s ++ 128 :: List.replicate (lack s.size) 0 := ⟨_, rfl⟩
      rw [← hL, ← hn] at hown
      rw [← hL, ← hn] at HL
      rw [← hn]
      have cnd' : ((n : Int) % 64 != 56) = false := by rw [hn]; simpa using cnd
      have hnb : n < 1099511627776 + 65 := by omega
      clear cnd hL hn hlb hj hlt
      have j2 : IntKind.i64.wrap (8 * (s.size : Int)) = 8 * s.size := by rw [IntKind.wrap_i64]; omega
      go_wp2_with fail
      go_loopw [3, 5] (fun v i wr => ∃ k g cap : Nat, k ≤ 8 ∧ i = .int .i64 (56 - 8 * (k : Int)) ∧ v = .slice (some ⟨g, 0, none⟩) (n + k) cap ∧ OwnC wr w.heap.size g (n + k) cap (byV L ++ (beV 8 (8 * s.size)).take k) ∧ Below w.heap.size w wr) (fun _ i _ => (intOf i + 8).toNat)
      case atStart => exact ⟨0, g, cap, by decide, rfl, rfl, by simpa using hown, hb⟩
      case round =>
        clear hown hb
        obtain ⟨k, g, cap, hk, rfl, rfl, hown, hb⟩ := hrel
        by_cases hlt : k < 8
        · have hle : 8 * (k : Int) ≤ 56 := by omega
          go_wp2_with (at_builtin; refine wpList_appendC _ rfl _ _ 143 rfl w.heap.size 5 i0 (.int .u8 0) 1 Tryz.underlying143 hi hz0 hz1 hz2 rfl g (n + k) cap (byV L ++ (beV 8 (8 * s.size)).take k) rfl (hown.alloc _) ⟨wr.heap.size, 0, none⟩ 1 1 [.int .u8 (8 * (s.size : Int) / 2 ^ (56 - 8 * k) % 256)] rfl rfl (World.news_of_block (heap_alloc_new _ _)) ?c6 ?c7 ?c8 ?c9 ?_)
          case c6 => intro u hu; rw [List.mem_singleton] at hu; rw [hu]; rfl
          case c7 => unfold maxLen; omega
          case c8 => omega
          case c9 => have := hb.size; simp; omega
          intro g2 cap2 w2 hown2 hgrow2 _
          have hlow := hown.low
          have hb2 : Below w.heap.size w w2 := (hb.alloc hb.size _).grown hgrow2 (by have := hb.size; simp; omega) (fun x hx => by obtain rfl : g = x := (by simpa using hx); exact hlow)
          have hown3 : OwnC w2 w.heap.size g2 (n + (k + 1)) cap2 (byV L ++ (beV 8 (8 * s.size)).take (k + 1)) := by
            have hbl : (beV 8 (8 * s.size)).length = 8 := by simp [beV]
            have e : (beV 8 (8 * s.size)).take (k + 1) = (beV 8 (8 * s.size)).take k ++ [.int .u8 (8 * (s.size : Int) / 2 ^ (56 - 8 * k) % 256)] := by
              rw [List.take_succ_eq_append_getElem (by omega)]
              have : 8 * (8 - 1 - k) = 56 - 8 * k := by omega
              simp [beV]
              congr 3
            rw [e]
            exact hown2
          clear hown hown2 hgrow2 hb
          go_wp2
          go_roundw
          case rel => exact ⟨k + 1, g2, cap2, by omega, by go_num, rfl, hown3, hb2⟩
          case measure => simp [intOf]; omega
        · obtain rfl : k = 8 := by omega
          have hbl : (beV 8 (8 * s.size)).length = 8 := by simp [beV]
          rw [List.take_of_length_le (by omega)] at hown
          have HF : Hid (OwnC wr w.heap.size g (n + 8) cap (byV L ++ beV 8 (8 * s.size)) ∧ Below w.heap.size w wr) := ⟨hown, hb⟩
          clear hown hb hbl
          go_wp2_with fail
          exact bodyPost_ret (v := .slice (some ⟨g, 0, none⟩) (n + 8) cap) (by simp [results, Tryz.results158]) rfl ⟨g, cap, by rw [HL.out.2], by rw [HL.out.1, HL.out.2]; exact HF.out.1, HF.out.2⟩
end Go.Proofs.YtoopaigpjefonaaGreatDoor.Sm

namespace Go.Proofs.YtoopaigpjefonaaGreatDoor.Sm
set_option maxRecDepth 20000
open Go.RowKit

/-- A state as ints' cells. -/
def stI (s : St) : List Value := [.int .i64 (s.a : Nat), .int .i64 (s.b : Nat), .int .i64 (s.c : Nat), .int .i64 (s.d : Nat), .int .i64 (s.e : Nat), .int .i64 (s.f : Nat), .int .i64 (s.g : Nat), .int .i64 (s.h : Nat)]
theorem stI_length (s : St) : (stI s).length = 8 := rfl
theorem stI_at (s : St) (i : Nat) (h : i < 8) : (stI s)[i]? = some (.int .i64 (s.at i : Nat)) := by
  match i, h with
  | 0, _ => rfl
  | 1, _ => rfl
  | 2, _ => rfl
  | 3, _ => rfl
  | 4, _ => rfl
  | 5, _ => rfl
  | 6, _ => rfl
  | 7, _ => rfl
theorem rbs1_bits (e : Nat) : bits .xor .i64 (bits .xor .i64 ((rotr e 6 : Nat) : Int) ((rotr e 11 : Nat) : Int)) ((rotr e 25 : Nat) : Int) = ((bs1 e : Nat) : Int) := by
  have h1 := rotr_lt e 6
  have h2 := rotr_lt e 11
  have h4 := rotr_lt e 25
  have h3 := xor_lt h1 h2
  rw [i64_xor_nat _ _ (by omega) (by omega), i64_xor_nat _ _ (by omega) (by omega)]
  rfl
theorem rbs0_bits (a : Nat) : bits .xor .i64 (bits .xor .i64 ((rotr a 2 : Nat) : Int) ((rotr a 13 : Nat) : Int)) ((rotr a 22 : Nat) : Int) = ((bs0 a : Nat) : Int) := by
  have h1 := rotr_lt a 2
  have h2 := rotr_lt a 13
  have h4 := rotr_lt a 22
  have h3 := xor_lt h1 h2
  rw [i64_xor_nat _ _ (by omega) (by omega), i64_xor_nat _ _ (by omega) (by omega)]
  rfl
theorem rch_bits (e f g : Nat) (he : e < 4294967296) (hf : f < 4294967296) (hg : g < 4294967296) : bits .xor .i64 (bits .and .i64 (e : Int) (f : Int)) (bits .and .i64 (IntKind.i64.wrap (4294967295 - (e : Int))) (g : Int)) = ((chf e f g : Nat) : Int) := by
  have e1 : IntKind.i64.wrap (4294967295 - (e : Int)) = ((4294967295 - e : Nat) : Int) := by rw [IntKind.wrap_i64]; omega
  have h1 := and_lt (a := e) hf
  have h2 := and_lt (a := 4294967295 - e) hg
  rw [e1, i64_and_nat _ _ (by omega) (by omega), i64_and_nat _ _ (by omega) (by omega), i64_xor_nat _ _ (by omega) (by omega)]
  rfl
theorem rmaj_bits (a b c : Nat) (ha : a < 4294967296) (hb : b < 4294967296) (hc : c < 4294967296) : bits .xor .i64 (bits .xor .i64 (bits .and .i64 (a : Int) (b : Int)) (bits .and .i64 (a : Int) (c : Int))) (bits .and .i64 (b : Int) (c : Int)) = ((maj a b c : Nat) : Int) := by
  have h1 := and_lt (a := a) hb
  have h2 := and_lt (a := a) hc
  have h3 := and_lt (a := b) hc
  have h4 := xor_lt h1 h2
  rw [i64_and_nat _ _ (by omega) (by omega), i64_and_nat _ _ (by omega) (by omega), i64_and_nat _ _ (by omega) (by omega), i64_xor_nat _ _ (by omega) (by omega), i64_xor_nat _ _ (by omega) (by omega)]
  rfl
theorem rt_bits (e f g h k w : Nat) (he : e < 4294967296) (hf : f < 4294967296) (hg : g < 4294967296) (hh : h < 4294967296) (hk : k < 4294967296) (hw : w < 4294967296) :
    IntKind.i64.wrap (IntKind.i64.wrap (IntKind.i64.wrap (IntKind.i64.wrap ((h : Int) + bits .xor .i64 (bits .xor .i64 ((rotr e 6 : Nat) : Int) ((rotr e 11 : Nat) : Int)) ((rotr e 25 : Nat) : Int)) + bits .xor .i64 (bits .and .i64 (e : Int) (f : Int)) (bits .and .i64 (IntKind.i64.wrap (4294967295 - (e : Int))) (g : Int))) + (k : Int)) + (w : Int)) = ((h + bs1 e + chf e f g + k + w : Nat) : Int) := by
  have h1 := bs1_lt e
  have h2 := chf_lt (e := e) hf hg
  rw [rbs1_bits, rch_bits e f g he hf hg]
  generalize bs1 e = p at *
  generalize chf e f g = q at *
  clear he hf hg
  rw [wraps_i64 ((h : Int) + (p : Int)) (by omega) (by omega), wraps_i64 ((h : Int) + (p : Int) + (q : Int)) (by omega) (by omega), wraps_i64 ((h : Int) + (p : Int) + (q : Int) + (k : Int)) (by omega) (by omega), wraps_i64 ((h : Int) + (p : Int) + (q : Int) + (k : Int) + (w : Int)) (by omega) (by omega)]
  omega
theorem ru_bits (a b c : Nat) (ha : a < 4294967296) (hb : b < 4294967296) (hc : c < 4294967296) :
    IntKind.i64.wrap (bits .xor .i64 (bits .xor .i64 ((rotr a 2 : Nat) : Int) ((rotr a 13 : Nat) : Int)) ((rotr a 22 : Nat) : Int) + bits .xor .i64 (bits .xor .i64 (bits .and .i64 (a : Int) (b : Int)) (bits .and .i64 (a : Int) (c : Int))) (bits .and .i64 (b : Int) (c : Int))) = ((bs0 a + maj a b c : Nat) : Int) := by
  have h1 := bs0_lt a
  have h2 := maj_lt (a := a) hb hc
  rw [rbs0_bits, rmaj_bits a b c ha hb hc]
  generalize bs0 a = p at *
  generalize maj a b c = q at *
  clear ha hb hc
  rw [wraps_i64 ((p : Int) + (q : Int)) (by omega) (by omega)]
  omega
end Go.Proofs.YtoopaigpjefonaaGreatDoor.Sm
