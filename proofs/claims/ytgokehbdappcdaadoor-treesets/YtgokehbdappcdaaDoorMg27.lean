/- sum's state.with, called with a state and a pointer to a block of 64 bytes, tells the state behind the block, and changes nothing that was there. -/
import Derived.Test.YtgokehbdappcdaaDoorMg25
import Derived.Test.YtgokehbdappcdaaDoorMg26
import Derived.Laws.DeepNot64
namespace Go.Proofs.YtgokehbdappcdaaDoor.Sm
set_option maxRecDepth 20000
open Go.RowKit

/-- A world in which the table of k stands where the program has it. -/
def Cubes (w : World) : Prop := 1 < w.heap.size ∧ ∀ i, i < 64 → w.cell? ⟨1, i, none⟩ = some (.int .u32 (keyN i : Nat))

theorem not_nat (e : Nat) (h : e < 4294967296) : 4294967295 ^^^ e = 4294967295 - e := by
  apply Nat.eq_of_testBit_eq
  intro i
  have h1 : (4294967295 - e).testBit i = (decide (i < 32) && !e.testBit i) := by
    rw [show 4294967295 - e = 2 ^ 32 - (e + 1) by omega]
    exact Nat.testBit_two_pow_sub_succ (n := 32) h i
  have h2 : Nat.testBit 4294967295 i = decide (i < 32) := Nat.testBit_two_pow_sub_one 32 i
  rw [Nat.testBit_xor, h1, h2]
  by_cases hi : i < 32
  · simp [hi]
  · have h3 : e.testBit i = false := Nat.testBit_lt_two_pow (Nat.lt_of_lt_of_le h (Nat.pow_le_pow_right (n := 2) (by decide) (by omega : 32 ≤ i)))
    simp [hi, h3]
theorem bs1_bits (e : Nat) : bits .xor .u32 (bits .xor .u32 ((rotr e 6 : Nat) : Int) ((rotr e 11 : Nat) : Int)) ((rotr e 25 : Nat) : Int) = ((bs1 e : Nat) : Int) := by
  rw [u32_xor_nat _ _ (rotr_lt _ _) (rotr_lt _ _), u32_xor_nat _ _ (xor_lt (rotr_lt _ _) (rotr_lt _ _)) (rotr_lt _ _)]
  rfl
theorem bs0_bits (e : Nat) : bits .xor .u32 (bits .xor .u32 ((rotr e 2 : Nat) : Int) ((rotr e 13 : Nat) : Int)) ((rotr e 22 : Nat) : Int) = ((bs0 e : Nat) : Int) := by
  rw [u32_xor_nat _ _ (rotr_lt _ _) (rotr_lt _ _), u32_xor_nat _ _ (xor_lt (rotr_lt _ _) (rotr_lt _ _)) (rotr_lt _ _)]
  rfl
theorem chf_bits (e f g : Nat) (he : e < 4294967296) (hf : f < 4294967296) (hg : g < 4294967296) : bits .xor .u32 (bits .and .u32 (e : Int) (f : Int)) (bits .and .u32 (bits .xor .u32 IntKind.u32.max (e : Int)) (g : Int)) = ((chf e f g : Nat) : Int) := by
  rw [show (IntKind.u32.max : Int) = ((4294967295 : Nat) : Int) from rfl, u32_xor_nat _ _ (by decide) he, not_nat e he, u32_and_nat _ _ he hf, u32_and_nat _ _ (by omega) hg, u32_xor_nat _ _ (and_lt hf) (and_lt hg)]
  rfl
theorem maj_bits (a b c : Nat) (ha : a < 4294967296) (hb : b < 4294967296) (hc : c < 4294967296) : bits .xor .u32 (bits .xor .u32 (bits .and .u32 (a : Int) (b : Int)) (bits .and .u32 (a : Int) (c : Int))) (bits .and .u32 (b : Int) (c : Int)) = ((maj a b c : Nat) : Int) := by
  rw [u32_and_nat _ _ ha hb, u32_and_nat _ _ ha hc, u32_and_nat _ _ hb hc, u32_xor_nat _ _ (and_lt hb) (and_lt hc), u32_xor_nat _ _ (xor_lt (and_lt hb) (and_lt hc)) (and_lt hc)]
  rfl
theorem t_bits (e f g h k y : Nat) (he : e < 4294967296) (hf : f < 4294967296) (hg : g < 4294967296) :
    IntKind.u32.wrap (IntKind.u32.wrap (IntKind.u32.wrap (IntKind.u32.wrap ((h : Int) + bits .xor .u32 (bits .xor .u32 ((rotr e 6 : Nat) : Int) ((rotr e 11 : Nat) : Int)) ((rotr e 25 : Nat) : Int)) + bits .xor .u32 (bits .and .u32 (e : Int) (f : Int)) (bits .and .u32 (bits .xor .u32 IntKind.u32.max (e : Int)) (g : Int))) + (k : Int)) + (y : Int)) = (((h + bs1 e + chf e f g + k + y) % 4294967296 : Nat) : Int) := by
  rw [bs1_bits, chf_bits e f g he hf hg, IntKind.wrap_u32, IntKind.wrap_u32, IntKind.wrap_u32, IntKind.wrap_u32]
  omega
theorem u_bits (a b c : Nat) (ha : a < 4294967296) (hb : b < 4294967296) (hc : c < 4294967296) :
    IntKind.u32.wrap (bits .xor .u32 (bits .xor .u32 ((rotr a 2 : Nat) : Int) ((rotr a 13 : Nat) : Int)) ((rotr a 22 : Nat) : Int) + bits .xor .u32 (bits .xor .u32 (bits .and .u32 (a : Int) (b : Int)) (bits .and .u32 (a : Int) (c : Int))) (bits .and .u32 (b : Int) (c : Int))) = (((bs0 a + maj a b c) % 4294967296 : Nat) : Int) := by
  rw [bs0_bits, maj_bits a b c ha hb hc, IntKind.wrap_u32]
  omega
theorem add_bits (x y : Nat) : IntKind.u32.wrap ((x : Int) + (y : Int)) = (((x + y) % 4294967296 : Nat) : Int) := by
  rw [IntKind.wrap_u32]
  omega

set_option maxRecDepth 10000 in
set_option maxHeartbeats 1000000 in
theorem with_any (s : St) (hs : s.ok) (b : List Nat) (hb : Bytes b) (g off : Nat) (w : World) (hq : Cubes w) (hg : g < w.heap.size)
    (hc : ∀ i, i < 64 → w.cell? ⟨g, off + i, none⟩ = some (.int .u8 (b.getD i 0 : Nat))) :
    Calls Tryd.prog 74 #[.agg (stC s), .pointer (some ⟨g, off, none⟩)] w fun e w' => e = .returned (.agg (stC (comp s b))) ∧ Below w.heap.size w w' := by
  have HC : Hid (∀ i, i < 64 → w.cell? ⟨g, off + i, none⟩ = some (.int .u8 (b.getD i 0 : Nat))) := hc
  have HQ : Hid (Cubes w) := hq
  clear hc hq
  go_enter Tryd.func74, Tryd.ntmps74
  go_wp2_with fail
  have h0 : Below w.heap.size w ((w.alloc (.cells (stC s) 92)).alloc (.cells #[.int .u32 0, .int .u32 0, .int .u32 0, .int .u32 0, .int .u32 0, .int .u32 0, .int .u32 0, .int .u32 0] 92)) := ((Below.refl _ _).alloc (Nat.le_refl _) _).alloc (by simp) _
  have g0 := heap_alloc2_old w (.cells (stC s) 92) (.cells #[.int .u32 0, .int .u32 0, .int .u32 0, .int .u32 0, .int .u32 0, .int .u32 0, .int .u32 0, .int .u32 0] 92)
  have r0 := heap_alloc2_new w (.cells (stC s) 92) (.cells #[.int .u32 0, .int .u32 0, .int .u32 0, .int .u32 0, .int .u32 0, .int .u32 0, .int .u32 0, .int .u32 0] 92)
  generalize (w.alloc (.cells (stC s) 92)).alloc (.cells #[.int .u32 0, .int .u32 0, .int .u32 0, .int .u32 0, .int .u32 0, .int .u32 0, .int .u32 0, .int .u32 0] 92) = w0 at *
  refine (schedule_any b hb g off w0 (Nat.lt_of_lt_of_le hg h0.size) (fun i hi => (h0.cell (p := ⟨g, off + i, none⟩) hg).trans (HC.out i hi))).mono ?_
  rintro e w1 ⟨rfl, hb1⟩
  have g1 := (hb1.block _ (lt_of_block g0)).trans g0
  have r1 := (hb1.block _ (lt_of_block r0)).trans r0
  have h1 := h0.trans (hb1.mono h0.size)
  have hlt1 := lt_of_block r1
  clear h0 g0 r0 hb1
  obtain ⟨cs, hcs⟩ : ∃ cs, cs = ((schedL b).map fun x => Value.int .u32 (x : Nat)).toArray := ⟨_, rfl⟩
  have hsz : cs.size = 64 := by rw [hcs]; simp [schedL_length]
  have hone : cs.all (·.oneCell') = true := by rw [hcs]; simp [Value.oneCell']
  have HW : Hid (∀ i, i < 64 → cs[i]? = some (.int .u32 (schedN b i : Nat))) := fun i hi => by
    rw [hcs, List.getElem?_toArray, List.getElem?_map, List.getElem?_eq_getElem (by rw [schedL_length]; exact hi)]
    show some _ = some _
    rw [schedN, getD_at _ _ (by rw [schedL_length]; exact hi)]
  rw [← hcs]
  clear hcs
  have hinfo : (Tryd.prog.info? 146).map (·.size) = some cs.size := by rw [hsz]; kernel_rfl
  go_wp2_with (refine wpList_store_row rfl 146 _ _ rfl w1.heap.size cs rfl rfl 146 _ (heap_alloc_new w1 _) hinfo (by rw [hsz]; rfl) hone ?_)
  rw [World.setRow_alloc_new]
  have k2 := heap_alloc_new w1 (.cells cs 146)
  have g2 := (Below.heap_alloc w1 (.cells cs 146) w.heap.size (lt_of_block g1)).trans g1
  have r2 := (Below.heap_alloc w1 (.cells cs 146) (w.heap.size + 1) (lt_of_block r1)).trans r1
  have h2 := h1.alloc h1.size (.cells cs 146)
  clear h1 g1 r1 hinfo hone
  generalize w1.alloc (.cells cs 146) = w2 at *
  have c0 : w2.cell? ⟨w.heap.size, 0, none⟩ = some (.int .u32 (s.a : Nat)) := by simp [World.cell?, g2, stC]
  have c1 : w2.cell? ⟨w.heap.size, 1, none⟩ = some (.int .u32 (s.b : Nat)) := by simp [World.cell?, g2, stC]
  have c2 : w2.cell? ⟨w.heap.size, 2, none⟩ = some (.int .u32 (s.c : Nat)) := by simp [World.cell?, g2, stC]
  have c3 : w2.cell? ⟨w.heap.size, 3, none⟩ = some (.int .u32 (s.d : Nat)) := by simp [World.cell?, g2, stC]
  have c4 : w2.cell? ⟨w.heap.size, 4, none⟩ = some (.int .u32 (s.e : Nat)) := by simp [World.cell?, g2, stC]
  have c5 : w2.cell? ⟨w.heap.size, 5, none⟩ = some (.int .u32 (s.f : Nat)) := by simp [World.cell?, g2, stC]
  have c6 : w2.cell? ⟨w.heap.size, 6, none⟩ = some (.int .u32 (s.g : Nat)) := by simp [World.cell?, g2, stC]
  have c7 : w2.cell? ⟨w.heap.size, 7, none⟩ = some (.int .u32 (s.h : Nat)) := by simp [World.cell?, g2, stC]
  go_region_held3 (fun w' => w'.cell? ⟨w.heap.size, 0, none⟩ = some (.int .u32 (s.a : Nat)) ∧ w'.cell? ⟨w.heap.size, 1, none⟩ = some (.int .u32 (s.b : Nat)) ∧ w'.cell? ⟨w.heap.size, 2, none⟩ = some (.int .u32 (s.c : Nat)) ∧ w'.cell? ⟨w.heap.size, 3, none⟩ = some (.int .u32 (s.d : Nat)) ∧ w'.cell? ⟨w.heap.size, 4, none⟩ = some (.int .u32 (s.e : Nat)) ∧ w'.cell? ⟨w.heap.size, 5, none⟩ = some (.int .u32 (s.f : Nat)) ∧ w'.cell? ⟨w.heap.size, 6, none⟩ = some (.int .u32 (s.g : Nat)) ∧ w'.cell? ⟨w.heap.size, 7, none⟩ = some (.int .u32 (s.h : Nat))) (simp [go_sem, *]) (fail)
  clear c0 c1 c2 c3 c4 c5 c6 c7
  go_wp2_with fail
  go_loopw [6, 7, 8, 9, 10, 11, 12, 13, 35] (fun a b' c d e f g' h i wr => ∃ j : Nat, j ≤ 64 ∧ i = .int .i64 j ∧ a = .int .u32 ((rnds (schedL b) s j).a : Nat) ∧ b' = .int .u32 ((rnds (schedL b) s j).b : Nat) ∧ c = .int .u32 ((rnds (schedL b) s j).c : Nat) ∧ d = .int .u32 ((rnds (schedL b) s j).d : Nat) ∧ e = .int .u32 ((rnds (schedL b) s j).e : Nat) ∧ f = .int .u32 ((rnds (schedL b) s j).f : Nat) ∧ g' = .int .u32 ((rnds (schedL b) s j).g : Nat) ∧ h = .int .u32 ((rnds (schedL b) s j).h : Nat) ∧ wr.heap[w1.heap.size]? = some (.cells cs 146 (0, 0)) ∧ wr.heap[w.heap.size]? = some (.cells (stC s) 92 (0, 0)) ∧ wr.heap[w.heap.size + 1]? = some (.cells #[.int .u32 0, .int .u32 0, .int .u32 0, .int .u32 0, .int .u32 0, .int .u32 0, .int .u32 0, .int .u32 0] 92 (0, 0)) ∧ Below w.heap.size w wr) (fun _ _ _ _ _ _ _ _ i _ => 64 - (intOf i).toNat)
  case atStart => exact ⟨0, Nat.zero_le _, rfl, rfl, rfl, rfl, rfl, rfl, rfl, rfl, rfl, k2, g2, r2, h2.drew⟩
  case round =>
    clear k2 g2 r2 h2
    obtain ⟨j, hj, rfl, rfl, rfl, rfl, rfl, rfl, rfl, rfl, rfl, k2, g2, r2, h2⟩ := hrel
    obtain ⟨st, hst⟩ : ∃ st, st = rnds (schedL b) s j := ⟨_, rfl⟩
    have hok : st.ok := by rw [hst]; exact rnds_ok hs _ _
    rw [← hst]
    by_cases hlt : j < 64
    · have ck := (h2.cell (p := ⟨1, j, none⟩) HQ.out.1).trans (HQ.out.2 j hlt)
      have cw := (cell_of_row _ _ j _ _ _ k2).trans (HW.out j hlt)
      obtain ⟨k, hk⟩ : ∃ k, k = keyN j := ⟨_, rfl⟩
      obtain ⟨y, hy⟩ : ∃ y, y = schedN b j := ⟨_, rfl⟩
      rw [← hk] at ck
      rw [← hy] at cw
      have HST : Hid (rnds (schedL b) s (j + 1) = rnd k y st) := by
        show rnds (schedL b) s (j + 1) = _
        rw [rnds, hk, hy, hst]; rfl
      have HK : Hid (k < 4294967296 ∧ y < 4294967296) := ⟨by rw [hk]; exact keyN_lt j, by rw [hy]; exact schedN_lt hb j⟩
      clear hk hy hst
      have HOK : Hid st.ok := hok
      obtain ⟨hA, hB, hC, hD, hE, hF, hG, hH⟩ := hok
      have s4 : (j : Int) < 64 := by omega
      obtain ⟨xa, xb, xc, xd, xe, xf, xg, xh⟩ := st
      simp only at hA hB hC hD hE hF hG hH
      go_wp2_with fail
      go_region_held3 (fun w' => w'.cell? ⟨1, j, none⟩ = some (.int .u32 (k : Nat)) ∧ w'.cell? ⟨w1.heap.size, j, none⟩ = some (.int .u32 (y : Nat))) (simp [go_sem, *]) (first | (go_at_call 79; refine (right_any xe 6 hE (by decide) (by decide) _).mono ?_; rintro e w' ⟨rfl, rfl⟩) | (go_at_call 79; refine (right_any xe 11 hE (by decide) (by decide) _).mono ?_; rintro e w' ⟨rfl, rfl⟩) | (go_at_call 79; refine (right_any xe 25 hE (by decide) (by decide) _).mono ?_; rintro e w' ⟨rfl, rfl⟩))
      rw [t_bits xe xf xg xh k y hE hF hG]
      obtain ⟨T, hT⟩ : ∃ T, T = (xh + bs1 xe + chf xe xf xg + k + y) % 4294967296 := ⟨_, rfl⟩
      rw [← hT]
      have HT : Hid (T = (xh + bs1 xe + chf xe xf xg + k + y) % 4294967296) := hT
      clear hT ck cw
      go_wp2_with fail
      refine (right_any xa 2 hA (by decide) (by decide) _).mono ?_
      rintro e w' ⟨rfl, rfl⟩
      go_wp2_with fail
      refine (right_any xa 13 hA (by decide) (by decide) _).mono ?_
      rintro e w' ⟨rfl, rfl⟩
      go_wp2_with fail
      refine (right_any xa 22 hA (by decide) (by decide) _).mono ?_
      rintro e w' ⟨rfl, rfl⟩
      go_wp2_with fail
      rw [bs0_bits, maj_bits xa xb xc hA hB hC]
      refine ⟨⟨j + 1, by omega, by go_num, ?_⟩, by simp [intOf]; omega⟩
      rw [HST.out]
      refine ⟨?_, rfl, rfl, rfl, ?_, rfl, rfl, rfl, k2, g2, r2, h2.drew⟩
      · show _ = Value.int .u32 (((xh + bs1 xe + chf xe xf xg + k + y + (bs0 xa + maj xa xb xc)) % 4294967296 : Nat) : Int)
        congr 1
        rw [HT.out]
        omega
      · show _ = Value.int .u32 (((xd + (xh + bs1 xe + chf xe xf xg + k + y)) % 4294967296 : Nat) : Int)
        congr 1
        rw [HT.out]
        omega
    · obtain rfl : j = 64 := by omega
      have HS : Hid (st = rnds (schedL b) s 64) := hst
      clear hst
      obtain ⟨xa, xb, xc, xd, xe, xf, xg, xh⟩ := st
      have c0 : wr.cell? ⟨w.heap.size, 0, none⟩ = some (.int .u32 (s.a : Nat)) := by simp [World.cell?, g2, stC]
      have c1 : wr.cell? ⟨w.heap.size, 1, none⟩ = some (.int .u32 (s.b : Nat)) := by simp [World.cell?, g2, stC]
      have c2 : wr.cell? ⟨w.heap.size, 2, none⟩ = some (.int .u32 (s.c : Nat)) := by simp [World.cell?, g2, stC]
      have c3 : wr.cell? ⟨w.heap.size, 3, none⟩ = some (.int .u32 (s.d : Nat)) := by simp [World.cell?, g2, stC]
      have c4 : wr.cell? ⟨w.heap.size, 4, none⟩ = some (.int .u32 (s.e : Nat)) := by simp [World.cell?, g2, stC]
      have c5 : wr.cell? ⟨w.heap.size, 5, none⟩ = some (.int .u32 (s.f : Nat)) := by simp [World.cell?, g2, stC]
      have c6 : wr.cell? ⟨w.heap.size, 6, none⟩ = some (.int .u32 (s.g : Nat)) := by simp [World.cell?, g2, stC]
      have c7 : wr.cell? ⟨w.heap.size, 7, none⟩ = some (.int .u32 (s.h : Nat)) := by simp [World.cell?, g2, stC]
      have HC2 : Hid (comp s b = addSt s ⟨xa, xb, xc, xd, xe, xf, xg, xh⟩) := by show comp s b = _; rw [comp, ← HS.out]
      have hinfo : (Tryd.prog.info? 92).map (·.size) = some (stC (addSt s ⟨xa, xb, xc, xd, xe, xf, xg, xh⟩)).size := by show _ = some 8; kernel_rfl
      have hone : (stC (addSt s ⟨xa, xb, xc, xd, xe, xf, xg, xh⟩)).all (·.oneCell') = true := by simp [stC, Value.oneCell']
      go_wp2_with (refine wpList_store_row rfl 92 _ _ rfl (w.heap.size + 1) (stC (addSt s ⟨xa, xb, xc, xd, xe, xf, xg, xh⟩)) rfl rfl 92 _ r2 hinfo rfl hone ?_)
      have hl0 := run_loadVar_row (P := Tryd.prog) (wr.setRow (w.heap.size + 1) (stC (addSt s ⟨xa, xb, xc, xd, xe, xf, xg, xh⟩))) (w.heap.size + 1) 92 92 (stC (addSt s ⟨xa, xb, xc, xd, xe, xf, xg, xh⟩)) (0, 0) _ (setRow_heap _ _ _ _ _ _ r2) Tryd.underlying92 rfl hinfo
      have hba := below_rowG h2 (show w.heap.size ≤ w.heap.size + 1 by omega) (stC (addSt s ⟨xa, xb, xc, xd, xe, xf, xg, xh⟩))
      exact bodyPost_ret (v := .agg (stC (addSt s ⟨xa, xb, xc, xd, xe, xf, xg, xh⟩))) (by simp [results, Tryd.results74, asAddr, Act.put, hl0]) rfl ⟨by rw [HC2.out], hba⟩
end Go.Proofs.YtgokehbdappcdaaDoor.Sm
