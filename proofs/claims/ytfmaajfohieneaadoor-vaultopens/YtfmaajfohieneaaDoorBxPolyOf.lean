/- box.taggerOf: the key's halves, bits taken away from the first. -/
import Derived.Test.YtfmaajfohieneaaDoorMg44
import Derived.Test.YtfmaajfohieneaaDoorMg40
namespace Go.Proofs.YtfmaajfohieneaaDoor.Bx
set_option maxRecDepth 20000
open Go.RowKit

/-- Sixteen bytes, of which some have lost bits. -/
def clN (l : List Nat) (i j k : Nat) : Nat := if k % 4 = 3 ∧ k < 4 * i then l.getD k 0 % 16 else if k % 4 = 0 ∧ 0 < k ∧ k ≤ 4 * j then l.getD k 0 - l.getD k 0 % 4 else l.getD k 0
theorem clN_3 (l : List Nat) (i k : Nat) : (if k = 4 * i + 3 then l.getD (4 * i + 3) 0 % 16 else clN l i 0 k) = clN l (i + 1) 0 k := by
  unfold clN
  by_cases h : k = 4 * i + 3
  · subst h
    rw [if_pos rfl, if_pos (by omega)]
  · rw [if_neg h]
    have e : (k % 4 = 3 ∧ k < 4 * (i + 1)) = (k % 4 = 3 ∧ k < 4 * i) := propext ⟨fun h => by omega, fun h => by omega⟩
    simp only [e]
theorem clN_4 (l : List Nat) (j k : Nat) : (if k = 4 * j + 4 then l.getD (4 * j + 4) 0 - l.getD (4 * j + 4) 0 % 4 else clN l 4 j k) = clN l 4 (j + 1) k := by
  unfold clN
  by_cases h : k = 4 * j + 4
  · subst h
    rw [if_pos rfl, if_neg (by omega), if_pos (by omega)]
  · rw [if_neg h]
    have e : (k % 4 = 0 ∧ 0 < k ∧ k ≤ 4 * (j + 1)) = (k % 4 = 0 ∧ 0 < k ∧ k ≤ 4 * j) := propext ⟨fun h => by omega, fun h => by omega⟩
    simp only [e]
theorem clN_all (l : List Nat) (k : Nat) (hk : k < 16) : clN l 4 3 k = clampB k (l.getD k 0) := by
  unfold clN clampB
  have e1 : (k % 4 = 3 ∧ k < 4 * 4) = (k % 4 = 3) := propext ⟨fun h => by omega, fun h => by omega⟩
  have e2 : (k % 4 = 0 ∧ 0 < k ∧ k ≤ 4 * 3) = (k % 4 = 0 ∧ 0 < k) := propext ⟨fun h => by omega, fun h => by omega⟩
  simp only [e1, e2]
theorem clampL_length (l : List Nat) : (clampL l).length = 16 := by simp [clampL]
theorem clampB_lt (i x : Nat) (h : x < 256) : clampB i x < 256 := by unfold clampB; split <;> (try split) <;> omega
theorem clampL_bytes (l : List Nat) (h : Bytes l) : Bytes (clampL l) := fun x hx => by
  obtain ⟨i, _, rfl⟩ := List.mem_map.1 hx
  exact clampB_lt _ _ (getD_lt (by decide) h i)
theorem clF_all (l : List Nat) : rowF 16 (fun k => .int .u8 (clN l 4 3 k : Nat)) = byV (clampL l) := by
  rw [rowF_congr (f' := fun k => .int .u8 (clampB k (l.getD k 0) : Nat)) (fun k hk => by rw [clN_all l k hk])]
  simp [rowF, byV, clampL]
theorem and15 (x : Nat) (h : x < 256) : bits .and .u8 (x : Int) 15 = ((x % 16 : Nat) : Int) := by
  rw [show (15 : Int) = ((15 : Nat) : Int) from rfl, u8_and_nat x 15 h (by decide), nat_mask4]
theorem and252 (x : Nat) (h : x < 256) : bits .and .u8 (x : Int) 252 = ((x - x % 4 : Nat) : Int) := by
  have all : ∀ a : Fin 256, a.val &&& 252 = a.val - a.val % 4 := by decide +kernel
  rw [show (252 : Int) = ((252 : Nat) : Int) from rfl, u8_and_nat x 252 h (by decide)]
  exact congrArg _ (all ⟨x, h⟩)

/-- A tagger's cells. -/
def tagC (r0 r1 s0 s1 h0 h1 h2 : Nat) : List Value := [.int .u64 r0, .int .u64 r1, .int .u64 s0, .int .u64 s1, .int .u64 h0, .int .u64 h1, .int .u64 h2]

set_option maxRecDepth 10000 in
set_option maxHeartbeats 2000000 in
theorem taggerOf_any (key : ByteArray) (hk : key.size = 32) (w : World) :
    Calls Tryd.prog 69 #[.string key] w fun e w' => e = .returned (.agg (tagC (wordAt (clampL (numsOf key)) 0) (wordAt (clampL (numsOf key)) 8) (wordAt ((numsOf key).drop 16) 0) (wordAt ((numsOf key).drop 16) 8) 0 0 0).toArray) ∧ Below w.heap.size w w' := by
  obtain ⟨w0, hw0⟩ : ∃ w0, ((w.alloc (.cells #[.int .u64 0, .int .u64 0, .int .u64 0, .int .u64 0, .int .u64 0, .int .u64 0, .int .u64 0] 114)).alloc (.cells #[.int .u8 0, .int .u8 0, .int .u8 0, .int .u8 0, .int .u8 0, .int .u8 0, .int .u8 0, .int .u8 0, .int .u8 0, .int .u8 0, .int .u8 0, .int .u8 0, .int .u8 0, .int .u8 0, .int .u8 0, .int .u8 0] 127)).alloc (.cells #[.int .u8 0, .int .u8 0, .int .u8 0, .int .u8 0, .int .u8 0, .int .u8 0, .int .u8 0, .int .u8 0, .int .u8 0, .int .u8 0, .int .u8 0, .int .u8 0, .int .u8 0, .int .u8 0, .int .u8 0, .int .u8 0] 127) = w0 := ⟨_, rfl⟩
  have a0 : Row w0 w.heap.size 114 (tagC 0 0 0 0 0 0 0) := by rw [← hw0]; exact (Below.heap_alloc _ _ _ (by simp; omega)).trans (heap_alloc2_old w _ _)
  have a1 : Row w0 (w.heap.size + 1) 127 (byV (List.replicate 16 0)) := by rw [← hw0]; exact (Below.heap_alloc _ _ _ (by simp)).trans (heap_alloc2_new w _ _)
  have a2 : Row w0 (w.heap.size + 1 + 1) 127 (byV (List.replicate 16 0)) := by
    rw [← hw0]
    have := heap_alloc_new ((w.alloc (.cells #[.int .u64 0, .int .u64 0, .int .u64 0, .int .u64 0, .int .u64 0, .int .u64 0, .int .u64 0] 114)).alloc (.cells #[.int .u8 0, .int .u8 0, .int .u8 0, .int .u8 0, .int .u8 0, .int .u8 0, .int .u8 0, .int .u8 0, .int .u8 0, .int .u8 0, .int .u8 0, .int .u8 0, .int .u8 0, .int .u8 0, .int .u8 0, .int .u8 0] 127)) (.cells #[.int .u8 0, .int .u8 0, .int .u8 0, .int .u8 0, .int .u8 0, .int .u8 0, .int .u8 0, .int .u8 0, .int .u8 0, .int .u8 0, .int .u8 0, .int .u8 0, .int .u8 0, .int .u8 0, .int .u8 0, .int .u8 0] 127)
    simpa [Row, byV] using this
  have ab : Below w.heap.size w w0 := by rw [← hw0]; exact (((Below.refl _ _).alloc (Nat.le_refl _) _).alloc (by simp) _).alloc (by simp; omega) _
  obtain ⟨w1, hcp1, b1, o1⟩ := copy_row w0 (w.heap.size + 1) 127 16 _ rfl a1 key
  have b0 := a0.only o1 (by omega)
  have b2 := a2.only o1 (by omega)
  have bb := ab.trans ((o1.below (Nat.le_of_lt a1.lt)).mono (by omega))
  rw [show min key.size 16 = 16 by omega] at hcp1 b1
  obtain ⟨u, hu⟩ : ∃ u, u = key.extract 16 key.size := ⟨_, rfl⟩
  have hus : u.size = 16 := by rw [hu]; simp; omega
  have hun : numsOf u = (numsOf key).drop 16 := by rw [hu, numsOf_extract, List.take_of_length_le (by simp [numsOf_length])]
  obtain ⟨w2, hcp2, c2, o2⟩ := copy_row w1.drew (w.heap.size + 1 + 1) 127 16 _ rfl b2 u
  rw [show min u.size 16 = 16 by omega] at hcp2 c2
  have c0 : Row w2 w.heap.size 114 (tagC 0 0 0 0 0 0 0) := Row.only (w := w1.drew) b0 o2 (by omega)
  have c1 : Row w2 (w.heap.size + 1) 127 _ := Row.only (w := w1.drew) b1 o2 (by omega)
  have cb : Below w.heap.size w w2 := bb.drew.trans ((o2.below (Nat.le_of_lt b2.lt)).mono (by omega))
  rw [List.take_of_length_le (by rw [numsOf_length]; omega), hun] at c2
  have hu' : key.extract 16 32 = u := by rw [hu, hk]
  have hc1 : Row w2 (w.heap.size + 1) 127 (rowF 16 fun k => .int .u8 (clN (numsOf key) 0 0 k : Nat)) := by
    refine c1.congr ?_
    have hl : ((numsOf key).take 16).length = 16 := by simp [numsOf_length]; omega
    rw [show List.drop 16 (byV (List.replicate 16 0)) = [] from rfl, List.append_nil, byV_rowF, hl]
    refine rowF_congr fun k hk => ?_
    rw [List.getD_eq_getElem?_getD, List.getElem?_take, if_pos hk, ← List.getD_eq_getElem?_getD]
    unfold clN
    rw [if_neg (by omega), if_neg (by omega)]
  have hc2 : Row w2 (w.heap.size + 1 + 1) 127 (byV ((numsOf key).drop 16)) := c2.congr (by rw [show List.drop 16 (byV (List.replicate 16 0)) = [] from rfl, List.append_nil])
  have hb0 : ∀ k, (numsOf key).getD k 0 < 256 := fun k => getD_lt (by decide) (numsOf_bytes key) k
  have hbk := numsOf_bytes key
  have hlk : (numsOf key).length = 32 := by rw [numsOf_length, hk]
  obtain ⟨N, hN⟩ : ∃ N, N = numsOf key := ⟨_, rfl⟩
  rw [← hN] at hc1 hc2 hb0 hbk hlk
  rw [← hN]
  have HK : Hid (Row w2 (w.heap.size + 1) 127 (rowF 16 fun k => .int .u8 (clN N 0 0 k : Nat)) ∧ Row w2 (w.heap.size + 1 + 1) 127 (byV (N.drop 16)) ∧ Row w2 w.heap.size 114 (tagC 0 0 0 0 0 0 0) ∧ Below w.heap.size w w2) := ⟨hc1, hc2, c0, cb⟩
  clear a0 a1 a2 ab b0 b1 b2 bb c0 c1 c2 cb o1 o2 hun hu hus hN hc1 hc2
  have hp1 := fun g t w hr => pair_any (clampL N) (clampL_length N) (clampL_bytes N hbk) g t w hr
  have hp2 := fun g t w hr => pair_any (N.drop 16) (by simp [hlk]) (hbk.drop 16) g t w hr
  generalize wordAt (clampL N) 0 = r0 at *
  generalize wordAt (clampL N) 8 = r1 at *
  generalize wordAt (N.drop 16) 0 = s0 at *
  generalize wordAt (N.drop 16) 8 = s1 at *
  go_enter Tryd.func69, Tryd.ntmps69
  go_wp2_with fail
  go_region_held3 (fun _ => True) (simp [go_sem, *]) (fail)
  clear hcp1 hcp2 hw0 hu'
  go_wp2_with fail
  go_loopw [14] (fun i wr => ∃ j : Nat, j ≤ 4 ∧ i = .int .i64 j ∧ Row wr (w.heap.size + 1) 127 (rowF 16 fun k => .int .u8 (clN N j 0 k : Nat)) ∧ Row wr (w.heap.size + 1 + 1) 127 (byV (N.drop 16)) ∧ Row wr w.heap.size 114 (tagC 0 0 0 0 0 0 0) ∧ Below w.heap.size w wr) (fun i _ => 4 - (intOf i).toNat)
  case atStart => exact ⟨0, Nat.zero_le _, rfl, HK.out⟩
  case round =>
    clear HK
    obtain ⟨j, hj, rfl, k1, k2, k0, hbw⟩ := hrel
    by_cases hlt : j < 4
    · have d1 := k1.cellF (4 * j + 3) (by omega)
      rw [show clN N j 0 (4 * j + 3) = N.getD (4 * j + 3) 0 by unfold clN; rw [if_neg (by omega), if_neg (by omega)]] at d1
      have hx := hb0 (4 * j + 3)
      have k3 := k1.setF (4 * j + 3) (.int .u8 ((N.getD (4 * j + 3) 0 % 16 : Nat) : Int))
      have hst : (rowF 16 fun k => if k = 4 * j + 3 then Value.int .u8 ((N.getD (4 * j + 3) 0 % 16 : Nat) : Int) else Value.int .u8 (clN N j 0 k : Nat)) = rowF 16 fun k => .int .u8 (clN N (j + 1) 0 k : Nat) := rowF_congr fun k _ => by rw [← clN_3 N j k]; split <;> rfl
      rw [hst] at k3
      clear hst
      have k2' : Row (wr.setCell ⟨w.heap.size + 1, 4 * j + 3, none⟩ (.int .u8 ((N.getD (4 * j + 3) 0 % 16 : Nat) : Int))) (w.heap.size + 1 + 1) 127 (byV (N.drop 16)) := (Below.heap_setCell _ _ _ _ (by simp)).trans k2
      have k0' : Row (wr.setCell ⟨w.heap.size + 1, 4 * j + 3, none⟩ (.int .u8 ((N.getD (4 * j + 3) 0 % 16 : Nat) : Int))) w.heap.size 114 (tagC 0 0 0 0 0 0 0) := (Below.heap_setCell _ _ _ _ (by simp)).trans k0
      have hbw' := hbw.setCell (p := ⟨w.heap.size + 1, 4 * j + 3, none⟩) (by simp) (.int .u8 ((N.getD (4 * j + 3) 0 % 16 : Nat) : Int))
      have v1 := and15 _ hx
      have d3 : ∀ i, wr.frozen? ⟨w.heap.size + 1, i, none⟩ = false := fun i => k1.frozen i
      generalize N.getD (4 * j + 3) 0 = x at *
      generalize hy : x % 16 = y at *
      have q0 : IntKind.i64.wrap (4 * (j : Int)) = 4 * j := by rw [IntKind.wrap_i64]; omega
      have q1 : IntKind.i64.wrap (4 * (j : Int) + 3) = 4 * j + 3 := by rw [IntKind.wrap_i64]; omega
      have t1 : (4 * (j : Int) + 3).toNat = 4 * j + 3 := by omega
      have s1 : 4 * (j : Int) + 3 < 16 := by omega
      have s2 : (0 : Int) ≤ 4 * (j : Int) + 3 := by omega
      have HR : Hid (Row (wr.setCell ⟨w.heap.size + 1, 4 * j + 3, none⟩ (.int .u8 (y : Int))) (w.heap.size + 1) 127 (rowF 16 fun k => .int .u8 (clN N (j + 1) 0 k : Nat)) ∧ Row (wr.setCell ⟨w.heap.size + 1, 4 * j + 3, none⟩ (.int .u8 (y : Int))) (w.heap.size + 1 + 1) 127 (byV (N.drop 16)) ∧ Row (wr.setCell ⟨w.heap.size + 1, 4 * j + 3, none⟩ (.int .u8 (y : Int))) w.heap.size 114 (tagC 0 0 0 0 0 0 0) ∧ Below w.heap.size w (wr.setCell ⟨w.heap.size + 1, 4 * j + 3, none⟩ (.int .u8 (y : Int)))) := ⟨k3, k2', k0', hbw'⟩
      clear k3 k2' k0' hbw' k1 k2 k0 hbw hb0 hy
      go_wp2
      go_roundw
      case rel => exact ⟨j + 1, by omega, by go_num, HR.out⟩
      case measure => simp [intOf]; omega
    · obtain rfl : j = 4 := by omega
      have HK : Hid (Row wr (w.heap.size + 1) 127 (rowF 16 fun k => .int .u8 (clN N 4 0 k : Nat)) ∧ Row wr (w.heap.size + 1 + 1) 127 (byV (N.drop 16)) ∧ Row wr w.heap.size 114 (tagC 0 0 0 0 0 0 0) ∧ Below w.heap.size w wr) := ⟨k1, k2, k0, hbw⟩
      clear k1 k2 k0 hbw
      go_wp2_with fail
      go_loopw [25] (fun i wr => ∃ j : Nat, j ≤ 3 ∧ i = .int .i64 j ∧ Row wr (w.heap.size + 1) 127 (rowF 16 fun k => .int .u8 (clN N 4 j k : Nat)) ∧ Row wr (w.heap.size + 1 + 1) 127 (byV (N.drop 16)) ∧ Row wr w.heap.size 114 (tagC 0 0 0 0 0 0 0) ∧ Below w.heap.size w wr) (fun i _ => 3 - (intOf i).toNat)
      case atStart => exact ⟨0, Nat.zero_le _, rfl, HK.out⟩
      case round =>
        clear HK
        obtain ⟨j, hj, rfl, k1, k2, k0, hbw⟩ := hrel
        by_cases hlt : j < 3
        · have d1 := k1.cellF (4 * j + 4) (by omega)
          rw [show clN N 4 j (4 * j + 4) = N.getD (4 * j + 4) 0 by unfold clN; rw [if_neg (by omega), if_neg (by omega)]] at d1
          have hx := hb0 (4 * j + 4)
          have k3 := k1.setF (4 * j + 4) (.int .u8 ((N.getD (4 * j + 4) 0 - N.getD (4 * j + 4) 0 % 4 : Nat) : Int))
          have hst : (rowF 16 fun k => if k = 4 * j + 4 then Value.int .u8 ((N.getD (4 * j + 4) 0 - N.getD (4 * j + 4) 0 % 4 : Nat) : Int) else Value.int .u8 (clN N 4 j k : Nat)) = rowF 16 fun k => .int .u8 (clN N 4 (j + 1) k : Nat) := rowF_congr fun k _ => by rw [← clN_4 N j k]; split <;> rfl
          rw [hst] at k3
          clear hst
          have k2' : Row (wr.setCell ⟨w.heap.size + 1, 4 * j + 4, none⟩ (.int .u8 ((N.getD (4 * j + 4) 0 - N.getD (4 * j + 4) 0 % 4 : Nat) : Int))) (w.heap.size + 1 + 1) 127 (byV (N.drop 16)) := (Below.heap_setCell _ _ _ _ (by simp)).trans k2
          have k0' : Row (wr.setCell ⟨w.heap.size + 1, 4 * j + 4, none⟩ (.int .u8 ((N.getD (4 * j + 4) 0 - N.getD (4 * j + 4) 0 % 4 : Nat) : Int))) w.heap.size 114 (tagC 0 0 0 0 0 0 0) := (Below.heap_setCell _ _ _ _ (by simp)).trans k0
          have hbw' := hbw.setCell (p := ⟨w.heap.size + 1, 4 * j + 4, none⟩) (by simp) (.int .u8 ((N.getD (4 * j + 4) 0 - N.getD (4 * j + 4) 0 % 4 : Nat) : Int))
          have v1 := and252 _ hx
          have d3 : ∀ i, wr.frozen? ⟨w.heap.size + 1, i, none⟩ = false := fun i => k1.frozen i
          generalize N.getD (4 * j + 4) 0 = x at *
          generalize hy : x - x % 4 = y at *
          have q0 : IntKind.i64.wrap (4 * (j : Int)) = 4 * j := by rw [IntKind.wrap_i64]; omega
          have q1 : IntKind.i64.wrap (4 * (j : Int) + 4) = 4 * j + 4 := by rw [IntKind.wrap_i64]; omega
          have t1 : (4 * (j : Int) + 4).toNat = 4 * j + 4 := by omega
          have s1 : 4 * (j : Int) + 4 < 16 := by omega
          have s2 : (0 : Int) ≤ 4 * (j : Int) + 4 := by omega
          have HR : Hid (Row (wr.setCell ⟨w.heap.size + 1, 4 * j + 4, none⟩ (.int .u8 (y : Int))) (w.heap.size + 1) 127 (rowF 16 fun k => .int .u8 (clN N 4 (j + 1) k : Nat)) ∧ Row (wr.setCell ⟨w.heap.size + 1, 4 * j + 4, none⟩ (.int .u8 (y : Int))) (w.heap.size + 1 + 1) 127 (byV (N.drop 16)) ∧ Row (wr.setCell ⟨w.heap.size + 1, 4 * j + 4, none⟩ (.int .u8 (y : Int))) w.heap.size 114 (tagC 0 0 0 0 0 0 0) ∧ Below w.heap.size w (wr.setCell ⟨w.heap.size + 1, 4 * j + 4, none⟩ (.int .u8 (y : Int)))) := ⟨k3, k2', k0', hbw'⟩
          clear k3 k2' k0' hbw' k1 k2 k0 hbw hb0 hy
          go_wp2
          go_roundw
          case rel => exact ⟨j + 1, by omega, by go_num, HR.out⟩
          case measure => simp [intOf]; omega
        · obtain rfl : j = 3 := by omega
          rw [clF_all] at k1
          have hlt0 := k2.lt
          go_wp2_with fail
          refine (hp1 (w.heap.size + 1) _ _ k1).mono ?_
          rintro e w3 ⟨rfl, hb3⟩
          have m2 := k2.below hb3 k2.lt
          have m0 := k0.below hb3 k0.lt
          have hbw3 := hbw.trans (hb3.mono hbw.size)
          clear k1 k2 k0 hbw
          go_wp2_with fail
          refine (hp2 (w.heap.size + 1 + 1) _ _ m2).mono ?_
          rintro e w4 ⟨rfl, hb4⟩
          have n0 := m0.below hb4 m0.lt
          have hbw4 := hbw3.trans (hb4.mono hbw3.size)
          clear m2 m0 hbw3 hb3 hb4
          obtain ⟨ds, hds⟩ : ∃ ds : Array Value, ds = (tagC r0 r1 s0 s1 0 0 0).toArray := ⟨_, rfl⟩
          have hds' : #[Value.int .u64 r0, .int .u64 r1, .int .u64 s0, .int .u64 s1, .int .u64 0, .int .u64 0, .int .u64 0] = ds := by rw [hds]; rfl
          have hsz : ds.size = 7 := by rw [hds]; rfl
          have hone : ds.all (·.oneCell') = true := by rw [hds]; simp [tagC, Value.oneCell']
          have k0' : w4.heap[w.heap.size]? = some (.cells (tagC 0 0 0 0 0 0 0).toArray 114 (0, 0)) := n0
          have hs0 : (tagC 0 0 0 0 0 0 0).toArray.size = ds.size := by rw [hsz]; rfl
          have hinfo : (Tryd.prog.info? 114).map (·.size) = some ds.size := by rw [hsz]; kernel_rfl
          have hba := below_rowH hbw4 (Nat.le_refl _) ds
          have hl0 := run_loadVar_row (P := Tryd.prog) (w4.setRow w.heap.size ds) w.heap.size 114 114 ds (0, 0) _ (setRow_heap _ _ _ _ _ _ k0') Tryd.underlying114 rfl hinfo
          have HDS : Hid (ds = (tagC r0 r1 s0 s1 0 0 0).toArray) := hds
          clear hds n0 hbw4
          go_wp2_with (refine wpList_store_row rfl 114 _ _ rfl w.heap.size ds rfl rfl 114 _ k0' hinfo hs0 hone ?_)
          exact bodyPost_ret (v := .agg ds) (by simp [results, Tryd.results69, asAddr, Act.put, hl0]) rfl ⟨by rw [HDS.out], hba⟩
end Go.Proofs.YtfmaajfohieneaaDoor.Bx
