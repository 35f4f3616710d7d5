/- plate's copied, at texts, at writes and at numbers: a list of the same cells, in a block of its own. -/
import Derived.Test.YtmnojmcbghdciaaPlOn
import Derived.Laws.CopyRow
import Derived.Laws.IdiomCopy
namespace Go.Proofs.Ytmnojmcbghdciaa
open Go.RowKit

theorem run_copy_wide {P : Program} (w : World) (dT sT ty elem : TypeId) (i : TypeInfo) (z n g cd cs' : Nat) (a : Addr) (cs : List Value) (hu : P.underlying dT = some (.slice elem)) (hi : P.info? elem = some i) (hz : i.size = z) (hn : cs.length = n * z)
    (hsrc : ∀ j v, cs[j]? = some v → w.cell? (a.add j) = some v) (hc : ∀ j, j < cs.length → (w.cell? ⟨g, 0 + j, none⟩).isSome = true) (hf : ∀ j, j < cs.length → w.frozen? ⟨g, 0 + j, none⟩ = false) (h1 : ∀ v ∈ cs, v.oneCell' = true) :
    (Builtin.copy_ #[dT, sT] ty #[.slice (some ⟨g, 0, none⟩) n cd, .slice (some a) n cs']).run P w = .ok (goInt n) (w.setCells g 0 cs) := by
  have hl := run_loadCells_list (P := P) w a cs hsrc
  have hst := run_storeCells_cells (P := P) g 0 cs 0 w (by simpa using hc) (by simpa using hf) h1
  have hm : Nat.min n n = n := Nat.min_self n
  rw [hn] at hl
  simp [Builtin.copy_, run_underlying hu, Builtin.lenOf, Builtin.firstCells, sizeOf, typeInfo, hi, hz, hm, hl, hst]
theorem run_copy_zero {P : Program} (w : World) (dT sT ty elem : TypeId) (i : TypeInfo) (d a : Option Addr) (cd cs' : Nat) (hu : P.underlying dT = some (.slice elem)) (hi : P.info? elem = some i) :
    (Builtin.copy_ #[dT, sT] ty #[.slice d 0 cd, .slice a 0 cs']).run P w = .ok (goInt 0) w := by
  have hl : ∀ (x : Addr), (loadCells x 0).run P w = .ok #[] w := fun x => by simpa using run_loadCells_list (P := P) w x [] (by simp)
  cases d <;> cases a <;> simp [Builtin.copy_, run_underlying hu, Builtin.lenOf, Builtin.firstCells, sizeOf, typeInfo, hi, storeCells, hl]
theorem lt_cell {w : World} {g i : Nat} {v : Value} (h : w.cell? ⟨g, i, none⟩ = some v) : g < w.heap.size := by
  by_cases hg : g < w.heap.size
  · exact hg
  · have : w.heap[g]? = none := Array.getElem?_eq_none (by omega)
    simp [World.cell?, this] at h
/-- A slice whose cells are these. -/
def Src (w : World) (v : Value) (n z : Nat) (xs : List Value) : Prop := ∃ oa cap, v = .slice oa n cap ∧ xs.length = n * z ∧ (∀ u ∈ xs, u.oneCell' = true) ∧ (n = 0 ∨ ∃ g, oa = some ⟨g, 0, none⟩ ∧ ∀ j u, xs[j]? = some u → w.cell? ⟨g, j, none⟩ = some u)
theorem add_head (g j : Nat) : (⟨g, 0, none⟩ : Addr).add j = ⟨g, j, none⟩ := by unfold Addr.add; split <;> simp_all
theorem madeCells_len (zc : Array Value) (n : Nat) : (madeCells zc n).toList.length = n := by simp [size_madeCells]

set_option maxHeartbeats 1000000 in
theorem copiedS (v : Value) (n : Nat) (hn : n ≤ 2000000) (xs : List Value) (w : World) (hs : Src w v n 1 xs) :
    Calls Try.prog 30 #[v] w fun e w' => e = .returned (.slice (some ⟨w.heap.size, 0, none⟩) n n) ∧ Row w' w.heap.size 9 xs ∧ Below w.heap.size w w' := by
  obtain ⟨q, hq, hz0, hz1, hz2⟩ := info_parts (show (Try.prog.info? 9).map (fun i => (i.zero, i.size, i.bytes)) = some (some (.string ⟨#[]⟩), 1, 16) by kernel_rfl)
  obtain ⟨oa, cap, rfl, hxl, hx1, hsrc⟩ := hs
  have hmk : ∀ W, (Instr.makeSlice 42 (.int .i64 (n : Int)) (.int .i64 (n : Int))).run Try.prog W = .ok (.slice (some ⟨W.heap.size, 0, none⟩) n n) (W.alloc (.cells (madeCells (.string ⟨#[]⟩ : Value).cells (n * 1)) 9)) := fun W => by
    have := run_make (P := Try.prog) W 42 9 q (.string ⟨#[]⟩) Try.underlying42 hq hz0 .i64 .i64 n n (by omega) (Int.le_refl _) (by rw [hz2]; omega) (by omega)
    rw [Int.toNat_natCast, hz1] at this
    exact this
  obtain ⟨ms, hms⟩ : ∃ ms, madeCells (.string ⟨#[]⟩ : Value).cells (n * 1) = ms := ⟨_, rfl⟩
  have hml : ms.toList.length = n * 1 := by rw [← hms]; exact madeCells_len _ _
  simp only [hms] at hmk
  have hr1 : Row (w.alloc (.cells ms 9)) w.heap.size 9 ms.toList := by
    show _ = _
    rw [Array.toArray_toList]
    exact heap_alloc_new w _
  have hb1 := (Below.refl w.heap.size w).alloc (Nat.le_refl _) (.cells ms 9)
  obtain ⟨w1, hw1⟩ : ∃ w1, w.alloc (.cells ms 9) = w1 := ⟨_, rfl⟩
  rw [hw1] at hr1 hb1
  clear hms
  by_cases h0 : n = 0
  · obtain rfl : xs = [] := List.eq_nil_of_length_eq_zero (by rw [hxl, h0])
    have hcp : (Builtin.copy_ #[42, 42] 3 #[.slice (some ⟨w.heap.size, 0, none⟩) n n, .slice oa n cap]).run Try.prog w1 = .ok (goInt n) w1 := by
      rw [h0]
      exact run_copy_zero (P := Try.prog) w1 42 42 3 9 q (some ⟨w.heap.size, 0, none⟩) oa 0 cap Try.underlying42 hq
    have HF : Hid (Row w1 w.heap.size 9 [] ∧ Below w.heap.size w w1) := ⟨hr1.congr (List.eq_nil_of_length_eq_zero (by rw [hml, h0])), hb1⟩
    clear hr1 hb1 hsrc hx1 h0
    go_enter Try.func30, Try.ntmps30
    go_wp2
    go_ret
    exact ⟨rfl, HF.out.1, HF.out.2⟩
  · obtain ⟨g, rfl, hcell⟩ : ∃ g, oa = some ⟨g, 0, none⟩ ∧ ∀ j u, xs[j]? = some u → w.cell? ⟨g, j, none⟩ = some u := by
      rcases hsrc with h | h
      · exact absurd h h0
      · exact h
    have hg : g < w.heap.size := by
      obtain ⟨u, hu⟩ : ∃ u, xs[0]? = some u := ⟨xs[0]'(by omega), List.getElem?_eq_getElem (by omega)⟩
      have := hcell 0 u hu
      exact lt_cell this
    have hcp := run_copy_wide (P := Try.prog) w1 42 42 3 9 q 1 n w.heap.size n cap ⟨g, 0, none⟩ xs Try.underlying42 hq hz1 hxl (fun j u hj => by
      rw [add_head, World.cell?_of_block (a := ⟨g, j, none⟩) (hb1.block g hg)]; exact hcell j u hj) (fun j hj => by
      rw [Nat.zero_add, hr1.cell, List.getElem?_eq_getElem (by omega)]; rfl) (fun j _ => hr1.frozen _) hx1
    have hr2 : Row (w1.setCells w.heap.size 0 xs) w.heap.size 9 ([] ++ xs ++ []) := Row.setCells xs ms.toList [] w1 0 (by omega) rfl (by simpa using hr1)
    have hb2 : Below w.heap.size w (w1.setCells w.heap.size 0 xs) := hb1.trans ((Only.setCells xs 0 w1 (Only.refl w.heap.size w1)).below (Nat.le_of_lt hr1.lt))
    obtain ⟨w2, hw2⟩ : ∃ w2, w1.setCells w.heap.size 0 xs = w2 := ⟨_, rfl⟩
    rw [hw2] at hcp hr2 hb2
    have HF : Hid (Row w2 w.heap.size 9 xs ∧ Below w.heap.size w w2) := ⟨by simpa using hr2, hb2⟩
    clear hr1 hr2 hb1 hb2 hcell hx1 hsrc hw2
    go_enter Try.func30, Try.ntmps30
    go_wp2
    go_ret
    exact ⟨rfl, HF.out.1, HF.out.2⟩

set_option maxHeartbeats 1000000 in
theorem copiedW (v : Value) (n : Nat) (hn : n ≤ 2000000) (xs : List Value) (w : World) (hs : Src w v n 2 xs) :
    Calls Try.prog 31 #[v] w fun e w' => e = .returned (.slice (some ⟨w.heap.size, 0, none⟩) n n) ∧ Row w' w.heap.size 66 xs ∧ Below w.heap.size w w' := by
  obtain ⟨q, hq, hz0, hz1, hz2⟩ := info_parts (show (Try.prog.info? 66).map (fun i => (i.zero, i.size, i.bytes)) = some (some (.agg #[.int .i64 0, .string ⟨#[]⟩]), 2, 24) by kernel_rfl)
  obtain ⟨oa, cap, rfl, hxl, hx1, hsrc⟩ := hs
  have hmk : ∀ W, (Instr.makeSlice 56 (.int .i64 (n : Int)) (.int .i64 (n : Int))).run Try.prog W = .ok (.slice (some ⟨W.heap.size, 0, none⟩) n n) (W.alloc (.cells (madeCells (.agg #[.int .i64 0, .string ⟨#[]⟩] : Value).cells (n * 2)) 66)) := fun W => by
    have := run_make (P := Try.prog) W 56 66 q (.agg #[.int .i64 0, .string ⟨#[]⟩]) Try.underlying56 hq hz0 .i64 .i64 n n (by omega) (Int.le_refl _) (by rw [hz2]; omega) (by omega)
    rw [Int.toNat_natCast, hz1] at this
    exact this
  obtain ⟨ms, hms⟩ : ∃ ms, madeCells (.agg #[.int .i64 0, .string ⟨#[]⟩] : Value).cells (n * 2) = ms := ⟨_, rfl⟩
  have hml : ms.toList.length = n * 2 := by rw [← hms]; exact madeCells_len _ _
  simp only [hms] at hmk
  have hr1 : Row (w.alloc (.cells ms 66)) w.heap.size 66 ms.toList := by
    show _ = _
    rw [Array.toArray_toList]
    exact heap_alloc_new w _
  have hb1 := (Below.refl w.heap.size w).alloc (Nat.le_refl _) (.cells ms 66)
  obtain ⟨w1, hw1⟩ : ∃ w1, w.alloc (.cells ms 66) = w1 := ⟨_, rfl⟩
  rw [hw1] at hr1 hb1
  clear hms
  by_cases h0 : n = 0
  · obtain rfl : xs = [] := List.eq_nil_of_length_eq_zero (by rw [hxl, h0])
    have hcp : (Builtin.copy_ #[56, 56] 3 #[.slice (some ⟨w.heap.size, 0, none⟩) n n, .slice oa n cap]).run Try.prog w1 = .ok (goInt n) w1 := by
      rw [h0]
      exact run_copy_zero (P := Try.prog) w1 56 56 3 66 q (some ⟨w.heap.size, 0, none⟩) oa 0 cap Try.underlying56 hq
    have HF : Hid (Row w1 w.heap.size 66 [] ∧ Below w.heap.size w w1) := ⟨hr1.congr (List.eq_nil_of_length_eq_zero (by rw [hml, h0])), hb1⟩
    clear hr1 hb1 hsrc hx1 h0
    go_enter Try.func31, Try.ntmps31
    go_wp2
    go_ret
    exact ⟨rfl, HF.out.1, HF.out.2⟩
  · obtain ⟨g, rfl, hcell⟩ : ∃ g, oa = some ⟨g, 0, none⟩ ∧ ∀ j u, xs[j]? = some u → w.cell? ⟨g, j, none⟩ = some u := by
      rcases hsrc with h | h
      · exact absurd h h0
      · exact h
    have hg : g < w.heap.size := by
      obtain ⟨u, hu⟩ : ∃ u, xs[0]? = some u := ⟨xs[0]'(by omega), List.getElem?_eq_getElem (by omega)⟩
      have := hcell 0 u hu
      exact lt_cell this
    have hcp := run_copy_wide (P := Try.prog) w1 56 56 3 66 q 2 n w.heap.size n cap ⟨g, 0, none⟩ xs Try.underlying56 hq hz1 hxl (fun j u hj => by
      rw [add_head, World.cell?_of_block (a := ⟨g, j, none⟩) (hb1.block g hg)]; exact hcell j u hj) (fun j hj => by
      rw [Nat.zero_add, hr1.cell, List.getElem?_eq_getElem (by omega)]; rfl) (fun j _ => hr1.frozen _) hx1
    have hr2 : Row (w1.setCells w.heap.size 0 xs) w.heap.size 66 ([] ++ xs ++ []) := Row.setCells xs ms.toList [] w1 0 (by omega) rfl (by simpa using hr1)
    have hb2 : Below w.heap.size w (w1.setCells w.heap.size 0 xs) := hb1.trans ((Only.setCells xs 0 w1 (Only.refl w.heap.size w1)).below (Nat.le_of_lt hr1.lt))
    obtain ⟨w2, hw2⟩ : ∃ w2, w1.setCells w.heap.size 0 xs = w2 := ⟨_, rfl⟩
    rw [hw2] at hcp hr2 hb2
    have HF : Hid (Row w2 w.heap.size 66 xs ∧ Below w.heap.size w w2) := ⟨by simpa using hr2, hb2⟩
    clear hr1 hr2 hb1 hb2 hcell hx1 hsrc hw2
    go_enter Try.func31, Try.ntmps31
    go_wp2
    go_ret
    exact ⟨rfl, HF.out.1, HF.out.2⟩

set_option maxHeartbeats 1000000 in
theorem copiedI (v : Value) (n : Nat) (hn : n ≤ 2000000) (xs : List Value) (w : World) (hs : Src w v n 1 xs) :
    Calls Try.prog 32 #[v] w fun e w' => e = .returned (.slice (some ⟨w.heap.size, 0, none⟩) n n) ∧ Row w' w.heap.size 3 xs ∧ Below w.heap.size w w' := by
  obtain ⟨q, hq, hz0, hz1, hz2⟩ := info_parts (show (Try.prog.info? 3).map (fun i => (i.zero, i.size, i.bytes)) = some (some (.int .i64 0), 1, 8) by kernel_rfl)
  obtain ⟨oa, cap, rfl, hxl, hx1, hsrc⟩ := hs
  have hmk : ∀ W, (Instr.makeSlice 55 (.int .i64 (n : Int)) (.int .i64 (n : Int))).run Try.prog W = .ok (.slice (some ⟨W.heap.size, 0, none⟩) n n) (W.alloc (.cells (madeCells (.int .i64 0 : Value).cells (n * 1)) 3)) := fun W => by
    have := run_make (P := Try.prog) W 55 3 q (.int .i64 0) Try.underlying55 hq hz0 .i64 .i64 n n (by omega) (Int.le_refl _) (by rw [hz2]; omega) (by omega)
    rw [Int.toNat_natCast, hz1] at this
    exact this
  obtain ⟨ms, hms⟩ : ∃ ms, madeCells (.int .i64 0 : Value).cells (n * 1) = ms := ⟨_, rfl⟩
  have hml : ms.toList.length = n * 1 := by rw [← hms]; exact madeCells_len _ _
  simp only [hms] at hmk
  have hr1 : Row (w.alloc (.cells ms 3)) w.heap.size 3 ms.toList := by
    show _ = _
    rw [Array.toArray_toList]
    exact heap_alloc_new w _
  have hb1 := (Below.refl w.heap.size w).alloc (Nat.le_refl _) (.cells ms 3)
  obtain ⟨w1, hw1⟩ : ∃ w1, w.alloc (.cells ms 3) = w1 := ⟨_, rfl⟩
  rw [hw1] at hr1 hb1
  clear hms
  by_cases h0 : n = 0
  · obtain rfl : xs = [] := List.eq_nil_of_length_eq_zero (by rw [hxl, h0])
    have hcp : (Builtin.copy_ #[55, 55] 3 #[.slice (some ⟨w.heap.size, 0, none⟩) n n, .slice oa n cap]).run Try.prog w1 = .ok (goInt n) w1 := by
      rw [h0]
      exact run_copy_zero (P := Try.prog) w1 55 55 3 3 q (some ⟨w.heap.size, 0, none⟩) oa 0 cap Try.underlying55 hq
    have HF : Hid (Row w1 w.heap.size 3 [] ∧ Below w.heap.size w w1) := ⟨hr1.congr (List.eq_nil_of_length_eq_zero (by rw [hml, h0])), hb1⟩
    clear hr1 hb1 hsrc hx1 h0
    go_enter Try.func32, Try.ntmps32
    go_wp2
    go_ret
    exact ⟨rfl, HF.out.1, HF.out.2⟩
  · obtain ⟨g, rfl, hcell⟩ : ∃ g, oa = some ⟨g, 0, none⟩ ∧ ∀ j u, xs[j]? = some u → w.cell? ⟨g, j, none⟩ = some u := by
      rcases hsrc with h | h
      · exact absurd h h0
      · exact h
    have hg : g < w.heap.size := by
      obtain ⟨u, hu⟩ : ∃ u, xs[0]? = some u := ⟨xs[0]'(by omega), List.getElem?_eq_getElem (by omega)⟩
      have := hcell 0 u hu
      exact lt_cell this
    have hcp := run_copy_wide (P := Try.prog) w1 55 55 3 3 q 1 n w.heap.size n cap ⟨g, 0, none⟩ xs Try.underlying55 hq hz1 hxl (fun j u hj => by
      rw [add_head, World.cell?_of_block (a := ⟨g, j, none⟩) (hb1.block g hg)]; exact hcell j u hj) (fun j hj => by
      rw [Nat.zero_add, hr1.cell, List.getElem?_eq_getElem (by omega)]; rfl) (fun j _ => hr1.frozen _) hx1
    have hr2 : Row (w1.setCells w.heap.size 0 xs) w.heap.size 3 ([] ++ xs ++ []) := Row.setCells xs ms.toList [] w1 0 (by omega) rfl (by simpa using hr1)
    have hb2 : Below w.heap.size w (w1.setCells w.heap.size 0 xs) := hb1.trans ((Only.setCells xs 0 w1 (Only.refl w.heap.size w1)).below (Nat.le_of_lt hr1.lt))
    obtain ⟨w2, hw2⟩ : ∃ w2, w1.setCells w.heap.size 0 xs = w2 := ⟨_, rfl⟩
    rw [hw2] at hcp hr2 hb2
    have HF : Hid (Row w2 w.heap.size 3 xs ∧ Below w.heap.size w w2) := ⟨by simpa using hr2, hb2⟩
    clear hr1 hr2 hb1 hb2 hcell hx1 hsrc hw2
    go_enter Try.func32, Try.ntmps32
    go_wp2
    go_ret
    exact ⟨rfl, HF.out.1, HF.out.2⟩
end Go.Proofs.Ytmnojmcbghdciaa
