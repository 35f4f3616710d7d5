/- pack.takeHead, of a reader that stands at the beginning of a text of at most 48 bytes, panics with what a reader gives up with where the text is no head's, or tells the head. -/
import Derived.Test.YtdngoicpcocnnaaGreatDoorMg03
import Derived.Laws.Rows
import Derived.Laws.Tables
namespace Go.Proofs.YtdngoicpcocnnaaGreatDoor
set_option maxRecDepth 20000
open Go.RowKit

theorem Only.setRow {b g : Nat} {w w' : World} (h : Only b w w') (hg : w.heap.size ≤ g) (cs : Array Value) : Only b w (w'.setRow g cs) :=
  ⟨h.1.trans ⟨rfl, rfl, rfl, by simp [World.setRow], fun k hk => absurd hk (Nat.not_lt_zero _)⟩, fun k hk hb => (setRow_other _ _ _ _ (by omega)).trans (h.2 k hk hb)⟩
theorem below_new (w : World) (o1 : Obj) : Below w.heap.size w (w.alloc o1) := (Below.refl _ _).alloc (Nat.le_refl _) _
/-- The head that a text of 48 bytes is. -/
def headCells (s : ByteArray) : Array Value := #[.int .i64 (leVal ((s.data.toList.drop 4).take 6)), .int .i64 (leVal ((s.data.toList.drop 10).take 4)), .int .i64 (leVal ((s.data.toList.drop 14).take 2)), .int .i64 (leVal ((s.data.toList.drop 16).take 4)), .int .i64 (leVal ((s.data.toList.drop 20).take 4)), .int .i64 (leVal ((s.data.toList.drop 24).take 4)), .int .i64 (leVal ((s.data.toList.drop 28).take 6)), .int .i64 (leVal ((s.data.toList.drop 34).take 6))]
theorem headCells_one (s : ByteArray) : (headCells s).all (·.oneCell') = true := by simp [headCells, Value.oneCell']

set_option maxHeartbeats 1000000 in
theorem takeHead_short (b : Nat) (s : ByteArray) (hs : s.size < 48) (w : World) (h : Rd w b s 0) :
    Calls Tryz.prog 127 #[.pointer (some ⟨b, 0, none⟩)] w fun e w' => e = .panicked (gave 3) ∧ Only b w w' := by
  have hblt := h.lt
  have hr0 := h.below (below_new w (.cells #[.int .i64 0, .int .i64 0, .int .i64 0, .int .i64 0, .int .i64 0, .int .i64 0, .int .i64 0, .int .i64 0] 79))
  have hb0 : Only b w (w.alloc (.cells #[.int .i64 0, .int .i64 0, .int .i64 0, .int .i64 0, .int .i64 0, .int .i64 0, .int .i64 0, .int .i64 0] 79)) := Only.of_below (below_new w _)
  clear h
  go_enter Tryz.func127, Tryz.ntmps127
  go_wp2_with fail
  generalize w.alloc (.cells #[.int .i64 0, .int .i64 0, .int .i64 0, .int .i64 0, .int .i64 0, .int .i64 0, .int .i64 0, .int .i64 0] 79) = w0 at *
  by_cases h0 : 0 + 4 ≤ s.size
  case neg =>
    refine (bytes_short b s 0 4 h0 (by decide) (by omega) (by decide) _ hr0).mono ?_
    rintro e w' ⟨rfl, hbs⟩
    exact ⟨rfl, rfl, hb0.trans (Only.of_below hbs)⟩
  refine (bytes_any b s 0 4 h0 (by omega) _ hr0).mono ?_
  rintro e w1 ⟨rfl, hr1, hbn⟩
  have hb1 := hb0.trans hbn
  clear hr0 hb0 hbn
  go_wp2_with fail
  by_cases h1 : 4 + 6 ≤ s.size
  case neg =>
    refine (number_short b s 4 6 (by decide) (by decide) h1 (by omega) _ hr1).mono ?_
    rintro e w' ⟨rfl, hbs⟩
    exact ⟨rfl, rfl, hb1.trans (Only.of_below hbs)⟩
  refine (number_any b s 4 6 (by decide) (by decide) h1 (by omega) _ hr1).mono ?_
  rintro e w2 ⟨rfl, hr2, hbn⟩
  have hb2 := hb1.trans hbn
  clear hr1 hb1 hbn
  go_wp2_with fail
  by_cases h2 : 10 + 4 ≤ s.size
  case neg =>
    refine (number_short b s 10 4 (by decide) (by decide) h2 (by omega) _ hr2).mono ?_
    rintro e w' ⟨rfl, hbs⟩
    exact ⟨rfl, rfl, hb2.trans (Only.of_below hbs)⟩
  refine (number_any b s 10 4 (by decide) (by decide) h2 (by omega) _ hr2).mono ?_
  rintro e w3 ⟨rfl, hr3, hbn⟩
  have hb3 := hb2.trans hbn
  clear hr2 hb2 hbn
  go_wp2_with fail
  by_cases h3 : 14 + 2 ≤ s.size
  case neg =>
    refine (number_short b s 14 2 (by decide) (by decide) h3 (by omega) _ hr3).mono ?_
    rintro e w' ⟨rfl, hbs⟩
    exact ⟨rfl, rfl, hb3.trans (Only.of_below hbs)⟩
  refine (number_any b s 14 2 (by decide) (by decide) h3 (by omega) _ hr3).mono ?_
  rintro e w4 ⟨rfl, hr4, hbn⟩
  have hb4 := hb3.trans hbn
  clear hr3 hb3 hbn
  go_wp2_with fail
  by_cases h4 : 16 + 4 ≤ s.size
  case neg =>
    refine (number_short b s 16 4 (by decide) (by decide) h4 (by omega) _ hr4).mono ?_
    rintro e w' ⟨rfl, hbs⟩
    exact ⟨rfl, rfl, hb4.trans (Only.of_below hbs)⟩
  refine (number_any b s 16 4 (by decide) (by decide) h4 (by omega) _ hr4).mono ?_
  rintro e w5 ⟨rfl, hr5, hbn⟩
  have hb5 := hb4.trans hbn
  clear hr4 hb4 hbn
  go_wp2_with fail
  by_cases h5 : 20 + 4 ≤ s.size
  case neg =>
    refine (number_short b s 20 4 (by decide) (by decide) h5 (by omega) _ hr5).mono ?_
    rintro e w' ⟨rfl, hbs⟩
    exact ⟨rfl, rfl, hb5.trans (Only.of_below hbs)⟩
  refine (number_any b s 20 4 (by decide) (by decide) h5 (by omega) _ hr5).mono ?_
  rintro e w6 ⟨rfl, hr6, hbn⟩
  have hb6 := hb5.trans hbn
  clear hr5 hb5 hbn
  go_wp2_with fail
  by_cases h6 : 24 + 4 ≤ s.size
  case neg =>
    refine (number_short b s 24 4 (by decide) (by decide) h6 (by omega) _ hr6).mono ?_
    rintro e w' ⟨rfl, hbs⟩
    exact ⟨rfl, rfl, hb6.trans (Only.of_below hbs)⟩
  refine (number_any b s 24 4 (by decide) (by decide) h6 (by omega) _ hr6).mono ?_
  rintro e w7 ⟨rfl, hr7, hbn⟩
  have hb7 := hb6.trans hbn
  clear hr6 hb6 hbn
  go_wp2_with fail
  by_cases h7 : 28 + 6 ≤ s.size
  case neg =>
    refine (number_short b s 28 6 (by decide) (by decide) h7 (by omega) _ hr7).mono ?_
    rintro e w' ⟨rfl, hbs⟩
    exact ⟨rfl, rfl, hb7.trans (Only.of_below hbs)⟩
  refine (number_any b s 28 6 (by decide) (by decide) h7 (by omega) _ hr7).mono ?_
  rintro e w8 ⟨rfl, hr8, hbn⟩
  have hb8 := hb7.trans hbn
  clear hr7 hb7 hbn
  go_wp2_with fail
  by_cases h8 : 34 + 6 ≤ s.size
  case neg =>
    refine (number_short b s 34 6 (by decide) (by decide) h8 (by omega) _ hr8).mono ?_
    rintro e w' ⟨rfl, hbs⟩
    exact ⟨rfl, rfl, hb8.trans (Only.of_below hbs)⟩
  refine (number_any b s 34 6 (by decide) (by decide) h8 (by omega) _ hr8).mono ?_
  rintro e w9 ⟨rfl, hr9, hbn⟩
  have hb9 := hb8.trans hbn
  clear hr8 hb8 hbn
  go_wp2_with fail
  by_cases h9 : 40 + 8 ≤ s.size
  case neg =>
    refine (bytes_short b s 40 8 h9 (by decide) (by omega) (by decide) _ (hr9.below (below_new _ _))).mono ?_
    rintro e w' ⟨rfl, hbs⟩
    exact ⟨rfl, rfl, (hb9.trans (Only.of_below (below_new _ _))).trans (Only.of_below hbs)⟩
  omega

set_option maxHeartbeats 1000000 in
theorem takeHead_full (b : Nat) (s : ByteArray) (hs : s.size = 48) (w : World) (h : Rd w b s 0) :
    Calls Tryz.prog 127 #[.pointer (some ⟨b, 0, none⟩)] w fun e w' => e = (if (s.extract 0 4).toList == [71, 82, 80, 78] then if allZ (s.extract 40 48) = true then .returned (.agg (headCells s)) else .panicked (gave 5) else .panicked (gave 5)) ∧ Only b w w' := by
  have hblt := h.lt
  have hr0 := h.below (below_new w (.cells #[.int .i64 0, .int .i64 0, .int .i64 0, .int .i64 0, .int .i64 0, .int .i64 0, .int .i64 0, .int .i64 0] 79))
  have hb0 : Only b w (w.alloc (.cells #[.int .i64 0, .int .i64 0, .int .i64 0, .int .i64 0, .int .i64 0, .int .i64 0, .int .i64 0, .int .i64 0] 79)) := Only.of_below (below_new w _)
  have hw0 : w.heap.size < (w.alloc (.cells #[.int .i64 0, .int .i64 0, .int .i64 0, .int .i64 0, .int .i64 0, .int .i64 0, .int .i64 0, .int .i64 0] 79)).heap.size := by simp
  have g0 : (w.alloc (.cells #[.int .i64 0, .int .i64 0, .int .i64 0, .int .i64 0, .int .i64 0, .int .i64 0, .int .i64 0, .int .i64 0] 79)).heap[w.heap.size]? = some (.cells #[.int .i64 0, .int .i64 0, .int .i64 0, .int .i64 0, .int .i64 0, .int .i64 0, .int .i64 0, .int .i64 0] 79 (0, 0)) := heap_alloc_new w _
  clear h
  go_enter Tryz.func127, Tryz.ntmps127
  go_wp2_with fail
  generalize w.alloc (.cells #[.int .i64 0, .int .i64 0, .int .i64 0, .int .i64 0, .int .i64 0, .int .i64 0, .int .i64 0, .int .i64 0] 79) = w0 at *
  refine (bytes_any b s 0 4 (by omega) (by omega) _ hr0).mono ?_
  rintro e w1 ⟨rfl, hr1, hbn⟩
  have hb1 := hb0.trans hbn
  have g1 := (hbn.2 w.heap.size hw0 (by omega)).trans g0
  have hw1 := Nat.lt_of_lt_of_le hw0 hbn.size
  clear hr0 hb0 hbn g0 hw0
  go_wp2_with fail
  refine (number_any b s 4 6 (by decide) (by decide) (by omega) (by omega) _ hr1).mono ?_
  rintro e w2 ⟨rfl, hr2, hbn⟩
  have hb2 := hb1.trans hbn
  have g2 := (hbn.2 w.heap.size hw1 (by omega)).trans g1
  have hw2 := Nat.lt_of_lt_of_le hw1 hbn.size
  clear hr1 hb1 hbn g1 hw1
  go_wp2_with fail
  refine (number_any b s 10 4 (by decide) (by decide) (by omega) (by omega) _ hr2).mono ?_
  rintro e w3 ⟨rfl, hr3, hbn⟩
  have hb3 := hb2.trans hbn
  have g3 := (hbn.2 w.heap.size hw2 (by omega)).trans g2
  have hw3 := Nat.lt_of_lt_of_le hw2 hbn.size
  clear hr2 hb2 hbn g2 hw2
  go_wp2_with fail
  refine (number_any b s 14 2 (by decide) (by decide) (by omega) (by omega) _ hr3).mono ?_
  rintro e w4 ⟨rfl, hr4, hbn⟩
  have hb4 := hb3.trans hbn
  have g4 := (hbn.2 w.heap.size hw3 (by omega)).trans g3
  have hw4 := Nat.lt_of_lt_of_le hw3 hbn.size
  clear hr3 hb3 hbn g3 hw3
  go_wp2_with fail
  refine (number_any b s 16 4 (by decide) (by decide) (by omega) (by omega) _ hr4).mono ?_
  rintro e w5 ⟨rfl, hr5, hbn⟩
  have hb5 := hb4.trans hbn
  have g5 := (hbn.2 w.heap.size hw4 (by omega)).trans g4
  have hw5 := Nat.lt_of_lt_of_le hw4 hbn.size
  clear hr4 hb4 hbn g4 hw4
  go_wp2_with fail
  refine (number_any b s 20 4 (by decide) (by decide) (by omega) (by omega) _ hr5).mono ?_
  rintro e w6 ⟨rfl, hr6, hbn⟩
  have hb6 := hb5.trans hbn
  have g6 := (hbn.2 w.heap.size hw5 (by omega)).trans g5
  have hw6 := Nat.lt_of_lt_of_le hw5 hbn.size
  clear hr5 hb5 hbn g5 hw5
  go_wp2_with fail
  refine (number_any b s 24 4 (by decide) (by decide) (by omega) (by omega) _ hr6).mono ?_
  rintro e w7 ⟨rfl, hr7, hbn⟩
  have hb7 := hb6.trans hbn
  have g7 := (hbn.2 w.heap.size hw6 (by omega)).trans g6
  have hw7 := Nat.lt_of_lt_of_le hw6 hbn.size
  clear hr6 hb6 hbn g6 hw6
  go_wp2_with fail
  refine (number_any b s 28 6 (by decide) (by decide) (by omega) (by omega) _ hr7).mono ?_
  rintro e w8 ⟨rfl, hr8, hbn⟩
  have hb8 := hb7.trans hbn
  have g8 := (hbn.2 w.heap.size hw7 (by omega)).trans g7
  have hw8 := Nat.lt_of_lt_of_le hw7 hbn.size
  clear hr7 hb7 hbn g7 hw7
  go_wp2_with fail
  refine (number_any b s 34 6 (by decide) (by decide) (by omega) (by omega) _ hr8).mono ?_
  rintro e w9 ⟨rfl, hr9, hbn⟩
  have hb9 := hb8.trans hbn
  have g9 := (hbn.2 w.heap.size hw8 (by omega)).trans g8
  have hw9 := Nat.lt_of_lt_of_le hw8 hbn.size
  clear hr8 hb8 hbn g8 hw8
  go_wp2_with fail
  refine (bytes_any b s 40 8 (by omega) (by omega) _ (hr9.below (below_new _ _))).mono ?_
  rintro e w10 ⟨rfl, hr10, hbn⟩
  have hb10 := (hb9.trans (Only.of_below (below_new _ _))).trans hbn
  have g0' := (hbn.2 w.heap.size (by simp; omega) (by omega)).trans (show _ = some (Obj.cells #[.int .i64 0, .int .i64 0, .int .i64 0, .int .i64 0, .int .i64 0, .int .i64 0, .int .i64 0, .int .i64 0] 79 (0, 0)) from by rw [Below.heap_alloc _ _ _ (by omega)]; exact g9)
  have g1' := (hbn.2 w9.heap.size (by simp) (by have := hr9.lt; omega)).trans (heap_alloc_new w9 _)
  clear hr9 hb9 hbn g9
  go_wp2_with fail
  by_cases hm : ((s.extract 0 4).toList == [71, 82, 80, 78]) = true
  case neg =>
    rw [Bool.eq_false_iff.2 hm]
    refine (must_no b _).mono ?_
    rintro e w' ⟨rfl, rfl⟩
    exact ⟨rfl, by rw [if_neg hm], hb10⟩
  rw [hm]
  refine (must_yes b _).mono ?_
  rintro e w' ⟨rfl, rfl⟩
  go_wp2_with fail
  refine (isZero_any (s.extract 40 48) (by unfold maxLen; simp; omega) _).mono ?_
  rintro e w11 ⟨rfl, hbz⟩
  have hb11 := hb10.trans (Only.of_below hbz)
  have g0 := (hbz.block w.heap.size (lt_of_block g0')).trans g0'
  have g1 := (hbz.block w9.heap.size (lt_of_block g1')).trans g1'
  clear hr10 hb10 hbz g0' g1'
  go_wp2_with fail
  by_cases hz : allZ (s.extract 40 48) = true
  case neg =>
    rw [Bool.eq_false_iff.2 hz]
    refine (must_no b _).mono ?_
    rintro e w' ⟨rfl, rfl⟩
    exact ⟨rfl, by rw [if_pos hm, if_neg hz], hb11⟩
  rw [hz]
  refine (must_yes b _).mono ?_
  rintro e w' ⟨rfl, rfl⟩
  have g1 : w'.heap[w9.heap.size]? = some (Obj.cells (headCells s) 79 (0, 0)) := g1
  go_wp2_with (first | refine wpList_load_row rfl 79 _ rfl w9.heap.size rfl 79 _ (0, 0) _ g1 Tryz.underlying79 rfl (by kernel_rfl) ?_ | refine wpList_store_row rfl 79 _ _ rfl w.heap.size (headCells s) rfl rfl 79 _ g0 (by kernel_rfl) rfl (headCells_one s) ?_)
  refine bodyPost_ret (v := .agg (headCells s)) (results_cell_row Tryz.results127 _ _ w.heap.size 79 _ (0, 0) _ rfl (setRow_heap _ _ _ _ _ _ g0) Tryz.underlying79 rfl (by kernel_rfl)) rfl ⟨rfl, hb11.setRow (Nat.le_refl _) _⟩
end Go.Proofs.YtdngoicpcocnnaaGreatDoor
