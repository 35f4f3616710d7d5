/- pack.takeSuper, of a reader that stands at the beginning of a text of at most 448 bytes, panics with what a reader gives up with where the text is no superblock's, or tells the superblock. -/
import Derived.Test.YtbgilbnpamegnaaDoorReader
import Derived.Test.YtbgilbnpamegnaaDoorClone
import Derived.Laws.Rows
import Derived.Laws.Tables
namespace Go.Proofs.YtbgilbnpamegnaaDoor
open Go.RowKit

theorem Only.setRowS {b g : Nat} {w w' : World} (h : Only b w w') (hg : w.heap.size ≤ g) (cs : Array Value) : Only b w (w'.setRow g cs) :=
  ⟨h.1.trans ⟨rfl, rfl, rfl, by simp [World.setRow], fun k hk => absurd hk (Nat.not_lt_zero _)⟩, fun k hk hb => (setRow_other _ _ _ _ (by omega)).trans (h.2 k hk hb)⟩
theorem below_newS (w : World) (o1 : Obj) : Below w.heap.size w (w.alloc o1) := (Below.refl _ _).alloc (Nat.le_refl _) _
/-- The superblock that a text of 448 bytes is. -/
def superCells (s : ByteArray) : Array Value := #[.int .i64 (leVal ((s.data.toList.drop 0).take 6)), .int .i64 (leVal ((s.data.toList.drop 6).take 6)), .int .i64 (leVal ((s.data.toList.drop 12).take 6)), .int .i64 (leVal ((s.data.toList.drop 18).take 4)), .string (s.extract 22 54)]
theorem superCells_one (s : ByteArray) : (superCells s).all (·.oneCell') = true := by simp [superCells, Value.oneCell']
set_option maxHeartbeats 1000000 in
theorem takeSuper_short (b : Nat) (s : ByteArray) (hs : s.size < 448) (w : World) (h : Rd w b s 0) :
    Calls Tryd.prog 34 #[.pointer (some ⟨b, 0, none⟩)] w fun e w' => e = .panicked (gave 3) ∧ Only b w w' := by
  have hblt := h.lt
  have hr0 := h.below (below_newS w (.cells #[.int .i64 0, .int .i64 0, .int .i64 0, .int .i64 0, .string ⟨#[]⟩] 43))
  have hb0 : Only b w (w.alloc (.cells #[.int .i64 0, .int .i64 0, .int .i64 0, .int .i64 0, .string ⟨#[]⟩] 43)) := Only.of_below (below_newS w _)
  clear h
  go_enter Tryd.func34, Tryd.ntmps34
  go_wp2_with fail
  generalize w.alloc (.cells #[.int .i64 0, .int .i64 0, .int .i64 0, .int .i64 0, .string ⟨#[]⟩] 43) = w0 at *
  by_cases h0 : 0 + 6 ≤ s.size
  case neg =>
    refine (number_short b s 0 6 (by decide) (by decide) h0 (by omega) _ hr0).mono ?_
    rintro e w' ⟨rfl, hbs⟩
    exact ⟨rfl, rfl, hb0.trans (Only.of_below hbs)⟩
  refine (number_any b s 0 6 (by decide) (by decide) h0 (by omega) _ hr0).mono ?_
  rintro e w1 ⟨rfl, hr1, hbn⟩
  have hb1 := hb0.trans hbn
  clear hr0 hb0 hbn
  go_wp2_with fail
  by_cases h1 : 6 + 6 ≤ s.size
  case neg =>
    refine (number_short b s 6 6 (by decide) (by decide) h1 (by omega) _ hr1).mono ?_
    rintro e w' ⟨rfl, hbs⟩
    exact ⟨rfl, rfl, hb1.trans (Only.of_below hbs)⟩
  refine (number_any b s 6 6 (by decide) (by decide) h1 (by omega) _ hr1).mono ?_
  rintro e w2 ⟨rfl, hr2, hbn⟩
  have hb2 := hb1.trans hbn
  clear hr1 hb1 hbn
  go_wp2_with fail
  by_cases h2 : 12 + 6 ≤ s.size
  case neg =>
    refine (number_short b s 12 6 (by decide) (by decide) h2 (by omega) _ hr2).mono ?_
    rintro e w' ⟨rfl, hbs⟩
    exact ⟨rfl, rfl, hb2.trans (Only.of_below hbs)⟩
  refine (number_any b s 12 6 (by decide) (by decide) h2 (by omega) _ hr2).mono ?_
  rintro e w3 ⟨rfl, hr3, hbn⟩
  have hb3 := hb2.trans hbn
  clear hr2 hb2 hbn
  go_wp2_with fail
  by_cases h3 : 18 + 4 ≤ s.size
  case neg =>
    refine (number_short b s 18 4 (by decide) (by decide) h3 (by omega) _ hr3).mono ?_
    rintro e w' ⟨rfl, hbs⟩
    exact ⟨rfl, rfl, hb3.trans (Only.of_below hbs)⟩
  refine (number_any b s 18 4 (by decide) (by decide) h3 (by omega) _ hr3).mono ?_
  rintro e w4 ⟨rfl, hr4, hbn⟩
  have hb4 := hb3.trans hbn
  clear hr3 hb3 hbn
  go_wp2_with fail
  by_cases h4 : 22 + 32 ≤ s.size
  case neg =>
    refine (bytes_short b s 22 32 h4 (by decide) (by omega) (by decide) _ hr4).mono ?_
    rintro e w' ⟨rfl, hbs⟩
    exact ⟨rfl, rfl, hb4.trans (Only.of_below hbs)⟩
  refine (bytes_any b s 22 32 h4 (by omega) _ hr4).mono ?_
  rintro e w5 ⟨rfl, hr5, hbn⟩
  have hb5 := hb4.trans hbn
  clear hr4 hb4 hbn
  go_wp2_with fail
  refine (clone_any _ (by simp; omega) _).mono ?_
  rintro e w6 ⟨rfl, hbc⟩
  have hr6 := hr5.below hbc
  have hb6 := hb5.trans (Only.of_below hbc)
  clear hr5 hb5 hbc
  go_wp2_with fail
  refine (bytes_short b s 54 394 (by omega) (by decide) (by omega) (by decide) _ (hr6.below (below_newS _ _))).mono ?_
  rintro e w' ⟨rfl, hbs⟩
  exact ⟨rfl, rfl, (hb6.trans (Only.of_below (below_newS _ _))).trans (Only.of_below hbs)⟩
set_option maxHeartbeats 1000000 in
theorem takeSuper_full (b : Nat) (s : ByteArray) (hs : s.size = 448) (w : World) (h : Rd w b s 0) :
    Calls Tryd.prog 34 #[.pointer (some ⟨b, 0, none⟩)] w fun e w' => e = (if allZ (s.extract 54 448) = true then .returned (.agg (superCells s)) else .panicked (gave 5)) ∧ Only b w w' := by
  have hblt := h.lt
  have hr0 := h.below (below_newS w (.cells #[.int .i64 0, .int .i64 0, .int .i64 0, .int .i64 0, .string ⟨#[]⟩] 43))
  have hb0 : Only b w (w.alloc (.cells #[.int .i64 0, .int .i64 0, .int .i64 0, .int .i64 0, .string ⟨#[]⟩] 43)) := Only.of_below (below_newS w _)
  have hw0 : w.heap.size < (w.alloc (.cells #[.int .i64 0, .int .i64 0, .int .i64 0, .int .i64 0, .string ⟨#[]⟩] 43)).heap.size := by simp
  have g0 : (w.alloc (.cells #[.int .i64 0, .int .i64 0, .int .i64 0, .int .i64 0, .string ⟨#[]⟩] 43)).heap[w.heap.size]? = some (.cells #[.int .i64 0, .int .i64 0, .int .i64 0, .int .i64 0, .string ⟨#[]⟩] 43 (0, 0)) := heap_alloc_new w _
  clear h
  go_enter Tryd.func34, Tryd.ntmps34
  go_wp2_with fail
  generalize w.alloc (.cells #[.int .i64 0, .int .i64 0, .int .i64 0, .int .i64 0, .string ⟨#[]⟩] 43) = w0 at *
  refine (number_any b s 0 6 (by decide) (by decide) (by omega) (by omega) _ hr0).mono ?_
  rintro e w1 ⟨rfl, hr1, hbn⟩
  have hb1 := hb0.trans hbn
  have g1 := (hbn.2 w.heap.size hw0 (by omega)).trans g0
  have hw1 := Nat.lt_of_lt_of_le hw0 hbn.size
  clear hr0 hb0 hbn g0 hw0
  go_wp2_with fail
  refine (number_any b s 6 6 (by decide) (by decide) (by omega) (by omega) _ hr1).mono ?_
  rintro e w2 ⟨rfl, hr2, hbn⟩
  have hb2 := hb1.trans hbn
  have g2 := (hbn.2 w.heap.size hw1 (by omega)).trans g1
  have hw2 := Nat.lt_of_lt_of_le hw1 hbn.size
  clear hr1 hb1 hbn g1 hw1
  go_wp2_with fail
  refine (number_any b s 12 6 (by decide) (by decide) (by omega) (by omega) _ hr2).mono ?_
  rintro e w3 ⟨rfl, hr3, hbn⟩
  have hb3 := hb2.trans hbn
  have g3 := (hbn.2 w.heap.size hw2 (by omega)).trans g2
  have hw3 := Nat.lt_of_lt_of_le hw2 hbn.size
  clear hr2 hb2 hbn g2 hw2
  go_wp2_with fail
  refine (number_any b s 18 4 (by decide) (by decide) (by omega) (by omega) _ hr3).mono ?_
  rintro e w4 ⟨rfl, hr4, hbn⟩
  have hb4 := hb3.trans hbn
  have g4 := (hbn.2 w.heap.size hw3 (by omega)).trans g3
  have hw4 := Nat.lt_of_lt_of_le hw3 hbn.size
  clear hr3 hb3 hbn g3 hw3
  go_wp2_with fail
  refine (bytes_any b s 22 32 (by omega) (by omega) _ hr4).mono ?_
  rintro e w5 ⟨rfl, hr5, hbn⟩
  have hb5 := hb4.trans hbn
  have g5 := (hbn.2 w.heap.size hw4 (by omega)).trans g4
  have hw5 := Nat.lt_of_lt_of_le hw4 hbn.size
  clear hr4 hb4 hbn g4 hw4
  go_wp2_with fail
  refine (clone_any _ (by simp; omega) _).mono ?_
  rintro e w6 ⟨rfl, hbc⟩
  have hr6 := hr5.below hbc
  have hb6 := hb5.trans (Only.of_below hbc)
  have g6 := (hbc.block w.heap.size hw5).trans g5
  have hw6 := Nat.lt_of_lt_of_le hw5 hbc.size
  clear hr5 hb5 hbc g5 hw5
  go_wp2_with fail
  refine (bytes_any b s 54 394 (by omega) (by omega) _ (hr6.below (below_newS _ _))).mono ?_
  rintro e w10 ⟨rfl, hr10, hbn⟩
  have hb10 := (hb6.trans (Only.of_below (below_newS _ _))).trans hbn
  have g0' := (hbn.2 w.heap.size (by simp; omega) (by omega)).trans (show _ = some (Obj.cells #[.int .i64 0, .int .i64 0, .int .i64 0, .int .i64 0, .string ⟨#[]⟩] 43 (0, 0)) from by rw [Below.heap_alloc _ _ _ (by omega)]; exact g6)
  have g1' := (hbn.2 w6.heap.size (by simp) (by have := hr6.lt; omega)).trans (heap_alloc_new w6 _)
  clear hr6 hb6 hbn g6
  go_wp2_with fail
  refine (isZero_any (s.extract 54 448) (by unfold maxLen; simp; omega) _).mono ?_
  rintro e w11 ⟨rfl, hbz⟩
  have hb11 := hb10.trans (Only.of_below hbz)
  have g0 := (hbz.block w.heap.size (lt_of_block g0')).trans g0'
  have g1 := (hbz.block w6.heap.size (lt_of_block g1')).trans g1'
  clear hr10 hb10 hbz g0' g1'
  go_wp2_with fail
  by_cases hz : allZ (s.extract 54 448) = true
  case neg =>
    rw [Bool.eq_false_iff.2 hz]
    refine (must_no b _).mono ?_
    rintro e w' ⟨rfl, rfl⟩
    exact ⟨rfl, by rw [if_neg hz], hb11⟩
  rw [hz]
  refine (must_yes b _).mono ?_
  rintro e w' ⟨rfl, rfl⟩
  have g1 : w'.heap[w6.heap.size]? = some (Obj.cells (superCells s) 43 (0, 0)) := g1
  go_wp2_with (first | refine wpList_load_row rfl 43 _ rfl w6.heap.size rfl 43 _ (0, 0) _ g1 Tryd.underlying43 rfl (by kernel_rfl) ?_ | refine wpList_store_row rfl 43 _ _ rfl w.heap.size (superCells s) rfl rfl 43 _ g0 (by kernel_rfl) rfl (superCells_one s) ?_)
  exact bodyPost_ret (v := .agg (superCells s)) (results_cell_row Tryd.results34 _ _ w.heap.size 43 _ (0, 0) _ rfl (setRow_heap _ _ _ _ _ _ g0) Tryd.underlying43 rfl (by kernel_rfl)) rfl ⟨rfl, hb11.setRowS (Nat.le_refl _) _⟩
end Go.Proofs.YtbgilbnpamegnaaDoor
