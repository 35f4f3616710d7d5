/- pack.takeEntry, of a reader that stands at the beginning of a text of at most 28 bytes, panics with what a reader gives up with where the text is no entry's, or tells the entry. -/
import Derived.Test.YtlcadhojfnanfaaDoorReader
import Derived.Test.YtlcadhojfnanfaaDoorClone
import Derived.Test.YtlcadhojfnanfaaDoorNamed
import Derived.Laws.Rows
import Derived.Laws.Tables
namespace Go.Proofs.YtlcadhojfnanfaaDoor
set_option maxRecDepth 20000
open Go.RowKit

theorem Only.setRowE {b g : Nat} {w w' : World} (h : Only b w w') (hg : w.heap.size ≤ g) (cs : Array Value) : Only b w (w'.setRow g cs) :=
  ⟨h.1.trans ⟨rfl, rfl, rfl, by simp [World.setRow], fun k hk => absurd hk (Nat.not_lt_zero _)⟩, fun k hk hb => (setRow_other _ _ _ _ (by omega)).trans (h.2 k hk hb)⟩
theorem below_newE (w : World) (o1 : Obj) : Below w.heap.size w (w.alloc o1) := (Below.refl _ _).alloc (Nat.le_refl _) _
/-- The name's length that an entry's text tells, and the name. -/
def eoLen (s : ByteArray) : Nat := (leVal ((s.data.toList.drop 0).take 1)).toNat
def eoName (s : ByteArray) : ByteArray := (s.extract 1 20).extract 0 (eoLen s)
/-- The entry that a text of 28 bytes is. -/
def entryCells (s : ByteArray) : Array Value := #[.string (eoName s), .int .i64 (leVal ((s.data.toList.drop 20).take 4)), .int .i64 (leVal ((s.data.toList.drop 24).take 4))]
theorem entryCells_one (s : ByteArray) : (entryCells s).all (·.oneCell') = true := by simp [entryCells, Value.oneCell']
def eoFits (s : ByteArray) : Bool := decide (eoLen s ≤ 19) && allZ ((s.extract 1 20).extract (eoLen s) 19) && entFree (eoName s) (leVal ((s.data.toList.drop 20).take 4)) (leVal ((s.data.toList.drop 24).take 4))
theorem eoLen_eq (s : ByteArray) : leVal ((s.data.toList.drop 0).take 1) = (eoLen s : Int) := by
  unfold eoLen
  have := leVal_nonneg ((s.data.toList.drop 0).take 1)
  omega

set_option maxHeartbeats 1000000 in
theorem takeEntry_short (b : Nat) (s : ByteArray) (hs : s.size < 28) (w : World) (h : Rd w b s 0) :
    Calls Tryd.prog 34 #[.pointer (some ⟨b, 0, none⟩)] w fun e w' => e = .panicked (gave 3) ∧ Only b w w' := by
  have hblt := h.lt
  have hr0 := h.below (below_newE w (.cells #[.string ⟨#[]⟩, .int .i64 0, .int .i64 0] 28))
  have hb0 : Only b w (w.alloc (.cells #[.string ⟨#[]⟩, .int .i64 0, .int .i64 0] 28)) := Only.of_below (below_newE w _)
  clear h
  go_enter Tryd.func34, Tryd.ntmps34
  go_wp2_with fail
  generalize w.alloc (.cells #[.string ⟨#[]⟩, .int .i64 0, .int .i64 0] 28) = w0 at *
  by_cases h0 : 0 + 1 ≤ s.size
  case neg =>
    refine (number_short b s 0 1 (by decide) (by decide) h0 (by omega) _ hr0).mono ?_
    rintro e w' ⟨rfl, hbs⟩
    exact ⟨rfl, rfl, hb0.trans (Only.of_below hbs)⟩
  refine (number_any b s 0 1 (by decide) (by decide) h0 (by omega) _ hr0).mono ?_
  rintro e w1 ⟨rfl, hr1, hbn⟩
  have hb1 := hb0.trans hbn
  clear hr0 hb0 hbn
  go_wp2_with fail
  by_cases h1 : 1 + 19 ≤ s.size
  case neg =>
    refine (bytes_short b s 1 19 h1 (by decide) (by omega) (by decide) _ hr1).mono ?_
    rintro e w' ⟨rfl, hbs⟩
    exact ⟨rfl, rfl, hb1.trans (Only.of_below hbs)⟩
  refine (bytes_any b s 1 19 h1 (by omega) _ hr1).mono ?_
  rintro e w2 ⟨rfl, hr2, hbn⟩
  have hb2 := hb1.trans hbn
  clear hr1 hb1 hbn
  go_wp2_with fail
  by_cases h2 : 20 + 4 ≤ s.size
  case neg =>
    refine (number_short b s 20 4 (by decide) (by decide) h2 (by omega) _ hr2).mono ?_
    rintro e w' ⟨rfl, hbs⟩
    exact ⟨rfl, rfl, hb2.trans (Only.of_below hbs)⟩
  refine (number_any b s 20 4 (by decide) (by decide) h2 (by omega) _ hr2).mono ?_
  rintro e w3 ⟨rfl, hr3, hbn⟩
  have hb3 := hb2.trans hbn
  clear hr2 hb2 hbn
  go_wp2_with fail
  by_cases h3 : 24 + 4 ≤ s.size
  case neg =>
    refine (number_short b s 24 4 (by decide) (by decide) h3 (by omega) _ hr3).mono ?_
    rintro e w' ⟨rfl, hbs⟩
    exact ⟨rfl, rfl, hb3.trans (Only.of_below hbs)⟩
  omega

set_option maxHeartbeats 1000000 in
theorem takeEntry_full (b : Nat) (s : ByteArray) (hs : s.size = 28) (w : World) (h : Rd w b s 0) :
    Calls Tryd.prog 34 #[.pointer (some ⟨b, 0, none⟩)] w fun e w' => e = (if eoFits s = true then .returned (.agg (entryCells s)) else .panicked (gave 5)) ∧ Only b w w' := by
  have hblt := h.lt
  have hr0 := h.below (below_newE w (.cells #[.string ⟨#[]⟩, .int .i64 0, .int .i64 0] 28))
  have hb0 : Only b w (w.alloc (.cells #[.string ⟨#[]⟩, .int .i64 0, .int .i64 0] 28)) := Only.of_below (below_newE w _)
  have hw0 : w.heap.size < (w.alloc (.cells #[.string ⟨#[]⟩, .int .i64 0, .int .i64 0] 28)).heap.size := by simp
  have g0 : (w.alloc (.cells #[.string ⟨#[]⟩, .int .i64 0, .int .i64 0] 28)).heap[w.heap.size]? = some (.cells #[.string ⟨#[]⟩, .int .i64 0, .int .i64 0] 28 (0, 0)) := heap_alloc_new w _
  clear h
  go_enter Tryd.func34, Tryd.ntmps34
  go_wp2_with fail
  generalize w.alloc (.cells #[.string ⟨#[]⟩, .int .i64 0, .int .i64 0] 28) = w0 at *
  refine (number_any b s 0 1 (by decide) (by decide) (by omega) (by omega) _ hr0).mono ?_
  rintro e w1 ⟨rfl, hr1, hbn⟩
  have hb1 := hb0.trans hbn
  have g1 := (hbn.2 w.heap.size hw0 (by omega)).trans g0
  have hw1 := Nat.lt_of_lt_of_le hw0 hbn.size
  clear hr0 hb0 hbn g0 hw0
  have HL : Hid (leVal ((s.data.toList.drop 0).take 1) = (eoLen s : Int)) := eoLen_eq s
  rw [HL.out]
  go_wp2_with fail
  refine (bytes_any b s 1 19 (by omega) (by omega) _ hr1).mono ?_
  rintro e w2 ⟨rfl, hr2, hbn⟩
  have hb2 := hb1.trans hbn
  have g2 := (hbn.2 w.heap.size hw1 (by omega)).trans g1
  have hw2 := Nat.lt_of_lt_of_le hw1 hbn.size
  clear hr1 hb1 hbn g1 hw1
  go_wp2_with fail
  refine (number_any b s 20 4 (by decide) (by decide) (by omega) (by omega) _ hr2).mono ?_
  rintro e w3 ⟨rfl, hr3, hbn⟩
  have hb3 := hb2.trans hbn
  have g3 := (hbn.2 w.heap.size hw2 (by omega)).trans g2
  have hw3 := Nat.lt_of_lt_of_le hw2 hbn.size
  clear hr2 hb2 hbn g2 hw2
  obtain ⟨n1, hn1⟩ : ∃ n, n = leVal ((s.data.toList.drop 20).take 4) := ⟨_, rfl⟩
  rw [← hn1]
  have HN1 : Hid (n1 = leVal ((s.data.toList.drop 20).take 4)) := hn1
  clear hn1
  go_wp2_with fail
  refine (number_any b s 24 4 (by decide) (by decide) (by omega) (by omega) _ hr3).mono ?_
  rintro e w4 ⟨rfl, hr4, hbn⟩
  have hb4 := hb3.trans hbn
  have g4 := (hbn.2 w.heap.size hw3 (by omega)).trans g3
  have hw4 := Nat.lt_of_lt_of_le hw3 hbn.size
  clear hr3 hb3 hbn g3 hw3
  obtain ⟨n2, hn2⟩ : ∃ n, n = leVal ((s.data.toList.drop 24).take 4) := ⟨_, rfl⟩
  rw [← hn2]
  have HX : Hid (entryCells s = #[.string ((s.extract 1 20).extract 0 (eoLen s)), .int .i64 n1, .int .i64 n2] ∧ eoFits s = (decide (eoLen s ≤ 19) && allZ ((s.extract 1 20).extract (eoLen s) 19) && entFree ((s.extract 1 20).extract 0 (eoLen s)) n1 n2)) := by
    unfold entryCells eoFits; rw [HN1.out, hn2]; exact ⟨rfl, rfl⟩
  clear hn2
  have hFs : (s.extract 1 20).size = 19 := by simp; omega
  generalize eoLen s = L at *
  generalize s.extract 1 20 = f at *
  go_wp2_with fail
  have hb5 : Only b w (w4.alloc (.cells #[.string ⟨#[]⟩, .int .i64 n1, .int .i64 n2] 28)) := hb4.trans (Only.of_below (below_newE _ _))
  have g5 : (w4.alloc (.cells #[.string ⟨#[]⟩, .int .i64 n1, .int .i64 n2] 28)).heap[w.heap.size]? = _ := (Below.heap_alloc _ _ _ hw4).trans g4
  have k5 := heap_alloc_new w4 (.cells #[.string ⟨#[]⟩, .int .i64 n1, .int .i64 n2] 28)
  generalize w4.alloc (.cells #[.string ⟨#[]⟩, .int .i64 n1, .int .i64 n2] 28) = w5 at *
  clear hr4 hb4 g4
  by_cases hL : L ≤ 19
  case neg =>
    rw [decide_eq_false (show ¬ (L : Int) ≤ 19 by omega)]
    refine (must_no b _).mono ?_
    rintro e w' ⟨rfl, rfl⟩
    exact ⟨rfl, by rw [HX.out.2]; simp [hL], hb5⟩
  rw [decide_eq_true (show (L : Int) ≤ 19 by omega)]
  refine (must_yes b _).mono ?_
  rintro e w' ⟨rfl, rfl⟩
  have i1 : (L : Int) ≤ 19 := by omega
  have i2 : (0 : Int) ≤ L := by omega
  have i3 : (L : Int) ≤ f.size := by omega
  go_wp2_with fail
  refine (isZero_any (f.extract L 19) (by unfold maxLen; simp; omega) _).mono ?_
  rintro e w6 ⟨rfl, hbz⟩
  have hb6 := hb5.trans (Only.of_below hbz)
  have g6 := (hbz.block w.heap.size (lt_of_block g5)).trans g5
  have k6 := (hbz.block w4.heap.size (lt_of_block k5)).trans k5
  clear hb5 hbz g5 k5
  go_wp2_with fail
  by_cases hz : allZ (f.extract L 19) = true
  case neg =>
    rw [Bool.eq_false_iff.2 hz]
    refine (must_no b _).mono ?_
    rintro e w' ⟨rfl, rfl⟩
    exact ⟨rfl, by rw [HX.out.2]; simp [hz], hb6⟩
  rw [hz]
  refine (must_yes b _).mono ?_
  rintro e w' ⟨rfl, rfl⟩
  go_wp2_with fail
  refine (clone_any (f.extract 0 L) (by simp; omega) _).mono ?_
  rintro e w7 ⟨rfl, hbc⟩
  have hb7 := hb6.trans (Only.of_below hbc)
  have g7 := (hbc.block w.heap.size (lt_of_block g6)).trans g6
  have k7 := (hbc.block w4.heap.size (lt_of_block k6)).trans k6
  clear hb6 hbc g6 k6
  have c0 : w7.cell? ⟨w4.heap.size, 0, none⟩ = some (.string ⟨#[]⟩) := by simp [World.cell?, k7]
  have c1 : w7.frozen? ⟨w4.heap.size, 0, none⟩ = false := by simp [World.frozen?, k7]
  have k8 := heap_setCell_same w7 w4.heap.size 0 _ _ (.string (f.extract 0 L)) k7
  have g8 : (w7.setCell ⟨w4.heap.size, 0, none⟩ (.string (f.extract 0 L))).heap[w.heap.size]? = _ := (Below.heap_setCell w7 ⟨w4.heap.size, 0, none⟩ (.string (f.extract 0 L)) w.heap.size (show w.heap.size ≠ w4.heap.size by omega)).trans g7
  have hb8 : Only b w (w7.setCell ⟨w4.heap.size, 0, none⟩ (.string (f.extract 0 L))) := ⟨hb7.1.setCell (p := ⟨w4.heap.size, 0, none⟩) (Nat.zero_le _) _, fun k hk hb => (Below.heap_setCell w7 ⟨w4.heap.size, 0, none⟩ (.string (f.extract 0 L)) k (show k ≠ w4.heap.size by omega)).trans (hb7.2 k hk hb)⟩
  simp only [List.setIfInBounds_toArray, List.set_cons_zero] at k8
  go_wp2_with (first | refine wpList_load_row rfl 28 _ rfl w4.heap.size rfl 28 _ (0, 0) _ k8 Tryd.underlying28 rfl (by kernel_rfl) ?_)
  clear c0 c1 k7 g7 hb7
  generalize w7.setCell ⟨w4.heap.size, 0, none⟩ (.string (f.extract 0 L)) = w8 at *
  refine (named_any (f.extract 0 L) n1 n2 _).mono ?_
  rintro e w9 ⟨rfl, hbn⟩
  have hb9 := hb8.trans (Only.of_below hbn)
  have g9 := (hbn.block w.heap.size (lt_of_block g8)).trans g8
  have k9 := (hbn.block w4.heap.size (lt_of_block k8)).trans k8
  clear hb8 hbn g8 k8
  go_wp2_with fail
  by_cases hq : entFree (f.extract 0 L) n1 n2 = true
  case neg =>
    rw [Bool.eq_false_iff.2 hq]
    refine (must_no b _).mono ?_
    rintro e w' ⟨rfl, rfl⟩
    exact ⟨rfl, by rw [HX.out.2]; simp [hq], hb9⟩
  rw [hq]
  refine (must_yes b _).mono ?_
  rintro e w' ⟨rfl, rfl⟩
  rw [← HX.out.1] at k9
  have hfit : eoFits s = true := by rw [HX.out.2]; simp [hL, hz, hq]
  go_wp2_with (first | refine wpList_load_row rfl 28 _ rfl w4.heap.size rfl 28 _ (0, 0) _ k9 Tryd.underlying28 rfl (by kernel_rfl) ?_ | refine wpList_store_row rfl 28 _ _ rfl w.heap.size (entryCells s) rfl rfl 28 _ g9 (by kernel_rfl) rfl (entryCells_one s) ?_)
  exact bodyPost_ret (v := .agg (entryCells s)) (results_cell_row Tryd.results34 _ _ w.heap.size 28 _ (0, 0) _ rfl (setRow_heap _ _ _ _ _ _ g9) Tryd.underlying28 rfl (by kernel_rfl)) rfl ⟨rfl, hb9.setRowE (Nat.le_refl _) _⟩
end Go.Proofs.YtlcadhojfnanfaaDoor
