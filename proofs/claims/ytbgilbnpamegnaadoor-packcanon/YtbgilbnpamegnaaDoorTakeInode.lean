/- pack.takeInode, of a reader that stands at the beginning of a text of at most 448 bytes, panics with what a reader gives up with where the text is no inode's, or tells the inode. -/
import Derived.Test.YtbgilbnpamegnaaDoorReader
import Derived.Laws.Rows
import Derived.Laws.Tables
import Derived.Deep.WholeRow
namespace Go.Proofs.YtbgilbnpamegnaaDoor
open Go.RowKit

theorem Only.setRowI {b g : Nat} {w w' : World} (h : Only b w w') (hg : w.heap.size ≤ g) (cs : Array Value) : Only b w (w'.setRow g cs) :=
  ⟨h.1.trans ⟨rfl, rfl, rfl, by simp [World.setRow], fun k hk => absurd hk (Nat.not_lt_zero _)⟩, fun k hk hb => (setRow_other _ _ _ _ (by omega)).trans (h.2 k hk hb)⟩
theorem Only.setCellI {b g i : Nat} {w w' : World} (h : Only b w w') (hg : w.heap.size ≤ g) (v : Value) : Only b w (w'.setCell ⟨g, i, none⟩ v) :=
  ⟨h.1.trans ((Below.refl 0 w').setCell (p := ⟨g, i, none⟩) (Nat.zero_le _) v), fun k hk hb => (Below.heap_setCell w' ⟨g, i, none⟩ v k (show k ≠ g by omega)).trans (h.2 k hk hb)⟩
theorem below_newI (w : World) (o1 : Obj) : Below w.heap.size w (w.alloc o1) := (Below.refl _ _).alloc (Nat.le_refl _) _
/-- Where an inode's field stands in its bytes, and how wide it is. -/
def posI : Nat → Nat
  | 0 => 0
  | 1 => 2
  | 2 => 6
  | 3 => 12
  | k => 4 * k
def widI : Nat → Nat
  | 0 => 2
  | 2 => 6
  | _ => 4
def fldI (L : List UInt8) (k : Nat) : Int := leVal ((L.drop (posI k)).take (widI k))
theorem fldI_high (L : List UInt8) (j : Nat) : fldI L (j + 4) = leVal ((L.drop (16 + 4 * j)).take 4) := by
  have h1 : posI (j + 4) = 16 + 4 * j := by
    show 4 * (j + 4) = _
    omega
  have h2 : widI (j + 4) = 4 := rfl
  rw [fldI, h1, h2]
/-- An inode's cells, the first m of them read. -/
def cellsI (L : List UInt8) (m : Nat) : Array Value := ((List.range 18).map fun k => Value.int .i64 (if k < m then fldI L k else 0)).toArray
theorem cellsI_size (L : List UInt8) (m : Nat) : (cellsI L m).size = 18 := by simp [cellsI]
theorem cellsI_at (L : List UInt8) (m k : Nat) (h : k < 18) : (cellsI L m)[k]? = some (.int .i64 (if k < m then fldI L k else 0)) := by
  rw [cellsI, List.getElem?_toArray, List.getElem?_map, List.getElem?_range h]
  rfl
theorem cellsI_one (L : List UInt8) (m : Nat) : (cellsI L m).all (·.oneCell') = true := by simp [cellsI, Value.oneCell']
theorem cellsI_set (L : List UInt8) (m : Nat) (h : m < 18) : (cellsI L m).setIfInBounds m (.int .i64 (fldI L m)) = cellsI L (m + 1) := by
  apply Array.ext_getElem?
  intro k
  rw [Array.getElem?_setIfInBounds, cellsI_size]
  by_cases hk : k < 18
  · rw [cellsI_at L m k hk, cellsI_at L (m + 1) k hk]
    by_cases e : m = k
    · subst e
      rw [if_pos rfl, if_pos h, if_pos (by omega)]
    · rw [if_neg e]
      by_cases hl : k < m
      · rw [if_pos hl, if_pos (by omega)]
      · rw [if_neg hl, if_neg (by omega)]
  · have e : m ≠ k := by omega
    rw [if_neg e, Array.getElem?_eq_none (by rw [cellsI_size]; omega), Array.getElem?_eq_none (by rw [cellsI_size]; omega)]
theorem cellsI_four (L : List UInt8) : #[Value.int .i64 (leVal ((L.drop 0).take 2)), .int .i64 (leVal ((L.drop 2).take 4)), .int .i64 (leVal ((L.drop 6).take 6)), .int .i64 (leVal ((L.drop 12).take 4)), .int .i64 0, .int .i64 0, .int .i64 0, .int .i64 0, .int .i64 0, .int .i64 0, .int .i64 0, .int .i64 0, .int .i64 0, .int .i64 0, .int .i64 0, .int .i64 0, .int .i64 0, .int .i64 0] = cellsI L 4 := rfl
/-- The inode that a text of 448 bytes is, and whether it is one. -/
def inodeCells (s : ByteArray) : Array Value := cellsI s.data.toList 18
def inoFits (s : ByteArray) : Bool := decide (fldI s.data.toList 0 ≤ 3) && allZ (s.extract 72 448)
theorem kind_any (a0 : Int) (h0 : 0 ≤ a0) (w : World) : Calls Tryd.prog 28 #[.int .i64 a0] w fun e w' => e = .returned (.bool (decide (a0 ≤ 3))) ∧ w' = w := by
  by_cases h3 : a0 ≤ 3
  · rw [decide_eq_true h3]
    go_enter Tryd.func28, Tryd.ntmps28
    go_wp2
    go_ret
    exact ⟨rfl, rfl⟩
  · rw [decide_eq_false h3]
    have h3' : decide (a0 ≤ 3) = false := decide_eq_false h3
    go_enter Tryd.func28, Tryd.ntmps28
    go_wp2
    go_ret
    exact ⟨rfl, rfl⟩
theorem rowI_set {w : World} {g m : Nat} {t : TypeId} {L : List UInt8} (h : w.heap[g]? = some (.cells (cellsI L m) t (0, 0))) (hm : m < 18) : (w.setCell ⟨g, m, none⟩ (.int .i64 (fldI L m))).heap[g]? = some (.cells (cellsI L (m + 1)) t (0, 0)) := by
  have e := heap_setCell_same w g m _ t (.int .i64 (fldI L m)) h
  rw [← cellsI_set L m hm]
  exact e
theorem rowI_cell {w : World} {g m k : Nat} {t : TypeId} {L : List UInt8} (h : w.heap[g]? = some (.cells (cellsI L m) t (0, 0))) (hk : k < 18) : w.cell? ⟨g, k, none⟩ = some (.int .i64 (if k < m then fldI L k else 0)) := by
  rw [cell_of_row _ _ _ _ _ _ h]
  exact cellsI_at L m k hk
theorem rowI_free {w : World} {g m k : Nat} {t : TypeId} {L : List UInt8} (h : w.heap[g]? = some (.cells (cellsI L m) t (0, 0))) : w.frozen? ⟨g, k, none⟩ = false := by simp [World.frozen?, h]

set_option maxRecDepth 10000 in
set_option maxHeartbeats 2000000 in
theorem takeInode_any (b : Nat) (s : ByteArray) (hs : s.size ≤ 448) (w : World) (h : Rd w b s 0) :
    Calls Tryd.prog 16 #[.pointer (some ⟨b, 0, none⟩)] w fun e w' => e = (if s.size < 448 then .panicked (gave 3) else if inoFits s = true then .returned (.agg (inodeCells s)) else .panicked (gave 5)) ∧ Only b w w' := by
  have hblt := h.lt
  obtain ⟨z18, hz18⟩ : ∃ z18 : Array Value, z18 = #[.int .i64 0, .int .i64 0, .int .i64 0, .int .i64 0, .int .i64 0, .int .i64 0, .int .i64 0, .int .i64 0, .int .i64 0, .int .i64 0, .int .i64 0, .int .i64 0, .int .i64 0, .int .i64 0, .int .i64 0, .int .i64 0, .int .i64 0, .int .i64 0] := ⟨_, rfl⟩
  have hz18s : z18.size = 18 := by rw [hz18]; rfl
  have hr0 := h.below (below_newI w (.cells z18 24))
  have hb0 : Only b w (w.alloc (.cells z18 24)) := Only.of_below (below_newI w _)
  have hw0 : w.heap.size < (w.alloc (.cells z18 24)).heap.size := by simp
  have g0 : (w.alloc (.cells z18 24)).heap[w.heap.size]? = some (.cells z18 24 (0, 0)) := heap_alloc_new w _
  clear h
  have HP : Hid (∀ (w' : World), s.size < 448 → Only b w w' → (Ending.panicked (gave 3) = (if s.size < 448 then .panicked (gave 3) else if inoFits s = true then .returned (.agg (inodeCells s)) else .panicked (gave 5)) ∧ Only b w w')) := fun w' h1 h2 => ⟨by rw [if_pos h1], h2⟩
  obtain ⟨A18, hA18⟩ : ∃ A18, A18 = inodeCells s := ⟨_, rfl⟩
  have HLL : Hid (A18 = cellsI s.data.toList 18 ∧ inoFits s = (decide (fldI s.data.toList 0 ≤ 3) && allZ (s.extract 72 448)) ∧ (∀ j, fldI s.data.toList (j + 4) = leVal ((s.data.toList.drop (16 + 4 * j)).take 4)) ∧ 0 ≤ fldI s.data.toList 0) := ⟨hA18, rfl, fldI_high _, leVal_nonneg _⟩
  rw [← hA18] at HP
  rw [← hA18]
  have hl40 := cellsI_four s.data.toList
  have HL4 : Hid (_ = cellsI s.data.toList 4) := hl40
  clear hl40
  have HF0 : Hid (leVal ((s.data.toList.drop 0).take 2) = fldI s.data.toList 0) := rfl
  generalize hf : inoFits s = fits at *
  clear hA18 hf
  go_enter Tryd.func16, Tryd.ntmps16
  go_wp2_with fail
  rw [← hz18]
  generalize w.alloc (.cells z18 24) = w0 at *
  by_cases h0 : 0 + 2 ≤ s.size
  case neg =>
    refine (number_short b s 0 2 (by decide) (by decide) h0 (by omega) _ hr0).mono ?_
    rintro e w' ⟨rfl, hbs⟩
    exact ⟨rfl, HP.out _ (by omega) (hb0.trans (Only.of_below hbs))⟩
  refine (number_any b s 0 2 (by decide) (by decide) h0 (by omega) _ hr0).mono ?_
  rintro e w1 ⟨rfl, hr1, hbn⟩
  have hb1 := hb0.trans hbn
  have g1 := (hbn.2 w.heap.size hw0 (by omega)).trans g0
  have hw1 := Nat.lt_of_lt_of_le hw0 hbn.size
  clear hr0 hb0 hbn g0 hw0
  generalize leVal ((s.data.toList.drop 0).take 2) = x0 at *
  go_wp2_with fail
  by_cases h1 : 2 + 4 ≤ s.size
  case neg =>
    refine (number_short b s 2 4 (by decide) (by decide) h1 (by omega) _ hr1).mono ?_
    rintro e w' ⟨rfl, hbs⟩
    exact ⟨rfl, HP.out _ (by omega) (hb1.trans (Only.of_below hbs))⟩
  refine (number_any b s 2 4 (by decide) (by decide) h1 (by omega) _ hr1).mono ?_
  rintro e w2 ⟨rfl, hr2, hbn⟩
  have hb2 := hb1.trans hbn
  have g2 := (hbn.2 w.heap.size hw1 (by omega)).trans g1
  have hw2 := Nat.lt_of_lt_of_le hw1 hbn.size
  clear hr1 hb1 hbn g1 hw1
  generalize leVal ((s.data.toList.drop 2).take 4) = x1 at *
  go_wp2_with fail
  by_cases h2 : 6 + 6 ≤ s.size
  case neg =>
    refine (number_short b s 6 6 (by decide) (by decide) h2 (by omega) _ hr2).mono ?_
    rintro e w' ⟨rfl, hbs⟩
    exact ⟨rfl, HP.out _ (by omega) (hb2.trans (Only.of_below hbs))⟩
  refine (number_any b s 6 6 (by decide) (by decide) h2 (by omega) _ hr2).mono ?_
  rintro e w3 ⟨rfl, hr3, hbn⟩
  have hb3 := hb2.trans hbn
  have g3 := (hbn.2 w.heap.size hw2 (by omega)).trans g2
  have hw3 := Nat.lt_of_lt_of_le hw2 hbn.size
  clear hr2 hb2 hbn g2 hw2
  generalize leVal ((s.data.toList.drop 6).take 6) = x2 at *
  go_wp2_with fail
  by_cases h3 : 12 + 4 ≤ s.size
  case neg =>
    refine (number_short b s 12 4 (by decide) (by decide) h3 (by omega) _ hr3).mono ?_
    rintro e w' ⟨rfl, hbs⟩
    exact ⟨rfl, HP.out _ (by omega) (hb3.trans (Only.of_below hbs))⟩
  refine (number_any b s 12 4 (by decide) (by decide) h3 (by omega) _ hr3).mono ?_
  rintro e w4 ⟨rfl, hr4, hbn⟩
  have hb4 := hb3.trans hbn
  have g4 := (hbn.2 w.heap.size hw3 (by omega)).trans g3
  have hw4 := Nat.lt_of_lt_of_le hw3 hbn.size
  clear hr3 hb3 hbn g3 hw3
  generalize leVal ((s.data.toList.drop 12).take 4) = x3 at *
  have hl4 := HL4.out
  clear HL4
  obtain ⟨C4, hC4⟩ : ∃ C4, cellsI s.data.toList 4 = C4 := ⟨_, rfl⟩
  rw [hC4] at hl4
  have hsz : C4.size = 18 := by rw [← hC4]; exact cellsI_size _ _
  have hone : C4.all (·.oneCell') = true := by rw [← hC4]; exact cellsI_one _ _
  have hinfo : (Tryd.prog.info? 24).map (·.size) = some C4.size := by rw [hsz]; kernel_rfl
  have HC4 : Hid (C4 = cellsI s.data.toList 4) := hC4.symm
  clear hC4
  have hsn := fun W => run_storeCells_new (P := Tryd.prog) W 24 #[.int .i64 0, .int .i64 0, .int .i64 0, .int .i64 0, .int .i64 0, .int .i64 0, .int .i64 0, .int .i64 0, .int .i64 0, .int .i64 0, .int .i64 0, .int .i64 0, .int .i64 0, .int .i64 0, .int .i64 0, .int .i64 0, .int .i64 0, .int .i64 0] C4 hinfo (by rw [hsz]; rfl) hone
  go_wp2_with fail
  clear hsn hinfo hone hsz hl4 hz18
  have gi := heap_alloc_new w4 (.cells C4 24)
  have hr5 := hr4.below (below_newI w4 (.cells C4 24))
  have hb5 := hb4.trans (Only.of_below (below_newI w4 (.cells C4 24)))
  have g5 : (w4.alloc (.cells C4 24)).heap[w.heap.size]? = some (.cells z18 24 (0, 0)) := by rw [Below.heap_alloc _ _ _ hw4]; exact g4
  have hbi : w4.heap.size ≠ b := by have := hr4.lt; omega
  have hwi : w.heap.size ≠ w4.heap.size := by omega
  have hwb : w.heap.size ≠ b := by omega
  have hlow : w.heap.size ≤ w4.heap.size := by omega
  generalize w4.alloc (.cells C4 24) = w5 at *
  generalize w4.heap.size = I at *
  have HA : Hid (Rd w5 b s (16 + 4 * 0) ∧ w5.heap[I]? = some (.cells (cellsI s.data.toList (0 + 4)) 24 (0, 0)) ∧ w5.heap[w.heap.size]? = some (.cells z18 24 (0, 0)) ∧ Only b w w5) := ⟨hr5, by rw [gi, HC4.out], g5, hb5⟩
  have HSZ : Hid (z18.size = 18) := hz18s
  clear hr4 hb4 g4 hw4 hr5 gi g5 hb5 HC4 hz18s
  obtain ⟨L, hL⟩ : ∃ L, L = s.data.toList := ⟨_, rfl⟩
  rw [← hL] at HA HLL HF0
  have HLS : Hid (s.data.toList = L) := hL.symm
  clear hL
  go_loopw [15] (fun v wq => ∃ j : Nat, j ≤ 12 ∧ v = .int .i64 j ∧ Rd wq b s (16 + 4 * j) ∧ wq.heap[I]? = some (.cells (cellsI L (j + 4)) 24 (0, 0)) ∧ wq.heap[w.heap.size]? = some (.cells z18 24 (0, 0)) ∧ Only b w wq) (fun v _ => 12 - (intOf v).toNat)
  case atStart => exact ⟨0, Nat.zero_le _, rfl, HA.out⟩
  case round =>
    clear HA
    obtain ⟨j, hj, rfl, hR, hI, hG, hO⟩ := hrel
    by_cases hlt : j < 12
    · have j12 : (j : Int) < 12 := by omega
      have HK : Hid (Rd wr b s (16 + 4 * j) ∧ wr.heap[I]? = some (.cells (cellsI L (j + 4)) 24 (0, 0)) ∧ wr.heap[w.heap.size]? = some (.cells z18 24 (0, 0)) ∧ Only b w wr) := ⟨hR, hI, hG, hO⟩
      clear hR hI hG hO
      go_wp2_with fail
      by_cases hk : 16 + 4 * j + 4 ≤ s.size
      case neg =>
        refine (number_short b s (16 + 4 * j) 4 (by decide) (by decide) hk (by omega) _ HK.out.1).mono ?_
        rintro e w' ⟨rfl, hbs⟩
        exact ⟨rfl, HP.out _ (by omega) (HK.out.2.2.2.trans (Only.of_below hbs))⟩
      refine (number_any b s (16 + 4 * j) 4 (by decide) (by decide) hk (by omega) _ HK.out.1).mono ?_
      rintro e w6 ⟨rfl, hr6, hbn⟩
      have ex : leVal ((s.data.toList.drop (16 + 4 * j)).take 4) = fldI L (j + 4) := by
        rw [HLS.out]
        exact (HLL.out.2.2.1 j).symm
      rw [ex]
      have hI6 := (hbn.2 I (lt_of_block HK.out.2.1) hbi).trans HK.out.2.1
      have hG6 := (hbn.2 w.heap.size (lt_of_block HK.out.2.2.1) hwb).trans HK.out.2.2.1
      have ci : w6.cell? ⟨I, 4 + j, none⟩ = some (.int .i64 0) := by rw [Nat.add_comm 4 j, rowI_cell hI6 (by omega), if_neg (by omega)]
      have fi : w6.frozen? ⟨I, 4 + j, none⟩ = false := rowI_free hI6
      have HF : Hid (Rd (w6.setCell ⟨I, 4 + j, none⟩ (.int .i64 (fldI L (j + 4)))) b s (16 + 4 * (j + 1)) ∧ (w6.setCell ⟨I, 4 + j, none⟩ (.int .i64 (fldI L (j + 4)))).heap[I]? = some (.cells (cellsI L (j + 1 + 4)) 24 (0, 0)) ∧ (w6.setCell ⟨I, 4 + j, none⟩ (.int .i64 (fldI L (j + 4)))).heap[w.heap.size]? = some (.cells z18 24 (0, 0)) ∧ Only b w (w6.setCell ⟨I, 4 + j, none⟩ (.int .i64 (fldI L (j + 4))))) := ⟨(Below.heap_setCell w6 ⟨I, 4 + j, none⟩ _ b (Ne.symm hbi)).trans hr6, by rw [Nat.add_comm 4 j, show j + 1 + 4 = j + 4 + 1 by omega]; exact rowI_set hI6 (by omega), (Below.heap_setCell w6 ⟨I, 4 + j, none⟩ _ w.heap.size hwi).trans hG6, (HK.out.2.2.2.trans hbn).setCellI hlow _⟩
      clear hr6 hbn hI6 hG6 ex HK
      generalize fldI L (j + 4) = x at *
      go_wp2
      go_roundw
      case rel => exact ⟨j + 1, by omega, by go_num, HF.out⟩
      case measure => simp [intOf]; omega
    · obtain rfl : j = 12 := by omega
      have HK : Hid (Rd wr b s 64 ∧ wr.heap[I]? = some (.cells (cellsI L 16) 24 (0, 0)) ∧ wr.heap[w.heap.size]? = some (.cells z18 24 (0, 0)) ∧ Only b w wr) := ⟨hR, hI, hG, hO⟩
      clear hR hI hG hO
      go_wp2_with fail
      by_cases hk7 : 64 + 4 ≤ s.size
      case neg =>
        refine (number_short b s 64 4 (by decide) (by decide) hk7 (by omega) _ HK.out.1).mono ?_
        rintro e w' ⟨rfl, hbs⟩
        exact ⟨rfl, HP.out _ (by omega) (HK.out.2.2.2.trans (Only.of_below hbs))⟩
      refine (number_any b s 64 4 (by decide) (by decide) hk7 (by omega) _ HK.out.1).mono ?_
      rintro e w7 ⟨rfl, hr, hbn⟩
      have ex : leVal ((s.data.toList.drop 64).take 4) = fldI L 16 := by
        rw [HLS.out]
        exact (HLL.out.2.2.1 12).symm
      rw [ex]
      have hI7 := (hbn.2 I (lt_of_block HK.out.2.1) hbi).trans HK.out.2.1
      have hG7 := (hbn.2 w.heap.size (lt_of_block HK.out.2.2.1) hwb).trans HK.out.2.2.1
      have ci : w7.cell? ⟨I, 16, none⟩ = some (.int .i64 0) := by rw [rowI_cell hI7 (by decide), if_neg (by decide)]
      have fi : w7.frozen? ⟨I, 16, none⟩ = false := rowI_free hI7
      have HK' : Hid (Rd (w7.setCell ⟨I, 16, none⟩ (.int .i64 (fldI L 16))) b s (64 + 4) ∧ (w7.setCell ⟨I, 16, none⟩ (.int .i64 (fldI L 16))).heap[I]? = some (.cells (cellsI L 17) 24 (0, 0)) ∧ (w7.setCell ⟨I, 16, none⟩ (.int .i64 (fldI L 16))).heap[w.heap.size]? = some (.cells z18 24 (0, 0)) ∧ Only b w (w7.setCell ⟨I, 16, none⟩ (.int .i64 (fldI L 16)))) := ⟨(Below.heap_setCell w7 ⟨I, 16, none⟩ _ b (Ne.symm hbi)).trans hr, rowI_set hI7 (by decide), (Below.heap_setCell w7 ⟨I, 16, none⟩ _ w.heap.size hwi).trans hG7, (HK.out.2.2.2.trans hbn).setCellI hlow _⟩
      clear hr hbn hI7 hG7 ex HK
      have HK := HK'
      clear HK'
      generalize fldI L 16 = y7 at *
      go_wp2_with fail
      generalize w7.setCell ⟨I, 16, none⟩ (.int .i64 y7) = v7 at *
      by_cases hk8 : 68 + 4 ≤ s.size
      case neg =>
        refine (number_short b s 68 4 (by decide) (by decide) hk8 (by omega) _ HK.out.1).mono ?_
        rintro e w' ⟨rfl, hbs⟩
        exact ⟨rfl, HP.out _ (by omega) (HK.out.2.2.2.trans (Only.of_below hbs))⟩
      refine (number_any b s 68 4 (by decide) (by decide) hk8 (by omega) _ HK.out.1).mono ?_
      rintro e w8 ⟨rfl, hr, hbn⟩
      have ex : leVal ((s.data.toList.drop 68).take 4) = fldI L 17 := by
        rw [HLS.out]
        exact (HLL.out.2.2.1 13).symm
      rw [ex]
      have hI8 := (hbn.2 I (lt_of_block HK.out.2.1) hbi).trans HK.out.2.1
      have hG8 := (hbn.2 w.heap.size (lt_of_block HK.out.2.2.1) hwb).trans HK.out.2.2.1
      have ci : w8.cell? ⟨I, 17, none⟩ = some (.int .i64 0) := by rw [rowI_cell hI8 (by decide), if_neg (by decide)]
      have fi : w8.frozen? ⟨I, 17, none⟩ = false := rowI_free hI8
      have HK' : Hid (Rd (w8.setCell ⟨I, 17, none⟩ (.int .i64 (fldI L 17))) b s (68 + 4) ∧ (w8.setCell ⟨I, 17, none⟩ (.int .i64 (fldI L 17))).heap[I]? = some (.cells (cellsI L 18) 24 (0, 0)) ∧ (w8.setCell ⟨I, 17, none⟩ (.int .i64 (fldI L 17))).heap[w.heap.size]? = some (.cells z18 24 (0, 0)) ∧ Only b w (w8.setCell ⟨I, 17, none⟩ (.int .i64 (fldI L 17)))) := ⟨(Below.heap_setCell w8 ⟨I, 17, none⟩ _ b (Ne.symm hbi)).trans hr, rowI_set hI8 (by decide), (Below.heap_setCell w8 ⟨I, 17, none⟩ _ w.heap.size hwi).trans hG8, (HK.out.2.2.2.trans hbn).setCellI hlow _⟩
      clear hr hbn hI8 hG8 ex HK
      have HK := HK'
      clear HK'
      generalize fldI L 17 = y8 at *
      go_wp2_with fail
      generalize w8.setCell ⟨I, 17, none⟩ (.int .i64 y8) = v8 at *
      by_cases hk9 : 72 + 376 ≤ s.size
      case neg =>
        refine (bytes_short b s 72 376 hk9 (by decide) (by omega) (by decide) _ HK.out.1).mono ?_
        rintro e w' ⟨rfl, hbs⟩
        exact ⟨rfl, HP.out _ (by omega) (HK.out.2.2.2.trans (Only.of_below hbs))⟩
      refine (bytes_any b s 72 376 hk9 (by omega) _ HK.out.1).mono ?_
      rintro e w9 ⟨rfl, hr9, hbn⟩
      have hI9 := (hbn.2 I (lt_of_block HK.out.2.1) hbi).trans HK.out.2.1
      have hG9 := (hbn.2 w.heap.size (lt_of_block HK.out.2.2.1) hwb).trans HK.out.2.2.1
      have hO9 := HK.out.2.2.2.trans hbn
      have c0 : w9.cell? ⟨I, 0, none⟩ = some (.int .i64 (fldI L 0)) := by rw [rowI_cell hI9 (by decide), if_pos (by decide)]
      have hx0 := HLL.out.2.2.2
      have hfits := HLL.out.2.1
      have hA18 := HLL.out.1
      rw [← hA18] at hI9
      have HG : Hid (w9.heap[I]? = some (.cells A18 24 (0, 0)) ∧ w9.heap[w.heap.size]? = some (.cells z18 24 (0, 0)) ∧ Only b w w9) := ⟨hI9, hG9, hO9⟩
      have hA18s : A18.size = 18 := by rw [hA18]; exact cellsI_size _ _
      have hA18o : A18.all (·.oneCell') = true := by rw [hA18]; exact cellsI_one _ _
      generalize fldI L 0 = x at *
      clear hr9 hbn hI9 hG9 hO9 HK hA18 HLL HF0 HLS
      go_wp2_with fail
      refine (kind_any x hx0 _).mono ?_
      rintro e w10 ⟨rfl, rfl⟩
      have h448 : ¬ s.size < 448 := by omega
      by_cases h3 : x ≤ 3
      case neg =>
        rw [decide_eq_false h3] at hfits ⊢
        rw [Bool.false_and] at hfits
        go_wp2_with fail
        refine (must_no b _).mono ?_
        rintro e w' ⟨rfl, rfl⟩
        exact ⟨rfl, by rw [if_neg h448, hfits]; rfl, HG.out.2.2⟩
      rw [decide_eq_true h3] at hfits ⊢
      rw [Bool.true_and] at hfits
      go_wp2_with fail
      refine (must_yes b _).mono ?_
      rintro e w11 ⟨rfl, rfl⟩
      go_wp2_with fail
      refine (isZero_any (s.extract 72 448) (by unfold maxLen; simp; omega) _).mono ?_
      rintro e w12 ⟨rfl, hbz⟩
      have hO12 := HG.out.2.2.trans (Only.of_below hbz)
      have g0 := (hbz.block w.heap.size (lt_of_block HG.out.2.1)).trans HG.out.2.1
      have g1 := (hbz.block I (lt_of_block HG.out.1)).trans HG.out.1
      clear hbz HG
      rw [← hfits]
      by_cases hz : fits = true
      case neg =>
        rw [Bool.eq_false_iff.2 hz]
        go_wp2_with fail
        refine (must_no b _).mono ?_
        rintro e w' ⟨rfl, rfl⟩
        exact ⟨rfl, by rw [if_neg h448, if_neg hz], hO12⟩
      subst hz
      clear hfits
      go_wp2_with fail
      refine (must_yes b _).mono ?_
      rintro e w' ⟨rfl, rfl⟩
      have hinfo : (Tryd.prog.info? 24).map (·.size) = some A18.size := by rw [hA18s]; kernel_rfl
      have hzs := HSZ.out
      go_wp2_with (first | refine wpList_load_row rfl 24 _ rfl I rfl 24 _ (0, 0) _ g1 Tryd.underlying24 rfl hinfo ?_ | refine wpList_store_row rfl 24 _ _ rfl w.heap.size A18 rfl rfl 24 _ g0 hinfo (by rw [hzs, hA18s]) hA18o ?_)
      refine bodyPost_ret (v := .agg A18) (results_cell_row Tryd.results16 _ _ w.heap.size 24 _ (0, 0) _ rfl (setRow_heap _ _ _ _ _ _ g0) Tryd.underlying24 rfl hinfo) rfl ⟨?_, hO12.setRowI (Nat.le_refl _) _⟩
      first | rfl | (rw [if_neg h448]; rfl)
end Go.Proofs.YtbgilbnpamegnaaDoor
