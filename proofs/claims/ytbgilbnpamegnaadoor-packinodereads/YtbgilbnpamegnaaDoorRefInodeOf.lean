/- The document's InodeOf, called with any text, tells the inode inodeOC and the error inodeOE, and changes nothing that was there. -/
import Derived.Test.YtbgilbnpamegnaaDoorInodeOf
import Derived.Test.YtbgilbnpamegnaaDoorRefRead
import Derived.Test.YtbgilbnpamegnaaDoorNoughts
import Derived.BigQuiet
import Derived.BigRegion
import Derived.Deep.WholeRow
namespace Go.Proofs.YtbgilbnpamegnaaDoor
open Go.RowKit Go.Lib

/-- The widths of an inode's numbers, when so many of the last were laid. -/
def wid (j : Nat) : List Int := [2, 4, 6, 4] ++ List.replicate j 4
theorem wid_succ (j : Nat) : wid (j + 1) = wid j ++ [4] := by unfold wid; rw [List.replicate_succ', List.append_assoc]
theorem wid_length (j : Nat) : (wid j).length = 4 + j := by simp [wid]; omega

set_option maxRecDepth 10000 in
set_option maxHeartbeats 400000 in
theorem inodeWidths_any (w : World) :
    Calls Tryd.prog 19 #[] w fun e w' => ∃ g cap, e = .returned (.slice (some ⟨g, 0, none⟩) 18 cap) ∧ w'.ownsRow w.heap.size 3 1 (.slice (some ⟨g, 0, none⟩) 18 cap) 18 ((wid 14).map (Value.int .i64)) ∧ Below w.heap.size w w' := by
  obtain ⟨i0, hi, hz0, hz1, hz2⟩ := info_parts infoInt
  have hst := World.ownsRow_lit (base := w.heap.size) (e := 3) (size := 1) w #[.int .i64 2, .int .i64 4, .int .i64 6, .int .i64 4] 4 (Nat.le_refl _) (by decide) rfl
  go_enter Tryd.func19, Tryd.ntmps19
  go_wp2
  go_loopw [1, 2] (fun v i wr => ∃ j : Nat, j ≤ 14 ∧ i = .int .i64 j ∧ wr.ownsRow w.heap.size 3 1 v (4 + j) ((wid j).map (Value.int .i64)) ∧ Below w.heap.size w wr) (fun _ i _ => 14 - (intOf i).toNat)
  case atStart => exact ⟨0, Nat.zero_le _, rfl, hst, (Below.refl _ _).alloc (Nat.le_refl _) _⟩
  case round =>
    obtain ⟨j, hj, rfl, hown, hb⟩ := hrel
    clear hst
    by_cases hlt : j < 14
    · go_wp2_with (at_builtin; refine wpList_append_own _ rfl _ _ 50 rfl w.heap.size 3 i0 (.int .i64 0) 1 8 Tryd.underlying50 hi hz0 hz1 hz2 rfl (by decide) _ _ _ rfl (hown.alloc _) ⟨wr.heap.size, 0, none⟩ 1 1 [.int .i64 4] rfl rfl ?c1 ?c2 ?c3 ?c4 ?c5 ?_)
      case c1 => intro i u hi; match i, hi with | 0, hi => simp at hi; subst hi; simp [Addr.add]
      case c2 => intro u hu; simp at hu; subst hu; rfl
      case c3 => unfold maxLen; omega
      case c4 => omega
      case c5 => have := hb.size; simp; omega
      intro v' w2 hown' hgrow _
      have hb2 : Below w.heap.size w w2 := (hb.alloc hb.size _).grown hgrow (by have := hb.size; simp; omega) (fun g hg => by
        rcases hown.2 with ⟨rfl, _⟩ | ⟨g', cap, cur, rfl, hg', _⟩
        · simp [Value.ownBlock] at hg
        · simp [Value.ownBlock] at hg; omega)
      clear hown hgrow hb
      go_wp2
      go_roundw
      case rel => exact ⟨j + 1, by omega, by go_num, by rw [wid_succ, List.map_append]; exact hown', hb2⟩
      case measure => simp [intOf]; omega
    · obtain rfl : j = 14 := by omega
      have hex : ∃ g cap, u1 = .slice (some ⟨g, 0, none⟩) 18 cap := by
        rcases hown.2 with ⟨_, h⟩ | ⟨g, cap, cur, h, _⟩
        · omega
        · exact ⟨g, cap, h⟩
      obtain ⟨g, cap, hv⟩ := hex
      rw [hv] at hown ⊢
      clear hv
      go_wp2
      go_ret
      exact ⟨g, cap, rfl, hown, hb⟩


/-- The widths as numbers of bytes. -/
def widN : List Nat := [2, 4, 6, 4] ++ List.replicate 14 4
theorem widN_fit : ∀ i (h : i < widN.length), 1 ≤ widN[i] ∧ widN[i] ≤ 6 := by decide
theorem widN_cells : ∀ i (h : i < widN.length), ((wid 14).map (Value.int .i64))[i]? = some (.int .i64 (widN[i] : Nat)) := by
  intro i h
  have e : wid 14 = widN.map fun (n : Nat) => (n : Int) := rfl
  rw [e, List.map_map, List.getElem?_map, List.getElem?_eq_getElem h]
  rfl
theorem readL_fld (s : ByteArray) : (readL s 0 widN).map (Value.int .i64) = (List.range 18).map fun k => Value.int .i64 (fldI s.data.toList k) := rfl
theorem readL_at (s : ByteArray) (k : Nat) (h : k < 18) : ((readL s 0 widN).map (Value.int .i64))[k]? = some (.int .i64 (fldI s.data.toList k)) := by
  rw [readL_fld, List.getElem?_map, List.getElem?_range h]
  rfl
/-- An inode's cells while its blocks are copied. -/
def cellsM (L : List UInt8) (j : Nat) : Array Value := ((List.range 18).map fun k => Value.int .i64 (if k < 4 + j ∨ 16 ≤ k then fldI L k else 0)).toArray
theorem cellsM_size (L : List UInt8) (m : Nat) : (cellsM L m).size = 18 := by simp [cellsM]
theorem cellsM_at (L : List UInt8) (m k : Nat) (h : k < 18) : (cellsM L m)[k]? = some (.int .i64 (if k < 4 + m ∨ 16 ≤ k then fldI L k else 0)) := by
  rw [cellsM, List.getElem?_toArray, List.getElem?_map, List.getElem?_range h]
  rfl
theorem cellsM_one (L : List UInt8) (m : Nat) : (cellsM L m).all (·.oneCell') = true := by simp [cellsM, Value.oneCell']
theorem cellsM_set (L : List UInt8) (j : Nat) (h : j < 12) : (cellsM L j).setIfInBounds (4 + j) (.int .i64 (fldI L (4 + j))) = cellsM L (j + 1) := by
  apply Array.ext_getElem?
  intro k
  rw [Array.getElem?_setIfInBounds, cellsM_size]
  by_cases hk : k < 18
  · rw [cellsM_at L j k hk, cellsM_at L (j + 1) k hk]
    by_cases e : 4 + j = k
    · subst e
      rw [if_pos rfl, if_pos hk, if_pos (by omega)]
    · rw [if_neg e]
      by_cases hl : k < 4 + j ∨ 16 ≤ k
      · rw [if_pos hl, if_pos (by omega)]
      · rw [if_neg hl, if_neg (by omega)]
  · have e : 4 + j ≠ k := by omega
    rw [if_neg e, Array.getElem?_eq_none (by rw [cellsM_size]; omega), Array.getElem?_eq_none (by rw [cellsM_size]; omega)]
theorem cellsM_all (L : List UInt8) : cellsM L 12 = cellsI L 18 := by
  apply Array.ext_getElem?
  intro k
  by_cases hk : k < 18
  · rw [cellsM_at L 12 k hk, cellsI_at L 18 k hk, if_pos (by omega), if_pos hk]
  · rw [Array.getElem?_eq_none (by rw [cellsM_size]; omega), Array.getElem?_eq_none (by rw [cellsI_size]; omega)]
theorem cellsM_six (L : List UInt8) : #[Value.int .i64 (fldI L 0), .int .i64 (fldI L 1), .int .i64 (fldI L 2), .int .i64 (fldI L 3), .int .i64 0, .int .i64 0, .int .i64 0, .int .i64 0, .int .i64 0, .int .i64 0, .int .i64 0, .int .i64 0, .int .i64 0, .int .i64 0, .int .i64 0, .int .i64 0, .int .i64 (fldI L 16), .int .i64 (fldI L 17)] = cellsM L 0 := rfl
theorem rowM_set {w : World} {g j : Nat} {t : TypeId} {L : List UInt8} (h : w.heap[g]? = some (.cells (cellsM L j) t (0, 0))) (hj : j < 12) : (w.setCell ⟨g, 4 + j, none⟩ (.int .i64 (fldI L (4 + j)))).heap[g]? = some (.cells (cellsM L (j + 1)) t (0, 0)) := by
  have e := heap_setCell_same w g (4 + j) _ t (.int .i64 (fldI L (4 + j))) h
  rw [← cellsM_set L j hj]
  exact e
theorem noughts_allI (t : ByteArray) (n : Nat) (h : t.size = n) : (t.toList == (noughtsS n).toList) = allZ t := by
  have hl : t.data.toList.length = n := by simpa using h
  rw [Bool.eq_iff_iff]
  simp only [beq_iff_eq, ByteArray.toList_eq, allZ, List.all_eq_true]
  have hn : (noughtsS n).data.toList = List.replicate n 0 := by simp [noughtsS, strOfNums]
  rw [hn, List.eq_replicate_iff]
  constructor
  · rintro ⟨_, h⟩ x hx
    simpa using h x hx
  · intro h
    exact ⟨hl, fun x hx => by simpa using h x hx⟩

theorem below_drewNI {B : Nat} {w0 w : World} (h : Below B w0 w) (n : Nat) : Below B w0 (w.drewN n) := h.trans ⟨rfl, rfl, rfl, Nat.le_refl _, fun _ _ => rfl⟩
theorem load_inode (w : World) (g : Nat) (cs : Array Value) (hg : w.heap[g]? = some (.cells cs 24 (0, 0))) (hs : cs.size = 18) :
    (loadVar 24 ⟨g, 0, none⟩).run Tryd.prog w = .ok (.agg cs) w :=
  run_loadVar_row (P := Tryd.prog) w g 24 24 cs (0, 0) _ hg Tryd.underlying24 rfl (by rw [hs]; kernel_rfl)
theorem inode_ret (tmps : Array Value) (w w' : World) (y : Int) (cs old : Array Value) (h1 : tmps.getD 2 undef = .pointer (some ⟨w.heap.size, 0, none⟩)) (h2 : tmps.getD 3 undef = .int .i64 y) (hg : w'.heap[w.heap.size]? = some (.cells old 24 (0, 0))) (hs : cs.size = 18) (hb : Below w.heap.size w w') :
    bodyPost Tryd.prog Tryd.f6 (fun e w'' => e = .returned (.tuple #[.agg cs, .int .i64 y]) ∧ Below w.heap.size w w'') .ret { tmps := tmps, defers := [] } (w'.setRow w.heap.size cs) := by
  have hr := load_inode (w'.setRow w.heap.size cs) w.heap.size cs (setRow_heap _ _ _ _ _ _ hg) hs
  simp at h1 h2
  exact bodyPost_ret (v := .tuple #[.agg cs, .int .i64 y]) (by simp [results, Tryd.results6, asAddr, hr, h1, h2]) rfl ⟨rfl, hb.trans ⟨rfl, rfl, rfl, by simp [World.setRow], fun k hk => setRow_other _ _ _ _ (by omega)⟩⟩

set_option maxHeartbeats 1000000 in
theorem rinodeOf_size (s : ByteArray) (y : Int) (hne : (y != 0) = true) (hz : ∀ w, Calls Tryd.prog 17 #[.string s, .int .i64 448] w fun e w' => e = .returned (.int .i64 y) ∧ w' = w) (w : World) :
    Calls Tryd.prog 6 #[.string s] w fun e w' => e = .returned (.tuple #[.agg #[.int .i64 0, .int .i64 0, .int .i64 0, .int .i64 0, .int .i64 0, .int .i64 0, .int .i64 0, .int .i64 0, .int .i64 0, .int .i64 0, .int .i64 0, .int .i64 0, .int .i64 0, .int .i64 0, .int .i64 0, .int .i64 0, .int .i64 0, .int .i64 0], .int .i64 y]) ∧ Below w.heap.size w w' := by
  have g0 := heap_alloc_new w (.cells #[.int .i64 0, .int .i64 0, .int .i64 0, .int .i64 0, .int .i64 0, .int .i64 0, .int .i64 0, .int .i64 0, .int .i64 0, .int .i64 0, .int .i64 0, .int .i64 0, .int .i64 0, .int .i64 0, .int .i64 0, .int .i64 0, .int .i64 0, .int .i64 0] 24)
  go_enter Tryd.func6, Tryd.ntmps6
  go_wp2_with fail
  refine (hz _).mono ?_
  rintro e w' ⟨rfl, rfl⟩
  go_wp2_with (refine wpList_store_row rfl 24 _ _ rfl w.heap.size #[.int .i64 0, .int .i64 0, .int .i64 0, .int .i64 0, .int .i64 0, .int .i64 0, .int .i64 0, .int .i64 0, .int .i64 0, .int .i64 0, .int .i64 0, .int .i64 0, .int .i64 0, .int .i64 0, .int .i64 0, .int .i64 0, .int .i64 0, .int .i64 0] rfl rfl 24 _ g0 (by kernel_rfl) rfl (by simp [Value.oneCell']) ?_)
  exact inode_ret _ w _ y _ _ rfl rfl g0 rfl (below_newI w _)

set_option maxRecDepth 10000 in
set_option maxHeartbeats 2000000 in
theorem rinodeOf_full (s : ByteArray) (h : s.size = 448) (w : World) :
    Calls Tryd.prog 6 #[.string s] w fun e w' => e = .returned (.tuple #[.agg (inodeOC s), .int .i64 (inodeOE s)]) ∧ Below w.heap.size w w' := by
  have hq := noughts_allI (s.extract 72 448) 376 (by simp [h])
  have HE : Hid ((inoFits s = true → inodeOE s = 0 ∧ inodeOC s = cellsM s.data.toList 12) ∧ (inoFits s = false → inodeOE s = 5 ∧ inodeOC s = #[.int .i64 0, .int .i64 0, .int .i64 0, .int .i64 0, .int .i64 0, .int .i64 0, .int .i64 0, .int .i64 0, .int .i64 0, .int .i64 0, .int .i64 0, .int .i64 0, .int .i64 0, .int .i64 0, .int .i64 0, .int .i64 0, .int .i64 0, .int .i64 0]) ∧ inoFits s = (decide (fldI s.data.toList 0 ≤ 3) && ((s.extract 72 448).toList == (noughtsS 376).toList))) := by
    have e0 : inodeOE s = if inoFits s = true then 0 else 5 := by rw [inodeOE, if_neg (by omega), if_neg (by omega)]
    refine ⟨fun hf => ?_, fun hf => ?_, by rw [hq]; rfl⟩
    · have e1 : inodeOE s = 0 := by rw [e0, if_pos hf]
      exact ⟨e1, by rw [inodeOC_yes e1, cellsM_all]; rfl⟩
    · have e1 : inodeOE s = 5 := by rw [e0, if_neg (by rw [hf]; decide)]
      exact ⟨e1, inodeOC_no (by rw [e1]; decide)⟩
  clear hq
  have hoc := inodeOC_size s
  have hoo := inodeOC_one s
  generalize inodeOE s = OE at *
  generalize inodeOC s = OC at *
  generalize inoFits s = fits at *
  obtain ⟨z18, hz18⟩ : ∃ z18 : Array Value, z18 = #[.int .i64 0, .int .i64 0, .int .i64 0, .int .i64 0, .int .i64 0, .int .i64 0, .int .i64 0, .int .i64 0, .int .i64 0, .int .i64 0, .int .i64 0, .int .i64 0, .int .i64 0, .int .i64 0, .int .i64 0, .int .i64 0, .int .i64 0, .int .i64 0] := ⟨_, rfl⟩
  have HZ : Hid (z18.size = 18 ∧ z18.all (·.oneCell') = true) := ⟨by rw [hz18]; rfl, by rw [hz18]; simp [Value.oneCell']⟩
  rw [← hz18] at HE
  have g0 : (w.alloc (.cells z18 24)).heap[w.heap.size]? = some (.cells z18 24 (0, 0)) := heap_alloc_new w (.cells z18 24)
  have hb0 := below_newI w (.cells z18 24)
  go_enter Tryd.func6, Tryd.ntmps6
  go_wp2_with fail
  refine (sized_any s 448 _).mono ?_
  rintro e w' ⟨rfl, rfl⟩
  rw [if_neg (by omega), if_neg (by omega)]
  rw [← hz18]
  generalize w.alloc (.cells z18 24) = w0 at *
  go_wp2_with fail
  refine (inodeWidths_any _).mono ?_
  rintro e w1 ⟨gw, cw, rfl, hown, hb1⟩
  have g1 := (hb1.block w.heap.size (lt_of_block g0)).trans g0
  have hbw := hb0.trans (hb1.mono hb0.size)
  have hgw : gw < w1.heap.size := by
    rcases hown.2 with ⟨h', _⟩ | ⟨g', cap', cur, h', hb', hblk, _⟩
    · simp at h'
    · simp only [Value.slice.injEq, Option.some.injEq, Addr.mk.injEq, and_true, true_and] at h'
      have := lt_of_block hblk
      omega
  have HC : Hid (∀ i (h : i < widN.length), w1.cell? ⟨gw, i, none⟩ = some (.int .i64 (widN[i] : Nat))) := fun i hi => (hown.cellAt i (by have : widN.length = 18 := rfl; omega)).trans (widN_cells i hi)
  clear hown hb1 g0 hb0
  go_wp2_with fail
  refine (rread_any s (by omega) 0 widN widN_fit (by rw [h]; decide) 18 rfl (by decide) gw cw _ hgw HC.out).mono ?_
  rintro e w3 ⟨v, rfl, hown, hb3⟩
  have hex : ∃ g cap, v = .slice (some ⟨g, 0, none⟩) 18 cap := by
    rcases hown.2 with ⟨_, h⟩ | ⟨g, cap, cur, h, _⟩
    · omega
    · exact ⟨g, cap, h⟩
  obtain ⟨g, cap, rfl⟩ := hex
  have hlt1 := lt_of_block g1
  have hgne : g ≠ w.heap.size ∧ g < w3.heap.size := by
    rcases hown.2 with ⟨h', _⟩ | ⟨g', cap', cur, h', hb', hblk, _⟩
    · simp at h'
    · simp only [Value.slice.injEq, Option.some.injEq, Addr.mk.injEq, and_true, true_and] at h'
      have := h'.1
      have := lt_of_block hblk
      omega
  have HR : Hid (∀ k, k < 18 → w3.cell? ⟨g, k, none⟩ = some (.int .i64 (fldI s.data.toList k))) := fun k hk => (hown.cellAt k hk).trans (readL_at s k hk)
  have g3 := (hb3.block w.heap.size hlt1).trans g1
  have hb4 := hbw.trans (hb3.mono hbw.size)
  clear hown hb3 hbw g1 HC hgw hlt1
  obtain ⟨x0, hx0⟩ : ∃ x, x = fldI s.data.toList 0 := ⟨_, rfl⟩
  have c0 := HR.out 0 (by decide)
  rw [← hx0] at c0 HE
  have HX0 : Hid (x0 = fldI s.data.toList 0) := hx0
  have i1 : (72 : Int) ≤ s.size := by omega
  clear hx0
  by_cases h3 : x0 ≤ 3
  case neg =>
    have hd : decide (3 < x0) = true := decide_eq_true (by omega)
    have e1 := HE.out.2.1 (by rw [HE.out.2.2, decide_eq_false h3]; rfl)
    obtain ⟨rfl, rfl⟩ := e1
    subst hz18
    clear HE HR HX0 hoc hoo HZ
    go_wp2_with fail
    go_quiet (fail)
    go_wp2_with (refine wpList_store_row rfl 24 _ _ rfl w.heap.size #[.int .i64 0, .int .i64 0, .int .i64 0, .int .i64 0, .int .i64 0, .int .i64 0, .int .i64 0, .int .i64 0, .int .i64 0, .int .i64 0, .int .i64 0, .int .i64 0, .int .i64 0, .int .i64 0, .int .i64 0, .int .i64 0, .int .i64 0, .int .i64 0] rfl rfl 24 _ g3 (by kernel_rfl) rfl (by simp [Value.oneCell']) ?_)
    refine inode_ret _ w _ 5 _ _ rfl rfl g3 rfl ?_
    exact below_drewNI hb4 _
  have hd : decide (3 < x0) = false := decide_eq_false (by omega)
  have HF : Hid (fits = ((s.extract 72 448).toList == (noughtsS 376).toList)) := by
    have := HE.out.2.2
    rw [decide_eq_true h3, Bool.true_and] at this
    exact this
  go_wp2_with fail
  go_region_held3 (fun w' => w'.cell? ⟨g, 0, none⟩ = some (.int .i64 x0)) (simp [go_sem, *]) (first | (go_at_call 20; refine (noughts_any 376 (by decide) _).mono ?_; rintro e w4 ⟨rfl, hb5⟩; have hk : w4.cell? ⟨g, 0, none⟩ = some (.int .i64 x0) := (hb5.cell (p := ⟨g, 0, none⟩) hgne.2).trans c0))
  have g4 : w4.heap[w.heap.size]? = some (.cells z18 24 (0, 0)) := (hb5.block w.heap.size (lt_of_block g3)).trans g3
  have hbw : Below w.heap.size w w4 := hb4.drew.trans (hb5.mono hb4.size)
  have HR4 : Hid (∀ k, k < 18 → w4.cell? ⟨g, k, none⟩ = some (.int .i64 (fldI s.data.toList k))) := fun k hk => (hb5.cell (p := ⟨g, k, none⟩) hgne.2).trans (HR.out k hk)
  have hg4 : g < w4.heap.size := block_lt_of_cell hk
  have hgw := hgne.1
  clear g3 hb4 HR hb5 hk c0 hgne
  rw [← HF.out]
  by_cases hf : fits = true
  case neg =>
    have hf' := Bool.eq_false_iff.2 hf
    obtain ⟨rfl, rfl⟩ := HE.out.2.1 hf'
    rw [hf']
    subst hz18
    clear HE HF HR4 HX0 hoc hoo HZ
    go_wp2_with (refine wpList_store_row rfl 24 _ _ rfl w.heap.size #[.int .i64 0, .int .i64 0, .int .i64 0, .int .i64 0, .int .i64 0, .int .i64 0, .int .i64 0, .int .i64 0, .int .i64 0, .int .i64 0, .int .i64 0, .int .i64 0, .int .i64 0, .int .i64 0, .int .i64 0, .int .i64 0, .int .i64 0, .int .i64 0] rfl rfl 24 _ g4 (by kernel_rfl) rfl (by simp [Value.oneCell']) ?_)
    exact inode_ret _ w _ 5 _ _ rfl rfl g4 rfl hbw
  obtain ⟨rfl, hOC⟩ := HE.out.1 hf
  have HOC : Hid (OC = cellsM s.data.toList 12) := hOC
  rw [hf]
  clear hOC hf HE HF hd h3 i1
  obtain ⟨L, hL⟩ : ∃ L, L = s.data.toList := ⟨_, rfl⟩
  rw [← hL] at HOC HR4 HX0
  clear hL
  have hl6 := cellsM_six L
  have c0 := HR4.out 0 (by decide)
  have c1 := HR4.out 1 (by decide)
  have c2 := HR4.out 2 (by decide)
  have c3 := HR4.out 3 (by decide)
  have c4 := HR4.out 16 (by decide)
  have c5 := HR4.out 17 (by decide)
  rw [← HX0.out] at c0 hl6
  clear HX0
  generalize fldI L 1 = x1 at c1 hl6
  generalize fldI L 2 = x2 at c2 hl6
  generalize fldI L 3 = x3 at c3 hl6
  generalize fldI L 16 = x4 at c4 hl6
  generalize fldI L 17 = x5 at c5 hl6
  obtain ⟨C, hC⟩ : ∃ C, cellsM L 0 = C := ⟨_, rfl⟩
  rw [hC] at hl6
  have hsz : C.size = 18 := by rw [← hC]; exact cellsM_size _ _
  have hone : C.all (·.oneCell') = true := by rw [← hC]; exact cellsM_one _ _
  have hinfo : (Tryd.prog.info? 24).map (·.size) = some C.size := by rw [hsz]; kernel_rfl
  have HC : Hid (C = cellsM L 0) := hC.symm
  clear hC
  have hsn : (storeCells ⟨w4.heap.size, 0, none⟩ C.toList 0).run Tryd.prog (w4.alloc (.cells #[.int .i64 0, .int .i64 0, .int .i64 0, .int .i64 0, .int .i64 0, .int .i64 0, .int .i64 0, .int .i64 0, .int .i64 0, .int .i64 0, .int .i64 0, .int .i64 0, .int .i64 0, .int .i64 0, .int .i64 0, .int .i64 0, .int .i64 0, .int .i64 0] 24)).drew = .ok () (w4.alloc (.cells C 24)).drew := run_storeCells_new (P := Tryd.prog) w4.drew 24 #[.int .i64 0, .int .i64 0, .int .i64 0, .int .i64 0, .int .i64 0, .int .i64 0, .int .i64 0, .int .i64 0, .int .i64 0, .int .i64 0, .int .i64 0, .int .i64 0, .int .i64 0, .int .i64 0, .int .i64 0, .int .i64 0, .int .i64 0, .int .i64 0] C hinfo (by rw [hsz]; rfl) hone
  have hnew : w4.heap.size ≠ g := by omega
  have hnew' : g ≠ w4.heap.size := by omega
  go_wp2_with fail
  go_region_held3 (fun w' => w'.cell? ⟨g, 0, none⟩ = some (.int .i64 x0) ∧ w'.cell? ⟨g, 1, none⟩ = some (.int .i64 x1) ∧ w'.cell? ⟨g, 2, none⟩ = some (.int .i64 x2) ∧ w'.cell? ⟨g, 3, none⟩ = some (.int .i64 x3) ∧ w'.cell? ⟨g, 16, none⟩ = some (.int .i64 x4) ∧ w'.cell? ⟨g, 17, none⟩ = some (.int .i64 x5)) (simp [go_sem, *]) (fail)
  rename_i hHeld
  have HA : Hid ((w4.alloc (.cells C 24)).drew.heap[w4.heap.size]? = some (.cells (cellsM L 0) 24 (0, 0)) ∧ (w4.alloc (.cells C 24)).drew.heap[w.heap.size]? = some (.cells z18 24 (0, 0)) ∧ (∀ k, k < 18 → (w4.alloc (.cells C 24)).drew.cell? ⟨g, k, none⟩ = some (.int .i64 (fldI L k))) ∧ Below w.heap.size w (w4.alloc (.cells C 24)).drew) :=
    ⟨by rw [heap_drew, ← HC.out]; exact heap_alloc_new w4 _, by rw [heap_drew, Below.heap_alloc _ _ _ (lt_of_block g4)]; exact g4, fun k hk => ((below_newI w4 (.cells C 24)).cell (p := ⟨g, k, none⟩) hg4).trans (HR4.out k hk), (hbw.alloc hbw.size _).drew⟩
  have hwi : w.heap.size ≠ w4.heap.size := by have := lt_of_block g4; omega
  have hlow : w.heap.size ≤ w4.heap.size := hbw.size
  have HZS := HZ.out.1
  clear hl6 hsz hone hinfo HC hsn c0 c1 c2 c3 c4 c5 HR4 g4 hbw hg4 hz18 HZ
  clear hHeld
  generalize (w4.alloc (.cells C 24)).drew = w5 at *
  generalize w4.heap.size = I at *
  go_wp2_with fail
  go_loopw [7] (fun v wq => ∃ j : Nat, j ≤ 12 ∧ v = .int .i64 j ∧ wq.heap[I]? = some (.cells (cellsM L j) 24 (0, 0)) ∧ wq.heap[w.heap.size]? = some (.cells z18 24 (0, 0)) ∧ (∀ k, k < 18 → wq.cell? ⟨g, k, none⟩ = some (.int .i64 (fldI L k))) ∧ Below w.heap.size w wq) (fun v _ => 12 - (intOf v).toNat)
  case atStart => exact ⟨0, Nat.zero_le _, rfl, HA.out⟩
  case round =>
    clear HA
    obtain ⟨j, hj, rfl, hI, hG, hR, hO⟩ := hrel
    by_cases hlt : j < 12
    · have j12 : (j : Int) < 12 := by omega
      have cg := hR (4 + j) (by omega)
      have ci : wr.cell? ⟨I, 4 + j, none⟩ = some (.int .i64 (if 4 + j < 4 + j ∨ 16 ≤ 4 + j then fldI L (4 + j) else 0)) := by rw [cell_of_row _ _ _ _ _ _ hI]; exact cellsM_at L j (4 + j) (by omega)
      rw [if_neg (by omega)] at ci
      have fi : wr.frozen? ⟨I, 4 + j, none⟩ = false := frozen_of_row _ _ _ _ _ hI
      have HF : Hid ((wr.setCell ⟨I, 4 + j, none⟩ (.int .i64 (fldI L (4 + j)))).heap[I]? = some (.cells (cellsM L (j + 1)) 24 (0, 0)) ∧ (wr.setCell ⟨I, 4 + j, none⟩ (.int .i64 (fldI L (4 + j)))).heap[w.heap.size]? = some (.cells z18 24 (0, 0)) ∧ (∀ k, k < 18 → (wr.setCell ⟨I, 4 + j, none⟩ (.int .i64 (fldI L (4 + j)))).cell? ⟨g, k, none⟩ = some (.int .i64 (fldI L k))) ∧ Below w.heap.size w (wr.setCell ⟨I, 4 + j, none⟩ (.int .i64 (fldI L (4 + j))))) :=
        ⟨rowM_set hI hlt, (Below.heap_setCell wr ⟨I, 4 + j, none⟩ _ w.heap.size hwi).trans hG, fun k hk => by
          have e := Below.heap_setCell wr ⟨I, 4 + j, none⟩ (.int .i64 (fldI L (4 + j))) g hnew'
          have e2 := hR k hk
          simp only [World.cell?] at e2 ⊢
          rw [e]
          exact e2, hO.setCell (p := ⟨I, 4 + j, none⟩) hlow _⟩
      clear hI hG hR hO
      generalize fldI L (4 + j) = x at *
      go_wp2
      go_roundw
      case rel => exact ⟨j + 1, by omega, by go_num, HF.out⟩
      case measure => simp [intOf]; omega
    · obtain rfl : j = 12 := by omega
      rw [← HOC.out] at hI
      have hinfo : (Tryd.prog.info? 24).map (·.size) = some OC.size := by rw [hoc]; kernel_rfl
      clear hR
      go_wp2_with (first | refine wpList_load_row rfl 24 _ rfl I rfl 24 _ (0, 0) _ hI Tryd.underlying24 rfl hinfo ?_ | refine wpList_store_row rfl 24 _ _ rfl w.heap.size OC rfl rfl 24 _ hG hinfo (by rw [HZS, hoc]) hoo ?_)
      exact inode_ret _ w _ 0 _ _ rfl rfl hG hoc hO

theorem rinodeOf_any (s : ByteArray) (w : World) :
    Calls Tryd.prog 6 #[.string s] w fun e w' => e = .returned (.tuple #[.agg (inodeOC s), .int .i64 (inodeOE s)]) ∧ Below w.heap.size w w' := by
  by_cases h1 : 448 < s.size
  · have he : inodeOE s = 4 := by rw [inodeOE, if_pos h1]
    rw [inodeOC_no (by rw [he]; decide), he]
    exact rinodeOf_size s 4 rfl (fun w => by have := sized_any s 448 w; rw [if_pos h1] at this; exact this) w
  by_cases h2 : s.size < 448
  · have he : inodeOE s = 3 := by rw [inodeOE, if_neg h1, if_pos h2]
    rw [inodeOC_no (by rw [he]; decide), he]
    exact rinodeOf_size s 3 rfl (fun w => by have := sized_any s 448 w; rw [if_neg h1, if_pos h2] at this; exact this) w
  exact rinodeOf_full s (by omega) w
end Go.Proofs.YtbgilbnpamegnaaDoor
