/- The document's HeadOf, called with any text, tells the head headC and the error headE, and changes nothing that was there. -/
import Derived.Test.YtcefoeaakdemmaaGreatDoorHeadOf
import Derived.Test.YtcefoeaakdemmaaGreatDoorMg37
import Derived.Test.YtcefoeaakdemmaaGreatDoorMg28
namespace Go.Proofs.YtcefoeaakdemmaaGreatDoor
set_option maxRecDepth 20000
open Go.RowKit Go.Lib

theorem head_ret (tmps : Array Value) (w w' : World) (y : Int) (cs old : Array Value) (h1 : tmps.getD 2 undef = .pointer (some ⟨w.heap.size, 0, none⟩)) (h2 : tmps.getD 3 undef = .int .i64 y) (hg : w'.heap[w.heap.size]? = some (.cells old 23 (0, 0))) (hs : cs.size = 8) (hb : Below w.heap.size w w') :
    bodyPost Tryz.prog Tryz.f25 (fun e w'' => e = .returned (.tuple #[.agg cs, .int .i64 y]) ∧ Below w.heap.size w w'') .ret { tmps := tmps, defers := [] } (w'.setRow w.heap.size cs) := by
  have hr := load_head (w'.setRow w.heap.size cs) w.heap.size cs (setRow_heap _ _ _ _ _ _ hg) hs
  simp at h1 h2
  exact bodyPost_ret (v := .tuple #[.agg cs, .int .i64 y]) (by simp [results, Tryz.results25, asAddr, hr, h1, h2]) rfl ⟨rfl, hb.trans ⟨rfl, rfl, rfl, by simp [World.setRow], fun k hk => setRow_other _ _ _ _ (by omega)⟩⟩

/-- The widths of a head's numbers. -/
def headWs : List Nat := [6, 4, 2, 4, 4, 4, 6, 6]
theorem headWs_fit : ∀ i (h : i < headWs.length), 1 ≤ headWs[i] ∧ headWs[i] ≤ 6 := by decide
theorem headWs_cells : ∀ i (h : i < headWs.length), (#[.int .i64 6, .int .i64 4, .int .i64 2, .int .i64 4, .int .i64 4, .int .i64 4, .int .i64 6, .int .i64 6] : Array Value)[i]? = some (.int .i64 (headWs[i] : Nat)) := by
  intro i h
  have h8 : i < 8 := h
  have : i = 0 ∨ i = 1 ∨ i = 2 ∨ i = 3 ∨ i = 4 ∨ i = 5 ∨ i = 6 ∨ i = 7 := by omega
  rcases this with rfl | rfl | rfl | rfl | rfl | rfl | rfl | rfl <;> rfl

set_option maxHeartbeats 1000000 in
theorem rheadOf_size (s : ByteArray) (y : Int) (hne : (y != 0) = true) (hz : ∀ w, Calls Tryz.prog 46 #[.string s, .int .i64 48] w fun e w' => e = .returned (.int .i64 y) ∧ w' = w) (w : World) :
    Calls Tryz.prog 25 #[.string s] w fun e w' => e = .returned (.tuple #[.agg #[.int .i64 0, .int .i64 0, .int .i64 0, .int .i64 0, .int .i64 0, .int .i64 0, .int .i64 0, .int .i64 0], .int .i64 y]) ∧ Below w.heap.size w w' := by
  have g0 := heap_alloc_new w (.cells #[.int .i64 0, .int .i64 0, .int .i64 0, .int .i64 0, .int .i64 0, .int .i64 0, .int .i64 0, .int .i64 0] 23)
  go_enter Tryz.func25, Tryz.ntmps25
  go_wp2_with fail
  refine (hz _).mono ?_
  rintro e w' ⟨rfl, rfl⟩
  go_wp2_with (refine wpList_store_row rfl 23 _ _ rfl w.heap.size #[.int .i64 0, .int .i64 0, .int .i64 0, .int .i64 0, .int .i64 0, .int .i64 0, .int .i64 0, .int .i64 0] rfl rfl 23 _ g0 (by kernel_rfl) rfl (by simp [Value.oneCell']) ?_)
  exact head_ret _ w _ y _ _ rfl rfl g0 rfl (below_new w _)

set_option maxHeartbeats 1000000 in
theorem rheadOf_mark (s : ByteArray) (h : s.size = 48) (hm : ((s.extract 0 4).toList == [71, 82, 80, 78]) = false) (w : World) :
    Calls Tryz.prog 25 #[.string s] w fun e w' => e = .returned (.tuple #[.agg #[.int .i64 0, .int .i64 0, .int .i64 0, .int .i64 0, .int .i64 0, .int .i64 0, .int .i64 0, .int .i64 0], .int .i64 5]) ∧ Below w.heap.size w w' := by
  have g0 := heap_alloc_new w (.cells #[.int .i64 0, .int .i64 0, .int .i64 0, .int .i64 0, .int .i64 0, .int .i64 0, .int .i64 0, .int .i64 0] 23)
  have hb0 := below_new w (.cells #[.int .i64 0, .int .i64 0, .int .i64 0, .int .i64 0, .int .i64 0, .int .i64 0, .int .i64 0, .int .i64 0] 23)
  go_enter Tryz.func25, Tryz.ntmps25
  go_wp2_with fail
  refine (sized_any s 48 _).mono ?_
  rintro e w' ⟨rfl, rfl⟩
  rw [if_neg (by omega), if_neg (by omega)]
  have i1 : (4 : Int) ≤ s.size := by omega
  generalize w.alloc (.cells #[.int .i64 0, .int .i64 0, .int .i64 0, .int .i64 0, .int .i64 0, .int .i64 0, .int .i64 0, .int .i64 0] 23) = w0 at *
  go_wp2_with fail
  go_quiet (fail)
  go_wp2_with (refine wpList_store_row rfl 23 _ _ rfl w.heap.size #[.int .i64 0, .int .i64 0, .int .i64 0, .int .i64 0, .int .i64 0, .int .i64 0, .int .i64 0, .int .i64 0] rfl rfl 23 _ g0 (by kernel_rfl) rfl (by simp [Value.oneCell']) ?_)
  exact head_ret _ w _ 5 _ _ rfl rfl g0 rfl (below_drewN hb0 _)

set_option maxHeartbeats 1000000 in
theorem rheadOf_rest (s : ByteArray) (h : s.size = 48) (hm : ((s.extract 0 4).toList == [71, 82, 80, 78]) = true) (hz : ((s.extract 40 48).toList == (noughtsS 8).toList) = false) (w : World) :
    Calls Tryz.prog 25 #[.string s] w fun e w' => e = .returned (.tuple #[.agg #[.int .i64 0, .int .i64 0, .int .i64 0, .int .i64 0, .int .i64 0, .int .i64 0, .int .i64 0, .int .i64 0], .int .i64 5]) ∧ Below w.heap.size w w' := by
  have g0 := heap_alloc_new w (.cells #[.int .i64 0, .int .i64 0, .int .i64 0, .int .i64 0, .int .i64 0, .int .i64 0, .int .i64 0, .int .i64 0] 23)
  have hb0 := below_new w (.cells #[.int .i64 0, .int .i64 0, .int .i64 0, .int .i64 0, .int .i64 0, .int .i64 0, .int .i64 0, .int .i64 0] 23)
  go_enter Tryz.func25, Tryz.ntmps25
  go_wp2_with fail
  refine (sized_any s 48 _).mono ?_
  rintro e w' ⟨rfl, rfl⟩
  rw [if_neg (by omega), if_neg (by omega)]
  have i1 : (4 : Int) ≤ s.size := by omega
  have i2 : (40 : Int) ≤ s.size := by omega
  generalize w.alloc (.cells #[.int .i64 0, .int .i64 0, .int .i64 0, .int .i64 0, .int .i64 0, .int .i64 0, .int .i64 0, .int .i64 0] 23) = w0 at *
  go_wp2_with fail
  go_region_held3 (fun _ => True) (simp [go_sem, *]) (first | (go_at_call 36; refine (noughts_any 8 (by decide) _).mono ?_; rintro e w1 ⟨rfl, hb1⟩))
  have hlt := lt_of_block g0
  have g1 : w1.heap[w.heap.size]? = _ := (hb1.block w.heap.size (by simp; omega)).trans g0
  have hbw : Below w.heap.size w w1 := by
    refine Below.trans ?_ (hb1.mono (by simp; omega))
    repeat (first | exact hb0 | apply Below.drew)
  clear g0 hb0 hb1
  go_wp2_with (refine wpList_store_row rfl 23 _ _ rfl w.heap.size #[.int .i64 0, .int .i64 0, .int .i64 0, .int .i64 0, .int .i64 0, .int .i64 0, .int .i64 0, .int .i64 0] rfl rfl 23 _ g1 (by kernel_rfl) rfl (by simp [Value.oneCell']) ?_)
  exact head_ret _ w _ 5 _ _ rfl rfl g1 rfl hbw
set_option maxHeartbeats 2000000 in
theorem rheadOf_full (s : ByteArray) (h : s.size = 48) (hm : ((s.extract 0 4).toList == [71, 82, 80, 78]) = true) (hz : ((s.extract 40 48).toList == (noughtsS 8).toList) = true) (w : World) :
    Calls Tryz.prog 25 #[.string s] w fun e w' => e = .returned (.tuple #[.agg (headCells s), .int .i64 0]) ∧ Below w.heap.size w w' := by
  have g0 := heap_alloc_new w (.cells #[.int .i64 0, .int .i64 0, .int .i64 0, .int .i64 0, .int .i64 0, .int .i64 0, .int .i64 0, .int .i64 0] 23)
  have hb0 := below_new w (.cells #[.int .i64 0, .int .i64 0, .int .i64 0, .int .i64 0, .int .i64 0, .int .i64 0, .int .i64 0, .int .i64 0] 23)
  go_enter Tryz.func25, Tryz.ntmps25
  go_wp2_with fail
  refine (sized_any s 48 _).mono ?_
  rintro e w' ⟨rfl, rfl⟩
  rw [if_neg (by omega), if_neg (by omega)]
  have i1 : (4 : Int) ≤ s.size := by omega
  have i2 : (40 : Int) ≤ s.size := by omega
  generalize w.alloc (.cells #[.int .i64 0, .int .i64 0, .int .i64 0, .int .i64 0, .int .i64 0, .int .i64 0, .int .i64 0, .int .i64 0] 23) = w0 at *
  go_wp2_with fail
  go_region_held3 (fun _ => True) (simp [go_sem, *]) (first | (go_at_call 36; refine (noughts_any 8 (by decide) _).mono ?_; rintro e w1 ⟨rfl, hb1⟩))
  have hlt := lt_of_block g0
  have g1 : w1.heap[w.heap.size]? = _ := (hb1.block w.heap.size (by simp; omega)).trans g0
  have hbw : Below w.heap.size w w1 := by
    refine Below.trans ?_ (hb1.mono (by simp; omega))
    repeat (first | exact hb0 | apply Below.drew)
  clear g0 hb0 hb1
  go_wp2_with fail
  refine (headWidths_any _).mono ?_
  rintro e w2 ⟨rfl, rfl⟩
  go_wp2_with fail
  have hlt1 := lt_of_block g1
  have hwi := heap_alloc_new w1 (.cells #[.int .i64 6, .int .i64 4, .int .i64 2, .int .i64 4, .int .i64 4, .int .i64 4, .int .i64 6, .int .i64 6] 3)
  have g2 := (Below.heap_alloc w1 (.cells #[.int .i64 6, .int .i64 4, .int .i64 2, .int .i64 4, .int .i64 4, .int .i64 4, .int .i64 6, .int .i64 6] 3) w.heap.size hlt1).trans g1
  have hbv := hbw.alloc (by omega) (.cells #[.int .i64 6, .int .i64 4, .int .i64 2, .int .i64 4, .int .i64 4, .int .i64 4, .int .i64 6, .int .i64 6] 3)
  have hsz : w1.heap.size < (w1.alloc (.cells #[.int .i64 6, .int .i64 4, .int .i64 2, .int .i64 4, .int .i64 4, .int .i64 4, .int .i64 6, .int .i64 6] 3)).heap.size := by simp
  clear g1 hbw
  generalize w1.alloc (.cells #[.int .i64 6, .int .i64 4, .int .i64 2, .int .i64 4, .int .i64 4, .int .i64 4, .int .i64 6, .int .i64 6] 3) = w2 at *
  refine (rread_any s (by omega) 4 headWs headWs_fit (by rw [h]; decide) 8 rfl (by decide) w1.heap.size 8 _ hsz (fun i hi => by rw [cell_of_row _ _ _ _ _ _ hwi]; exact headWs_cells i hi)).mono ?_
  rintro e w3 ⟨v, rfl, hown, hb3⟩
  have hex : ∃ g cap, v = .slice (some ⟨g, 0, none⟩) 8 cap := by
    rcases hown.2 with ⟨_, h⟩ | ⟨g, cap, cur, h, _⟩
    · omega
    · exact ⟨g, cap, h⟩
  obtain ⟨g, cap, rfl⟩ := hex
  have hL : (readL s 4 headWs).map (Value.int .i64) = (headCells s).toList := rfl
  rw [hL] at hown
  have g3 := (hb3.block w.heap.size (by omega)).trans g2
  have hb4 := hbv.trans (hb3.mono (by omega))
  have c0 := hown.cellAt 0 (by decide)
  have c1 := hown.cellAt 1 (by decide)
  have c2 := hown.cellAt 2 (by decide)
  have c3 := hown.cellAt 3 (by decide)
  have c4 := hown.cellAt 4 (by decide)
  have c5 := hown.cellAt 5 (by decide)
  have c6 := hown.cellAt 6 (by decide)
  have c7 := hown.cellAt 7 (by decide)
  have hgne : g ≠ w.heap.size := by
    rcases hown.2 with ⟨h', _⟩ | ⟨g', cap', cur, h', hb', _⟩
    · simp at h'
    · simp only [Value.slice.injEq, Option.some.injEq, Addr.mk.injEq, and_true, true_and] at h'
      have := h'.1
      omega
  have hgne' := hgne.symm
  clear hown hb3 hbv g2 hwi
  simp [headCells] at c0 c1 c2 c3 c4 c5 c6 c7
  obtain ⟨x0, hx0⟩ : ∃ x, x = leVal ((s.data.toList.drop 4).take 6) := ⟨_, rfl⟩
  rw [← hx0] at c0
  obtain ⟨x1, hx1⟩ : ∃ x, x = leVal ((s.data.toList.drop 10).take 4) := ⟨_, rfl⟩
  rw [← hx1] at c1
  obtain ⟨x2, hx2⟩ : ∃ x, x = leVal ((s.data.toList.drop 14).take 2) := ⟨_, rfl⟩
  rw [← hx2] at c2
  obtain ⟨x3, hx3⟩ : ∃ x, x = leVal ((s.data.toList.drop 16).take 4) := ⟨_, rfl⟩
  rw [← hx3] at c3
  obtain ⟨x4, hx4⟩ : ∃ x, x = leVal ((s.data.toList.drop 20).take 4) := ⟨_, rfl⟩
  rw [← hx4] at c4
  obtain ⟨x5, hx5⟩ : ∃ x, x = leVal ((s.data.toList.drop 24).take 4) := ⟨_, rfl⟩
  rw [← hx5] at c5
  obtain ⟨x6, hx6⟩ : ∃ x, x = leVal ((s.data.toList.drop 28).take 6) := ⟨_, rfl⟩
  rw [← hx6] at c6
  obtain ⟨x7, hx7⟩ : ∃ x, x = leVal ((s.data.toList.drop 34).take 6) := ⟨_, rfl⟩
  rw [← hx7] at c7
  have HX : Hid (headCells s = #[.int .i64 x0, .int .i64 x1, .int .i64 x2, .int .i64 x3, .int .i64 x4, .int .i64 x5, .int .i64 x6, .int .i64 x7]) := by
    show headCells s = _
    rw [hx0, hx1, hx2, hx3, hx4, hx5, hx6, hx7]; rfl
  clear hx0 hx1 hx2 hx3 hx4 hx5 hx6 hx7
  have d0 : w3.cell? ⟨w.heap.size, 0, none⟩ = some (.int .i64 0) := by simp [World.cell?, g3]
  have d1 : w3.cell? ⟨w.heap.size, 1, none⟩ = some (.int .i64 0) := by simp [World.cell?, g3]
  have d2 : w3.cell? ⟨w.heap.size, 2, none⟩ = some (.int .i64 0) := by simp [World.cell?, g3]
  have d3 : w3.cell? ⟨w.heap.size, 3, none⟩ = some (.int .i64 0) := by simp [World.cell?, g3]
  have d4 : w3.cell? ⟨w.heap.size, 4, none⟩ = some (.int .i64 0) := by simp [World.cell?, g3]
  have d5 : w3.cell? ⟨w.heap.size, 5, none⟩ = some (.int .i64 0) := by simp [World.cell?, g3]
  have d6 : w3.cell? ⟨w.heap.size, 6, none⟩ = some (.int .i64 0) := by simp [World.cell?, g3]
  have d7 : w3.cell? ⟨w.heap.size, 7, none⟩ = some (.int .i64 0) := by simp [World.cell?, g3]
  have hfz : ∀ i, w3.frozen? ⟨w.heap.size, i, none⟩ = false := fun i => by simp [World.frozen?, g3]
  go_wp2_with fail
  go_region_held3 (fun w' => w'.cell? ⟨g, 0, none⟩ = some (.int .i64 x0) ∧ w'.cell? ⟨g, 1, none⟩ = some (.int .i64 x1) ∧ w'.cell? ⟨g, 2, none⟩ = some (.int .i64 x2) ∧ w'.cell? ⟨g, 3, none⟩ = some (.int .i64 x3) ∧ w'.cell? ⟨g, 4, none⟩ = some (.int .i64 x4) ∧ w'.cell? ⟨g, 5, none⟩ = some (.int .i64 x5) ∧ w'.cell? ⟨g, 6, none⟩ = some (.int .i64 x6) ∧ w'.cell? ⟨g, 7, none⟩ = some (.int .i64 x7)) (simp [go_sem, *]) (fail)
  have k0 := set8 w3 w.heap.size 23 (.int .i64 x0) (.int .i64 x1) (.int .i64 x2) (.int .i64 x3) (.int .i64 x4) (.int .i64 x5) (.int .i64 x6) (.int .i64 x7) g3
  rw [← HX.out] at k0
  have kb := below8 hb4 (.int .i64 x0) (.int .i64 x1) (.int .i64 x2) (.int .i64 x3) (.int .i64 x4) (.int .i64 x5) (.int .i64 x6) (.int .i64 x7)
  clear hgne hgne' c0 c1 c2 c3 c4 c5 c6 c7 d0 d1 d2 d3 d4 d5 d6 d7 hfz hb4 g3
  generalize ((((((((w3.setCell ⟨w.heap.size, 0, none⟩ (.int .i64 x0)).setCell ⟨w.heap.size, 1, none⟩ (.int .i64 x1)).setCell ⟨w.heap.size, 2, none⟩ (.int .i64 x2)).setCell ⟨w.heap.size, 3, none⟩ (.int .i64 x3)).setCell ⟨w.heap.size, 4, none⟩ (.int .i64 x4)).setCell ⟨w.heap.size, 5, none⟩ (.int .i64 x5)).setCell ⟨w.heap.size, 6, none⟩ (.int .i64 x6)).setCell ⟨w.heap.size, 7, none⟩ (.int .i64 x7)) = w4 at *
  go_wp2_with fail
  have hr := load_head w4.drew w.heap.size (headCells s) k0 rfl
  exact bodyPost_ret (v := .tuple #[.agg (headCells s), .int .i64 0]) (by simp [results, Tryz.results25, asAddr, hr]) rfl ⟨rfl, kb.drew⟩

theorem zero_eq (s : ByteArray) (h : s.size = 48) : ((s.extract 40 48).toList == (noughtsS 8).toList) = allZ (s.extract 40 48) := by
  have hl : (s.extract 40 48).data.toList.length = 8 := by simp [h]
  rw [Bool.eq_iff_iff]
  simp only [beq_iff_eq, ByteArray.toList_eq, allZ, List.all_eq_true]
  generalize (s.extract 40 48).data.toList = l at *
  have hn : (noughtsS 8).data.toList = List.replicate 8 0 := rfl
  rw [hn, List.eq_replicate_iff]
  constructor
  · rintro ⟨_, h⟩ x hx
    simpa using h x hx
  · intro h
    exact ⟨hl, fun x hx => by simpa using h x hx⟩

theorem rheadOf_any (s : ByteArray) (w : World) :
    Calls Tryz.prog 25 #[.string s] w fun e w' => e = .returned (.tuple #[.agg (headC s), .int .i64 (headE s)]) ∧ Below w.heap.size w w' := by
  by_cases h1 : 48 < s.size
  · have he : headE s = 4 := by simp [headE, h1]
    rw [headC_no (by rw [he]; decide), he]
    exact rheadOf_size s 4 rfl (fun w => by have := sized_any s 48 w; rw [if_pos h1] at this; exact this) w
  by_cases h2 : s.size < 48
  · have he : headE s = 3 := by simp [headE, h1, h2]
    rw [headC_no (by rw [he]; decide), he]
    exact rheadOf_size s 3 rfl (fun w => by have := sized_any s 48 w; rw [if_neg h1, if_pos h2] at this; exact this) w
  have h48 : s.size = 48 := by omega
  by_cases h3 : ((s.extract 0 4).toList == [71, 82, 80, 78]) = true
  case neg =>
    have he : headE s = 5 := by rw [headE, if_neg h1, if_neg h2, if_neg h3]
    rw [headC_no (by rw [he]; decide), he]
    exact rheadOf_mark s h48 (Bool.eq_false_iff.2 h3) w
  by_cases h4 : allZ (s.extract 40 48) = true
  case neg =>
    have he : headE s = 5 := by rw [headE, if_neg h1, if_neg h2, if_pos h3, if_neg h4]
    rw [headC_no (by rw [he]; decide), he]
    exact rheadOf_rest s h48 h3 (by rw [zero_eq s h48]; exact Bool.eq_false_iff.2 h4) w
  have he : headE s = 0 := by rw [headE, if_neg h1, if_neg h2, if_pos h3, if_pos h4]
  rw [headC_yes he, he]
  exact rheadOf_full s h48 h3 (by rw [zero_eq s h48]; exact h4) w
end Go.Proofs.YtcefoeaakdemmaaGreatDoor
