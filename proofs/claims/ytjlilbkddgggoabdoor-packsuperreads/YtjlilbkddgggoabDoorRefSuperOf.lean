/- The document's SuperOf, called with any text, tells the superblock superOC and the error superOE, and changes nothing that was there. -/
import Derived.Test.YtjlilbkddgggoabDoorSuperOf
import Derived.Test.YtjlilbkddgggoabDoorRefRead
import Derived.Test.YtjlilbkddgggoabDoorNoughts
namespace Go.Proofs.YtjlilbkddgggoabDoor
open Go.RowKit Go.Lib

theorem load_super (w : World) (g : Nat) (cs : Array Value) (hg : w.heap[g]? = some (.cells cs 35 (0, 0))) (hs : cs.size = 5) :
    (loadVar 35 ⟨g, 0, none⟩).run Tryd.prog w = .ok (.agg cs) w :=
  run_loadVar_row (P := Tryd.prog) w g 35 35 cs (0, 0) _ hg Tryd.underlying35 rfl (by rw [hs]; kernel_rfl)
theorem super_ret (tmps : Array Value) (w w' : World) (y : Int) (cs old : Array Value) (h1 : tmps.getD 2 undef = .pointer (some ⟨w.heap.size, 0, none⟩)) (h2 : tmps.getD 3 undef = .int .i64 y) (hg : w'.heap[w.heap.size]? = some (.cells old 35 (0, 0))) (hs : cs.size = 5) (hb : Below w.heap.size w w') :
    bodyPost Tryd.prog Tryd.f12 (fun e w'' => e = .returned (.tuple #[.agg cs, .int .i64 y]) ∧ Below w.heap.size w w'') .ret { tmps := tmps, defers := [] } (w'.setRow w.heap.size cs) := by
  have hr := load_super (w'.setRow w.heap.size cs) w.heap.size cs (setRow_heap _ _ _ _ _ _ hg) hs
  simp at h1 h2
  exact bodyPost_ret (v := .tuple #[.agg cs, .int .i64 y]) (by simp [results, Tryd.results12, asAddr, hr, h1, h2]) rfl ⟨rfl, hb.trans ⟨rfl, rfl, rfl, by simp [World.setRow], fun k hk => setRow_other _ _ _ _ (by omega)⟩⟩

set_option maxHeartbeats 1000000 in
theorem rsuperOf_size (s : ByteArray) (y : Int) (hne : (y != 0) = true) (hz : ∀ w, Calls Tryd.prog 15 #[.string s, .int .i64 448] w fun e w' => e = .returned (.int .i64 y) ∧ w' = w) (w : World) :
    Calls Tryd.prog 12 #[.string s] w fun e w' => e = .returned (.tuple #[.agg #[.int .i64 0, .int .i64 0, .int .i64 0, .int .i64 0, .string ⟨#[]⟩], .int .i64 y]) ∧ Below w.heap.size w w' := by
  have g0 := heap_alloc_new w (.cells #[.int .i64 0, .int .i64 0, .int .i64 0, .int .i64 0, .string ⟨#[]⟩] 35)
  go_enter Tryd.func12, Tryd.ntmps12
  go_wp2_with fail
  refine (hz _).mono ?_
  rintro e w' ⟨rfl, rfl⟩
  go_wp2_with (refine wpList_store_row rfl 35 _ _ rfl w.heap.size #[.int .i64 0, .int .i64 0, .int .i64 0, .int .i64 0, .string ⟨#[]⟩] rfl rfl 35 _ g0 (by kernel_rfl) rfl (by simp [Value.oneCell']) ?_)
  exact super_ret _ w _ y _ _ rfl rfl g0 rfl (below_newS w _)

theorem set5 (w : World) (g : Nat) (t : TypeId) (v0 v1 v2 v3 v4 : Value) (h : w.heap[g]? = some (.cells #[.int .i64 0, .int .i64 0, .int .i64 0, .int .i64 0, .string ⟨#[]⟩] t (0, 0))) :
    (((((w.setCell ⟨g, 0, none⟩ v0).setCell ⟨g, 1, none⟩ v1).setCell ⟨g, 2, none⟩ v2).setCell ⟨g, 3, none⟩ v3).setCell ⟨g, 4, none⟩ v4).heap[g]? = some (.cells #[v0, v1, v2, v3, v4] t (0, 0)) := by
  have e0 := heap_setCell_same w g 0 _ t v0 h
  have e1 := heap_setCell_same _ g 1 _ t v1 e0
  have e2 := heap_setCell_same _ g 2 _ t v2 e1
  have e3 := heap_setCell_same _ g 3 _ t v3 e2
  have e4 := heap_setCell_same _ g 4 _ t v4 e3
  exact e4.trans (by simp)
theorem below5 {w w0 : World} {g : Nat} (h : Below g w0 w) (v0 v1 v2 v3 v4 : Value) : Below g w0 (((((w.setCell ⟨g, 0, none⟩ v0).setCell ⟨g, 1, none⟩ v1).setCell ⟨g, 2, none⟩ v2).setCell ⟨g, 3, none⟩ v3).setCell ⟨g, 4, none⟩ v4) :=
  ((((h.setCell (p := ⟨g, 0, none⟩) (Nat.le_refl _) v0).setCell (p := ⟨g, 1, none⟩) (Nat.le_refl _) v1).setCell (p := ⟨g, 2, none⟩) (Nat.le_refl _) v2).setCell (p := ⟨g, 3, none⟩) (Nat.le_refl _) v3).setCell (p := ⟨g, 4, none⟩) (Nat.le_refl _) v4
/-- The widths of a superblock's numbers. -/
def superWs : List Nat := [6, 6, 6, 4]
theorem superWs_fit : ∀ i (h : i < superWs.length), 1 ≤ superWs[i] ∧ superWs[i] ≤ 6 := by decide
theorem superWs_cells : ∀ i (h : i < superWs.length), (#[.int .i64 6, .int .i64 6, .int .i64 6, .int .i64 4] : Array Value)[i]? = some (.int .i64 (superWs[i] : Nat)) := by
  intro i h
  have h4 : i < 4 := h
  have : i = 0 ∨ i = 1 ∨ i = 2 ∨ i = 3 := by omega
  rcases this with rfl | rfl | rfl | rfl <;> rfl

set_option maxHeartbeats 1000000 in
theorem rsuperOf_rest (s : ByteArray) (h : s.size = 448) (hz : ((s.extract 54 448).toList == (noughtsS 394).toList) = false) (w : World) :
    Calls Tryd.prog 12 #[.string s] w fun e w' => e = .returned (.tuple #[.agg #[.int .i64 0, .int .i64 0, .int .i64 0, .int .i64 0, .string ⟨#[]⟩], .int .i64 5]) ∧ Below w.heap.size w w' := by
  have g0 := heap_alloc_new w (.cells #[.int .i64 0, .int .i64 0, .int .i64 0, .int .i64 0, .string ⟨#[]⟩] 35)
  have hb0 := below_newS w (.cells #[.int .i64 0, .int .i64 0, .int .i64 0, .int .i64 0, .string ⟨#[]⟩] 35)
  go_enter Tryd.func12, Tryd.ntmps12
  go_wp2_with fail
  refine (sized_any s 448 _).mono ?_
  rintro e w' ⟨rfl, rfl⟩
  rw [if_neg (by omega), if_neg (by omega)]
  have i1 : (54 : Int) ≤ s.size := by omega
  generalize w.alloc (.cells #[.int .i64 0, .int .i64 0, .int .i64 0, .int .i64 0, .string ⟨#[]⟩] 35) = w0 at *
  go_wp2_with fail
  go_region_held3 (fun _ => True) (simp [go_sem, *]) (first | (go_at_call 18; refine (noughts_any 394 (by decide) _).mono ?_; rintro e w1 ⟨rfl, hb1⟩))
  have hlt := lt_of_block g0
  have g1 : w1.heap[w.heap.size]? = _ := (hb1.block w.heap.size (by simp; omega)).trans g0
  have hbw : Below w.heap.size w w1 := by
    refine Below.trans ?_ (hb1.mono (by simp; omega))
    repeat (first | exact hb0 | apply Below.drew)
  clear g0 hb0 hb1
  go_wp2_with (refine wpList_store_row rfl 35 _ _ rfl w.heap.size #[.int .i64 0, .int .i64 0, .int .i64 0, .int .i64 0, .string ⟨#[]⟩] rfl rfl 35 _ g1 (by kernel_rfl) rfl (by simp [Value.oneCell']) ?_)
  exact super_ret _ w _ 5 _ _ rfl rfl g1 rfl hbw

set_option maxHeartbeats 2000000 in
theorem rsuperOf_full (s : ByteArray) (h : s.size = 448) (hz : ((s.extract 54 448).toList == (noughtsS 394).toList) = true) (w : World) :
    Calls Tryd.prog 12 #[.string s] w fun e w' => e = .returned (.tuple #[.agg (superCells s), .int .i64 0]) ∧ Below w.heap.size w w' := by
  have g0 := heap_alloc_new w (.cells #[.int .i64 0, .int .i64 0, .int .i64 0, .int .i64 0, .string ⟨#[]⟩] 35)
  have hb0 := below_newS w (.cells #[.int .i64 0, .int .i64 0, .int .i64 0, .int .i64 0, .string ⟨#[]⟩] 35)
  go_enter Tryd.func12, Tryd.ntmps12
  go_wp2_with fail
  refine (sized_any s 448 _).mono ?_
  rintro e w' ⟨rfl, rfl⟩
  rw [if_neg (by omega), if_neg (by omega)]
  have i1 : (54 : Int) ≤ s.size := by omega
  generalize w.alloc (.cells #[.int .i64 0, .int .i64 0, .int .i64 0, .int .i64 0, .string ⟨#[]⟩] 35) = w0 at *
  go_wp2_with fail
  go_region_held3 (fun _ => True) (simp [go_sem, *]) (first | (go_at_call 18; refine (noughts_any 394 (by decide) _).mono ?_; rintro e w1 ⟨rfl, hb1⟩))
  have hlt := lt_of_block g0
  have g1 : w1.heap[w.heap.size]? = _ := (hb1.block w.heap.size (by simp; omega)).trans g0
  have hbw : Below w.heap.size w w1 := by
    refine Below.trans ?_ (hb1.mono (by simp; omega))
    repeat (first | exact hb0 | apply Below.drew)
  clear g0 hb0 hb1
  have hlt1 := lt_of_block g1
  have hwi := heap_alloc_new w1 (.cells #[.int .i64 6, .int .i64 6, .int .i64 6, .int .i64 4] 3)
  have g2 := (Below.heap_alloc w1 (.cells #[.int .i64 6, .int .i64 6, .int .i64 6, .int .i64 4] 3) w.heap.size hlt1).trans g1
  have hbv := hbw.alloc (by omega) (.cells #[.int .i64 6, .int .i64 6, .int .i64 6, .int .i64 4] 3)
  have hsz : w1.heap.size < (w1.alloc (.cells #[.int .i64 6, .int .i64 6, .int .i64 6, .int .i64 4] 3)).heap.size := by simp
  clear g1 hbw
  go_wp2_with fail
  generalize w1.alloc (.cells #[.int .i64 6, .int .i64 6, .int .i64 6, .int .i64 4] 3) = w2 at *
  refine (rread_any s (by omega) 0 superWs superWs_fit (by rw [h]; decide) 4 rfl (by decide) w1.heap.size 4 _ hsz (fun i hi => by rw [cell_of_row _ _ _ _ _ _ hwi]; exact superWs_cells i hi)).mono ?_
  rintro e w3 ⟨v, rfl, hown, hb3⟩
  have hex : ∃ g cap, v = .slice (some ⟨g, 0, none⟩) 4 cap := by
    rcases hown.2 with ⟨_, h⟩ | ⟨g, cap, cur, h, _⟩
    · omega
    · exact ⟨g, cap, h⟩
  obtain ⟨g, cap, rfl⟩ := hex
  have hL : (readL s 0 superWs).map (Value.int .i64) = [.int .i64 (leVal ((s.data.toList.drop 0).take 6)), .int .i64 (leVal ((s.data.toList.drop 6).take 6)), .int .i64 (leVal ((s.data.toList.drop 12).take 6)), .int .i64 (leVal ((s.data.toList.drop 18).take 4))] := rfl
  rw [hL] at hown
  have g3 := (hb3.block w.heap.size (by omega)).trans g2
  have hb4 := hbv.trans (hb3.mono (by omega))
  have c0 := hown.cellAt 0 (by decide)
  have c1 := hown.cellAt 1 (by decide)
  have c2 := hown.cellAt 2 (by decide)
  have c3 := hown.cellAt 3 (by decide)
  have hgne : g ≠ w.heap.size := by
    rcases hown.2 with ⟨h', _⟩ | ⟨g', cap', cur, h', hb', _⟩
    · simp at h'
    · simp only [Value.slice.injEq, Option.some.injEq, Addr.mk.injEq, and_true, true_and] at h'
      have := h'.1
      omega
  have hgne' := hgne.symm
  clear hown hb3 hbv g2 hwi
  simp only [List.getElem?_cons_zero, List.getElem?_cons_succ] at c0 c1 c2 c3
  obtain ⟨x0, hx0⟩ : ∃ x, x = leVal ((s.data.toList.drop 0).take 6) := ⟨_, rfl⟩
  rw [← hx0] at c0
  obtain ⟨x1, hx1⟩ : ∃ x, x = leVal ((s.data.toList.drop 6).take 6) := ⟨_, rfl⟩
  rw [← hx1] at c1
  obtain ⟨x2, hx2⟩ : ∃ x, x = leVal ((s.data.toList.drop 12).take 6) := ⟨_, rfl⟩
  rw [← hx2] at c2
  obtain ⟨x3, hx3⟩ : ∃ x, x = leVal ((s.data.toList.drop 18).take 4) := ⟨_, rfl⟩
  rw [← hx3] at c3
  have HX : Hid (superCells s = #[.int .i64 x0, .int .i64 x1, .int .i64 x2, .int .i64 x3, .string (s.extract 22 54)]) := by
    show superCells s = _
    rw [hx0, hx1, hx2, hx3]; rfl
  clear hx0 hx1 hx2 hx3
  have i3 : (22 : Int) ≤ 54 := by decide
  have d0 : w3.cell? ⟨w.heap.size, 0, none⟩ = some (.int .i64 0) := by simp [World.cell?, g3]
  have d1 : w3.cell? ⟨w.heap.size, 1, none⟩ = some (.int .i64 0) := by simp [World.cell?, g3]
  have d2 : w3.cell? ⟨w.heap.size, 2, none⟩ = some (.int .i64 0) := by simp [World.cell?, g3]
  have d3 : w3.cell? ⟨w.heap.size, 3, none⟩ = some (.int .i64 0) := by simp [World.cell?, g3]
  have d4 : w3.cell? ⟨w.heap.size, 4, none⟩ = some (.string ⟨#[]⟩) := by simp [World.cell?, g3]
  have hfz : ∀ i, w3.frozen? ⟨w.heap.size, i, none⟩ = false := fun i => by simp [World.frozen?, g3]
  have i4 : (54 : Int) ≤ s.size := by omega
  go_wp2_with fail
  go_region_held3 (fun w' => w'.cell? ⟨g, 0, none⟩ = some (.int .i64 x0) ∧ w'.cell? ⟨g, 1, none⟩ = some (.int .i64 x1) ∧ w'.cell? ⟨g, 2, none⟩ = some (.int .i64 x2) ∧ w'.cell? ⟨g, 3, none⟩ = some (.int .i64 x3)) (simp [go_sem, *]) (fail)
  have k0 := set5 w3 w.heap.size 35 (.int .i64 x0) (.int .i64 x1) (.int .i64 x2) (.int .i64 x3) (.string (s.extract 22 54)) g3
  rw [← HX.out] at k0
  have kb := below5 hb4 (.int .i64 x0) (.int .i64 x1) (.int .i64 x2) (.int .i64 x3) (.string (s.extract 22 54))
  clear hgne hgne' c0 c1 c2 c3 d0 d1 d2 d3 d4 hfz hb4 g3
  generalize (((((w3.setCell ⟨w.heap.size, 0, none⟩ (.int .i64 x0)).setCell ⟨w.heap.size, 1, none⟩ (.int .i64 x1)).setCell ⟨w.heap.size, 2, none⟩ (.int .i64 x2)).setCell ⟨w.heap.size, 3, none⟩ (.int .i64 x3)).setCell ⟨w.heap.size, 4, none⟩ (.string (s.extract 22 54))) = w4 at *
  go_wp2_with fail
  have hr := load_super w4.drew w.heap.size (superCells s) k0 rfl
  exact bodyPost_ret (v := .tuple #[.agg (superCells s), .int .i64 0]) (by simp [results, Tryd.results12, asAddr, hr]) rfl ⟨rfl, kb.drew⟩

theorem noughts_all (t : ByteArray) (n : Nat) (h : t.size = n) : (t.toList == (noughtsS n).toList) = allZ t := by
  have hl : t.data.toList.length = n := by simpa using h
  rw [Bool.eq_iff_iff]
  simp only [beq_iff_eq, ByteArray.toList_eq, allZ, List.all_eq_true]
  have hn : (noughtsS n).data.toList = List.replicate n 0 := by simp [noughtsS, strOfNums]
  rw [hn, List.eq_replicate_iff]
  constructor
  · rintro ⟨_, h⟩ x hx
    simpa using h x hx
  · intro h
    exact ⟨hl, fun x hx => by simpa using h x hx⟩

theorem rsuperOf_any (s : ByteArray) (w : World) :
    Calls Tryd.prog 12 #[.string s] w fun e w' => e = .returned (.tuple #[.agg (superOC s), .int .i64 (superOE s)]) ∧ Below w.heap.size w w' := by
  by_cases h1 : 448 < s.size
  · have he : superOE s = 4 := by simp [superOE, h1]
    rw [superOC_no (by rw [he]; decide), he]
    exact rsuperOf_size s 4 rfl (fun w => by have := sized_any s 448 w; rw [if_pos h1] at this; exact this) w
  by_cases h2 : s.size < 448
  · have he : superOE s = 3 := by simp [superOE, h1, h2]
    rw [superOC_no (by rw [he]; decide), he]
    exact rsuperOf_size s 3 rfl (fun w => by have := sized_any s 448 w; rw [if_neg h1, if_pos h2] at this; exact this) w
  have h48 : s.size = 448 := by omega
  have hq := noughts_all (s.extract 54 448) 394 (by simp [h48])
  by_cases h4 : allZ (s.extract 54 448) = true
  case neg =>
    have he : superOE s = 5 := by rw [superOE, if_neg h1, if_neg h2, if_neg h4]
    rw [superOC_no (by rw [he]; decide), he]
    exact rsuperOf_rest s h48 (by rw [hq]; exact Bool.eq_false_iff.2 h4) w
  have he : superOE s = 0 := by rw [superOE, if_neg h1, if_neg h2, if_pos h4]
  rw [superOC_yes he, he]
  exact rsuperOf_full s h48 (by rw [hq]; exact h4) w
end Go.Proofs.YtjlilbkddgggoabDoor
