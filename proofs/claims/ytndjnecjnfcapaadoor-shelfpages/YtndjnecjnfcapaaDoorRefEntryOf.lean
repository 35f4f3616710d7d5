/- The document's EntryOf, called with any text, tells the entry entryOC and the error entryOE, and changes nothing that was there. -/
import Derived.Test.YtndjnecjnfcapaaDoorEntryOf
import Derived.Test.YtndjnecjnfcapaaDoorRefRead
import Derived.Test.YtndjnecjnfcapaaDoorNoughts
namespace Go.Proofs.YtndjnecjnfcapaaDoor
set_option maxRecDepth 20000
open Go.RowKit Go.Lib

theorem load_entry (w : World) (g : Nat) (cs : Array Value) (hg : w.heap[g]? = some (.cells cs 39 (0, 0))) (hs : cs.size = 3) :
    (loadVar 39 ⟨g, 0, none⟩).run Tryd.prog w = .ok (.agg cs) w :=
  run_loadVar_row (P := Tryd.prog) w g 39 39 cs (0, 0) _ hg Tryd.underlying39 rfl (by rw [hs]; kernel_rfl)
theorem entry_ret (tmps : Array Value) (w w' : World) (y : Int) (cs old : Array Value) (h1 : tmps.getD 2 undef = .pointer (some ⟨w.heap.size, 0, none⟩)) (h2 : tmps.getD 3 undef = .int .i64 y) (hg : w'.heap[w.heap.size]? = some (.cells old 39 (0, 0))) (hs : cs.size = 3) (hb : Below w.heap.size w w') :
    bodyPost Tryd.prog Tryd.f24 (fun e w'' => e = .returned (.tuple #[.agg cs, .int .i64 y]) ∧ Below w.heap.size w w'') .ret { tmps := tmps, defers := [] } (w'.setRow w.heap.size cs) := by
  have hr := load_entry (w'.setRow w.heap.size cs) w.heap.size cs (setRow_heap _ _ _ _ _ _ hg) hs
  simp at h1 h2
  exact bodyPost_ret (v := .tuple #[.agg cs, .int .i64 y]) (by simp [results, Tryd.results24, asAddr, hr, h1, h2]) rfl ⟨rfl, hb.trans ⟨rfl, rfl, rfl, by simp [World.setRow], fun k hk => setRow_other _ _ _ _ (by omega)⟩⟩

set_option maxHeartbeats 1000000 in
theorem rentryOf_size (s : ByteArray) (y : Int) (hne : (y != 0) = true) (hz : ∀ w, Calls Tryd.prog 37 #[.string s, .int .i64 28] w fun e w' => e = .returned (.int .i64 y) ∧ w' = w) (w : World) :
    Calls Tryd.prog 24 #[.string s] w fun e w' => e = .returned (.tuple #[.agg #[.string ⟨#[]⟩, .int .i64 0, .int .i64 0], .int .i64 y]) ∧ Below w.heap.size w w' := by
  have g0 := heap_alloc_new w (.cells #[.string ⟨#[]⟩, .int .i64 0, .int .i64 0] 39)
  go_enter Tryd.func24, Tryd.ntmps24
  go_wp2_with fail
  refine (hz _).mono ?_
  rintro e w' ⟨rfl, rfl⟩
  go_wp2_with (refine wpList_store_row rfl 39 _ _ rfl w.heap.size #[.string ⟨#[]⟩, .int .i64 0, .int .i64 0] rfl rfl 39 _ g0 (by kernel_rfl) rfl (by simp [Value.oneCell']) ?_)
  exact entry_ret _ w _ y _ _ rfl rfl g0 rfl (below_newE w _)

theorem set3 (w : World) (g : Nat) (t : TypeId) (v0 v1 v2 : Value) (h : w.heap[g]? = some (.cells #[.string ⟨#[]⟩, .int .i64 0, .int .i64 0] t (0, 0))) :
    (((w.setCell ⟨g, 0, none⟩ v0).setCell ⟨g, 1, none⟩ v1).setCell ⟨g, 2, none⟩ v2).heap[g]? = some (.cells #[v0, v1, v2] t (0, 0)) := by
  have e0 := heap_setCell_same w g 0 _ t v0 h
  have e1 := heap_setCell_same _ g 1 _ t v1 e0
  have e2 := heap_setCell_same _ g 2 _ t v2 e1
  exact e2.trans (by simp)
theorem below3 {w w0 : World} {g : Nat} (h : Below g w0 w) (v0 v1 v2 : Value) : Below g w0 (((w.setCell ⟨g, 0, none⟩ v0).setCell ⟨g, 1, none⟩ v1).setCell ⟨g, 2, none⟩ v2) :=
  ((h.setCell (p := ⟨g, 0, none⟩) (Nat.le_refl _) v0).setCell (p := ⟨g, 1, none⟩) (Nat.le_refl _) v1).setCell (p := ⟨g, 2, none⟩) (Nat.le_refl _) v2
/-- The widths of an entry's numbers. -/
def entryWs : List Nat := [4, 4]
theorem entryWs_fit : ∀ i (h : i < entryWs.length), 1 ≤ entryWs[i] ∧ entryWs[i] ≤ 6 := by decide
theorem entryWs_cells : ∀ i (h : i < entryWs.length), (#[.int .i64 4, .int .i64 4] : Array Value)[i]? = some (.int .i64 (entryWs[i] : Nat)) := by
  intro i h
  have h4 : i < 2 := h
  have : i = 0 ∨ i = 1 := by omega
  rcases this with rfl | rfl <;> rfl
theorem eoLen_first (s : ByteArray) (h : 0 < s.size) : s[0].toNat = eoLen s := by
  have h1 := numAt_cons s 0 0 h
  have h2 := eoLen_eq s
  rw [h2] at h1
  simp [leVal] at h1
  omega

set_option maxHeartbeats 1000000 in
theorem rentryOf_far (s : ByteArray) (h : s.size = 28) (L : Nat) (hL : L = eoLen s) (hf : (19 : Int) < L) (w : World) :
    Calls Tryd.prog 24 #[.string s] w fun e w' => e = .returned (.tuple #[.agg #[.string ⟨#[]⟩, .int .i64 0, .int .i64 0], .int .i64 5]) ∧ Below w.heap.size w w' := by
  have g0 := heap_alloc_new w (.cells #[.string ⟨#[]⟩, .int .i64 0, .int .i64 0] 39)
  have hb0 := below_newE w (.cells #[.string ⟨#[]⟩, .int .i64 0, .int .i64 0] 39)
  have hs0 : s[0].toNat = L := (eoLen_first s (by omega)).trans hL.symm
  have hl0 : L < 256 := by rw [← hs0]; exact s[0].toNat_lt
  have HL : Hid (L = eoLen s) := hL
  clear hL
  go_enter Tryd.func24, Tryd.ntmps24
  go_wp2_with fail
  refine (sized_any s 28 _).mono ?_
  rintro e w' ⟨rfl, rfl⟩
  rw [if_neg (by omega), if_neg (by omega)]
  generalize w.alloc (.cells #[.string ⟨#[]⟩, .int .i64 0, .int .i64 0] 39) = w0 at *
  have i1 : (0 : Int) < s.size := by omega
  have ib : decide ((19 : Int) < (L : Int)) = true := decide_eq_true hf
  go_wp2_with fail
  go_quiet (fail)
  go_wp2_with (refine wpList_store_row rfl 39 _ _ rfl w.heap.size #[.string ⟨#[]⟩, .int .i64 0, .int .i64 0] rfl rfl 39 _ g0 (by kernel_rfl) rfl (by simp [Value.oneCell']) ?_)
  exact entry_ret _ w _ 5 _ _ rfl rfl g0 rfl (below_drewN hb0 _)

set_option maxHeartbeats 1000000 in
theorem rentryOf_rest (s : ByteArray) (h : s.size = 28) (L : Nat) (hL : L = eoLen s) (hf : L ≤ 19) (hz : ((s.extract (1 + L) 20).toList == (noughtsS (19 - L)).toList) = false) (w : World) :
    Calls Tryd.prog 24 #[.string s] w fun e w' => e = .returned (.tuple #[.agg #[.string ⟨#[]⟩, .int .i64 0, .int .i64 0], .int .i64 5]) ∧ Below w.heap.size w w' := by
  have g0 := heap_alloc_new w (.cells #[.string ⟨#[]⟩, .int .i64 0, .int .i64 0] 39)
  have hb0 := below_newE w (.cells #[.string ⟨#[]⟩, .int .i64 0, .int .i64 0] 39)
  have hs0 : s[0].toNat = L := (eoLen_first s (by omega)).trans hL.symm
  have hl0 : L < 256 := by rw [← hs0]; exact s[0].toNat_lt
  have HL : Hid (L = eoLen s) := hL
  clear hL
  go_enter Tryd.func24, Tryd.ntmps24
  go_wp2_with fail
  refine (sized_any s 28 _).mono ?_
  rintro e w' ⟨rfl, rfl⟩
  rw [if_neg (by omega), if_neg (by omega)]
  generalize w.alloc (.cells #[.string ⟨#[]⟩, .int .i64 0, .int .i64 0] 39) = w0 at *
  have i1 : (0 : Int) < s.size := by omega
  have ib : decide ((19 : Int) < (L : Int)) = false := decide_eq_false (by omega)
  have i3 : (1 : Int) + L ≤ 20 := by omega
  have i4 : (0 : Int) ≤ 1 + L := by omega
  have i5 : (20 : Int) ≤ s.size := by omega
  have wr1 : IntKind.i64.wrap (1 + (L : Int)) = 1 + L := by rw [IntKind.wrap_i64]; omega
  have ht : ((1 : Int) + L).toNat = 1 + L := by omega
  have wr2 : IntKind.i64.wrap (19 - (L : Int)) = 19 - L := by rw [IntKind.wrap_i64]; omega
  go_wp2_with fail
  go_region_held3 (fun _ => True) (simp [go_sem, *]) (first | (go_at_call 38; refine (noughts_z _ (19 - L) (by omega) (by omega) _).mono ?_; rintro e w1 ⟨rfl, hb1⟩))
  have hlt := lt_of_block g0
  have g1 : w1.heap[w.heap.size]? = _ := (hb1.block w.heap.size (by simp; omega)).trans g0
  have hbw : Below w.heap.size w w1 := by
    refine Below.trans ?_ (hb1.mono (by simp; omega))
    repeat (first | exact hb0 | apply Below.drew)
  clear g0 hb0 hb1
  go_wp2_with (refine wpList_store_row rfl 39 _ _ rfl w.heap.size #[.string ⟨#[]⟩, .int .i64 0, .int .i64 0] rfl rfl 39 _ g1 (by kernel_rfl) rfl (by simp [Value.oneCell']) ?_)
  exact entry_ret _ w _ 5 _ _ rfl rfl g1 rfl hbw

set_option maxHeartbeats 2000000 in
theorem rentryOf_used1 (s : ByteArray) (h : s.size = 28) (hL : 0 = eoLen s) (hz : ((s.extract 1 20).toList == (noughtsS 19).toList) = true) (x0 x1 : Int) (hx0 : x0 = leVal ((s.data.toList.drop 20).take 4)) (_hx1 : x1 = leVal ((s.data.toList.drop 24).take 4)) (hu : x0 ≠ 0) (w : World) :
    Calls Tryd.prog 24 #[.string s] w fun e w' => e = .returned (.tuple #[.agg #[.string ⟨#[]⟩, .int .i64 0, .int .i64 0], .int .i64 5]) ∧ Below w.heap.size w w' := by
  have g0 := heap_alloc_new w (.cells #[.string ⟨#[]⟩, .int .i64 0, .int .i64 0] 39)
  have hb0 := below_newE w (.cells #[.string ⟨#[]⟩, .int .i64 0, .int .i64 0] 39)
  have hs0 : s[0].toNat = 0 := (eoLen_first s (by omega)).trans hL.symm
  have hl0 : (0 : Nat) < 256 := by decide
  have HL : Hid (0 = eoLen s) := hL
  clear hL
  go_enter Tryd.func24, Tryd.ntmps24
  go_wp2_with fail
  refine (sized_any s 28 _).mono ?_
  rintro e w' ⟨rfl, rfl⟩
  rw [if_neg (by omega), if_neg (by omega)]
  generalize w.alloc (.cells #[.string ⟨#[]⟩, .int .i64 0, .int .i64 0] 39) = w0 at *
  have i1 : (0 : Int) < s.size := by omega
  have wr1 : IntKind.i64.wrap 1 = 1 := by decide
  have wr2 : IntKind.i64.wrap 19 = 19 := by decide
  have i5 : (20 : Int) ≤ s.size := by omega
  go_wp2_with fail
  go_region_held3 (fun _ => True) (simp [go_sem, *]) (first | (go_at_call 38; refine (noughts_z _ (19) (by omega) (by omega) _).mono ?_; rintro e w1 ⟨rfl, hb1⟩))
  have hlt := lt_of_block g0
  have g1 : w1.heap[w.heap.size]? = _ := (hb1.block w.heap.size (by simp; omega)).trans g0
  have hbw : Below w.heap.size w w1 := by
    refine Below.trans ?_ (hb1.mono (by simp; omega))
    repeat (first | exact hb0 | apply Below.drew)
  clear g0 hb0 hb1
  have hlt1 := lt_of_block g1
  have hwi := heap_alloc_new w1 (.cells #[.int .i64 4, .int .i64 4] 3)
  have g2 := (Below.heap_alloc w1 (.cells #[.int .i64 4, .int .i64 4] 3) w.heap.size hlt1).trans g1
  have hbv := hbw.alloc (by omega) (.cells #[.int .i64 4, .int .i64 4] 3)
  have hsz : w1.heap.size < (w1.alloc (.cells #[.int .i64 4, .int .i64 4] 3)).heap.size := by simp
  clear g1 hbw
  go_wp2_with fail
  generalize w1.alloc (.cells #[.int .i64 4, .int .i64 4] 3) = w2 at *
  refine (rread_any s (by omega) 20 entryWs entryWs_fit (by rw [h]; decide) 2 rfl (by decide) w1.heap.size 2 _ hsz (fun i hi => by rw [cell_of_row _ _ _ _ _ _ hwi]; exact entryWs_cells i hi)).mono ?_
  rintro e w3 ⟨v, rfl, hown, hb3⟩
  have hex : ∃ g cap, v = .slice (some ⟨g, 0, none⟩) 2 cap := by
    rcases hown.2 with ⟨_, h⟩ | ⟨g, cap, cur, h, _⟩
    · omega
    · exact ⟨g, cap, h⟩
  obtain ⟨g, cap, rfl⟩ := hex
  have hL2 : (readL s 20 entryWs).map (Value.int .i64) = [.int .i64 (leVal ((s.data.toList.drop 20).take 4)), .int .i64 (leVal ((s.data.toList.drop 24).take 4))] := rfl
  rw [hL2] at hown
  have g3 := (hb3.block w.heap.size (by omega)).trans g2
  have hb4 := hbv.trans (hb3.mono (by omega))
  have c0 := hown.cellAt 0 (by decide)
  have c1 := hown.cellAt 1 (by decide)
  have hgne : g ≠ w.heap.size := by
    rcases hown.2 with ⟨h', _⟩ | ⟨g', cap', cur, h', hb', _⟩
    · simp at h'
    · simp only [Value.slice.injEq, Option.some.injEq, Addr.mk.injEq, and_true, true_and] at h'
      have := h'.1
      omega
  have hgne' := hgne.symm
  clear hown hb3 hbv g2 hwi
  simp only [List.getElem?_cons_zero, List.getElem?_cons_succ] at c0 c1
  rw [← hx0] at c0
  rw [← _hx1] at c1
  clear hx0
  go_wp2_with (refine wpList_store_row rfl 39 _ _ rfl w.heap.size #[.string ⟨#[]⟩, .int .i64 0, .int .i64 0] rfl rfl 39 _ g3 (by kernel_rfl) rfl (by simp [Value.oneCell']) ?_)
  exact entry_ret _ w _ 5 _ _ rfl rfl g3 rfl hb4

set_option maxHeartbeats 2000000 in
theorem rentryOf_used2 (s : ByteArray) (h : s.size = 28) (hL : 0 = eoLen s) (hz : ((s.extract 1 20).toList == (noughtsS 19).toList) = true) (x0 x1 : Int) (hx0 : x0 = leVal ((s.data.toList.drop 20).take 4)) (hx1 : x1 = leVal ((s.data.toList.drop 24).take 4)) (hu0 : x0 = 0) (hu : x1 ≠ 0) (w : World) :
    Calls Tryd.prog 24 #[.string s] w fun e w' => e = .returned (.tuple #[.agg #[.string ⟨#[]⟩, .int .i64 0, .int .i64 0], .int .i64 5]) ∧ Below w.heap.size w w' := by
  have g0 := heap_alloc_new w (.cells #[.string ⟨#[]⟩, .int .i64 0, .int .i64 0] 39)
  have hb0 := below_newE w (.cells #[.string ⟨#[]⟩, .int .i64 0, .int .i64 0] 39)
  have hs0 : s[0].toNat = 0 := (eoLen_first s (by omega)).trans hL.symm
  have hl0 : (0 : Nat) < 256 := by decide
  have HL : Hid (0 = eoLen s) := hL
  clear hL
  go_enter Tryd.func24, Tryd.ntmps24
  go_wp2_with fail
  refine (sized_any s 28 _).mono ?_
  rintro e w' ⟨rfl, rfl⟩
  rw [if_neg (by omega), if_neg (by omega)]
  generalize w.alloc (.cells #[.string ⟨#[]⟩, .int .i64 0, .int .i64 0] 39) = w0 at *
  have i1 : (0 : Int) < s.size := by omega
  have wr1 : IntKind.i64.wrap 1 = 1 := by decide
  have wr2 : IntKind.i64.wrap 19 = 19 := by decide
  have i5 : (20 : Int) ≤ s.size := by omega
  go_wp2_with fail
  go_region_held3 (fun _ => True) (simp [go_sem, *]) (first | (go_at_call 38; refine (noughts_z _ (19) (by omega) (by omega) _).mono ?_; rintro e w1 ⟨rfl, hb1⟩))
  have hlt := lt_of_block g0
  have g1 : w1.heap[w.heap.size]? = _ := (hb1.block w.heap.size (by simp; omega)).trans g0
  have hbw : Below w.heap.size w w1 := by
    refine Below.trans ?_ (hb1.mono (by simp; omega))
    repeat (first | exact hb0 | apply Below.drew)
  clear g0 hb0 hb1
  have hlt1 := lt_of_block g1
  have hwi := heap_alloc_new w1 (.cells #[.int .i64 4, .int .i64 4] 3)
  have g2 := (Below.heap_alloc w1 (.cells #[.int .i64 4, .int .i64 4] 3) w.heap.size hlt1).trans g1
  have hbv := hbw.alloc (by omega) (.cells #[.int .i64 4, .int .i64 4] 3)
  have hsz : w1.heap.size < (w1.alloc (.cells #[.int .i64 4, .int .i64 4] 3)).heap.size := by simp
  clear g1 hbw
  go_wp2_with fail
  generalize w1.alloc (.cells #[.int .i64 4, .int .i64 4] 3) = w2 at *
  refine (rread_any s (by omega) 20 entryWs entryWs_fit (by rw [h]; decide) 2 rfl (by decide) w1.heap.size 2 _ hsz (fun i hi => by rw [cell_of_row _ _ _ _ _ _ hwi]; exact entryWs_cells i hi)).mono ?_
  rintro e w3 ⟨v, rfl, hown, hb3⟩
  have hex : ∃ g cap, v = .slice (some ⟨g, 0, none⟩) 2 cap := by
    rcases hown.2 with ⟨_, h⟩ | ⟨g, cap, cur, h, _⟩
    · omega
    · exact ⟨g, cap, h⟩
  obtain ⟨g, cap, rfl⟩ := hex
  have hL2 : (readL s 20 entryWs).map (Value.int .i64) = [.int .i64 (leVal ((s.data.toList.drop 20).take 4)), .int .i64 (leVal ((s.data.toList.drop 24).take 4))] := rfl
  rw [hL2] at hown
  have g3 := (hb3.block w.heap.size (by omega)).trans g2
  have hb4 := hbv.trans (hb3.mono (by omega))
  have c0 := hown.cellAt 0 (by decide)
  have c1 := hown.cellAt 1 (by decide)
  have hgne : g ≠ w.heap.size := by
    rcases hown.2 with ⟨h', _⟩ | ⟨g', cap', cur, h', hb', _⟩
    · simp at h'
    · simp only [Value.slice.injEq, Option.some.injEq, Addr.mk.injEq, and_true, true_and] at h'
      have := h'.1
      omega
  have hgne' := hgne.symm
  clear hown hb3 hbv g2 hwi
  simp only [List.getElem?_cons_zero, List.getElem?_cons_succ] at c0 c1
  rw [← hx0] at c0
  rw [← hx1] at c1
  clear hx0
  go_wp2_with (refine wpList_store_row rfl 39 _ _ rfl w.heap.size #[.string ⟨#[]⟩, .int .i64 0, .int .i64 0] rfl rfl 39 _ g3 (by kernel_rfl) rfl (by simp [Value.oneCell']) ?_)
  exact entry_ret _ w _ 5 _ _ rfl rfl g3 rfl hb4

set_option maxHeartbeats 2000000 in
theorem rentryOf_full (s : ByteArray) (h : s.size = 28) (L : Nat) (hL : L = eoLen s) (hf : L ≤ 19) (hz : ((s.extract (1 + L) 20).toList == (noughtsS (19 - L)).toList) = true) (x0 x1 : Int) (hx0 : x0 = leVal ((s.data.toList.drop 20).take 4)) (hx1 : x1 = leVal ((s.data.toList.drop 24).take 4)) (hu : L ≠ 0 ∨ (((L : Int) == 0) = true ∧ x0 = 0 ∧ x1 = 0)) (w : World) :
    Calls Tryd.prog 24 #[.string s] w fun e w' => e = .returned (.tuple #[.agg #[.string (s.extract 1 (1 + L)), .int .i64 x0, .int .i64 x1], .int .i64 0]) ∧ Below w.heap.size w w' := by
  have g0 := heap_alloc_new w (.cells #[.string ⟨#[]⟩, .int .i64 0, .int .i64 0] 39)
  have hb0 := below_newE w (.cells #[.string ⟨#[]⟩, .int .i64 0, .int .i64 0] 39)
  have hs0 : s[0].toNat = L := (eoLen_first s (by omega)).trans hL.symm
  have hl0 : L < 256 := by rw [← hs0]; exact s[0].toNat_lt
  have HL : Hid (L = eoLen s) := hL
  clear hL
  go_enter Tryd.func24, Tryd.ntmps24
  go_wp2_with fail
  refine (sized_any s 28 _).mono ?_
  rintro e w' ⟨rfl, rfl⟩
  rw [if_neg (by omega), if_neg (by omega)]
  generalize w.alloc (.cells #[.string ⟨#[]⟩, .int .i64 0, .int .i64 0] 39) = w0 at *
  have i1 : (0 : Int) < s.size := by omega
  have ib : decide ((19 : Int) < (L : Int)) = false := decide_eq_false (by omega)
  have i3 : (1 : Int) + L ≤ 20 := by omega
  have i4 : (0 : Int) ≤ 1 + L := by omega
  have i5 : (20 : Int) ≤ s.size := by omega
  have wr1 : IntKind.i64.wrap (1 + (L : Int)) = 1 + L := by rw [IntKind.wrap_i64]; omega
  have ht : ((1 : Int) + L).toNat = 1 + L := by omega
  have wr2 : IntKind.i64.wrap (19 - (L : Int)) = 19 - L := by rw [IntKind.wrap_i64]; omega
  go_wp2_with fail
  go_region_held3 (fun _ => True) (simp [go_sem, *]) (first | (go_at_call 38; refine (noughts_z _ (19 - L) (by omega) (by omega) _).mono ?_; rintro e w1 ⟨rfl, hb1⟩))
  have hlt := lt_of_block g0
  have g1 : w1.heap[w.heap.size]? = _ := (hb1.block w.heap.size (by simp; omega)).trans g0
  have hbw : Below w.heap.size w w1 := by
    refine Below.trans ?_ (hb1.mono (by simp; omega))
    repeat (first | exact hb0 | apply Below.drew)
  clear g0 hb0 hb1
  have hlt1 := lt_of_block g1
  have hwi := heap_alloc_new w1 (.cells #[.int .i64 4, .int .i64 4] 3)
  have g2 := (Below.heap_alloc w1 (.cells #[.int .i64 4, .int .i64 4] 3) w.heap.size hlt1).trans g1
  have hbv := hbw.alloc (by omega) (.cells #[.int .i64 4, .int .i64 4] 3)
  have hsz : w1.heap.size < (w1.alloc (.cells #[.int .i64 4, .int .i64 4] 3)).heap.size := by simp
  clear g1 hbw
  go_wp2_with fail
  generalize w1.alloc (.cells #[.int .i64 4, .int .i64 4] 3) = w2 at *
  refine (rread_any s (by omega) 20 entryWs entryWs_fit (by rw [h]; decide) 2 rfl (by decide) w1.heap.size 2 _ hsz (fun i hi => by rw [cell_of_row _ _ _ _ _ _ hwi]; exact entryWs_cells i hi)).mono ?_
  rintro e w3 ⟨v, rfl, hown, hb3⟩
  have hex : ∃ g cap, v = .slice (some ⟨g, 0, none⟩) 2 cap := by
    rcases hown.2 with ⟨_, h⟩ | ⟨g, cap, cur, h, _⟩
    · omega
    · exact ⟨g, cap, h⟩
  obtain ⟨g, cap, rfl⟩ := hex
  have hL2 : (readL s 20 entryWs).map (Value.int .i64) = [.int .i64 (leVal ((s.data.toList.drop 20).take 4)), .int .i64 (leVal ((s.data.toList.drop 24).take 4))] := rfl
  rw [hL2] at hown
  have g3 := (hb3.block w.heap.size (by omega)).trans g2
  have hb4 := hbv.trans (hb3.mono (by omega))
  have c0 := hown.cellAt 0 (by decide)
  have c1 := hown.cellAt 1 (by decide)
  have hgne : g ≠ w.heap.size := by
    rcases hown.2 with ⟨h', _⟩ | ⟨g', cap', cur, h', hb', _⟩
    · simp at h'
    · simp only [Value.slice.injEq, Option.some.injEq, Addr.mk.injEq, and_true, true_and] at h'
      have := h'.1
      omega
  have hgne' := hgne.symm
  clear hown hb3 hbv g2 hwi
  simp only [List.getElem?_cons_zero, List.getElem?_cons_succ] at c0 c1
  rw [← hx0] at c0
  rw [← hx1] at c1
  clear hx0 hx1
  have d0 : w3.cell? ⟨w.heap.size, 0, none⟩ = some (.string ⟨#[]⟩) := by simp [World.cell?, g3]
  have d1 : w3.cell? ⟨w.heap.size, 1, none⟩ = some (.int .i64 0) := by simp [World.cell?, g3]
  have d2 : w3.cell? ⟨w.heap.size, 2, none⟩ = some (.int .i64 0) := by simp [World.cell?, g3]
  have hfz : ∀ i, w3.frozen? ⟨w.heap.size, i, none⟩ = false := fun i => by simp [World.frozen?, g3]
  have k0 := set3 w3 w.heap.size 39 (.string (s.extract 1 (1 + L))) (.int .i64 x0) (.int .i64 x1) g3
  have kb := below3 hb4 (.string (s.extract 1 (1 + L))) (.int .i64 x0) (.int .i64 x1)
  have j1 : (1 : Int) ≤ 1 + L := by omega
  have j2 : (1 : Int) + L ≤ 28 := by omega
  rcases hu with hu | ⟨hq0, rfl, rfl⟩
  · go_wp2_with fail
    go_region_held3 (fun w' => w'.cell? ⟨g, 0, none⟩ = some (.int .i64 x0) ∧ w'.cell? ⟨g, 1, none⟩ = some (.int .i64 x1)) (simp [go_sem, *]) (fail)
    clear hgne hgne' c0 c1 d0 d1 d2 hfz hb4 g3
    generalize (((w3.setCell ⟨w.heap.size, 0, none⟩ (.string (s.extract 1 (1 + L)))).setCell ⟨w.heap.size, 1, none⟩ (.int .i64 x0)).setCell ⟨w.heap.size, 2, none⟩ (.int .i64 x1)) = w4 at *
    go_wp2_with fail
    have hr := load_entry w4.drew w.heap.size #[.string (s.extract 1 (1 + L)), .int .i64 x0, .int .i64 x1] k0 rfl
    exact bodyPost_ret (v := .tuple #[.agg #[.string (s.extract 1 (1 + L)), .int .i64 x0, .int .i64 x1], .int .i64 0]) (by simp [results, Tryd.results24, asAddr, hr]) rfl ⟨rfl, kb.drew⟩
  · go_wp2_with fail
    go_region_held3 (fun w' => w'.cell? ⟨g, 0, none⟩ = some (.int .i64 0) ∧ w'.cell? ⟨g, 1, none⟩ = some (.int .i64 0)) (simp [go_sem, *]) (fail)
    clear hgne hgne' c0 c1 d0 d1 d2 hfz hb4 g3
    generalize (((w3.setCell ⟨w.heap.size, 0, none⟩ (.string (s.extract 1 (1 + L)))).setCell ⟨w.heap.size, 1, none⟩ (.int .i64 0)).setCell ⟨w.heap.size, 2, none⟩ (.int .i64 0)) = w4 at *
    go_wp2_with fail
    have hr := load_entry w4.drew w.heap.size #[.string (s.extract 1 (1 + L)), .int .i64 0, .int .i64 0] k0 rfl
    exact bodyPost_ret (v := .tuple #[.agg #[.string (s.extract 1 (1 + L)), .int .i64 0, .int .i64 0], .int .i64 0]) (by simp [results, Tryd.results24, asAddr, hr]) rfl ⟨rfl, kb.drew⟩

theorem noughts_allE (t : ByteArray) (n : Nat) (h : t.size = n) : (t.toList == (noughtsS n).toList) = allZ t := by
  have hl : t.data.toList.length = n := by simpa using h
  rw [Bool.eq_iff_iff]
  simp only [beq_iff_eq, ByteArray.toList_eq, allZ, List.all_eq_true]
  have hn : (noughtsS n).data.toList = List.replicate n 0 := by simp [noughtsS, strOfNums]
  rw [hn, List.eq_replicate_iff]
  constructor
  · rintro ⟨_, h⟩ x hx
    simpa using h x hx
  · intro h
    exact ⟨hl, fun x hx => by simpa using h x hx⟩

theorem rentryOf_any (s : ByteArray) (w : World) :
    Calls Tryd.prog 24 #[.string s] w fun e w' => e = .returned (.tuple #[.agg (entryOC s), .int .i64 (entryOE s)]) ∧ Below w.heap.size w w' := by
  by_cases h1 : 28 < s.size
  · have he : entryOE s = 4 := by simp [entryOE, h1]
    rw [entryOC_no (by rw [he]; decide), he]
    exact rentryOf_size s 4 rfl (fun w => by have := sized_any s 28 w; rw [if_pos h1] at this; exact this) w
  by_cases h2 : s.size < 28
  · have he : entryOE s = 3 := by simp [entryOE, h1, h2]
    rw [entryOC_no (by rw [he]; decide), he]
    exact rentryOf_size s 3 rfl (fun w => by have := sized_any s 28 w; rw [if_neg h1, if_pos h2] at this; exact this) w
  have h28 : s.size = 28 := by omega
  have hno : ∀ (hn : ¬ eoFits s = true), Calls Tryd.prog 24 #[.string s] w (fun e w' => e = .returned (.tuple #[.agg #[.string ⟨#[]⟩, .int .i64 0, .int .i64 0], .int .i64 5]) ∧ Below w.heap.size w w') → Calls Tryd.prog 24 #[.string s] w fun e w' => e = .returned (.tuple #[.agg (entryOC s), .int .i64 (entryOE s)]) ∧ Below w.heap.size w w' := by
    intro hn hc
    have he : entryOE s = 5 := by rw [entryOE, if_neg h1, if_neg h2, if_neg hn]
    rw [entryOC_no (by rw [he]; decide), he]
    exact hc
  by_cases hL : eoLen s ≤ 19
  case neg =>
    exact hno (by simp [eoFits, hL]) (rentryOf_far s h28 (eoLen s) rfl (by omega) w)
  have hx : (s.extract 1 20).extract (eoLen s) 19 = s.extract (1 + eoLen s) 20 := by
    rw [ByteArray.extract_extract]; rfl
  have hq := noughts_allE (s.extract (1 + eoLen s) 20) (19 - eoLen s) (by simp [h28]; omega)
  have hnm : eoName s = s.extract 1 (1 + eoLen s) := by
    rw [eoName, ByteArray.extract_extract, Nat.min_eq_left (by omega)]
  by_cases h4 : allZ (s.extract (1 + eoLen s) 20) = true
  case neg =>
    exact hno (by simp [eoFits, hx, h4]) (rentryOf_rest s h28 (eoLen s) rfl hL (by rw [hq]; exact Bool.eq_false_iff.2 h4) w)
  obtain ⟨x0, hx0⟩ : ∃ x, x = leVal ((s.data.toList.drop 20).take 4) := ⟨_, rfl⟩
  obtain ⟨x1, hx1⟩ : ∃ x, x = leVal ((s.data.toList.drop 24).take 4) := ⟨_, rfl⟩
  have hfit : eoFits s = entFree (s.extract 1 (1 + eoLen s)) x0 x1 := by
    rw [eoFits, hx, h4, hnm, ← hx0, ← hx1]; simp [hL]
  have hzz : ((s.extract (1 + eoLen s) 20).toList == (noughtsS (19 - eoLen s)).toList) = true := by rw [hq]; exact h4
  by_cases hu : eoLen s ≠ 0 ∨ (x0 = 0 ∧ x1 = 0)
  · have hy : eoFits s = true := by
      rw [hfit]
      rcases hu with hu | ⟨rfl, rfl⟩
      · have h3 : ¬ min (1 + eoLen s) s.size - 1 = 0 := by omega
        simp [entFree, h3]
      · simp [entFree]
    have he : entryOE s = 0 := by rw [entryOE, if_neg h1, if_neg h2, if_pos hy]
    rw [entryOC_yes he, he, entryCells, hnm, ← hx0, ← hx1]
    exact rentryOf_full s h28 (eoLen s) rfl hL hzz x0 x1 hx0 hx1 (by
      by_cases h0 : eoLen s = 0
      · exact .inr ⟨by simp [h0], by omega, by omega⟩
      · exact .inl h0) w
  have h0 : eoLen s = 0 := by omega
  have hny : ¬ eoFits s = true := by
    rw [hfit, h0]
    simp [entFree]
    omega
  rw [h0] at hzz
  by_cases hu0 : x0 = 0
  · exact hno hny (rentryOf_used2 s h28 h0.symm hzz x0 x1 hx0 hx1 hu0 (by omega) w)
  · exact hno hny (rentryOf_used1 s h28 h0.symm hzz x0 x1 hx0 hx1 hu0 w)
end Go.Proofs.YtndjnecjnfcapaaDoor
