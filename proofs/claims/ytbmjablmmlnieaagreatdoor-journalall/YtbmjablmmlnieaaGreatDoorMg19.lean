/- A head that is loaded whole, and stored number by number. · block's Open: of any vault whose Open is told. · A new ideal vault has numbered nothing; and chapter 5's example. -/
import Derived.Test.YtbmjablmmlnieaaGreatDoorMg01
import Derived.Test.YtbmjablmmlnieaaGreatDoorMg09
import Derived.Test.YtbmjablmmlnieaaGreatDoorMg07
namespace Go.Proofs.YtbmjablmmlnieaaGreatDoor
set_option maxRecDepth 20000
open Go.RowKit Go.Lib

theorem load_head (w : World) (g : Nat) (cs : Array Value) (hg : w.heap[g]? = some (.cells cs 79 (0, 0))) (hs : cs.size = 8) :
    (loadVar 79 ⟨g, 0, none⟩).run Tryz.prog w = .ok (.agg cs) w :=
  run_loadVar_row (P := Tryz.prog) w g 79 79 cs (0, 0) _ hg Tryz.underlying79 rfl (by rw [hs]; kernel_rfl)

theorem set8 (w : World) (g : Nat) (t : TypeId) (v0 v1 v2 v3 v4 v5 v6 v7 : Value) (h : w.heap[g]? = some (.cells #[.int .i64 0, .int .i64 0, .int .i64 0, .int .i64 0, .int .i64 0, .int .i64 0, .int .i64 0, .int .i64 0] t (0, 0))) :
    ((((((((w.setCell ⟨g, 0, none⟩ v0).setCell ⟨g, 1, none⟩ v1).setCell ⟨g, 2, none⟩ v2).setCell ⟨g, 3, none⟩ v3).setCell ⟨g, 4, none⟩ v4).setCell ⟨g, 5, none⟩ v5).setCell ⟨g, 6, none⟩ v6).setCell ⟨g, 7, none⟩ v7).heap[g]? = some (.cells #[v0, v1, v2, v3, v4, v5, v6, v7] t (0, 0)) := by
  have e0 := heap_setCell_same w g 0 _ t v0 h
  have e1 := heap_setCell_same _ g 1 _ t v1 e0
  have e2 := heap_setCell_same _ g 2 _ t v2 e1
  have e3 := heap_setCell_same _ g 3 _ t v3 e2
  have e4 := heap_setCell_same _ g 4 _ t v4 e3
  have e5 := heap_setCell_same _ g 5 _ t v5 e4
  have e6 := heap_setCell_same _ g 6 _ t v6 e5
  have e7 := heap_setCell_same _ g 7 _ t v7 e6
  exact e7.trans (by simp)
theorem below8 {w w0 : World} {g : Nat} (h : Below g w0 w) (v0 v1 v2 v3 v4 v5 v6 v7 : Value) : Below g w0 ((((((((w.setCell ⟨g, 0, none⟩ v0).setCell ⟨g, 1, none⟩ v1).setCell ⟨g, 2, none⟩ v2).setCell ⟨g, 3, none⟩ v3).setCell ⟨g, 4, none⟩ v4).setCell ⟨g, 5, none⟩ v5).setCell ⟨g, 6, none⟩ v6).setCell ⟨g, 7, none⟩ v7) :=
  (((((((h.setCell (p := ⟨g, 0, none⟩) (Nat.le_refl _) v0).setCell (p := ⟨g, 1, none⟩) (Nat.le_refl _) v1).setCell (p := ⟨g, 2, none⟩) (Nat.le_refl _) v2).setCell (p := ⟨g, 3, none⟩) (Nat.le_refl _) v3).setCell (p := ⟨g, 4, none⟩) (Nat.le_refl _) v4).setCell (p := ⟨g, 5, none⟩) (Nat.le_refl _) v5).setCell (p := ⟨g, 6, none⟩) (Nat.le_refl _) v6).setCell (p := ⟨g, 7, none⟩) (Nat.le_refl _) v7
end Go.Proofs.YtbmjablmmlnieaaGreatDoor

namespace Go.Proofs.YtbmjablmmlnieaaGreatDoor
set_option maxRecDepth 20000
open Go.RowKit Go.Lib

theorem bheadOf_any (s : ByteArray) (w : World) : Calls Tryz.prog 106 #[.string s] w fun e w' => e = .returned (.tuple #[.agg #[.int .i64 (hdOf s).v0, .int .i64 (hdOf s).v1, .int .i64 (hdOf s).v2, .int .i64 (hdOf s).v3, .int .i64 (hdOf s).v4, .int .i64 (hdOf s).v5, .int .i64 (hdOf s).v6, .int .i64 (hdOf s).v7], .int .i64 (headE s)]) ∧ Below w.heap.size w w' := headOf_any s w
/-- Open's answer. -/
theorem open_ret (tmps : Array Value) (w w' : World) (t : ByteArray) (y : Int) (cs : Array Value) (h1 : tmps.getD 4 undef = .pointer (some ⟨w.heap.size, 0, none⟩)) (h2 : tmps.getD 5 undef = .string t) (h3 : tmps.getD 6 undef = .int .i64 y) (hg : w'.heap[w.heap.size]? = some (.cells cs 79 (0, 0))) (hs : cs.size = 8) (hb : Below w.heap.size w w') :
    bodyPost Tryz.prog Tryz.f112 (fun e w'' => e = .returned (.tuple #[.agg cs, .string t, .int .i64 y]) ∧ Below w.heap.size w w'') .ret { tmps := tmps, defers := [] } w' := by
  have hr := load_head w' w.heap.size cs hg hs
  simp at h1 h2 h3
  exact bodyPost_ret (v := .tuple #[.agg cs, .string t, .int .i64 y]) (by simp [results, Tryz.results112, asAddr, hr, h1, h2, h3]) rfl ⟨rfl, hb⟩

set_option maxHeartbeats 1000000 in
theorem bopen_short (v : Value) (r : ByteArray) (hr : ¬ r.size = 512) (w : World) : Calls Tryz.prog 112 #[v, .string r] w fun e w' => e = .returned (.tuple #[.agg Hd.zero.arr, .string ⟨#[]⟩, .int .i64 1]) ∧ Below w.heap.size w w' := by
  have hw := fun w => whole_any r w
  rw [decide_eq_false hr] at hw
  simp only [Hd.arr, Hd.zero]
  have hb := (Below.refl w.heap.size w).alloc (Nat.le_refl _) (.cells #[.int .i64 0, .int .i64 0, .int .i64 0, .int .i64 0, .int .i64 0, .int .i64 0, .int .i64 0, .int .i64 0] 79)
  have g0 := heap_alloc_new w (.cells #[.int .i64 0, .int .i64 0, .int .i64 0, .int .i64 0, .int .i64 0, .int .i64 0, .int .i64 0, .int .i64 0] 79)
  have HG : Hid _ := g0
  have HB : Hid _ := hb
  clear hb g0
  go_enter Tryz.func112, Tryz.ntmps112
  go_wp2_with fail
  refine (hw _).mono ?_
  rintro e w1 ⟨rfl, rfl⟩
  clear hw
  go_wp2_with fail
  exact open_ret _ w _ ⟨#[]⟩ 1 _ rfl rfl rfl HG.out rfl HB.out
set_option maxHeartbeats 2000000 in
theorem bopen_gen (v : Value) (r T : ByteArray) (E : Int) (w : World) (hr : r.size = 512) (he : headE (r.extract 0 48) = 0)
    (hv : ∀ w', Below w.heap.size w w' → Calls Tryz.prog 69 #[v, .int .i64 (hdOf (r.extract 0 48)).v7, .string (hdOf (r.extract 0 48)).nonce, .string (r.extract 0 48), .string (r.extract 48 512)] w' fun e w'' => e = .returned (.tuple #[.string T, .int .i64 E]) ∧ Below w'.heap.size w' w'') :
    Calls Tryz.prog 112 #[v, .string r] w fun e w' => e = .returned (.tuple #[.agg (if E = 0 then (hdOf (r.extract 0 48)).arr else Hd.zero.arr), .string (if E = 0 then T else ⟨#[]⟩), .int .i64 E]) ∧ Below w.heap.size w w' := by
  have hw := fun w => whole_any r w
  rw [decide_eq_true hr] at hw
  have hh := fun w => bheadOf_any (r.extract 0 48) w
  rw [he] at hh
  have hn := fun w => nonce_any (hdOf (r.extract 0 48)) w
  generalize hdOf (r.extract 0 48) = h at *
  generalize h.nonce = n at *
  generalize hx : r.extract 0 48 = x at *
  generalize hy : r.extract 48 512 = y at *
  simp only [Hd.arr, Hd.zero] at hn ⊢
  have hr1 : (48 : Int) ≤ r.size := by omega
  by_cases hE : E = 0
  case' pos => subst hE; simp only [if_true]
  case' neg => have hE' : (E != 0) = true := bne_iff_ne.2 hE; simp only [hE, if_false]
  all_goals
    go_enter Tryz.func112, Tryz.ntmps112
    go_wp2_with fail
    refine (hw _).mono ?_
    rintro e w1 ⟨rfl, rfl⟩
    clear hw
    go_wp2_with fail
    go_quiet (fail)
    try rw [hx, hy]
    go_wp2_with fail
    refine (hh _).mono ?_
    rintro e w2 ⟨rfl, hb2⟩
    have gz : w2.heap[w.heap.size]? = some (.cells #[.int .i64 0, .int .i64 0, .int .i64 0, .int .i64 0, .int .i64 0, .int .i64 0, .int .i64 0, .int .i64 0] 79 (0, 0)) := (hb2.block w.heap.size (by simp)).trans (heap_alloc_new w _)
    have hlt : w.heap.size < w2.heap.size := lt_of_block gz
    have hbw : Below w.heap.size w w2 := (below_drewN ((Below.refl _ _).alloc (Nat.le_refl _) _) nq).trans (hb2.mono (by simp))
    clear hb2 hh
    obtain ⟨w3, hw3⟩ : ∃ w3, w2.alloc (.cells #[.int .i64 h.v0, .int .i64 h.v1, .int .i64 h.v2, .int .i64 h.v3, .int .i64 h.v4, .int .i64 h.v5, .int .i64 h.v6, .int .i64 h.v7] 79) = w3 := ⟨_, rfl⟩
    have g3 : w3.heap[w2.heap.size]? = some (.cells #[.int .i64 h.v0, .int .i64 h.v1, .int .i64 h.v2, .int .i64 h.v3, .int .i64 h.v4, .int .i64 h.v5, .int .i64 h.v6, .int .i64 h.v7] 79 (0, 0)) := by rw [← hw3]; exact heap_alloc_new w2 _
    have gz3 : w3.heap[w.heap.size]? = some (.cells #[.int .i64 0, .int .i64 0, .int .i64 0, .int .i64 0, .int .i64 0, .int .i64 0, .int .i64 0, .int .i64 0] 79 (0, 0)) := by rw [← hw3]; exact (Below.heap_alloc _ _ _ hlt).trans gz
    have hlt3 : w2.heap.size < w3.heap.size := lt_of_block g3
    have HB3 : Hid (Below w.heap.size w w3) := by rw [← hw3]; exact hbw.alloc (Nat.le_of_lt hlt) _
    clear hbw gz
    have c0 : w3.cell? ⟨w2.heap.size, 0, none⟩ = some (.int .i64 h.v0) := cell_of_row _ _ _ _ _ _ g3
    have c1 : w3.cell? ⟨w2.heap.size, 1, none⟩ = some (.int .i64 h.v1) := cell_of_row _ _ _ _ _ _ g3
    have c2 : w3.cell? ⟨w2.heap.size, 2, none⟩ = some (.int .i64 h.v2) := cell_of_row _ _ _ _ _ _ g3
    have c3 : w3.cell? ⟨w2.heap.size, 3, none⟩ = some (.int .i64 h.v3) := cell_of_row _ _ _ _ _ _ g3
    have c4 : w3.cell? ⟨w2.heap.size, 4, none⟩ = some (.int .i64 h.v4) := cell_of_row _ _ _ _ _ _ g3
    have c5 : w3.cell? ⟨w2.heap.size, 5, none⟩ = some (.int .i64 h.v5) := cell_of_row _ _ _ _ _ _ g3
    have c6 : w3.cell? ⟨w2.heap.size, 6, none⟩ = some (.int .i64 h.v6) := cell_of_row _ _ _ _ _ _ g3
    have c7 : w3.cell? ⟨w2.heap.size, 7, none⟩ = some (.int .i64 h.v7) := cell_of_row _ _ _ _ _ _ g3
    clear g3
    go_wp2_with fail
    try rw [hw3]
    clear hw3
    go_region_held3 (fun w' => w'.cell? ⟨w2.heap.size, 0, none⟩ = some (.int .i64 h.v0) ∧ w'.cell? ⟨w2.heap.size, 1, none⟩ = some (.int .i64 h.v1) ∧ w'.cell? ⟨w2.heap.size, 2, none⟩ = some (.int .i64 h.v2) ∧ w'.cell? ⟨w2.heap.size, 3, none⟩ = some (.int .i64 h.v3) ∧ w'.cell? ⟨w2.heap.size, 4, none⟩ = some (.int .i64 h.v4) ∧ w'.cell? ⟨w2.heap.size, 5, none⟩ = some (.int .i64 h.v5) ∧ w'.cell? ⟨w2.heap.size, 6, none⟩ = some (.int .i64 h.v6) ∧ w'.cell? ⟨w2.heap.size, 7, none⟩ = some (.int .i64 h.v7)) (simp [go_sem, *])
      (first | (go_at_call 111; refine (hn _).mono ?_; rintro e wA ⟨rfl, hbA⟩; have HA : Hid (Below w.heap.size w wA) := HB3.out.drew.trans (hbA.mono HB3.out.size); have hk : ∀ i, wA.cell? ⟨w2.heap.size, i, none⟩ = w3.cell? ⟨w2.heap.size, i, none⟩ := fun i => hbA.cell (p := ⟨w2.heap.size, i, none⟩) hlt3) | (go_at_call 69; refine (hv _ HA.out).mono ?_; rintro e wB ⟨rfl, hbB⟩; have hk2 : ∀ i, wB.cell? ⟨w2.heap.size, i, none⟩ = w3.cell? ⟨w2.heap.size, i, none⟩ := fun i => (hbB.cell (p := ⟨w2.heap.size, i, none⟩) (Nat.lt_of_lt_of_le hlt3 hbA.size)).trans (hk i)))
    have gB : wB.heap[w.heap.size]? = some (.cells #[.int .i64 0, .int .i64 0, .int .i64 0, .int .i64 0, .int .i64 0, .int .i64 0, .int .i64 0, .int .i64 0] 79 (0, 0)) := ((hbB.block _ (Nat.lt_of_lt_of_le (Nat.lt_trans hlt hlt3) hbA.size)).trans (hbA.block _ (Nat.lt_trans hlt hlt3))).trans gz3
    have HBB : Hid (Below w.heap.size w wB) := HA.out.trans (hbB.mono HA.out.size)
    have hrow : ∀ cs, Below w.heap.size w (wB.setRow w.heap.size cs) := fun cs => HBB.out.trans ⟨rfl, rfl, rfl, by simp [World.setRow], fun k hk => setRow_other _ _ _ _ (by omega)⟩
    clear hbA hbB HA HBB hk gz3 hv hn
  · go_wp2_with (refine wpList_store_row rfl 79 _ _ rfl w.heap.size #[.int .i64 0, .int .i64 0, .int .i64 0, .int .i64 0, .int .i64 0, .int .i64 0, .int .i64 0, .int .i64 0] rfl rfl 79 _ gB (by kernel_rfl) rfl (by simp [Value.oneCell']) ?_)
    exact open_ret _ w _ ⟨#[]⟩ E #[.int .i64 0, .int .i64 0, .int .i64 0, .int .i64 0, .int .i64 0, .int .i64 0, .int .i64 0, .int .i64 0] rfl rfl rfl (setRow_heap _ _ _ _ _ _ gB) rfl (hrow _)
  · go_wp2_with (refine wpList_store_row rfl 79 _ _ rfl w.heap.size #[.int .i64 h.v0, .int .i64 h.v1, .int .i64 h.v2, .int .i64 h.v3, .int .i64 h.v4, .int .i64 h.v5, .int .i64 h.v6, .int .i64 h.v7] rfl rfl 79 _ gB (by kernel_rfl) rfl (by simp [Value.oneCell']) ?_)
    exact open_ret _ w _ T 0 #[.int .i64 h.v0, .int .i64 h.v1, .int .i64 h.v2, .int .i64 h.v3, .int .i64 h.v4, .int .i64 h.v5, .int .i64 h.v6, .int .i64 h.v7] rfl rfl rfl (setRow_heap _ _ _ _ _ _ gB) rfl (hrow _)
end Go.Proofs.YtbmjablmmlnieaaGreatDoor

namespace Go.Proofs.YtbmjablmmlnieaaGreatDoor
set_option maxRecDepth 20000
open Go.RowKit Go.Maps

def newV : VS := ⟨[], [], []⟩
theorem heap_map_new (w : World) (o : Obj) : (w.alloc o).heap[w.heap.size]? = some o := (MapKept.heap_alloc w o).1
set_option maxHeartbeats 1000000 in
theorem newN_any (w : World) : Calls Tryz.prog 31 #[] w fun e w' => e = .returned (.pointer (some ⟨w.heap.size + 3, 0, none⟩)) ∧ w' = (((w.alloc (.map #[] 0)).alloc (.map #[] 0)).alloc (.map #[] 0)).alloc (.cells #[.map (some w.heap.size), .map (some (w.heap.size + 1)), .map (some (w.heap.size + 2))] 136) := by
  have hmm := @run_makeMap Tryz.prog
  go_enter Tryz.func31, Tryz.ntmps31
  go_wp2
  go_ret
  exact ⟨rfl, rfl⟩

theorem nums_alloc {α : Type} [DecidableEq α] {key : α → Value} {K : TypeId} {w : World} {b : Nat} {l : List α} (h : Nums key K w b l) (o : Obj) : Nums key K (w.alloc o) b l := h.keep (Below.heap_alloc w o b h.lt)
theorem ideal_lies (w : World) : Ideal (((((w.alloc (.map #[] 0)).alloc (.map #[] 0)).alloc (.map #[] 0)).alloc (.cells #[.map (some w.heap.size), .map (some (w.heap.size + 1)), .map (some (w.heap.size + 2))] 136)).alloc (.cells #[.iface 84 (.pointer (some ⟨w.heap.size + 3, 0, none⟩))] 89)) (fun k => w.heap.size ≤ k ∧ k < w.heap.size + 5) (w.heap.size + 4) newV := by
  have s1 : (w.alloc (.map #[] 0)).heap.size = w.heap.size + 1 := by simp
  have s2 : ((w.alloc (.map #[] 0)).alloc (.map #[] 0)).heap.size = w.heap.size + 2 := by simp
  have s3 : (((w.alloc (.map #[] 0)).alloc (.map #[] 0)).alloc (.map #[] 0)).heap.size = w.heap.size + 3 := by simp
  have s4 : ((((w.alloc (.map #[] 0)).alloc (.map #[] 0)).alloc (.map #[] 0)).alloc (.cells #[.map (some w.heap.size), .map (some (w.heap.size + 1)), .map (some (w.heap.size + 2))] 136)).heap.size = w.heap.size + 4 := by simp
  have n1 := Nums.made keyT 271 w
  have n2 := Nums.made keyM 281 (w.alloc (.map #[] 0))
  have n3 := Nums.made keyS 274 ((w.alloc (.map #[] 0)).alloc (.map #[] 0))
  rw [s1] at n2
  rw [s2] at n3
  refine ⟨w.heap.size + 3, w.heap.size, w.heap.size + 1, w.heap.size + 2, ?_, ?_, nums_alloc (nums_alloc (nums_alloc (nums_alloc n1 _) _) _) _, nums_alloc (nums_alloc (nums_alloc n2 _) _) _, nums_alloc (nums_alloc n3 _) _, by omega, by omega, by omega, by omega, by omega, by omega, by omega, by omega⟩
  · have := heap_map_new ((((w.alloc (.map #[] 0)).alloc (.map #[] 0)).alloc (.map #[] 0)).alloc (.cells #[.map (some w.heap.size), .map (some (w.heap.size + 1)), .map (some (w.heap.size + 2))] 136)) (.cells #[.iface 84 (.pointer (some ⟨w.heap.size + 3, 0, none⟩))] 89)
    rw [s4] at this
    exact this
  · have := heap_map_new (((w.alloc (.map #[] 0)).alloc (.map #[] 0)).alloc (.map #[] 0)) (.cells #[.map (some w.heap.size), .map (some (w.heap.size + 1)), .map (some (w.heap.size + 2))] 136)
    rw [s3] at this
    exact (Below.heap_alloc _ _ _ (by omega)).trans this
theorem ideal_any (w : World) : Calls Tryz.prog 14 #[] w fun e w' => ∃ B, e = .returned (.pointer (some ⟨B, 0, none⟩)) ∧ Ideal w' (fun k => w.heap.size ≤ k ∧ k < w'.heap.size) B newV ∧ Below w.heap.size w w' := by
  have HI : Hid _ := ideal_lies w
  have HB : Hid (Below w.heap.size w (((((w.alloc (.map #[] 0)).alloc (.map #[] 0)).alloc (.map #[] 0)).alloc (.cells #[.map (some w.heap.size), .map (some (w.heap.size + 1)), .map (some (w.heap.size + 2))] 136)).alloc (.cells #[.iface 84 (.pointer (some ⟨w.heap.size + 3, 0, none⟩))] 89))) :=
    (((((Below.refl w.heap.size w).alloc (Nat.le_refl _) _).alloc (by simp) _).alloc (by simp; omega) _).alloc (by simp; omega) _).alloc (by simp; omega) _
  go_enter Tryz.func14, Tryz.ntmps14
  go_wp2_with fail
  refine (newN_any w).mono ?_
  rintro e w1 ⟨rfl, rfl⟩
  go_wp2
  go_ret
  refine ⟨w.heap.size + 4, rfl, ?_, HB.out⟩
  refine Ideal.mono HI.out fun k _ h => ⟨h.1, ?_⟩
  have := h.2
  simp
  omega
theorem awake_1 : hashS newV ⟨#[120]⟩ = ⟨#[1, 0, 0, 0, 0, 0, 0, 0, 0, 0, 0, 0, 0, 0, 0, 0, 0, 0, 0, 0, 0, 0, 0, 0, 0, 0, 0, 0, 0, 0, 0, 0]⟩ := by decide
theorem awake_2 : hashS (hashP newV ⟨#[120]⟩) ⟨#[121]⟩ = ⟨#[2, 0, 0, 0, 0, 0, 0, 0, 0, 0, 0, 0, 0, 0, 0, 0, 0, 0, 0, 0, 0, 0, 0, 0, 0, 0, 0, 0, 0, 0, 0, 0]⟩ := by decide
theorem awake_3 : hashS (hashP (hashP newV ⟨#[120]⟩) ⟨#[121]⟩) ⟨#[120]⟩ = ⟨#[1, 0, 0, 0, 0, 0, 0, 0, 0, 0, 0, 0, 0, 0, 0, 0, 0, 0, 0, 0, 0, 0, 0, 0, 0, 0, 0, 0, 0, 0, 0, 0]⟩ := by decide
theorem awake_l : (hashP newV ⟨#[120]⟩).texts.length ≤ 1000000 ∧ (hashP (hashP newV ⟨#[120]⟩) ⟨#[121]⟩).texts.length ≤ 1000000 := by decide
end Go.Proofs.YtbmjablmmlnieaaGreatDoor
