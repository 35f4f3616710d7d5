/- journal's promiseIn: what a reading promises. · journal's recorded: so many of the journal's records. · journal's headed and together. · journal's Found over any vault that is told. · journal's Found where a promise reads well, and its records do not. -/
import Derived.Test.YtoopaigpjefonaaGreatDoorMg11
import Derived.Test.YtoopaigpjefonaaGreatDoorMg13
import Derived.Laws.Small
import Derived.Test.YtoopaigpjefonaaGreatDoorMg12
import Derived.BigQuiet
import Derived.Deep.RegionHeld3
namespace Go.Proofs.YtoopaigpjefonaaGreatDoor
set_option maxRecDepth 20000
open Go.RowKit

theorem jpri_ret (tmps : Array Value) (g : Nat) (w' : World) (c : Int) (cs : Array Value) (b : Bool) (R : Ending → World → Prop) (h0 : tmps.getD 4 undef = .int .i64 c) (h1 : tmps.getD 5 undef = .pointer (some ⟨g, 0, none⟩)) (h2 : tmps.getD 6 undef = .bool b) (hg : w'.heap[g]? = some (.cells cs 23 (0, 0))) (hs : cs.size = 5) (hR : R (.returned (.tuple #[.int .i64 c, .agg cs, .bool b])) w') :
    bodyPost Tryz.prog Tryz.f103 R .ret { tmps := tmps, defers := [] } w' := by
  have hr := run_loadVar_row (P := Tryz.prog) w' g 23 23 cs (0, 0) _ hg Tryz.underlying23 rfl (by rw [hs]; kernel_rfl)
  simp at h0 h1 h2
  exact bodyPost_ret (v := .tuple #[.int .i64 c, .agg cs, .bool b]) (by simp [results, Tryz.results103, asAddr, hr, h0, h1, h2]) rfl hR
theorem set5 {w : World} {b t : Nat} {z0 z1 z2 z3 z4 : Value} (h : w.heap[b]? = some (.cells #[z0, z1, z2, z3, z4] t (0, 0))) (v0 v1 v2 v3 v4 : Value) :
    (((((w.setCell ⟨b, 0, none⟩ v0).setCell ⟨b, 1, none⟩ v1).setCell ⟨b, 2, none⟩ v2).setCell ⟨b, 3, none⟩ v3).setCell ⟨b, 4, none⟩ v4).heap[b]? = some (.cells #[v0, v1, v2, v3, v4] t (0, 0)) := by
  have h0 := heap_setCell_same w b 0 _ _ v0 h
  have h1 := heap_setCell_same _ b 1 _ _ v1 h0
  have h2 := heap_setCell_same _ b 2 _ _ v2 h1
  have h3 := heap_setCell_same _ b 3 _ _ v3 h2
  exact heap_setCell_same _ b 4 _ _ v4 h3
/-- The text of a promise's superblock. -/
theorem piT_pad (r : Rg) (h : r.body.size = 448) : padE (r.body.extract 34 448) 448 = 0 := by
  have : (r.body.extract 34 448).size = 414 := by simp [h]
  unfold padE
  rw [this]
  rfl
set_option maxHeartbeats 800000 in
theorem jpri_in (ok : Bool) (h : Hd) (s T : ByteArray) (N : Int) (c : Sp) (y : Int) (live : Int) (w : World) (hs : ok = true → s.size = 448)
    (hg : ok = true → ∀ w, Calls Tryz.prog 144 #[.string s, .int .i64 0, .int .i64 2] w fun e w' => e = .returned (.tuple #[.int .i64 N, .int .i64 0]) ∧ w' = w)
    (hp : ok = true → ∀ w, Calls Tryz.prog 93 #[.string (s.extract 34 448), .int .i64 448] w fun e w' => e = .returned (.tuple #[.string T, .int .i64 0]) ∧ Below w.heap.size w w')
    (ho : ∀ w, Calls Tryz.prog 138 #[.string T] w fun e w' => e = .returned (.tuple #[.agg c.arr, .int .i64 y]) ∧ Below w.heap.size w w')
    (P1 : Int) (P2 : Array Value) (P3 : Bool) (hyes : (ok = true ∧ h.v2 = 2 ∧ N ≤ 24 ∧ y = 0 ∧ c.lv = live) → P1 = N ∧ P2 = c.arr ∧ P3 = true) (hno : ¬ (ok = true ∧ h.v2 = 2 ∧ N ≤ 24 ∧ y = 0 ∧ c.lv = live) → P1 = 0 ∧ P2 = Sp.zero.arr ∧ P3 = false) :
    Calls Tryz.prog 103 #[.agg #[.bool ok, .int .i64 h.v0, .int .i64 h.v1, .int .i64 h.v2, .int .i64 h.v3, .int .i64 h.v4, .int .i64 h.v5, .int .i64 h.v6, .int .i64 h.v7, .string s], .int .i64 live] w fun e w' => e = .returned (.tuple #[.int .i64 P1, .agg P2, .bool P3]) ∧ Below w.heap.size w w' := by
  obtain ⟨c0, c1, c2, c3, r⟩ := c
  unfold Sp.arr at ho
  have HY : Hid ((ok = true ∧ h.v2 = 2 ∧ N ≤ 24 ∧ y = 0 ∧ c3 = live) → P1 = N ∧ P2 = #[.int .i64 c0, .int .i64 c1, .int .i64 c2, .int .i64 c3, .string r] ∧ P3 = true) := hyes
  have HN : Hid (¬ (ok = true ∧ h.v2 = 2 ∧ N ≤ 24 ∧ y = 0 ∧ c3 = live) → P1 = 0 ∧ P2 = #[.int .i64 0, .int .i64 0, .int .i64 0, .int .i64 0, .string ⟨#[]⟩] ∧ P3 = false) := hno
  clear hyes hno
  have hb0 : Below w.heap.size w ((w.alloc (.cells #[.bool ok, .int .i64 h.v0, .int .i64 h.v1, .int .i64 h.v2, .int .i64 h.v3, .int .i64 h.v4, .int .i64 h.v5, .int .i64 h.v6, .int .i64 h.v7, .string s] 125)).alloc (.cells #[.int .i64 0, .int .i64 0, .int .i64 0, .int .i64 0, .string ⟨#[]⟩] 23)) := ((Below.refl _ _).alloc (Nat.le_refl _) _).alloc (by simp) _
  by_cases h1 : ok = true ∧ h.v2 = 2
  case neg =>
    have HE : Hid _ := HN.out (fun h => h1 ⟨h.1, h.2.1⟩)
    have HB : Hid _ := hb0
    clear ho hb0 hg hp hs
    cases ok with
    | false =>
      go_enter Tryz.func103, Tryz.ntmps103
      go_wp2
      exact jpri_ret _ (w.heap.size + 1) _ 0 #[.int .i64 0, .int .i64 0, .int .i64 0, .int .i64 0, .string ⟨#[]⟩] false _ rfl rfl rfl (heap_alloc2_new w _ _) rfl ⟨by rw [HE.out.1, HE.out.2.1, HE.out.2.2], HB.out⟩
    | true =>
      have k2 : (h.v2 != 2) = true := by simp; exact fun e => h1 ⟨rfl, e⟩
      clear h1
      go_enter Tryz.func103, Tryz.ntmps103
      go_wp2
      exact jpri_ret _ (w.heap.size + 1) _ 0 #[.int .i64 0, .int .i64 0, .int .i64 0, .int .i64 0, .string ⟨#[]⟩] false _ rfl rfl rfl (heap_alloc2_new w _ _) rfl ⟨by rw [HE.out.1, HE.out.2.1, HE.out.2.2], HB.out⟩
  obtain ⟨rfl, h2⟩ := h1
  have k2 : (h.v2 != 2) = false := by simp [h2]
  have hgc := hg rfl
  have hpc := hp rfl
  have hsc := hs rfl
  clear hg hp hs
  have hs34 : (34 : Int) ≤ s.size := by omega
  have hcut : s.extract 34 s.size = s.extract 34 448 := by rw [hsc]
  by_cases hN : N ≤ 24
  case neg =>
    have HE : Hid _ := HN.out (fun h => hN h.2.2.1)
    have k3 : decide (N > 24) = true := by simp; omega
    have k4 : decide (24 < N) = true := by simp; omega
    have HB : Hid _ := hb0
    clear ho hb0 hpc h2 hN hcut hs34
    go_enter Tryz.func103, Tryz.ntmps103
    go_wp2_with fail
    refine (hgc _).mono ?_
    rintro e w1 ⟨rfl, rfl⟩
    clear hgc
    go_wp2
    exact jpri_ret _ (w.heap.size + 1) _ 0 #[.int .i64 0, .int .i64 0, .int .i64 0, .int .i64 0, .string ⟨#[]⟩] false _ rfl rfl rfl (heap_alloc2_new w _ _) rfl ⟨by rw [HE.out.1, HE.out.2.1, HE.out.2.2], HB.out⟩
  have k4 : decide (24 < N) = false := by simp; omega
  have H2 : Hid (h.v2 = 2 ∧ N ≤ 24) := ⟨h2, hN⟩
  clear h2 hN
  go_enter Tryz.func103, Tryz.ntmps103
  go_wp2_with fail
  refine (hgc _).mono ?_
  rintro e w1 ⟨rfl, rfl⟩
  clear hgc
  go_wp2_with fail
  try rw [hcut]
  refine (hpc _).mono ?_
  rintro e w1 ⟨rfl, hb1⟩
  have hbw1 := hb0.trans (hb1.mono hb0.size)
  have g1 := (hb1.block (w.heap.size + 1) (by simp)).trans (heap_alloc2_new w _ _)
  clear hpc hb0 hb1 hcut hs34
  go_wp2_with fail
  refine (ho _).mono ?_
  rintro e w2 ⟨rfl, hb2⟩
  have hlt1 := lt_of_block g1
  have hbw2 := hbw1.trans (hb2.mono hbw1.size)
  have g2 := (hb2.block (w.heap.size + 1) hlt1).trans g1
  have hlt2 := lt_of_block g2
  have g3 : (w2.alloc (.cells #[.int .i64 c0, .int .i64 c1, .int .i64 c2, .int .i64 c3, .string r] 23)).heap[w.heap.size + 1]? = some (.cells #[.int .i64 0, .int .i64 0, .int .i64 0, .int .i64 0, .string ⟨#[]⟩] 23 (0, 0)) := (Below.heap_alloc _ _ _ hlt2).trans g2
  have gc : (w2.alloc (.cells #[.int .i64 c0, .int .i64 c1, .int .i64 c2, .int .i64 c3, .string r] 23)).heap[w2.heap.size]? = some (.cells #[.int .i64 c0, .int .i64 c1, .int .i64 c2, .int .i64 c3, .string r] 23 (0, 0)) := heap_alloc_new w2 _
  have hb3 : Below w.heap.size w (w2.alloc (.cells #[.int .i64 c0, .int .i64 c1, .int .i64 c2, .int .i64 c3, .string r] 23)) := hbw2.alloc (by omega) _
  clear ho hb2 hbw1 g1 hlt1
  by_cases h3 : y = 0 ∧ c3 = live
  · obtain ⟨rfl, h4⟩ := h3
    have k5 : (c3 != live) = false := by simp [h4]
    have hall : true = true ∧ h.v2 = 2 ∧ N ≤ 24 ∧ (0 : Int) = 0 ∧ c3 = live := ⟨rfl, H2.out.1, H2.out.2, rfl, h4⟩
    have HE : Hid _ := HY.out ⟨trivial, hall.2⟩
    clear h4 hall
    have q0 : w2.cell? ⟨w.heap.size + 1, 0, none⟩ = some (.int .i64 0) := cell_of_row _ _ 0 _ _ _ g2
    have q1 : w2.cell? ⟨w.heap.size + 1, 1, none⟩ = some (.int .i64 0) := cell_of_row _ _ 1 _ _ _ g2
    have q2 : w2.cell? ⟨w.heap.size + 1, 2, none⟩ = some (.int .i64 0) := cell_of_row _ _ 2 _ _ _ g2
    have q3 : w2.cell? ⟨w.heap.size + 1, 3, none⟩ = some (.int .i64 0) := cell_of_row _ _ 3 _ _ _ g2
    have q4 : w2.cell? ⟨w.heap.size + 1, 4, none⟩ = some (.string ⟨#[]⟩) := cell_of_row _ _ 4 _ _ _ g2
    have f0 := frozen_of_row w2 (w.heap.size + 1) 0 _ _ g2
    have f1 := frozen_of_row w2 (w.heap.size + 1) 1 _ _ g2
    have f2 := frozen_of_row w2 (w.heap.size + 1) 2 _ _ g2
    have f3 := frozen_of_row w2 (w.heap.size + 1) 3 _ _ g2
    have f4 := frozen_of_row w2 (w.heap.size + 1) 4 _ _ g2
    have HG : Hid (w2.heap[w.heap.size + 1]? = some (.cells #[.int .i64 0, .int .i64 0, .int .i64 0, .int .i64 0, .string ⟨#[]⟩] 23 (0, 0)) ∧ Below w.heap.size w w2) := ⟨g2, hbw2⟩
    have hfin : Hid ((((((w2.setCell ⟨w.heap.size + 1, 0, none⟩ (.int .i64 c0)).setCell ⟨w.heap.size + 1, 1, none⟩ (.int .i64 c1)).setCell ⟨w.heap.size + 1, 2, none⟩ (.int .i64 c2)).setCell ⟨w.heap.size + 1, 3, none⟩ (.int .i64 c3)).setCell ⟨w.heap.size + 1, 4, none⟩ (.string r)).heap[w.heap.size + 1]? = some (.cells #[.int .i64 c0, .int .i64 c1, .int .i64 c2, .int .i64 c3, .string r] 23 (0, 0)) ∧ Below w.heap.size w (((((w2.setCell ⟨w.heap.size + 1, 0, none⟩ (.int .i64 c0)).setCell ⟨w.heap.size + 1, 1, none⟩ (.int .i64 c1)).setCell ⟨w.heap.size + 1, 2, none⟩ (.int .i64 c2)).setCell ⟨w.heap.size + 1, 3, none⟩ (.int .i64 c3)).setCell ⟨w.heap.size + 1, 4, none⟩ (.string r))) := ⟨set5 g2 _ _ _ _ _, ((((hbw2.setCell (p := ⟨w.heap.size + 1, 0, none⟩) (by simp) _).setCell (p := ⟨w.heap.size + 1, 1, none⟩) (by simp) _).setCell (p := ⟨w.heap.size + 1, 2, none⟩) (by simp) _).setCell (p := ⟨w.heap.size + 1, 3, none⟩) (by simp) _).setCell (p := ⟨w.heap.size + 1, 4, none⟩) (by simp) _⟩
    have HF2 : Hid (((((((w2.setCell ⟨w.heap.size + 1, 0, none⟩ (.int .i64 c0)).setCell ⟨w.heap.size + 1, 1, none⟩ (.int .i64 c1)).setCell ⟨w.heap.size + 1, 2, none⟩ (.int .i64 c2)).setCell ⟨w.heap.size + 1, 3, none⟩ (.int .i64 c3)).setCell ⟨w.heap.size + 1, 4, none⟩ (.string r)).alloc (.cells #[.int .i64 c0, .int .i64 c1, .int .i64 c2, .int .i64 c3, .string r] 23)).drew.heap[w.heap.size + 1]? = some (.cells #[.int .i64 c0, .int .i64 c1, .int .i64 c2, .int .i64 c3, .string r] 23 (0, 0)) ∧ Below w.heap.size w ((((((w2.setCell ⟨w.heap.size + 1, 0, none⟩ (.int .i64 c0)).setCell ⟨w.heap.size + 1, 1, none⟩ (.int .i64 c1)).setCell ⟨w.heap.size + 1, 2, none⟩ (.int .i64 c2)).setCell ⟨w.heap.size + 1, 3, none⟩ (.int .i64 c3)).setCell ⟨w.heap.size + 1, 4, none⟩ (.string r)).alloc (.cells #[.int .i64 c0, .int .i64 c1, .int .i64 c2, .int .i64 c3, .string r] 23)).drew) := ⟨(Below.heap_alloc (((((w2.setCell ⟨w.heap.size + 1, 0, none⟩ (.int .i64 c0)).setCell ⟨w.heap.size + 1, 1, none⟩ (.int .i64 c1)).setCell ⟨w.heap.size + 1, 2, none⟩ (.int .i64 c2)).setCell ⟨w.heap.size + 1, 3, none⟩ (.int .i64 c3)).setCell ⟨w.heap.size + 1, 4, none⟩ (.string r)) _ _ (lt_of_block hfin.out.1)).trans hfin.out.1, (hfin.out.2.alloc hfin.out.2.size _).drew⟩
    clear g3 gc hb3 g2 hbw2 HG hfin
    go_wp2_with fail
    go_region
    clear q0 q1 q2 q3 q4 f0 f1 f2 f3 f4
    go_wp2_with fail
    refine jpri_ret _ (w.heap.size + 1) _ N #[.int .i64 c0, .int .i64 c1, .int .i64 c2, .int .i64 c3, .string r] true _ rfl rfl rfl ?_ rfl ⟨?_, ?_⟩
    · exact HF2.out.1
    · rw [HE.out.1, HE.out.2.1, HE.out.2.2]
    · exact HF2.out.2
  · have hway : (y != 0) = true ∨ ((y != 0) = false ∧ (c3 != live) = true) := by
      by_cases e1 : y = 0
      · exact .inr ⟨by simp [e1], by simp; exact fun e3 => h3 ⟨e1, e3⟩⟩
      · exact .inl (by simpa using e1)
    have hall : ¬ (true = true ∧ h.v2 = 2 ∧ N ≤ 24 ∧ y = 0 ∧ c3 = live) := fun h => h3 h.2.2.2
    have HE : Hid _ := HN.out (fun h => hall ⟨rfl, h.2⟩)
    clear h3 gc hall hbw2 g2
    rcases hway with k5 | ⟨k5, k6⟩
    · go_wp2_with (refine wpList_store_row rfl 23 _ _ rfl (w.heap.size + 1) #[.int .i64 0, .int .i64 0, .int .i64 0, .int .i64 0, .string ⟨#[]⟩] rfl rfl 23 _ g3 (by kernel_rfl) rfl (by simp [Value.oneCell']) ?_)
      exact jpri_ret _ (w.heap.size + 1) _ 0 #[.int .i64 0, .int .i64 0, .int .i64 0, .int .i64 0, .string ⟨#[]⟩] false _ rfl rfl rfl (setRow_heap _ _ _ _ _ _ g3) rfl ⟨by rw [HE.out.1, HE.out.2.1, HE.out.2.2], below_setRow hb3 (by omega) _⟩
    · go_wp2_with (refine wpList_store_row rfl 23 _ _ rfl (w.heap.size + 1) #[.int .i64 0, .int .i64 0, .int .i64 0, .int .i64 0, .string ⟨#[]⟩] rfl rfl 23 _ g3 (by kernel_rfl) rfl (by simp [Value.oneCell']) ?_)
      exact jpri_ret _ (w.heap.size + 1) _ 0 #[.int .i64 0, .int .i64 0, .int .i64 0, .int .i64 0, .string ⟨#[]⟩] false _ rfl rfl rfl (setRow_heap _ _ _ _ _ _ g3) rfl ⟨by rw [HE.out.1, HE.out.2.1, HE.out.2.2], below_setRow hb3 (by omega) _⟩
theorem jpri_any (r : Rg) (live : Int) (w : World) (hs : r.ok = true → r.body.size = 448) :
    Calls Tryz.prog 103 #[.agg r.arr, .int .i64 live] w fun e w' => e = .returned (.tuple #[.int .i64 (piN r live), .agg (piS r live).arr, .bool (piB r live)]) ∧ Below w.heap.size w w' := by
  have h := jpri_in r.ok r.h r.body (piT r) (getN r.body 0 2) (spOf (piT r)) (superOE (piT r)) live w hs (fun ho w => by
    have hg := get_any r.body 0 2 (by rw [hs ho]; decide) w
    have e : getE r.body 0 2 = 0 := by
      have h4 := hs ho
      unfold getE
      rw [if_neg (by decide), if_neg (by omega)]
    rw [e] at hg
    exact hg) (fun ho w => by
    have hp := pad_any (r.body.extract 34 448) 448 w
    rw [piT_pad r (hs ho)] at hp
    exact hp) fun w => by
    have ho := superOf_any (piT r) w
    rw [superOC_arr] at ho
    exact ho
  have hc : (r.ok = true ∧ r.h.v2 = 2 ∧ getN r.body 0 2 ≤ 24 ∧ superOE (piT r) = 0 ∧ (spOf (piT r)).lv = live) ↔ piB r live = true := by
    unfold piB
    exact decide_eq_true_iff.symm
  refine h (piN r live) (piS r live).arr (piB r live) (fun hy => ?_) (fun hn => ?_)
  · have hb := hc.1 hy
    have e1 : piN r live = getN r.body 0 2 := if_pos hb
    have e2 : piS r live = spOf (piT r) := if_pos hb
    exact ⟨e1, congrArg Sp.arr e2, hb⟩
  · have hb : ¬ piB r live = true := fun e => hn (hc.2 e)
    have e1 : piN r live = 0 := if_neg hb
    have e2 : piS r live = Sp.zero := if_neg hb
    exact ⟨e1, congrArg Sp.arr e2, Bool.eq_false_iff.2 hb⟩
end Go.Proofs.YtoopaigpjefonaaGreatDoor

namespace Go.Proofs.YtoopaigpjefonaaGreatDoor
set_option maxRecDepth 20000
open Go.RowKit

theorem atS_size (raws : List ByteArray) (masks : List Int) (a : Int) : (atS raws masks a).size = 512 := by
  unfold atS
  split
  · next h =>
    unfold atB at h
    exact (of_decide_eq_true h).2.2.2
  · exact fillS_size 0 512
theorem rcdB_no {raws : List ByteArray} {masks : List Int} {log : Int} {n j : Nat} (hj : j < n) (h : ¬ atM raws masks (log + (j : Int)) = 0) : rcdB raws masks log n = false := by
  unfold rcdB
  rw [List.all_eq_false]
  exact ⟨j, List.mem_range.2 hj, by simpa using h⟩
theorem rcdB_yes {raws : List ByteArray} {masks : List Int} {log : Int} {n : Nat} (h : ∀ j, j < n → atM raws masks (log + (j : Int)) = 0) : rcdB raws masks log n = true := by
  unfold rcdB
  rw [List.all_eq_true]
  exact fun j hj => by simpa using h j (List.mem_range.1 hj)
theorem rcdL_succ (raws : List ByteArray) (masks : List Int) (log : Int) (n : Nat) : rcdL raws masks log (n + 1) = rcdL raws masks log n ++ [rcdW raws masks log n] := by simp [rcdL, List.range_succ]
theorem rcdL_length (raws : List ByteArray) (masks : List Int) (log : Int) (n : Nat) : (rcdL raws masks log n).length = n := by simp [rcdL]
structure RdR (w : World) (oa ob : Option Addr) (ca cb : Nat) (raws : List ByteArray) (masks : List Int) (A : Array Value) (j : Nat) (wr : World) : Prop where
  ok : ∀ i, i < j → atM raws masks (3 + (i : Int)) = 0
  below : Below w.heap.size w wr
  lay : wr.heap[w.heap.size]? = some (.cells A 51 (0, 0))
  img : wr.heap[w.heap.size + 1]? = some (.cells #[.slice oa raws.length ca, .slice ob masks.length cb] 131 (0, 0))
set_option maxHeartbeats 4000000 in
theorem recorded_any (n q s2 t : Nat) (oa ob : Option Addr) (ca cb : Nat) (raws : List ByteArray) (masks : List Int) (m : Nat) (hm : m ≤ 1000) (w : World) (h1 : List1 Value.string w (.slice oa raws.length ca) raws) (h2 : List1 (Value.int .i64) w (.slice ob masks.length cb) masks) :
    Calls Tryz.prog 104 #[.agg (layA n q s2 t), .agg #[.slice oa raws.length ca, .slice ob masks.length cb], .int .i64 (m : Int)] w fun e w' => ∃ v', e = .returned (.tuple #[v', .bool (rcdB raws masks 3 m)]) ∧ (rcdB raws masks 3 m = true → WZ w' w.heap.size v' (rcdL raws masks 3 m)) ∧ (rcdB raws masks 3 m = false → v' = .slice none 0 0) ∧ Below w.heap.size w w' := by
  obtain ⟨i0, hi0, hz0, hz1, hz2⟩ := info_parts jn_info_wt
  have H12 : Hid (List1 Value.string w (.slice oa raws.length ca) raws ∧ List1 (Value.int .i64) w (.slice ob masks.length cb) masks) := ⟨h1, h2⟩
  obtain ⟨A, hA⟩ : ∃ A, A = layA n q s2 t := ⟨_, rfl⟩
  have hA2 : A[2]? = some (.int .i64 3) := by rw [hA]; rfl
  rw [← hA]
  clear hA h1 h2
  have HI : Hid (RdR w oa ob ca cb raws masks A 0 ((w.alloc (.cells A 51)).alloc (.cells #[.slice oa raws.length ca, .slice ob masks.length cb] 131)) ∧ A[2]? = some (.int .i64 3)) := ⟨⟨fun i hi => absurd hi (Nat.not_lt_zero _), ((Below.refl _ _).alloc (Nat.le_refl _) _).alloc (by simp) _, heap_alloc2_old w _ _, heap_alloc2_new w _ _⟩, hA2⟩
  clear hA2
  obtain ⟨rl, hrl⟩ : ∃ rl, rl = raws.length := ⟨_, rfl⟩
  obtain ⟨ml, hml⟩ : ∃ ml, ml = masks.length := ⟨_, rfl⟩
  rw [← hrl, ← hml]
  have HL : Hid (rl = raws.length ∧ ml = masks.length) := ⟨hrl, hml⟩
  obtain ⟨Y, hY⟩ : ∃ Y, Y = rcdB raws masks 3 m := ⟨_, rfl⟩
  rw [← hY]
  have HY : Hid (Y = rcdB raws masks 3 m) := hY
  clear hrl hml hY
  go_enter Tryz.func104, Tryz.ntmps104
  go_wp2_with fail
  go_loopw [8, 15] (fun sv iv wr => ∃ (j : Nat), j ≤ m ∧ iv = .int .i64 (j : Int) ∧ WZ wr (w.heap.size + 2) sv (rcdL raws masks 3 j) ∧ Hid (RdR w oa ob ca cb raws masks A j wr)) (fun _ iv _ => m - (intOf iv).toNat)
  case atStart => exact ⟨0, Nat.zero_le _, rfl, WZ.nil _ _, by have := HI.out.1; rw [← HL.out.1, ← HL.out.2] at this; exact this⟩
  case round =>
    obtain ⟨j, hj, rfl, hown, HR⟩ := hrel
    have hrl := rcdL_length raws masks 3 j
    obtain ⟨oc, cap, rfl⟩ := hown.form
    rw [hrl] at hown ⊢
    have hz := lt_of_block HR.out.img
    by_cases hlt : j < m
    · have j1 : (j : Int) < m := by omega
      have d0 : wr.cell? ⟨w.heap.size, 2, none⟩ = some (.int .i64 3) := by simp [World.cell?, HR.out.lay, HI.out.2]
      have d1 : wr.cell? ⟨w.heap.size + 1, 0, none⟩ = some (.slice oa rl ca) := by rw [HL.out.1]; exact cell_of_row _ _ 0 _ _ _ HR.out.img
      have d2 : wr.cell? ⟨w.heap.size + 1, 1, none⟩ = some (.slice ob ml cb) := by rw [HL.out.2]; exact cell_of_row _ _ 1 _ _ _ HR.out.img
      have hat := at_any wr oa ob ca cb raws masks (3 + (j : Int)) (H12.out.1.below HR.out.below) (H12.out.2.below HR.out.below)
      rw [← HL.out.1, ← HL.out.2] at hat
      have hs5 := atS_size raws masks (3 + (j : Int))
      have HN : Hid (rcdL raws masks 3 (j + 1) = rcdL raws masks 3 j ++ [⟨(hdOf ((atS raws masks (3 + (j : Int))).extract 0 48)).v1, atS raws masks (3 + (j : Int))⟩]) := rcdL_succ raws masks 3 j
      have hh := fun w => bheadOf_any ((atS raws masks (3 + (j : Int))).extract 0 48) w
      generalize hx : (atS raws masks (3 + (j : Int))).extract 0 48 = x at *
      generalize atS raws masks (3 + (j : Int)) = r at *
      generalize hdOf x = h at *
      generalize headE x = E at *
      have h48 : (48 : Int) ≤ r.size := by omega
      clear hs5
      by_cases hM : atM raws masks (3 + (j : Int)) = 0
      · have HM : Hid (∀ i, i < j + 1 → atM raws masks (3 + (i : Int)) = 0) := fun i hi => by
          by_cases e : i = j
          · subst e; exact hM
          · exact HR.out.ok i (by omega)
        rw [hM] at hat
        generalize rcdL raws masks 3 j = d at *
        subst hrl
        go_wp2_with fail
        refine hat.mono ?_
        rintro e w1 ⟨rfl, hb1⟩
        have HR1 : Hid (Below w.heap.size w w1 ∧ w1.heap[w.heap.size]? = some (.cells A 51 (0, 0)) ∧ w1.heap[w.heap.size + 1]? = some (.cells #[.slice oa raws.length ca, .slice ob masks.length cb] 131 (0, 0)) ∧ WZ w1 (w.heap.size + 2) (.slice oc d.length cap) d) := ⟨HR.out.below.trans (hb1.mono HR.out.below.size), (hb1.block _ (by omega)).trans HR.out.lay, (hb1.block _ hz).trans HR.out.img, hown.below hb1⟩
        clear hat hb1 d0 d1 d2 hown HR
        go_wp2_with fail
        try rw [hx]
        refine (hh _).mono ?_
        rintro e w2 ⟨rfl, hb2⟩
        have hzz : w.heap.size + 1 < w1.heap.size := lt_of_block HR1.out.2.2.1
        have hb12 := hb2.size
        have hown2 := HR1.out.2.2.2.below hb2
        have hbw2 : Below w.heap.size w w2 := HR1.out.1.trans (hb2.mono HR1.out.1.size)
        have hl2 := (hb2.block _ (show w.heap.size < w1.heap.size by omega)).trans HR1.out.2.1
        have hi2 := (hb2.block _ hzz).trans HR1.out.2.2.1
        have hownC := World.ownsRow.alloc (World.ownsRow.alloc hown2 (.cells #[.int .i64 h.v0, .int .i64 h.v1, .int .i64 h.v2, .int .i64 h.v3, .int .i64 h.v4, .int .i64 h.v5, .int .i64 h.v6, .int .i64 h.v7] 121)) (.cells #[.int .i64 h.v1, .string r] 68)
        have hnew : ((w2.alloc (.cells #[.int .i64 h.v0, .int .i64 h.v1, .int .i64 h.v2, .int .i64 h.v3, .int .i64 h.v4, .int .i64 h.v5, .int .i64 h.v6, .int .i64 h.v7] 121)).alloc (.cells #[.int .i64 h.v1, .string r] 68)).heap[w2.heap.size + 1]? = some (.cells #[.int .i64 h.v1, .string r] 68 (0, 0)) := heap_alloc2_new w2 _ _
        have hone : ∀ u ∈ ([.int .i64 h.v1, .string r] : List Value), u.oneCell' = true := by intro u hu; simp at hu; rcases hu with rfl | rfl <;> rfl
        have HO : Hid (WZ w2 (w.heap.size + 2) (.slice oc d.length cap) d ∧ Below w.heap.size w ((w2.alloc (.cells #[.int .i64 h.v0, .int .i64 h.v1, .int .i64 h.v2, .int .i64 h.v3, .int .i64 h.v4, .int .i64 h.v5, .int .i64 h.v6, .int .i64 h.v7] 121)).alloc (.cells #[.int .i64 h.v1, .string r] 68)) ∧ ((w2.alloc (.cells #[.int .i64 h.v0, .int .i64 h.v1, .int .i64 h.v2, .int .i64 h.v3, .int .i64 h.v4, .int .i64 h.v5, .int .i64 h.v6, .int .i64 h.v7] 121)).alloc (.cells #[.int .i64 h.v1, .string r] 68)).heap[w.heap.size]? = some (.cells A 51 (0, 0)) ∧ ((w2.alloc (.cells #[.int .i64 h.v0, .int .i64 h.v1, .int .i64 h.v2, .int .i64 h.v3, .int .i64 h.v4, .int .i64 h.v5, .int .i64 h.v6, .int .i64 h.v7] 121)).alloc (.cells #[.int .i64 h.v1, .string r] 68)).heap[w.heap.size + 1]? = some (.cells #[.slice oa raws.length ca, .slice ob masks.length cb] 131 (0, 0))) :=
          ⟨hown2, (hbw2.alloc hbw2.size _).alloc (by have := hbw2.size; simp; omega) _, (Below.heap_alloc _ _ _ (by simp; omega)).trans ((Below.heap_alloc _ _ _ (by omega)).trans hl2), (Below.heap_alloc _ _ _ (by simp; omega)).trans ((Below.heap_alloc _ _ _ (by omega)).trans hi2)⟩
        clear hh hb2 hown2 hbw2 hl2 hi2 HR1 hx hM
        go_wp2_with (first | (at_builtin; (refine wpList_append_own _ rfl _ _ 57 rfl (w.heap.size + 2) 68 i0 _ 2 24 Tryz.underlying57 hi0 hz0 hz1 hz2 rfl (by decide) (.slice oc d.length cap) d.length (d.flatMap Wt.cells) rfl hownC ⟨w2.heap.size + 1, 0, none⟩ 1 1 [.int .i64 h.v1, .string r] rfl rfl (World.news_of_block hnew) hone (by unfold maxLen; omega) (by omega) (by simp; omega) ?_)))
        intro v1 wB hown3 hgrow3 _
        have hTB : Below (w.heap.size + 2) ((w2.alloc (.cells #[.int .i64 h.v0, .int .i64 h.v1, .int .i64 h.v2, .int .i64 h.v3, .int .i64 h.v4, .int .i64 h.v5, .int .i64 h.v6, .int .i64 h.v7] 121)).alloc (.cells #[.int .i64 h.v1, .string r] 68)) wB := (Below.refl _ _).grown hgrow3 (by simp; omega) fun k hk => (World.ownsRow.lt HO.out.1 k hk).1
        have HF : Hid (WZ wB (w.heap.size + 2) v1 (rcdL raws masks 3 (d.length + 1)) ∧ RdR w oa ob ca cb raws masks A (d.length + 1) wB) := by
          refine ⟨?_, HM.out, HO.out.2.1.trans (hTB.mono (by omega)), (hTB.block w.heap.size (by omega)).trans HO.out.2.2.1, (hTB.block (w.heap.size + 1) (by omega)).trans HO.out.2.2.2⟩
          unfold WZ
          rw [HN.out, List.length_append, List.length_singleton, List.flatMap_append, List.flatMap_singleton]
          exact hown3
        clear hownC hnew hown3 hgrow3 hTB hone
        go_wp2
        go_roundw
        case rel => exact ⟨d.length + 1, by omega, by go_num, HF.out.1, HF.out.2⟩
        case measure => simp [intOf]; omega
      · have HF : Hid (Y = false) := by show Y = false; rw [HY.out]; exact rcdB_no hlt hM
        generalize atM raws masks (3 + (j : Int)) = M at *
        have hM1 : (M != 0) = true := by simpa using hM
        clear hown hh hM
        go_wp2_with fail
        refine hat.mono ?_
        rintro e w1 ⟨rfl, hb1⟩
        have HB : Hid (Below w.heap.size w w1) := HR.out.below.trans (hb1.mono HR.out.below.size)
        clear hat hb1 d0 d1 d2
        go_wp2
        go_ret2
        exact ⟨_, by rw [HF.out]; rfl, (fun h => by rw [HF.out] at h; cases h), fun _ => rfl, HB.out⟩
    · obtain rfl : j = m := by omega
      have j1 : ¬ (j : Int) < j := by omega
      have HF : Hid (Y = true ∧ WZ wr w.heap.size (.slice oc j cap) (rcdL raws masks 3 j) ∧ Below w.heap.size w wr) := ⟨HY.out.trans (rcdB_yes HR.out.ok), WZ.mono hown (by omega), HR.out.below⟩
      clear hown HR
      go_wp2
      go_ret2
      exact ⟨_, by rw [HF.out.1]; rfl, fun _ => HF.out.2.1, (fun h => by rw [HF.out.1] at h; cases h), HF.out.2.2⟩
end Go.Proofs.YtoopaigpjefonaaGreatDoor

namespace Go.Proofs.YtoopaigpjefonaaGreatDoor
set_option maxRecDepth 20000
open Go.RowKit

set_option maxHeartbeats 4000000 in
theorem headed_any (a : Int) (r : ByteArray) (w : World) :
    Calls Tryz.prog 91 #[.agg #[.int .i64 a, .string r]] w fun e w' => e = .returned (.bool (hdB ⟨a, r⟩)) ∧ Below w.heap.size w w' := by
  have hb0 : Below w.heap.size w (w.alloc (.cells #[.int .i64 a, .string r] 68)) := (Below.refl _ _).alloc (Nat.le_refl _) _
  by_cases hr : r.size = 512
  case neg =>
    have h1 : ((r.size : Int) != 512) = true := by simp; omega
    have e1 : hdB ⟨a, r⟩ = false := by simp [hdB, hr]
    rw [e1]
    have HB : Hid _ := hb0
    clear hb0 hr e1
    go_enter Tryz.func91, Tryz.ntmps91
    go_wp2
    go_ret
    exact ⟨rfl, HB.out⟩
  have h1 : ((r.size : Int) != 512) = false := by simp; omega
  have h48 : (48 : Int) ≤ r.size := by omega
  have hh := fun w => bheadOf_any (r.extract 0 48) w
  have HD : Hid (hdB ⟨a, r⟩ = decide (headE (r.extract 0 48) = 0 ∧ (hdOf (r.extract 0 48)).v1 = a)) := by
    show hdB ⟨a, r⟩ = _
    simp [hdB, hr]
  generalize hdB ⟨a, r⟩ = D at *
  generalize hx : r.extract 0 48 = x at *
  generalize hdOf x = h at *
  generalize headE x = E at *
  clear hr
  go_enter Tryz.func91, Tryz.ntmps91
  go_wp2_with fail
  try rw [hx]
  refine (hh _).mono ?_
  rintro e w2 ⟨rfl, hb2⟩
  have g0 := (hb2.block w.heap.size (by simp)).trans (heap_alloc_new w _)
  have hbw : Below w.heap.size w w2 := hb0.trans (hb2.mono hb0.size)
  have hlt := lt_of_block g0
  have c0 : (w2.alloc (.cells #[.int .i64 h.v0, .int .i64 h.v1, .int .i64 h.v2, .int .i64 h.v3, .int .i64 h.v4, .int .i64 h.v5, .int .i64 h.v6, .int .i64 h.v7] 121)).cell? ⟨w.heap.size, 0, none⟩ = some (.int .i64 a) := cell_of_row _ _ 0 _ _ _ ((Below.heap_alloc _ _ _ hlt).trans g0)
  have HB : Hid (Below w.heap.size w (w2.alloc (.cells #[.int .i64 h.v0, .int .i64 h.v1, .int .i64 h.v2, .int .i64 h.v3, .int .i64 h.v4, .int .i64 h.v5, .int .i64 h.v6, .int .i64 h.v7] 121))) := hbw.alloc (by omega) _
  clear hh hb2 g0 hbw hb0
  by_cases hE : E = 0
  · subst hE
    by_cases ha : h.v1 = a
    · have k1 : (h.v1 == a) = true := by simp [ha]
      have eD : Hid (D = true) := by show D = true; rw [HD.out]; simp [ha]
      clear HD ha
      go_wp2
      go_ret
      exact ⟨by rw [eD.out]; rfl, HB.out⟩
    · have k1 : (h.v1 == a) = false := by simp [ha]
      have eD : Hid (D = false) := by show D = false; rw [HD.out]; simp [ha]
      clear HD ha
      go_wp2
      go_ret
      exact ⟨by rw [eD.out]; rfl, HB.out⟩
  · have k1 : (E == 0) = false := by simp [hE]
    have eD : Hid (D = false) := by show D = false; rw [HD.out]; simp [hE]
    clear HD
    go_wp2
    go_ret
    exact ⟨by rw [eD.out]; rfl, HB.out⟩
/-- What a round of together knows. -/
structure TgR (w : World) (n q s2 t : Nat) (l : List Wt) (j : Nat) (least : Int) (wr : World) : Prop where
  b : togB 27 (n : Int) l = togB least (n : Int) (l.drop j)
  lo : 27 ≤ least ∧ least ≤ 100000
  below : Below w.heap.size w wr
  row : wr.heap[w.heap.size]? = some (.cells (layA n q s2 t) 51 (0, 0))
set_option maxHeartbeats 4000000 in
theorem together_any (n q s2 t : Nat) (v : Value) (l : List Wt) (w : World) (hv : Wts w v l) (hll : l.length ≤ 1000) (hn : n ≤ 1024) :
    Calls Tryz.prog 54 #[.agg (layA n q s2 t), v] w fun e w' => e = .returned (.bool (togB 27 (n : Int) l)) ∧ Below w.heap.size w w' := by
  obtain ⟨oa, ca, rfl⟩ := hv.form
  have HV : Hid (Wts w (.slice oa l.length ca) l) := hv
  have HI : Hid (TgR w n q s2 t l 0 27 (w.alloc (.cells (layA n q s2 t) 51))) := ⟨rfl, by omega, (Below.refl _ _).alloc (Nat.le_refl _) _, heap_alloc_new w _⟩
  have e3 : (w.alloc (.cells (layA n q s2 t) 51)).cell? ⟨w.heap.size, 3, none⟩ = some (.int .i64 27) := cell_of_row _ _ 3 _ _ _ (heap_alloc_new w _)
  obtain ⟨X, hX⟩ : ∃ X, X = togB 27 (n : Int) l := ⟨_, rfl⟩
  have HX : Hid (X = togB 27 (n : Int) l) := hX
  rw [← hX]
  clear hv hX
  obtain ⟨A, hA⟩ : ∃ A, A = layA n q s2 t := ⟨_, rfl⟩
  rw [← hA] at e3 ⊢
  have HA : Hid (A = layA n q s2 t) := hA
  rw [← hA] at HI
  clear hA
  go_enter Tryz.func54, Tryz.ntmps54
  go_wp2_with fail
  clear e3
  go_loopw [5, 12] (fun lv iv wr => ∃ (j : Nat) (least : Int), j ≤ l.length ∧ iv = .int .i64 (j : Int) ∧ lv = .int .i64 least ∧ Hid (TgR w n q s2 t l j least wr)) (fun _ iv _ => l.length - (intOf iv).toNat)
  case atStart => exact ⟨0, 27, Nat.zero_le _, rfl, rfl, HI⟩
  case round =>
    clear HI HA
    obtain ⟨j, least, hj, rfl, rfl, HR⟩ := hrel
    by_cases hlt : j < l.length
    · have j1 : (j : Int) < l.length := by omega
      obtain ⟨g, o, rfl, hg, hc⟩ := HV.out.at hlt
      have hgw := Nat.lt_of_lt_of_le hg HR.out.below.size
      obtain ⟨c0, c1⟩ := hc.keep (HR.out.below.block g hg)
      have hd : l.drop j = l[j] :: l.drop (j + 1) := List.drop_eq_getElem_cons hlt
      have HE : Hid (X = (decide (least ≤ l[j].at_ ∧ l[j].at_ < (n : Int)) && hdB l[j] && togB (l[j].at_ + 1) (n : Int) (l.drop (j + 1))) ∧ togB 27 (n : Int) l = (decide (least ≤ l[j].at_ ∧ l[j].at_ < (n : Int)) && hdB l[j] && togB (l[j].at_ + 1) (n : Int) (l.drop (j + 1)))) := by
        have := HR.out.b
        rw [hd] at this
        exact ⟨HX.out.trans this, this⟩
      clear hc hd
      generalize l[j] = x at *
      obtain ⟨a, r⟩ := x
      simp only at c0 c1 HE
      have hlo := HR.out.lo
      have hzl := lt_of_block HR.out.row
      have hh := fun w => headed_any a r w
      have HRow : Hid ((wr.alloc (.cells #[.int .i64 a, .string r] 68)).heap[w.heap.size]? = some (.cells (layA n q s2 t) 51 (0, 0)) ∧ Below w.heap.size w (wr.alloc (.cells #[.int .i64 a, .string r] 68))) := ⟨(Below.heap_alloc _ _ _ hzl).trans HR.out.row, HR.out.below.alloc HR.out.below.size _⟩
      have d0 : (wr.alloc (.cells #[.int .i64 a, .string r] 68)).cell? ⟨w.heap.size, 0, none⟩ = some (.int .i64 (n : Int)) := cell_of_row _ _ 0 _ _ _ HRow.out.1
      clear HR hg
      by_cases k1 : a < least
      · have HF : Hid (X = false) := by
          show X = false
          rw [HE.out.1, decide_eq_false (by omega)]
          rfl
        have k1' : decide (a < least) = true := by simpa using k1
        clear HE hh d0
        go_wp2
        go_ret
        exact ⟨by rw [HF.out]; rfl, HRow.out.2⟩
      · have k1' : decide (a < least) = false := by simpa using k1
        by_cases k2 : (n : Int) ≤ a
        · have HF : Hid (X = false) := by
            show X = false
            rw [HE.out.1, decide_eq_false (by omega)]
            rfl
          have k2' : decide (a ≥ (n : Int)) = true := by simpa using k2
          have k2'' : decide ((n : Int) ≤ a) = true := by simpa using k2
          clear HE hh k1
          go_wp2
          go_ret
          exact ⟨by rw [HF.out]; rfl, HRow.out.2⟩
        · have k2'' : decide ((n : Int) ≤ a) = false := by simpa using k2
          have HE2 : Hid (X = (hdB ⟨a, r⟩ && togB (a + 1) (n : Int) (l.drop (j + 1))) ∧ togB 27 (n : Int) l = (hdB ⟨a, r⟩ && togB (a + 1) (n : Int) (l.drop (j + 1)))) := by
            have := HE.out
            rw [decide_eq_true (show least ≤ a ∧ a < (n : Int) by omega)] at this
            show _ ∧ _
            simpa using this
          have kk : 27 ≤ a ∧ a ≤ 1024 := by omega
          clear HE k1
          generalize hdB ⟨a, r⟩ = B at *
          go_wp2_with fail
          refine (hh _).mono ?_
          rintro e w2 ⟨rfl, hb2⟩
          have hz2 : wr.heap.size < w2.heap.size := by have := hb2.size; simp at this; omega
          have hrow2 := (hb2.block w.heap.size (by simp; omega)).trans HRow.out.1
          have f0 : w2.cell? ⟨wr.heap.size, 0, none⟩ = some (.int .i64 a) := cell_of_row _ _ 0 _ _ _ ((hb2.block wr.heap.size (by simp)).trans (heap_alloc_new wr _))
          have HB2 : Hid (Below w.heap.size w w2) := HRow.out.2.trans (hb2.mono HRow.out.2.size)
          cases B with
          | false =>
            have HF : Hid (X = false) := HE2.out.1
            clear HE2 hh hb2 d0
            go_wp2
            go_ret
            exact ⟨by rw [HF.out]; rfl, HB2.out⟩
          | true =>
            have HF : Hid (TgR w n q s2 t l (j + 1) (a + 1) w2) := ⟨by rw [HE2.out.2]; rfl, by omega, HB2.out, hrow2⟩
            clear HE2 hh hb2 d0 hrow2
            go_wp2
            go_roundw
            case rel => exact ⟨j + 1, a + 1, by omega, by go_num, by go_num, HF⟩
            case measure => simp [intOf]; omega
    · have j1 : ¬ (j : Int) < l.length := by omega
      have hd : l.drop j = [] := List.drop_eq_nil_of_le (by omega)
      have HF : Hid (X = true ∧ Below w.heap.size w wr) := by
        refine ⟨?_, HR.out.below⟩
        have := HR.out.b
        rw [hd] at this
        exact HX.out.trans this
      clear hd HR
      go_wp2
      go_ret
      exact ⟨by rw [HF.out.1]; rfl, HF.out.2⟩
end Go.Proofs.YtoopaigpjefonaaGreatDoor

namespace Go.Proofs.YtoopaigpjefonaaGreatDoor
set_option maxRecDepth 20000
open Go.RowKit

/-- What Found tells. -/
def fnB (K : VK) (T : K.σ) (raws : List ByteArray) (masks : List Int) (n : Int) : Bool := piB (lookR K T raws masks 2) n && rcdB raws masks 3 (piN (lookR K T raws masks 2) n).toNat && togB 27 n (rcdL raws masks 3 (piN (lookR K T raws masks 2) n).toNat)
def fnW (K : VK) (T : K.σ) (raws : List ByteArray) (masks : List Int) (n : Int) : List Wt := rcdL raws masks 3 (piN (lookR K T raws masks 2) n).toNat
def fnOk (K : VK) (T : K.σ) (raws : List ByteArray) (masks : List Int) (n : Int) : Bool := fnB K T raws masks n && decide (K.hS T (joinB (fnW K T raws masks n)) = (lookR K T raws masks 2).body.extract 2 34)
def fnP (K : VK) (T : K.σ) (raws : List ByteArray) (masks : List Int) (n : Int) : K.σ := if fnB K T raws masks n then K.hP T (joinB (fnW K T raws masks n)) else T
theorem jfnd_ret (tmps : Array Value) (g : Nat) (w' : World) (v : Value) (cs : Array Value) (b : Bool) (R : Ending → World → Prop) (h0 : tmps.getD 6 undef = v) (h1 : tmps.getD 7 undef = .pointer (some ⟨g, 0, none⟩)) (h2 : tmps.getD 8 undef = .bool b) (hg : w'.heap[g]? = some (.cells cs 23 (0, 0))) (hs : cs.size = 5) (hR : R (.returned (.tuple #[v, .agg cs, .bool b])) w') :
    bodyPost Tryz.prog Tryz.f61 R .ret { tmps := tmps, defers := [] } w' := by
  have hr := run_loadVar_row (P := Tryz.prog) w' g 23 23 cs (0, 0) _ hg Tryz.underlying23 rfl (by rw [hs]; kernel_rfl)
  simp at h0 h1 h2
  exact bodyPost_ret (v := .tuple #[v, .agg cs, .bool b]) (by simp [results, Tryz.results61, asAddr, hr, h0, h1, h2]) rfl hR
set_option maxHeartbeats 4000000 in
theorem found_pno (v : Value) (n q s2 t : Nat) (oa ob : Option Addr) (ca cb : Nat) (raws : List ByteArray) (masks : List Int) (ok : Bool) (h : Hd) (body : ByteArray) (c : Int) (s : Sp) (w : World)
    (hlook : ∀ W, Below w.heap.size w W → Calls Tryz.prog 102 #[v, .agg #[.slice oa raws.length ca, .slice ob masks.length cb], .int .i64 2] W fun e W' => e = .returned (.agg #[.bool ok, .int .i64 h.v0, .int .i64 h.v1, .int .i64 h.v2, .int .i64 h.v3, .int .i64 h.v4, .int .i64 h.v5, .int .i64 h.v6, .int .i64 h.v7, .string body]) ∧ Below W.heap.size W W')
    (hpi : ∀ W, Calls Tryz.prog 103 #[.agg #[.bool ok, .int .i64 h.v0, .int .i64 h.v1, .int .i64 h.v2, .int .i64 h.v3, .int .i64 h.v4, .int .i64 h.v5, .int .i64 h.v6, .int .i64 h.v7, .string body], .int .i64 (n : Int)] W fun e W' => e = .returned (.tuple #[.int .i64 c, .agg s.arr, .bool false]) ∧ Below W.heap.size W W') :
    Calls Tryz.prog 61 #[v, .agg (layA n q s2 t), .agg #[.slice oa raws.length ca, .slice ob masks.length cb]] w fun e w' => e = .returned (.tuple #[.slice none 0 0, .agg Sp.zero.arr, .bool false]) ∧ Below w.heap.size w w' := by
  obtain ⟨s0, s1, s3, s4, r⟩ := s
  simp only [Sp.arr, Sp.zero] at *
  have hb0 : Below w.heap.size w (((w.alloc (.cells (layA n q s2 t) 51)).alloc (.cells #[.slice oa raws.length ca, .slice ob masks.length cb] 131)).alloc (.cells #[.int .i64 0, .int .i64 0, .int .i64 0, .int .i64 0, .string ⟨#[]⟩] 23)) := (((Below.refl _ _).alloc (Nat.le_refl _) _).alloc (by simp) _).alloc (by simp; omega) _
  have h1 := hlook _ hb0
  have gL : (((w.alloc (.cells (layA n q s2 t) 51)).alloc (.cells #[.slice oa raws.length ca, .slice ob masks.length cb] 131)).alloc (.cells #[.int .i64 0, .int .i64 0, .int .i64 0, .int .i64 0, .string ⟨#[]⟩] 23)).heap[w.heap.size]? = some (.cells (layA n q s2 t) 51 (0, 0)) := (Below.heap_alloc _ _ _ (by simp; omega)).trans (heap_alloc2_old w _ _)
  have gR : (((w.alloc (.cells (layA n q s2 t) 51)).alloc (.cells #[.slice oa raws.length ca, .slice ob masks.length cb] 131)).alloc (.cells #[.int .i64 0, .int .i64 0, .int .i64 0, .int .i64 0, .string ⟨#[]⟩] 23)).heap[w.heap.size + 1 + 1]? = some (.cells #[.int .i64 0, .int .i64 0, .int .i64 0, .int .i64 0, .string ⟨#[]⟩] 23 (0, 0)) := by
    have := heap_alloc_new ((w.alloc (.cells (layA n q s2 t) 51)).alloc (.cells #[.slice oa raws.length ca, .slice ob masks.length cb] 131)) (.cells #[.int .i64 0, .int .i64 0, .int .i64 0, .int .i64 0, .string ⟨#[]⟩] 23)
    simpa using this
  unfold layA at h1 gL gR hb0 ⊢
  clear hlook
  generalize raws.length = rl at *
  generalize masks.length = ml at *
  go_enter Tryz.func61, Tryz.ntmps61
  go_wp2_with fail
  refine h1.mono ?_
  rintro e w1 ⟨rfl, hb1⟩
  have gL1 := (hb1.block _ (lt_of_block gL)).trans gL
  have gR1 := (hb1.block _ (lt_of_block gR)).trans gR
  have hlt1 := lt_of_block gR1
  have n1 : (w1.alloc (.cells #[.bool ok, .int .i64 h.v0, .int .i64 h.v1, .int .i64 h.v2, .int .i64 h.v3, .int .i64 h.v4, .int .i64 h.v5, .int .i64 h.v6, .int .i64 h.v7, .string body] 125)).cell? ⟨w.heap.size, 0, none⟩ = some (.int .i64 (n : Int)) := cell_of_row _ _ 0 _ _ _ ((Below.heap_alloc _ _ _ (by omega)).trans gL1)
  have HB1 : Hid (Below w.heap.size w w1 ∧ w1.heap[w.heap.size + 1 + 1]? = some (.cells #[.int .i64 0, .int .i64 0, .int .i64 0, .int .i64 0, .string ⟨#[]⟩] 23 (0, 0))) := ⟨hb0.trans (hb1.mono hb0.size), gR1⟩
  clear h1 hb0 gL gR hb1 gL1 gR1
  go_wp2_with fail
  refine (hpi _).mono ?_
  rintro e w2 ⟨rfl, hb2⟩
  have hz2 := hb2.size
  have gR2 := (hb2.block (w.heap.size + 1 + 1) (by simp; omega)).trans ((Below.heap_alloc _ _ _ hlt1).trans HB1.out.2)
  have hlt2 := lt_of_block gR2
  have g3 : (w2.alloc (.cells #[.int .i64 s0, .int .i64 s1, .int .i64 s3, .int .i64 s4, .string r] 23)).heap[w.heap.size + 1 + 1]? = some (.cells #[.int .i64 0, .int .i64 0, .int .i64 0, .int .i64 0, .string ⟨#[]⟩] 23 (0, 0)) := (Below.heap_alloc _ _ _ hlt2).trans gR2
  have hb3 : Below w.heap.size w (w2.alloc (.cells #[.int .i64 s0, .int .i64 s1, .int .i64 s3, .int .i64 s4, .string r] 23)) := ((HB1.out.1.alloc HB1.out.1.size _).trans (hb2.mono (by have := HB1.out.1.size; simp; omega))).alloc (by omega) _
  clear hpi hb2 n1 HB1 gR2
  go_wp2_with (refine wpList_store_row rfl 23 _ _ rfl (w.heap.size + 1 + 1) #[.int .i64 0, .int .i64 0, .int .i64 0, .int .i64 0, .string ⟨#[]⟩] rfl rfl 23 _ g3 (by kernel_rfl) rfl (by simp [Value.oneCell']) ?_)
  exact jfnd_ret _ (w.heap.size + 1 + 1) _ (.slice none 0 0) #[.int .i64 0, .int .i64 0, .int .i64 0, .int .i64 0, .string ⟨#[]⟩] false _ rfl rfl rfl (setRow_heap _ _ _ _ _ _ g3) rfl ⟨rfl, below_setRow hb3 (by omega) _⟩
end Go.Proofs.YtoopaigpjefonaaGreatDoor

namespace Go.Proofs.YtoopaigpjefonaaGreatDoor
set_option maxRecDepth 20000
open Go.RowKit

set_option maxHeartbeats 4000000 in
theorem found_rno (v : Value) (n q s2 t : Nat) (oa ob : Option Addr) (ca cb : Nat) (raws : List ByteArray) (masks : List Int) (ok : Bool) (h : Hd) (body : ByteArray) (m : Nat) (s0 s1 s3 s4 : Int) (r : ByteArray) (w : World)
    (hlook : ∀ W, Below w.heap.size w W → Calls Tryz.prog 102 #[v, .agg #[.slice oa raws.length ca, .slice ob masks.length cb], .int .i64 2] W fun e W' => e = .returned (.agg #[.bool ok, .int .i64 h.v0, .int .i64 h.v1, .int .i64 h.v2, .int .i64 h.v3, .int .i64 h.v4, .int .i64 h.v5, .int .i64 h.v6, .int .i64 h.v7, .string body]) ∧ Below W.heap.size W W')
    (hpi : ∀ W, Calls Tryz.prog 103 #[.agg #[.bool ok, .int .i64 h.v0, .int .i64 h.v1, .int .i64 h.v2, .int .i64 h.v3, .int .i64 h.v4, .int .i64 h.v5, .int .i64 h.v6, .int .i64 h.v7, .string body], .int .i64 (n : Int)] W fun e W' => e = .returned (.tuple #[.int .i64 (m : Int), .agg #[.int .i64 s0, .int .i64 s1, .int .i64 s3, .int .i64 s4, .string r], .bool true]) ∧ Below W.heap.size W W')
    (hrcd : ∀ W, Below w.heap.size w W → Calls Tryz.prog 104 #[.agg (layA n q s2 t), .agg #[.slice oa raws.length ca, .slice ob masks.length cb], .int .i64 (m : Int)] W fun e W' => e = .returned (.tuple #[.slice none 0 0, .bool false]) ∧ Below W.heap.size W W') :
    Calls Tryz.prog 61 #[v, .agg (layA n q s2 t), .agg #[.slice oa raws.length ca, .slice ob masks.length cb]] w fun e w' => e = .returned (.tuple #[.slice none 0 0, .agg Sp.zero.arr, .bool false]) ∧ Below w.heap.size w w' := by
  have hb0 : Below w.heap.size w (((w.alloc (.cells (layA n q s2 t) 51)).alloc (.cells #[.slice oa raws.length ca, .slice ob masks.length cb] 131)).alloc (.cells #[.int .i64 0, .int .i64 0, .int .i64 0, .int .i64 0, .string ⟨#[]⟩] 23)) := (((Below.refl _ _).alloc (Nat.le_refl _) _).alloc (by simp) _).alloc (by simp; omega) _
  have h1 := hlook _ hb0
  have gL : (((w.alloc (.cells (layA n q s2 t) 51)).alloc (.cells #[.slice oa raws.length ca, .slice ob masks.length cb] 131)).alloc (.cells #[.int .i64 0, .int .i64 0, .int .i64 0, .int .i64 0, .string ⟨#[]⟩] 23)).heap[w.heap.size]? = some (.cells (layA n q s2 t) 51 (0, 0)) := (Below.heap_alloc _ _ _ (by simp; omega)).trans (heap_alloc2_old w _ _)
  have gI : (((w.alloc (.cells (layA n q s2 t) 51)).alloc (.cells #[.slice oa raws.length ca, .slice ob masks.length cb] 131)).alloc (.cells #[.int .i64 0, .int .i64 0, .int .i64 0, .int .i64 0, .string ⟨#[]⟩] 23)).heap[w.heap.size + 1]? = some (.cells #[.slice oa raws.length ca, .slice ob masks.length cb] 131 (0, 0)) := (Below.heap_alloc _ _ _ (by simp)).trans (heap_alloc2_new w _ _)
  have gR : (((w.alloc (.cells (layA n q s2 t) 51)).alloc (.cells #[.slice oa raws.length ca, .slice ob masks.length cb] 131)).alloc (.cells #[.int .i64 0, .int .i64 0, .int .i64 0, .int .i64 0, .string ⟨#[]⟩] 23)).heap[w.heap.size + 1 + 1]? = some (.cells #[.int .i64 0, .int .i64 0, .int .i64 0, .int .i64 0, .string ⟨#[]⟩] 23 (0, 0)) := by
    have := heap_alloc_new ((w.alloc (.cells (layA n q s2 t) 51)).alloc (.cells #[.slice oa raws.length ca, .slice ob masks.length cb] 131)) (.cells #[.int .i64 0, .int .i64 0, .int .i64 0, .int .i64 0, .string ⟨#[]⟩] 23)
    simpa using this
  unfold layA at h1 gL gI gR hb0 hrcd ⊢
  clear hlook
  go_enter Tryz.func61, Tryz.ntmps61
  go_wp2_with fail
  refine h1.mono ?_
  rintro e w1 ⟨rfl, hb1⟩
  have gL1 := (hb1.block _ (lt_of_block gL)).trans gL
  have gI1 := (hb1.block _ (lt_of_block gI)).trans gI
  have gR1 := (hb1.block _ (lt_of_block gR)).trans gR
  have hlt1 := lt_of_block gR1
  have hba : Below w1.heap.size w1 (w1.alloc (.cells #[.bool ok, .int .i64 h.v0, .int .i64 h.v1, .int .i64 h.v2, .int .i64 h.v3, .int .i64 h.v4, .int .i64 h.v5, .int .i64 h.v6, .int .i64 h.v7, .string body] 125)) := (Below.refl _ _).alloc (Nat.le_refl _) _
  have n1 : (w1.alloc (.cells #[.bool ok, .int .i64 h.v0, .int .i64 h.v1, .int .i64 h.v2, .int .i64 h.v3, .int .i64 h.v4, .int .i64 h.v5, .int .i64 h.v6, .int .i64 h.v7, .string body] 125)).cell? ⟨w.heap.size, 0, none⟩ = some (.int .i64 (n : Int)) := cell_of_row _ _ 0 _ _ _ ((hba.block _ (by omega)).trans gL1)
  have HB1 : Hid (Below w.heap.size w (w1.alloc (.cells #[.bool ok, .int .i64 h.v0, .int .i64 h.v1, .int .i64 h.v2, .int .i64 h.v3, .int .i64 h.v4, .int .i64 h.v5, .int .i64 h.v6, .int .i64 h.v7, .string body] 125)) ∧ (w1.alloc (.cells #[.bool ok, .int .i64 h.v0, .int .i64 h.v1, .int .i64 h.v2, .int .i64 h.v3, .int .i64 h.v4, .int .i64 h.v5, .int .i64 h.v6, .int .i64 h.v7, .string body] 125)).heap[w.heap.size]? = some (.cells #[.int .i64 (n : Int), .int .i64 2, .int .i64 3, .int .i64 27, .int .i64 28, .int .i64 29, .int .i64 (q : Int), .int .i64 (29 + (q : Int)), .int .i64 (s2 : Int), .int .i64 (29 + (q : Int) + (s2 : Int)), .int .i64 (29 + (q : Int) + (s2 : Int) + 1), .int .i64 (n : Int), .int .i64 ((n : Int) + 1), .int .i64 (t : Int), .int .i64 ((n : Int) + 1 + (t : Int)), .int .i64 ((n : Int) + 1 + (t : Int) + (n : Int))] 51 (0, 0)) ∧ (w1.alloc (.cells #[.bool ok, .int .i64 h.v0, .int .i64 h.v1, .int .i64 h.v2, .int .i64 h.v3, .int .i64 h.v4, .int .i64 h.v5, .int .i64 h.v6, .int .i64 h.v7, .string body] 125)).heap[w.heap.size + 1]? = some (.cells #[.slice oa raws.length ca, .slice ob masks.length cb] 131 (0, 0)) ∧ (w1.alloc (.cells #[.bool ok, .int .i64 h.v0, .int .i64 h.v1, .int .i64 h.v2, .int .i64 h.v3, .int .i64 h.v4, .int .i64 h.v5, .int .i64 h.v6, .int .i64 h.v7, .string body] 125)).heap[w.heap.size + 1 + 1]? = some (.cells #[.int .i64 0, .int .i64 0, .int .i64 0, .int .i64 0, .string ⟨#[]⟩] 23 (0, 0)) ∧ (w1.alloc (.cells #[.bool ok, .int .i64 h.v0, .int .i64 h.v1, .int .i64 h.v2, .int .i64 h.v3, .int .i64 h.v4, .int .i64 h.v5, .int .i64 h.v6, .int .i64 h.v7, .string body] 125)).heap[w1.heap.size]? = some (.cells #[.bool ok, .int .i64 h.v0, .int .i64 h.v1, .int .i64 h.v2, .int .i64 h.v3, .int .i64 h.v4, .int .i64 h.v5, .int .i64 h.v6, .int .i64 h.v7, .string body] 125 (0, 0)) ∧ w.heap.size + 1 + 1 < w1.heap.size) := ⟨(hb0.trans (hb1.mono hb0.size)).trans (hba.mono (by omega)), (hba.block _ (by omega)).trans gL1, (hba.block _ (by omega)).trans gI1, (hba.block _ (by omega)).trans gR1, heap_alloc_new w1 _, hlt1⟩
  clear h1 hb0 gL gI gR hb1 gL1 gI1 gR1 hba
  go_wp2_with fail
  refine (hpi _).mono ?_
  rintro e w2 ⟨rfl, hb2⟩
  have hz2 : w1.heap.size < w2.heap.size := by have := hb2.size; simp at this; omega
  have hba : Below w2.heap.size w2 (w2.alloc (.cells #[.int .i64 s0, .int .i64 s1, .int .i64 s3, .int .i64 s4, .string r] 23)) := (Below.refl _ _).alloc (Nat.le_refl _) _
  have hbc : Below (w1.alloc (.cells #[.bool ok, .int .i64 h.v0, .int .i64 h.v1, .int .i64 h.v2, .int .i64 h.v3, .int .i64 h.v4, .int .i64 h.v5, .int .i64 h.v6, .int .i64 h.v7, .string body] 125)).heap.size (w1.alloc (.cells #[.bool ok, .int .i64 h.v0, .int .i64 h.v1, .int .i64 h.v2, .int .i64 h.v3, .int .i64 h.v4, .int .i64 h.v5, .int .i64 h.v6, .int .i64 h.v7, .string body] 125)) (w2.alloc (.cells #[.int .i64 s0, .int .i64 s1, .int .i64 s3, .int .i64 s4, .string r] 23)) := hb2.trans (hba.mono hb2.size)
  have HB2 : Hid (Below w.heap.size w (w2.alloc (.cells #[.int .i64 s0, .int .i64 s1, .int .i64 s3, .int .i64 s4, .string r] 23)) ∧ (w2.alloc (.cells #[.int .i64 s0, .int .i64 s1, .int .i64 s3, .int .i64 s4, .string r] 23)).heap[w.heap.size]? = some (.cells #[.int .i64 (n : Int), .int .i64 2, .int .i64 3, .int .i64 27, .int .i64 28, .int .i64 29, .int .i64 (q : Int), .int .i64 (29 + (q : Int)), .int .i64 (s2 : Int), .int .i64 (29 + (q : Int) + (s2 : Int)), .int .i64 (29 + (q : Int) + (s2 : Int) + 1), .int .i64 (n : Int), .int .i64 ((n : Int) + 1), .int .i64 (t : Int), .int .i64 ((n : Int) + 1 + (t : Int)), .int .i64 ((n : Int) + 1 + (t : Int) + (n : Int))] 51 (0, 0)) ∧ (w2.alloc (.cells #[.int .i64 s0, .int .i64 s1, .int .i64 s3, .int .i64 s4, .string r] 23)).heap[w.heap.size + 1]? = some (.cells #[.slice oa raws.length ca, .slice ob masks.length cb] 131 (0, 0)) ∧ (w2.alloc (.cells #[.int .i64 s0, .int .i64 s1, .int .i64 s3, .int .i64 s4, .string r] 23)).heap[w.heap.size + 1 + 1]? = some (.cells #[.int .i64 0, .int .i64 0, .int .i64 0, .int .i64 0, .string ⟨#[]⟩] 23 (0, 0)) ∧ (w2.alloc (.cells #[.int .i64 s0, .int .i64 s1, .int .i64 s3, .int .i64 s4, .string r] 23)).heap[w1.heap.size]? = some (.cells #[.bool ok, .int .i64 h.v0, .int .i64 h.v1, .int .i64 h.v2, .int .i64 h.v3, .int .i64 h.v4, .int .i64 h.v5, .int .i64 h.v6, .int .i64 h.v7, .string body] 125 (0, 0)) ∧ (w2.alloc (.cells #[.int .i64 s0, .int .i64 s1, .int .i64 s3, .int .i64 s4, .string r] 23)).heap[w2.heap.size]? = some (.cells #[.int .i64 s0, .int .i64 s1, .int .i64 s3, .int .i64 s4, .string r] 23 (0, 0)) ∧ w.heap.size + 1 + 1 < w1.heap.size) := ⟨HB1.out.1.trans (hbc.mono HB1.out.1.size), (hbc.block _ (lt_of_block HB1.out.2.1)).trans HB1.out.2.1, (hbc.block _ (lt_of_block HB1.out.2.2.1)).trans HB1.out.2.2.1, (hbc.block _ (lt_of_block HB1.out.2.2.2.1)).trans HB1.out.2.2.2.1, (hbc.block _ (lt_of_block HB1.out.2.2.2.2.1)).trans HB1.out.2.2.2.2.1, heap_alloc_new w2 _, HB1.out.2.2.2.2.2⟩
  have h3 := hrcd _ HB2.out.1
  have i0 : (w2.alloc (.cells #[.int .i64 s0, .int .i64 s1, .int .i64 s3, .int .i64 s4, .string r] 23)).cell? ⟨w.heap.size + 1, 0, none⟩ = some (.slice oa raws.length ca) := cell_of_row _ _ 0 _ _ _ HB2.out.2.2.1
  have i1 : (w2.alloc (.cells #[.int .i64 s0, .int .i64 s1, .int .i64 s3, .int .i64 s4, .string r] 23)).cell? ⟨w.heap.size + 1, 1, none⟩ = some (.slice ob masks.length cb) := cell_of_row _ _ 1 _ _ _ HB2.out.2.2.1
  have y0 : (w2.alloc (.cells #[.int .i64 s0, .int .i64 s1, .int .i64 s3, .int .i64 s4, .string r] 23)).cell? ⟨w.heap.size, 0, none⟩ = some (.int .i64 (n : Int)) := cell_of_row _ _ 0 _ _ _ HB2.out.2.1
  have y1 : (w2.alloc (.cells #[.int .i64 s0, .int .i64 s1, .int .i64 s3, .int .i64 s4, .string r] 23)).cell? ⟨w.heap.size, 1, none⟩ = some (.int .i64 2) := cell_of_row _ _ 1 _ _ _ HB2.out.2.1
  have y2 : (w2.alloc (.cells #[.int .i64 s0, .int .i64 s1, .int .i64 s3, .int .i64 s4, .string r] 23)).cell? ⟨w.heap.size, 2, none⟩ = some (.int .i64 3) := cell_of_row _ _ 2 _ _ _ HB2.out.2.1
  have y3 : (w2.alloc (.cells #[.int .i64 s0, .int .i64 s1, .int .i64 s3, .int .i64 s4, .string r] 23)).cell? ⟨w.heap.size, 3, none⟩ = some (.int .i64 27) := cell_of_row _ _ 3 _ _ _ HB2.out.2.1
  have y4 : (w2.alloc (.cells #[.int .i64 s0, .int .i64 s1, .int .i64 s3, .int .i64 s4, .string r] 23)).cell? ⟨w.heap.size, 4, none⟩ = some (.int .i64 28) := cell_of_row _ _ 4 _ _ _ HB2.out.2.1
  have y5 : (w2.alloc (.cells #[.int .i64 s0, .int .i64 s1, .int .i64 s3, .int .i64 s4, .string r] 23)).cell? ⟨w.heap.size, 5, none⟩ = some (.int .i64 29) := cell_of_row _ _ 5 _ _ _ HB2.out.2.1
  have y6 : (w2.alloc (.cells #[.int .i64 s0, .int .i64 s1, .int .i64 s3, .int .i64 s4, .string r] 23)).cell? ⟨w.heap.size, 6, none⟩ = some (.int .i64 (q : Int)) := cell_of_row _ _ 6 _ _ _ HB2.out.2.1
  have y7 : (w2.alloc (.cells #[.int .i64 s0, .int .i64 s1, .int .i64 s3, .int .i64 s4, .string r] 23)).cell? ⟨w.heap.size, 7, none⟩ = some (.int .i64 (29 + (q : Int))) := cell_of_row _ _ 7 _ _ _ HB2.out.2.1
  have y8 : (w2.alloc (.cells #[.int .i64 s0, .int .i64 s1, .int .i64 s3, .int .i64 s4, .string r] 23)).cell? ⟨w.heap.size, 8, none⟩ = some (.int .i64 (s2 : Int)) := cell_of_row _ _ 8 _ _ _ HB2.out.2.1
  have y9 : (w2.alloc (.cells #[.int .i64 s0, .int .i64 s1, .int .i64 s3, .int .i64 s4, .string r] 23)).cell? ⟨w.heap.size, 9, none⟩ = some (.int .i64 (29 + (q : Int) + (s2 : Int))) := cell_of_row _ _ 9 _ _ _ HB2.out.2.1
  have y10 : (w2.alloc (.cells #[.int .i64 s0, .int .i64 s1, .int .i64 s3, .int .i64 s4, .string r] 23)).cell? ⟨w.heap.size, 10, none⟩ = some (.int .i64 (29 + (q : Int) + (s2 : Int) + 1)) := cell_of_row _ _ 10 _ _ _ HB2.out.2.1
  have y11 : (w2.alloc (.cells #[.int .i64 s0, .int .i64 s1, .int .i64 s3, .int .i64 s4, .string r] 23)).cell? ⟨w.heap.size, 11, none⟩ = some (.int .i64 (n : Int)) := cell_of_row _ _ 11 _ _ _ HB2.out.2.1
  have y12 : (w2.alloc (.cells #[.int .i64 s0, .int .i64 s1, .int .i64 s3, .int .i64 s4, .string r] 23)).cell? ⟨w.heap.size, 12, none⟩ = some (.int .i64 ((n : Int) + 1)) := cell_of_row _ _ 12 _ _ _ HB2.out.2.1
  have y13 : (w2.alloc (.cells #[.int .i64 s0, .int .i64 s1, .int .i64 s3, .int .i64 s4, .string r] 23)).cell? ⟨w.heap.size, 13, none⟩ = some (.int .i64 (t : Int)) := cell_of_row _ _ 13 _ _ _ HB2.out.2.1
  have y14 : (w2.alloc (.cells #[.int .i64 s0, .int .i64 s1, .int .i64 s3, .int .i64 s4, .string r] 23)).cell? ⟨w.heap.size, 14, none⟩ = some (.int .i64 ((n : Int) + 1 + (t : Int))) := cell_of_row _ _ 14 _ _ _ HB2.out.2.1
  have y15 : (w2.alloc (.cells #[.int .i64 s0, .int .i64 s1, .int .i64 s3, .int .i64 s4, .string r] 23)).cell? ⟨w.heap.size, 15, none⟩ = some (.int .i64 ((n : Int) + 1 + (t : Int) + (n : Int))) := cell_of_row _ _ 15 _ _ _ HB2.out.2.1
  clear hpi hb2 n1 HB1 hba hbc hrcd
  go_wp2_with fail
  refine h3.mono ?_
  rintro e w3 ⟨rfl, hb3⟩
  have g3 := (hb3.block _ (lt_of_block HB2.out.2.2.2.1)).trans HB2.out.2.2.2.1
  have hb4 : Below w.heap.size w w3 := HB2.out.1.trans (hb3.mono HB2.out.1.size)
  have HB4 : Hid (w3.heap[w.heap.size + 1 + 1]? = some (.cells #[.int .i64 0, .int .i64 0, .int .i64 0, .int .i64 0, .string ⟨#[]⟩] 23 (0, 0)) ∧ Below w.heap.size w w3) := ⟨g3, hb4⟩
  clear h3 hb3 g3 hb4 HB2 i0 i1 y0 y1 y2 y3 y4 y5 y6 y7 y8 y9 y10 y11 y12 y13 y14 y15
  go_wp2_with fail
  go_quiet (fail)
  have g5 : (w3.drewN nq).heap[w.heap.size + 1 + 1]? = some (.cells #[.int .i64 0, .int .i64 0, .int .i64 0, .int .i64 0, .string ⟨#[]⟩] 23 (0, 0)) := HB4.out.1
  have hb5 : Below w.heap.size w (w3.drewN nq) := below_drewN HB4.out.2 nq
  clear HB4
  generalize w3.drewN nq = w5 at *
  go_wp2_with (refine wpList_store_row rfl 23 _ _ rfl (w.heap.size + 1 + 1) #[.int .i64 0, .int .i64 0, .int .i64 0, .int .i64 0, .string ⟨#[]⟩] rfl rfl 23 _ g5 (by kernel_rfl) rfl (by simp [Value.oneCell']) ?_)
  exact jfnd_ret _ (w.heap.size + 1 + 1) _ (.slice none 0 0) #[.int .i64 0, .int .i64 0, .int .i64 0, .int .i64 0, .string ⟨#[]⟩] false _ rfl rfl rfl (setRow_heap _ _ _ _ _ _ g5) rfl ⟨rfl, below_setRow hb5 (by omega) _⟩
end Go.Proofs.YtoopaigpjefonaaGreatDoor
