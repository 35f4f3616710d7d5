/- journal's promiseIn: what a reading promises. · strings.Builder: WriteString and String off the shelf, laid at the seat. · strings.Clone: the shelf's contract, laid at the seat. · strings.Builder, once more: what was written so far. -/
import Derived.Test.YtbmjablmmlnieaaGreatDoorMg23
import Derived.Test.YtbmjablmmlnieaaGreatDoorMg02
import Derived.Shelf.Strings.Builder1
import Derived.Shelf.Strings.Builder2
import Derived.Shelf.Strconv.Clone
namespace Go.Proofs.YtbmjablmmlnieaaGreatDoor
set_option maxRecDepth 20000
open Go.RowKit

theorem jpri_ret (tmps : Array Value) (g : Nat) (w' : World) (c : Int) (cs : Array Value) (b : Bool) (R : Ending → World → Prop) (h0 : tmps.getD 4 undef = .int .i64 c) (h1 : tmps.getD 5 undef = .pointer (some ⟨g, 0, none⟩)) (h2 : tmps.getD 6 undef = .bool b) (hg : w'.heap[g]? = some (.cells cs 33 (0, 0))) (hs : cs.size = 5) (hR : R (.returned (.tuple #[.int .i64 c, .agg cs, .bool b])) w') :
    bodyPost Tryz.prog Tryz.f81 R .ret { tmps := tmps, defers := [] } w' := by
  have hr := run_loadVar_row (P := Tryz.prog) w' g 33 33 cs (0, 0) _ hg Tryz.underlying33 rfl (by rw [hs]; kernel_rfl)
  simp at h0 h1 h2
  exact bodyPost_ret (v := .tuple #[.int .i64 c, .agg cs, .bool b]) (by simp [results, Tryz.results81, asAddr, hr, h0, h1, h2]) rfl hR
theorem set5 {w : World} {b t : Nat} {z0 z1 z2 z3 z4 : Value} (h : w.heap[b]? = some (.cells #[z0, z1, z2, z3, z4] t (0, 0))) (v0 v1 v2 v3 v4 : Value) :
    (((((w.setCell ⟨b, 0, none⟩ v0).setCell ⟨b, 1, none⟩ v1).setCell ⟨b, 2, none⟩ v2).setCell ⟨b, 3, none⟩ v3).setCell ⟨b, 4, none⟩ v4).heap[b]? = some (.cells #[v0, v1, v2, v3, v4] t (0, 0)) := by
  have h0 := heap_setCell_same w b 0 _ _ v0 h
  have h1 := heap_setCell_same _ b 1 _ _ v1 h0
  have h2 := heap_setCell_same _ b 2 _ _ v2 h1
  have h3 := heap_setCell_same _ b 3 _ _ v3 h2
  exact heap_setCell_same _ b 4 _ _ v4 h3
/-- The text of a promise's superblock. -/
theorem piT_pad (r : Rg) (h : r.body.size = 448) : padE (r.body.extract 34 448) 448 = 0 := by
  have : (r.body.extract 34 448).size = 414 := by simp [h]
  unfold padE
  rw [this]
  rfl
set_option maxHeartbeats 800000 in
theorem jpri_in (ok : Bool) (h : Hd) (s T : ByteArray) (N : Int) (c : Sp) (y : Int) (live : Int) (w : World) (hs : ok = true → s.size = 448)
    (hg : ok = true → ∀ w, Calls Tryz.prog 113 #[.string s, .int .i64 0, .int .i64 2] w fun e w' => e = .returned (.tuple #[.int .i64 N, .int .i64 0]) ∧ w' = w)
    (hp : ok = true → ∀ w, Calls Tryz.prog 75 #[.string (s.extract 34 448), .int .i64 448] w fun e w' => e = .returned (.tuple #[.string T, .int .i64 0]) ∧ Below w.heap.size w w')
    (ho : ∀ w, Calls Tryz.prog 62 #[.string T] w fun e w' => e = .returned (.tuple #[.agg c.arr, .int .i64 y]) ∧ Below w.heap.size w w')
    (P1 : Int) (P2 : Array Value) (P3 : Bool) (hyes : (ok = true ∧ h.v2 = 2 ∧ N ≤ 24 ∧ y = 0 ∧ c.lv = live) → P1 = N ∧ P2 = c.arr ∧ P3 = true) (hno : ¬ (ok = true ∧ h.v2 = 2 ∧ N ≤ 24 ∧ y = 0 ∧ c.lv = live) → P1 = 0 ∧ P2 = Sp.zero.arr ∧ P3 = false) :
    Calls Tryz.prog 81 #[.agg #[.bool ok, .int .i64 h.v0, .int .i64 h.v1, .int .i64 h.v2, .int .i64 h.v3, .int .i64 h.v4, .int .i64 h.v5, .int .i64 h.v6, .int .i64 h.v7, .string s], .int .i64 live] w fun e w' => e = .returned (.tuple #[.int .i64 P1, .agg P2, .bool P3]) ∧ Below w.heap.size w w' := by
  obtain ⟨c0, c1, c2, c3, r⟩ := c
  unfold Sp.arr at ho
  have HY : Hid ((ok = true ∧ h.v2 = 2 ∧ N ≤ 24 ∧ y = 0 ∧ c3 = live) → P1 = N ∧ P2 = #[.int .i64 c0, .int .i64 c1, .int .i64 c2, .int .i64 c3, .string r] ∧ P3 = true) := hyes
  have HN : Hid (¬ (ok = true ∧ h.v2 = 2 ∧ N ≤ 24 ∧ y = 0 ∧ c3 = live) → P1 = 0 ∧ P2 = #[.int .i64 0, .int .i64 0, .int .i64 0, .int .i64 0, .string ⟨#[]⟩] ∧ P3 = false) := hno
  clear hyes hno
  have hb0 : Below w.heap.size w ((w.alloc (.cells #[.bool ok, .int .i64 h.v0, .int .i64 h.v1, .int .i64 h.v2, .int .i64 h.v3, .int .i64 h.v4, .int .i64 h.v5, .int .i64 h.v6, .int .i64 h.v7, .string s] 81)).alloc (.cells #[.int .i64 0, .int .i64 0, .int .i64 0, .int .i64 0, .string ⟨#[]⟩] 33)) := ((Below.refl _ _).alloc (Nat.le_refl _) _).alloc (by simp) _
  by_cases h1 : ok = true ∧ h.v2 = 2
  case neg =>
    have HE : Hid _ := HN.out (fun h => h1 ⟨h.1, h.2.1⟩)
    have HB : Hid _ := hb0
    clear ho hb0 hg hp hs
    cases ok with
    | false =>
      go_enter Tryz.func81, Tryz.ntmps81
      go_wp2
      exact jpri_ret _ (w.heap.size + 1) _ 0 #[.int .i64 0, .int .i64 0, .int .i64 0, .int .i64 0, .string ⟨#[]⟩] false _ rfl rfl rfl (heap_alloc2_new w _ _) rfl ⟨by rw [HE.out.1, HE.out.2.1, HE.out.2.2], HB.out⟩
    | true =>
      have k2 : (h.v2 != 2) = true := by simp; exact fun e => h1 ⟨rfl, e⟩
      clear h1
      go_enter Tryz.func81, Tryz.ntmps81
      go_wp2
      exact jpri_ret _ (w.heap.size + 1) _ 0 #[.int .i64 0, .int .i64 0, .int .i64 0, .int .i64 0, .string ⟨#[]⟩] false _ rfl rfl rfl (heap_alloc2_new w _ _) rfl ⟨by rw [HE.out.1, HE.out.2.1, HE.out.2.2], HB.out⟩
  obtain ⟨rfl, h2⟩ := h1
  have k2 : (h.v2 != 2) = false := by simp [h2]
  have hgc := hg rfl
  have hpc := hp rfl
  have hsc := hs rfl
  clear hg hp hs
  have hs34 : (34 : Int) ≤ s.size := by omega
  have hcut : s.extract 34 s.size = s.extract 34 448 := by rw [hsc]
  by_cases hN : N ≤ 24
  case neg =>
    have HE : Hid _ := HN.out (fun h => hN h.2.2.1)
    have k3 : decide (N > 24) = true := by simp; omega
    have k4 : decide (24 < N) = true := by simp; omega
    have HB : Hid _ := hb0
    clear ho hb0 hpc h2 hN hcut hs34
    go_enter Tryz.func81, Tryz.ntmps81
    go_wp2_with fail
    refine (hgc _).mono ?_
    rintro e w1 ⟨rfl, rfl⟩
    clear hgc
    go_wp2
    exact jpri_ret _ (w.heap.size + 1) _ 0 #[.int .i64 0, .int .i64 0, .int .i64 0, .int .i64 0, .string ⟨#[]⟩] false _ rfl rfl rfl (heap_alloc2_new w _ _) rfl ⟨by rw [HE.out.1, HE.out.2.1, HE.out.2.2], HB.out⟩
  have k4 : decide (24 < N) = false := by simp; omega
  have H2 : Hid (h.v2 = 2 ∧ N ≤ 24) := ⟨h2, hN⟩
  clear h2 hN
  go_enter Tryz.func81, Tryz.ntmps81
  go_wp2_with fail
  refine (hgc _).mono ?_
  rintro e w1 ⟨rfl, rfl⟩
  clear hgc
  go_wp2_with fail
  try rw [hcut]
  refine (hpc _).mono ?_
  rintro e w1 ⟨rfl, hb1⟩
  have hbw1 := hb0.trans (hb1.mono hb0.size)
  have g1 := (hb1.block (w.heap.size + 1) (by simp)).trans (heap_alloc2_new w _ _)
  clear hpc hb0 hb1 hcut hs34
  go_wp2_with fail
  refine (ho _).mono ?_
  rintro e w2 ⟨rfl, hb2⟩
  have hlt1 := lt_of_block g1
  have hbw2 := hbw1.trans (hb2.mono hbw1.size)
  have g2 := (hb2.block (w.heap.size + 1) hlt1).trans g1
  have hlt2 := lt_of_block g2
  have g3 : (w2.alloc (.cells #[.int .i64 c0, .int .i64 c1, .int .i64 c2, .int .i64 c3, .string r] 33)).heap[w.heap.size + 1]? = some (.cells #[.int .i64 0, .int .i64 0, .int .i64 0, .int .i64 0, .string ⟨#[]⟩] 33 (0, 0)) := (Below.heap_alloc _ _ _ hlt2).trans g2
  have gc : (w2.alloc (.cells #[.int .i64 c0, .int .i64 c1, .int .i64 c2, .int .i64 c3, .string r] 33)).heap[w2.heap.size]? = some (.cells #[.int .i64 c0, .int .i64 c1, .int .i64 c2, .int .i64 c3, .string r] 33 (0, 0)) := heap_alloc_new w2 _
  have hb3 : Below w.heap.size w (w2.alloc (.cells #[.int .i64 c0, .int .i64 c1, .int .i64 c2, .int .i64 c3, .string r] 33)) := hbw2.alloc (by omega) _
  clear ho hb2 hbw1 g1 hlt1
  by_cases h3 : y = 0 ∧ c3 = live
  · obtain ⟨rfl, h4⟩ := h3
    have k5 : (c3 != live) = false := by simp [h4]
    have hall : true = true ∧ h.v2 = 2 ∧ N ≤ 24 ∧ (0 : Int) = 0 ∧ c3 = live := ⟨rfl, H2.out.1, H2.out.2, rfl, h4⟩
    have HE : Hid _ := HY.out ⟨trivial, hall.2⟩
    clear h4 hall
    have q0 : w2.cell? ⟨w.heap.size + 1, 0, none⟩ = some (.int .i64 0) := cell_of_row _ _ 0 _ _ _ g2
    have q1 : w2.cell? ⟨w.heap.size + 1, 1, none⟩ = some (.int .i64 0) := cell_of_row _ _ 1 _ _ _ g2
    have q2 : w2.cell? ⟨w.heap.size + 1, 2, none⟩ = some (.int .i64 0) := cell_of_row _ _ 2 _ _ _ g2
    have q3 : w2.cell? ⟨w.heap.size + 1, 3, none⟩ = some (.int .i64 0) := cell_of_row _ _ 3 _ _ _ g2
    have q4 : w2.cell? ⟨w.heap.size + 1, 4, none⟩ = some (.string ⟨#[]⟩) := cell_of_row _ _ 4 _ _ _ g2
    have f0 := frozen_of_row w2 (w.heap.size + 1) 0 _ _ g2
    have f1 := frozen_of_row w2 (w.heap.size + 1) 1 _ _ g2
    have f2 := frozen_of_row w2 (w.heap.size + 1) 2 _ _ g2
    have f3 := frozen_of_row w2 (w.heap.size + 1) 3 _ _ g2
    have f4 := frozen_of_row w2 (w.heap.size + 1) 4 _ _ g2
    have HG : Hid (w2.heap[w.heap.size + 1]? = some (.cells #[.int .i64 0, .int .i64 0, .int .i64 0, .int .i64 0, .string ⟨#[]⟩] 33 (0, 0)) ∧ Below w.heap.size w w2) := ⟨g2, hbw2⟩
    have hfin : Hid ((((((w2.setCell ⟨w.heap.size + 1, 0, none⟩ (.int .i64 c0)).setCell ⟨w.heap.size + 1, 1, none⟩ (.int .i64 c1)).setCell ⟨w.heap.size + 1, 2, none⟩ (.int .i64 c2)).setCell ⟨w.heap.size + 1, 3, none⟩ (.int .i64 c3)).setCell ⟨w.heap.size + 1, 4, none⟩ (.string r)).heap[w.heap.size + 1]? = some (.cells #[.int .i64 c0, .int .i64 c1, .int .i64 c2, .int .i64 c3, .string r] 33 (0, 0)) ∧ Below w.heap.size w (((((w2.setCell ⟨w.heap.size + 1, 0, none⟩ (.int .i64 c0)).setCell ⟨w.heap.size + 1, 1, none⟩ (.int .i64 c1)).setCell ⟨w.heap.size + 1, 2, none⟩ (.int .i64 c2)).setCell ⟨w.heap.size + 1, 3, none⟩ (.int .i64 c3)).setCell ⟨w.heap.size + 1, 4, none⟩ (.string r))) := ⟨set5 g2 _ _ _ _ _, ((((hbw2.setCell (p := ⟨w.heap.size + 1, 0, none⟩) (by simp) _).setCell (p := ⟨w.heap.size + 1, 1, none⟩) (by simp) _).setCell (p := ⟨w.heap.size + 1, 2, none⟩) (by simp) _).setCell (p := ⟨w.heap.size + 1, 3, none⟩) (by simp) _).setCell (p := ⟨w.heap.size + 1, 4, none⟩) (by simp) _⟩
    have HF2 : Hid (((((((w2.setCell ⟨w.heap.size + 1, 0, none⟩ (.int .i64 c0)).setCell ⟨w.heap.size + 1, 1, none⟩ (.int .i64 c1)).setCell ⟨w.heap.size + 1, 2, none⟩ (.int .i64 c2)).setCell ⟨w.heap.size + 1, 3, none⟩ (.int .i64 c3)).setCell ⟨w.heap.size + 1, 4, none⟩ (.string r)).alloc (.cells #[.int .i64 c0, .int .i64 c1, .int .i64 c2, .int .i64 c3, .string r] 33)).drew.heap[w.heap.size + 1]? = some (.cells #[.int .i64 c0, .int .i64 c1, .int .i64 c2, .int .i64 c3, .string r] 33 (0, 0)) ∧ Below w.heap.size w ((((((w2.setCell ⟨w.heap.size + 1, 0, none⟩ (.int .i64 c0)).setCell ⟨w.heap.size + 1, 1, none⟩ (.int .i64 c1)).setCell ⟨w.heap.size + 1, 2, none⟩ (.int .i64 c2)).setCell ⟨w.heap.size + 1, 3, none⟩ (.int .i64 c3)).setCell ⟨w.heap.size + 1, 4, none⟩ (.string r)).alloc (.cells #[.int .i64 c0, .int .i64 c1, .int .i64 c2, .int .i64 c3, .string r] 33)).drew) := ⟨(Below.heap_alloc (((((w2.setCell ⟨w.heap.size + 1, 0, none⟩ (.int .i64 c0)).setCell ⟨w.heap.size + 1, 1, none⟩ (.int .i64 c1)).setCell ⟨w.heap.size + 1, 2, none⟩ (.int .i64 c2)).setCell ⟨w.heap.size + 1, 3, none⟩ (.int .i64 c3)).setCell ⟨w.heap.size + 1, 4, none⟩ (.string r)) _ _ (lt_of_block hfin.out.1)).trans hfin.out.1, (hfin.out.2.alloc hfin.out.2.size _).drew⟩
    clear g3 gc hb3 g2 hbw2 HG hfin
    go_wp2_with fail
    go_region
    clear q0 q1 q2 q3 q4 f0 f1 f2 f3 f4
    go_wp2_with fail
    refine jpri_ret _ (w.heap.size + 1) _ N #[.int .i64 c0, .int .i64 c1, .int .i64 c2, .int .i64 c3, .string r] true _ rfl rfl rfl ?_ rfl ⟨?_, ?_⟩
    · exact HF2.out.1
    · rw [HE.out.1, HE.out.2.1, HE.out.2.2]
    · exact HF2.out.2
  · have hway : (y != 0) = true ∨ ((y != 0) = false ∧ (c3 != live) = true) := by
      by_cases e1 : y = 0
      · exact .inr ⟨by simp [e1], by simp; exact fun e3 => h3 ⟨e1, e3⟩⟩
      · exact .inl (by simpa using e1)
    have hall : ¬ (true = true ∧ h.v2 = 2 ∧ N ≤ 24 ∧ y = 0 ∧ c3 = live) := fun h => h3 h.2.2.2
    have HE : Hid _ := HN.out (fun h => hall ⟨rfl, h.2⟩)
    clear h3 gc hall hbw2 g2
    rcases hway with k5 | ⟨k5, k6⟩
    · go_wp2_with (refine wpList_store_row rfl 33 _ _ rfl (w.heap.size + 1) #[.int .i64 0, .int .i64 0, .int .i64 0, .int .i64 0, .string ⟨#[]⟩] rfl rfl 33 _ g3 (by kernel_rfl) rfl (by simp [Value.oneCell']) ?_)
      exact jpri_ret _ (w.heap.size + 1) _ 0 #[.int .i64 0, .int .i64 0, .int .i64 0, .int .i64 0, .string ⟨#[]⟩] false _ rfl rfl rfl (setRow_heap _ _ _ _ _ _ g3) rfl ⟨by rw [HE.out.1, HE.out.2.1, HE.out.2.2], below_setRow hb3 (by omega) _⟩
    · go_wp2_with (refine wpList_store_row rfl 33 _ _ rfl (w.heap.size + 1) #[.int .i64 0, .int .i64 0, .int .i64 0, .int .i64 0, .string ⟨#[]⟩] rfl rfl 33 _ g3 (by kernel_rfl) rfl (by simp [Value.oneCell']) ?_)
      exact jpri_ret _ (w.heap.size + 1) _ 0 #[.int .i64 0, .int .i64 0, .int .i64 0, .int .i64 0, .string ⟨#[]⟩] false _ rfl rfl rfl (setRow_heap _ _ _ _ _ _ g3) rfl ⟨by rw [HE.out.1, HE.out.2.1, HE.out.2.2], below_setRow hb3 (by omega) _⟩
theorem jpri_any (r : Rg) (live : Int) (w : World) (hs : r.ok = true → r.body.size = 448) :
    Calls Tryz.prog 81 #[.agg r.arr, .int .i64 live] w fun e w' => e = .returned (.tuple #[.int .i64 (piN r live), .agg (piS r live).arr, .bool (piB r live)]) ∧ Below w.heap.size w w' := by
  have h := jpri_in r.ok r.h r.body (piT r) (getN r.body 0 2) (spOf (piT r)) (superOE (piT r)) live w hs (fun ho w => by
    have hg := get_any r.body 0 2 (by rw [hs ho]; decide) w
    have e : getE r.body 0 2 = 0 := by
      have h4 := hs ho
      unfold getE
      rw [if_neg (by decide), if_neg (by omega)]
    rw [e] at hg
    exact hg) (fun ho w => by
    have hp := pad_any (r.body.extract 34 448) 448 w
    rw [piT_pad r (hs ho)] at hp
    exact hp) fun w => by
    have ho := superOf_any (piT r) w
    rw [superOC_arr] at ho
    exact ho
  have hc : (r.ok = true ∧ r.h.v2 = 2 ∧ getN r.body 0 2 ≤ 24 ∧ superOE (piT r) = 0 ∧ (spOf (piT r)).lv = live) ↔ piB r live = true := by
    unfold piB
    exact decide_eq_true_iff.symm
  refine h (piN r live) (piS r live).arr (piB r live) (fun hy => ?_) (fun hn => ?_)
  · have hb := hc.1 hy
    have e1 : piN r live = getN r.body 0 2 := if_pos hb
    have e2 : piS r live = spOf (piT r) := if_pos hb
    exact ⟨e1, congrArg Sp.arr e2, hb⟩
  · have hb : ¬ piB r live = true := fun e => hn (hc.2 e)
    have e1 : piN r live = 0 := if_neg hb
    have e2 : piS r live = Sp.zero := if_neg hb
    exact ⟨e1, congrArg Sp.arr e2, Bool.eq_false_iff.2 hb⟩
end Go.Proofs.YtbmjablmmlnieaaGreatDoor

namespace Go.Proofs.YtbmjablmmlnieaaGreatDoor
set_option maxRecDepth 20000
open Go.Shelf Go.RowKit

def ct169_ren : Go.Shelf.Ren := ⟨fun | 169 => 58 | n => n, fun | 70 => 121 | 9 => 9 | 0 => 0 | 72 => 123 | 37 => 92 | 127 => 169 | 3 => 3 | 5 => 5 | n => n, fun | n => n⟩
theorem ct169 : Go.Proofs.Lays.n169 Tryz.prog ct169_ren := {
  mixed := by kernel_rfl
  f169 := Tryz.func58.trans (congrArg some (by kernel_rfl))
  t0 := Tryz.underlying0
  a0 := Tryz.isAgg0
  z0 := Tryz.sizeOf0
  v0 := Tryz.zeroValue0
  t3 := Tryz.underlying3
  a3 := Tryz.isAgg3
  z3 := Tryz.sizeOf3
  v3 := Tryz.zeroValue3
  t9 := Tryz.underlying9
  a9 := Tryz.isAgg9
  z9 := Tryz.sizeOf9
  v9 := Tryz.zeroValue9
  t37 := Tryz.underlying92
  a37 := Tryz.isAgg92
  z37 := Tryz.sizeOf92
  v37 := Tryz.zeroValue92
  t70 := Tryz.underlying121
  a70 := Tryz.isAgg121
  z70 := Tryz.sizeOf121
  v70 := Tryz.zeroValue121
  t72 := Tryz.underlying123
  a72 := Tryz.isAgg123
  z72 := Tryz.sizeOf123
  v72 := Tryz.zeroValue123
  t127 := Tryz.underlying169
  a127 := Tryz.isAgg169
  z127 := Tryz.sizeOf169
  v127 := Tryz.zeroValue169 }
theorem ct169_extra : Builder.Extra Tryz.prog ct169_ren := {
  sizeBuilder := by kernel_rfl
  liesBuilder := by kernel_rfl
  t5 := Tryz.underlying5
  a5 := Tryz.isAgg5
  z5 := Tryz.sizeOf5
  v5 := Tryz.zeroValue5
  infoByte := by kernel_rfl
  cellsByte := by kernel_rfl
  sizeByte := by kernel_rfl
  neB5 := by decide }
def ct166_ren : Go.Shelf.Ren := ⟨fun | 166 => 56 | 240 => 90 | 276 => 117 | n => n, fun | 0 => 0 | 3 => 3 | 4 => 4 | 9 => 9 | 20 => 20 | 37 => 92 | 70 => 121 | 72 => 123 | 75 => 99 | 164 => 195 | 5 => 5 | 80 => 128 | n => n, fun | n => n⟩
theorem ct166 : Go.Proofs.Lays.n166 Tryz.prog ct166_ren := {
  mixed := by kernel_rfl
  f166 := Tryz.func56.trans (congrArg some (by kernel_rfl))
  f240 := Tryz.func90.trans (congrArg some (by kernel_rfl))
  f276 := Tryz.func117.trans (congrArg some (by kernel_rfl))
  t0 := Tryz.underlying0
  a0 := Tryz.isAgg0
  z0 := Tryz.sizeOf0
  v0 := Tryz.zeroValue0
  t3 := Tryz.underlying3
  a3 := Tryz.isAgg3
  z3 := Tryz.sizeOf3
  v3 := Tryz.zeroValue3
  t4 := Tryz.underlying4
  a4 := Tryz.isAgg4
  z4 := Tryz.sizeOf4
  v4 := Tryz.zeroValue4
  t9 := Tryz.underlying9
  a9 := Tryz.isAgg9
  z9 := Tryz.sizeOf9
  v9 := Tryz.zeroValue9
  t20 := Tryz.underlying20
  a20 := Tryz.isAgg20
  z20 := Tryz.sizeOf20
  v20 := Tryz.zeroValue20
  t37 := Tryz.underlying92
  a37 := Tryz.isAgg92
  z37 := Tryz.sizeOf92
  v37 := Tryz.zeroValue92
  t70 := Tryz.underlying121
  a70 := Tryz.isAgg121
  z70 := Tryz.sizeOf121
  v70 := Tryz.zeroValue121
  t72 := Tryz.underlying123
  a72 := Tryz.isAgg123
  z72 := Tryz.sizeOf123
  v72 := Tryz.zeroValue123
  t75 := Tryz.underlying99
  a75 := Tryz.isAgg99
  z75 := Tryz.sizeOf99
  v75 := Tryz.zeroValue99
  t164 := Tryz.underlying195
  a164 := Tryz.isAgg195
  z164 := Tryz.sizeOf195
  v164 := Tryz.zeroValue195 }
theorem ct166_extra : Builder.Extra Tryz.prog ct166_ren := {
  sizeBuilder := by kernel_rfl
  liesBuilder := by kernel_rfl
  t5 := Tryz.underlying5
  a5 := Tryz.isAgg5
  z5 := Tryz.sizeOf5
  v5 := Tryz.zeroValue5
  infoByte := by kernel_rfl
  cellsByte := by kernel_rfl
  sizeByte := by kernel_rfl
  neB5 := by decide }
theorem ctString_any (B b : Nat) (l : List UInt8) (w : World) (h : Lib.IsBuilder 123 5 B b (Lib.byteCells l) w) (hBw : B ≤ w.heap.size) :
    Calls Tryz.prog 58 #[.pointer (some ⟨b, 0, none⟩)] w fun e w' => e = .returned (.string ⟨l.toArray⟩) ∧ Below B w w' := Any.Builder_String_any ct169 ct169_extra B b l w h hBw
end Go.Proofs.YtbmjablmmlnieaaGreatDoor

namespace Go.Proofs.YtbmjablmmlnieaaGreatDoor
set_option maxRecDepth 20000
open Go.Shelf Go.RowKit

def sh_laysM316_ren : Go.Shelf.Ren := ⟨fun | 316 => 86 | n => n, fun | 9 => 9 | 3 => 3 | 4 => 4 | 37 => 92 | 0 => 0 | 127 => 169 | 5 => 5 | n => n, fun | n => n⟩
theorem sh_laysM316 : Go.Proofs.LaysM.n316 Tryz.prog sh_laysM316_ren := {
  mixed := by kernel_rfl
  f316 := Tryz.func86.trans (congrArg some (by kernel_rfl))
  t0 := Tryz.underlying0
  a0 := Tryz.isAgg0
  z0 := Tryz.sizeOf0
  v0 := Tryz.zeroValue0
  t3 := Tryz.underlying3
  a3 := Tryz.isAgg3
  z3 := Tryz.sizeOf3
  v3 := Tryz.zeroValue3
  t4 := Tryz.underlying4
  a4 := Tryz.isAgg4
  z4 := Tryz.sizeOf4
  v4 := Tryz.zeroValue4
  t9 := Tryz.underlying9
  a9 := Tryz.isAgg9
  z9 := Tryz.sizeOf9
  v9 := Tryz.zeroValue9
  t37 := Tryz.underlying92
  a37 := Tryz.isAgg92
  z37 := Tryz.sizeOf92
  v37 := Tryz.zeroValue92
  t127 := Tryz.underlying169
  a127 := Tryz.isAgg169
  z127 := Tryz.sizeOf169
  v127 := Tryz.zeroValue169
  t5 := Tryz.underlying5
  a5 := Tryz.isAgg5
  z5 := Tryz.sizeOf5
  v5 := Tryz.zeroValue5
  i0 := by kernel_rfl
  i3 := by kernel_rfl
  i4 := by kernel_rfl
  i5 := by kernel_rfl
  i9 := by kernel_rfl
  i37 := by kernel_rfl
  i127 := by kernel_rfl }

theorem shSlClone_any (s : ByteArray) (w : World) (hs : s.size ≤ 281474976710656) :
    Calls Tryz.prog 86 #[.string s] w fun e w' => e = .returned (.string s) ∧ Below w.heap.size w w' := Any.stringslite_Clone sh_laysM316 s w hs
theorem shClone_any (s : ByteArray) (w : World) (hs : s.size ≤ 281474976710656) :
    Calls Tryz.prog 52 #[.string s] w fun e w' => e = .returned (.string s) ∧ Below w.heap.size w w' := by
  go_enter Tryz.func52, Tryz.ntmps52
  go_wp2_with fail
  refine (shSlClone_any s _ hs).mono ?_
  rintro e w1 ⟨rfl, hb⟩
  go_wp2
  go_ret
  exact ⟨rfl, hb⟩
end Go.Proofs.YtbmjablmmlnieaaGreatDoor

namespace Go.Proofs.YtbmjablmmlnieaaGreatDoor
set_option maxRecDepth 20000
open Go.RowKit Go.Shelf

def Bl (B b : Nat) (l : List UInt8) (w : World) : Prop := Lib.IsBuilder 123 5 B b (Lib.byteCells l) w
theorem ptWrite_any (B b : Nat) (l : List UInt8) (s : ByteArray) (w : World) (h : Bl B b l w) (hlen : l.length + s.size ≤ 140737488355328) (hBw : B ≤ w.heap.size) :
    Calls Tryz.prog 56 #[.pointer (some ⟨b, 0, none⟩), .string s] w fun e w' => e = .returned (.tuple #[.int .i64 s.size, .nilIface]) ∧ Bl B b (l ++ s.data.toList) w' ∧ Below B w w' := by
  refine (Any.Builder_WriteString ct166 ct166_extra B b (Lib.byteCells l) s w h (by rw [Lib.byteCells_length]; exact hlen) hBw).mono fun e w' ⟨he, hB, hb⟩ => ⟨by rw [he], .inr ?_, hb⟩
  have e : Lib.byteCells l ++ Lib.strCells s = Lib.byteCells (l ++ s.data.toList) := by simp [Lib.byteCells, Lib.strCells]
  rw [← e]
  exact hB
theorem pt_owns {w w' : World} {base : Nat} {e : TypeId} {size : Nat} {v : Value} {n : Nat} {xs : List Value} (h : w.ownsRow base e size v n xs) (hk : ∀ k, k < w.heap.size → w'.heap[k]? = w.heap[k]?) : w'.ownsRow base e size v n xs := by
  refine ⟨h.1, ?_⟩
  rcases h.2 with h0 | ⟨g, cap, cur, e, h0, hg, h1, h2, h3, h4⟩
  · exact .inl h0
  · exact .inr ⟨g, cap, cur, e, h0, (hk g (lt_of_block hg)).trans hg, h1, h2, h3, h4⟩
theorem Bl_keep {B b : Nat} {l : List UInt8} {w w' : World} (h : Bl B b l w) (hb : Below w.heap.size w w') : Bl B b l w' := by
  have hk : ∀ k, k < w.heap.size → w'.heap[k]? = w.heap[k]? := fun k hk => hb.block k hk
  rcases h with ⟨h1, v, h2, h3, h4⟩ | ⟨h1, v, h2, h3, h4⟩
  · exact .inl ⟨h1, v, (hk _ (lt_of_block h2)).trans h2, pt_owns h3 hk, h4⟩
  · exact .inr ⟨h1, v, (hk _ (lt_of_block h2)).trans h2, pt_owns h3 hk, h4⟩
theorem below_drewN {B : Nat} {w wr : World} (h : Below B w wr) : ∀ m, Below B w (wr.drewN m)
  | 0 => h
  | m + 1 => (below_drewN h m).drew
end Go.Proofs.YtbmjablmmlnieaaGreatDoor
