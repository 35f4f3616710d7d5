/- journal's recorded: so many of the journal's records. · journal's headed and together. -/
import Derived.Test.YtdngoicpcocnnaaGreatDoorMg29
import Derived.Test.YtdngoicpcocnnaaGreatDoorMg27
import Derived.Laws.Small
namespace Go.Proofs.YtdngoicpcocnnaaGreatDoor
set_option maxRecDepth 20000
open Go.RowKit

theorem atS_size (raws : List ByteArray) (masks : List Int) (a : Int) : (atS raws masks a).size = 512 := by
  unfold atS
  split
  · next h =>
    unfold atB at h
    exact (of_decide_eq_true h).2.2.2
  · exact fillS_size 0 512
theorem rcdB_no {raws : List ByteArray} {masks : List Int} {log : Int} {n j : Nat} (hj : j < n) (h : ¬ atM raws masks (log + (j : Int)) = 0) : rcdB raws masks log n = false := by
  unfold rcdB
  rw [List.all_eq_false]
  exact ⟨j, List.mem_range.2 hj, by simpa using h⟩
theorem rcdB_yes {raws : List ByteArray} {masks : List Int} {log : Int} {n : Nat} (h : ∀ j, j < n → atM raws masks (log + (j : Int)) = 0) : rcdB raws masks log n = true := by
  unfold rcdB
  rw [List.all_eq_true]
  exact fun j hj => by simpa using h j (List.mem_range.1 hj)
theorem rcdL_succ (raws : List ByteArray) (masks : List Int) (log : Int) (n : Nat) : rcdL raws masks log (n + 1) = rcdL raws masks log n ++ [rcdW raws masks log n] := by simp [rcdL, List.range_succ]
theorem rcdL_length (raws : List ByteArray) (masks : List Int) (log : Int) (n : Nat) : (rcdL raws masks log n).length = n := by simp [rcdL]
structure RdR (w : World) (oa ob : Option Addr) (ca cb : Nat) (raws : List ByteArray) (masks : List Int) (A : Array Value) (j : Nat) (wr : World) : Prop where
  ok : ∀ i, i < j → atM raws masks (3 + (i : Int)) = 0
  below : Below w.heap.size w wr
  lay : wr.heap[w.heap.size]? = some (.cells A 71 (0, 0))
  img : wr.heap[w.heap.size + 1]? = some (.cells #[.slice oa raws.length ca, .slice ob masks.length cb] 60 (0, 0))
set_option maxHeartbeats 4000000 in
theorem recorded_any (n q s2 t : Nat) (oa ob : Option Addr) (ca cb : Nat) (raws : List ByteArray) (masks : List Int) (m : Nat) (hm : m ≤ 1000) (w : World) (h1 : List1 Value.string w (.slice oa raws.length ca) raws) (h2 : List1 (Value.int .i64) w (.slice ob masks.length cb) masks) :
    Calls Tryz.prog 82 #[.agg (layA n q s2 t), .agg #[.slice oa raws.length ca, .slice ob masks.length cb], .int .i64 (m : Int)] w fun e w' => ∃ v', e = .returned (.tuple #[v', .bool (rcdB raws masks 3 m)]) ∧ (rcdB raws masks 3 m = true → WZ w' w.heap.size v' (rcdL raws masks 3 m)) ∧ (rcdB raws masks 3 m = false → v' = .slice none 0 0) ∧ Below w.heap.size w w' := by
  obtain ⟨i0, hi0, hz0, hz1, hz2⟩ := info_parts jn_info_wt
  have H12 : Hid (List1 Value.string w (.slice oa raws.length ca) raws ∧ List1 (Value.int .i64) w (.slice ob masks.length cb) masks) := ⟨h1, h2⟩
  obtain ⟨A, hA⟩ : ∃ A, A = layA n q s2 t := ⟨_, rfl⟩
  have hA2 : A[2]? = some (.int .i64 3) := by rw [hA]; rfl
  rw [← hA]
  clear hA h1 h2
  have HI : Hid (RdR w oa ob ca cb raws masks A 0 ((w.alloc (.cells A 71)).alloc (.cells #[.slice oa raws.length ca, .slice ob masks.length cb] 60)) ∧ A[2]? = some (.int .i64 3)) := ⟨⟨fun i hi => absurd hi (Nat.not_lt_zero _), ((Below.refl _ _).alloc (Nat.le_refl _) _).alloc (by simp) _, heap_alloc2_old w _ _, heap_alloc2_new w _ _⟩, hA2⟩
  clear hA2
  obtain ⟨rl, hrl⟩ : ∃ rl, rl = raws.length := ⟨_, rfl⟩
  obtain ⟨ml, hml⟩ : ∃ ml, ml = masks.length := ⟨_, rfl⟩
  rw [← hrl, ← hml]
  have HL : Hid (rl = raws.length ∧ ml = masks.length) := ⟨hrl, hml⟩
  obtain ⟨Y, hY⟩ : ∃ Y, Y = rcdB raws masks 3 m := ⟨_, rfl⟩
  rw [← hY]
  have HY : Hid (Y = rcdB raws masks 3 m) := hY
  clear hrl hml hY
  go_enter Tryz.func82, Tryz.ntmps82
  go_wp2_with fail
  go_loopw [8, 15] (fun sv iv wr => ∃ (j : Nat), j ≤ m ∧ iv = .int .i64 (j : Int) ∧ WZ wr (w.heap.size + 2) sv (rcdL raws masks 3 j) ∧ Hid (RdR w oa ob ca cb raws masks A j wr)) (fun _ iv _ => m - (intOf iv).toNat)
  case atStart => exact ⟨0, Nat.zero_le _, rfl, WZ.nil _ _, by have := HI.out.1; rw [← HL.out.1, ← HL.out.2] at this; exact this⟩
  case round =>
    obtain ⟨j, hj, rfl, hown, HR⟩ := hrel
    have hrl := rcdL_length raws masks 3 j
    obtain ⟨oc, cap, rfl⟩ := hown.form
    rw [hrl] at hown ⊢
    have hz := lt_of_block HR.out.img
    by_cases hlt : j < m
    · have j1 : (j : Int) < m := by omega
      have d0 : wr.cell? ⟨w.heap.size, 2, none⟩ = some (.int .i64 3) := by simp [World.cell?, HR.out.lay, HI.out.2]
      have d1 : wr.cell? ⟨w.heap.size + 1, 0, none⟩ = some (.slice oa rl ca) := by rw [HL.out.1]; exact cell_of_row _ _ 0 _ _ _ HR.out.img
      have d2 : wr.cell? ⟨w.heap.size + 1, 1, none⟩ = some (.slice ob ml cb) := by rw [HL.out.2]; exact cell_of_row _ _ 1 _ _ _ HR.out.img
      have hat := at_any wr oa ob ca cb raws masks (3 + (j : Int)) (H12.out.1.below HR.out.below) (H12.out.2.below HR.out.below)
      rw [← HL.out.1, ← HL.out.2] at hat
      have hs5 := atS_size raws masks (3 + (j : Int))
      have HN : Hid (rcdL raws masks 3 (j + 1) = rcdL raws masks 3 j ++ [⟨(hdOf ((atS raws masks (3 + (j : Int))).extract 0 48)).v1, atS raws masks (3 + (j : Int))⟩]) := rcdL_succ raws masks 3 j
      have hh := fun w => bheadOf_any ((atS raws masks (3 + (j : Int))).extract 0 48) w
      generalize hx : (atS raws masks (3 + (j : Int))).extract 0 48 = x at *
      generalize atS raws masks (3 + (j : Int)) = r at *
      generalize hdOf x = h at *
      generalize headE x = E at *
      have h48 : (48 : Int) ≤ r.size := by omega
      clear hs5
      by_cases hM : atM raws masks (3 + (j : Int)) = 0
      · have HM : Hid (∀ i, i < j + 1 → atM raws masks (3 + (i : Int)) = 0) := fun i hi => by
          by_cases e : i = j
          · subst e; exact hM
          · exact HR.out.ok i (by omega)
        rw [hM] at hat
        generalize rcdL raws masks 3 j = d at *
        subst hrl
        go_wp2_with fail
        refine hat.mono ?_
        rintro e w1 ⟨rfl, hb1⟩
        have HR1 : Hid (Below w.heap.size w w1 ∧ w1.heap[w.heap.size]? = some (.cells A 71 (0, 0)) ∧ w1.heap[w.heap.size + 1]? = some (.cells #[.slice oa raws.length ca, .slice ob masks.length cb] 60 (0, 0)) ∧ WZ w1 (w.heap.size + 2) (.slice oc d.length cap) d) := ⟨HR.out.below.trans (hb1.mono HR.out.below.size), (hb1.block _ (by omega)).trans HR.out.lay, (hb1.block _ hz).trans HR.out.img, hown.below hb1⟩
        clear hat hb1 d0 d1 d2 hown HR
        go_wp2_with fail
        try rw [hx]
        refine (hh _).mono ?_
        rintro e w2 ⟨rfl, hb2⟩
        have hzz : w.heap.size + 1 < w1.heap.size := lt_of_block HR1.out.2.2.1
        have hb12 := hb2.size
        have hown2 := HR1.out.2.2.2.below hb2
        have hbw2 : Below w.heap.size w w2 := HR1.out.1.trans (hb2.mono HR1.out.1.size)
        have hl2 := (hb2.block _ (show w.heap.size < w1.heap.size by omega)).trans HR1.out.2.1
        have hi2 := (hb2.block _ hzz).trans HR1.out.2.2.1
        have hownC := World.ownsRow.alloc (World.ownsRow.alloc hown2 (.cells #[.int .i64 h.v0, .int .i64 h.v1, .int .i64 h.v2, .int .i64 h.v3, .int .i64 h.v4, .int .i64 h.v5, .int .i64 h.v6, .int .i64 h.v7] 79)) (.cells #[.int .i64 h.v1, .string r] 48)
        have hnew : ((w2.alloc (.cells #[.int .i64 h.v0, .int .i64 h.v1, .int .i64 h.v2, .int .i64 h.v3, .int .i64 h.v4, .int .i64 h.v5, .int .i64 h.v6, .int .i64 h.v7] 79)).alloc (.cells #[.int .i64 h.v1, .string r] 48)).heap[w2.heap.size + 1]? = some (.cells #[.int .i64 h.v1, .string r] 48 (0, 0)) := heap_alloc2_new w2 _ _
        have hone : ∀ u ∈ ([.int .i64 h.v1, .string r] : List Value), u.oneCell' = true := by intro u hu; simp at hu; rcases hu with rfl | rfl <;> rfl
        have HO : Hid (WZ w2 (w.heap.size + 2) (.slice oc d.length cap) d ∧ Below w.heap.size w ((w2.alloc (.cells #[.int .i64 h.v0, .int .i64 h.v1, .int .i64 h.v2, .int .i64 h.v3, .int .i64 h.v4, .int .i64 h.v5, .int .i64 h.v6, .int .i64 h.v7] 79)).alloc (.cells #[.int .i64 h.v1, .string r] 48)) ∧ ((w2.alloc (.cells #[.int .i64 h.v0, .int .i64 h.v1, .int .i64 h.v2, .int .i64 h.v3, .int .i64 h.v4, .int .i64 h.v5, .int .i64 h.v6, .int .i64 h.v7] 79)).alloc (.cells #[.int .i64 h.v1, .string r] 48)).heap[w.heap.size]? = some (.cells A 71 (0, 0)) ∧ ((w2.alloc (.cells #[.int .i64 h.v0, .int .i64 h.v1, .int .i64 h.v2, .int .i64 h.v3, .int .i64 h.v4, .int .i64 h.v5, .int .i64 h.v6, .int .i64 h.v7] 79)).alloc (.cells #[.int .i64 h.v1, .string r] 48)).heap[w.heap.size + 1]? = some (.cells #[.slice oa raws.length ca, .slice ob masks.length cb] 60 (0, 0))) :=
          ⟨hown2, (hbw2.alloc hbw2.size _).alloc (by have := hbw2.size; simp; omega) _, (Below.heap_alloc _ _ _ (by simp; omega)).trans ((Below.heap_alloc _ _ _ (by omega)).trans hl2), (Below.heap_alloc _ _ _ (by simp; omega)).trans ((Below.heap_alloc _ _ _ (by omega)).trans hi2)⟩
        clear hh hb2 hown2 hbw2 hl2 hi2 HR1 hx hM
        go_wp2_with (first | (at_builtin; (refine wpList_append_own _ rfl _ _ 45 rfl (w.heap.size + 2) 48 i0 _ 2 24 Tryz.underlying45 hi0 hz0 hz1 hz2 rfl (by decide) (.slice oc d.length cap) d.length (d.flatMap Wt.cells) rfl hownC ⟨w2.heap.size + 1, 0, none⟩ 1 1 [.int .i64 h.v1, .string r] rfl rfl (World.news_of_block hnew) hone (by unfold maxLen; omega) (by omega) (by simp; omega) ?_)))
        intro v1 wB hown3 hgrow3 _
        have hTB : Below (w.heap.size + 2) ((w2.alloc (.cells #[.int .i64 h.v0, .int .i64 h.v1, .int .i64 h.v2, .int .i64 h.v3, .int .i64 h.v4, .int .i64 h.v5, .int .i64 h.v6, .int .i64 h.v7] 79)).alloc (.cells #[.int .i64 h.v1, .string r] 48)) wB := (Below.refl _ _).grown hgrow3 (by simp; omega) fun k hk => (World.ownsRow.lt HO.out.1 k hk).1
        have HF : Hid (WZ wB (w.heap.size + 2) v1 (rcdL raws masks 3 (d.length + 1)) ∧ RdR w oa ob ca cb raws masks A (d.length + 1) wB) := by
          refine ⟨?_, HM.out, HO.out.2.1.trans (hTB.mono (by omega)), (hTB.block w.heap.size (by omega)).trans HO.out.2.2.1, (hTB.block (w.heap.size + 1) (by omega)).trans HO.out.2.2.2⟩
          unfold WZ
          rw [HN.out, List.length_append, List.length_singleton, List.flatMap_append, List.flatMap_singleton]
          exact hown3
        clear hownC hnew hown3 hgrow3 hTB hone
        go_wp2
        go_roundw
        case rel => exact ⟨d.length + 1, by omega, by go_num, HF.out.1, HF.out.2⟩
        case measure => simp [intOf]; omega
      · have HF : Hid (Y = false) := by show Y = false; rw [HY.out]; exact rcdB_no hlt hM
        generalize atM raws masks (3 + (j : Int)) = M at *
        have hM1 : (M != 0) = true := by simpa using hM
        clear hown hh hM
        go_wp2_with fail
        refine hat.mono ?_
        rintro e w1 ⟨rfl, hb1⟩
        have HB : Hid (Below w.heap.size w w1) := HR.out.below.trans (hb1.mono HR.out.below.size)
        clear hat hb1 d0 d1 d2
        go_wp2
        go_ret2
        exact ⟨_, by rw [HF.out]; rfl, (fun h => by rw [HF.out] at h; cases h), fun _ => rfl, HB.out⟩
    · obtain rfl : j = m := by omega
      have j1 : ¬ (j : Int) < j := by omega
      have HF : Hid (Y = true ∧ WZ wr w.heap.size (.slice oc j cap) (rcdL raws masks 3 j) ∧ Below w.heap.size w wr) := ⟨HY.out.trans (rcdB_yes HR.out.ok), WZ.mono hown (by omega), HR.out.below⟩
      clear hown HR
      go_wp2
      go_ret2
      exact ⟨_, by rw [HF.out.1]; rfl, fun _ => HF.out.2.1, (fun h => by rw [HF.out.1] at h; cases h), HF.out.2.2⟩
end Go.Proofs.YtdngoicpcocnnaaGreatDoor

namespace Go.Proofs.YtdngoicpcocnnaaGreatDoor
set_option maxRecDepth 20000
open Go.RowKit

set_option maxHeartbeats 4000000 in
theorem headed_any (a : Int) (r : ByteArray) (w : World) :
    Calls Tryz.prog 73 #[.agg #[.int .i64 a, .string r]] w fun e w' => e = .returned (.bool (hdB ⟨a, r⟩)) ∧ Below w.heap.size w w' := by
  have hb0 : Below w.heap.size w (w.alloc (.cells #[.int .i64 a, .string r] 48)) := (Below.refl _ _).alloc (Nat.le_refl _) _
  by_cases hr : r.size = 512
  case neg =>
    have h1 : ((r.size : Int) != 512) = true := by simp; omega
    have e1 : hdB ⟨a, r⟩ = false := by simp [hdB, hr]
    rw [e1]
    have HB : Hid _ := hb0
    clear hb0 hr e1
    go_enter Tryz.func73, Tryz.ntmps73
    go_wp2
    go_ret
    exact ⟨rfl, HB.out⟩
  have h1 : ((r.size : Int) != 512) = false := by simp; omega
  have h48 : (48 : Int) ≤ r.size := by omega
  have hh := fun w => bheadOf_any (r.extract 0 48) w
  have HD : Hid (hdB ⟨a, r⟩ = decide (headE (r.extract 0 48) = 0 ∧ (hdOf (r.extract 0 48)).v1 = a)) := by
    show hdB ⟨a, r⟩ = _
    simp [hdB, hr]
  generalize hdB ⟨a, r⟩ = D at *
  generalize hx : r.extract 0 48 = x at *
  generalize hdOf x = h at *
  generalize headE x = E at *
  clear hr
  go_enter Tryz.func73, Tryz.ntmps73
  go_wp2_with fail
  try rw [hx]
  refine (hh _).mono ?_
  rintro e w2 ⟨rfl, hb2⟩
  have g0 := (hb2.block w.heap.size (by simp)).trans (heap_alloc_new w _)
  have hbw : Below w.heap.size w w2 := hb0.trans (hb2.mono hb0.size)
  have hlt := lt_of_block g0
  have c0 : (w2.alloc (.cells #[.int .i64 h.v0, .int .i64 h.v1, .int .i64 h.v2, .int .i64 h.v3, .int .i64 h.v4, .int .i64 h.v5, .int .i64 h.v6, .int .i64 h.v7] 79)).cell? ⟨w.heap.size, 0, none⟩ = some (.int .i64 a) := cell_of_row _ _ 0 _ _ _ ((Below.heap_alloc _ _ _ hlt).trans g0)
  have HB : Hid (Below w.heap.size w (w2.alloc (.cells #[.int .i64 h.v0, .int .i64 h.v1, .int .i64 h.v2, .int .i64 h.v3, .int .i64 h.v4, .int .i64 h.v5, .int .i64 h.v6, .int .i64 h.v7] 79))) := hbw.alloc (by omega) _
  clear hh hb2 g0 hbw hb0
  by_cases hE : E = 0
  · subst hE
    by_cases ha : h.v1 = a
    · have k1 : (h.v1 == a) = true := by simp [ha]
      have eD : Hid (D = true) := by show D = true; rw [HD.out]; simp [ha]
      clear HD ha
      go_wp2
      go_ret
      exact ⟨by rw [eD.out]; rfl, HB.out⟩
    · have k1 : (h.v1 == a) = false := by simp [ha]
      have eD : Hid (D = false) := by show D = false; rw [HD.out]; simp [ha]
      clear HD ha
      go_wp2
      go_ret
      exact ⟨by rw [eD.out]; rfl, HB.out⟩
  · have k1 : (E == 0) = false := by simp [hE]
    have eD : Hid (D = false) := by show D = false; rw [HD.out]; simp [hE]
    clear HD
    go_wp2
    go_ret
    exact ⟨by rw [eD.out]; rfl, HB.out⟩
/-- What a round of together knows. -/
structure TgR (w : World) (n q s2 t : Nat) (l : List Wt) (j : Nat) (least : Int) (wr : World) : Prop where
  b : togB 27 (n : Int) l = togB least (n : Int) (l.drop j)
  lo : 27 ≤ least ∧ least ≤ 100000
  below : Below w.heap.size w wr
  row : wr.heap[w.heap.size]? = some (.cells (layA n q s2 t) 71 (0, 0))
set_option maxHeartbeats 4000000 in
theorem together_any (n q s2 t : Nat) (v : Value) (l : List Wt) (w : World) (hv : Wts w v l) (hll : l.length ≤ 1000) (hn : n ≤ 1024) :
    Calls Tryz.prog 39 #[.agg (layA n q s2 t), v] w fun e w' => e = .returned (.bool (togB 27 (n : Int) l)) ∧ Below w.heap.size w w' := by
  obtain ⟨oa, ca, rfl⟩ := hv.form
  have HV : Hid (Wts w (.slice oa l.length ca) l) := hv
  have HI : Hid (TgR w n q s2 t l 0 27 (w.alloc (.cells (layA n q s2 t) 71))) := ⟨rfl, by omega, (Below.refl _ _).alloc (Nat.le_refl _) _, heap_alloc_new w _⟩
  have e3 : (w.alloc (.cells (layA n q s2 t) 71)).cell? ⟨w.heap.size, 3, none⟩ = some (.int .i64 27) := cell_of_row _ _ 3 _ _ _ (heap_alloc_new w _)
  obtain ⟨X, hX⟩ : ∃ X, X = togB 27 (n : Int) l := ⟨_, rfl⟩
  have HX : Hid (X = togB 27 (n : Int) l) := hX
  rw [← hX]
  clear hv hX
  obtain ⟨A, hA⟩ : ∃ A, A = layA n q s2 t := ⟨_, rfl⟩
  rw [← hA] at e3 ⊢
  have HA : Hid (A = layA n q s2 t) := hA
  rw [← hA] at HI
  clear hA
  go_enter Tryz.func39, Tryz.ntmps39
  go_wp2_with fail
  clear e3
  go_loopw [5, 12] (fun lv iv wr => ∃ (j : Nat) (least : Int), j ≤ l.length ∧ iv = .int .i64 (j : Int) ∧ lv = .int .i64 least ∧ Hid (TgR w n q s2 t l j least wr)) (fun _ iv _ => l.length - (intOf iv).toNat)
  case atStart => exact ⟨0, 27, Nat.zero_le _, rfl, rfl, HI⟩
  case round =>
    clear HI HA
    obtain ⟨j, least, hj, rfl, rfl, HR⟩ := hrel
    by_cases hlt : j < l.length
    · have j1 : (j : Int) < l.length := by omega
      obtain ⟨g, o, rfl, hg, hc⟩ := HV.out.at hlt
      have hgw := Nat.lt_of_lt_of_le hg HR.out.below.size
      obtain ⟨c0, c1⟩ := hc.keep (HR.out.below.block g hg)
      have hd : l.drop j = l[j] :: l.drop (j + 1) := List.drop_eq_getElem_cons hlt
      have HE : Hid (X = (decide (least ≤ l[j].at_ ∧ l[j].at_ < (n : Int)) && hdB l[j] && togB (l[j].at_ + 1) (n : Int) (l.drop (j + 1))) ∧ togB 27 (n : Int) l = (decide (least ≤ l[j].at_ ∧ l[j].at_ < (n : Int)) && hdB l[j] && togB (l[j].at_ + 1) (n : Int) (l.drop (j + 1)))) := by
        have := HR.out.b
        rw [hd] at this
        exact ⟨HX.out.trans this, this⟩
      clear hc hd
      generalize l[j] = x at *
      obtain ⟨a, r⟩ := x
      simp only at c0 c1 HE
      have hlo := HR.out.lo
      have hzl := lt_of_block HR.out.row
      have hh := fun w => headed_any a r w
      have HRow : Hid ((wr.alloc (.cells #[.int .i64 a, .string r] 48)).heap[w.heap.size]? = some (.cells (layA n q s2 t) 71 (0, 0)) ∧ Below w.heap.size w (wr.alloc (.cells #[.int .i64 a, .string r] 48))) := ⟨(Below.heap_alloc _ _ _ hzl).trans HR.out.row, HR.out.below.alloc HR.out.below.size _⟩
      have d0 : (wr.alloc (.cells #[.int .i64 a, .string r] 48)).cell? ⟨w.heap.size, 0, none⟩ = some (.int .i64 (n : Int)) := cell_of_row _ _ 0 _ _ _ HRow.out.1
      clear HR hg
      by_cases k1 : a < least
      · have HF : Hid (X = false) := by
          show X = false
          rw [HE.out.1, decide_eq_false (by omega)]
          rfl
        have k1' : decide (a < least) = true := by simpa using k1
        clear HE hh d0
        go_wp2
        go_ret
        exact ⟨by rw [HF.out]; rfl, HRow.out.2⟩
      · have k1' : decide (a < least) = false := by simpa using k1
        by_cases k2 : (n : Int) ≤ a
        · have HF : Hid (X = false) := by
            show X = false
            rw [HE.out.1, decide_eq_false (by omega)]
            rfl
          have k2' : decide (a ≥ (n : Int)) = true := by simpa using k2
          have k2'' : decide ((n : Int) ≤ a) = true := by simpa using k2
          clear HE hh k1
          go_wp2
          go_ret
          exact ⟨by rw [HF.out]; rfl, HRow.out.2⟩
        · have k2'' : decide ((n : Int) ≤ a) = false := by simpa using k2
          have HE2 : Hid (X = (hdB ⟨a, r⟩ && togB (a + 1) (n : Int) (l.drop (j + 1))) ∧ togB 27 (n : Int) l = (hdB ⟨a, r⟩ && togB (a + 1) (n : Int) (l.drop (j + 1)))) := by
            have := HE.out
            rw [decide_eq_true (show least ≤ a ∧ a < (n : Int) by omega)] at this
            show _ ∧ _
            simpa using this
          have kk : 27 ≤ a ∧ a ≤ 1024 := by omega
          clear HE k1
          generalize hdB ⟨a, r⟩ = B at *
          go_wp2_with fail
          refine (hh _).mono ?_
          rintro e w2 ⟨rfl, hb2⟩
          have hz2 : wr.heap.size < w2.heap.size := by have := hb2.size; simp at this; omega
          have hrow2 := (hb2.block w.heap.size (by simp; omega)).trans HRow.out.1
          have f0 : w2.cell? ⟨wr.heap.size, 0, none⟩ = some (.int .i64 a) := cell_of_row _ _ 0 _ _ _ ((hb2.block wr.heap.size (by simp)).trans (heap_alloc_new wr _))
          have HB2 : Hid (Below w.heap.size w w2) := HRow.out.2.trans (hb2.mono HRow.out.2.size)
          cases B with
          | false =>
            have HF : Hid (X = false) := HE2.out.1
            clear HE2 hh hb2 d0
            go_wp2
            go_ret
            exact ⟨by rw [HF.out]; rfl, HB2.out⟩
          | true =>
            have HF : Hid (TgR w n q s2 t l (j + 1) (a + 1) w2) := ⟨by rw [HE2.out.2]; rfl, by omega, HB2.out, hrow2⟩
            clear HE2 hh hb2 d0 hrow2
            go_wp2
            go_roundw
            case rel => exact ⟨j + 1, a + 1, by omega, by go_num, by go_num, HF⟩
            case measure => simp [intOf]; omega
    · have j1 : ¬ (j : Int) < l.length := by omega
      have hd : l.drop j = [] := List.drop_eq_nil_of_le (by omega)
      have HF : Hid (X = true ∧ Below w.heap.size w wr) := by
        refine ⟨?_, HR.out.below⟩
        have := HR.out.b
        rw [hd] at this
        exact HX.out.trans this
      clear hd HR
      go_wp2
      go_ret
      exact ⟨by rw [HF.out.1]; rfl, HF.out.2⟩
end Go.Proofs.YtdngoicpcocnnaaGreatDoor
