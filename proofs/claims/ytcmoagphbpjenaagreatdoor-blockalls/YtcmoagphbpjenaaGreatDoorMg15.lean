/- The document's New and Start. -/
import Derived.Test.YtcmoagphbpjenaaGreatDoorMg13
import Derived.Test.YtcmoagphbpjenaaGreatDoorMg14
namespace Go.Proofs.YtcmoagphbpjenaaGreatDoor
set_option maxRecDepth 20000
open Go.RowKit

theorem keptAt_tail {f : Nat → Bool} {wait : List (Nat × ByteArray)} {kept : List ByteArray} {M : Nat} (h : ∀ j, M ≤ j → f j = false) : ∀ d, keptAt f wait kept (M + d) = keptAt f wait kept M
  | 0 => rfl
  | d + 1 => by
    rw [show M + (d + 1) = (M + d) + 1 by omega]
    cases hj : wait[M + d]? with
    | none => simp only [keptAt, hj]; exact keptAt_tail h d
    | some p =>
      simp only [keptAt, hj, h (M + d) (by omega)]
      exact keptAt_tail h d
theorem lastsB_beyond (l : List Bool) (j : Nat) (h : l.length ≤ j) : lastsB l j = false := by rw [lastsB, List.getD_eq_getElem?_getD, List.getElem?_eq_none h]; rfl

/-- A device in the making: n sectors have texts, m have notes. -/
structure NewMid (base : Nat) (w : World) (B : Nat) (kv dv : Value) (n m : Nat) : Prop where
  row : Row w B 40 [kv, dv, .slice none 0 0, .int .i64 (-1), .bool false, .int .i64 0, .int .i64 0]
  kept : w.ownsRow 0 9 1 kv n (List.replicate n (.string (fillS 0 64)))
  dumb : w.ownsRow 0 4 1 dv m (List.replicate m (.bool false))
  low : base ≤ B
  fK : ∀ g, kv.ownBlock = some g → base ≤ g
  fD : ∀ g, dv.ownBlock = some g → base ≤ g
  kB : Apart kv B
  dB : Apart dv B
  kd : Apart2 kv dv
theorem NewMid.keep {base : Nat} {w w' : World} {B n m : Nat} {kv dv : Value} (h : NewMid base w B kv dv n m) (hb : ∀ k, k < w.heap.size → w'.heap[k]? = w.heap[k]?) : NewMid base w' B kv dv n m :=
  { h with row := (hb B h.row.lt).trans h.row, kept := owns_keep h.kept fun g hg => hb g (owns_lt h.kept g hg), dumb := owns_keep h.dumb fun g hg => hb g (owns_lt h.dumb g hg) }
theorem NewMid.growK {base : Nat} {w w' : World} {B n m : Nat} {kv dv v' : Value} (h : NewMid base w B kv dv n m) (hbase : base ≤ w.heap.size) (hown : w'.ownsRow 0 9 1 v' (n + 1) (List.replicate n (.string (fillS 0 64)) ++ [.string (fillS 0 64)])) (hg : w.grownBy w' kv.ownBlock) (hat : v'.ownBlock = kv.ownBlock ∨ v'.ownBlock = some w.heap.size) :
    w'.cell? ⟨B, 0, none⟩ = some kv ∧ w'.frozen? ⟨B, 0, none⟩ = false ∧ NewMid base (w'.setCell ⟨B, 0, none⟩ v') B v' dv (n + 1) m := by
  have hB := h.row.lt
  have r1 : Row w' B _ _ := (hg.block B h.row.lt (fun e => h.kB e.symm)).trans h.row
  have r3 := owns_keep (w' := w') h.dumb fun g hg' => hg.block g (owns_lt h.dumb g hg') (fun e => h.kd g e.symm hg')
  have nB : Apart v' B := by
    rcases hat with e | e
    · unfold Apart; rw [e]; exact h.kB
    · unfold Apart; rw [e]; intro e2; cases e2; omega
  have nD : Apart2 v' dv := fun g hg' e2 => by
    rcases hat with e | e
    · exact h.kd g (by rw [← e]; exact hg') e2
    · rw [e] at hg'; cases hg'; have := owns_lt h.dumb _ e2; omega
  refine ⟨r1.cell 0, r1.frozen 0, r1.setL 0 v', ?_, owns_off r3 h.dB _ _, h.low, fun g hg' => ?_, h.fD, nB, h.dB, nD⟩
  · have := owns_off hown nB 0 v'
    rw [← List.replicate_succ'] at this
    exact this
  · rcases hat with e | e
    · exact h.fK g (by rw [← e]; exact hg')
    · rw [e] at hg'; cases hg'; exact hbase
theorem NewMid.growD {base : Nat} {w w' : World} {B n m : Nat} {kv dv v' : Value} (h : NewMid base w B kv dv n m) (hbase : base ≤ w.heap.size) (hown : w'.ownsRow 0 4 1 v' (m + 1) (List.replicate m (.bool false) ++ [.bool false])) (hg : w.grownBy w' dv.ownBlock) (hat : v'.ownBlock = dv.ownBlock ∨ v'.ownBlock = some w.heap.size) :
    w'.cell? ⟨B, 1, none⟩ = some dv ∧ w'.frozen? ⟨B, 1, none⟩ = false ∧ NewMid base (w'.setCell ⟨B, 1, none⟩ v') B kv v' n (m + 1) := by
  have hB := h.row.lt
  have r1 : Row w' B _ _ := (hg.block B h.row.lt (fun e => h.dB e.symm)).trans h.row
  have r3 := owns_keep (w' := w') h.kept fun g hg' => hg.block g (owns_lt h.kept g hg') (fun e => h.kd g hg' e.symm)
  have nB : Apart v' B := by
    rcases hat with e | e
    · unfold Apart; rw [e]; exact h.dB
    · unfold Apart; rw [e]; intro e2; cases e2; omega
  have nD : Apart2 kv v' := fun g hg' e2 => by
    rcases hat with e | e
    · exact h.kd g hg' (by rw [← e]; exact e2)
    · rw [e] at e2; cases e2; have := owns_lt h.kept _ hg'; omega
  refine ⟨r1.cell 1, r1.frozen 1, r1.setL 1 v', owns_off r3 h.kB _ _, ?_, h.low, h.fK, fun g hg' => ?_, h.kB, nB, nD⟩
  · have := owns_off hown nB 1 v'
    rw [← List.replicate_succ'] at this
    exact this
  · rcases hat with e | e
    · exact h.fD g (by rw [← e]; exact hg')
    · rw [e] at hg'; cases hg'; exact hbase
theorem NewMid.done {base : Nat} {w : World} {B n : Nat} {kv dv : Value} (h : NewMid base w B kv dv n n) (hn : n ≤ 32768) : RefP w (fun k => base ≤ k ∧ k < w.heap.size) B (newP n) := by
  have hl : (newP n).kept.length = n := by simp [newP]
  refine ⟨kv, dv, .slice none 0 0, List.replicate n (fillS 0 64), List.replicate n false, h.row, ?_, ?_, World.ownsRow_nil _ _ _ _, ⟨h.low, h.row.lt⟩, fun g hg => ⟨h.fK g hg, owns_lt h.kept g hg⟩, fun g hg => ⟨h.fD g hg, owns_lt h.dumb g hg⟩, fun g hg => (by cases hg), h.kB, h.dB, by simp [Apart, Value.ownBlock], h.kd, fun g _ => by simp [Value.ownBlock], fun g _ => by simp [Value.ownBlock], by rw [hl]; exact hn, by simp [newP], fun i hi => ?_, fun s hs => ?_, by simp [newP]⟩
  · rw [hl, List.map_replicate]; exact h.kept
  · rw [hl, List.map_replicate]; exact h.dumb
  · rw [hl] at hi
    simp [newP, hi]
  · rw [(List.mem_replicate.1 hs).2, fillS_size]

set_option maxHeartbeats 400000 in
theorem rnew_bad (n : Int) (hn : n < 0 ∨ 32768 < n) (w : World) :
    Calls Tryz.prog 23 #[.int .i64 n] w fun e w' => e = .returned (.tuple #[.pointer none, .int .i64 1]) ∧ w' = w := by
  rcases hn with h | h
  · go_enter Tryz.func23, Tryz.ntmps23
    go_wp2
    go_ret2
    exact ⟨rfl, rfl⟩
  · obtain ⟨m, rfl⟩ : ∃ m : Nat, n = m := ⟨n.toNat, by omega⟩
    go_enter Tryz.func23, Tryz.ntmps23
    go_wp2
    go_ret2
    exact ⟨rfl, rfl⟩

set_option maxRecDepth 10000 in
set_option maxHeartbeats 2000000 in
theorem rnew_any (n : Nat) (hn : n ≤ 32768) (w : World) :
    Calls Tryz.prog 23 #[.int .i64 n] w fun e w' => ∃ B, e = .returned (.tuple #[.pointer (some ⟨B, 0, none⟩), .int .i64 0]) ∧ RefP w' (fun k => w.heap.size ≤ k ∧ k < w'.heap.size) B (newP n) ∧ Below w.heap.size w w' := by
  have i0 : ¬ (n : Int) < 0 := by omega
  have i1 : ¬ (32768 : Int) < n := by omega
  obtain ⟨q0, hq, hz0, hz1, hz2⟩ := info_parts info_string
  obtain ⟨q1, hq', hy0, hy1, hy2⟩ := info_parts (show (Tryz.prog.info? 4).map (fun i => (i.zero, i.size, i.bytes)) = some (some (.bool false), 1, 1) by kernel_rfl)
  have hM0 : NewMid w.heap.size (w.alloc (.cells #[.slice none 0 0, .slice none 0 0, .slice none 0 0, .int .i64 (-1), .bool false, .int .i64 0, .int .i64 0] 40)) w.heap.size (.slice none 0 0) (.slice none 0 0) 0 0 :=
    ⟨heap_alloc_new w _, World.ownsRow_nil _ _ _ _, World.ownsRow_nil _ _ _ _, Nat.le_refl _, fun g hg => (by cases hg), fun g hg => (by cases hg), by simp [Apart, Value.ownBlock], by simp [Apart, Value.ownBlock], fun g hg => (by cases hg)⟩
  have hb0 := (Below.refl w.heap.size w).alloc (Nat.le_refl _) (.cells #[.slice none 0 0, .slice none 0 0, .slice none 0 0, .int .i64 (-1), .bool false, .int .i64 0, .int .i64 0] 40)
  obtain ⟨w0, hw0⟩ : ∃ w0, w.alloc (.cells #[.slice none 0 0, .slice none 0 0, .slice none 0 0, .int .i64 (-1), .bool false, .int .i64 0, .int .i64 0] 40) = w0 := ⟨_, rfl⟩
  rw [hw0] at hM0 hb0
  have HI : Hid (NewMid w.heap.size w0 w.heap.size (.slice none 0 0) (.slice none 0 0) 0 0 ∧ Below w.heap.size w w0) := ⟨hM0, hb0⟩
  clear hM0 hb0
  go_enter Tryz.func23, Tryz.ntmps23
  go_wp2_with fail
  go_loopw [5] (fun v wr => ∃ j : Nat, j ≤ n ∧ v = .int .i64 j ∧ (∃ kv dv, NewMid w.heap.size wr w.heap.size kv dv j j) ∧ Below w.heap.size w wr) (fun v _ => n - (intOf v).toNat)
  case atStart => exact ⟨0, Nat.zero_le _, rfl, ⟨_, _, HI.out.1⟩, HI.out.2⟩
  case round =>
    clear HI hw0
    obtain ⟨j, hj, rfl, ⟨kv, dv, hM⟩, hT⟩ := hrel
    by_cases hlt : j < n
    · have j1 : (j : Int) < n := by omega
      have c0 : wr.cell? ⟨w.heap.size, 0, none⟩ = some kv := hM.row.cell 0
      have HM : Hid (NewMid w.heap.size wr w.heap.size kv dv j j ∧ Below w.heap.size w wr) := ⟨hM, hT⟩
      have hds : ∃ ob cb, dv = .slice ob j cb := by
        rcases owns_len hM.dumb with ⟨cap, e⟩ | ⟨g, cap, e⟩
        · exact ⟨_, cap, e⟩
        · exact ⟨_, cap, e⟩
      obtain ⟨ob, cb, rfl⟩ := hds
      clear hM hT
      go_wp2_with fail
      go_region_law (first | (refine step_append_at _ rfl _ _ 36 rfl 0 9 q0 (.string ⟨#[]⟩) 1 16 Tryz.underlying36 hq hz0 hz1 hz2 rfl (by decide) kv j (List.replicate j (.string (fillS 0 64))) rfl (owns_keep hA.kept fun g hg => Below.heap_alloc wA _ g (owns_lt hA.kept g hg)) ⟨wA.heap.size, 0, none⟩ 1 1 [.string (fillS 0 64)] rfl rfl (World.news_of_block (heap_alloc_new wA _)) (by intro u hu; rw [List.mem_singleton] at hu; rw [hu]; rfl) (by unfold maxLen; omega) (by omega) (Nat.zero_le _) ?_; intro v1 wB hown1 hgrow1 hat1; obtain ⟨g1, cap1, rfl, hgc, _⟩ := owns_form hown1 (by omega); have hA2 := hA.keep (w' := wA.alloc (.cells #[.string (fillS 0 64)] 9)) (fun k hk => Below.heap_alloc wA _ k hk); have hTB : Below w.heap.size w wB := (hTA.alloc hTA.size _).grown hgrow1 (Nat.le_trans hTA.size (by simp)) (fun k hk => hA.fK k hk); obtain ⟨x1, x2, hmid⟩ := hA2.growK (Nat.le_trans hTA.size (by simp)) hown1 hgrow1 hat1; have HG : Hid _ := hmid; clear hmid hA2 hown1 hgrow1 hat1) | (go_simp; refine (blank_any _).mono ?_; rintro e wA ⟨rfl, hbA⟩; dsimp only; have hA : NewMid w.heap.size wA w.heap.size kv (.slice ob j cb) j j := HM.out.1.keep (fun k hk => hbA.block k hk); have hTA : Below w.heap.size w wA := HM.out.2.drew.trans (hbA.mono HM.out.2.size); have dA : wA.cell? ⟨w.heap.size, 0, none⟩ = some kv := hA.row.cell 0; have dA2 : ∀ o, (wA.alloc o).cell? ⟨w.heap.size, 0, none⟩ = some kv := fun o => (hA.keep (w' := wA.alloc o) (fun k hk => Below.heap_alloc wA o k hk)).row.cell 0))
      all_goals
        obtain ⟨w5, hw5⟩ : ∃ w5, wB.setCell ⟨w.heap.size, 0, none⟩ (.slice (some ⟨g1, 0, none⟩) (j + 1) cap1) = w5 := ⟨_, rfl⟩
        have hT5 : Below w.heap.size w w5 := by rw [← hw5]; exact hTB.setCell (p := ⟨w.heap.size, 0, none⟩) (Nat.le_refl _) _
        rw [hw5] at HG
        have c1 : w5.cell? ⟨w.heap.size, 1, none⟩ = some (.slice ob j cb) := HG.out.row.cell 1
        have HH : Hid (Below w.heap.size w w5) := hT5
        clear x1 x2 dA dA2 hA hTA hbA hTB hT5 c0
        try rw [hw5]
        go_wp2_with (first | (at_builtin; refine wpList_append_own_at _ rfl _ _ 37 rfl 0 4 q1 (.bool false) 1 1 Tryz.underlying37 hq' hy0 hy1 hy2 rfl (by decide) (.slice ob j cb) j (List.replicate j (.bool false)) rfl (owns_keep HG.out.dumb fun g hg => Below.heap_alloc w5 _ g (owns_lt HG.out.dumb g hg)) ⟨w5.heap.size, 0, none⟩ 1 1 [.bool false] rfl rfl (World.news_of_block (heap_alloc_new w5 _)) (by intro u hu; rw [List.mem_singleton] at hu; rw [hu]; rfl) (by unfold maxLen; omega) (by omega) (Nat.zero_le _) ?_))
        intro v2 wC hown2 hgrow2 _ hat2
        obtain ⟨g2, cap2, rfl, hgc2, _⟩ := owns_form hown2 (by omega)
        have hG2 := HG.out.keep (w' := w5.alloc (.cells #[.bool false] 4)) (fun k hk => Below.heap_alloc w5 _ k hk)
        have hTC : Below w.heap.size w wC := (HH.out.alloc HH.out.size _).grown hgrow2 (Nat.le_trans HH.out.size (by simp)) (fun k hk => HG.out.fD k hk)
        obtain ⟨y1, y2, hmid2⟩ := hG2.growD (Nat.le_trans HH.out.size (by simp)) hown2 hgrow2 (by rw [show (w5.alloc (.cells #[.bool false] 4)).heap.size = w5.heap.size + 1 by simp]; exact hat2)
        obtain ⟨w6, hw6⟩ : ∃ w6, wC.setCell ⟨w.heap.size, 1, none⟩ (.slice (some ⟨g2, 0, none⟩) (j + 1) cap2) = w6 := ⟨_, rfl⟩
        have hT6 : Below w.heap.size w w6 := by rw [← hw6]; exact hTC.setCell (p := ⟨w.heap.size, 1, none⟩) (Nat.le_refl _) _
        rw [hw6] at hmid2
        have HF : Hid ((∃ kv dv, NewMid w.heap.size w6 w.heap.size kv dv (j + 1) (j + 1)) ∧ Below w.heap.size w w6) := ⟨⟨_, _, hmid2⟩, hT6⟩
        clear hmid2 hT6 hTC hG2 hown2 hgrow2 hat2
        go_wp2
        go_roundw
        case rel => exact ⟨j + 1, by omega, by go_num, HF.out.1, HF.out.2⟩
        case measure => simp [intOf]; omega
    · obtain rfl : j = n := by omega
      have HF : Hid (RefP wr (fun k => w.heap.size ≤ k ∧ k < wr.heap.size) w.heap.size (newP j) ∧ Below w.heap.size w wr) := ⟨hM.done hn, hT⟩
      clear hM hT
      go_wp2
      go_ret2
      exact ⟨w.heap.size, rfl, HF.out.1, HF.out.2⟩
end Go.Proofs.YtcmoagphbpjenaaGreatDoor
