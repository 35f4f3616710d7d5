/- The things' clones: each is told again, and nothing that was there is changed. · Counting: the number of a thing, the next one, if it comes first; and whether a tag is the number of a thing that came ahead. -/
import Derived.Test.YtbmjablmmlnieaaGreatDoorMg05
namespace Go.Proofs.YtbmjablmmlnieaaGreatDoor
set_option maxRecDepth 20000
open Go.RowKit Go.Maps

theorem cloneB_any (s : ByteArray) (h : s.size ≤ 140737488355328) (w : World) :
    Calls Tryz.prog 52 #[.string s] w fun e w' => e = .returned (.string s) ∧ Below w.heap.size w w' := clone_any s w (by omega)
/-- Two new blocks: their places, and what a call that changes nothing of what was there leaves of them. -/
theorem two_new {w w1 : World} {x y : Array Value} {t u : TypeId} (hb : Below ((w.alloc (.cells x t)).alloc (.cells y u)).heap.size ((w.alloc (.cells x t)).alloc (.cells y u)) w1) :
    w1.heap[w.heap.size]? = some (.cells x t (0, 0)) ∧ w1.heap[w.heap.size + 1]? = some (.cells y u (0, 0)) ∧ Below w.heap.size w w1 := by
  have s1 : (w.alloc (.cells x t)).heap.size = w.heap.size + 1 := by simp
  have s2 : ((w.alloc (.cells x t)).alloc (.cells y u)).heap.size = w.heap.size + 2 := by simp
  rw [s2] at hb
  refine ⟨?_, ?_, ?_⟩
  · rw [hb.block _ (by omega), Below.heap_alloc _ _ _ (by omega)]
    exact heap_alloc_new w _
  · rw [hb.block _ (by omega), ← s1]
    exact heap_alloc_new _ _
  · have h0 := ((Below.refl w.heap.size w).alloc (Nat.le_refl _) (.cells x t)).alloc (by omega) (.cells y u)
    exact h0.trans (hb.mono (by omega))

set_option maxHeartbeats 1000000 in
theorem cloneT_any (s : ByteArray) (h : fitT s) (w : World) :
    Calls Tryz.prog 205 #[keyT s] w fun e w' => e = .returned (keyT s) ∧ Below w.heap.size w w' := by
  unfold fitT at h
  unfold keyT
  go_enter Tryz.func205, Tryz.ntmps205
  go_wp2_with fail
  refine (cloneB_any s h _).mono ?_
  rintro e w1 ⟨rfl, hb⟩
  obtain ⟨_, g1, hB⟩ := two_new hb
  clear hb
  have c1 : w1.cell? ⟨w.heap.size + 1, 0, none⟩ = some (.string ⟨#[]⟩) := cell_of_row _ _ _ _ _ _ g1
  have f1 : w1.frozen? ⟨w.heap.size + 1, 0, none⟩ = false := by simp [World.frozen?, g1]
  have HG : Hid ((w1.setCell ⟨w.heap.size + 1, 0, none⟩ (.string s)).heap[w.heap.size + 1]? = some (.cells #[.string s] 271 (0, 0))) := heap_setCell_same w1 (w.heap.size + 1) 0 _ _ _ g1
  have HB : Hid (Below w.heap.size w w1) := hB
  clear hB g1
  go_wp2
  exact bodyPost_ret (v := .agg #[.string s]) (results_cell_row Tryz.results205 _ _ (w.heap.size + 1) 271 _ (0, 0) _ rfl HG.out Tryz.underlying271 rfl (by kernel_rfl)) rfl ⟨rfl, HB.out.setCell (by simp) _⟩

set_option maxHeartbeats 4000000 in
theorem cloneM_any (p : ByteArray × ByteArray) (h : fitM p) (w : World) : 
    Calls Tryz.prog 207 #[keyM p] w fun e w' => e = .returned (keyM p) ∧ Below w.heap.size w w' := by
  obtain ⟨a, b⟩ := p
  obtain ⟨h1, h2⟩ := h
  unfold keyM
  have hc := fun s (hs : s.size ≤ 140737488355328) W => cloneB_any s hs W
  go_enter Tryz.func207, Tryz.ntmps207
  go_wp2_with fail
  obtain ⟨w0, hw0⟩ : ∃ w0, (w.alloc (.cells #[.string a, .string b] 281)).alloc (.cells #[.string ⟨#[]⟩, .string ⟨#[]⟩] 281) = w0 := ⟨_, rfl⟩
  obtain ⟨r0, r1, rB⟩ := two_new (w1 := w0) (by rw [hw0]; exact Below.refl _ _)
  try rw [hw0]
  have HK : Hid (∀ W, Below w0.heap.size w0 W → (W.cell? ⟨w.heap.size, 0, none⟩ = some (.string a) ∧ W.cell? ⟨w.heap.size, 1, none⟩ = some (.string b)) ∧ W.heap[w.heap.size + 1]? = some (.cells #[.string ⟨#[]⟩, .string ⟨#[]⟩] 281 (0, 0)) ∧ Below w.heap.size w W) := fun W h => by
    have e0 := (h.block _ (lt_of_block r0)).trans r0
    exact ⟨⟨cell_of_row _ _ _ _ _ _ e0, cell_of_row _ _ _ _ _ _ e0⟩, (h.block _ (lt_of_block r1)).trans r1, rB.trans (h.mono rB.size)⟩
  have hb := Below.refl w0.heap.size w0
  clear r0 r1 rB hw0
  go_region_held3 (fun w' => w'.cell? ⟨w.heap.size, 0, none⟩ = some (.string a) ∧ w'.cell? ⟨w.heap.size, 1, none⟩ = some (.string b)) (first | exact (HK.out _ hb).1 | exact (HK.out _ hb.drew).1 | simp [go_sem, *]) (first | (go_at_call 52; refine (hc _ (by assumption) _).mono ?_; rintro e wA ⟨rfl, hA⟩; have hb : Below w0.heap.size w0 wA := (by first | exact hb.trans (hA.mono hb.size) | exact hb.drew.trans (hA.mono hb.size)); have c0 : wA.cell? ⟨w.heap.size + 1, 0, none⟩ = some (.string ⟨#[]⟩) := cell_of_row _ _ 0 _ _ _ (HK.out _ hb).2.1; have c1 : wA.cell? ⟨w.heap.size + 1, 1, none⟩ = some (.string ⟨#[]⟩) := cell_of_row _ _ 1 _ _ _ (HK.out _ hb).2.1; have f0 : wA.frozen? ⟨w.heap.size + 1, 0, none⟩ = false := (by simp [World.frozen?, (HK.out _ hb).2.1]); have f1 : wA.frozen? ⟨w.heap.size + 1, 1, none⟩ = false := (by simp [World.frozen?, (HK.out _ hb).2.1])))
  have HG : Hid (((wA.setCell ⟨w.heap.size + 1, 0, none⟩ (.string a)).setCell ⟨w.heap.size + 1, 1, none⟩ (.string b)).heap[w.heap.size + 1]? = some (.cells #[.string a, .string b] 281 (0, 0))) := by
    exact (heap_setCell_same _ _ 1 _ _ _ (heap_setCell_same _ _ 0 _ _ _ (HK.out _ hb).2.1))
  have HB : Hid (Below w.heap.size w ((wA.setCell ⟨w.heap.size + 1, 0, none⟩ (.string a)).setCell ⟨w.heap.size + 1, 1, none⟩ (.string b))) := (((HK.out _ hb).2.2.setCell (p := ⟨w.heap.size + 1, 0, none⟩) (Nat.le_succ _) _).setCell (p := ⟨w.heap.size + 1, 1, none⟩) (Nat.le_succ _) _)
  go_wp2
  exact bodyPost_ret (v := .agg #[.string a, .string b]) (results_cell_row Tryz.results207 _ _ (w.heap.size + 1) 281 _ (0, 0) _ rfl HG.out Tryz.underlying281 rfl (by kernel_rfl)) rfl ⟨rfl, HB.out⟩

set_option maxHeartbeats 4000000 in
theorem cloneS_any (x : Four) (h : fitF x) (w : World) : 
    Calls Tryz.prog 206 #[keyS x] w fun e w' => e = .returned (keyS x) ∧ Below w.heap.size w w' := by
  obtain ⟨z, a, b, c⟩ := x
  obtain ⟨h0, h1, h2, h3⟩ := h
  unfold keyS
  simp only at h0 h1 h2 h3 ⊢
  have hc := fun s (hs : s.size ≤ 140737488355328) W => cloneB_any s hs W
  go_enter Tryz.func206, Tryz.ntmps206
  go_wp2_with fail
  obtain ⟨w0, hw0⟩ : ∃ w0, (w.alloc (.cells #[.int .i64 z, .string a, .string b, .string c] 274)).alloc (.cells #[.int .i64 0, .string ⟨#[]⟩, .string ⟨#[]⟩, .string ⟨#[]⟩] 274) = w0 := ⟨_, rfl⟩
  obtain ⟨r0, r1, rB⟩ := two_new (w1 := w0) (by rw [hw0]; exact Below.refl _ _)
  try rw [hw0]
  have HK : Hid (∀ W, Below w0.heap.size w0 W → (W.cell? ⟨w.heap.size, 0, none⟩ = some (.int .i64 z) ∧ W.cell? ⟨w.heap.size, 1, none⟩ = some (.string a) ∧ W.cell? ⟨w.heap.size, 2, none⟩ = some (.string b) ∧ W.cell? ⟨w.heap.size, 3, none⟩ = some (.string c)) ∧ W.heap[w.heap.size + 1]? = some (.cells #[.int .i64 0, .string ⟨#[]⟩, .string ⟨#[]⟩, .string ⟨#[]⟩] 274 (0, 0)) ∧ Below w.heap.size w W) := fun W h => by
    have e0 := (h.block _ (lt_of_block r0)).trans r0
    exact ⟨⟨cell_of_row _ _ _ _ _ _ e0, cell_of_row _ _ _ _ _ _ e0, cell_of_row _ _ _ _ _ _ e0, cell_of_row _ _ _ _ _ _ e0⟩, (h.block _ (lt_of_block r1)).trans r1, rB.trans (h.mono rB.size)⟩
  have hb := Below.refl w0.heap.size w0
  clear r0 r1 rB hw0
  go_region_held3 (fun w' => w'.cell? ⟨w.heap.size, 0, none⟩ = some (.int .i64 z) ∧ w'.cell? ⟨w.heap.size, 1, none⟩ = some (.string a) ∧ w'.cell? ⟨w.heap.size, 2, none⟩ = some (.string b) ∧ w'.cell? ⟨w.heap.size, 3, none⟩ = some (.string c)) (first | exact (HK.out _ hb).1 | exact (HK.out _ hb.drew).1 | simp [go_sem, *]) (first | (go_at_call 52; refine (hc _ (by assumption) _).mono ?_; rintro e wA ⟨rfl, hA⟩; have hb : Below w0.heap.size w0 wA := (by first | exact hb.trans (hA.mono hb.size) | exact hb.drew.trans (hA.mono hb.size)); have c0 : wA.cell? ⟨w.heap.size + 1, 0, none⟩ = some (.int .i64 0) := cell_of_row _ _ 0 _ _ _ (HK.out _ hb).2.1; have c1 : wA.cell? ⟨w.heap.size + 1, 1, none⟩ = some (.string ⟨#[]⟩) := cell_of_row _ _ 1 _ _ _ (HK.out _ hb).2.1; have c2 : wA.cell? ⟨w.heap.size + 1, 2, none⟩ = some (.string ⟨#[]⟩) := cell_of_row _ _ 2 _ _ _ (HK.out _ hb).2.1; have c3 : wA.cell? ⟨w.heap.size + 1, 3, none⟩ = some (.string ⟨#[]⟩) := cell_of_row _ _ 3 _ _ _ (HK.out _ hb).2.1; have f0 : wA.frozen? ⟨w.heap.size + 1, 0, none⟩ = false := (by simp [World.frozen?, (HK.out _ hb).2.1]); have f1 : wA.frozen? ⟨w.heap.size + 1, 1, none⟩ = false := (by simp [World.frozen?, (HK.out _ hb).2.1]); have f2 : wA.frozen? ⟨w.heap.size + 1, 2, none⟩ = false := (by simp [World.frozen?, (HK.out _ hb).2.1]); have f3 : wA.frozen? ⟨w.heap.size + 1, 3, none⟩ = false := (by simp [World.frozen?, (HK.out _ hb).2.1])))
  have HG : Hid (((((wA.setCell ⟨w.heap.size + 1, 0, none⟩ (.int .i64 z)).setCell ⟨w.heap.size + 1, 1, none⟩ (.string a)).setCell ⟨w.heap.size + 1, 2, none⟩ (.string b)).setCell ⟨w.heap.size + 1, 3, none⟩ (.string c)).heap[w.heap.size + 1]? = some (.cells #[.int .i64 z, .string a, .string b, .string c] 274 (0, 0))) := by
    exact (heap_setCell_same _ _ 3 _ _ _ (heap_setCell_same _ _ 2 _ _ _ (heap_setCell_same _ _ 1 _ _ _ (heap_setCell_same _ _ 0 _ _ _ (HK.out _ hb).2.1))))
  have HB : Hid (Below w.heap.size w ((((wA.setCell ⟨w.heap.size + 1, 0, none⟩ (.int .i64 z)).setCell ⟨w.heap.size + 1, 1, none⟩ (.string a)).setCell ⟨w.heap.size + 1, 2, none⟩ (.string b)).setCell ⟨w.heap.size + 1, 3, none⟩ (.string c))) := (((((HK.out _ hb).2.2.setCell (p := ⟨w.heap.size + 1, 0, none⟩) (Nat.le_succ _) _).setCell (p := ⟨w.heap.size + 1, 1, none⟩) (Nat.le_succ _) _).setCell (p := ⟨w.heap.size + 1, 2, none⟩) (Nat.le_succ _) _).setCell (p := ⟨w.heap.size + 1, 3, none⟩) (Nat.le_succ _) _)
  go_wp2
  exact bodyPost_ret (v := .agg #[.int .i64 z, .string a, .string b, .string c]) (results_cell_row Tryz.results206 _ _ (w.heap.size + 1) 274 _ (0, 0) _ rfl HG.out Tryz.underlying274 rfl (by kernel_rfl)) rfl ⟨rfl, HB.out⟩

end Go.Proofs.YtbmjablmmlnieaaGreatDoor

namespace Go.Proofs.YtbmjablmmlnieaaGreatDoor
set_option maxRecDepth 20000
open Go.RowKit Go.Maps

theorem str_ne {a b : ByteArray} (h : a ≠ b) : (a.toList == b.toList) = false := beq_false_of_ne fun e => h (ByteArray.ext (Array.toList_inj.1 (by rw [← ByteArray.toList_eq, ← ByteArray.toList_eq]; exact e)))

set_option maxHeartbeats 1000000 in
theorem countT_old (m : Nat) (l : List (ByteArray)) (x : ByteArray) (hx : fitT x) (h0 : ¬ numOf l x = 0) (w : World) (h : Nums keyT 271 w m l) :
    Calls Tryz.prog 182 #[.map (some m), keyT x] w fun e w' => e = .returned (.int .i64 (numOf l x : Nat)) ∧ Below w.heap.size w w' := by
  obtain ⟨kl, hk⟩ := key_text hx
  obtain ⟨D, hown, hs, hall⟩ := h
  obtain ⟨hh, hat⟩ := hall x kl hk
  have hh2 : Maps.has D kl = true := by rw [hh]; simp [h0]
  obtain ⟨n, hn⟩ : ∃ n, n = numOf l x := ⟨_, rfl⟩
  rw [← hn] at hat ⊢
  clear hall hx hs hh h0 hn
  have hb := (Below.refl w.heap.size w).alloc (Nat.le_refl _) (.cells #[.string x] 271)
  have hown1 := hown.alloc (.cells #[.string x] 271)
  simp only [keyT] at hk ⊢
  clear hown
  go_enter Tryz.func182, Tryz.ntmps182
  go_wp2_with (first | (at_lookup; refine wpList_lookup_own_ok_int _ rfl _ _ 132 rfl 271 3 .i64 law_text Tryz.underlying132 Tryz.underlying3 (zero_int _) m _ D rfl hown1 _ _ rfl hk ?_; intro c hat2 _; rw [hat] at hat2; cases hat2; rw [hh2]))
  go_ret
  exact ⟨rfl, hb⟩

set_option maxRecDepth 10000 in
set_option maxHeartbeats 1000000 in
theorem countT_new (m : Nat) (l : List (ByteArray)) (x : ByteArray) (hx : fitT x) (hl : l.length ≤ 1000000) (h0 : numOf l x = 0) (w : World) (h : Nums keyT 271 w m l) :
    Calls Tryz.prog 182 #[.map (some m), keyT x] w fun e w' => e = .returned (.int .i64 (l.length + 1 : Nat)) ∧ Nums keyT 271 w' m (l ++ [x]) ∧ Only m w w' := by
  obtain ⟨kl, hk⟩ := key_text hx
  obtain ⟨D, hown, hs, hall⟩ := h
  obtain ⟨hh, hat⟩ := hall x kl hk
  have hh2 : Maps.has D kl = false := by rw [hh]; simp [h0]
  rw [h0] at hat
  have HP : Hid _ := nums_put (n := l.length + 1) law_text keyT_inj hown.isMap (hown.tidy law_text) hs h0 hk rfl hall
  have hmw := hown.lt
  suffices HS : Calls Tryz.prog 182 #[.map (some m), keyT x] w fun e w' => e = .returned (.int .i64 (l.length + 1 : Nat)) ∧ w'.ownsMap Tryz.prog 271 (plainElem Tryz.prog 3) m (l.length + 1) (D.put kl (.lit (.int .i64 ((l.length : Int) + 1)))) ∧ Only m w w' by
    exact HS.mono fun e w' ⟨h1, h2, h3⟩ => ⟨h1, ⟨_, by rw [List.length_append]; exact h2, HP.out.1, HP.out.2⟩, h3⟩
  clear hall hh h0 HP
  have hcl := fun W => cloneT_any x hx W
  have hb := (Below.refl w.heap.size w).alloc (Nat.le_refl _) (.cells #[.string x] 271)
  have hown1 := hown.alloc (.cells #[.string x] 271)
  have hm : ∀ w : World, (method 397 271 (.agg #[.string x]) "grapnel/vault.clone").run Tryz.prog w = .ok (205, .agg #[.string x]) w := fun _ => by kernel_rfl
  simp only [keyT] at hk hcl ⊢
  clear hown hx
  go_enter Tryz.func182, Tryz.ntmps182
  go_wp2_with (first | (at_lookup; refine wpList_lookup_own_ok_int _ rfl _ _ 132 rfl 271 3 .i64 law_text Tryz.underlying132 Tryz.underlying3 (zero_int _) m _ D rfl hown1 _ _ rfl hk ?_; intro c hat2 _; rw [hat] at hat2; cases hat2; rw [hh2]) | (at_len; refine wpList_len_own _ rfl _ 132 rfl 271 3 Tryz.underlying132 _ m _ D rfl hown1 ?_; rw [hs]))
  refine (hcl _).mono ?_
  rintro e w1 ⟨rfl, hb1⟩
  have hown2 := owns_at hown1 (hb1.block m (by simp; omega))
  have hO := Only.of_below (b := m) (hb.trans (hb1.mono (by simp)))
  clear hown1 hb hb1 hcl
  go_wp2_with (first | (at_mapUpdate; refine wpList_mapUpdate_own _ rfl _ _ _ 132 rfl 271 3 law_text Tryz.underlying132 _ m l.length D rfl hown2 (by unfold maxLen; omega) _ _ kl rfl rfl hk _ [] (plainElem_int Tryz.underlying3 (WalkArith.wf_i64 (by omega))) ?_; intro w2 hown3 hgrow3))
  have HN : Hid _ := hown3
  have HO := hO.trans (Only.of_grown hgrow3)
  go_ret
  exact ⟨by go_num, HN.out, HO⟩

/-- count, whatever it is handed. -/
theorem countT_any (m : Nat) (l : List (ByteArray)) (x : ByteArray) (hx : fitT x) (hl : l.length ≤ 1000000) (w : World) (h : Nums keyT 271 w m l) :
    Calls Tryz.prog 182 #[.map (some m), keyT x] w fun e w' => e = .returned (.int .i64 (numOf (addN l x) x : Nat)) ∧ Nums keyT 271 w' m (addN l x) ∧ Only m w w' := by
  by_cases h0 : numOf l x = 0
  · rw [numOf_add, if_pos h0, addN_new h0]
    exact countT_new m l x hx hl h0 w h
  · rw [numOf_add, if_neg h0, addN_old h0]
    exact (countT_old m l x hx h0 w h).mono fun e w' ⟨he, hb⟩ => ⟨he, h.keep (hb.block m h.lt), Only.of_below hb⟩

set_option maxHeartbeats 1000000 in
theorem countS_old (m : Nat) (l : List (Four)) (x : Four) (hx : fitF x) (h0 : ¬ numOf l x = 0) (w : World) (h : Nums keyS 274 w m l) :
    Calls Tryz.prog 184 #[.map (some m), keyS x] w fun e w' => e = .returned (.int .i64 (numOf l x : Nat)) ∧ Below w.heap.size w w' := by
  obtain ⟨kl, hk⟩ := key_seal hx
  obtain ⟨D, hown, hs, hall⟩ := h
  obtain ⟨hh, hat⟩ := hall x kl hk
  have hh2 : Maps.has D kl = true := by rw [hh]; simp [h0]
  obtain ⟨n, hn⟩ : ∃ n, n = numOf l x := ⟨_, rfl⟩
  rw [← hn] at hat ⊢
  clear hall hx hs hh h0 hn
  obtain ⟨z, a, b, c⟩ := x
  have hb := (Below.refl w.heap.size w).alloc (Nat.le_refl _) (.cells #[.int .i64 z, .string a, .string b, .string c] 274)
  have hown1 := hown.alloc (.cells #[.int .i64 z, .string a, .string b, .string c] 274)
  simp only [keyS] at hk ⊢
  clear hown
  go_enter Tryz.func184, Tryz.ntmps184
  go_wp2_with (first | (at_lookup; refine wpList_lookup_own_ok_int _ rfl _ _ 134 rfl 274 3 .i64 law_seal Tryz.underlying134 Tryz.underlying3 (zero_int _) m _ D rfl hown1 _ _ rfl hk ?_; intro c hat2 _; rw [hat] at hat2; cases hat2; rw [hh2]))
  go_ret
  exact ⟨rfl, hb⟩

set_option maxRecDepth 10000 in
set_option maxHeartbeats 1000000 in
theorem countS_new (m : Nat) (l : List (Four)) (x : Four) (hx : fitF x) (hl : l.length ≤ 1000000) (h0 : numOf l x = 0) (w : World) (h : Nums keyS 274 w m l) :
    Calls Tryz.prog 184 #[.map (some m), keyS x] w fun e w' => e = .returned (.int .i64 (l.length + 1 : Nat)) ∧ Nums keyS 274 w' m (l ++ [x]) ∧ Only m w w' := by
  obtain ⟨kl, hk⟩ := key_seal hx
  obtain ⟨D, hown, hs, hall⟩ := h
  obtain ⟨hh, hat⟩ := hall x kl hk
  have hh2 : Maps.has D kl = false := by rw [hh]; simp [h0]
  rw [h0] at hat
  have HP : Hid _ := nums_put (n := l.length + 1) law_seal keyS_inj hown.isMap (hown.tidy law_seal) hs h0 hk rfl hall
  have hmw := hown.lt
  suffices HS : Calls Tryz.prog 184 #[.map (some m), keyS x] w fun e w' => e = .returned (.int .i64 (l.length + 1 : Nat)) ∧ w'.ownsMap Tryz.prog 274 (plainElem Tryz.prog 3) m (l.length + 1) (D.put kl (.lit (.int .i64 ((l.length : Int) + 1)))) ∧ Only m w w' by
    exact HS.mono fun e w' ⟨h1, h2, h3⟩ => ⟨h1, ⟨_, by rw [List.length_append]; exact h2, HP.out.1, HP.out.2⟩, h3⟩
  clear hall hh h0 HP
  have hcl := fun W => cloneS_any x hx W
  obtain ⟨z, a, b, c⟩ := x
  have hb := (Below.refl w.heap.size w).alloc (Nat.le_refl _) (.cells #[.int .i64 z, .string a, .string b, .string c] 274)
  have hown1 := hown.alloc (.cells #[.int .i64 z, .string a, .string b, .string c] 274)
  have hm : ∀ w : World, (method 397 274 (.agg #[.int .i64 z, .string a, .string b, .string c]) "grapnel/vault.clone").run Tryz.prog w = .ok (206, .agg #[.int .i64 z, .string a, .string b, .string c]) w := fun _ => by kernel_rfl
  simp only [keyS] at hk hcl ⊢
  clear hown hx
  go_enter Tryz.func184, Tryz.ntmps184
  go_wp2_with (first | (at_lookup; refine wpList_lookup_own_ok_int _ rfl _ _ 134 rfl 274 3 .i64 law_seal Tryz.underlying134 Tryz.underlying3 (zero_int _) m _ D rfl hown1 _ _ rfl hk ?_; intro c hat2 _; rw [hat] at hat2; cases hat2; rw [hh2]) | (at_len; refine wpList_len_own _ rfl _ 134 rfl 274 3 Tryz.underlying134 _ m _ D rfl hown1 ?_; rw [hs]))
  refine (hcl _).mono ?_
  rintro e w1 ⟨rfl, hb1⟩
  have hown2 := owns_at hown1 (hb1.block m (by simp; omega))
  have hO := Only.of_below (b := m) (hb.trans (hb1.mono (by simp)))
  clear hown1 hb hb1 hcl
  go_wp2_with (first | (at_mapUpdate; refine wpList_mapUpdate_own _ rfl _ _ _ 134 rfl 274 3 law_seal Tryz.underlying134 _ m l.length D rfl hown2 (by unfold maxLen; omega) _ _ kl rfl rfl hk _ [] (plainElem_int Tryz.underlying3 (WalkArith.wf_i64 (by omega))) ?_; intro w2 hown3 hgrow3))
  have HN : Hid _ := hown3
  have HO := hO.trans (Only.of_grown hgrow3)
  go_ret
  exact ⟨by go_num, HN.out, HO⟩

set_option maxRecDepth 10000 in
set_option maxHeartbeats 1000000 in
theorem countedS_any (m : Nat) (l : List (Four)) (x : Four) (tag : ByteArray) (hx : fitF x) (hl : l.length ≤ 1000000) (w : World) (h : Nums keyS 274 w m l) :
    Calls Tryz.prog 183 #[.map (some m), keyS x, .string tag] w fun e w' => e = .returned (.bool (decide (numOf l x ≠ 0 ∧ tag = wideS (numOf l x) 16))) ∧ Below w.heap.size w w' := by
  obtain ⟨kl, hk⟩ := key_seal hx
  obtain ⟨D, hown, hs, hall⟩ := h
  obtain ⟨hh, hat⟩ := hall x kl hk
  have hle := numOf_le x l
  have hw := fun W => wide_any (numOf l x) 16 (by omega) (by decide) (by decide) W
  obtain ⟨n, hn⟩ : ∃ n, n = numOf l x := ⟨_, rfl⟩
  rw [← hn] at hat hh hw ⊢
  clear hall hx hs hn hle
  obtain ⟨z, a, b, c⟩ := x
  have hb := (Below.refl w.heap.size w).alloc (Nat.le_refl _) (.cells #[.int .i64 z, .string a, .string b, .string c] 274)
  have hown1 := hown.alloc (.cells #[.int .i64 z, .string a, .string b, .string c] 274)
  simp only [keyS] at hk ⊢
  clear hown
  by_cases h0 : n = 0
  · have hh2 : Maps.has D kl = false := by rw [hh]; simp [h0]
    have hr : decide (n ≠ 0 ∧ tag = wideS n 16) = false := by simp [h0]
    rw [hr]
    clear hr hw hh
    go_enter Tryz.func183, Tryz.ntmps183
    go_wp2_with (first | (at_lookup; refine wpList_lookup_own_ok_int _ rfl _ _ 134 rfl 274 3 .i64 law_seal Tryz.underlying134 Tryz.underlying3 (zero_int _) m _ D rfl hown1 _ _ rfl hk ?_; intro c hat2 _; rw [hat] at hat2; cases hat2; rw [hh2]))
    go_ret
    exact ⟨rfl, hb⟩
  · have hh2 : Maps.has D kl = true := by rw [hh]; simp [h0]
    have hr : decide (n ≠ 0 ∧ tag = wideS n 16) = decide (tag = wideS n 16) := by simp [h0]
    rw [hr]
    obtain ⟨u, hu⟩ : ∃ u, u = wideS n 16 := ⟨_, rfl⟩
    simp only [← hu] at hw ⊢
    clear hr hh hu
    by_cases e : tag = u
    · subst e
      go_enter Tryz.func183, Tryz.ntmps183
      go_wp2_with (first | (at_lookup; refine wpList_lookup_own_ok_int _ rfl _ _ 134 rfl 274 3 .i64 law_seal Tryz.underlying134 Tryz.underlying3 (zero_int _) m _ D rfl hown1 _ _ rfl hk ?_; intro c hat2 _; rw [hat] at hat2; cases hat2; rw [hh2]))
      refine (hw _).mono ?_
      rintro e w1 ⟨rfl, hb1⟩
      have HB : Hid (Below w.heap.size w w1) := hb.trans (hb1.mono (by simp))
      clear hb hb1 hw
      go_wp2
      go_ret
      exact ⟨by simp, HB.out⟩
    · have ne : (tag.toList == u.toList) = false := str_ne e
      go_enter Tryz.func183, Tryz.ntmps183
      go_wp2_with (first | (at_lookup; refine wpList_lookup_own_ok_int _ rfl _ _ 134 rfl 274 3 .i64 law_seal Tryz.underlying134 Tryz.underlying3 (zero_int _) m _ D rfl hown1 _ _ rfl hk ?_; intro c hat2 _; rw [hat] at hat2; cases hat2; rw [hh2]))
      refine (hw _).mono ?_
      rintro e w1 ⟨rfl, hb1⟩
      have HB : Hid (Below w.heap.size w w1) := hb.trans (hb1.mono (by simp))
      clear hb hb1 hw
      go_wp2
      go_ret
      exact ⟨by simp [e], HB.out⟩

/-- count, whatever it is handed. -/
theorem countS_any (m : Nat) (l : List (Four)) (x : Four) (hx : fitF x) (hl : l.length ≤ 1000000) (w : World) (h : Nums keyS 274 w m l) :
    Calls Tryz.prog 184 #[.map (some m), keyS x] w fun e w' => e = .returned (.int .i64 (numOf (addN l x) x : Nat)) ∧ Nums keyS 274 w' m (addN l x) ∧ Only m w w' := by
  by_cases h0 : numOf l x = 0
  · rw [numOf_add, if_pos h0, addN_new h0]
    exact countS_new m l x hx hl h0 w h
  · rw [numOf_add, if_neg h0, addN_old h0]
    exact (countS_old m l x hx h0 w h).mono fun e w' ⟨he, hb⟩ => ⟨he, h.keep (hb.block m h.lt), Only.of_below hb⟩
end Go.Proofs.YtbmjablmmlnieaaGreatDoor
