/- The things' clones: each is told again, and nothing that was there is changed. · Counting: the number of a thing, the next one, if it comes first; and whether a tag is the number of a thing that came ahead. · The ideal vault in plain words: what it has numbered; how it lies in memory; and each way of its numbering. · The ideal vault opens. · The vault's calls, the ideal one behind them: what each tells, and what it has numbered then. -/
import Derived.Test.YtoopaigpjefonaaGreatDoorMg02
namespace Go.Proofs.YtoopaigpjefonaaGreatDoor
set_option maxRecDepth 20000
open Go.RowKit Go.Maps

theorem cloneB_any (s : ByteArray) (h : s.size ≤ 140737488355328) (w : World) :
    Calls Tryz.prog 170 #[.string s] w fun e w' => e = .returned (.string s) ∧ Below w.heap.size w w' := clone_any s w (by omega)
/-- Two new blocks: their places, and what a call that changes nothing of what was there leaves of them. -/
theorem two_new {w w1 : World} {x y : Array Value} {t u : TypeId} (hb : Below ((w.alloc (.cells x t)).alloc (.cells y u)).heap.size ((w.alloc (.cells x t)).alloc (.cells y u)) w1) :
    w1.heap[w.heap.size]? = some (.cells x t (0, 0)) ∧ w1.heap[w.heap.size + 1]? = some (.cells y u (0, 0)) ∧ Below w.heap.size w w1 := by
  have s1 : (w.alloc (.cells x t)).heap.size = w.heap.size + 1 := by simp
  have s2 : ((w.alloc (.cells x t)).alloc (.cells y u)).heap.size = w.heap.size + 2 := by simp
  rw [s2] at hb
  refine ⟨?_, ?_, ?_⟩
  · rw [hb.block _ (by omega), Below.heap_alloc _ _ _ (by omega)]
    exact heap_alloc_new w _
  · rw [hb.block _ (by omega), ← s1]
    exact heap_alloc_new _ _
  · have h0 := ((Below.refl w.heap.size w).alloc (Nat.le_refl _) (.cells x t)).alloc (by omega) (.cells y u)
    exact h0.trans (hb.mono (by omega))

set_option maxHeartbeats 1000000 in
theorem cloneT_any (s : ByteArray) (h : fitT s) (w : World) :
    Calls Tryz.prog 308 #[keyT s] w fun e w' => e = .returned (keyT s) ∧ Below w.heap.size w w' := by
  unfold fitT at h
  unfold keyT
  go_enter Tryz.func308, Tryz.ntmps308
  go_wp2_with fail
  refine (cloneB_any s h _).mono ?_
  rintro e w1 ⟨rfl, hb⟩
  obtain ⟨_, g1, hB⟩ := two_new hb
  clear hb
  have c1 : w1.cell? ⟨w.heap.size + 1, 0, none⟩ = some (.string ⟨#[]⟩) := cell_of_row _ _ _ _ _ _ g1
  have f1 : w1.frozen? ⟨w.heap.size + 1, 0, none⟩ = false := by simp [World.frozen?, g1]
  have HG : Hid ((w1.setCell ⟨w.heap.size + 1, 0, none⟩ (.string s)).heap[w.heap.size + 1]? = some (.cells #[.string s] 376 (0, 0))) := heap_setCell_same w1 (w.heap.size + 1) 0 _ _ _ g1
  have HB : Hid (Below w.heap.size w w1) := hB
  clear hB g1
  go_wp2
  exact bodyPost_ret (v := .agg #[.string s]) (results_cell_row Tryz.results308 _ _ (w.heap.size + 1) 376 _ (0, 0) _ rfl HG.out Tryz.underlying376 rfl (by kernel_rfl)) rfl ⟨rfl, HB.out.setCell (by simp) _⟩

set_option maxHeartbeats 4000000 in
theorem cloneM_any (p : ByteArray × ByteArray) (h : fitM p) (w : World) : 
    Calls Tryz.prog 310 #[keyM p] w fun e w' => e = .returned (keyM p) ∧ Below w.heap.size w w' := by
  obtain ⟨a, b⟩ := p
  obtain ⟨h1, h2⟩ := h
  unfold keyM
  have hc := fun s (hs : s.size ≤ 140737488355328) W => cloneB_any s hs W
  go_enter Tryz.func310, Tryz.ntmps310
  go_wp2_with fail
  obtain ⟨w0, hw0⟩ : ∃ w0, (w.alloc (.cells #[.string a, .string b] 385)).alloc (.cells #[.string ⟨#[]⟩, .string ⟨#[]⟩] 385) = w0 := ⟨_, rfl⟩
  obtain ⟨r0, r1, rB⟩ := two_new (w1 := w0) (by rw [hw0]; exact Below.refl _ _)
  try rw [hw0]
  have HK : Hid (∀ W, Below w0.heap.size w0 W → (W.cell? ⟨w.heap.size, 0, none⟩ = some (.string a) ∧ W.cell? ⟨w.heap.size, 1, none⟩ = some (.string b)) ∧ W.heap[w.heap.size + 1]? = some (.cells #[.string ⟨#[]⟩, .string ⟨#[]⟩] 385 (0, 0)) ∧ Below w.heap.size w W) := fun W h => by
    have e0 := (h.block _ (lt_of_block r0)).trans r0
    exact ⟨⟨cell_of_row _ _ _ _ _ _ e0, cell_of_row _ _ _ _ _ _ e0⟩, (h.block _ (lt_of_block r1)).trans r1, rB.trans (h.mono rB.size)⟩
  have hb := Below.refl w0.heap.size w0
  clear r0 r1 rB hw0
  go_region_held3 (fun w' => w'.cell? ⟨w.heap.size, 0, none⟩ = some (.string a) ∧ w'.cell? ⟨w.heap.size, 1, none⟩ = some (.string b)) (first | exact (HK.out _ hb).1 | exact (HK.out _ hb.drew).1 | simp [go_sem, *]) (first | (go_at_call 170; refine (hc _ (by assumption) _).mono ?_; rintro e wA ⟨rfl, hA⟩; have hb : Below w0.heap.size w0 wA := (by first | exact hb.trans (hA.mono hb.size) | exact hb.drew.trans (hA.mono hb.size)); have c0 : wA.cell? ⟨w.heap.size + 1, 0, none⟩ = some (.string ⟨#[]⟩) := cell_of_row _ _ 0 _ _ _ (HK.out _ hb).2.1; have c1 : wA.cell? ⟨w.heap.size + 1, 1, none⟩ = some (.string ⟨#[]⟩) := cell_of_row _ _ 1 _ _ _ (HK.out _ hb).2.1; have f0 : wA.frozen? ⟨w.heap.size + 1, 0, none⟩ = false := (by simp [World.frozen?, (HK.out _ hb).2.1]); have f1 : wA.frozen? ⟨w.heap.size + 1, 1, none⟩ = false := (by simp [World.frozen?, (HK.out _ hb).2.1])))
  have HG : Hid (((wA.setCell ⟨w.heap.size + 1, 0, none⟩ (.string a)).setCell ⟨w.heap.size + 1, 1, none⟩ (.string b)).heap[w.heap.size + 1]? = some (.cells #[.string a, .string b] 385 (0, 0))) := by
    exact (heap_setCell_same _ _ 1 _ _ _ (heap_setCell_same _ _ 0 _ _ _ (HK.out _ hb).2.1))
  have HB : Hid (Below w.heap.size w ((wA.setCell ⟨w.heap.size + 1, 0, none⟩ (.string a)).setCell ⟨w.heap.size + 1, 1, none⟩ (.string b))) := (((HK.out _ hb).2.2.setCell (p := ⟨w.heap.size + 1, 0, none⟩) (Nat.le_succ _) _).setCell (p := ⟨w.heap.size + 1, 1, none⟩) (Nat.le_succ _) _)
  go_wp2
  exact bodyPost_ret (v := .agg #[.string a, .string b]) (results_cell_row Tryz.results310 _ _ (w.heap.size + 1) 385 _ (0, 0) _ rfl HG.out Tryz.underlying385 rfl (by kernel_rfl)) rfl ⟨rfl, HB.out⟩

set_option maxHeartbeats 4000000 in
theorem cloneS_any (x : Four) (h : fitF x) (w : World) : 
    Calls Tryz.prog 309 #[keyS x] w fun e w' => e = .returned (keyS x) ∧ Below w.heap.size w w' := by
  obtain ⟨z, a, b, c⟩ := x
  obtain ⟨h0, h1, h2, h3⟩ := h
  unfold keyS
  simp only at h0 h1 h2 h3 ⊢
  have hc := fun s (hs : s.size ≤ 140737488355328) W => cloneB_any s hs W
  go_enter Tryz.func309, Tryz.ntmps309
  go_wp2_with fail
  obtain ⟨w0, hw0⟩ : ∃ w0, (w.alloc (.cells #[.int .i64 z, .string a, .string b, .string c] 379)).alloc (.cells #[.int .i64 0, .string ⟨#[]⟩, .string ⟨#[]⟩, .string ⟨#[]⟩] 379) = w0 := ⟨_, rfl⟩
  obtain ⟨r0, r1, rB⟩ := two_new (w1 := w0) (by rw [hw0]; exact Below.refl _ _)
  try rw [hw0]
  have HK : Hid (∀ W, Below w0.heap.size w0 W → (W.cell? ⟨w.heap.size, 0, none⟩ = some (.int .i64 z) ∧ W.cell? ⟨w.heap.size, 1, none⟩ = some (.string a) ∧ W.cell? ⟨w.heap.size, 2, none⟩ = some (.string b) ∧ W.cell? ⟨w.heap.size, 3, none⟩ = some (.string c)) ∧ W.heap[w.heap.size + 1]? = some (.cells #[.int .i64 0, .string ⟨#[]⟩, .string ⟨#[]⟩, .string ⟨#[]⟩] 379 (0, 0)) ∧ Below w.heap.size w W) := fun W h => by
    have e0 := (h.block _ (lt_of_block r0)).trans r0
    exact ⟨⟨cell_of_row _ _ _ _ _ _ e0, cell_of_row _ _ _ _ _ _ e0, cell_of_row _ _ _ _ _ _ e0, cell_of_row _ _ _ _ _ _ e0⟩, (h.block _ (lt_of_block r1)).trans r1, rB.trans (h.mono rB.size)⟩
  have hb := Below.refl w0.heap.size w0
  clear r0 r1 rB hw0
  go_region_held3 (fun w' => w'.cell? ⟨w.heap.size, 0, none⟩ = some (.int .i64 z) ∧ w'.cell? ⟨w.heap.size, 1, none⟩ = some (.string a) ∧ w'.cell? ⟨w.heap.size, 2, none⟩ = some (.string b) ∧ w'.cell? ⟨w.heap.size, 3, none⟩ = some (.string c)) (first | exact (HK.out _ hb).1 | exact (HK.out _ hb.drew).1 | simp [go_sem, *]) (first | (go_at_call 170; refine (hc _ (by assumption) _).mono ?_; rintro e wA ⟨rfl, hA⟩; have hb : Below w0.heap.size w0 wA := (by first | exact hb.trans (hA.mono hb.size) | exact hb.drew.trans (hA.mono hb.size)); have c0 : wA.cell? ⟨w.heap.size + 1, 0, none⟩ = some (.int .i64 0) := cell_of_row _ _ 0 _ _ _ (HK.out _ hb).2.1; have c1 : wA.cell? ⟨w.heap.size + 1, 1, none⟩ = some (.string ⟨#[]⟩) := cell_of_row _ _ 1 _ _ _ (HK.out _ hb).2.1; have c2 : wA.cell? ⟨w.heap.size + 1, 2, none⟩ = some (.string ⟨#[]⟩) := cell_of_row _ _ 2 _ _ _ (HK.out _ hb).2.1; have c3 : wA.cell? ⟨w.heap.size + 1, 3, none⟩ = some (.string ⟨#[]⟩) := cell_of_row _ _ 3 _ _ _ (HK.out _ hb).2.1; have f0 : wA.frozen? ⟨w.heap.size + 1, 0, none⟩ = false := (by simp [World.frozen?, (HK.out _ hb).2.1]); have f1 : wA.frozen? ⟨w.heap.size + 1, 1, none⟩ = false := (by simp [World.frozen?, (HK.out _ hb).2.1]); have f2 : wA.frozen? ⟨w.heap.size + 1, 2, none⟩ = false := (by simp [World.frozen?, (HK.out _ hb).2.1]); have f3 : wA.frozen? ⟨w.heap.size + 1, 3, none⟩ = false := (by simp [World.frozen?, (HK.out _ hb).2.1])))
  have HG : Hid (((((wA.setCell ⟨w.heap.size + 1, 0, none⟩ (.int .i64 z)).setCell ⟨w.heap.size + 1, 1, none⟩ (.string a)).setCell ⟨w.heap.size + 1, 2, none⟩ (.string b)).setCell ⟨w.heap.size + 1, 3, none⟩ (.string c)).heap[w.heap.size + 1]? = some (.cells #[.int .i64 z, .string a, .string b, .string c] 379 (0, 0))) := by
    exact (heap_setCell_same _ _ 3 _ _ _ (heap_setCell_same _ _ 2 _ _ _ (heap_setCell_same _ _ 1 _ _ _ (heap_setCell_same _ _ 0 _ _ _ (HK.out _ hb).2.1))))
  have HB : Hid (Below w.heap.size w ((((wA.setCell ⟨w.heap.size + 1, 0, none⟩ (.int .i64 z)).setCell ⟨w.heap.size + 1, 1, none⟩ (.string a)).setCell ⟨w.heap.size + 1, 2, none⟩ (.string b)).setCell ⟨w.heap.size + 1, 3, none⟩ (.string c))) := (((((HK.out _ hb).2.2.setCell (p := ⟨w.heap.size + 1, 0, none⟩) (Nat.le_succ _) _).setCell (p := ⟨w.heap.size + 1, 1, none⟩) (Nat.le_succ _) _).setCell (p := ⟨w.heap.size + 1, 2, none⟩) (Nat.le_succ _) _).setCell (p := ⟨w.heap.size + 1, 3, none⟩) (Nat.le_succ _) _)
  go_wp2
  exact bodyPost_ret (v := .agg #[.int .i64 z, .string a, .string b, .string c]) (results_cell_row Tryz.results309 _ _ (w.heap.size + 1) 379 _ (0, 0) _ rfl HG.out Tryz.underlying379 rfl (by kernel_rfl)) rfl ⟨rfl, HB.out⟩

end Go.Proofs.YtoopaigpjefonaaGreatDoor

namespace Go.Proofs.YtoopaigpjefonaaGreatDoor
set_option maxRecDepth 20000
open Go.RowKit Go.Maps

theorem str_ne {a b : ByteArray} (h : a ≠ b) : (a.toList == b.toList) = false := beq_false_of_ne fun e => h (ByteArray.ext (Array.toList_inj.1 (by rw [← ByteArray.toList_eq, ← ByteArray.toList_eq]; exact e)))

set_option maxHeartbeats 1000000 in
theorem countT_old (m : Nat) (l : List (ByteArray)) (x : ByteArray) (hx : fitT x) (h0 : ¬ numOf l x = 0) (w : World) (h : Nums keyT 376 w m l) :
    Calls Tryz.prog 286 #[.map (some m), keyT x] w fun e w' => e = .returned (.int .i64 (numOf l x : Nat)) ∧ Below w.heap.size w w' := by
  obtain ⟨kl, hk⟩ := key_text hx
  obtain ⟨D, hown, hs, hall⟩ := h
  obtain ⟨hh, hat⟩ := hall x kl hk
  have hh2 : Maps.has D kl = true := by rw [hh]; simp [h0]
  obtain ⟨n, hn⟩ : ∃ n, n = numOf l x := ⟨_, rfl⟩
  rw [← hn] at hat ⊢
  clear hall hx hs hh h0 hn
  have hb := (Below.refl w.heap.size w).alloc (Nat.le_refl _) (.cells #[.string x] 376)
  have hown1 := hown.alloc (.cells #[.string x] 376)
  simp only [keyT] at hk ⊢
  clear hown
  go_enter Tryz.func286, Tryz.ntmps286
  go_wp2_with (first | (at_lookup; refine wpList_lookup_own_ok_int _ rfl _ _ 176 rfl 376 3 .i64 law_text Tryz.underlying176 Tryz.underlying3 (zero_int _) m _ D rfl hown1 _ _ rfl hk ?_; intro c hat2 _; rw [hat] at hat2; cases hat2; rw [hh2]))
  go_ret
  exact ⟨rfl, hb⟩

set_option maxRecDepth 10000 in
set_option maxHeartbeats 1000000 in
theorem countT_new (m : Nat) (l : List (ByteArray)) (x : ByteArray) (hx : fitT x) (hl : l.length ≤ 1000000) (h0 : numOf l x = 0) (w : World) (h : Nums keyT 376 w m l) :
    Calls Tryz.prog 286 #[.map (some m), keyT x] w fun e w' => e = .returned (.int .i64 (l.length + 1 : Nat)) ∧ Nums keyT 376 w' m (l ++ [x]) ∧ Only m w w' := by
  obtain ⟨kl, hk⟩ := key_text hx
  obtain ⟨D, hown, hs, hall⟩ := h
  obtain ⟨hh, hat⟩ := hall x kl hk
  have hh2 : Maps.has D kl = false := by rw [hh]; simp [h0]
  rw [h0] at hat
  have HP : Hid _ := nums_put (n := l.length + 1) law_text keyT_inj hown.isMap (hown.tidy law_text) hs h0 hk rfl hall
  have hmw := hown.lt
  suffices HS : Calls Tryz.prog 286 #[.map (some m), keyT x] w fun e w' => e = .returned (.int .i64 (l.length + 1 : Nat)) ∧ w'.ownsMap Tryz.prog 376 (plainElem Tryz.prog 3) m (l.length + 1) (D.put kl (.lit (.int .i64 ((l.length : Int) + 1)))) ∧ Only m w w' by
    exact HS.mono fun e w' ⟨h1, h2, h3⟩ => ⟨h1, ⟨_, by rw [List.length_append]; exact h2, HP.out.1, HP.out.2⟩, h3⟩
  clear hall hh h0 HP
  have hcl := fun W => cloneT_any x hx W
  have hb := (Below.refl w.heap.size w).alloc (Nat.le_refl _) (.cells #[.string x] 376)
  have hown1 := hown.alloc (.cells #[.string x] 376)
  have hm : ∀ w : World, (method 501 376 (.agg #[.string x]) "grapnel/vault.clone").run Tryz.prog w = .ok (308, .agg #[.string x]) w := fun _ => by kernel_rfl
  simp only [keyT] at hk hcl ⊢
  clear hown hx
  go_enter Tryz.func286, Tryz.ntmps286
  go_wp2_with (first | (at_lookup; refine wpList_lookup_own_ok_int _ rfl _ _ 176 rfl 376 3 .i64 law_text Tryz.underlying176 Tryz.underlying3 (zero_int _) m _ D rfl hown1 _ _ rfl hk ?_; intro c hat2 _; rw [hat] at hat2; cases hat2; rw [hh2]) | (at_len; refine wpList_len_own _ rfl _ 176 rfl 376 3 Tryz.underlying176 _ m _ D rfl hown1 ?_; rw [hs]))
  refine (hcl _).mono ?_
  rintro e w1 ⟨rfl, hb1⟩
  have hown2 := owns_at hown1 (hb1.block m (by simp; omega))
  have hO := Only.of_below (b := m) (hb.trans (hb1.mono (by simp)))
  clear hown1 hb hb1 hcl
  go_wp2_with (first | (at_mapUpdate; refine wpList_mapUpdate_own _ rfl _ _ _ 176 rfl 376 3 law_text Tryz.underlying176 _ m l.length D rfl hown2 (by unfold maxLen; omega) _ _ kl rfl rfl hk _ [] (plainElem_int Tryz.underlying3 (WalkArith.wf_i64 (by omega))) ?_; intro w2 hown3 hgrow3))
  have HN : Hid _ := hown3
  have HO := hO.trans (Only.of_grown hgrow3)
  go_ret
  exact ⟨by go_num, HN.out, HO⟩

/-- count, whatever it is handed. -/
theorem countT_any (m : Nat) (l : List (ByteArray)) (x : ByteArray) (hx : fitT x) (hl : l.length ≤ 1000000) (w : World) (h : Nums keyT 376 w m l) :
    Calls Tryz.prog 286 #[.map (some m), keyT x] w fun e w' => e = .returned (.int .i64 (numOf (addN l x) x : Nat)) ∧ Nums keyT 376 w' m (addN l x) ∧ Only m w w' := by
  by_cases h0 : numOf l x = 0
  · rw [numOf_add, if_pos h0, addN_new h0]
    exact countT_new m l x hx hl h0 w h
  · rw [numOf_add, if_neg h0, addN_old h0]
    exact (countT_old m l x hx h0 w h).mono fun e w' ⟨he, hb⟩ => ⟨he, h.keep (hb.block m h.lt), Only.of_below hb⟩

set_option maxHeartbeats 1000000 in
theorem countS_old (m : Nat) (l : List (Four)) (x : Four) (hx : fitF x) (h0 : ¬ numOf l x = 0) (w : World) (h : Nums keyS 379 w m l) :
    Calls Tryz.prog 288 #[.map (some m), keyS x] w fun e w' => e = .returned (.int .i64 (numOf l x : Nat)) ∧ Below w.heap.size w w' := by
  obtain ⟨kl, hk⟩ := key_seal hx
  obtain ⟨D, hown, hs, hall⟩ := h
  obtain ⟨hh, hat⟩ := hall x kl hk
  have hh2 : Maps.has D kl = true := by rw [hh]; simp [h0]
  obtain ⟨n, hn⟩ : ∃ n, n = numOf l x := ⟨_, rfl⟩
  rw [← hn] at hat ⊢
  clear hall hx hs hh h0 hn
  obtain ⟨z, a, b, c⟩ := x
  have hb := (Below.refl w.heap.size w).alloc (Nat.le_refl _) (.cells #[.int .i64 z, .string a, .string b, .string c] 379)
  have hown1 := hown.alloc (.cells #[.int .i64 z, .string a, .string b, .string c] 379)
  simp only [keyS] at hk ⊢
  clear hown
  go_enter Tryz.func288, Tryz.ntmps288
  go_wp2_with (first | (at_lookup; refine wpList_lookup_own_ok_int _ rfl _ _ 178 rfl 379 3 .i64 law_seal Tryz.underlying178 Tryz.underlying3 (zero_int _) m _ D rfl hown1 _ _ rfl hk ?_; intro c hat2 _; rw [hat] at hat2; cases hat2; rw [hh2]))
  go_ret
  exact ⟨rfl, hb⟩

set_option maxRecDepth 10000 in
set_option maxHeartbeats 1000000 in
theorem countS_new (m : Nat) (l : List (Four)) (x : Four) (hx : fitF x) (hl : l.length ≤ 1000000) (h0 : numOf l x = 0) (w : World) (h : Nums keyS 379 w m l) :
    Calls Tryz.prog 288 #[.map (some m), keyS x] w fun e w' => e = .returned (.int .i64 (l.length + 1 : Nat)) ∧ Nums keyS 379 w' m (l ++ [x]) ∧ Only m w w' := by
  obtain ⟨kl, hk⟩ := key_seal hx
  obtain ⟨D, hown, hs, hall⟩ := h
  obtain ⟨hh, hat⟩ := hall x kl hk
  have hh2 : Maps.has D kl = false := by rw [hh]; simp [h0]
  rw [h0] at hat
  have HP : Hid _ := nums_put (n := l.length + 1) law_seal keyS_inj hown.isMap (hown.tidy law_seal) hs h0 hk rfl hall
  have hmw := hown.lt
  suffices HS : Calls Tryz.prog 288 #[.map (some m), keyS x] w fun e w' => e = .returned (.int .i64 (l.length + 1 : Nat)) ∧ w'.ownsMap Tryz.prog 379 (plainElem Tryz.prog 3) m (l.length + 1) (D.put kl (.lit (.int .i64 ((l.length : Int) + 1)))) ∧ Only m w w' by
    exact HS.mono fun e w' ⟨h1, h2, h3⟩ => ⟨h1, ⟨_, by rw [List.length_append]; exact h2, HP.out.1, HP.out.2⟩, h3⟩
  clear hall hh h0 HP
  have hcl := fun W => cloneS_any x hx W
  obtain ⟨z, a, b, c⟩ := x
  have hb := (Below.refl w.heap.size w).alloc (Nat.le_refl _) (.cells #[.int .i64 z, .string a, .string b, .string c] 379)
  have hown1 := hown.alloc (.cells #[.int .i64 z, .string a, .string b, .string c] 379)
  have hm : ∀ w : World, (method 501 379 (.agg #[.int .i64 z, .string a, .string b, .string c]) "grapnel/vault.clone").run Tryz.prog w = .ok (309, .agg #[.int .i64 z, .string a, .string b, .string c]) w := fun _ => by kernel_rfl
  simp only [keyS] at hk hcl ⊢
  clear hown hx
  go_enter Tryz.func288, Tryz.ntmps288
  go_wp2_with (first | (at_lookup; refine wpList_lookup_own_ok_int _ rfl _ _ 178 rfl 379 3 .i64 law_seal Tryz.underlying178 Tryz.underlying3 (zero_int _) m _ D rfl hown1 _ _ rfl hk ?_; intro c hat2 _; rw [hat] at hat2; cases hat2; rw [hh2]) | (at_len; refine wpList_len_own _ rfl _ 178 rfl 379 3 Tryz.underlying178 _ m _ D rfl hown1 ?_; rw [hs]))
  refine (hcl _).mono ?_
  rintro e w1 ⟨rfl, hb1⟩
  have hown2 := owns_at hown1 (hb1.block m (by simp; omega))
  have hO := Only.of_below (b := m) (hb.trans (hb1.mono (by simp)))
  clear hown1 hb hb1 hcl
  go_wp2_with (first | (at_mapUpdate; refine wpList_mapUpdate_own _ rfl _ _ _ 178 rfl 379 3 law_seal Tryz.underlying178 _ m l.length D rfl hown2 (by unfold maxLen; omega) _ _ kl rfl rfl hk _ [] (plainElem_int Tryz.underlying3 (WalkArith.wf_i64 (by omega))) ?_; intro w2 hown3 hgrow3))
  have HN : Hid _ := hown3
  have HO := hO.trans (Only.of_grown hgrow3)
  go_ret
  exact ⟨by go_num, HN.out, HO⟩

set_option maxRecDepth 10000 in
set_option maxHeartbeats 1000000 in
theorem countedS_any (m : Nat) (l : List (Four)) (x : Four) (tag : ByteArray) (hx : fitF x) (hl : l.length ≤ 1000000) (w : World) (h : Nums keyS 379 w m l) :
    Calls Tryz.prog 287 #[.map (some m), keyS x, .string tag] w fun e w' => e = .returned (.bool (decide (numOf l x ≠ 0 ∧ tag = wideS (numOf l x) 16))) ∧ Below w.heap.size w w' := by
  obtain ⟨kl, hk⟩ := key_seal hx
  obtain ⟨D, hown, hs, hall⟩ := h
  obtain ⟨hh, hat⟩ := hall x kl hk
  have hle := numOf_le x l
  have hw := fun W => wide_any (numOf l x) 16 (by omega) (by decide) (by decide) W
  obtain ⟨n, hn⟩ : ∃ n, n = numOf l x := ⟨_, rfl⟩
  rw [← hn] at hat hh hw ⊢
  clear hall hx hs hn hle
  obtain ⟨z, a, b, c⟩ := x
  have hb := (Below.refl w.heap.size w).alloc (Nat.le_refl _) (.cells #[.int .i64 z, .string a, .string b, .string c] 379)
  have hown1 := hown.alloc (.cells #[.int .i64 z, .string a, .string b, .string c] 379)
  simp only [keyS] at hk ⊢
  clear hown
  by_cases h0 : n = 0
  · have hh2 : Maps.has D kl = false := by rw [hh]; simp [h0]
    have hr : decide (n ≠ 0 ∧ tag = wideS n 16) = false := by simp [h0]
    rw [hr]
    clear hr hw hh
    go_enter Tryz.func287, Tryz.ntmps287
    go_wp2_with (first | (at_lookup; refine wpList_lookup_own_ok_int _ rfl _ _ 178 rfl 379 3 .i64 law_seal Tryz.underlying178 Tryz.underlying3 (zero_int _) m _ D rfl hown1 _ _ rfl hk ?_; intro c hat2 _; rw [hat] at hat2; cases hat2; rw [hh2]))
    go_ret
    exact ⟨rfl, hb⟩
  · have hh2 : Maps.has D kl = true := by rw [hh]; simp [h0]
    have hr : decide (n ≠ 0 ∧ tag = wideS n 16) = decide (tag = wideS n 16) := by simp [h0]
    rw [hr]
    obtain ⟨u, hu⟩ : ∃ u, u = wideS n 16 := ⟨_, rfl⟩
    simp only [← hu] at hw ⊢
    clear hr hh hu
    by_cases e : tag = u
    · subst e
      go_enter Tryz.func287, Tryz.ntmps287
      go_wp2_with (first | (at_lookup; refine wpList_lookup_own_ok_int _ rfl _ _ 178 rfl 379 3 .i64 law_seal Tryz.underlying178 Tryz.underlying3 (zero_int _) m _ D rfl hown1 _ _ rfl hk ?_; intro c hat2 _; rw [hat] at hat2; cases hat2; rw [hh2]))
      refine (hw _).mono ?_
      rintro e w1 ⟨rfl, hb1⟩
      have HB : Hid (Below w.heap.size w w1) := hb.trans (hb1.mono (by simp))
      clear hb hb1 hw
      go_wp2
      go_ret
      exact ⟨by simp, HB.out⟩
    · have ne : (tag.toList == u.toList) = false := str_ne e
      go_enter Tryz.func287, Tryz.ntmps287
      go_wp2_with (first | (at_lookup; refine wpList_lookup_own_ok_int _ rfl _ _ 178 rfl 379 3 .i64 law_seal Tryz.underlying178 Tryz.underlying3 (zero_int _) m _ D rfl hown1 _ _ rfl hk ?_; intro c hat2 _; rw [hat] at hat2; cases hat2; rw [hh2]))
      refine (hw _).mono ?_
      rintro e w1 ⟨rfl, hb1⟩
      have HB : Hid (Below w.heap.size w w1) := hb.trans (hb1.mono (by simp))
      clear hb hb1 hw
      go_wp2
      go_ret
      exact ⟨by simp [e], HB.out⟩

/-- count, whatever it is handed. -/
theorem countS_any (m : Nat) (l : List (Four)) (x : Four) (hx : fitF x) (hl : l.length ≤ 1000000) (w : World) (h : Nums keyS 379 w m l) :
    Calls Tryz.prog 288 #[.map (some m), keyS x] w fun e w' => e = .returned (.int .i64 (numOf (addN l x) x : Nat)) ∧ Nums keyS 379 w' m (addN l x) ∧ Only m w w' := by
  by_cases h0 : numOf l x = 0
  · rw [numOf_add, if_pos h0, addN_new h0]
    exact countS_new m l x hx hl h0 w h
  · rw [numOf_add, if_neg h0, addN_old h0]
    exact (countS_old m l x hx h0 w h).mono fun e w' ⟨he, hb⟩ => ⟨he, h.keep (hb.block m h.lt), Only.of_below hb⟩
end Go.Proofs.YtoopaigpjefonaaGreatDoor

namespace Go.Proofs.YtoopaigpjefonaaGreatDoor
set_option maxRecDepth 20000
open Go.RowKit Go.Maps

structure VS where
  texts : List ByteArray
  marks : List (ByteArray × ByteArray)
  seals : List Four

structure IdealAt (w : World) (F : Nat → Prop) (B N a b c : Nat) (S : VS) : Prop where
  row : Row w B 105 [.iface 111 (.pointer (some ⟨N, 0, none⟩))]
  num : Row w N 180 [.map (some a), .map (some b), .map (some c)]
  texts : Nums keyT 376 w a S.texts
  marks : Nums keyM 385 w b S.marks
  seals : Nums keyS 379 w c S.seals
  fB : F B
  fN : F N
  fa : F a
  fb : F b
  fc : F c
  ab : a ≠ b
  ac : a ≠ c
  bc : b ≠ c
def Ideal (w : World) (F : Nat → Prop) (B : Nat) (S : VS) : Prop := ∃ N a b c, IdealAt w F B N a b c S

theorem row_not_map {α : Type} [DecidableEq α] {key : α → Value} {K t : TypeId} {w : World} {g b : Nat} {l : List α} {cs : List Value} (h : Row w g t cs) (k : Nums key K w b l) : g ≠ b := by
  rintro rfl
  obtain ⟨D, ⟨es, cl, hb, _⟩, _⟩ := k
  have h : w.heap[g]? = _ := h
  rw [h] at hb
  cases hb
theorem IdealAt.keep {w w' : World} {F : Nat → Prop} {B N a b c : Nat} {S : VS} (h : IdealAt w F B N a b c S) (hk : ∀ k, k < w.heap.size → F k → w'.heap[k]? = w.heap[k]?) : IdealAt w' F B N a b c S :=
  { h with
    row := (hk B h.row.lt h.fB).trans h.row
    num := (hk N h.num.lt h.fN).trans h.num
    texts := h.texts.keep (hk a h.texts.lt h.fa)
    marks := h.marks.keep (hk b h.marks.lt h.fb)
    seals := h.seals.keep (hk c h.seals.lt h.fc) }
theorem Ideal.keep {w w' : World} {F : Nat → Prop} {B : Nat} {S : VS} (h : Ideal w F B S) (hk : ∀ k, k < w.heap.size → F k → w'.heap[k]? = w.heap[k]?) : Ideal w' F B S := by
  obtain ⟨N, a, b, c, h⟩ := h
  exact ⟨N, a, b, c, h.keep hk⟩
theorem Ideal.below {w w' : World} {F : Nat → Prop} {B : Nat} {S : VS} (h : Ideal w F B S) (hb : Below w.heap.size w w') : Ideal w' F B S := h.keep fun k hk _ => hb.block k hk
theorem Ideal.mono {w : World} {F F' : Nat → Prop} {B : Nat} {S : VS} (h : Ideal w F B S) (hF : ∀ k, k < w.heap.size → F k → F' k) : Ideal w F' B S := by
  obtain ⟨N, a, b, c, h⟩ := h
  exact ⟨N, a, b, c, { h with fB := hF _ h.row.lt h.fB, fN := hF _ h.num.lt h.fN, fa := hF _ h.texts.lt h.fa, fb := hF _ h.marks.lt h.fb, fc := hF _ h.seals.lt h.fc }⟩
theorem Ideal.lt {w : World} {F : Nat → Prop} {B : Nat} {S : VS} (h : Ideal w F B S) : B < w.heap.size := by
  obtain ⟨N, a, b, c, h⟩ := h
  exact h.row.lt
theorem Touch.of_only {F : Nat → Prop} {w w' : World} {b : Nat} (h : Only b w w') (hb : F b) : Touch F w w' := ⟨h.1, fun k hk hn => h.2 k hk fun e => hn (e ▸ hb)⟩
theorem IdealAt.addT {w w' : World} {F : Nat → Prop} {B N a b c : Nat} {S : VS} {l : List ByteArray} (h : IdealAt w F B N a b c S) (ho : Only a w w') (hn : Nums keyT 376 w' a l) : IdealAt w' F B N a b c { S with texts := l } :=
  { h with
    row := h.row.only ho (row_not_map h.row h.texts)
    num := h.num.only ho (row_not_map h.num h.texts)
    texts := hn
    marks := h.marks.keep (ho.2 _ h.marks.lt h.ab.symm)
    seals := h.seals.keep (ho.2 _ h.seals.lt h.ac.symm) }
theorem IdealAt.addM {w w' : World} {F : Nat → Prop} {B N a b c : Nat} {S : VS} {l : List (ByteArray × ByteArray)} (h : IdealAt w F B N a b c S) (ho : Only b w w') (hn : Nums keyM 385 w' b l) : IdealAt w' F B N a b c { S with marks := l } :=
  { h with
    row := h.row.only ho (row_not_map h.row h.marks)
    num := h.num.only ho (row_not_map h.num h.marks)
    texts := h.texts.keep (ho.2 _ h.texts.lt h.ab)
    marks := hn
    seals := h.seals.keep (ho.2 _ h.seals.lt h.bc.symm) }
theorem IdealAt.addS {w w' : World} {F : Nat → Prop} {B N a b c : Nat} {S : VS} {l : List Four} (h : IdealAt w F B N a b c S) (ho : Only c w w') (hn : Nums keyS 379 w' c l) : IdealAt w' F B N a b c { S with seals := l } :=
  { h with
    row := h.row.only ho (row_not_map h.row h.seals)
    num := h.num.only ho (row_not_map h.num h.seals)
    texts := h.texts.keep (ho.2 _ h.texts.lt h.ac)
    marks := h.marks.keep (ho.2 _ h.marks.lt h.bc)
    seals := hn }

/-- The ways of the numbering. -/
theorem nhash_any (N a : Nat) (l : List ByteArray) (s : ByteArray) (hs : fitT s) (hl : l.length ≤ 1000000) (w : World) (c0 : w.cell? ⟨N, 0, none⟩ = some (.map (some a))) (h : Nums keyT 376 w a l) :
    Calls Tryz.prog 280 #[.pointer (some ⟨N, 0, none⟩), .string s] w fun e w' => e = .returned (.string (wideS (numOf (addN l s) s) 32)) ∧ Nums keyT 376 w' a (addN l s) ∧ Only a w w' := by
  have hc := countT_any a l s hs hl w h
  have hn := Nat.le_trans (numOf_le s (addN l s)) (addN_length l s)
  have hw := fun W => wide_any (numOf (addN l s) s) 32 (by omega) (by decide) (by decide) W
  generalize numOf (addN l s) s = n at *
  simp only [keyT] at hc
  clear h hs
  go_enter Tryz.func280, Tryz.ntmps280
  go_wp2_with fail
  refine hc.mono ?_
  rintro e w1 ⟨rfl, hN, hO⟩
  clear hc c0
  go_wp2_with fail
  refine (hw _).mono ?_
  rintro e w2 ⟨rfl, hb⟩
  have HF : Hid (Nums keyT 376 w2 a (addN l s) ∧ Only a w w2) := ⟨hN.keep (hb.block a hN.lt), hO.trans (Only.of_below hb)⟩
  clear hN hO hb hw
  go_wp2
  go_ret
  exact ⟨rfl, HF.out⟩
theorem nseal_any (N c : Nat) (l : List Four) (x : Four) (hs : fitF x) (hl : l.length ≤ 1000000) (w : World) (c2 : w.cell? ⟨N, 2, none⟩ = some (.map (some c))) (h : Nums keyS 379 w c l) :
    Calls Tryz.prog 284 #[.pointer (some ⟨N, 0, none⟩), .int .i64 x.salt, .string x.nonce, .string x.ad, .string x.text] w fun e w' => e = .returned (.tuple #[.string (x.text ++ wideS (numOf (addN l x) x) 16), .int .i64 0]) ∧ Nums keyS 379 w' c (addN l x) ∧ Only c w w' := by
  have hc := countS_any c l x hs hl w h
  have hn := Nat.le_trans (numOf_le x (addN l x)) (addN_length l x)
  have hw := fun W => wide_any (numOf (addN l x) x) 16 (by omega) (by decide) (by decide) W
  have hz : (wideS (numOf (addN l x) x) 16).size = 16 := wideS_size (by omega) (by decide)
  have ht := hs.2.2.2
  generalize numOf (addN l x) x = n at *
  generalize addN l x = l2 at *
  obtain ⟨z, a, b, s⟩ := x
  simp only [keyS] at hc ht ⊢
  generalize wideS n 16 = u at *
  have ha : ∀ w', (Op.stringOp .add s u).run Tryz.prog w' = .ok (.string (s ++ u)) w' := fun w' => run_string_add_sum (P := Tryz.prog) (w := w') _ _ (by omega)
  clear h hs
  go_enter Tryz.func284, Tryz.ntmps284
  go_wp2_with fail
  refine hc.mono ?_
  rintro e w1 ⟨rfl, hN, hO⟩
  clear hc c2
  go_wp2_with fail
  refine (hw _).mono ?_
  rintro e w2 ⟨rfl, hb⟩
  have HF : Hid (Nums keyS 379 w2 c l2 ∧ Only c w w2) := ⟨hN.keep (hb.block c hN.lt), hO.trans (Only.of_below hb)⟩
  clear hN hO hb hw
  go_wp2
  go_ret2
  exact ⟨rfl, HF.out⟩
end Go.Proofs.YtoopaigpjefonaaGreatDoor

namespace Go.Proofs.YtoopaigpjefonaaGreatDoor
set_option maxRecDepth 20000
open Go.RowKit Go.Maps

theorem lt_of_cell {w : World} {N i : Nat} {v : Value} (h : w.cell? ⟨N, i, none⟩ = some v) : N < w.heap.size := by
  by_cases hn : N < w.heap.size
  · exact hn
  · rw [World.cell?] at h
    simp [Array.getElem?_eq_none (Nat.le_of_not_lt hn)] at h
/-- What stands ahead of the last 16 bytes, and these. -/
def headS (s : ByteArray) : ByteArray := s.extract 0 (s.size - 16)
def tagS16 (s : ByteArray) : ByteArray := s.extract (s.size - 16) s.size
set_option maxRecDepth 10000 in
set_option maxHeartbeats 2000000 in
theorem nopen_any (N c : Nat) (l : List Four) (z : Int) (a b s : ByteArray) (hs : fitF ⟨z, a, b, s⟩) (h16 : 16 ≤ s.size) (hl : l.length ≤ 1000000) (w : World) (c2 : w.cell? ⟨N, 2, none⟩ = some (.map (some c))) (h : Nums keyS 379 w c l) :
    Calls Tryz.prog 283 #[.pointer (some ⟨N, 0, none⟩), .int .i64 z, .string a, .string b, .string s] w fun e w' => e = .returned (if numOf l ⟨z, a, b, headS s⟩ ≠ 0 ∧ tagS16 s = wideS (numOf l ⟨z, a, b, headS s⟩) 16 then .tuple #[.string (headS s), .int .i64 0] else .tuple #[.string ⟨#[]⟩, .int .i64 10]) ∧ Below w.heap.size w w' := by
  have hz : (headS s).size ≤ s.size := by simp [headS]
  have hf : fitF ⟨z, a, b, headS s⟩ := ⟨hs.1, hs.2.1, hs.2.2.1, Nat.le_trans hz hs.2.2.2⟩
  have hcl := fun W => cloneB_any (headS s) hf.2.2.2 W
  have hS : Nums keyS 379 w.drew c l := h
  have hc := countedS_any c l ⟨z, a, b, headS s⟩ (tagS16 s) hf hl w.drew hS
  have HR : Hid ((if numOf l ⟨z, a, b, headS s⟩ ≠ 0 ∧ tagS16 s = wideS (numOf l ⟨z, a, b, headS s⟩) 16 then Value.tuple #[.string (headS s), .int .i64 0] else .tuple #[.string ⟨#[]⟩, .int .i64 10]) = if decide (numOf l ⟨z, a, b, headS s⟩ ≠ 0 ∧ tagS16 s = wideS (numOf l ⟨z, a, b, headS s⟩) 16) then Value.tuple #[.string (headS s), .int .i64 0] else .tuple #[.string ⟨#[]⟩, .int .i64 10]) := by
    show _ = _
    simp
  rw [HR.out]
  have h1 := hs.2.2.2
  clear HR
  generalize decide (numOf l ⟨z, a, b, headS s⟩ ≠ 0 ∧ tagS16 s = wideS (numOf l ⟨z, a, b, headS s⟩) 16) = ok at *
  simp only [keyS] at hc
  have e1 : headS s = s.extract 0 (s.size - 16) := rfl
  have e2 : tagS16 s = s.extract (s.size - 16) s.size := rfl
  obtain ⟨q, hq⟩ : ∃ q : Nat, q = s.size - 16 := ⟨_, rfl⟩
  have hq1 : (s.size : Int) - 16 = (q : Nat) := by omega
  have hq2 : q ≤ s.size := by omega
  rw [← hq] at e1 e2
  simp only [e1, e2] at hc hcl ⊢
  have n0 : (0 : Int) ≤ (q : Nat) := by omega
  have n1 : ((q : Nat) : Int) ≤ (s.size : Nat) := by omega
  have hq3 : wrap64 ((q : Nat) : Int) = (q : Nat) := by have : s.size ≤ 140737488355328 := h1; unfold wrap64; omega
  clear h hs hf hz hS e1 e2 hq h16 h1
  have HN : Hid (N < w.heap.size) := lt_of_cell c2
  cases ok
  all_goals
    go_enter Tryz.func283, Tryz.ntmps283
    go_wp2_with fail
    go_region_held3 (fun w' => w'.cell? ⟨N, 2, none⟩ = some (.map (some c))) (first | exact c2 | exact cA | simp [go_sem, *]) (first | (go_at_call 287; refine hc.mono ?_; rintro e wA ⟨rfl, hA⟩; have cA : wA.cell? ⟨N, 2, none⟩ = some (.map (some c)) := (World.cell?_of_block (a := ⟨N, 2, none⟩) (hA.block N HN.out)).trans c2))
    have HB : Hid (Below w.heap.size w wA) := (Below.refl w.heap.size w).drew.trans hA
    clear hA hc
    go_wp2_with fail
  · go_ret2
    exact ⟨rfl, HB.out⟩
  · refine (hcl _).mono ?_
    rintro e w2 ⟨rfl, hb2⟩
    have HF : Hid (Below w.heap.size w w2) := HB.out.trans (hb2.mono HB.out.size)
    clear hb2 HB hcl
    go_wp2
    go_ret2
    exact ⟨rfl, HF.out⟩
end Go.Proofs.YtoopaigpjefonaaGreatDoor

namespace Go.Proofs.YtoopaigpjefonaaGreatDoor
set_option maxRecDepth 20000
open Go.RowKit Go.Maps

theorem fit_any (z : Int) (a : ByteArray) (w : World) : Calls Tryz.prog 111 #[.int .i64 z, .string a] w fun e w' => e = .returned (.bool (decide (0 ≤ z ∧ z ≤ 281474976710655 ∧ a.size = 12))) ∧ w' = w := by
  by_cases h1 : 0 ≤ z
  case neg =>
    have hr : decide (0 ≤ z ∧ z ≤ 281474976710655 ∧ a.size = 12) = false := by simp [h1]
    rw [hr]
    go_enter Tryz.func111, Tryz.ntmps111
    go_wp2
    go_ret
    exact ⟨rfl, rfl⟩
  by_cases h2 : z ≤ 281474976710655
  case neg =>
    have hr : decide (0 ≤ z ∧ z ≤ 281474976710655 ∧ a.size = 12) = false := by simp [h2]
    rw [hr]
    go_enter Tryz.func111, Tryz.ntmps111
    go_wp2
    go_ret
    exact ⟨rfl, rfl⟩
  by_cases h3 : (a.size : Int) = 12
  · have hr : decide (0 ≤ z ∧ z ≤ 281474976710655 ∧ a.size = 12) = true := by simp [h1, h2]; omega
    rw [hr]
    go_enter Tryz.func111, Tryz.ntmps111
    go_wp2
    go_ret
    exact ⟨rfl, rfl⟩
  · have hr : decide (0 ≤ z ∧ z ≤ 281474976710655 ∧ a.size = 12) = false := by simp [h1, h2]; omega
    have h4 : ((a.size : Int) == 12) = false := beq_false_of_ne h3
    rw [hr]
    go_enter Tryz.func111, Tryz.ntmps111
    go_wp2
    go_ret
    exact ⟨rfl, rfl⟩
theorem given_any (B : Nat) (t : TypeId) (v : Value) (w : World) (c : w.cell? ⟨B, 0, none⟩ = some (.iface t v)) : Calls Tryz.prog 110 #[.pointer (some ⟨B, 0, none⟩)] w fun e w' => e = .returned (.bool true) ∧ w' = w := by
  go_enter Tryz.func110, Tryz.ntmps110
  go_wp2_with fail
  go_ret
  exact ⟨rfl, rfl⟩
theorem given_nil (w : World) : Calls Tryz.prog 110 #[.pointer none] w fun e w' => e = .returned (.bool false) ∧ w' = w := by
  go_enter Tryz.func110, Tryz.ntmps110
  go_wp2_with fail
  go_ret
  exact ⟨rfl, rfl⟩
theorem given_zero (B : Nat) (w : World) (c : w.cell? ⟨B, 0, none⟩ = some .nilIface) : Calls Tryz.prog 110 #[.pointer (some ⟨B, 0, none⟩)] w fun e w' => e = .returned (.bool false) ∧ w' = w := by
  go_enter Tryz.func110, Tryz.ntmps110
  go_wp2_with fail
  go_ret
  exact ⟨rfl, rfl⟩

def hashP (S : VS) (s : ByteArray) : VS := { S with texts := addN S.texts s }
def hashS (S : VS) (s : ByteArray) : ByteArray := wideS (numOf (addN S.texts s) s) 32
def macP (S : VS) (l s : ByteArray) : VS := { S with marks := addN S.marks (l, s) }
def macS (S : VS) (l s : ByteArray) : ByteArray := wideS (numOf (addN S.marks (l, s)) (l, s)) 16
def madeB (S : VS) (l s tag : ByteArray) : Bool := decide (numOf S.marks (l, s) ≠ 0 ∧ tag = wideS (numOf S.marks (l, s)) 16)
/-- There is such a salt, and the nonce has its length. -/
def fitB (z : Int) (n : ByteArray) : Bool := decide (0 ≤ z ∧ z ≤ 281474976710655 ∧ n.size = 12)
def sealP (S : VS) (z : Int) (n a s : ByteArray) : VS := if fitB z n then { S with seals := addN S.seals ⟨z, n, a, s⟩ } else S
def sealS (S : VS) (z : Int) (n a s : ByteArray) : ByteArray := if fitB z n then s ++ wideS (numOf (addN S.seals ⟨z, n, a, s⟩) ⟨z, n, a, s⟩) 16 else ⟨#[]⟩
def sealE (z : Int) (n : ByteArray) : Int := if fitB z n then 0 else 1
/-- What is opened: the number of the four, and the tag is that. -/
def openB (S : VS) (z : Int) (n a s : ByteArray) : Bool := decide (numOf S.seals ⟨z, n, a, headS s⟩ ≠ 0 ∧ tagS16 s = wideS (numOf S.seals ⟨z, n, a, headS s⟩) 16)
def openS (S : VS) (z : Int) (n a s : ByteArray) : ByteArray := if fitB z n then (if s.size < 16 then ⟨#[]⟩ else if openB S z n a s then headS s else ⟨#[]⟩) else ⟨#[]⟩
def openE (S : VS) (z : Int) (n a s : ByteArray) : Int := if fitB z n then (if s.size < 16 then 3 else if openB S z n a s then 0 else 10) else 1

theorem vhash_any (B : Nat) (F : Nat → Prop) (S : VS) (s : ByteArray) (hs : fitT s) (hl : S.texts.length ≤ 1000000) (w : World) (hp : Ideal w F B S) :
    Calls Tryz.prog 94 #[.pointer (some ⟨B, 0, none⟩), .string s] w fun e w' => e = .returned (.string (hashS S s)) ∧ Ideal w' F B (hashP S s) ∧ Touch F w w' := by
  obtain ⟨N, a, b, c, h⟩ := hp
  have c0 : w.cell? ⟨B, 0, none⟩ = some (.iface 111 (.pointer (some ⟨N, 0, none⟩))) := h.row.cell 0
  have hg := given_any B _ _ w c0
  have hn := nhash_any N a S.texts s hs hl w (h.num.cell 0) h.texts
  have hm : ∀ w : World, (method 501 111 (.pointer (some ⟨N, 0, none⟩)) "grapnel/vault.hash").run Tryz.prog w = .ok (280, .pointer (some ⟨N, 0, none⟩)) w := fun _ => by kernel_rfl
  have HK : Hid (∀ w', Nums keyT 376 w' a (addN S.texts s) → Only a w w' → Ideal w' F B (hashP S s) ∧ Touch F w w') := fun w' h1 h2 => ⟨⟨N, a, b, c, h.addT h2 h1⟩, Touch.of_only h2 h.fa⟩
  unfold hashS
  generalize wideS (numOf (addN S.texts s) s) 32 = u at *
  clear h hs
  go_enter Tryz.func94, Tryz.ntmps94
  go_wp2_with fail
  refine hg.mono ?_
  rintro e w1 ⟨rfl, rfl⟩
  clear hg
  go_wp2_with fail
  refine hn.mono ?_
  rintro e w2 ⟨rfl, h1, h2⟩
  have HF : Hid _ := HK.out w2 h1 h2
  clear h1 h2 hn
  go_wp2
  go_ret
  exact ⟨rfl, HF.out⟩
set_option maxHeartbeats 1000000 in
theorem vseal_any (B : Nat) (F : Nat → Prop) (S : VS) (z : Int) (n ad s : ByteArray) (hs : fitF ⟨z, n, ad, s⟩) (hl : S.seals.length ≤ 1000000) (w : World) (hp : Ideal w F B S) :
    Calls Tryz.prog 135 #[.pointer (some ⟨B, 0, none⟩), .int .i64 z, .string n, .string ad, .string s] w fun e w' => e = .returned (.tuple #[.string (sealS S z n ad s), .int .i64 (sealE z n)]) ∧ Ideal w' F B (sealP S z n ad s) ∧ Touch F w w' := by
  have hp0 := hp
  obtain ⟨N, a, b, c, h⟩ := hp
  have c0 : w.cell? ⟨B, 0, none⟩ = some (.iface 111 (.pointer (some ⟨N, 0, none⟩))) := h.row.cell 0
  have hg := given_any B _ _ w c0
  have hf := fit_any z n w
  unfold sealS sealE sealP
  rw [show decide (0 ≤ z ∧ z ≤ 281474976710655 ∧ n.size = 12) = fitB z n from rfl] at hf
  have hn := nseal_any N c S.seals ⟨z, n, ad, s⟩ hs hl w (h.num.cell 2) h.seals
  have hm : ∀ w : World, (method 501 111 (.pointer (some ⟨N, 0, none⟩)) "grapnel/vault.seal").run Tryz.prog w = .ok (284, .pointer (some ⟨N, 0, none⟩)) w := fun _ => by kernel_rfl
  have HK : Hid (∀ w', Nums keyS 379 w' c (addN S.seals ⟨z, n, ad, s⟩) → Only c w w' → Ideal w' F B { S with seals := addN S.seals ⟨z, n, ad, s⟩ } ∧ Touch F w w') := fun w' h1 h2 => ⟨⟨N, a, b, c, h.addS h2 h1⟩, Touch.of_only h2 h.fc⟩
  have HP : Hid (Ideal w F B S) := hp0
  generalize s ++ wideS (numOf (addN S.seals ⟨z, n, ad, s⟩) ⟨z, n, ad, s⟩) 16 = u at *
  generalize addN S.seals ⟨z, n, ad, s⟩ = l2 at *
  clear h hs hp0
  cases hb : fitB z n <;> rw [hb] at hf
  · simp only [Bool.false_eq_true, if_false]
    go_enter Tryz.func135, Tryz.ntmps135
    go_wp2_with fail
    refine hg.mono ?_
    rintro e w1 ⟨rfl, rfl⟩
    clear hg
    go_wp2_with fail
    refine hf.mono ?_
    rintro e w3 ⟨rfl, rfl⟩
    clear hf
    go_wp2
    go_ret2
    exact ⟨rfl, HP.out, Touch.refl _ _⟩
  · simp only [if_true]
    go_enter Tryz.func135, Tryz.ntmps135
    go_wp2_with fail
    refine hg.mono ?_
    rintro e w1 ⟨rfl, rfl⟩
    clear hg
    go_wp2_with fail
    refine hf.mono ?_
    rintro e w3 ⟨rfl, rfl⟩
    clear hf
    go_wp2_with fail
    refine hn.mono ?_
    rintro e w2 ⟨rfl, h1, h2⟩
    have HF : Hid _ := HK.out w2 h1 h2
    clear h1 h2 hn
    go_wp2
    go_ret2
    exact ⟨rfl, HF.out⟩
set_option maxHeartbeats 1000000 in
theorem vopen_any (B : Nat) (F : Nat → Prop) (S : VS) (z : Int) (n ad s : ByteArray) (hs : fitF ⟨z, n, ad, s⟩) (hl : S.seals.length ≤ 1000000) (w : World) (hp : Ideal w F B S) :
    Calls Tryz.prog 65 #[.pointer (some ⟨B, 0, none⟩), .int .i64 z, .string n, .string ad, .string s] w fun e w' => e = .returned (.tuple #[.string (openS S z n ad s), .int .i64 (openE S z n ad s)]) ∧ Below w.heap.size w w' := by
  obtain ⟨N, a, b, c, h⟩ := hp
  have c0 : w.cell? ⟨B, 0, none⟩ = some (.iface 111 (.pointer (some ⟨N, 0, none⟩))) := h.row.cell 0
  have hg := given_any B _ _ w c0
  have hf := fit_any z n w
  unfold openS openE
  rw [show decide (0 ≤ z ∧ z ≤ 281474976710655 ∧ n.size = 12) = fitB z n from rfl] at hf
  have hn := fun h16 => nopen_any N c S.seals z n ad s hs h16 hl w (h.num.cell 2) h.seals
  have hdec : ∀ X Y : Value, (if numOf S.seals ⟨z, n, ad, headS s⟩ ≠ 0 ∧ tagS16 s = wideS (numOf S.seals ⟨z, n, ad, headS s⟩) 16 then X else Y) = if openB S z n ad s then X else Y := fun X Y => by simp [openB]
  simp only [hdec] at hn
  have hm : ∀ w : World, (method 501 111 (.pointer (some ⟨N, 0, none⟩)) "grapnel/vault.open").run Tryz.prog w = .ok (283, .pointer (some ⟨N, 0, none⟩)) w := fun _ => by kernel_rfl
  clear h hs hdec
  generalize headS s = u at *
  generalize openB S z n ad s = ok at *
  cases hb : fitB z n <;> rw [hb] at hf
  · simp only [Bool.false_eq_true, if_false]
    go_enter Tryz.func65, Tryz.ntmps65
    go_wp2_with fail
    refine hg.mono ?_
    rintro e w1 ⟨rfl, rfl⟩
    clear hg
    go_wp2_with fail
    refine hf.mono ?_
    rintro e w3 ⟨rfl, rfl⟩
    clear hf
    go_wp2
    go_ret2
    exact ⟨rfl, Below.refl _ _⟩
  · simp only [if_true]
    by_cases h16 : s.size < 16
    · have h16' : (s.size : Int) < 16 := by omega
      simp only [h16, if_true]
      clear hn
      go_enter Tryz.func65, Tryz.ntmps65
      go_wp2_with fail
      refine hg.mono ?_
      rintro e w1 ⟨rfl, rfl⟩
      clear hg
      go_wp2_with fail
      refine hf.mono ?_
      rintro e w3 ⟨rfl, rfl⟩
      clear hf
      go_wp2
      go_ret2
      exact ⟨rfl, Below.refl _ _⟩
    · have h16' : ¬ (s.size : Int) < 16 := by omega
      simp only [h16, if_false]
      have hn2 := hn (by omega)
      clear hn
      cases ok <;> simp only [Bool.false_eq_true, if_false, if_true] at hn2 ⊢
      all_goals
        go_enter Tryz.func65, Tryz.ntmps65
        go_wp2_with fail
        refine hg.mono ?_
        rintro e w1 ⟨rfl, rfl⟩
        clear hg
        go_wp2_with fail
        refine hf.mono ?_
        rintro e w3 ⟨rfl, rfl⟩
        clear hf
        go_wp2_with fail
        refine hn2.mono ?_
        rintro e w2 ⟨rfl, h1⟩
        have HF : Hid _ := h1
        clear h1 hn2
        go_wp2
        go_ret2
        exact ⟨rfl, HF.out⟩
end Go.Proofs.YtoopaigpjefonaaGreatDoor
