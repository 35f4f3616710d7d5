/- The law BlockSeals, called with any head, text and choice, returns true, and changes nothing that was there. -/
import Derived.Test.YtcefoeaakdemmaaGreatDoorBkEq
import Derived.Test.YtcefoeaakdemmaaGreatDoorRfSeal
import Derived.Deep.RegionWith
namespace Go.Proofs.YtcefoeaakdemmaaGreatDoor
set_option maxRecDepth 20000
open Go.RowKit Go.Lib

def tagS (r : ByteArray) : ByteArray := if r.size = 512 then r.extract 496 512 else ⟨#[]⟩
set_option maxHeartbeats 1000000 in
theorem tag_any (r : ByteArray) (w : World) : Calls Tryz.prog 9 #[.string r] w fun e w' => e = .returned (.string (tagS r)) ∧ Below w.heap.size w w' := by
  have hw := fun w => whole_any r w
  by_cases hr : r.size = 512
  · rw [decide_eq_true hr] at hw
    have HT : Hid (tagS r = r.extract 496 512) := if_pos hr
    have hc := fun w => clone_any (r.extract 496 512) w (by simp [hr])
    have hr1 : (496 : Int) ≤ r.size := by omega
    generalize hx : r.extract 496 512 = x at *
    rw [HT.out]
    go_enter Tryz.func9, Tryz.ntmps9
    go_wp2_with fail
    refine (hw _).mono ?_
    rintro e w1 ⟨rfl, rfl⟩
    clear hw
    go_wp2_with fail
    try rw [hx]
    refine (hc _).mono ?_
    rintro e w2 ⟨rfl, hb⟩
    have HB : Hid (Below w1.heap.size w1 w2) := hb
    clear hb hc
    go_wp2
    go_ret
    exact ⟨rfl, HB.out⟩
  · rw [decide_eq_false hr] at hw
    have HT : Hid (tagS r = ⟨#[]⟩) := if_neg hr
    rw [HT.out]
    go_enter Tryz.func9, Tryz.ntmps9
    go_wp2_with fail
    refine (hw _).mono ?_
    rintro e w1 ⟨rfl, rfl⟩
    clear hw
    go_wp2
    go_ret
    exact ⟨rfl, Below.refl _ _⟩

theorem seal_way (h : Hd) (s : ByteArray) : (bsealS newV h s).size = 512 ∨ bsealS newV h s = ⟨#[]⟩ := by
  by_cases hB : bsealB h s = true
  · have hB2 : s.size = 448 ∧ h.err = 0 := by simpa [bsealB] using hB
    left
    rw [(new_seal h s hB2.2 hB2.1).1]
    exact blk_size hB2.2 hB2.1 (by decide)
  · right
    unfold bsealS
    rw [if_neg hB]

set_option maxRecDepth 100000 in
set_option maxHeartbeats 1500000 in
theorem walk_blockSeals (h : Hd) (s : ByteArray) (exact' : Bool) (hi : hdInt h) (w : World) :
    Calls Tryz.prog 3 #[.agg #[.int .i64 h.v0, .int .i64 h.v1, .int .i64 h.v2, .int .i64 h.v3, .int .i64 h.v4, .int .i64 h.v5, .int .i64 h.v6, .int .i64 h.v7], .string s, .bool exact'] w fun e w' => e = .returned (.bool true) ∧ Below w.heap.size w w' := by
  obtain ⟨W0, hW0⟩ : ∃ W0, w.alloc (.cells #[.int .i64 h.v0, .int .i64 h.v1, .int .i64 h.v2, .int .i64 h.v3, .int .i64 h.v4, .int .i64 h.v5, .int .i64 h.v6, .int .i64 h.v7] 23) = W0 := ⟨_, rfl⟩
  have g0 : W0.heap[w.heap.size]? = some (.cells #[.int .i64 h.v0, .int .i64 h.v1, .int .i64 h.v2, .int .i64 h.v3, .int .i64 h.v4, .int .i64 h.v5, .int .i64 h.v6, .int .i64 h.v7] 23 (0, 0)) := by rw [← hW0]; exact heap_alloc_new w _
  have HB0 : Hid (Below w.heap.size w W0) := by rw [← hW0]; exact (Below.refl _ _).alloc (Nat.le_refl _) _
  have HI : Hid (hdInt h) := hi
  clear hi
  have hway : (600 < s.size ∧ ∃ u, s.extract 0 600 = u ∧ u.size ≤ 600) ∨ ¬ 600 < s.size := by
    by_cases hc : 600 < s.size
    · exact .inl ⟨hc, _, rfl, by simp; omega⟩
    · exact .inr hc
  rcases hway with ⟨hc, u, hu, hz⟩ | hc
  case' inl =>
    have hc1 : (600 : Int) < s.size := by omega
    have hc2 : (600 : Int) ≤ s.size := by omega
  case' inr =>
    have hc1 : ¬ (600 : Int) < s.size := by omega
    obtain ⟨u, hu, hz⟩ : ∃ u, u = s ∧ u.size ≤ 600 := ⟨s, rfl, by omega⟩
    subst hu
  all_goals
    cases exact'
  all_goals
    go_enter Tryz.func3, Tryz.ntmps3
    go_wp2_with fail
    try rw [hW0]
  all_goals
    try (refine (body_any u _).mono ?_; rintro e W1 ⟨rfl, hb1⟩; replace g0 := (hb1.block _ (lt_of_block g0)).trans g0; replace HB0 : Hid (Below w.heap.size w W1) := HB0.out.trans (hb1.mono HB0.out.size); clear hb1; replace hz : (bodyS u).size ≤ 600 := (by rw [bodyS_size]; decide); clear hW0; clear W0; generalize bodyS u = u2 at *; go_wp2_with fail; obtain ⟨u, hu2⟩ : ∃ x, x = u2 := ⟨_, rfl⟩; subst hu2; obtain ⟨W0, hW2⟩ : ∃ x, x = W1 := ⟨_, rfl⟩; subst hW2)
    try clear hW0
  all_goals
    have hs1 := fun B F w (hp : Ideal w F B newV) => bseal_any B F newV h u (by decide) w hp
    have hs2 := fun B F w (hp : RefV w F B newV) => rbseal_any B F newV h u HI.out (by decide) w hp
    have ht := fun w => tag_any (bsealS newV h u) w
    have HTT : Hid (tagS (bsealS newV h u) = if (bsealS newV h u).size = 512 then (bsealS newV h u).extract 496 512 else ⟨#[]⟩) := rfl
    have HTW : Hid ((bsealS newV h u).size = 512 ∨ bsealS newV h u = ⟨#[]⟩) := seal_way h u
    simp only [Hd.arr] at hs1 hs2
    generalize bsealS newV h u = T at *
    generalize bsealE h u = E at *
    generalize bsealP newV h u = S1 at *
    obtain ⟨c0, c1, c2, c3, c4, c5, c6, c7⟩ := hd_cells g0
    have l0 := lt_of_block g0
    go_region_held3 (fun w' => w'.cell? ⟨w.heap.size, 0, none⟩ = some (.int .i64 h.v0) ∧ w'.cell? ⟨w.heap.size, 1, none⟩ = some (.int .i64 h.v1) ∧ w'.cell? ⟨w.heap.size, 2, none⟩ = some (.int .i64 h.v2) ∧ w'.cell? ⟨w.heap.size, 3, none⟩ = some (.int .i64 h.v3) ∧ w'.cell? ⟨w.heap.size, 4, none⟩ = some (.int .i64 h.v4) ∧ w'.cell? ⟨w.heap.size, 5, none⟩ = some (.int .i64 h.v5) ∧ w'.cell? ⟨w.heap.size, 6, none⟩ = some (.int .i64 h.v6) ∧ w'.cell? ⟨w.heap.size, 7, none⟩ = some (.int .i64 h.v7)) (simp [go_sem, *])
      (first | (go_at_call 7; refine (ideal_any _).mono ?_; rintro e wC ⟨B, rfl, hpC, hbC⟩; have hBC : Below W0.heap.size W0 wC := (Below.refl _ _).drew.trans hbC; have hkC : ∀ i, wC.cell? ⟨w.heap.size, i, none⟩ = W0.cell? ⟨w.heap.size, i, none⟩ := cell_kept_ (hBC.block _ l0)) | (go_at_call 6; refine (hs1 B _ _ hpC).mono ?_; rintro e wE ⟨rfl, hpE, htE⟩; have hblE : ∀ k, k < W0.heap.size → wE.heap[k]? = W0.heap[k]? := fun k hk => (htE.2 k (Nat.lt_of_lt_of_le hk hBC.size) (fun hF => absurd hF.1 (by show ¬ W0.heap.size ≤ k; omega))).trans (hBC.block k hk); have hkE : ∀ i, wE.cell? ⟨w.heap.size, i, none⟩ = W0.cell? ⟨w.heap.size, i, none⟩ := cell_kept_ (hblE _ l0)))
    have hzE : W0.heap.size ≤ wE.heap.size := Nat.le_trans hBC.size htE.size
    have HB1 : Hid (Below w.heap.size w wE) := HB0.out.trans ⟨htE.1.os.trans hBC.os, htE.1.tape.trans hBC.tape, htE.1.output.trans hBC.output, hzE, fun k hk => hblE k (Nat.lt_trans hk l0)⟩
    have gE := (hblE _ l0).trans g0
    clear hkC hkE hblE htE hBC hbC hpC hpE hs1 c0 c1 c2 c3 c4 c5 c6 c7 g0 HB0
    obtain ⟨w2, hw2⟩ : ∃ w2, wE.alloc (.cells #[.bool true, .string ⟨#[]⟩, .slice none 0 0, .slice none 0 0, .slice none 0 0] 36) = w2 := ⟨_, rfl⟩
    have hr2 : RefV w2 (fun k => k = wE.heap.size) wE.heap.size newV := by rw [← hw2]; exact rv_new wE
    have lE := lt_of_block gE
    have g2 : w2.heap[w.heap.size]? = some (.cells #[.int .i64 h.v0, .int .i64 h.v1, .int .i64 h.v2, .int .i64 h.v3, .int .i64 h.v4, .int .i64 h.v5, .int .i64 h.v6, .int .i64 h.v7] 23 (0, 0)) := by rw [← hw2]; exact (Below.heap_alloc _ _ _ lE).trans gE
    have HB2 : Hid (Below w.heap.size w w2) := by rw [← hw2]; exact HB1.out.alloc (Nat.le_of_lt lE) _
    obtain ⟨c0, c1, c2, c3, c4, c5, c6, c7⟩ := hd_cells g2
    clear gE HB1 g2
    go_wp2_with fail
    try rw [hw2]
    refine (hs2 _ _ _ hr2).mono ?_
    rintro e w3 ⟨rfl, _, ht3⟩
    have HB3 : Hid (Below w.heap.size w w3) := HB2.out.trans (ht3.below HB2.out.size fun k hk => by subst hk; exact Nat.le_of_lt lE)
    clear hw2 hr2 HB2 hs2 ht3 c0 c1 c2 c3 c4 c5 c6 c7
    rcases HTW.out with hT | rfl
    case' inl =>
      have HX : tagS T = T.extract 496 T.size := by rw [HTT.out, if_pos hT, hT]
      rw [HX] at ht
      clear HX
      have hT4 : (496 : Int) ≤ T.size := by omega
      have hT1 : ((T.size : Int) != 512) = false := by simp [hT]
      clear HTT HTW hT
      go_wp2_with fail
      go_region_held3 (fun _ => True) (trivial) (first | (go_at_call 9; refine (ht _).mono ?_; rintro e wA ⟨rfl, hbA⟩; have HB4 : Hid (Below w.heap.size w wA) := (by first | exact HB3.out.trans (hbA.mono HB3.out.size) | exact HB3.out.drew.trans (hbA.mono HB3.out.size))) | (go_at_call 10; refine (bawake_any _).mono ?_; rintro e wz ⟨rfl, hbz⟩; have HF : Hid (Below w.heap.size w wz) := (by first | exact HB4.out.trans (hbz.mono HB4.out.size) | exact HB4.out.drew.trans (hbz.mono HB4.out.size))))
    case' inr =>
      clear HTT HTW ht
      go_wp2_with fail
      refine wp_region_held_drew (S := fun _ => True) (by kernel_rfl) trivial (fun _ => ?_)
      refine wpAnyH_take (i := 0) (v := .string ⟨#[]⟩) (by simp only [List.getElem?_toArray, List.getElem?_cons_zero]; rfl) (by kernel_rfl) (by kernel_rfl) (by kernel_rfl) (by exact fun _ _ _ h => h) (Or.inl ⟨by rfl, fun w _ => by go_simp⟩) trivial ?_
      try simp only [Act.put, List.setIfInBounds_toArray, List.set_cons_zero, List.set_cons_succ]
      refine wpAnyH_take (i := 1) (v := .string ⟨#[]⟩) (by simp only [List.getElem?_toArray, List.getElem?_cons_zero, List.getElem?_cons_succ]; rfl) (by kernel_rfl) (by kernel_rfl) (by kernel_rfl) (by exact fun _ _ _ h => h) (Or.inl ⟨by rfl, fun w _ => by go_simp⟩) trivial ?_
      try simp only [Act.put, List.setIfInBounds_toArray, List.set_cons_zero, List.set_cons_succ]
      refine wpAnyH_take (i := 2) (v := .bool true) (by simp only [List.getElem?_toArray, List.getElem?_cons_zero, List.getElem?_cons_succ]; rfl) (by kernel_rfl) (by kernel_rfl) (by kernel_rfl) (by exact fun _ _ _ h => h) (Or.inl ⟨by rfl, fun w _ => by go_simp⟩) trivial ?_
      try simp only [Act.put, List.setIfInBounds_toArray, List.set_cons_zero, List.set_cons_succ]
      refine wpAnyH_take (i := 3) (v := .bool true) (by simp only [List.getElem?_toArray, List.getElem?_cons_zero, List.getElem?_cons_succ]; rfl) (by kernel_rfl) (by kernel_rfl) (by kernel_rfl) (by exact fun _ _ _ h => h) (Or.inl ⟨by rfl, fun w _ => by go_simp⟩) trivial ?_
      try simp only [Act.put, List.setIfInBounds_toArray, List.set_cons_zero, List.set_cons_succ]
      refine wpAnyH_take (i := 4) (v := .int .i64 E) (by simp only [List.getElem?_toArray, List.getElem?_cons_zero, List.getElem?_cons_succ]; rfl) (by kernel_rfl) (by kernel_rfl) (by kernel_rfl) (by exact fun _ _ _ h => h) (Or.inl ⟨by rfl, fun w _ => by go_simp⟩) trivial ?_
      try simp only [Act.put, List.setIfInBounds_toArray, List.set_cons_zero, List.set_cons_succ]
      refine wpAnyH_take (i := 5) (v := .int .i64 E) (by simp only [List.getElem?_toArray, List.getElem?_cons_zero, List.getElem?_cons_succ]; rfl) (by kernel_rfl) (by kernel_rfl) (by kernel_rfl) (by exact fun _ _ _ h => h) (Or.inl ⟨by rfl, fun w _ => by go_simp⟩) trivial ?_
      try simp only [Act.put, List.setIfInBounds_toArray, List.set_cons_zero, List.set_cons_succ]
      refine wpAnyH_take (i := 6) (v := .bool true) (by simp only [List.getElem?_toArray, List.getElem?_cons_zero, List.getElem?_cons_succ]; rfl) (by kernel_rfl) (by kernel_rfl) (by kernel_rfl) (by exact fun _ _ _ h => h) (Or.inl ⟨by rfl, fun w _ => by go_simp⟩) trivial ?_
      try simp only [Act.put, List.setIfInBounds_toArray, List.set_cons_zero, List.set_cons_succ]
      refine wpAnyH_take (i := 7) (v := .bool true) (by simp only [List.getElem?_toArray, List.getElem?_cons_zero, List.getElem?_cons_succ]; rfl) (by kernel_rfl) (by kernel_rfl) (by kernel_rfl) (by exact fun _ _ _ h => h) (Or.inl ⟨by rfl, fun w _ => by go_simp⟩) trivial ?_
      try simp only [Act.put, List.setIfInBounds_toArray, List.set_cons_zero, List.set_cons_succ]
      refine wpAnyH_take (i := 8) (v := .bool true) (by simp only [List.getElem?_toArray, List.getElem?_cons_zero, List.getElem?_cons_succ]; rfl) (by kernel_rfl) (by kernel_rfl) (by kernel_rfl) (by exact fun _ _ _ h => h) (Or.inl ⟨by rfl, fun w _ => by go_simp⟩) trivial ?_
      try simp only [Act.put, List.setIfInBounds_toArray, List.set_cons_zero, List.set_cons_succ]
      refine wpAnyH_take (i := 9) (v := .string ⟨#[]⟩) (by simp only [List.getElem?_toArray, List.getElem?_cons_zero, List.getElem?_cons_succ]; rfl) (by kernel_rfl) (by kernel_rfl) (by kernel_rfl) (by exact fun _ _ _ h => h) (Or.inl ⟨by rfl, fun w _ => by go_simp⟩) trivial ?_
      try simp only [Act.put, List.setIfInBounds_toArray, List.set_cons_zero, List.set_cons_succ]
      refine wpAnyH_take (i := 10) (v := .int .i64 0) (by simp only [List.getElem?_toArray, List.getElem?_cons_zero, List.getElem?_cons_succ]; rfl) (by kernel_rfl) (by kernel_rfl) (by kernel_rfl) (by exact fun _ _ _ h => h) (Or.inl ⟨by rfl, fun w _ => by go_simp⟩) trivial ?_
      try simp only [Act.put, List.setIfInBounds_toArray, List.set_cons_zero, List.set_cons_succ]
      refine wpAnyH_take (i := 11) (v := .bool true) (by simp only [List.getElem?_toArray, List.getElem?_cons_zero, List.getElem?_cons_succ]; rfl) (by kernel_rfl) (by kernel_rfl) (by kernel_rfl) (by exact fun _ _ _ h => h) (Or.inl ⟨by rfl, fun w _ => by go_simp⟩) trivial ?_
      try simp only [Act.put, List.setIfInBounds_toArray, List.set_cons_zero, List.set_cons_succ]
      refine wpAnyH_take (i := 12) (v := .bool true) (by simp only [List.getElem?_toArray, List.getElem?_cons_zero, List.getElem?_cons_succ]; rfl) (by kernel_rfl) (by kernel_rfl) (by kernel_rfl) (by exact fun _ _ _ h => h) (Or.inl ⟨by rfl, fun w _ => by go_simp⟩) trivial ?_
      try simp only [Act.put, List.setIfInBounds_toArray, List.set_cons_zero, List.set_cons_succ]
      refine wpAnyH_take (i := 13) (v := undef) (by simp only [List.getElem?_toArray, List.getElem?_cons_zero, List.getElem?_cons_succ]; rfl) (by kernel_rfl) (by kernel_rfl) (by kernel_rfl) (by exact fun _ _ _ h => h) (Or.inr ⟨by rfl, rfl⟩) trivial ?_
      try simp only [Act.put, List.setIfInBounds_toArray, List.set_cons_zero, List.set_cons_succ]
      refine wpAnyH_take (i := 14) (v := undef) (by simp only [List.getElem?_toArray, List.getElem?_cons_zero, List.getElem?_cons_succ]; rfl) (by kernel_rfl) (by kernel_rfl) (by kernel_rfl) (by exact fun _ _ _ h => h) (Or.inr ⟨by rfl, rfl⟩) trivial ?_
      try simp only [Act.put, List.setIfInBounds_toArray, List.set_cons_zero, List.set_cons_succ]
      refine wpAnyH_take (i := 15) (v := undef) (by simp only [List.getElem?_toArray, List.getElem?_cons_zero, List.getElem?_cons_succ]; rfl) (by kernel_rfl) (by kernel_rfl) (by kernel_rfl) (by exact fun _ _ _ h => h) (Or.inr ⟨by rfl, rfl⟩) trivial ?_
      try simp only [Act.put, List.setIfInBounds_toArray, List.set_cons_zero, List.set_cons_succ]
      refine wpAnyH_take (i := 16) (v := undef) (by simp only [List.getElem?_toArray, List.getElem?_cons_zero, List.getElem?_cons_succ]; rfl) (by kernel_rfl) (by kernel_rfl) (by kernel_rfl) (by exact fun _ _ _ h => h) (Or.inr ⟨by rfl, rfl⟩) trivial ?_
      try simp only [Act.put, List.setIfInBounds_toArray, List.set_cons_zero, List.set_cons_succ]
      refine wpAnyH_take (i := 17) (v := undef) (by simp only [List.getElem?_toArray, List.getElem?_cons_zero, List.getElem?_cons_succ]; rfl) (by kernel_rfl) (by kernel_rfl) (by kernel_rfl) (by exact fun _ _ _ h => h) (Or.inr ⟨by rfl, rfl⟩) trivial ?_
      try simp only [Act.put, List.setIfInBounds_toArray, List.set_cons_zero, List.set_cons_succ]
      refine wpAnyH_take (i := 18) (v := .bool true) (by simp only [List.getElem?_toArray, List.getElem?_cons_zero, List.getElem?_cons_succ]; rfl) (by kernel_rfl) (by kernel_rfl) (by kernel_rfl) (by exact fun _ _ _ h => h) (Or.inl ⟨by rfl, fun w _ => by go_simp⟩) trivial ?_
      try simp only [Act.put, List.setIfInBounds_toArray, List.set_cons_zero, List.set_cons_succ]
      refine wpAnyH_take (i := 19) (v := .bool true) (by simp only [List.getElem?_toArray, List.getElem?_cons_zero, List.getElem?_cons_succ]; rfl) (by kernel_rfl) (by kernel_rfl) (by kernel_rfl) (by exact fun _ _ _ h => h) (Or.inl ⟨by rfl, fun w _ => by go_simp⟩) trivial ?_
      try simp only [Act.put, List.setIfInBounds_toArray, List.set_cons_zero, List.set_cons_succ]
      refine wpAnyH_take (i := 20) (v := .bool true) (by simp only [List.getElem?_toArray, List.getElem?_cons_zero, List.getElem?_cons_succ]; rfl) (by kernel_rfl) (by kernel_rfl) (by kernel_rfl) (by exact fun _ _ _ h => h) (Or.inl ⟨by rfl, fun w _ => by go_simp⟩) trivial ?_
      try simp only [Act.put, List.setIfInBounds_toArray, List.set_cons_zero, List.set_cons_succ]
      refine wpAnyH_ready (rs := [21]) (by kernel_rfl) (by simp) (AllReadyH.cons (by simp only [List.getElem?_toArray, List.getElem?_cons_zero, List.getElem?_cons_succ]; rfl) (fun K hK => ?_) AllReadyH.nil)
      rw [if_pos (by rfl)]
      go_simp
      refine (bawake_any _).mono ?_
      rintro e wz ⟨rfl, hbz⟩
      have HF : Hid (Below w.heap.size w wz) := (by first | exact HB3.out.trans (hbz.mono HB3.out.size) | exact HB3.out.drew.trans (hbz.mono HB3.out.size))
      clear hbz
      refine hK.out _ _ trivial (fun _ => ?_)
      try simp only [Act.put, List.setIfInBounds_toArray, List.set_cons_zero, List.set_cons_succ]
      refine wpAnyH_take (i := 22) (v := .bool true) (by simp only [List.getElem?_toArray, List.getElem?_cons_zero, List.getElem?_cons_succ]; rfl) (by kernel_rfl) (by kernel_rfl) (by kernel_rfl) (by exact fun _ _ _ h => h) (Or.inl ⟨by rfl, fun w _ => by go_simp⟩) trivial ?_
      try simp only [Act.put, List.setIfInBounds_toArray, List.set_cons_zero, List.set_cons_succ]
      refine wpAnyH_take (i := 23) (v := .bool true) (by simp only [List.getElem?_toArray, List.getElem?_cons_zero, List.getElem?_cons_succ]; rfl) (by kernel_rfl) (by kernel_rfl) (by kernel_rfl) (by exact fun _ _ _ h => h) (Or.inl ⟨by rfl, fun w _ => by go_simp⟩) trivial ?_
      try simp only [Act.put, List.setIfInBounds_toArray, List.set_cons_zero, List.set_cons_succ]
      refine wpAnyH_done (by kernel_rfl) ?_ _
  all_goals
    go_wp2
    go_ret
    exact ⟨rfl, HF.out⟩
end Go.Proofs.YtcefoeaakdemmaaGreatDoor
