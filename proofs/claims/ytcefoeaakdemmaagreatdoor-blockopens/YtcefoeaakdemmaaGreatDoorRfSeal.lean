/- The document's Nonce and Seal of blocks: of any vault whose Seal is told. -/
import Derived.Test.YtcefoeaakdemmaaGreatDoorBkSeal
import Derived.Test.YtcefoeaakdemmaaGreatDoorMg28
import Derived.Test.YtcefoeaakdemmaaGreatDoorVtRefSeal
import Derived.Test.YtcefoeaakdemmaaGreatDoorVtNew
import Derived.Test.YtcefoeaakdemmaaGreatDoorRefPut
namespace Go.Proofs.YtcefoeaakdemmaaGreatDoor
set_option maxRecDepth 20000
open Go.RowKit Go.Lib

/-- Numbers that an int holds. -/
def hdInt (h : Hd) : Prop := IsInt h.v0 ∧ IsInt h.v1 ∧ IsInt h.v2 ∧ IsInt h.v3 ∧ IsInt h.v4 ∧ IsInt h.v5 ∧ IsInt h.v6 ∧ IsInt h.v7
theorem rbhead_any (h : Hd) (hi : hdInt h) (w : World) : Calls Tryz.prog 17 #[.agg #[.int .i64 h.v0, .int .i64 h.v1, .int .i64 h.v2, .int .i64 h.v3, .int .i64 h.v4, .int .i64 h.v5, .int .i64 h.v6, .int .i64 h.v7]] w fun e w' => e = .returned (.tuple #[.string h.txt, .int .i64 h.err]) ∧ Below w.heap.size w w' :=
  rhead_any h.v0 h.v1 h.v2 h.v3 h.v4 h.v5 h.v6 h.v7 (by
    obtain ⟨h0, h1, h2, h3, h4, h5, h6, h7⟩ := hi
    intro p hp
    simp only [headPs, List.mem_cons, List.mem_nil_iff, or_false] at hp
    rcases hp with rfl | rfl | rfl | rfl | rfl | rfl | rfl | rfl <;> (apply int_le8; assumption)) w
set_option maxHeartbeats 1000000 in
theorem rnonce_any (h : Hd) (he : h.err = 0) (hi : hdInt h) (w : World) : Calls Tryz.prog 19 #[.agg h.arr] w fun e w' => e = .returned (.string h.nonce) ∧ Below w.heap.size w w' := by
  obtain ⟨hn, hn2⟩ := nonce_eq he
  obtain ⟨u1, u2, _⟩ := hd_puts he
  have s1 := putS_len u1
  have s2 := putS_len u2
  rw [hn]
  rw [hn] at hn2
  clear hn he u1 u2
  obtain ⟨a0, a1, a2, a3, a4, a5, a6, a7⟩ := h
  simp only [Hd.arr]
  simp only at s1 s2 hn2
  have i1 : a1 ≤ 9223372036854775807 := int_le8 hi.2.1
  have i6 : a6 ≤ 9223372036854775807 := int_le8 hi.2.2.2.2.2.2.1
  have p1 := fun w => rput_any a1 4 i1 w
  have p2 := fun w => rput_any a6 6 i6 w
  generalize putS a1 4 = p at *
  generalize putS a6 6 = q at *
  have hz := noughtsS_size 2
  have hadd : ∀ w', (Op.stringOp .add p q).run Tryz.prog w' = .ok (.string (p ++ q)) w' := fun w' => run_string_add_sum (P := Tryz.prog) (w := w') _ _ (by rw [s1, s2]; decide)
  have hadd2 : ∀ w', (Op.stringOp .add (p ++ q) (noughtsS 2)).run Tryz.prog w' = .ok (.string (p ++ q ++ noughtsS 2)) w' := fun w' => run_string_add_sum (P := Tryz.prog) (w := w') _ _ (by rw [ByteArray.size_append, s1, s2, hz]; decide)
  have hno := fun w => noughts_z 2 2 rfl (by decide) w
  generalize noughtsS 2 = Z at *
  go_enter Tryz.func19, Tryz.ntmps19
  go_wp2_with fail
  refine (p1 _).mono ?_
  rintro e w1 ⟨rfl, hb1⟩
  have c6 := cells_kept hb1 6 _ rfl
  have hb1' : Below w.heap.size w w1 := ((Below.refl _ _).alloc (Nat.le_refl _) _).trans (hb1.mono (by simp))
  clear hb1
  go_wp2_with fail
  refine (p2 _).mono ?_
  rintro e w2 ⟨rfl, hb2⟩
  have hb3 : Below w.heap.size w w2 := hb1'.trans (hb2.mono hb1'.size)
  clear hb2 c6 hb1'
  go_wp2_with fail
  refine (hno _).mono ?_
  rintro e w3 ⟨rfl, hb4⟩
  have HB : Hid (Below w.heap.size w w3) := hb3.trans (hb4.mono hb3.size)
  clear hb3 hb4
  go_wp2
  go_ret
  exact ⟨rfl, HB.out⟩

set_option maxHeartbeats 1000000 in
theorem rbseal_short (v : Value) (h : Hd) (s : ByteArray) (hs : ¬ s.size = 448) (w : World) : Calls Tryz.prog 8 #[v, .agg h.arr, .string s] w fun e w' => e = .returned (.tuple #[.string ⟨#[]⟩, .int .i64 1]) ∧ Below w.heap.size w w' := by
  have hs' : ((s.size : Int) != 448) = true := bne_iff_ne.2 (by omega)
  have HB : Hid (Below w.heap.size w (w.alloc (.cells h.arr 23))) := (Below.refl _ _).alloc (Nat.le_refl _) _
  simp only [Hd.arr] at HB ⊢
  go_enter Tryz.func8, Tryz.ntmps8
  go_wp2
  go_ret2
  exact ⟨rfl, HB.out⟩
set_option maxHeartbeats 1000000 in
theorem rbseal_head (v : Value) (h : Hd) (s : ByteArray) (hs : s.size = 448) (he : ¬ h.err = 0) (hi : hdInt h) (w : World) : Calls Tryz.prog 8 #[v, .agg h.arr, .string s] w fun e w' => e = .returned (.tuple #[.string ⟨#[]⟩, .int .i64 h.err]) ∧ Below w.heap.size w w' := by
  have hs' : (s.size : Int) = 448 := by omega
  have he' : (h.err != 0) = true := bne_iff_ne.2 he
  have hh := fun w => rbhead_any h hi w
  have HB : Hid (Below w.heap.size w (w.alloc (.cells h.arr 23))) := (Below.refl _ _).alloc (Nat.le_refl _) _
  simp only [Hd.arr] at HB ⊢
  generalize h.txt = t at *
  generalize h.err = E at *
  go_enter Tryz.func8, Tryz.ntmps8
  go_wp2_with fail
  refine (hh _).mono ?_
  rintro e w1 ⟨rfl, hb1⟩
  have HB2 : Hid (Below w.heap.size w w1) := HB.out.trans (hb1.mono (by simp))
  clear hb1 HB hh
  go_wp2
  go_ret2
  exact ⟨rfl, HB2.out⟩
set_option maxHeartbeats 2000000 in
theorem rbseal_gen (v : Value) (h : Hd) (s T : ByteArray) (E : Int) (P : World → Prop) (w : World) (hs : s.size = 448) (he : h.err = 0) (hi : hdInt h) (hT : T.size ≤ 1000000)
    (hv : ∀ w', Below w.heap.size w w' → Calls Tryz.prog 18 #[v, .int .i64 h.v7, .string h.nonce, .string h.txt, .string s] w' fun e w'' => e = .returned (.tuple #[.string T, .int .i64 E]) ∧ P w'' ∧ ∀ k, w.heap.size ≤ k → k < w'.heap.size → w''.heap[k]? = w'.heap[k]?) :
    Calls Tryz.prog 8 #[v, .agg h.arr, .string s] w fun e w' => e = .returned (.tuple #[.string (if E = 0 then h.txt ++ T else ⟨#[]⟩), .int .i64 E]) ∧ P w' := by
  have hs' : (s.size : Int) = 448 := by omega
  have hh := fun w => rbhead_any h hi w
  have hn := fun w => rnonce_any h he hi w
  have ht := hd_size he
  have HB : Hid (Below w.heap.size w (w.alloc (.cells h.arr 23))) := (Below.refl _ _).alloc (Nat.le_refl _) _
  rw [he] at hh
  simp only [Hd.arr] at HB hn ⊢
  clear he
  generalize h.txt = t at *
  generalize h.nonce = n at *
  have hadd : (t ++ T).size ≤ maxLen := by rw [ByteArray.size_append]; unfold maxLen; omega
  by_cases hE : E = 0
  case' pos => subst hE; simp only [if_true]
  case' neg => have hE' : (E != 0) = true := bne_iff_ne.2 hE; simp only [hE, if_false]
  all_goals
    go_enter Tryz.func8, Tryz.ntmps8
    go_wp2_with fail
    refine (hh _).mono ?_
    rintro e w1 ⟨rfl, hb1⟩
    have c0 := cells_kept hb1 0 _ rfl
    have c1 := cells_kept hb1 1 _ rfl
    have c2 := cells_kept hb1 2 _ rfl
    have c3 := cells_kept hb1 3 _ rfl
    have c4 := cells_kept hb1 4 _ rfl
    have c5 := cells_kept hb1 5 _ rfl
    have c6 := cells_kept hb1 6 _ rfl
    have c7 := cells_kept hb1 7 _ rfl
    have HB2 : Hid (Below w.heap.size w w1) := HB.out.trans (hb1.mono (by simp))
    have hlt : w.heap.size < w1.heap.size := by have := hb1.size; simp at this; omega
    clear hb1 HB hh
    go_wp2_with fail
    go_region_held3 (fun w' => w'.cell? ⟨w.heap.size, 0, none⟩ = some (.int .i64 h.v0) ∧ w'.cell? ⟨w.heap.size, 1, none⟩ = some (.int .i64 h.v1) ∧ w'.cell? ⟨w.heap.size, 2, none⟩ = some (.int .i64 h.v2) ∧ w'.cell? ⟨w.heap.size, 3, none⟩ = some (.int .i64 h.v3) ∧ w'.cell? ⟨w.heap.size, 4, none⟩ = some (.int .i64 h.v4) ∧ w'.cell? ⟨w.heap.size, 5, none⟩ = some (.int .i64 h.v5) ∧ w'.cell? ⟨w.heap.size, 6, none⟩ = some (.int .i64 h.v6) ∧ w'.cell? ⟨w.heap.size, 7, none⟩ = some (.int .i64 h.v7)) (simp [go_sem, *])
      (first | (go_at_call 19; refine (hn _).mono ?_; rintro e wA ⟨rfl, hbA⟩; have HA : Hid (Below w.heap.size w wA) := HB2.out.drew.trans (hbA.mono HB2.out.size); have hk : ∀ i, wA.cell? ⟨w.heap.size, i, none⟩ = w1.cell? ⟨w.heap.size, i, none⟩ := fun i => hbA.cell (p := ⟨w.heap.size, i, none⟩) hlt) | (go_at_call 18; refine (hv _ HA.out).mono ?_; rintro e wB ⟨rfl, hP, hK⟩; have hk2 : ∀ i, wB.cell? ⟨w.heap.size, i, none⟩ = w1.cell? ⟨w.heap.size, i, none⟩ := fun i => (World.cell?_of_block (a := ⟨w.heap.size, i, none⟩) (hK w.heap.size (Nat.le_refl _) (Nat.lt_of_lt_of_le hlt hbA.size))).trans (hk i)))
    all_goals
      have HP : Hid (P wB) := hP
      clear hP hK hk hk2 hbA HA c0 c1 c2 c3 c4 c5 c6 c7
      go_wp2
      go_ret2
      exact ⟨rfl, HP.out⟩
theorem rbseal_any (B : Nat) (F : Nat → Prop) (S : VS) (h : Hd) (s : ByteArray) (hi : hdInt h) (hl : S.seals.length ≤ 1000000) (w : World) (hp : RefV w F B S) :
    Calls Tryz.prog 8 #[.pointer (some ⟨B, 0, none⟩), .agg h.arr, .string s] w fun e w' => e = .returned (.tuple #[.string (bsealS S h s), .int .i64 (bsealE h s)]) ∧ RefV w' (grow F w w') B (bsealP S h s) ∧ Touch F w w' := by
  by_cases hs : s.size = 448
  case neg =>
    have hB : bsealB h s = false := by simp [bsealB, hs]
    have e1 : bsealS S h s = ⟨#[]⟩ := by simp [bsealS, hB]
    have e2 : bsealE h s = 1 := by simp [bsealE, hs]
    have e3 : bsealP S h s = S := by simp [bsealP, hB]
    rw [e1, e2, e3]
    exact (rbseal_short _ h s hs w).mono fun e w' ⟨he, hb⟩ => ⟨he, (hp.below hb).mono fun k _ hF => .inl hF, Touch.of_below hb⟩
  by_cases he : h.err = 0
  case neg =>
    have hB : bsealB h s = false := by simp [bsealB, he]
    have e1 : bsealS S h s = ⟨#[]⟩ := by simp [bsealS, hB]
    have e2 : bsealE h s = h.err := by simp [bsealE, hs]
    have e3 : bsealP S h s = S := by simp [bsealP, hB]
    rw [e1, e2, e3]
    exact (rbseal_head _ h s hs he hi w).mono fun e w' ⟨he, hb⟩ => ⟨he, (hp.below hb).mono fun k _ hF => .inl hF, Touch.of_below hb⟩
  have hB : bsealB h s = true := by simp [bsealB, hs, he]
  have e1 : bsealS S h s = h.txt ++ sealS S h.v7 h.nonce h.txt s := by simp [bsealS, hB, sealS, fit_hd he, blkS, Hd.four]
  have e2 : bsealE h s = 0 := by simp [bsealE, hs, he]
  have e3 : bsealP S h s = sealP S h.v7 h.nonce h.txt s := by simp [bsealP, hB, sealP, fit_hd he, Hd.four]
  rw [e1, e2, e3]
  have hE : sealE h.v7 h.nonce = 0 := by simp [sealE, fit_hd he]
  have hz : (sealS S h.v7 h.nonce h.txt s).size ≤ 1000000 := by
    have hn : numOf (addN S.seals ⟨h.v7, h.nonce, h.txt, s⟩) ⟨h.v7, h.nonce, h.txt, s⟩ < 281474976710656 := by
      have h1 := numOf_le (⟨h.v7, h.nonce, h.txt, s⟩ : Four) (addN S.seals ⟨h.v7, h.nonce, h.txt, s⟩)
      have h2 := addN_length S.seals (⟨h.v7, h.nonce, h.txt, s⟩ : Four)
      omega
    unfold sealS
    rw [fit_hd he, if_pos rfl, ByteArray.size_append, hs, wideS_size hn (by decide)]
    decide
  have hg := rbseal_gen (.pointer (some ⟨B, 0, none⟩)) h s (sealS S h.v7 h.nonce h.txt s) 0 (fun w'' => RefV w'' (grow (fun k => F k ∧ k < w.heap.size) w w'') B (sealP S h.v7 h.nonce h.txt s) ∧ Touch (fun k => F k ∧ k < w.heap.size) w w'') w hs he hi hz fun w' hb => by
    have hp' : RefV w' (fun k => F k ∧ k < w.heap.size) B S := (hp.mono fun k hk hF => ⟨hF, hk⟩).below hb
    have := rseal_any B _ S h.v7 h.nonce h.txt s (by omega) hl w' hp'
    rw [hE] at this
    refine this.mono fun e w'' ⟨h1, h2, h3⟩ => ⟨h1, ⟨h2.mono fun k _ hF => hF.elim .inl fun hg => .inr ⟨Nat.le_trans hb.size hg.1, hg.2⟩, ?_⟩, fun k hk hk2 => h3.2 k hk2 fun hF => by omega⟩
    exact ⟨(hb.mono (Nat.zero_le _)).trans h3.1, fun k hk hn => (h3.2 k (Nat.lt_of_lt_of_le hk hb.size) hn).trans (hb.block k hk)⟩
  refine hg.mono fun e w' ⟨h1, h2, h3⟩ => ⟨h1, h2.mono fun k _ hF => hF.elim (fun h => .inl h.1) .inr, h3.mono fun k hF => hF.1⟩

theorem rv_new (w : World) : RefV (w.alloc (.cells #[.bool true, .string ⟨#[]⟩, .slice none 0 0, .slice none 0 0, .slice none 0 0] 36)) (fun k => k = w.heap.size) w.heap.size newV :=
  ⟨.slice none 0 0, .slice none 0 0, .slice none 0 0, heap_alloc_new w _, World.ownsRow_nil _ _ _ _, World.ownsRow_nil _ _ _ _, World.ownsRow_nil _ _ _ _, rfl, (fun _ h => by cases h), (fun _ h => by cases h), (fun _ h => by cases h), (fun h => by cases h), (fun h => by cases h), (fun h => by cases h), (fun _ h => by cases h), (fun _ h => by cases h), (fun _ h => by cases h)⟩
end Go.Proofs.YtcefoeaakdemmaaGreatDoor
