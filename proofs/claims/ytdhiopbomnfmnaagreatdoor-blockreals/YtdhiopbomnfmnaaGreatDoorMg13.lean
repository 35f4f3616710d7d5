/- The document's Nonce and Seal of blocks: of any vault whose Seal is told. · The law BlockReals, over what sum and box tell: called with any pass phrase, head and text, it returns true, and changes nothing that was there. -/
import Derived.Test.YtdhiopbomnfmnaaGreatDoorMg10
import Derived.Test.YtdhiopbomnfmnaaGreatDoorMg12
import Derived.Test.YtdhiopbomnfmnaaGreatDoorMg04
import Derived.Test.YtdhiopbomnfmnaaGreatDoorMg05
import Derived.Test.YtdhiopbomnfmnaaGreatDoorMg06
import Derived.Test.YtdhiopbomnfmnaaGreatDoorMg11
namespace Go.Proofs.YtdhiopbomnfmnaaGreatDoor
set_option maxRecDepth 20000
open Go.RowKit Go.Lib

/-- Numbers that an int holds. -/
def hdInt (h : Hd) : Prop := IsInt h.v0 ∧ IsInt h.v1 ∧ IsInt h.v2 ∧ IsInt h.v3 ∧ IsInt h.v4 ∧ IsInt h.v5 ∧ IsInt h.v6 ∧ IsInt h.v7
theorem rbhead_any (h : Hd) (hi : hdInt h) (w : World) : Calls Tryz.prog 16 #[.agg #[.int .i64 h.v0, .int .i64 h.v1, .int .i64 h.v2, .int .i64 h.v3, .int .i64 h.v4, .int .i64 h.v5, .int .i64 h.v6, .int .i64 h.v7]] w fun e w' => e = .returned (.tuple #[.string h.txt, .int .i64 h.err]) ∧ Below w.heap.size w w' :=
  rhead_any h.v0 h.v1 h.v2 h.v3 h.v4 h.v5 h.v6 h.v7 (by
    obtain ⟨h0, h1, h2, h3, h4, h5, h6, h7⟩ := hi
    intro p hp
    simp only [headPs, List.mem_cons, List.mem_nil_iff, or_false] at hp
    rcases hp with rfl | rfl | rfl | rfl | rfl | rfl | rfl | rfl <;> (apply int_le8; assumption)) w
set_option maxHeartbeats 1000000 in
theorem rnonce_any (h : Hd) (he : h.err = 0) (hi : hdInt h) (w : World) : Calls Tryz.prog 18 #[.agg h.arr] w fun e w' => e = .returned (.string h.nonce) ∧ Below w.heap.size w w' := by
  obtain ⟨hn, hn2⟩ := nonce_eq he
  obtain ⟨u1, u2, _⟩ := hd_puts he
  have s1 := putS_len u1
  have s2 := putS_len u2
  rw [hn]
  rw [hn] at hn2
  clear hn he u1 u2
  obtain ⟨a0, a1, a2, a3, a4, a5, a6, a7⟩ := h
  simp only [Hd.arr]
  simp only at s1 s2 hn2
  have i1 : a1 ≤ 9223372036854775807 := int_le8 hi.2.1
  have i6 : a6 ≤ 9223372036854775807 := int_le8 hi.2.2.2.2.2.2.1
  have p1 := fun w => rput_any a1 4 i1 w
  have p2 := fun w => rput_any a6 6 i6 w
  generalize putS a1 4 = p at *
  generalize putS a6 6 = q at *
  have hz := noughtsS_size 2
  have hadd : ∀ w', (Op.stringOp .add p q).run Tryz.prog w' = .ok (.string (p ++ q)) w' := fun w' => run_string_add_sum (P := Tryz.prog) (w := w') _ _ (by rw [s1, s2]; decide)
  have hadd2 : ∀ w', (Op.stringOp .add (p ++ q) (noughtsS 2)).run Tryz.prog w' = .ok (.string (p ++ q ++ noughtsS 2)) w' := fun w' => run_string_add_sum (P := Tryz.prog) (w := w') _ _ (by rw [ByteArray.size_append, s1, s2, hz]; decide)
  have hno := fun w => noughts_z 2 2 rfl (by decide) w
  generalize noughtsS 2 = Z at *
  go_enter Tryz.func18, Tryz.ntmps18
  go_wp2_with fail
  refine (p1 _).mono ?_
  rintro e w1 ⟨rfl, hb1⟩
  have c6 := cells_kept hb1 6 _ rfl
  have hb1' : Below w.heap.size w w1 := ((Below.refl _ _).alloc (Nat.le_refl _) _).trans (hb1.mono (by simp))
  clear hb1
  go_wp2_with fail
  refine (p2 _).mono ?_
  rintro e w2 ⟨rfl, hb2⟩
  have hb3 : Below w.heap.size w w2 := hb1'.trans (hb2.mono hb1'.size)
  clear hb2 c6 hb1'
  go_wp2_with fail
  refine (hno _).mono ?_
  rintro e w3 ⟨rfl, hb4⟩
  have HB : Hid (Below w.heap.size w w3) := hb3.trans (hb4.mono hb3.size)
  clear hb3 hb4
  go_wp2
  go_ret
  exact ⟨rfl, HB.out⟩

set_option maxHeartbeats 1000000 in
theorem rbseal_short (v : Value) (h : Hd) (s : ByteArray) (hs : ¬ s.size = 448) (w : World) : Calls Tryz.prog 8 #[v, .agg h.arr, .string s] w fun e w' => e = .returned (.tuple #[.string ⟨#[]⟩, .int .i64 1]) ∧ Below w.heap.size w w' := by
  have hs' : ((s.size : Int) != 448) = true := bne_iff_ne.2 (by omega)
  have HB : Hid (Below w.heap.size w (w.alloc (.cells h.arr 23))) := (Below.refl _ _).alloc (Nat.le_refl _) _
  simp only [Hd.arr] at HB ⊢
  go_enter Tryz.func8, Tryz.ntmps8
  go_wp2
  go_ret2
  exact ⟨rfl, HB.out⟩
set_option maxHeartbeats 1000000 in
theorem rbseal_head (v : Value) (h : Hd) (s : ByteArray) (hs : s.size = 448) (he : ¬ h.err = 0) (hi : hdInt h) (w : World) : Calls Tryz.prog 8 #[v, .agg h.arr, .string s] w fun e w' => e = .returned (.tuple #[.string ⟨#[]⟩, .int .i64 h.err]) ∧ Below w.heap.size w w' := by
  have hs' : (s.size : Int) = 448 := by omega
  have he' : (h.err != 0) = true := bne_iff_ne.2 he
  have hh := fun w => rbhead_any h hi w
  have HB : Hid (Below w.heap.size w (w.alloc (.cells h.arr 23))) := (Below.refl _ _).alloc (Nat.le_refl _) _
  simp only [Hd.arr] at HB ⊢
  generalize h.txt = t at *
  generalize h.err = E at *
  go_enter Tryz.func8, Tryz.ntmps8
  go_wp2_with fail
  refine (hh _).mono ?_
  rintro e w1 ⟨rfl, hb1⟩
  have HB2 : Hid (Below w.heap.size w w1) := HB.out.trans (hb1.mono (by simp))
  clear hb1 HB hh
  go_wp2
  go_ret2
  exact ⟨rfl, HB2.out⟩
set_option maxHeartbeats 2000000 in
theorem rbseal_gen (v : Value) (h : Hd) (s T : ByteArray) (E : Int) (P : World → Prop) (w : World) (hs : s.size = 448) (he : h.err = 0) (hi : hdInt h) (hT : T.size ≤ 1000000)
    (hv : ∀ w', Below w.heap.size w w' → Calls Tryz.prog 17 #[v, .int .i64 h.v7, .string h.nonce, .string h.txt, .string s] w' fun e w'' => e = .returned (.tuple #[.string T, .int .i64 E]) ∧ P w'' ∧ ∀ k, w.heap.size ≤ k → k < w'.heap.size → w''.heap[k]? = w'.heap[k]?) :
    Calls Tryz.prog 8 #[v, .agg h.arr, .string s] w fun e w' => e = .returned (.tuple #[.string (if E = 0 then h.txt ++ T else ⟨#[]⟩), .int .i64 E]) ∧ P w' := by
  have hs' : (s.size : Int) = 448 := by omega
  have hh := fun w => rbhead_any h hi w
  have hn := fun w => rnonce_any h he hi w
  have ht := hd_size he
  have HB : Hid (Below w.heap.size w (w.alloc (.cells h.arr 23))) := (Below.refl _ _).alloc (Nat.le_refl _) _
  rw [he] at hh
  simp only [Hd.arr] at HB hn ⊢
  clear he
  generalize h.txt = t at *
  generalize h.nonce = n at *
  have hadd : (t ++ T).size ≤ maxLen := by rw [ByteArray.size_append]; unfold maxLen; omega
  by_cases hE : E = 0
  case' pos => subst hE; simp only [if_true]
  case' neg => have hE' : (E != 0) = true := bne_iff_ne.2 hE; simp only [hE, if_false]
  all_goals
    go_enter Tryz.func8, Tryz.ntmps8
    go_wp2_with fail
    refine (hh _).mono ?_
    rintro e w1 ⟨rfl, hb1⟩
    have c0 := cells_kept hb1 0 _ rfl
    have c1 := cells_kept hb1 1 _ rfl
    have c2 := cells_kept hb1 2 _ rfl
    have c3 := cells_kept hb1 3 _ rfl
    have c4 := cells_kept hb1 4 _ rfl
    have c5 := cells_kept hb1 5 _ rfl
    have c6 := cells_kept hb1 6 _ rfl
    have c7 := cells_kept hb1 7 _ rfl
    have HB2 : Hid (Below w.heap.size w w1) := HB.out.trans (hb1.mono (by simp))
    have hlt : w.heap.size < w1.heap.size := by have := hb1.size; simp at this; omega
    clear hb1 HB hh
    go_wp2_with fail
    go_region_held3 (fun w' => w'.cell? ⟨w.heap.size, 0, none⟩ = some (.int .i64 h.v0) ∧ w'.cell? ⟨w.heap.size, 1, none⟩ = some (.int .i64 h.v1) ∧ w'.cell? ⟨w.heap.size, 2, none⟩ = some (.int .i64 h.v2) ∧ w'.cell? ⟨w.heap.size, 3, none⟩ = some (.int .i64 h.v3) ∧ w'.cell? ⟨w.heap.size, 4, none⟩ = some (.int .i64 h.v4) ∧ w'.cell? ⟨w.heap.size, 5, none⟩ = some (.int .i64 h.v5) ∧ w'.cell? ⟨w.heap.size, 6, none⟩ = some (.int .i64 h.v6) ∧ w'.cell? ⟨w.heap.size, 7, none⟩ = some (.int .i64 h.v7)) (simp [go_sem, *])
      (first | (go_at_call 18; refine (hn _).mono ?_; rintro e wA ⟨rfl, hbA⟩; have HA : Hid (Below w.heap.size w wA) := HB2.out.drew.trans (hbA.mono HB2.out.size); have hk : ∀ i, wA.cell? ⟨w.heap.size, i, none⟩ = w1.cell? ⟨w.heap.size, i, none⟩ := fun i => hbA.cell (p := ⟨w.heap.size, i, none⟩) hlt) | (go_at_call 17; refine (hv _ HA.out).mono ?_; rintro e wB ⟨rfl, hP, hK⟩; have hk2 : ∀ i, wB.cell? ⟨w.heap.size, i, none⟩ = w1.cell? ⟨w.heap.size, i, none⟩ := fun i => (World.cell?_of_block (a := ⟨w.heap.size, i, none⟩) (hK w.heap.size (Nat.le_refl _) (Nat.lt_of_lt_of_le hlt hbA.size))).trans (hk i)))
    all_goals
      have HP : Hid (P wB) := hP
      clear hP hK hk hk2 hbA HA c0 c1 c2 c3 c4 c5 c6 c7
      go_wp2
      go_ret2
      exact ⟨rfl, HP.out⟩
theorem rbseal_any (B : Nat) (F : Nat → Prop) (S : VS) (h : Hd) (s : ByteArray) (hi : hdInt h) (hl : S.seals.length ≤ 1000000) (w : World) (hp : RefV w F B S) :
    Calls Tryz.prog 8 #[.pointer (some ⟨B, 0, none⟩), .agg h.arr, .string s] w fun e w' => e = .returned (.tuple #[.string (bsealS S h s), .int .i64 (bsealE h s)]) ∧ RefV w' (grow F w w') B (bsealP S h s) ∧ Touch F w w' := by
  by_cases hs : s.size = 448
  case neg =>
    have hB : bsealB h s = false := by simp [bsealB, hs]
    have e1 : bsealS S h s = ⟨#[]⟩ := by simp [bsealS, hB]
    have e2 : bsealE h s = 1 := by simp [bsealE, hs]
    have e3 : bsealP S h s = S := by simp [bsealP, hB]
    rw [e1, e2, e3]
    exact (rbseal_short _ h s hs w).mono fun e w' ⟨he, hb⟩ => ⟨he, (hp.below hb).mono fun k _ hF => .inl hF, Touch.of_below hb⟩
  by_cases he : h.err = 0
  case neg =>
    have hB : bsealB h s = false := by simp [bsealB, he]
    have e1 : bsealS S h s = ⟨#[]⟩ := by simp [bsealS, hB]
    have e2 : bsealE h s = h.err := by simp [bsealE, hs]
    have e3 : bsealP S h s = S := by simp [bsealP, hB]
    rw [e1, e2, e3]
    exact (rbseal_head _ h s hs he hi w).mono fun e w' ⟨he, hb⟩ => ⟨he, (hp.below hb).mono fun k _ hF => .inl hF, Touch.of_below hb⟩
  have hB : bsealB h s = true := by simp [bsealB, hs, he]
  have e1 : bsealS S h s = h.txt ++ sealS S h.v7 h.nonce h.txt s := by simp [bsealS, hB, sealS, fit_hd he, blkS, Hd.four]
  have e2 : bsealE h s = 0 := by simp [bsealE, hs, he]
  have e3 : bsealP S h s = sealP S h.v7 h.nonce h.txt s := by simp [bsealP, hB, sealP, fit_hd he, Hd.four]
  rw [e1, e2, e3]
  have hE : sealE h.v7 h.nonce = 0 := by simp [sealE, fit_hd he]
  have hz : (sealS S h.v7 h.nonce h.txt s).size ≤ 1000000 := by
    have hn : numOf (addN S.seals ⟨h.v7, h.nonce, h.txt, s⟩) ⟨h.v7, h.nonce, h.txt, s⟩ < 281474976710656 := by
      have h1 := numOf_le (⟨h.v7, h.nonce, h.txt, s⟩ : Four) (addN S.seals ⟨h.v7, h.nonce, h.txt, s⟩)
      have h2 := addN_length S.seals (⟨h.v7, h.nonce, h.txt, s⟩ : Four)
      omega
    unfold sealS
    rw [fit_hd he, if_pos rfl, ByteArray.size_append, hs, wideS_size hn (by decide)]
    decide
  have hg := rbseal_gen (.pointer (some ⟨B, 0, none⟩)) h s (sealS S h.v7 h.nonce h.txt s) 0 (fun w'' => RefV w'' (grow (fun k => F k ∧ k < w.heap.size) w w'') B (sealP S h.v7 h.nonce h.txt s) ∧ Touch (fun k => F k ∧ k < w.heap.size) w w'') w hs he hi hz fun w' hb => by
    have hp' : RefV w' (fun k => F k ∧ k < w.heap.size) B S := (hp.mono fun k hk hF => ⟨hF, hk⟩).below hb
    have := rseal_any B _ S h.v7 h.nonce h.txt s (by omega) hl w' hp'
    rw [hE] at this
    refine this.mono fun e w'' ⟨h1, h2, h3⟩ => ⟨h1, ⟨h2.mono fun k _ hF => hF.elim .inl fun hg => .inr ⟨Nat.le_trans hb.size hg.1, hg.2⟩, ?_⟩, fun k hk hk2 => h3.2 k hk2 fun hF => by omega⟩
    exact ⟨(hb.mono (Nat.zero_le _)).trans h3.1, fun k hk hn => (h3.2 k (Nat.lt_of_lt_of_le hk hb.size) hn).trans (hb.block k hk)⟩
  refine hg.mono fun e w' ⟨h1, h2, h3⟩ => ⟨h1, h2.mono fun k _ hF => hF.elim (fun h => .inl h.1) .inr, h3.mono fun k hF => hF.1⟩

theorem rv_new (w : World) : RefV (w.alloc (.cells #[.bool true, .string ⟨#[]⟩, .slice none 0 0, .slice none 0 0, .slice none 0 0] 51)) (fun k => k = w.heap.size) w.heap.size newV :=
  ⟨.slice none 0 0, .slice none 0 0, .slice none 0 0, heap_alloc_new w _, World.ownsRow_nil _ _ _ _, World.ownsRow_nil _ _ _ _, World.ownsRow_nil _ _ _ _, rfl, (fun _ h => by cases h), (fun _ h => by cases h), (fun _ h => by cases h), (fun h => by cases h), (fun h => by cases h), (fun h => by cases h), (fun _ h => by cases h), (fun _ h => by cases h), (fun _ h => by cases h)⟩
end Go.Proofs.YtdhiopbomnfmnaaGreatDoor

namespace Go.Proofs.YtdhiopbomnfmnaaGreatDoor
set_option maxRecDepth 20000
open Go.RowKit

structure Backs6 (f : PF) : Prop where
  back : ∀ k n a s : ByteArray, k.size = 32 → n.size = 12 → a.size ≤ 1048576 → s.size ≤ 1048000 → f.shutX k n = 0 ∧ f.opnX k n a (f.shut k n a s) = 0 ∧ f.opn k n a (f.shut k n a s) = s ∧ (f.shut k n a s).size = s.size + 16
/-- A block under a real vault, if it is one. -/
def brT (f : PF) (key : ByteArray) (h : Hd) (s : ByteArray) : ByteArray := f.shut (sealK f key h.v7) h.nonce h.txt s
def brS (f : PF) (key : ByteArray) (h : Hd) (s : ByteArray) : ByteArray := if bsealB h s then h.txt ++ brT f key h s else ⟨#[]⟩
theorem br_num {f : PF} (K : Backs6 f) (hz : ∀ k i, (f.exp k i).size = 32) (key : ByteArray) {h : Hd} {s : ByteArray} (he : h.err = 0) (hs : s.size = 448) : sealRE f key h.v7 h.nonce = 0 ∧ sealRS f key h.v7 h.nonce h.txt s = brT f key h s ∧ (brT f key h s).size = 464 ∧ openRE f key h.v7 h.nonce h.txt (brT f key h s) = 0 ∧ openRS f key h.v7 h.nonce h.txt (brT f key h s) = s := by
  have hf := fit_hd he
  have ht := hd_size he
  obtain ⟨k1, k2, k3, k4⟩ := K.back (sealK f key h.v7) h.nonce h.txt s (hz _ _) (nonce_eq he).2 (by omega) (by omega)
  have k5 : (brT f key h s).size = 464 := by unfold brT; omega
  refine ⟨?_, ?_, k5, ?_, ?_⟩
  · unfold sealRE; rw [hf, if_pos rfl, k1]
  · unfold sealRS; rw [hf, if_pos rfl]; rfl
  · unfold openRE; rw [hf, if_pos rfl, if_neg (by omega)]; exact k2
  · unfold openRS; rw [hf, if_pos rfl, if_neg (by omega)]; exact k3
theorem brseal_any {Tab : World → Prop} {f : PF} (P : Prims Tab f) (K : Backs6 f) (B : Nat) (key : ByteArray) (hk : key.size = 32) (h : Hd) (s : ByteArray) (w : World) (ht : Tab w) (hp : RealV w B key) :
    Calls Tryz.prog 6 #[.pointer (some ⟨B, 0, none⟩), .agg h.arr, .string s] w fun e w' => e = .returned (.tuple #[.string (brS f key h s), .int .i64 (bsealE h s)]) ∧ Below w.heap.size w w' := by
  by_cases hs : s.size = 448
  · by_cases he : h.err = 0
    · obtain ⟨n1, n2, n3, _, _⟩ := br_num K P.expz key he hs
      have e1 : brS f key h s = h.txt ++ brT f key h s := by unfold brS bsealB; rw [decide_eq_true ⟨hs, he⟩, if_pos rfl]
      have e2 : bsealE h s = 0 := by unfold bsealE; rw [if_pos hs, he]
      rw [e1, e2]
      have := bseal_gen (.pointer (some ⟨B, 0, none⟩)) h s (brT f key h s) 0 (fun w' => Below w.heap.size w w') w hs he (by omega) (fun w' hb => by
        have h1 := rvseal_any P B key h.v7 h.nonce h.txt s (by omega) (by rw [hd_size he]; decide) (by omega) w' (P.tab ht hb) (hp.below hb)
        rw [n1, n2] at h1
        exact h1.mono fun e w'' ⟨he, hb2⟩ => ⟨he, hb.trans (hb2.mono hb.size), fun k _ hk => hb2.block k hk⟩)
      rw [if_pos rfl] at this
      exact this
    · have e1 : brS f key h s = ⟨#[]⟩ := by unfold brS bsealB; rw [decide_eq_false (fun hh => he hh.2)]; rfl
      have e2 : bsealE h s = h.err := by unfold bsealE; rw [if_pos hs]
      rw [e1, e2]
      exact bseal_head _ h s hs he w
  · have e1 : brS f key h s = ⟨#[]⟩ := by unfold brS bsealB; rw [decide_eq_false (fun hh => hs hh.1)]; rfl
    have e2 : bsealE h s = 1 := by unfold bsealE; rw [if_neg hs]
    rw [e1, e2]
    exact bseal_short _ h s hs w
theorem rbrseal_any {f : PF} (P : RPrims f) (K : Backs6 f) (B : Nat) (key : ByteArray) (hk : key.size = 32) (h : Hd) (hi : hdInt h) (s : ByteArray) (w : World) (hp : RefR w B key) :
    Calls Tryz.prog 8 #[.pointer (some ⟨B, 0, none⟩), .agg h.arr, .string s] w fun e w' => e = .returned (.tuple #[.string (brS f key h s), .int .i64 (bsealE h s)]) ∧ Below w.heap.size w w' := by
  by_cases hs : s.size = 448
  · by_cases he : h.err = 0
    · obtain ⟨n1, n2, n3, _, _⟩ := br_num K P.expz key he hs
      have e1 : brS f key h s = h.txt ++ brT f key h s := by unfold brS bsealB; rw [decide_eq_true ⟨hs, he⟩, if_pos rfl]
      have e2 : bsealE h s = 0 := by unfold bsealE; rw [if_pos hs, he]
      rw [e1, e2]
      have := rbseal_gen (.pointer (some ⟨B, 0, none⟩)) h s (brT f key h s) 0 (fun w' => Below w.heap.size w w') w hs he hi (by omega) (fun w' hb => by
        have h1 := rrseal_any P B key h.v7 h.nonce h.txt s (by omega) (by rw [hd_size he]; decide) (by omega) w' (hp.keep hb)
        rw [n1, n2] at h1
        exact h1.mono fun e w'' ⟨he, hb2⟩ => ⟨he, hb.trans (hb2.mono hb.size), fun k _ hk => hb2.block k hk⟩)
      rw [if_pos rfl] at this
      exact this
    · have e1 : brS f key h s = ⟨#[]⟩ := by unfold brS bsealB; rw [decide_eq_false (fun hh => he hh.2)]; rfl
      have e2 : bsealE h s = h.err := by unfold bsealE; rw [if_pos hs]
      rw [e1, e2]
      exact rbseal_head _ h s hs he hi w
  · have e1 : brS f key h s = ⟨#[]⟩ := by unfold brS bsealB; rw [decide_eq_false (fun hh => hs hh.1)]; rfl
    have e2 : bsealE h s = 1 := by unfold bsealE; rw [if_neg hs]
    rw [e1, e2]
    exact rbseal_short _ h s hs w
theorem bropen_any {Tab : World → Prop} {f : PF} (P : Prims Tab f) (K : Backs6 f) (B : Nat) (key : ByteArray) (hk : key.size = 32) (h : Hd) (s : ByteArray) (hs : s.size = 448) (he : h.err = 0) (w : World) (ht : Tab w) (hp : RealV w B key) :
    Calls Tryz.prog 10 #[.pointer (some ⟨B, 0, none⟩), .string (brS f key h s)] w fun e w' => e = .returned (.tuple #[.agg h.arr, .string s, .int .i64 0]) ∧ Below w.heap.size w w' := by
  obtain ⟨_, _, n3, n4, n5⟩ := br_num K P.expz key he hs
  have e1 : brS f key h s = h.txt ++ brT f key h s := by unfold brS bsealB; rw [decide_eq_true ⟨hs, he⟩, if_pos rfl]
  have hz := hd_size he
  obtain ⟨c1, c2⟩ := ba_cut (b := brT f key h s) hz
  rw [n3] at c2
  have c3 : (h.txt ++ brT f key h s).size = 512 := by rw [ByteArray.size_append]; omega
  rw [e1]
  have hE : headE ((h.txt ++ brT f key h s).extract 0 48) = 0 := by rw [c1]; exact hd_headE he
  have := bopen_gen (.pointer (some ⟨B, 0, none⟩)) (h.txt ++ brT f key h s) s 0 w c3 hE (fun w' hb => by
    rw [c1, hd_reads he, c2]
    have h1 := rvopen_any P B key h.v7 h.nonce h.txt (brT f key h s) (by omega) (by omega) (by omega) w' (P.tab ht hb) (hp.below hb)
    rw [n4, n5] at h1
    exact h1)
  rw [if_pos rfl, if_pos rfl, c1, hd_reads he] at this
  exact this
set_option maxRecDepth 100000 in
set_option maxHeartbeats 4000000 in
theorem walk_blockReals_gen {Tab : World → Prop} {f : PF} (P : Prims Tab f) (Q : RPrims f) (K : Backs6 f)
    (hst : ∀ pass : ByteArray, pass.size ≤ 64 → ∃ X : ByteArray, X.size = 32 ∧ (∀ w, Tab w → Calls Tryz.prog 11 #[.string pass, .string ⟨#[115]⟩, .int .i64 1, .int .i64 32] w fun e w' => e = .returned (.tuple #[.string X, .int .i64 0]) ∧ Below w.heap.size w w') ∧ ∀ w, Calls Tryz.prog 12 #[.string pass, .string ⟨#[115]⟩, .int .i64 1, .int .i64 32] w fun e w' => e = .returned (.tuple #[.string X, .int .i64 0]) ∧ Below w.heap.size w w')
    (pass : ByteArray) (h : Hd) (s : ByteArray) (hi : hdInt h) (w : World) (ht : Tab w) :
    Calls Tryz.prog 3 #[.string pass, .agg h.arr, .string s] w fun e w' => e = .returned (.bool true) ∧ Below w.heap.size w w' := by
  have hbd := fun w => body_any s w
  have hb48 := bodyS_size s
  obtain ⟨b, hbb⟩ : ∃ b, b = bodyS s := ⟨_, rfl⟩
  rw [← hbb] at hbd hb48
  clear hbb
  have HT : Hid (∀ W, Below w.heap.size w W → Tab W) := fun W hW => P.tab ht hW
  obtain ⟨W0, hW0⟩ : ∃ W0, w.alloc (.cells #[.int .i64 h.v0, .int .i64 h.v1, .int .i64 h.v2, .int .i64 h.v3, .int .i64 h.v4, .int .i64 h.v5, .int .i64 h.v6, .int .i64 h.v7] 23) = W0 := ⟨_, rfl⟩
  have g0 : W0.heap[w.heap.size]? = some (.cells #[.int .i64 h.v0, .int .i64 h.v1, .int .i64 h.v2, .int .i64 h.v3, .int .i64 h.v4, .int .i64 h.v5, .int .i64 h.v6, .int .i64 h.v7] 23 (0, 0)) := by rw [← hW0]; exact heap_alloc_new w _
  have HB0 : Hid (Below w.heap.size w W0) := by rw [← hW0]; exact (Below.refl _ _).alloc (Nat.le_refl _) _
  have hway : (64 < pass.size ∧ ∃ u, pass.extract 0 64 = u ∧ u.size ≤ 64) ∨ ¬ 64 < pass.size := by
    by_cases hc : 64 < pass.size
    · exact .inl ⟨hc, _, rfl, by simp; omega⟩
    · exact .inr hc
  have HSL : Hid (∀ X B w', X.size = 32 → Below w.heap.size w w' → RealV w' B X → Calls Tryz.prog 6 #[.pointer (some ⟨B, 0, none⟩), .agg #[.int .i64 h.v0, .int .i64 h.v1, .int .i64 h.v2, .int .i64 h.v3, .int .i64 h.v4, .int .i64 h.v5, .int .i64 h.v6, .int .i64 h.v7], .string b] w' fun e w'' => e = .returned (.tuple #[.string (brS f X h b), .int .i64 (bsealE h b)]) ∧ Below w'.heap.size w' w'') := fun X B w' hX hb hp => brseal_any P K B X hX h b w' (HT.out w' hb) hp
  have HRS : Hid (∀ X B w', X.size = 32 → RefR w' B X → Calls Tryz.prog 8 #[.pointer (some ⟨B, 0, none⟩), .agg #[.int .i64 h.v0, .int .i64 h.v1, .int .i64 h.v2, .int .i64 h.v3, .int .i64 h.v4, .int .i64 h.v5, .int .i64 h.v6, .int .i64 h.v7], .string b] w' fun e w'' => e = .returned (.tuple #[.string (brS f X h b), .int .i64 (bsealE h b)]) ∧ Below w'.heap.size w' w'') := fun X B w' hX hp => rbrseal_any Q K B X hX h hi b w' hp
  have HOP : Hid (h.err = 0 → ∀ X B w', X.size = 32 → Below w.heap.size w w' → RealV w' B X → Calls Tryz.prog 10 #[.pointer (some ⟨B, 0, none⟩), .string (brS f X h b)] w' fun e w'' => e = .returned (.tuple #[.agg #[.int .i64 h.v0, .int .i64 h.v1, .int .i64 h.v2, .int .i64 h.v3, .int .i64 h.v4, .int .i64 h.v5, .int .i64 h.v6, .int .i64 h.v7], .string b, .int .i64 0]) ∧ Below w'.heap.size w' w'') := fun he X B w' hX hb hp => bropen_any P K B X hX h b hb48 he w' (HT.out w' hb) hp
  have HEE : Hid ((h.err = 0 ∧ bsealE h b = 0) ∨ (bsealE h b = 2 ∧ ∀ X, brS f X h b = ⟨#[]⟩)) := by
    rcases hd_err h with e | e
    · exact .inl ⟨e, by unfold bsealE; rw [if_pos hb48, e]⟩
    · refine .inr ⟨by unfold bsealE; rw [if_pos hb48, e], fun X => ?_⟩
      unfold brS bsealB
      rw [decide_eq_false (fun hh => by rw [e] at hh; exact absurd hh.2 (by decide))]
      rfl
  have HW : Hid (∀ u : ByteArray, u.size ≤ 64 → ∃ X : ByteArray, X.size = 32 ∧ (∀ w', Below w.heap.size w w' → Calls Tryz.prog 4 #[.string u, .string ⟨#[115]⟩, .int .i64 1] w' fun e w'' => ∃ B, e = .returned (.tuple #[.pointer (some ⟨B, 0, none⟩), .int .i64 0]) ∧ RealV w'' B X ∧ Below w'.heap.size w' w'') ∧ ∀ w', Calls Tryz.prog 5 #[.string u, .string ⟨#[115]⟩, .int .i64 1] w' fun e w'' => ∃ B, e = .returned (.tuple #[.pointer (some ⟨B, 0, none⟩), .int .i64 0]) ∧ RefR w'' B X ∧ Below w'.heap.size w' w'') := fun u hu => by
    obtain ⟨X, hX, h1, h2⟩ := hst u hu
    exact ⟨X, hX, fun w' hb => real_yes w' (h1 w' (HT.out w' hb)), fun w' => rreal_yes w' (h2 w')⟩
  simp only [Hd.arr]
  clear hst P Q K hi ht HT hb48
  have hres : ∀ X : ByteArray, ∃ T : ByteArray, T = brS f X h b := fun X => ⟨_, rfl⟩
  rcases hway with ⟨hc, u, hu, hz⟩ | hc
  case' inl =>
    have hc1 : (64 : Int) < pass.size := by omega
    have hc2 : (64 : Int) ≤ pass.size := by omega
  case' inr =>
    have hc1 : ¬ (64 : Int) < pass.size := by omega
    obtain ⟨u, hu, hz⟩ : ∃ u, u = pass ∧ u.size ≤ 64 := ⟨pass, rfl, by omega⟩
    subst hu
  all_goals
    obtain ⟨X, hX, k1, k2⟩ := HW.out u hz
    obtain ⟨T, hT⟩ := hres X
    obtain ⟨E, hE⟩ : ∃ E, E = bsealE h b := ⟨_, rfl⟩
    have HSL2 : Hid _ := HSL.out X
    have HRS2 : Hid _ := HRS.out X
    have HOP2 : Hid _ := fun he => HOP.out he X
    have HEE2 : Hid ((h.err = 0 ∧ E = 0) ∨ (E = 2 ∧ T = ⟨#[]⟩)) := by rw [hE, hT]; rcases HEE.out with e | e; exact .inl e; exact .inr ⟨e.1, e.2 X⟩
    clear HSL HRS HOP HEE HW hres hz
    simp only [← hT, ← hE] at HSL2 HRS2 HOP2
    clear hT hE
    go_enter Tryz.func3, Tryz.ntmps3
    go_wp2_with fail
    try rw [hW0]
    clear hW0
    refine (k1 W0 HB0.out).mono ?_
    rintro e w1 ⟨B1, rfl, hv1, hb1⟩
    clear k1
    have H1 : Hid (RealV w1 B1 X ∧ Below w.heap.size w w1) := ⟨hv1, HB0.out.trans (hb1.mono HB0.out.size)⟩
    have g1 := (hb1.block _ (lt_of_block g0)).trans g0
    clear hv1 hb1 g0 HB0
    go_wp2_with fail
    refine (k2 w1).mono ?_
    rintro e w2 ⟨B2, rfl, hv2, hb2⟩
    clear k2
    have H2 : Hid (RealV w2 B1 X ∧ RefR w2 B2 X ∧ Below w.heap.size w w2) := ⟨H1.out.1.below hb2, hv2, H1.out.2.trans (hb2.mono H1.out.2.size)⟩
    have g2 := (hb2.block _ (lt_of_block g1)).trans g1
    have l2 := lt_of_block g2
    clear hv2 hb2 g1 H1
    obtain ⟨c0, c1, c2, c3, c4, c5, c6, c7⟩ := hd_cells g2
    go_wp2_with fail
    go_region_held3 (fun w' => w'.cell? ⟨w.heap.size, 0, none⟩ = some (.int .i64 h.v0) ∧ w'.cell? ⟨w.heap.size, 1, none⟩ = some (.int .i64 h.v1) ∧ w'.cell? ⟨w.heap.size, 2, none⟩ = some (.int .i64 h.v2) ∧ w'.cell? ⟨w.heap.size, 3, none⟩ = some (.int .i64 h.v3) ∧ w'.cell? ⟨w.heap.size, 4, none⟩ = some (.int .i64 h.v4) ∧ w'.cell? ⟨w.heap.size, 5, none⟩ = some (.int .i64 h.v5) ∧ w'.cell? ⟨w.heap.size, 6, none⟩ = some (.int .i64 h.v6) ∧ w'.cell? ⟨w.heap.size, 7, none⟩ = some (.int .i64 h.v7)) (simp [go_sem, *])
      (first | (go_at_call 7; refine (hbd _).mono ?_; rintro e wA ⟨rfl, hbA⟩; have hBA : Below w2.heap.size w2 wA := (Below.refl _ _).drew.trans hbA; have hkA : ∀ i, wA.cell? ⟨w.heap.size, i, none⟩ = w2.cell? ⟨w.heap.size, i, none⟩ := cell_kept_ (hBA.block _ l2)) | (go_at_call 6; refine (HSL2.out B1 _ hX (H2.out.2.2.trans (hBA.mono H2.out.2.2.size)) (H2.out.1.below hBA)).mono ?_; rintro e wD ⟨rfl, hbD⟩; have hBD : Below w2.heap.size w2 wD := hBA.trans (hbD.mono hBA.size); have hkD : ∀ i, wD.cell? ⟨w.heap.size, i, none⟩ = w2.cell? ⟨w.heap.size, i, none⟩ := cell_kept_ (hBD.block _ l2)))
    all_goals
      have H3 : Hid (RealV wD B1 X ∧ RefR wD B2 X ∧ Below w.heap.size w wD) := ⟨H2.out.1.below hBD, H2.out.2.1.keep hBD, H2.out.2.2.trans (hBD.mono H2.out.2.2.size)⟩
      have g3 := (hBD.block _ l2).trans g2
      have l3 := lt_of_block g3
      clear hbA hBA hkA hbD hBD hkD c0 c1 c2 c3 c4 c5 c6 c7 g2 l2 H2 HSL2
      obtain ⟨c0, c1, c2, c3, c4, c5, c6, c7⟩ := hd_cells g3
      go_wp2_with fail
      go_region_held3 (fun w' => w'.cell? ⟨w.heap.size, 0, none⟩ = some (.int .i64 h.v0) ∧ w'.cell? ⟨w.heap.size, 1, none⟩ = some (.int .i64 h.v1) ∧ w'.cell? ⟨w.heap.size, 2, none⟩ = some (.int .i64 h.v2) ∧ w'.cell? ⟨w.heap.size, 3, none⟩ = some (.int .i64 h.v3) ∧ w'.cell? ⟨w.heap.size, 4, none⟩ = some (.int .i64 h.v4) ∧ w'.cell? ⟨w.heap.size, 5, none⟩ = some (.int .i64 h.v5) ∧ w'.cell? ⟨w.heap.size, 6, none⟩ = some (.int .i64 h.v6) ∧ w'.cell? ⟨w.heap.size, 7, none⟩ = some (.int .i64 h.v7)) (simp [go_sem, *])
        (first | (go_at_call 7; refine (hbd _).mono ?_; rintro e wF ⟨rfl, hbF⟩; have hBF : Below wD.heap.size wD wF := (Below.refl _ _).drew.trans hbF; have hkF : ∀ i, wF.cell? ⟨w.heap.size, i, none⟩ = wD.cell? ⟨w.heap.size, i, none⟩ := cell_kept_ (hBF.block _ l3)) | (go_at_call 8; refine (HRS2.out B2 _ hX (H3.out.2.1.keep hBF)).mono ?_; rintro e wG ⟨rfl, hbG⟩; have hBG : Below wD.heap.size wD wG := hBF.trans (hbG.mono hBF.size); have hkG : ∀ i, wG.cell? ⟨w.heap.size, i, none⟩ = wD.cell? ⟨w.heap.size, i, none⟩ := cell_kept_ (hBG.block _ l3)))
      all_goals
        have H4 : Hid (RealV wG B1 X ∧ Below w.heap.size w wG) := ⟨H3.out.1.below hBG, H3.out.2.2.trans (hBG.mono H3.out.2.2.size)⟩
        have g4 := (hBG.block _ l3).trans g3
        have l4 := lt_of_block g4
        clear hbF hBF hkF hbG hBG hkG c0 c1 c2 c3 c4 c5 c6 c7 g3 l3 H3 HRS2
        rcases HEE2.out with ⟨he, rfl⟩ | ⟨rfl, rfl⟩
        · have ho := HOP2.out he B1 wG hX H4.out.2 H4.out.1
          clear HOP2 HEE2
          go_wp2_with fail
          refine ho.mono ?_
          rintro e w5 ⟨rfl, hb5⟩
          have H5 : Hid (Below w.heap.size w w5) := H4.out.2.trans (hb5.mono H4.out.2.size)
          have g5 := (hb5.block _ l4).trans g4
          have l5 := lt_of_block g5
          obtain ⟨c0, c1, c2, c3, c4, c5, c6, c7⟩ := hd_cells g5
          have H6 : Hid (Below w.heap.size w (w5.alloc (.cells #[.int .i64 h.v0, .int .i64 h.v1, .int .i64 h.v2, .int .i64 h.v3, .int .i64 h.v4, .int .i64 h.v5, .int .i64 h.v6, .int .i64 h.v7] 23))) := H5.out.alloc (Nat.le_of_lt l5) _
          clear ho hb5 H4 g4 l4 H5 g5
          go_wp2_with fail
          refine (hbd _).mono ?_
          rintro e w7 ⟨rfl, hb7⟩
          have H7 : Hid (Below w.heap.size w w7) := H6.out.trans (hb7.mono H6.out.size)
          clear hb7 H6 c0 c1 c2 c3 c4 c5 c6 c7
          go_wp2_with fail
          refine (bawake_any _).mono ?_
          rintro e w8 ⟨rfl, hb8⟩
          have HZ : Hid (Below w.heap.size w w8) := H7.out.trans (hb8.mono H7.out.size)
          clear hb8 H7
          go_wp2
          go_ret
          exact ⟨rfl, HZ.out⟩
        · clear HOP2 HEE2 g4 l4
          go_wp2_with fail
          refine (bawake_any _).mono ?_
          rintro e w6 ⟨rfl, hb6⟩
          have HZ : Hid (Below w.heap.size w w6) := H4.out.2.trans (hb6.mono H4.out.2.size)
          clear hb6 H4
          go_wp2
          go_ret
          exact ⟨rfl, HZ.out⟩
end Go.Proofs.YtdhiopbomnfmnaaGreatDoor
