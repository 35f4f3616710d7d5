/- block's nonce, whole and Seal: of any vault whose Seal is told. -/
import Derived.Test.YtkopbpbmfdogfaaDoorBkMath
import Derived.Test.YtkopbpbmfdogfaaDoorHead
import Derived.Test.YtkopbpbmfdogfaaDoorOpenHead
namespace Go.Proofs.YtkopbpbmfdogfaaDoor
set_option maxRecDepth 20000
open Go.RowKit Go.Lib

theorem whole_any (s : ByteArray) (w : World) : Calls Tryd.prog 23 #[.string s] w fun e w' => e = .returned (.bool (decide (s.size = 512))) ∧ w' = w := by
  by_cases h : s.size = 512
  · have h' : (s.size : Int) = 512 := by omega
    rw [decide_eq_true h]
    go_enter Tryd.func23, Tryd.ntmps23
    go_wp2
    go_ret
    exact ⟨rfl, rfl⟩
  · have h' : ((s.size : Int) == 512) = false := beq_false_of_ne (by omega)
    rw [decide_eq_false h]
    go_enter Tryd.func23, Tryd.ntmps23
    go_wp2
    go_ret
    exact ⟨rfl, rfl⟩
set_option maxHeartbeats 1000000 in
theorem nonce_any (h : Hd) (w : World) : Calls Tryd.prog 13 #[.agg h.arr] w fun e w' => e = .returned (.string h.nonce) ∧ Below w.heap.size w w' := by
  obtain ⟨a0, a1, a2, a3, a4, a5, a6, a7⟩ := h
  simp only [Hd.arr, Hd.nonce, nonceS]
  have s1 : (putS a1 4).size ≤ 6 := by have := putS_le a1 4; simpa using this
  have s2 : (putS a6 6).size ≤ 6 := by have := putS_le a6 6; simpa using this
  have p1 := fun w => put_any a1 4 w
  have p2 := fun w => put_any a6 6 w
  generalize putS a1 4 = p at *
  generalize putS a6 6 = q at *
  have hadd : (p ++ q).size ≤ maxLen := by rw [ByteArray.size_append]; unfold maxLen; omega
  go_enter Tryd.func13, Tryd.ntmps13
  go_wp2_with fail
  refine (p1 _).mono ?_
  rintro e w1 ⟨rfl, hb1⟩
  have c6 := cells_kept hb1 6 _ rfl
  have hb1' : Below w.heap.size w w1 := ((Below.refl _ _).alloc (Nat.le_refl _) _).trans (hb1.mono (by simp))
  clear hb1
  go_wp2_with fail
  refine (p2 _).mono ?_
  rintro e w2 ⟨rfl, hb2⟩
  have hb3 : Below w.heap.size w w2 := hb1'.trans (hb2.mono hb1'.size)
  clear hb2 c6 hb1'
  go_wp2_with fail
  refine (pad_any (p ++ q) 12 _).mono ?_
  rintro e w3 ⟨rfl, hb4⟩
  have HB : Hid (Below w.heap.size w w3) := hb3.trans (hb4.mono hb3.size)
  clear hb3 hb4
  go_wp2
  go_ret
  exact ⟨rfl, HB.out⟩

theorem bhead_any (h : Hd) (w : World) : Calls Tryd.prog 11 #[.agg #[.int .i64 h.v0, .int .i64 h.v1, .int .i64 h.v2, .int .i64 h.v3, .int .i64 h.v4, .int .i64 h.v5, .int .i64 h.v6, .int .i64 h.v7]] w fun e w' => e = .returned (.tuple #[.string h.txt, .int .i64 h.err]) ∧ Below w.heap.size w w' := head_any h.v0 h.v1 h.v2 h.v3 h.v4 h.v5 h.v6 h.v7 w

set_option maxHeartbeats 1000000 in
theorem bseal_short (v : Value) (h : Hd) (s : ByteArray) (hs : ¬ s.size = 448) (w : World) : Calls Tryd.prog 5 #[v, .agg h.arr, .string s] w fun e w' => e = .returned (.tuple #[.string ⟨#[]⟩, .int .i64 1]) ∧ Below w.heap.size w w' := by
  have hs' : ((s.size : Int) != 448) = true := bne_iff_ne.2 (by omega)
  have HB : Hid (Below w.heap.size w (w.alloc (.cells h.arr 33))) := (Below.refl _ _).alloc (Nat.le_refl _) _
  simp only [Hd.arr] at HB ⊢
  go_enter Tryd.func5, Tryd.ntmps5
  go_wp2
  go_ret2
  exact ⟨rfl, HB.out⟩
set_option maxHeartbeats 1000000 in
theorem bseal_head (v : Value) (h : Hd) (s : ByteArray) (hs : s.size = 448) (he : ¬ h.err = 0) (w : World) : Calls Tryd.prog 5 #[v, .agg h.arr, .string s] w fun e w' => e = .returned (.tuple #[.string ⟨#[]⟩, .int .i64 h.err]) ∧ Below w.heap.size w w' := by
  have hs' : (s.size : Int) = 448 := by omega
  have he' : (h.err != 0) = true := bne_iff_ne.2 he
  have hh := fun w => bhead_any h w
  have HB : Hid (Below w.heap.size w (w.alloc (.cells h.arr 33))) := (Below.refl _ _).alloc (Nat.le_refl _) _
  simp only [Hd.arr] at HB ⊢
  generalize h.txt = t at *
  generalize h.err = E at *
  go_enter Tryd.func5, Tryd.ntmps5
  go_wp2_with fail
  refine (hh _).mono ?_
  rintro e w1 ⟨rfl, hb1⟩
  have HB2 : Hid (Below w.heap.size w w1) := HB.out.trans (hb1.mono (by simp))
  clear hb1 HB hh
  go_wp2
  go_ret2
  exact ⟨rfl, HB2.out⟩
set_option maxHeartbeats 2000000 in
theorem bseal_gen (v : Value) (h : Hd) (s T : ByteArray) (E : Int) (P : World → Prop) (w : World) (hs : s.size = 448) (he : h.err = 0) (hT : T.size ≤ 1000000)
    (hv : ∀ w', Below w.heap.size w w' → Calls Tryd.prog 12 #[v, .int .i64 h.v7, .string h.nonce, .string h.txt, .string s] w' fun e w'' => e = .returned (.tuple #[.string T, .int .i64 E]) ∧ P w'' ∧ ∀ k, w.heap.size ≤ k → k < w'.heap.size → w''.heap[k]? = w'.heap[k]?) :
    Calls Tryd.prog 5 #[v, .agg h.arr, .string s] w fun e w' => e = .returned (.tuple #[.string (if E = 0 then h.txt ++ T else ⟨#[]⟩), .int .i64 E]) ∧ P w' := by
  have hs' : (s.size : Int) = 448 := by omega
  have hh := fun w => bhead_any h w
  have hn := fun w => nonce_any h w
  have ht := hd_size he
  have HB : Hid (Below w.heap.size w (w.alloc (.cells h.arr 33))) := (Below.refl _ _).alloc (Nat.le_refl _) _
  rw [he] at hh
  simp only [Hd.arr] at HB hn ⊢
  clear he
  generalize h.txt = t at *
  generalize h.nonce = n at *
  have hadd : (t ++ T).size ≤ maxLen := by rw [ByteArray.size_append]; unfold maxLen; omega
  by_cases hE : E = 0
  case' pos => subst hE; simp only [if_true]
  case' neg => have hE' : (E != 0) = true := bne_iff_ne.2 hE; simp only [hE, if_false]
  all_goals
    go_enter Tryd.func5, Tryd.ntmps5
    go_wp2_with fail
    refine (hh _).mono ?_
    rintro e w1 ⟨rfl, hb1⟩
    have c0 := cells_kept hb1 0 _ rfl
    have c1 := cells_kept hb1 1 _ rfl
    have c2 := cells_kept hb1 2 _ rfl
    have c3 := cells_kept hb1 3 _ rfl
    have c4 := cells_kept hb1 4 _ rfl
    have c5 := cells_kept hb1 5 _ rfl
    have c6 := cells_kept hb1 6 _ rfl
    have c7 := cells_kept hb1 7 _ rfl
    have HB2 : Hid (Below w.heap.size w w1) := HB.out.trans (hb1.mono (by simp))
    have hlt : w.heap.size < w1.heap.size := by have := hb1.size; simp at this; omega
    clear hb1 HB hh
    go_wp2_with fail
    go_region_held3 (fun w' => w'.cell? ⟨w.heap.size, 0, none⟩ = some (.int .i64 h.v0) ∧ w'.cell? ⟨w.heap.size, 1, none⟩ = some (.int .i64 h.v1) ∧ w'.cell? ⟨w.heap.size, 2, none⟩ = some (.int .i64 h.v2) ∧ w'.cell? ⟨w.heap.size, 3, none⟩ = some (.int .i64 h.v3) ∧ w'.cell? ⟨w.heap.size, 4, none⟩ = some (.int .i64 h.v4) ∧ w'.cell? ⟨w.heap.size, 5, none⟩ = some (.int .i64 h.v5) ∧ w'.cell? ⟨w.heap.size, 6, none⟩ = some (.int .i64 h.v6) ∧ w'.cell? ⟨w.heap.size, 7, none⟩ = some (.int .i64 h.v7)) (simp [go_sem, *])
      (first | (go_at_call 13; refine (hn _).mono ?_; rintro e wA ⟨rfl, hbA⟩; have HA : Hid (Below w.heap.size w wA) := HB2.out.drew.trans (hbA.mono HB2.out.size); have hk : ∀ i, wA.cell? ⟨w.heap.size, i, none⟩ = w1.cell? ⟨w.heap.size, i, none⟩ := fun i => hbA.cell (p := ⟨w.heap.size, i, none⟩) hlt) | (go_at_call 12; refine (hv _ HA.out).mono ?_; rintro e wB ⟨rfl, hP, hK⟩; have hk2 : ∀ i, wB.cell? ⟨w.heap.size, i, none⟩ = w1.cell? ⟨w.heap.size, i, none⟩ := fun i => (World.cell?_of_block (a := ⟨w.heap.size, i, none⟩) (hK w.heap.size (Nat.le_refl _) (Nat.lt_of_lt_of_le hlt hbA.size))).trans (hk i)))
    all_goals
      have HP : Hid (P wB) := hP
      clear hP hK hk hk2 hbA HA c0 c1 c2 c3 c4 c5 c6 c7
      go_wp2
      go_ret2
      exact ⟨rfl, HP.out⟩
end Go.Proofs.YtkopbpbmfdogfaaDoor
