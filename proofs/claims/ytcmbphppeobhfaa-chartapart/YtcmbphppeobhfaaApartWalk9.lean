/- The law ChartApart, called with any numbers, returns true, and changes nothing that was there. -/
import Derived.Test.YtcmbphppeobhfaaCtLaw
namespace Go.Proofs.Ytcmbphppeobhfaa
set_option maxRecDepth 20000
open Go.RowKit

theorem apart_num (n : Nat) (h0 : 48 ≤ n) (h1 : n ≤ 1024) : 29 + layQ n + layS n + 1 < n ∧ layQ n ≤ 16 * layS n ∧ layT n ≤ 17 ∧ layQ n ≤ 128 ∧ layS n ≤ 9 := by
  unfold layQ layS layT
  omega
theorem total_num (n m : Nat) (h : n ≠ m) : n + 1 + layT n + n ≠ m + 1 + layT m + m := by
  unfold layT
  omega
set_option maxHeartbeats 4000000 in
theorem apart_in (n q s t m q' s' t' : Nat) (hn : n ≤ 1024) (hm : m ≤ 1024) (a1 : (29 : Int) + q + s + 1 < n) (a2 : (q : Int) ≤ 16 * s) (a3 : t ≤ 17) (a4 : q ≤ 128) (a5 : s ≤ 9) (a6 : t' ≤ 17)
    (ht : (n = m ∧ t = t') ∨ (¬ (n : Int) = m ∧ ¬ (n : Int) + 1 + t + n = m + 1 + t' + m)) (w : World)
    (h1 : ∀ w, Calls Try.prog 9 #[.int .i64 (n : Int)] w fun e w' => e = .returned (.tuple #[.agg #[.int .i64 (n : Int), .int .i64 2, .int .i64 3, .int .i64 27, .int .i64 28, .int .i64 29, .int .i64 (q : Int), .int .i64 (29 + (q : Int)), .int .i64 (s : Int), .int .i64 (29 + (q : Int) + (s : Int)), .int .i64 (29 + (q : Int) + (s : Int) + 1), .int .i64 (n : Int), .int .i64 ((n : Int) + 1), .int .i64 (t : Int), .int .i64 ((n : Int) + 1 + (t : Int)), .int .i64 ((n : Int) + 1 + (t : Int) + (n : Int))], .int .i64 0]) ∧ Below w.heap.size w w')
    (h2 : ∀ w, Calls Try.prog 9 #[.int .i64 (m : Int)] w fun e w' => e = .returned (.tuple #[.agg #[.int .i64 (m : Int), .int .i64 2, .int .i64 3, .int .i64 27, .int .i64 28, .int .i64 29, .int .i64 (q' : Int), .int .i64 (29 + (q' : Int)), .int .i64 (s' : Int), .int .i64 (29 + (q' : Int) + (s' : Int)), .int .i64 (29 + (q' : Int) + (s' : Int) + 1), .int .i64 (m : Int), .int .i64 ((m : Int) + 1), .int .i64 (t' : Int), .int .i64 ((m : Int) + 1 + (t' : Int)), .int .i64 ((m : Int) + 1 + (t' : Int) + (m : Int))], .int .i64 0]) ∧ Below w.heap.size w w') :
    Calls Try.prog 4 #[.int .i64 (n : Int), .int .i64 (m : Int)] w fun e w' => e = .returned (.bool true) ∧ Below w.heap.size w w' := by
  go_enter Try.func4, Try.ntmps4
  go_wp2_with fail
  refine (h1 _).mono ?_
  rintro e w1 ⟨rfl, hb1⟩
  clear h1
  go_wp2_with fail
  refine (h2 _).mono ?_
  rintro e w2 ⟨rfl, hb2⟩
  clear h2
  have hc0 := (hb2.block w1.heap.size (by simp)).trans (heap_alloc_new w1 _)
  have hl0 := hb2.size
  rw [World.size_alloc] at hl0
  have hl1 : w1.heap.size < w2.heap.size := by omega
  have c0 : w2.cell? ⟨w1.heap.size, 0, none⟩ = some (.int .i64 (n : Int)) := cell_of_row _ _ _ _ _ _ hc0
  have c1 : w2.cell? ⟨w1.heap.size, 1, none⟩ = some (.int .i64 2) := cell_of_row _ _ _ _ _ _ hc0
  have c2 : w2.cell? ⟨w1.heap.size, 2, none⟩ = some (.int .i64 3) := cell_of_row _ _ _ _ _ _ hc0
  have c3 : w2.cell? ⟨w1.heap.size, 3, none⟩ = some (.int .i64 27) := cell_of_row _ _ _ _ _ _ hc0
  have c4 : w2.cell? ⟨w1.heap.size, 4, none⟩ = some (.int .i64 28) := cell_of_row _ _ _ _ _ _ hc0
  have c5 : w2.cell? ⟨w1.heap.size, 5, none⟩ = some (.int .i64 29) := cell_of_row _ _ _ _ _ _ hc0
  have c6 : w2.cell? ⟨w1.heap.size, 6, none⟩ = some (.int .i64 (q : Int)) := cell_of_row _ _ _ _ _ _ hc0
  have c7 : w2.cell? ⟨w1.heap.size, 7, none⟩ = some (.int .i64 (29 + (q : Int))) := cell_of_row _ _ _ _ _ _ hc0
  have c8 : w2.cell? ⟨w1.heap.size, 8, none⟩ = some (.int .i64 (s : Int)) := cell_of_row _ _ _ _ _ _ hc0
  have c9 : w2.cell? ⟨w1.heap.size, 9, none⟩ = some (.int .i64 (29 + (q : Int) + (s : Int))) := cell_of_row _ _ _ _ _ _ hc0
  have c10 : w2.cell? ⟨w1.heap.size, 10, none⟩ = some (.int .i64 (29 + (q : Int) + (s : Int) + 1)) := cell_of_row _ _ _ _ _ _ hc0
  have c11 : w2.cell? ⟨w1.heap.size, 11, none⟩ = some (.int .i64 (n : Int)) := cell_of_row _ _ _ _ _ _ hc0
  have c12 : w2.cell? ⟨w1.heap.size, 12, none⟩ = some (.int .i64 ((n : Int) + 1)) := cell_of_row _ _ _ _ _ _ hc0
  have c13 : w2.cell? ⟨w1.heap.size, 13, none⟩ = some (.int .i64 (t : Int)) := cell_of_row _ _ _ _ _ _ hc0
  have c14 : w2.cell? ⟨w1.heap.size, 14, none⟩ = some (.int .i64 ((n : Int) + 1 + (t : Int))) := cell_of_row _ _ _ _ _ _ hc0
  have c15 : w2.cell? ⟨w1.heap.size, 15, none⟩ = some (.int .i64 ((n : Int) + 1 + (t : Int) + (n : Int))) := cell_of_row _ _ _ _ _ _ hc0
  have HB : Hid (Below w.heap.size w (w2.alloc (.cells #[.int .i64 (m : Int), .int .i64 2, .int .i64 3, .int .i64 27, .int .i64 28, .int .i64 29, .int .i64 (q' : Int), .int .i64 (29 + (q' : Int)), .int .i64 (s' : Int), .int .i64 (29 + (q' : Int) + (s' : Int)), .int .i64 (29 + (q' : Int) + (s' : Int) + 1), .int .i64 (m : Int), .int .i64 ((m : Int) + 1), .int .i64 (t' : Int), .int .i64 ((m : Int) + 1 + (t' : Int)), .int .i64 ((m : Int) + 1 + (t' : Int) + (m : Int))] 23))) := (hb1.trans (((Below.refl _ _).alloc (Nat.le_refl _) _).mono hb1.size |>.trans (hb2.mono (by rw [World.size_alloc]; exact Nat.le_succ_of_le hb1.size)))).alloc (by have := hb1.size; omega) _
  clear hb1 hb2 hc0 hl0
  have b1 : (29 : Int) + q + s < 29 + q + s + 1 := by omega
  have b2 : (n : Int) < n + 1 := by omega
  have b3 : 8 * ((n : Int) + 1 + t + n) ≤ 32768 := by omega
  rcases ht with ⟨rfl, rfl⟩ | ⟨hne, hnt⟩
  · go_wp2_with fail
    refine (cawake_any _).mono ?_
    rintro e w4 ⟨rfl, hb4⟩
    have HF : Hid (Below w.heap.size w w4) := HB.out.trans (hb4.mono HB.out.size)
    clear HB hb4 c0 c1 c2 c3 c4 c5 c6 c7 c8 c9 c10 c11 c12 c13 c14 c15
    go_wp2
    go_ret
    exact ⟨rfl, HF.out⟩
  · have e1 := beq_false_of_ne hne
    have e2 := beq_false_of_ne hnt
    go_wp2_with fail
    refine (cawake_any _).mono ?_
    rintro e w4 ⟨rfl, hb4⟩
    have HF : Hid (Below w.heap.size w w4) := HB.out.trans (hb4.mono HB.out.size)
    clear HB hb4 c0 c1 c2 c3 c4 c5 c6 c7 c8 c9 c10 c11 c12 c13 c14 c15
    go_wp2
    go_ret
    exact ⟨rfl, HF.out⟩
theorem layE_in {n : Int} (h : 48 ≤ n ∧ n ≤ 1024) : layE n = 0 := if_pos h
theorem layE_out {n : Int} (h : ¬ (48 ≤ n ∧ n ≤ 1024)) : layE n = 1 := if_neg h
theorem layV_form (n : Int) : ∃ x0 x1 x2 x3 x4 x5 x6 x7 x8 x9 x10 x11 x12 x13 x14 x15 : Int, layV n = #[.int .i64 x0, .int .i64 x1, .int .i64 x2, .int .i64 x3, .int .i64 x4, .int .i64 x5, .int .i64 x6, .int .i64 x7, .int .i64 x8, .int .i64 x9, .int .i64 x10, .int .i64 x11, .int .i64 x12, .int .i64 x13, .int .i64 x14, .int .i64 x15] := by
  unfold layV
  split
  · exact ⟨_, _, _, _, _, _, _, _, _, _, _, _, _, _, _, _, rfl⟩
  · exact ⟨_, _, _, _, _, _, _, _, _, _, _, _, _, _, _, _, rfl⟩
set_option maxHeartbeats 2000000 in
theorem apart_out (n m y z : Int) (hyz : (y = 0 ∧ z = 1) ∨ y = 1) (x0 x1 x2 x3 x4 x5 x6 x7 x8 x9 x10 x11 x12 x13 x14 x15 y0 y1 y2 y3 y4 y5 y6 y7 y8 y9 y10 y11 y12 y13 y14 y15 : Int) (w : World)
    (h1 : ∀ w, Calls Try.prog 9 #[.int .i64 n] w fun e w' => e = .returned (.tuple #[.agg #[.int .i64 x0, .int .i64 x1, .int .i64 x2, .int .i64 x3, .int .i64 x4, .int .i64 x5, .int .i64 x6, .int .i64 x7, .int .i64 x8, .int .i64 x9, .int .i64 x10, .int .i64 x11, .int .i64 x12, .int .i64 x13, .int .i64 x14, .int .i64 x15], .int .i64 y]) ∧ Below w.heap.size w w')
    (h2 : ∀ w, Calls Try.prog 9 #[.int .i64 m] w fun e w' => e = .returned (.tuple #[.agg #[.int .i64 y0, .int .i64 y1, .int .i64 y2, .int .i64 y3, .int .i64 y4, .int .i64 y5, .int .i64 y6, .int .i64 y7, .int .i64 y8, .int .i64 y9, .int .i64 y10, .int .i64 y11, .int .i64 y12, .int .i64 y13, .int .i64 y14, .int .i64 y15], .int .i64 z]) ∧ Below w.heap.size w w') :
    Calls Try.prog 4 #[.int .i64 n, .int .i64 m] w fun e w' => e = .returned (.bool true) ∧ Below w.heap.size w w' := by
  go_enter Try.func4, Try.ntmps4
  go_wp2_with fail
  refine (h1 _).mono ?_
  rintro e w1 ⟨rfl, hb1⟩
  clear h1
  go_wp2_with fail
  refine (h2 _).mono ?_
  rintro e w2 ⟨rfl, hb2⟩
  clear h2
  have HB : Hid (Below w.heap.size w (w2.alloc (.cells #[.int .i64 y0, .int .i64 y1, .int .i64 y2, .int .i64 y3, .int .i64 y4, .int .i64 y5, .int .i64 y6, .int .i64 y7, .int .i64 y8, .int .i64 y9, .int .i64 y10, .int .i64 y11, .int .i64 y12, .int .i64 y13, .int .i64 y14, .int .i64 y15] 23))) := (hb1.trans (((Below.refl _ _).alloc (Nat.le_refl _) _).mono hb1.size |>.trans (hb2.mono (by rw [World.size_alloc]; exact Nat.le_succ_of_le hb1.size)))).alloc (by have := hb1.size; have := hb2.size; rw [World.size_alloc] at this; omega) _
  clear hb1 hb2
  rcases hyz with ⟨rfl, rfl⟩ | rfl
  all_goals
    go_wp2_with fail
    refine (cawake_any _).mono ?_
    rintro e w4 ⟨rfl, hb4⟩
    have HF : Hid (Below w.heap.size w w4) := HB.out.trans (hb4.mono HB.out.size)
    clear HB hb4
    go_wp2
    go_ret
    exact ⟨rfl, HF.out⟩
theorem walk_chartApart (n m : Int) (w : World) :
    Calls Try.prog 4 #[.int .i64 n, .int .i64 m] w fun e w' => e = .returned (.bool true) ∧ Below w.heap.size w w' := by
  by_cases hn : 48 ≤ n ∧ n ≤ 1024
  · by_cases hm : 48 ≤ m ∧ m ≤ 1024
    · obtain ⟨n, rfl⟩ : ∃ k : Nat, n = k := ⟨n.toNat, by omega⟩
      obtain ⟨m, rfl⟩ : ∃ k : Nat, m = k := ⟨m.toNat, by omega⟩
      obtain ⟨a1, a2, a3, a4, a5⟩ := apart_num n (by omega) (by omega)
      obtain ⟨_, _, a6, _, _⟩ := apart_num m (by omega) (by omega)
      refine apart_in n _ _ _ m _ _ _ (by omega) (by omega) (by omega) (by omega) a3 a4 a5 a6 ?_ w (layout_any n (by omega) (by omega)) (layout_any m (by omega) (by omega))
      by_cases e : n = m
      · subst e; exact .inl ⟨rfl, rfl⟩
      · exact .inr ⟨by omega, by have := total_num n m e; omega⟩
    · have h1 := layout_all n
      have h2 := layout_all m
      obtain ⟨x0, x1, x2, x3, x4, x5, x6, x7, x8, x9, x10, x11, x12, x13, x14, x15, hx⟩ := layV_form n
      obtain ⟨y0, y1, y2, y3, y4, y5, y6, y7, y8, y9, y10, y11, y12, y13, y14, y15, hy⟩ := layV_form m
      rw [hx] at h1
      rw [hy] at h2
      exact apart_out n m _ _ (.inl ⟨layE_in hn, layE_out hm⟩) _ _ _ _ _ _ _ _ _ _ _ _ _ _ _ _ _ _ _ _ _ _ _ _ _ _ _ _ _ _ _ _ w h1 h2
  · have h1 := layout_all n
    have h2 := layout_all m
    obtain ⟨x0, x1, x2, x3, x4, x5, x6, x7, x8, x9, x10, x11, x12, x13, x14, x15, hx⟩ := layV_form n
    obtain ⟨y0, y1, y2, y3, y4, y5, y6, y7, y8, y9, y10, y11, y12, y13, y14, y15, hy⟩ := layV_form m
    rw [hx] at h1
    rw [hy] at h2
    exact apart_out n m _ _ (.inr (layE_out hn)) _ _ _ _ _ _ _ _ _ _ _ _ _ _ _ _ _ _ _ _ _ _ _ _ _ _ _ _ _ _ _ _ w h1 h2
end Go.Proofs.Ytcmbphppeobhfaa
