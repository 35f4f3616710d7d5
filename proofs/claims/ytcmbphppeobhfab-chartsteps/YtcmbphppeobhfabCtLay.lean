/- Where things stand, and where an index is told: chart's Layout and Place and the document's, in one form. -/
import Derived.Test.YtcmbphppeobhfabCtUp
namespace Go.Proofs.Ytcmbphppeobhfab
set_option maxRecDepth 20000
open Go.RowKit

/-- A layout's cells: n the living part, q its inodes, s the blocks of lost+found, t those of a plan's list. -/
def layA (n q s t : Nat) : Array Value := #[.int .i64 (n : Int), .int .i64 2, .int .i64 3, .int .i64 27, .int .i64 28, .int .i64 29, .int .i64 (q : Int), .int .i64 (29 + (q : Int)), .int .i64 (s : Int), .int .i64 (29 + (q : Int) + (s : Int)), .int .i64 (29 + (q : Int) + (s : Int) + 1), .int .i64 (n : Int), .int .i64 ((n : Int) + 1), .int .i64 (t : Int), .int .i64 ((n : Int) + 1 + (t : Int)), .int .i64 ((n : Int) + 1 + (t : Int) + (n : Int))]
def layZ : Array Value := #[.int .i64 0, .int .i64 0, .int .i64 0, .int .i64 0, .int .i64 0, .int .i64 0, .int .i64 0, .int .i64 0, .int .i64 0, .int .i64 0, .int .i64 0, .int .i64 0, .int .i64 0, .int .i64 0, .int .i64 0, .int .i64 0]
def layQ (n : Nat) : Nat := n / 8
def layS (n : Nat) : Nat := (n / 8 + 16 - 1) / 16
def layT (n : Nat) : Nat := (n + 64 - 1) / 64
/-- Layout's answer. -/
theorem lay_ret (tmps : Array Value) (w w' : World) (y : Int) (cs : Array Value) (h1 : tmps.getD 2 undef = .pointer (some ⟨w.heap.size, 0, none⟩)) (h3 : tmps.getD 3 undef = .int .i64 y) (hg : w'.heap[w.heap.size]? = some (.cells cs 42 (0, 0))) (hs : cs.size = 16) (hb : Below w.heap.size w w') :
    bodyPost Try.prog Try.f21 (fun e w'' => e = .returned (.tuple #[.agg cs, .int .i64 y]) ∧ Below w.heap.size w w'') .ret { tmps := tmps, defers := [] } w' := by
  have hr := run_loadVar_row (P := Try.prog) w' w.heap.size 42 42 cs (0, 0) _ hg Try.underlying42 rfl (by rw [hs]; kernel_rfl)
  simp at h1 h3
  exact bodyPost_ret (v := .tuple #[.agg cs, .int .i64 y]) (by simp [results, Try.results21, asAddr, hr, h1, h3]) rfl ⟨rfl, hb⟩
theorem layout_bad (n : Int) (hn : n < 48 ∨ 1024 < n) (w : World) :
    Calls Try.prog 21 #[.int .i64 n] w fun e w' => e = .returned (.tuple #[.agg layZ, .int .i64 1]) ∧ Below w.heap.size w w' := by
  unfold layZ
  rcases hn with h | h
  · go_enter Try.func21, Try.ntmps21
    go_wp2
    exact lay_ret _ w _ 1 _ rfl rfl (heap_alloc_new w _) rfl ((Below.refl _ _).alloc (Nat.le_refl _) _)
  · have h0 : ¬ n < 48 := by omega
    go_enter Try.func21, Try.ntmps21
    go_wp2
    exact lay_ret _ w _ 1 _ rfl rfl (heap_alloc_new w _) rfl ((Below.refl _ _).alloc (Nat.le_refl _) _)
set_option maxHeartbeats 2000000 in
theorem layout_any (n : Nat) (h0 : 48 ≤ n) (h1 : n ≤ 1024) (w : World) :
    Calls Try.prog 21 #[.int .i64 (n : Int)] w fun e w' => e = .returned (.tuple #[.agg (layA n (layQ n) (layS n) (layT n)), .int .i64 0]) ∧ Below w.heap.size w w' := by
  have i0 : ¬ (n : Int) < 48 := by omega
  have i1 : ¬ (1024 : Int) < n := by omega
  have r1 := roundUp_any (n / 8) 16 (by omega) (by decide) (by decide)
  have r2 := roundUp_any n 64 (by omega) (by decide) (by decide)
  have d1 : (n : Int) / 8 = ((layQ n : Nat) : Int) := rfl
  have b1 : layQ n ≤ 128 := by unfold layQ; omega
  have b2 : layS n ≤ 9 := by unfold layS; omega
  have b3 : layT n ≤ 17 := by unfold layT; omega
  rw [show n / 8 = layQ n from rfl, show (layQ n + 16 - 1) / 16 = layS n from rfl] at r1
  rw [show (n + 64 - 1) / 64 = layT n from rfl] at r2
  generalize layQ n = q at *
  generalize layS n = s at *
  generalize layT n = t at *
  go_enter Try.func21, Try.ntmps21
  go_wp2_with fail
  refine (r1 _).mono ?_
  rintro e w1 ⟨rfl, rfl⟩
  go_wp2_with fail
  refine (r2 _).mono ?_
  rintro e w1 ⟨rfl, rfl⟩
  go_wp2_with fail
  exact lay_ret _ w _ 0 (layA n q s t) rfl rfl (heap_alloc2_old w _ _) rfl (((Below.refl _ _).alloc (Nat.le_refl _) _).alloc (by simp) _)
/-- What Layout tells. -/
def layV (n : Int) : Array Value := if 48 ≤ n ∧ n ≤ 1024 then layA n.toNat (layQ n.toNat) (layS n.toNat) (layT n.toNat) else layZ
def layE (n : Int) : Int := if 48 ≤ n ∧ n ≤ 1024 then 0 else 1
theorem layout_all (n : Int) (w : World) : Calls Try.prog 21 #[.int .i64 n] w fun e w' => e = .returned (.tuple #[.agg (layV n), .int .i64 (layE n)]) ∧ Below w.heap.size w w' := by
  unfold layV layE
  by_cases h : 48 ≤ n ∧ n ≤ 1024
  · rw [if_pos h, if_pos h]
    obtain ⟨m, rfl⟩ : ∃ m : Nat, n = m := ⟨n.toNat, by omega⟩
    exact layout_any m (by omega) (by omega) w
  · rw [if_neg h, if_neg h]
    exact layout_bad n (by omega) w
end Go.Proofs.Ytcmbphppeobhfab
