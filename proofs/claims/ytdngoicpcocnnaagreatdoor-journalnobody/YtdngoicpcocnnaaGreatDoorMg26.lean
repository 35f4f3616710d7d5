/- A quotient, rounded up: chart's and the document's. · Where things stand, and where an index is told: chart's Layout and Place and the document's, in one form. · How many blocks the living part of a device has: the arithmetic; nothing of the program. · journal's layoutOf and Live over any device whose sectors are told. -/
import Derived.Test.YtdngoicpcocnnaaGreatDoorMg06
import Derived.BigQuiet
import Derived.Deep.RegionHeld3
namespace Go.Proofs.YtdngoicpcocnnaaGreatDoor
set_option maxRecDepth 20000
open Go.RowKit

theorem up_num (a s : Nat) (ha : a ≤ 6000000) (hs : 0 < s) (hs2 : s ≤ 1000) : ∃ k d : Nat, (a : Int) + s - 1 = (k : Int) ∧ k ≤ 6001000 ∧ (k : Int) / (s : Int) = (d : Int) ∧ d ≤ 6001000 ∧ d = (a + s - 1) / s :=
  ⟨a + s - 1, (a + s - 1) / s, by omega, by omega, by norm_cast, Nat.le_trans (Nat.div_le_self _ _) (by omega), rfl⟩
theorem roundUp_any (a s : Nat) (ha : a ≤ 6000000) (hs : 0 < s) (hs2 : s ≤ 1000) (w : World) :
    Calls Tryz.prog 92 #[.int .i64 (a : Int), .int .i64 (s : Int)] w fun e w' => e = .returned (.int .i64 (((a + s - 1) / s : Nat) : Int)) ∧ w' = w := by
  have h0 : (s : Int) ≠ 0 := by omega
  obtain ⟨k, d, h1, h2, h3, h4, h5⟩ := up_num a s ha hs hs2
  rw [← h5]
  clear h5
  go_enter Tryz.func92, Tryz.ntmps92
  go_wp2
  go_ret
  exact ⟨rfl, rfl⟩
theorem rup_any (a s : Nat) (ha : a ≤ 6000000) (hs : 0 < s) (hs2 : s ≤ 1000) (w : World) :
    Calls Tryz.prog 61 #[.int .i64 (a : Int), .int .i64 (s : Int)] w fun e w' => e = .returned (.int .i64 (((a + s - 1) / s : Nat) : Int)) ∧ w' = w := by
  have h0 : (s : Int) ≠ 0 := by omega
  obtain ⟨k, d, h1, h2, h3, h4, h5⟩ := up_num a s ha hs hs2
  rw [← h5]
  clear h5
  go_enter Tryz.func61, Tryz.ntmps61
  go_wp2
  go_ret
  exact ⟨rfl, rfl⟩
end Go.Proofs.YtdngoicpcocnnaaGreatDoor

namespace Go.Proofs.YtdngoicpcocnnaaGreatDoor
set_option maxRecDepth 20000
open Go.RowKit

/-- A layout's cells: n the living part, q its inodes, s the blocks of lost+found, t those of a plan's list. -/
def layA (n q s t : Nat) : Array Value := #[.int .i64 (n : Int), .int .i64 2, .int .i64 3, .int .i64 27, .int .i64 28, .int .i64 29, .int .i64 (q : Int), .int .i64 (29 + (q : Int)), .int .i64 (s : Int), .int .i64 (29 + (q : Int) + (s : Int)), .int .i64 (29 + (q : Int) + (s : Int) + 1), .int .i64 (n : Int), .int .i64 ((n : Int) + 1), .int .i64 (t : Int), .int .i64 ((n : Int) + 1 + (t : Int)), .int .i64 ((n : Int) + 1 + (t : Int) + (n : Int))]
def layZ : Array Value := #[.int .i64 0, .int .i64 0, .int .i64 0, .int .i64 0, .int .i64 0, .int .i64 0, .int .i64 0, .int .i64 0, .int .i64 0, .int .i64 0, .int .i64 0, .int .i64 0, .int .i64 0, .int .i64 0, .int .i64 0, .int .i64 0]
def layQ (n : Nat) : Nat := n / 8
def layS (n : Nat) : Nat := (n / 8 + 16 - 1) / 16
def layT (n : Nat) : Nat := (n + 64 - 1) / 64
/-- Layout's answer. -/
theorem lay_ret (tmps : Array Value) (w w' : World) (y : Int) (cs : Array Value) (h1 : tmps.getD 2 undef = .pointer (some ⟨w.heap.size, 0, none⟩)) (h3 : tmps.getD 3 undef = .int .i64 y) (hg : w'.heap[w.heap.size]? = some (.cells cs 71 (0, 0))) (hs : cs.size = 16) (hb : Below w.heap.size w w') :
    bodyPost Tryz.prog Tryz.f59 (fun e w'' => e = .returned (.tuple #[.agg cs, .int .i64 y]) ∧ Below w.heap.size w w'') .ret { tmps := tmps, defers := [] } w' := by
  have hr := run_loadVar_row (P := Tryz.prog) w' w.heap.size 71 71 cs (0, 0) _ hg Tryz.underlying71 rfl (by rw [hs]; kernel_rfl)
  simp at h1 h3
  exact bodyPost_ret (v := .tuple #[.agg cs, .int .i64 y]) (by simp [results, Tryz.results59, asAddr, hr, h1, h3]) rfl ⟨rfl, hb⟩
theorem layout_bad (n : Int) (hn : n < 48 ∨ 1024 < n) (w : World) :
    Calls Tryz.prog 59 #[.int .i64 n] w fun e w' => e = .returned (.tuple #[.agg layZ, .int .i64 1]) ∧ Below w.heap.size w w' := by
  unfold layZ
  rcases hn with h | h
  · go_enter Tryz.func59, Tryz.ntmps59
    go_wp2
    exact lay_ret _ w _ 1 _ rfl rfl (heap_alloc_new w _) rfl ((Below.refl _ _).alloc (Nat.le_refl _) _)
  · have h0 : ¬ n < 48 := by omega
    go_enter Tryz.func59, Tryz.ntmps59
    go_wp2
    exact lay_ret _ w _ 1 _ rfl rfl (heap_alloc_new w _) rfl ((Below.refl _ _).alloc (Nat.le_refl _) _)
set_option maxHeartbeats 2000000 in
theorem layout_any (n : Nat) (h0 : 48 ≤ n) (h1 : n ≤ 1024) (w : World) :
    Calls Tryz.prog 59 #[.int .i64 (n : Int)] w fun e w' => e = .returned (.tuple #[.agg (layA n (layQ n) (layS n) (layT n)), .int .i64 0]) ∧ Below w.heap.size w w' := by
  have i0 : ¬ (n : Int) < 48 := by omega
  have i1 : ¬ (1024 : Int) < n := by omega
  have r1 := roundUp_any (n / 8) 16 (by omega) (by decide) (by decide)
  have r2 := roundUp_any n 64 (by omega) (by decide) (by decide)
  have d1 : (n : Int) / 8 = ((layQ n : Nat) : Int) := rfl
  have b1 : layQ n ≤ 128 := by unfold layQ; omega
  have b2 : layS n ≤ 9 := by unfold layS; omega
  have b3 : layT n ≤ 17 := by unfold layT; omega
  rw [show n / 8 = layQ n from rfl, show (layQ n + 16 - 1) / 16 = layS n from rfl] at r1
  rw [show (n + 64 - 1) / 64 = layT n from rfl] at r2
  generalize layQ n = q at *
  generalize layS n = s at *
  generalize layT n = t at *
  go_enter Tryz.func59, Tryz.ntmps59
  go_wp2_with fail
  refine (r1 _).mono ?_
  rintro e w1 ⟨rfl, rfl⟩
  go_wp2_with fail
  refine (r2 _).mono ?_
  rintro e w1 ⟨rfl, rfl⟩
  go_wp2_with fail
  exact lay_ret _ w _ 0 (layA n q s t) rfl rfl (heap_alloc2_old w _ _) rfl (((Below.refl _ _).alloc (Nat.le_refl _) _).alloc (by simp) _)
/-- What Layout tells. -/
def layV (n : Int) : Array Value := if 48 ≤ n ∧ n ≤ 1024 then layA n.toNat (layQ n.toNat) (layS n.toNat) (layT n.toNat) else layZ
def clayE (n : Int) : Int := if 48 ≤ n ∧ n ≤ 1024 then 0 else 1
theorem layout_all (n : Int) (w : World) : Calls Tryz.prog 59 #[.int .i64 n] w fun e w' => e = .returned (.tuple #[.agg (layV n), .int .i64 (clayE n)]) ∧ Below w.heap.size w w' := by
  unfold layV clayE
  by_cases h : 48 ≤ n ∧ n ≤ 1024
  · rw [if_pos h, if_pos h]
    obtain ⟨m, rfl⟩ : ∃ m : Nat, n = m := ⟨n.toNat, by omega⟩
    exact layout_any m (by omega) (by omega) w
  · rw [if_neg h, if_neg h]
    exact layout_bad n (by omega) w
end Go.Proofs.YtdngoicpcocnnaaGreatDoor

namespace Go.Proofs.YtdngoicpcocnnaaGreatDoor
set_option maxRecDepth 20000
open Go.RowKit

/-- How many blocks a layout takes in all. -/
def totI (n : Nat) : Int := (n : Int) + 1 + (layT n : Int) + (n : Int)
def lvGo (s : Int) : Nat → Nat → Option Nat
  | 0, _ => none
  | f + 1, k => if totI k * 8 = s then some k else lvGo s f (k + 1)
/-- The living part of so many sectors, if there is one. -/
def liveO (s : Int) : Option Nat := lvGo s 977 48
theorem lvGo_some {s : Int} : ∀ {f k m : Nat}, lvGo s f k = some m → k ≤ m ∧ m < k + f ∧ totI m * 8 = s
  | 0, k, m, h => by cases h
  | f + 1, k, m, h => by
    unfold lvGo at h
    split at h
    · next e => simp at h; subst h; exact ⟨Nat.le_refl _, by omega, e⟩
    · have := lvGo_some h; omega
theorem liveO_some {s : Int} {m : Nat} (h : liveO s = some m) : 48 ≤ m ∧ m ≤ 1024 ∧ totI m * 8 = s := by
  have := lvGo_some h; omega
theorem totI_lt {a b : Nat} (h : a < b) : totI a < totI b := by
  have : layT a ≤ layT b := Nat.div_le_div_right (by omega)
  unfold totI; omega
theorem totI_inj {a b : Nat} (h : totI a = totI b) : a = b := by
  rcases Nat.lt_trichotomy a b with h1 | h1 | h1
  · have := totI_lt h1; omega
  · exact h1
  · have := totI_lt h1; omega
theorem lvGo_hit {n : Nat} : ∀ {f k : Nat}, k ≤ n → n < k + f → lvGo (totI n * 8) f k = some n
  | 0, k, h1, h2 => by omega
  | f + 1, k, h1, h2 => by
    unfold lvGo
    by_cases e : k = n
    · subst e; rw [if_pos rfl]
    · rw [if_neg (fun h => e (totI_inj (by omega)))]
      exact lvGo_hit (by omega) (by omega)
theorem liveO_of {n : Nat} (h1 : 48 ≤ n) (h2 : n ≤ 1024) : liveO (totI n * 8) = some n := lvGo_hit h1 (by omega)
theorem totI_bound {n : Nat} (h : n ≤ 1024) : 0 ≤ totI n ∧ totI n ≤ 2100 := by
  have : layT n ≤ 17 := by unfold layT; omega
  unfold totI; omega
/-- What layoutOf tells of so many sectors. -/
def loA (s : Int) : Array Value := match liveO s with | some n => layA n (layQ n) (layS n) (layT n) | none => layZ
def loE (s : Int) : Int := match liveO s with | some _ => 0 | none => 30
def loN (s : Int) : Int := match liveO s with | some n => (n : Int) | none => 0
theorem loA_one (n q s t : Nat) : (layA n q s t).all (·.oneCell') = true := by simp [layA, Value.oneCell']
end Go.Proofs.YtdngoicpcocnnaaGreatDoor

namespace Go.Proofs.YtdngoicpcocnnaaGreatDoor
set_option maxRecDepth 20000
open Go.RowKit

theorem below_setRow {B g : Nat} {w w' : World} (h : Below B w w') (hg : B ≤ g) (cs : Array Value) : Below B w (w'.setRow g cs) := h.trans ⟨rfl, rfl, rfl, by simp [World.setRow], fun k hk => setRow_other _ _ _ _ (by omega)⟩
theorem lo_ret (tmps : Array Value) (g : Nat) (w' : World) (y : Int) (cs : Array Value) (R : Ending → World → Prop) (h1 : tmps.getD 2 undef = .pointer (some ⟨g, 0, none⟩)) (h3 : tmps.getD 3 undef = .int .i64 y) (hg : w'.heap[g]? = some (.cells cs 71 (0, 0))) (hs : cs.size = 16) (hR : R (.returned (.tuple #[.agg cs, .int .i64 y])) w') :
    bodyPost Tryz.prog Tryz.f27 R .ret { tmps := tmps, defers := [] } w' := by
  have hr := run_loadVar_row (P := Tryz.prog) w' g 71 71 cs (0, 0) _ hg Tryz.underlying71 rfl (by rw [hs]; kernel_rfl)
  simp at h1 h3
  exact bodyPost_ret (v := .tuple #[.agg cs, .int .i64 y]) (by simp [results, Tryz.results27, asAddr, hr, h1, h3]) rfl hR
/-- What a round of layoutOf knows. -/
structure LoR (w : World) (s : Int) (k : Nat) (wr : World) : Prop where
  lo : 48 ≤ k
  hi : k ≤ 1025
  go : liveO s = lvGo s (1025 - k) k
  below : Below w.heap.size w wr
  res : wr.heap[w.heap.size]? = some (.cells layZ 71 (0, 0))
set_option maxHeartbeats 4000000 in
theorem layoutOf_any (p : Value) (s : Int) (w : World) (hS : ∀ W, Below w.heap.size w W → Calls Tryz.prog 60 #[p] W fun e W' => e = .returned (.int .i64 s) ∧ W' = W) :
    Calls Tryz.prog 27 #[p] w fun e w' => e = .returned (.tuple #[.agg (loA s), .int .i64 (loE s)]) ∧ Below w.heap.size w w' := by
  obtain ⟨X, hX⟩ : ∃ X, X = loA s := ⟨_, rfl⟩
  obtain ⟨Y, hY⟩ : ∃ Y, Y = loE s := ⟨_, rfl⟩
  rw [← hX, ← hY]
  have HX : Hid (X = loA s ∧ Y = loE s) := ⟨hX, hY⟩
  have HS : Hid (∀ W, Below w.heap.size w W → Calls Tryz.prog 60 #[p] W fun e W' => e = .returned (.int .i64 s) ∧ W' = W) := hS
  have HI : Hid (LoR w s 48 (w.alloc (.cells layZ 71))) := ⟨Nat.le_refl _, by omega, rfl, (Below.refl _ _).alloc (Nat.le_refl _) _, heap_alloc_new w _⟩
  clear hX hY hS
  unfold layZ at HI
  go_enter Tryz.func27, Tryz.ntmps27
  go_wp2_with fail
  go_loopw [4] (fun iv wr => ∃ k : Nat, iv = .int .i64 (k : Int) ∧ Hid (LoR w s k wr)) (fun iv _ => 1025 - (intOf iv).toNat)
  case atStart => exact ⟨48, rfl, HI⟩
  case round =>
    clear HI
    obtain ⟨k, rfl, HR⟩ := hrel
    have hk := HR.out.lo
    by_cases hlt : k ≤ 1024
    · have j1 : (k : Int) ≤ 1024 := by omega
      have hl := layout_any k hk hlt
      have hT := totI_bound hlt
      have HG : Hid ((totI k * 8 = s → X = layA k (layQ k) (layS k) (layT k) ∧ Y = 0) ∧ (¬ totI k * 8 = s → liveO s = lvGo s (1025 - (k + 1)) (k + 1))) := by
        have e : liveO s = if totI k * 8 = s then some k else lvGo s (1025 - (k + 1)) (k + 1) := by rw [HR.out.go, show 1025 - k = (1025 - (k + 1)) + 1 by omega]; rfl
        refine ⟨fun h => ?_, fun h => by rw [e, if_neg h]⟩
        rw [if_pos h] at e
        rw [HX.out.1, HX.out.2, loA, loE, e]
        exact ⟨rfl, rfl⟩
      have hA1 := loA_one k (layQ k) (layS k) (layT k)
      unfold totI at hT HG
      generalize layQ k = q at *
      generalize layS k = s2 at *
      generalize layT k = tt at *
      obtain ⟨A, hA⟩ : ∃ A, A = layA k q s2 tt := ⟨_, rfl⟩
      rw [← hA] at HG hA1
      unfold layA at hl hA
      generalize (k : Int) + 1 + (tt : Int) + (k : Int) = t at *
      have hAs : A.size = 16 := by rw [hA]; rfl
      go_wp2_with fail
      refine (hl _).mono ?_
      rintro e w1 ⟨rfl, hb1⟩
      clear hl
      have hb2 : Below w.heap.size w w1 := HR.out.below.trans (hb1.mono HR.out.below.size)
      have hr2 : w1.heap[w.heap.size]? = some (.cells layZ 71 (0, 0)) := (hb1.block _ (lt_of_block HR.out.res)).trans HR.out.res
      have H1 : Hid (Below w.heap.size w w1 ∧ w1.heap[w.heap.size]? = some (.cells layZ 71 (0, 0))) := ⟨hb2, hr2⟩
      clear hb1 hb2 hr2
      have HA : Hid (A = #[.int .i64 (k : Int), .int .i64 2, .int .i64 3, .int .i64 27, .int .i64 28, .int .i64 29, .int .i64 (q : Int), .int .i64 (29 + (q : Int)), .int .i64 (s2 : Int), .int .i64 (29 + (q : Int) + (s2 : Int)), .int .i64 (29 + (q : Int) + (s2 : Int) + 1), .int .i64 (k : Int), .int .i64 ((k : Int) + 1), .int .i64 (tt : Int), .int .i64 ((k : Int) + 1 + (tt : Int)), .int .i64 t]) := hA
      clear hA
      go_wp2_with fail
      obtain ⟨w2, hw2⟩ : ∃ w2, w2 = w1.alloc (.cells #[.int .i64 (k : Int), .int .i64 2, .int .i64 3, .int .i64 27, .int .i64 28, .int .i64 29, .int .i64 (q : Int), .int .i64 (29 + (q : Int)), .int .i64 (s2 : Int), .int .i64 (29 + (q : Int) + (s2 : Int)), .int .i64 (29 + (q : Int) + (s2 : Int) + 1), .int .i64 (k : Int), .int .i64 ((k : Int) + 1), .int .i64 (tt : Int), .int .i64 ((k : Int) + 1 + (tt : Int)), .int .i64 t] 71) := ⟨_, rfl⟩
      have hb2 : Below w.heap.size w w2 := by rw [hw2]; exact H1.out.1.alloc H1.out.1.size _
      have hr2 : w2.heap[w.heap.size]? = some (.cells layZ 71 (0, 0)) := by rw [hw2]; exact (Below.heap_alloc w1 _ _ (lt_of_block H1.out.2)).trans H1.out.2
      have he2 : w2.heap[w1.heap.size]? = some (.cells A 71 (0, 0)) := by rw [hw2, HA.out]; exact heap_alloc_new w1 _
      have hne : w1.heap.size ≠ w.heap.size := by have := lt_of_block H1.out.2; omega
      rw [← hw2]
      have c15 : w2.cell? ⟨w1.heap.size, 15, none⟩ = some (.int .i64 t) := by rw [cell_of_row _ _ 15 _ _ _ he2, HA.out]; rfl
      clear hw2 HA
      generalize w1.heap.size = g at *
      have HQ : Hid (∀ n, Calls Tryz.prog 60 #[p] (w2.drewN n) fun e W' => e = .returned (.int .i64 s) ∧ W' = w2.drewN n) := fun n => HS.out _ (hb2.trans ⟨rfl, rfl, rfl, Nat.le_refl _, fun _ _ => rfl⟩)
      have H2 : Hid (Below w.heap.size w w2 ∧ w2.heap[w.heap.size]? = some (.cells layZ 71 (0, 0)) ∧ w2.heap[g]? = some (.cells A 71 (0, 0))) := ⟨hb2, hr2, he2⟩
      clear H1 hb2 hr2 he2 HS HR
      by_cases hs : t * 8 = s
      · have hs1 : decide (t * 8 = s) = true := by simp [hs]
        subst hs
        have HXY : Hid (X = A ∧ Y = 0) := HG.out.1 rfl
        clear HG
        go_quiet (first | (go_at_call 60; exact Calls.quiet_of_same (HQ.out _)))
        have hb3 : Below w.heap.size w (w2.drewN nq) := H2.out.1.trans ⟨rfl, rfl, rfl, Nat.le_refl _, fun _ _ => rfl⟩
        have hr3 : (w2.drewN nq).heap[w.heap.size]? = some (.cells layZ 71 (0, 0)) := H2.out.2.1
        have he3 : (w2.drewN nq).heap[g]? = some (.cells A 71 (0, 0)) := H2.out.2.2
        clear c15 HQ H2
        generalize w2.drewN nq = w3 at *
        go_wp2_with (first | refine wpList_load_row rfl 71 _ rfl g rfl 71 A (0, 0) _ he3 Tryz.underlying71 rfl (by rw [hAs]; kernel_rfl) ?_ | refine wpList_store_row rfl 71 _ _ rfl w.heap.size A rfl rfl 71 _ hr3 (by rw [hAs]; kernel_rfl) (by rw [hAs]; rfl) hA1 ?_)
        rw [HXY.out.1, HXY.out.2]
        exact lo_ret _ w.heap.size _ 0 A _ rfl rfl (setRow_heap _ _ _ _ _ _ hr3) hAs ⟨rfl, below_setRow hb3 (Nat.le_refl _) _⟩
      · have hs1 : (t * 8 == s) = false := by simp [hs]
        have hs2 : decide (t * 8 = s) = false := by simp [hs]
        go_quiet (first | (go_at_call 60; exact Calls.quiet_of_same (HQ.out _)))
        have HF : Hid (LoR w s (k + 1) (w2.drewN nq)) := ⟨by omega, by omega, HG.out.2 hs, H2.out.1.trans ⟨rfl, rfl, rfl, Nat.le_refl _, fun _ _ => rfl⟩, H2.out.2.1⟩
        clear c15 HQ H2 HG
        go_wp2
        go_roundw
        case rel => exact ⟨k + 1, by go_num, HF⟩
        case measure => simp [intOf]; omega
    · have j1 : ¬ (k : Int) ≤ 1024 := by omega
      have hk5 := HR.out.hi
      have HE : Hid (X = layZ ∧ Y = 30) := by
        have e : liveO s = none := by rw [HR.out.go, show 1025 - k = 0 by omega]; rfl
        rw [HX.out.1, HX.out.2, loA, loE, e]
        exact ⟨rfl, rfl⟩
      have hr3 := HR.out.res
      go_wp2_with (refine wpList_store_row rfl 71 _ _ rfl w.heap.size layZ rfl rfl 71 _ hr3 (by kernel_rfl) rfl (by simp [layZ, Value.oneCell']) ?_)
      rw [HE.out.1, HE.out.2]
      exact lo_ret _ w.heap.size _ 30 layZ _ rfl rfl (setRow_heap _ _ _ _ _ _ hr3) rfl ⟨rfl, below_setRow HR.out.below (Nat.le_refl _) _⟩
theorem live_any (p : Value) (s : Int) (w : World) (hS : ∀ W, Below w.heap.size w W → Calls Tryz.prog 60 #[p] W fun e W' => e = .returned (.int .i64 s) ∧ W' = W) :
    Calls Tryz.prog 8 #[p] w fun e w' => e = .returned (.tuple #[.int .i64 (loN s), .int .i64 (loE s)]) ∧ Below w.heap.size w w' := by
  have h1 := layoutOf_any p s w hS
  clear hS
  unfold loA loE at h1
  unfold loN loE
  cases hq : liveO s with
  | none =>
    rw [hq] at h1
    simp only [layZ] at h1
    go_enter Tryz.func8, Tryz.ntmps8
    go_wp2_with fail
    refine h1.mono ?_
    rintro e w1 ⟨rfl, hb1⟩
    have HB : Hid (Below w.heap.size w w1) := hb1
    clear hb1 h1
    go_wp2
    go_ret2
    exact ⟨rfl, HB.out.alloc HB.out.size _⟩
  | some n =>
    rw [hq] at h1
    simp only [layA] at h1
    generalize layQ n = q at *
    generalize layS n = s2 at *
    generalize layT n = tt at *
    go_enter Tryz.func8, Tryz.ntmps8
    go_wp2_with fail
    refine h1.mono ?_
    rintro e w1 ⟨rfl, hb1⟩
    have HB : Hid (Below w.heap.size w w1) := hb1
    clear hb1 h1
    go_wp2
    go_ret2
    exact ⟨rfl, HB.out.alloc HB.out.size _⟩
end Go.Proofs.YtdngoicpcocnnaaGreatDoor
