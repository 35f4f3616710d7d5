/- A quotient, rounded up: chart's and the document's. · Where things stand, and where an index is told: chart's Layout and Place and the document's, in one form. · How many blocks the living part of a device has: the arithmetic; nothing of the program. · journal's layoutOf and Live over any device whose sectors are told. · Writes: an address and bytes; lists of them. · What journal's functions tell, in plain words; nothing of the program's calls. · A step of journal: blocks that are written one behind the other, and flushed. · A device and a vault that lie apart; calls on one of them. -/
import Derived.Test.YtoopaigpjefonaaGreatDoorMg02
import Derived.BigQuiet
import Derived.Deep.RegionHeld3
import Derived.Test.YtoopaigpjefonaaGreatDoorMg06
import Derived.Deep.AppendLies
import Derived.Test.YtoopaigpjefonaaGreatDoorMg05
import Derived.Test.YtoopaigpjefonaaGreatDoorMg10
import Derived.Test.YtoopaigpjefonaaGreatDoorMg00
import Derived.Test.YtoopaigpjefonaaGreatDoorMg07
import Derived.Test.YtoopaigpjefonaaGreatDoorMg09
namespace Go.Proofs.YtoopaigpjefonaaGreatDoor
set_option maxRecDepth 20000
open Go.RowKit

theorem up_num (a s : Nat) (ha : a ≤ 6000000) (hs : 0 < s) (hs2 : s ≤ 1000) : ∃ k d : Nat, (a : Int) + s - 1 = (k : Int) ∧ k ≤ 6001000 ∧ (k : Int) / (s : Int) = (d : Int) ∧ d ≤ 6001000 ∧ d = (a + s - 1) / s :=
  ⟨a + s - 1, (a + s - 1) / s, by omega, by omega, by norm_cast, Nat.le_trans (Nat.div_le_self _ _) (by omega), rfl⟩
theorem roundUp_any (a s : Nat) (ha : a ≤ 6000000) (hs : 0 < s) (hs2 : s ≤ 1000) (w : World) :
    Calls Tryz.prog 130 #[.int .i64 (a : Int), .int .i64 (s : Int)] w fun e w' => e = .returned (.int .i64 (((a + s - 1) / s : Nat) : Int)) ∧ w' = w := by
  have h0 : (s : Int) ≠ 0 := by omega
  obtain ⟨k, d, h1, h2, h3, h4, h5⟩ := up_num a s ha hs hs2
  rw [← h5]
  clear h5
  go_enter Tryz.func130, Tryz.ntmps130
  go_wp2
  go_ret
  exact ⟨rfl, rfl⟩
theorem rup_any (a s : Nat) (ha : a ≤ 6000000) (hs : 0 < s) (hs2 : s ≤ 1000) (w : World) :
    Calls Tryz.prog 50 #[.int .i64 (a : Int), .int .i64 (s : Int)] w fun e w' => e = .returned (.int .i64 (((a + s - 1) / s : Nat) : Int)) ∧ w' = w := by
  have h0 : (s : Int) ≠ 0 := by omega
  obtain ⟨k, d, h1, h2, h3, h4, h5⟩ := up_num a s ha hs hs2
  rw [← h5]
  clear h5
  go_enter Tryz.func50, Tryz.ntmps50
  go_wp2
  go_ret
  exact ⟨rfl, rfl⟩
end Go.Proofs.YtoopaigpjefonaaGreatDoor

namespace Go.Proofs.YtoopaigpjefonaaGreatDoor
set_option maxRecDepth 20000
open Go.RowKit

/-- A layout's cells: n the living part, q its inodes, s the blocks of lost+found, t those of a plan's list. -/
def layA (n q s t : Nat) : Array Value := #[.int .i64 (n : Int), .int .i64 2, .int .i64 3, .int .i64 27, .int .i64 28, .int .i64 29, .int .i64 (q : Int), .int .i64 (29 + (q : Int)), .int .i64 (s : Int), .int .i64 (29 + (q : Int) + (s : Int)), .int .i64 (29 + (q : Int) + (s : Int) + 1), .int .i64 (n : Int), .int .i64 ((n : Int) + 1), .int .i64 (t : Int), .int .i64 ((n : Int) + 1 + (t : Int)), .int .i64 ((n : Int) + 1 + (t : Int) + (n : Int))]
def layZ : Array Value := #[.int .i64 0, .int .i64 0, .int .i64 0, .int .i64 0, .int .i64 0, .int .i64 0, .int .i64 0, .int .i64 0, .int .i64 0, .int .i64 0, .int .i64 0, .int .i64 0, .int .i64 0, .int .i64 0, .int .i64 0, .int .i64 0]
def layQ (n : Nat) : Nat := n / 8
def layS (n : Nat) : Nat := (n / 8 + 16 - 1) / 16
def layT (n : Nat) : Nat := (n + 64 - 1) / 64
/-- Layout's answer. -/
theorem lay_ret (tmps : Array Value) (w w' : World) (y : Int) (cs : Array Value) (h1 : tmps.getD 2 undef = .pointer (some ⟨w.heap.size, 0, none⟩)) (h3 : tmps.getD 3 undef = .int .i64 y) (hg : w'.heap[w.heap.size]? = some (.cells cs 51 (0, 0))) (hs : cs.size = 16) (hb : Below w.heap.size w w') :
    bodyPost Tryz.prog Tryz.f89 (fun e w'' => e = .returned (.tuple #[.agg cs, .int .i64 y]) ∧ Below w.heap.size w w'') .ret { tmps := tmps, defers := [] } w' := by
  have hr := run_loadVar_row (P := Tryz.prog) w' w.heap.size 51 51 cs (0, 0) _ hg Tryz.underlying51 rfl (by rw [hs]; kernel_rfl)
  simp at h1 h3
  exact bodyPost_ret (v := .tuple #[.agg cs, .int .i64 y]) (by simp [results, Tryz.results89, asAddr, hr, h1, h3]) rfl ⟨rfl, hb⟩
theorem layout_bad (n : Int) (hn : n < 48 ∨ 1024 < n) (w : World) :
    Calls Tryz.prog 89 #[.int .i64 n] w fun e w' => e = .returned (.tuple #[.agg layZ, .int .i64 1]) ∧ Below w.heap.size w w' := by
  unfold layZ
  rcases hn with h | h
  · go_enter Tryz.func89, Tryz.ntmps89
    go_wp2
    exact lay_ret _ w _ 1 _ rfl rfl (heap_alloc_new w _) rfl ((Below.refl _ _).alloc (Nat.le_refl _) _)
  · have h0 : ¬ n < 48 := by omega
    go_enter Tryz.func89, Tryz.ntmps89
    go_wp2
    exact lay_ret _ w _ 1 _ rfl rfl (heap_alloc_new w _) rfl ((Below.refl _ _).alloc (Nat.le_refl _) _)
set_option maxHeartbeats 2000000 in
theorem layout_any (n : Nat) (h0 : 48 ≤ n) (h1 : n ≤ 1024) (w : World) :
    Calls Tryz.prog 89 #[.int .i64 (n : Int)] w fun e w' => e = .returned (.tuple #[.agg (layA n (layQ n) (layS n) (layT n)), .int .i64 0]) ∧ Below w.heap.size w w' := by
  have i0 : ¬ (n : Int) < 48 := by omega
  have i1 : ¬ (1024 : Int) < n := by omega
  have r1 := roundUp_any (n / 8) 16 (by omega) (by decide) (by decide)
  have r2 := roundUp_any n 64 (by omega) (by decide) (by decide)
  have d1 : (n : Int) / 8 = ((layQ n : Nat) : Int) := rfl
  have b1 : layQ n ≤ 128 := by unfold layQ; omega
  have b2 : layS n ≤ 9 := by unfold layS; omega
  have b3 : layT n ≤ 17 := by unfold layT; omega
  rw [show n / 8 = layQ n from rfl, show (layQ n + 16 - 1) / 16 = layS n from rfl] at r1
  rw [show (n + 64 - 1) / 64 = layT n from rfl] at r2
  generalize layQ n = q at *
  generalize layS n = s at *
  generalize layT n = t at *
  go_enter Tryz.func89, Tryz.ntmps89
  go_wp2_with fail
  refine (r1 _).mono ?_
  rintro e w1 ⟨rfl, rfl⟩
  go_wp2_with fail
  refine (r2 _).mono ?_
  rintro e w1 ⟨rfl, rfl⟩
  go_wp2_with fail
  exact lay_ret _ w _ 0 (layA n q s t) rfl rfl (heap_alloc2_old w _ _) rfl (((Below.refl _ _).alloc (Nat.le_refl _) _).alloc (by simp) _)
/-- What Layout tells. -/
def layV (n : Int) : Array Value := if 48 ≤ n ∧ n ≤ 1024 then layA n.toNat (layQ n.toNat) (layS n.toNat) (layT n.toNat) else layZ
def clayE (n : Int) : Int := if 48 ≤ n ∧ n ≤ 1024 then 0 else 1
theorem layout_all (n : Int) (w : World) : Calls Tryz.prog 89 #[.int .i64 n] w fun e w' => e = .returned (.tuple #[.agg (layV n), .int .i64 (clayE n)]) ∧ Below w.heap.size w w' := by
  unfold layV clayE
  by_cases h : 48 ≤ n ∧ n ≤ 1024
  · rw [if_pos h, if_pos h]
    obtain ⟨m, rfl⟩ : ∃ m : Nat, n = m := ⟨n.toNat, by omega⟩
    exact layout_any m (by omega) (by omega) w
  · rw [if_neg h, if_neg h]
    exact layout_bad n (by omega) w
end Go.Proofs.YtoopaigpjefonaaGreatDoor

namespace Go.Proofs.YtoopaigpjefonaaGreatDoor
set_option maxRecDepth 20000
open Go.RowKit

/-- How many blocks a layout takes in all. -/
def totI (n : Nat) : Int := (n : Int) + 1 + (layT n : Int) + (n : Int)
def lvGo (s : Int) : Nat → Nat → Option Nat
  | 0, _ => none
  | f + 1, k => if totI k * 8 = s then some k else lvGo s f (k + 1)
/-- The living part of so many sectors, if there is one. -/
def liveO (s : Int) : Option Nat := lvGo s 977 48
theorem lvGo_some {s : Int} : ∀ {f k m : Nat}, lvGo s f k = some m → k ≤ m ∧ m < k + f ∧ totI m * 8 = s
  | 0, k, m, h => by cases h
  | f + 1, k, m, h => by
    unfold lvGo at h
    split at h
    · next e => simp at h; subst h; exact ⟨Nat.le_refl _, by omega, e⟩
    · have := lvGo_some h; omega
theorem liveO_some {s : Int} {m : Nat} (h : liveO s = some m) : 48 ≤ m ∧ m ≤ 1024 ∧ totI m * 8 = s := by
  have := lvGo_some h; omega
theorem totI_lt {a b : Nat} (h : a < b) : totI a < totI b := by
  have : layT a ≤ layT b := Nat.div_le_div_right (by omega)
  unfold totI; omega
theorem totI_inj {a b : Nat} (h : totI a = totI b) : a = b := by
  rcases Nat.lt_trichotomy a b with h1 | h1 | h1
  · have := totI_lt h1; omega
  · exact h1
  · have := totI_lt h1; omega
theorem lvGo_hit {n : Nat} : ∀ {f k : Nat}, k ≤ n → n < k + f → lvGo (totI n * 8) f k = some n
  | 0, k, h1, h2 => by omega
  | f + 1, k, h1, h2 => by
    unfold lvGo
    by_cases e : k = n
    · subst e; rw [if_pos rfl]
    · rw [if_neg (fun h => e (totI_inj (by omega)))]
      exact lvGo_hit (by omega) (by omega)
theorem liveO_of {n : Nat} (h1 : 48 ≤ n) (h2 : n ≤ 1024) : liveO (totI n * 8) = some n := lvGo_hit h1 (by omega)
theorem totI_bound {n : Nat} (h : n ≤ 1024) : 0 ≤ totI n ∧ totI n ≤ 2100 := by
  have : layT n ≤ 17 := by unfold layT; omega
  unfold totI; omega
/-- What layoutOf tells of so many sectors. -/
def loA (s : Int) : Array Value := match liveO s with | some n => layA n (layQ n) (layS n) (layT n) | none => layZ
def loE (s : Int) : Int := match liveO s with | some _ => 0 | none => 30
def loN (s : Int) : Int := match liveO s with | some n => (n : Int) | none => 0
theorem loA_one (n q s t : Nat) : (layA n q s t).all (·.oneCell') = true := by simp [layA, Value.oneCell']
end Go.Proofs.YtoopaigpjefonaaGreatDoor

namespace Go.Proofs.YtoopaigpjefonaaGreatDoor
set_option maxRecDepth 20000
open Go.RowKit

theorem below_setRow {B g : Nat} {w w' : World} (h : Below B w w') (hg : B ≤ g) (cs : Array Value) : Below B w (w'.setRow g cs) := h.trans ⟨rfl, rfl, rfl, by simp [World.setRow], fun k hk => setRow_other _ _ _ _ (by omega)⟩
theorem lo_ret (tmps : Array Value) (g : Nat) (w' : World) (y : Int) (cs : Array Value) (R : Ending → World → Prop) (h1 : tmps.getD 2 undef = .pointer (some ⟨g, 0, none⟩)) (h3 : tmps.getD 3 undef = .int .i64 y) (hg : w'.heap[g]? = some (.cells cs 51 (0, 0))) (hs : cs.size = 16) (hR : R (.returned (.tuple #[.agg cs, .int .i64 y])) w') :
    bodyPost Tryz.prog Tryz.f53 R .ret { tmps := tmps, defers := [] } w' := by
  have hr := run_loadVar_row (P := Tryz.prog) w' g 51 51 cs (0, 0) _ hg Tryz.underlying51 rfl (by rw [hs]; kernel_rfl)
  simp at h1 h3
  exact bodyPost_ret (v := .tuple #[.agg cs, .int .i64 y]) (by simp [results, Tryz.results53, asAddr, hr, h1, h3]) rfl hR
/-- What a round of layoutOf knows. -/
structure LoR (w : World) (s : Int) (k : Nat) (wr : World) : Prop where
  lo : 48 ≤ k
  hi : k ≤ 1025
  go : liveO s = lvGo s (1025 - k) k
  below : Below w.heap.size w wr
  res : wr.heap[w.heap.size]? = some (.cells layZ 51 (0, 0))
set_option maxHeartbeats 4000000 in
theorem layoutOf_any (p : Value) (s : Int) (w : World) (hS : ∀ W, Below w.heap.size w W → Calls Tryz.prog 90 #[p] W fun e W' => e = .returned (.int .i64 s) ∧ W' = W) :
    Calls Tryz.prog 53 #[p] w fun e w' => e = .returned (.tuple #[.agg (loA s), .int .i64 (loE s)]) ∧ Below w.heap.size w w' := by
  obtain ⟨X, hX⟩ : ∃ X, X = loA s := ⟨_, rfl⟩
  obtain ⟨Y, hY⟩ : ∃ Y, Y = loE s := ⟨_, rfl⟩
  rw [← hX, ← hY]
  have HX : Hid (X = loA s ∧ Y = loE s) := ⟨hX, hY⟩
  have HS : Hid (∀ W, Below w.heap.size w W → Calls Tryz.prog 90 #[p] W fun e W' => e = .returned (.int .i64 s) ∧ W' = W) := hS
  have HI : Hid (LoR w s 48 (w.alloc (.cells layZ 51))) := ⟨Nat.le_refl _, by omega, rfl, (Below.refl _ _).alloc (Nat.le_refl _) _, heap_alloc_new w _⟩
  clear hX hY hS
  unfold layZ at HI
  go_enter Tryz.func53, Tryz.ntmps53
  go_wp2_with fail
  go_loopw [4] (fun iv wr => ∃ k : Nat, iv = .int .i64 (k : Int) ∧ Hid (LoR w s k wr)) (fun iv _ => 1025 - (intOf iv).toNat)
  case atStart => exact ⟨48, rfl, HI⟩
  case round =>
    clear HI
    obtain ⟨k, rfl, HR⟩ := hrel
    have hk := HR.out.lo
    by_cases hlt : k ≤ 1024
    · have j1 : (k : Int) ≤ 1024 := by omega
      have hl := layout_any k hk hlt
      have hT := totI_bound hlt
      have HG : Hid ((totI k * 8 = s → X = layA k (layQ k) (layS k) (layT k) ∧ Y = 0) ∧ (¬ totI k * 8 = s → liveO s = lvGo s (1025 - (k + 1)) (k + 1))) := by
        have e : liveO s = if totI k * 8 = s then some k else lvGo s (1025 - (k + 1)) (k + 1) := by rw [HR.out.go, show 1025 - k = (1025 - (k + 1)) + 1 by omega]; rfl
        refine ⟨fun h => ?_, fun h => by rw [e, if_neg h]⟩
        rw [if_pos h] at e
        rw [HX.out.1, HX.out.2, loA, loE, e]
        exact ⟨rfl, rfl⟩
      have hA1 := loA_one k (layQ k) (layS k) (layT k)
      unfold totI at hT HG
      generalize layQ k = q at *
      generalize layS k = s2 at *
      generalize layT k = tt at *
      obtain ⟨A, hA⟩ : ∃ A, A = layA k q s2 tt := ⟨_, rfl⟩
      rw [← hA] at HG hA1
      unfold layA at hl hA
      generalize (k : Int) + 1 + (tt : Int) + (k : Int) = t at *
      have hAs : A.size = 16 := by rw [hA]; rfl
      go_wp2_with fail
      refine (hl _).mono ?_
      rintro e w1 ⟨rfl, hb1⟩
      clear hl
      have hb2 : Below w.heap.size w w1 := HR.out.below.trans (hb1.mono HR.out.below.size)
      have hr2 : w1.heap[w.heap.size]? = some (.cells layZ 51 (0, 0)) := (hb1.block _ (lt_of_block HR.out.res)).trans HR.out.res
      have H1 : Hid (Below w.heap.size w w1 ∧ w1.heap[w.heap.size]? = some (.cells layZ 51 (0, 0))) := ⟨hb2, hr2⟩
      clear hb1 hb2 hr2
      have HA : Hid (A = #[.int .i64 (k : Int), .int .i64 2, .int .i64 3, .int .i64 27, .int .i64 28, .int .i64 29, .int .i64 (q : Int), .int .i64 (29 + (q : Int)), .int .i64 (s2 : Int), .int .i64 (29 + (q : Int) + (s2 : Int)), .int .i64 (29 + (q : Int) + (s2 : Int) + 1), .int .i64 (k : Int), .int .i64 ((k : Int) + 1), .int .i64 (tt : Int), .int .i64 ((k : Int) + 1 + (tt : Int)), .int .i64 t]) := hA
      clear hA
      go_wp2_with fail
      obtain ⟨w2, hw2⟩ : ∃ w2, w2 = w1.alloc (.cells #[.int .i64 (k : Int), .int .i64 2, .int .i64 3, .int .i64 27, .int .i64 28, .int .i64 29, .int .i64 (q : Int), .int .i64 (29 + (q : Int)), .int .i64 (s2 : Int), .int .i64 (29 + (q : Int) + (s2 : Int)), .int .i64 (29 + (q : Int) + (s2 : Int) + 1), .int .i64 (k : Int), .int .i64 ((k : Int) + 1), .int .i64 (tt : Int), .int .i64 ((k : Int) + 1 + (tt : Int)), .int .i64 t] 51) := ⟨_, rfl⟩
      have hb2 : Below w.heap.size w w2 := by rw [hw2]; exact H1.out.1.alloc H1.out.1.size _
      have hr2 : w2.heap[w.heap.size]? = some (.cells layZ 51 (0, 0)) := by rw [hw2]; exact (Below.heap_alloc w1 _ _ (lt_of_block H1.out.2)).trans H1.out.2
      have he2 : w2.heap[w1.heap.size]? = some (.cells A 51 (0, 0)) := by rw [hw2, HA.out]; exact heap_alloc_new w1 _
      have hne : w1.heap.size ≠ w.heap.size := by have := lt_of_block H1.out.2; omega
      rw [← hw2]
      have c15 : w2.cell? ⟨w1.heap.size, 15, none⟩ = some (.int .i64 t) := by rw [cell_of_row _ _ 15 _ _ _ he2, HA.out]; rfl
      clear hw2 HA
      generalize w1.heap.size = g at *
      have HQ : Hid (∀ n, Calls Tryz.prog 90 #[p] (w2.drewN n) fun e W' => e = .returned (.int .i64 s) ∧ W' = w2.drewN n) := fun n => HS.out _ (hb2.trans ⟨rfl, rfl, rfl, Nat.le_refl _, fun _ _ => rfl⟩)
      have H2 : Hid (Below w.heap.size w w2 ∧ w2.heap[w.heap.size]? = some (.cells layZ 51 (0, 0)) ∧ w2.heap[g]? = some (.cells A 51 (0, 0))) := ⟨hb2, hr2, he2⟩
      clear H1 hb2 hr2 he2 HS HR
      by_cases hs : t * 8 = s
      · have hs1 : decide (t * 8 = s) = true := by simp [hs]
        subst hs
        have HXY : Hid (X = A ∧ Y = 0) := HG.out.1 rfl
        clear HG
        go_quiet (first | (go_at_call 90; exact Calls.quiet_of_same (HQ.out _)))
        have hb3 : Below w.heap.size w (w2.drewN nq) := H2.out.1.trans ⟨rfl, rfl, rfl, Nat.le_refl _, fun _ _ => rfl⟩
        have hr3 : (w2.drewN nq).heap[w.heap.size]? = some (.cells layZ 51 (0, 0)) := H2.out.2.1
        have he3 : (w2.drewN nq).heap[g]? = some (.cells A 51 (0, 0)) := H2.out.2.2
        clear c15 HQ H2
        generalize w2.drewN nq = w3 at *
        go_wp2_with (first | refine wpList_load_row rfl 51 _ rfl g rfl 51 A (0, 0) _ he3 Tryz.underlying51 rfl (by rw [hAs]; kernel_rfl) ?_ | refine wpList_store_row rfl 51 _ _ rfl w.heap.size A rfl rfl 51 _ hr3 (by rw [hAs]; kernel_rfl) (by rw [hAs]; rfl) hA1 ?_)
        rw [HXY.out.1, HXY.out.2]
        exact lo_ret _ w.heap.size _ 0 A _ rfl rfl (setRow_heap _ _ _ _ _ _ hr3) hAs ⟨rfl, below_setRow hb3 (Nat.le_refl _) _⟩
      · have hs1 : (t * 8 == s) = false := by simp [hs]
        have hs2 : decide (t * 8 = s) = false := by simp [hs]
        go_quiet (first | (go_at_call 90; exact Calls.quiet_of_same (HQ.out _)))
        have HF : Hid (LoR w s (k + 1) (w2.drewN nq)) := ⟨by omega, by omega, HG.out.2 hs, H2.out.1.trans ⟨rfl, rfl, rfl, Nat.le_refl _, fun _ _ => rfl⟩, H2.out.2.1⟩
        clear c15 HQ H2 HG
        go_wp2
        go_roundw
        case rel => exact ⟨k + 1, by go_num, HF⟩
        case measure => simp [intOf]; omega
    · have j1 : ¬ (k : Int) ≤ 1024 := by omega
      have hk5 := HR.out.hi
      have HE : Hid (X = layZ ∧ Y = 30) := by
        have e : liveO s = none := by rw [HR.out.go, show 1025 - k = 0 by omega]; rfl
        rw [HX.out.1, HX.out.2, loA, loE, e]
        exact ⟨rfl, rfl⟩
      have hr3 := HR.out.res
      go_wp2_with (refine wpList_store_row rfl 51 _ _ rfl w.heap.size layZ rfl rfl 51 _ hr3 (by kernel_rfl) rfl (by simp [layZ, Value.oneCell']) ?_)
      rw [HE.out.1, HE.out.2]
      exact lo_ret _ w.heap.size _ 30 layZ _ rfl rfl (setRow_heap _ _ _ _ _ _ hr3) rfl ⟨rfl, below_setRow HR.out.below (Nat.le_refl _) _⟩
theorem live_any (p : Value) (s : Int) (w : World) (hS : ∀ W, Below w.heap.size w W → Calls Tryz.prog 90 #[p] W fun e W' => e = .returned (.int .i64 s) ∧ W' = W) :
    Calls Tryz.prog 63 #[p] w fun e w' => e = .returned (.tuple #[.int .i64 (loN s), .int .i64 (loE s)]) ∧ Below w.heap.size w w' := by
  have h1 := layoutOf_any p s w hS
  clear hS
  unfold loA loE at h1
  unfold loN loE
  cases hq : liveO s with
  | none =>
    rw [hq] at h1
    simp only [layZ] at h1
    go_enter Tryz.func63, Tryz.ntmps63
    go_wp2_with fail
    refine h1.mono ?_
    rintro e w1 ⟨rfl, hb1⟩
    have HB : Hid (Below w.heap.size w w1) := hb1
    clear hb1 h1
    go_wp2
    go_ret2
    exact ⟨rfl, HB.out.alloc HB.out.size _⟩
  | some n =>
    rw [hq] at h1
    simp only [layA] at h1
    generalize layQ n = q at *
    generalize layS n = s2 at *
    generalize layT n = tt at *
    go_enter Tryz.func63, Tryz.ntmps63
    go_wp2_with fail
    refine h1.mono ?_
    rintro e w1 ⟨rfl, hb1⟩
    have HB : Hid (Below w.heap.size w w1) := hb1
    clear hb1 h1
    go_wp2
    go_ret2
    exact ⟨rfl, HB.out.alloc HB.out.size _⟩
end Go.Proofs.YtoopaigpjefonaaGreatDoor

namespace Go.Proofs.YtoopaigpjefonaaGreatDoor
set_option maxRecDepth 20000
open Go.RowKit

structure Wt where
  at_ : Int
  raw : ByteArray
instance : Inhabited Wt := ⟨⟨0, ⟨#[]⟩⟩⟩
def Wt.cells (x : Wt) : List Value := [.int .i64 x.at_, .string x.raw]
structure WtAt (W : World) (g o : Nat) (x : Wt) : Prop where
  c0 : W.cell? ⟨g, o, none⟩ = some (.int .i64 x.at_)
  c1 : W.cell? ⟨g, o + 1, none⟩ = some (.string x.raw)
/-- A list of writes that lies. -/
def Wts (W : World) (v : Value) (l : List Wt) : Prop := (∃ oa cap, v = .slice oa 0 cap ∧ l = []) ∨ ∃ g o cap, v = .slice (some ⟨g, o, none⟩) l.length cap ∧ g < W.heap.size ∧ ∀ i x, l[i]? = some x → WtAt W g (o + i * 2) x
theorem Wts.form {W : World} {v : Value} {l : List Wt} (h : Wts W v l) : ∃ oa cap, v = .slice oa l.length cap := by
  rcases h with ⟨oa, cap, rfl, rfl⟩ | ⟨g, o, cap, rfl, _⟩
  · exact ⟨oa, cap, rfl⟩
  · exact ⟨_, cap, rfl⟩
theorem Wts.get {W : World} {oa : Option Addr} {cap : Nat} {l : List Wt} (h : Wts W (.slice oa l.length cap) l) {i : Nat} (hi : i < l.length) : ∃ g o, oa = some ⟨g, o, none⟩ ∧ g < W.heap.size ∧ ∀ j x, l[j]? = some x → WtAt W g (o + j * 2) x := by
  rcases h with ⟨oa', cap', e, rfl⟩ | ⟨g, o, cap', e, hg, hx⟩
  · simp at hi
  · simp only [Value.slice.injEq] at e
    exact ⟨g, o, e.1, hg, hx⟩
theorem WtAt.keep {W W' : World} {g o : Nat} {x : Wt} (h : WtAt W g o x) (k : W'.heap[g]? = W.heap[g]?) : WtAt W' g o x := ⟨(World.cell?_of_block (a := ⟨g, o, none⟩) k).trans h.c0, (World.cell?_of_block (a := ⟨g, o + 1, none⟩) k).trans h.c1⟩
theorem Wts.at {W : World} {oa : Option Addr} {cap : Nat} {l : List Wt} (h : Wts W (.slice oa l.length cap) l) {i : Nat} (hi : i < l.length) : ∃ g o, oa = some ⟨g, o, none⟩ ∧ g < W.heap.size ∧ WtAt W g (o + i * 2) l[i] := by
  obtain ⟨g, o, e, hg, hx⟩ := h.get hi
  exact ⟨g, o, e, hg, hx i _ (List.getElem?_eq_getElem hi)⟩
theorem Wts.below {w w' : World} {v : Value} {l : List Wt} (h : Wts w v l) (hb : Below w.heap.size w w') : Wts w' v l := by
  rcases h with h | ⟨g, o, cap, e, hg, hx⟩
  · exact .inl h
  · exact .inr ⟨g, o, cap, e, Nat.lt_of_lt_of_le hg hb.size, fun i x hi => (hx i x hi).keep (hb.block g hg)⟩
/-- The block in which a list of writes lies, if it has one. -/
def Wts.Out (v : Value) (F : Nat → Prop) : Prop := ∀ g o len cap, v = .slice (some ⟨g, o, none⟩) len cap → ¬ F g
theorem Wts.touch {w w' : World} {v : Value} {l : List Wt} {F : Nat → Prop} (h : Wts w v l) (ht : Touch F w w') (ho : Wts.Out v F) : Wts w' v l := by
  rcases h with h | ⟨g, o, cap, e, hg, hx⟩
  · exact .inl h
  · exact .inr ⟨g, o, cap, e, Nat.lt_of_lt_of_le hg ht.1.size, fun i x hi => (hx i x hi).keep (ht.2 g hg (ho _ _ _ _ e))⟩
end Go.Proofs.YtoopaigpjefonaaGreatDoor

namespace Go.Proofs.YtoopaigpjefonaaGreatDoor
set_option maxRecDepth 20000
open Go.RowKit

/-- A superblock. -/
structure Sp where
  vol : Int
  ep : Int
  nx : Int
  lv : Int
  root : ByteArray
def Sp.arr (s : Sp) : Array Value := #[.int .i64 s.vol, .int .i64 s.ep, .int .i64 s.nx, .int .i64 s.lv, .string s.root]
def Sp.zero : Sp := ⟨0, 0, 0, 0, ⟨#[]⟩⟩
def Sp.txt (s : Sp) : ByteArray := superS s.vol s.ep s.nx s.lv s.root
def Sp.err (s : Sp) : Int := superE s.vol s.ep s.nx s.lv s.root
theorem sp_size {s : Sp} (h : s.err = 0) : s.txt.size = 448 := by
  unfold Sp.err superE at h
  split at h
  · next hr =>
    have hl := recE_zero h
    unfold Sp.txt superS
    rw [if_pos ⟨hr, hl⟩]
    have h2 := laidL_length (superPs s.vol s.ep s.nx s.lv) hl
    have h3 : s.root.data.toList.length = 32 := by rw [← hr]; simp
    show ((laidL (superPs s.vol s.ep s.nx s.lv) ++ s.root.data.toList) ++ List.replicate 394 0).toArray.size = 448
    rw [List.size_toArray, List.length_append, List.length_append, h2, h3, List.length_replicate]
    rfl
  · cases h
def spOf (t : ByteArray) : Sp := ⟨superON t 0 6, superON t 6 6, superON t 12 6, superON t 18 4, superOR t⟩
theorem superOC_arr (t : ByteArray) : superOC t = (spOf t).arr := rfl
/-- A superblock's head; what Super tells. -/
def Sp.hd (s : Sp) : Hd := ⟨s.vol, s.ep.tmod 2, 1, 0, 0, 0, s.ep, s.ep⟩
def supE (s : Sp) : Int := if s.err = 0 then bsealE s.hd s.txt else s.err
def supA (s : Sp) : Int := if supE s = 0 then s.ep.tmod 2 else 0
def supR (K : VK) (S : K.σ) (s : Sp) : ByteArray := if supE s = 0 then K.sS S s.hd s.txt else ⟨#[]⟩
def supP (K : VK) (S : K.σ) (s : Sp) : K.σ := if s.err = 0 then K.sP S s.hd s.txt else S
theorem supR_size {K : VK} (HK : VKOk K) {S : K.σ} {s : Sp} (hr : K.room S 1) (h : supE s = 0) : (supR K S s).size = 512 := by
  unfold supR
  rw [if_pos h]
  by_cases he : s.err = 0
  · unfold supE at h
    rw [if_pos he] at h
    exact HK.sSize S _ _ hr h
  · unfold supE at h
    rw [if_neg he] at h
    exact absurd h he
theorem supP_room {K : VK} (HK : VKOk K) {S : K.σ} {s : Sp} {n : Nat} (hr : K.room S (n + 1)) : K.room (supP K S s) n := by
  unfold supP
  split
  · exact HK.sRoom hr
  · exact HK.less hr (Nat.le_succ n)
/-- A reading. -/
structure Rg where
  ok : Bool
  h : Hd
  body : ByteArray
def Rg.arr (r : Rg) : Array Value := readA r.ok r.h r.body
def Rg.zero : Rg := ⟨false, Hd.zero, ⟨#[]⟩⟩
def toldR (K : VK) (S : K.σ) (r : ByteArray) (a : Int) : Rg := if K.oE S r = 0 ∧ (K.oH S r).v1 = a then ⟨true, K.oH S r, K.oS S r⟩ else Rg.zero
theorem toldR_arr (K : VK) (S : K.σ) (r : ByteArray) (a : Int) : toldK K S r a = (toldR K S r a).arr := by
  unfold toldK toldR
  split <;> rfl
def loadR (K : VK) (S : PS) (T : K.σ) (a : Int) : Rg := if (bget S a).1.2.2 = 0 ∧ (bget S a).1.2.1 = 0 then toldR K T (bget S a).1.1 a else Rg.zero
def lookR (K : VK) (T : K.σ) (raws : List ByteArray) (masks : List Int) (a : Int) : Rg := if atM raws masks a = 0 then toldR K T (atS raws masks a) a else Rg.zero
theorem lookR_arr (K : VK) (T : K.σ) (raws : List ByteArray) (masks : List Int) (a : Int) : lookK K T raws masks a = (lookR K T raws masks a).arr := by
  unfold lookK lookR
  split
  · exact toldR_arr K T _ a
  · rfl
/-- The superblock that a slot's reading is. -/
def sinB (r : Rg) (slot live : Int) : Bool := decide (r.ok = true ∧ r.h.v2 = 1 ∧ superOE r.body = 0 ∧ (spOf r.body).ep.tmod 2 = slot ∧ (spOf r.body).lv = live)
def sinS (r : Rg) (slot live : Int) : Sp := if sinB r slot live then spOf r.body else Sp.zero
/-- The one that is chosen behind j slots. -/
def chN (l : List Rg) (live : Int) : Nat → Option Sp
  | 0 => none
  | j + 1 => match l[j]? with
    | some r => if sinB r j live = true ∧ (∀ b, chN l live j = some b → b.ep < (spOf r.body).ep) then some (spOf r.body) else chN l live j
    | none => chN l live j
def chO (l : List Rg) (live : Int) : Option Sp := chN l live (min 2 l.length)
def osp (o : Option Sp) : Sp := o.getD Sp.zero
/-- A block's head is one of its address. -/
def hdB (x : Wt) : Bool := decide (x.raw.size = 512 ∧ headE (x.raw.extract 0 48) = 0 ∧ (hdOf (x.raw.extract 0 48)).v1 = x.at_)
def togB (least live : Int) : List Wt → Bool
  | [] => true
  | x :: l => decide (least ≤ x.at_ ∧ x.at_ < live) && hdB x && togB (x.at_ + 1) live l
def recsL (log : Int) : Nat → List Wt → List Wt
  | _, [] => []
  | i, x :: l => ⟨log + (i : Int), x.raw⟩ :: recsL log (i + 1) l
def joinB : List Wt → ByteArray
  | [] => ⟨#[]⟩
  | x :: l => x.raw ++ joinB l
/-- The promise's head, its body, its block. -/
def Sp.hdC (s : Sp) : Hd := ⟨s.vol, 2, 2, 0, 0, 0, s.ep, s.ep⟩
def proT (K : VK) (S : K.σ) (ws : List Wt) (s : Sp) : ByteArray := padS (putS (ws.length : Int) 2 ++ K.hS S (joinB ws) ++ s.txt.extract 0 54) 448
def proE (K : VK) (S : K.σ) (ws : List Wt) (s : Sp) : Int := if s.err = 0 then bsealE s.hdC (proT K S ws s) else s.err
def proA (K : VK) (S : K.σ) (ws : List Wt) (s : Sp) : Int := if proE K S ws s = 0 then 2 else 0
def proR (K : VK) (S : K.σ) (ws : List Wt) (s : Sp) : ByteArray := if proE K S ws s = 0 then K.sS (K.hP S (joinB ws)) s.hdC (proT K S ws s) else ⟨#[]⟩
def proP (K : VK) (S : K.σ) (ws : List Wt) (s : Sp) : K.σ := if s.err = 0 then K.sP (K.hP S (joinB ws)) s.hdC (proT K S ws s) else S
/-- What a reading promises. -/
def piT (r : Rg) : ByteArray := padS (r.body.extract 34 448) 448
def piB (r : Rg) (live : Int) : Bool := decide (r.ok = true ∧ r.h.v2 = 2 ∧ getN r.body 0 2 ≤ 24 ∧ superOE (piT r) = 0 ∧ (spOf (piT r)).lv = live)
def piN (r : Rg) (live : Int) : Int := if piB r live then getN r.body 0 2 else 0
def piS (r : Rg) (live : Int) : Sp := if piB r live then spOf (piT r) else Sp.zero
/-- The records. -/
def rcdW (raws : List ByteArray) (masks : List Int) (log : Int) (i : Nat) : Wt := ⟨(hdOf ((atS raws masks (log + (i : Int))).extract 0 48)).v1, atS raws masks (log + (i : Int))⟩
def rcdL (raws : List ByteArray) (masks : List Int) (log : Int) (n : Nat) : List Wt := (List.range n).map (rcdW raws masks log)
def rcdB (raws : List ByteArray) (masks : List Int) (log : Int) (n : Nat) : Bool := (List.range n).all fun i => decide (atM raws masks (log + (i : Int)) = 0)
end Go.Proofs.YtoopaigpjefonaaGreatDoor

namespace Go.Proofs.YtoopaigpjefonaaGreatDoor
set_option maxRecDepth 20000
open Go.RowKit

def takeE : List Wt → PS → Int
  | [], S => flushE S
  | x :: l, S => if bputE S x.at_ x.raw = 0 then takeE l (bputP S x.at_ x.raw) else bputE S x.at_ x.raw
def takeP : List Wt → PS → PS
  | [], S => flushP S
  | x :: l, S => if bputE S x.at_ x.raw = 0 then takeP l (bputP S x.at_ x.raw) else bputP S x.at_ x.raw
theorem putGo_wait (r : ByteArray) (a : Nat) : ∀ (n j : Nat) (S : PS), (putGo r a n j S).2.wait.length ≤ S.wait.length + n ∧ (putGo r a n j S).2.kept.length = S.kept.length
  | 0, _, S => ⟨Nat.le_refl _, rfl⟩
  | n + 1, j, S => by
    have h := writeP_len S ((8 * a + j : Nat) : Int) (secS r j)
    unfold putGo
    split
    · have := putGo_wait r a n (j + 1) (writeP S ((8 * a + j : Nat) : Int) (secS r j)); omega
    · simp only; omega
theorem bput_wait (S : PS) (a : Int) (r : ByteArray) : (bputP S a r).wait.length ≤ S.wait.length + 8 ∧ (bputP S a r).kept.length = S.kept.length := by
  unfold bputP
  split
  · split
    · exact putGo_wait _ _ _ _ _
    · exact ⟨by omega, rfl⟩
  · exact ⟨by omega, rfl⟩
/-- What a round of a step knows. -/
structure StR (w : World) (F : Nat → Prop) (B : Nat) (l : List Wt) (S : PS) (j : Nat) (wr : World) (T : PS) : Prop where
  e : takeE l S = takeE (l.drop j) T
  p : takeP l S = takeP (l.drop j) T
  plate : Plate wr (grow F w wr) B T
  touch : Touch F w wr
  wait : T.wait.length ≤ S.wait.length + 8 * j
  err : ErrT wr
theorem ErrT.lt {w : World} (h : ErrT w) : 3 < w.heap.size := lt_of_cell_ h
theorem ErrT.touch {w w' : World} {F : Nat → Prop} (h : ErrT w) (ht : Touch F w w') (hF : ¬ F 3) : ErrT w' := (World.cell?_of_block (a := ⟨3, 0, none⟩) (ht.2 _ h.lt hF)).trans h
set_option maxHeartbeats 4000000 in
theorem take_any (v : Value) (l : List Wt) (B : Nat) (F : Nat → Prop) (S : PS) (w : World) (hv : Wts w v l) (ho : l ≠ [] → Wts.Out v F) (hp : Plate w F B S) (hw : S.wait.length + 8 * l.length ≤ 900000) (hg : ErrT w) (hF : ¬ F 3) :
    Calls Tryz.prog 68 #[v, .pointer (some ⟨B, 0, none⟩)] w fun e w' => e = .returned (.int .i64 (takeE l S)) ∧ Plate w' (grow F w w') B (takeP l S) ∧ Touch F w w' := by
  obtain ⟨oa, ca, rfl⟩ := hv.form
  obtain ⟨X, hX⟩ : ∃ X, X = takeE l S := ⟨_, rfl⟩
  obtain ⟨Y, hY⟩ : ∃ Y, Y = takeP l S := ⟨_, rfl⟩
  rw [← hX, ← hY]
  have HX : Hid (X = takeE l S ∧ Y = takeP l S) := ⟨hX, hY⟩
  have HV : Hid (Wts w (.slice oa l.length ca) l ∧ (l ≠ [] → Wts.Out (.slice oa l.length ca) F) ∧ ErrT w ∧ ¬ F 3 ∧ S.wait.length + 8 * l.length ≤ 900000) := ⟨hv, ho, hg, hF, hw⟩
  have HI : Hid (StR w F B l S 0 w S) := ⟨rfl, rfl, hp.mono fun k _ h => .inl h, Touch.refl _ _, by omega, hg⟩
  have hll : l.length ≤ 900000 := by omega
  clear hX hY hv ho hp hg hF hw
  go_enter Tryz.func68, Tryz.ntmps68
  go_wp2_with fail
  go_loopw [10] (fun iv wr => ∃ (j : Nat) (T : PS), j ≤ l.length ∧ iv = .int .i64 (j : Int) ∧ Hid (StR w F B l S j wr T)) (fun iv _ => l.length - (intOf iv).toNat)
  case atStart => exact ⟨0, S, Nat.zero_le _, rfl, HI⟩
  case round =>
    clear HI
    obtain ⟨j, T, hj, rfl, HR⟩ := hrel
    by_cases hlt : j < l.length
    · have j1 : (j : Int) < l.length := by omega
      obtain ⟨gb, o, rfl, hgb, hc⟩ := HV.out.1.at (i := j) hlt
      have hnF := HV.out.2.1 (fun h => by rw [h] at hlt; simp at hlt) _ _ _ _ rfl
      obtain ⟨c0, c1⟩ := hc.keep (HR.out.touch.2 gb hgb hnF)
      have hgw := Nat.lt_of_lt_of_le hgb HR.out.touch.size
      have hd : l.drop j = l[j] :: l.drop (j + 1) := List.drop_eq_getElem_cons hlt
      have HE : Hid (X = takeE (l[j] :: l.drop (j + 1)) T ∧ Y = takeP (l[j] :: l.drop (j + 1)) T) := by rw [← hd, HX.out.1, HX.out.2]; exact ⟨HR.out.e, HR.out.p⟩
      have HE2 : Hid (takeE l S = takeE (l[j] :: l.drop (j + 1)) T ∧ takeP l S = takeP (l[j] :: l.drop (j + 1)) T) := by rw [← hd]; exact ⟨HR.out.e, HR.out.p⟩
      clear hc hd
      generalize l[j] = x at *
      obtain ⟨a, r⟩ := x
      simp only at c0 c1
      have hb1 : Below wr.heap.size wr (wr.alloc (.cells #[.int .i64 a, .string r] 68)) := (Below.refl _ _).alloc (Nat.le_refl _) _
      have hput := bput_any B (grow F w wr) T a r _ (HR.out.plate.below hb1) (by have := HR.out.wait; have := HV.out.2.2.2.2; omega) (HR.out.err.touch (Touch.of_below hb1 (F := F)) HV.out.2.2.2.1) (fun h => by
        rcases h with h | h
        · exact HV.out.2.2.2.1 h
        · have := HV.out.2.2.1.lt; omega)
      have HW := bput_wait T a r
      go_wp2_with fail
      refine hput.mono ?_
      rintro e w2 ⟨rfl, hp2, ht2⟩
      clear hput
      have ht3 : Touch F w w2 := HR.out.touch.trans (Touch.trans (Touch.of_below hb1) (ht2.mono fun k h => .inl h))
      have hp3 : Plate w2 (grow F w w2) B (bputP T a r) := hp2.mono fun k hk h => by
        rcases h with h | h
        · rcases h with h | h
          · exact .inl h
          · exact .inr ⟨h.1, by have := hb1.size; have := ht2.size; omega⟩
        · exact .inr ⟨by have := HR.out.touch.size; have := hb1.size; omega, hk⟩
      have H2 : Hid (Touch F w w2 ∧ Plate w2 (grow F w w2) B (bputP T a r)) := ⟨ht3, hp3⟩
      clear hp2 ht2 ht3 hp3 hb1
      by_cases hz : bputE T a r = 0
      · have HF : Hid (StR w F B l S (j + 1) w2 (bputP T a r)) := ⟨by rw [HE2.out.1, takeE, if_pos hz], by rw [HE2.out.2, takeP, if_pos hz], H2.out.2, H2.out.1, by have := HR.out.wait; omega, HV.out.2.2.1.touch H2.out.1 HV.out.2.2.2.1⟩
        rw [hz]
        clear HE HE2 H2
        go_wp2
        go_roundw
        case rel => exact ⟨j + 1, _, by omega, by go_num, HF⟩
        case measure => simp [intOf]; omega
      · have HF : Hid (X = bputE T a r ∧ Y = bputP T a r) := by rw [HE.out.1, HE.out.2, takeE, takeP, if_neg hz, if_neg hz]; exact ⟨rfl, rfl⟩
        have hz1 : (bputE T a r != 0) = true := by simpa using hz
        clear HE HE2
        generalize bputE T a r = y at *
        go_wp2
        go_ret
        exact ⟨by rw [HF.out.1]; rfl, by rw [HF.out.2]; exact H2.out.2, H2.out.1⟩
    · have j1 : ¬ (j : Int) < l.length := by omega
      have hd : l.drop j = [] := List.drop_eq_nil_of_le (by omega)
      have HE : Hid (X = flushE T ∧ Y = flushP T) := by
        have e := HR.out.e
        have p := HR.out.p
        rw [hd] at e p
        rw [HX.out.1, HX.out.2, e, p]
        exact ⟨rfl, rfl⟩
      have hf := flush_any B (grow F w wr) T wr HR.out.plate (by have := HR.out.wait; have := HV.out.2.2.2.2; omega)
      clear hd
      go_wp2_with fail
      refine hf.mono ?_
      rintro e w2 ⟨rfl, hp2, ht2⟩
      have HF : Hid (Plate w2 (grow F w w2) B Y ∧ Touch F w w2) := ⟨by
        rw [HE.out.2]
        exact hp2.mono fun k hk h => by
          rcases h with h | h
          · exact .inl h
          · exact .inr ⟨h.1, hk⟩, HR.out.touch.trans ht2⟩
      rw [← HE.out.1]
      clear hf hp2 ht2
      go_wp2
      go_ret
      exact ⟨rfl, HF.out.1, HF.out.2⟩
end Go.Proofs.YtoopaigpjefonaaGreatDoor

namespace Go.Proofs.YtoopaigpjefonaaGreatDoor
set_option maxRecDepth 20000
open Go.RowKit

/-- What is kept where nothing below a place is changed. -/
def Stb (base : Nat) (P : World → Prop) : Prop := ∀ w1 w2, P w1 → Below base w1 w2 → P w2
/-- A vault behind a call that began at w. -/
def VOut (K : VK) (F : Nat → Prop) (w : World) (S : K.σ) (w' : World) : Prop := K.lies w' (fun k => F k ∧ k < w.heap.size) S ∧ Touch F w w'
theorem VOut.stb {K : VK} (HK : VKOk K) {F : Nat → Prop} {w : World} {S : K.σ} : Stb w.heap.size (VOut K F w S) := fun _ _ h hb => ⟨HK.keep h.1 fun k _ hF => hb.block k hF.2, h.2.1.trans (hb.mono (Nat.zero_le _)), fun k hk hn => (hb.block k hk).trans (h.2.2 k hk hn)⟩
theorem VOut.lies {K : VK} (HK : VKOk K) {F : Nat → Prop} {w w' : World} {S : K.σ} (h : VOut K F w S w') : K.lies w' F S := HK.mono h.1 fun _ _ hF => hF.1
theorem VOut.start {K : VK} (HK : VKOk K) {F : Nat → Prop} {w w' : World} {S : K.σ} (h : K.lies w F S) (hb : Below w.heap.size w w') : VOut K F w S w' := ⟨HK.below (HK.mono h fun _ hk hF => ⟨hF, hk⟩) hb, Touch.of_below hb⟩
/-- What lies in a stretch of blocks is kept. -/
def Kept (base : Nat) (w' w'' : World) : Prop := ∀ k, base ≤ k → k < w'.heap.size → w''.heap[k]? = w'.heap[k]?
theorem VOut.seal_ {K : VK} (HK : VKOk K) {F : Nat → Prop} {S : K.σ} (h : Hd) (s : ByteArray) {w w' : World} (hr : K.room S 1) (hl : VOut K F w S w') :
    Calls Tryz.prog 96 #[K.v, .agg h.arr, .string s] w' fun e w'' => e = .returned (.tuple #[.string (K.sS S h s), .int .i64 (bsealE h s)]) ∧ VOut K F w (K.sP S h s) w'' ∧ Kept w.heap.size w' w'' ∧ w'.heap.size ≤ w''.heap.size :=
  (HK.seal_ _ S h s w' hr hl.1).mono fun e w'' ⟨he, hl2, ht⟩ => ⟨he, ⟨hl2, hl.2.1.trans ht.1, fun k hk hn => (ht.2 k (Nat.lt_of_lt_of_le hk hl.2.size) fun hF => hn hF.1).trans (hl.2.2 k hk hn)⟩, fun k hk hk2 => ht.2 k hk2 fun hF => by omega, ht.size⟩
theorem VOut.hash {K : VK} (HK : VKOk K) {F : Nat → Prop} {S : K.σ} (s : ByteArray) {w w' : World} (hs : s.size ≤ 1000000) (hr : K.room S 1) (hl : VOut K F w S w') :
    Calls Tryz.prog 94 #[K.v, .string s] w' fun e w'' => e = .returned (.string (K.hS S s)) ∧ VOut K F w (K.hP S s) w'' ∧ Kept w.heap.size w' w'' ∧ w'.heap.size ≤ w''.heap.size :=
  (HK.hash _ S s w' hs hr hl.1).mono fun e w'' ⟨he, hl2, ht⟩ => ⟨he, ⟨hl2, hl.2.1.trans ht.1, fun k hk hn => (ht.2 k (Nat.lt_of_lt_of_le hk hl.2.size) fun hF => hn hF.1).trans (hl.2.2 k hk hn)⟩, fun k hk hk2 => ht.2 k hk2 fun hF => by omega, ht.size⟩

structure DuoAt (K : VK) (w : World) (F F1 F2 : Nat → Prop) (B : Nat) (P : PS) (S : K.σ) : Prop where
  plate : Plate w F1 B P
  vault : K.lies w F2 S
  apart : ∀ k, F1 k → ¬ F2 k
  in1 : ∀ k, F1 k → F k
  in2 : ∀ k, F2 k → F k
  lt : ∀ k, F k → k < w.heap.size
def Duo (K : VK) (w : World) (F : Nat → Prop) (B : Nat) (P : PS) (S : K.σ) : Prop := ∃ F1 F2, DuoAt K w F F1 F2 B P S
theorem Duo.lt {K : VK} {w : World} {F : Nat → Prop} {B : Nat} {P : PS} {S : K.σ} (h : Duo K w F B P S) : ∀ k, F k → k < w.heap.size := by
  obtain ⟨F1, F2, h⟩ := h
  exact h.lt
theorem Duo.out {K : VK} {w : World} {F : Nat → Prop} {B : Nat} {P : PS} {S : K.σ} (h : Duo K w F B P S) {k : Nat} (hk : w.heap.size ≤ k) : ¬ F k := fun hF => by have := h.lt k hF; omega
theorem Duo.keep {K : VK} (HK : VKOk K) {w w' : World} {F : Nat → Prop} {B : Nat} {P : PS} {S : K.σ} (h : Duo K w F B P S) (hs : w.heap.size ≤ w'.heap.size) (hk : ∀ k, k < w.heap.size → F k → w'.heap[k]? = w.heap[k]?) : Duo K w' F B P S := by
  obtain ⟨F1, F2, h⟩ := h
  exact ⟨F1, F2, h.plate.keep fun k hk1 hF => hk k hk1 (h.in1 k hF), HK.keep h.vault fun k hk1 hF => hk k hk1 (h.in2 k hF), h.apart, h.in1, h.in2, fun k hF => Nat.lt_of_lt_of_le (h.lt k hF) hs⟩
theorem Duo.below {K : VK} (HK : VKOk K) {w w' : World} {F : Nat → Prop} {B : Nat} {P : PS} {S : K.σ} (h : Duo K w F B P S) (hb : Below w.heap.size w w') : Duo K w' F B P S := h.keep HK hb.size fun k hk _ => hb.block k hk
theorem Duo.mono {K : VK} {w : World} {F F' : Nat → Prop} {B : Nat} {P : PS} {S : K.σ} (h : Duo K w F B P S) (hF : ∀ k, F k → F' k) (hl : ∀ k, F' k → k < w.heap.size) : Duo K w F' B P S := by
  obtain ⟨F1, F2, h⟩ := h
  exact ⟨F1, F2, h.plate, h.vault, h.apart, fun k hk => hF k (h.in1 k hk), fun k hk => hF k (h.in2 k hk), hl⟩
theorem Duo.up {K : VK} {w : World} {F : Nat → Prop} {B : Nat} {P : PS} {S : K.σ} (h : Duo K w F B P S) : Calls Tryz.prog 39 #[.pointer (some ⟨B, 0, none⟩)] w fun e w' => e = .returned (.bool P.up) ∧ w' = w := by
  obtain ⟨F1, F2, h⟩ := h
  exact up_any B F1 P w h.plate
theorem Duo.sectors {K : VK} {w : World} {F : Nat → Prop} {B : Nat} {P : PS} {S : K.σ} (h : Duo K w F B P S) : Calls Tryz.prog 90 #[.pointer (some ⟨B, 0, none⟩)] w fun e w' => e = .returned (.int .i64 (P.kept.length : Nat)) ∧ w' = w := by
  obtain ⟨F1, F2, h⟩ := h
  exact sectors_any B F1 P w h.plate
/-- A call on the device. -/
theorem Duo.plateC {K : VK} (HK : VKOk K) {w : World} {F : Nat → Prop} {B : Nat} {P : PS} {S : K.σ} (h : Duo K w F B P S) {f : FuncId} {args : Array Value} {E : Ending → Prop} {P' : PS}
    (hc : ∀ F1, Plate w F1 B P → (∀ k, F1 k → F k) → Calls Tryz.prog f args w fun e w' => E e ∧ Plate w' (grow F1 w w') B P' ∧ Touch F1 w w') :
    Calls Tryz.prog f args w fun e w' => E e ∧ Duo K w' (grow F w w') B P' S ∧ Touch F w w' := by
  obtain ⟨F1, F2, h⟩ := h
  refine (hc F1 h.plate h.in1).mono fun e w' ⟨he, hp, ht⟩ => ⟨he, ⟨grow F1 w w', F2, hp, HK.keep h.vault fun k hk hF => ht.2 k hk fun h1 => h.apart k h1 hF, fun k h1 h2 => ?_, fun k h1 => ?_, fun k h2 => .inl (h.in2 k h2), fun k hF => ?_⟩, ht.mono h.in1⟩
  · rcases h1 with h1 | h1
    · exact h.apart k h1 h2
    · have := h.lt k (h.in2 k h2); omega
  · rcases h1 with h1 | h1
    · exact .inl (h.in1 k h1)
    · exact .inr h1
  · rcases hF with hF | hF
    · exact Nat.lt_of_lt_of_le (h.lt k hF) ht.size
    · exact hF.2
/-- A call on the vault. -/
theorem Duo.vaultC {K : VK} {w : World} {F : Nat → Prop} {B : Nat} {P : PS} {S : K.σ} (h : Duo K w F B P S) {f : FuncId} {args : Array Value} {E : Ending → Prop} {S' : K.σ}
    (hc : ∀ F2, K.lies w F2 S → (∀ k, F2 k → F k) → Calls Tryz.prog f args w fun e w' => E e ∧ K.lies w' F2 S' ∧ Touch F2 w w') :
    Calls Tryz.prog f args w fun e w' => E e ∧ Duo K w' F B P S' ∧ Touch F w w' := by
  obtain ⟨F1, F2, h⟩ := h
  exact (hc F2 h.vault h.in2).mono fun e w' ⟨he, hp, ht⟩ => ⟨he, ⟨F1, F2, h.plate.keep fun k hk hF => ht.2 k hk (h.apart k hF), hp, h.apart, h.in1, h.in2, fun k hF => Nat.lt_of_lt_of_le (h.lt k hF) ht.size⟩, ht.mono h.in2⟩
/-- A call that looks alone. -/
theorem Duo.lookC {K : VK} {w : World} {F : Nat → Prop} {B : Nat} {P : PS} {S : K.σ} (h : Duo K w F B P S) {Q : Prop} (hc : ∀ F2, K.lies w F2 S → Q) : Q := by
  obtain ⟨F1, F2, h⟩ := h
  exact hc F2 h.vault
end Go.Proofs.YtoopaigpjefonaaGreatDoor
