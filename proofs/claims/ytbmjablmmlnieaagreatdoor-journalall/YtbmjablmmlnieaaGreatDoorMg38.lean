/- journal at a device that is off or has no layout: Recover, Commit, Anew refused. -/
import Derived.Test.YtbmjablmmlnieaaGreatDoorMg36
namespace Go.Proofs.YtbmjablmmlnieaaGreatDoor
set_option maxRecDepth 20000
open Go.RowKit

theorem jrcv_ret (tmps : Array Value) (g : Nat) (w' : World) (cs : Array Value) (m y : Int) (R : Ending → World → Prop) (h0 : tmps.getD 4 undef = .pointer (some ⟨g, 0, none⟩)) (h1 : tmps.getD 5 undef = .int .i64 m) (h2 : tmps.getD 6 undef = .int .i64 y) (hg : w'.heap[g]? = some (.cells cs 33 (0, 0))) (hs : cs.size = 5) (hR : R (.returned (.tuple #[.agg cs, .int .i64 m, .int .i64 y])) w') :
    bodyPost Tryz.prog Tryz.f22 R .ret { tmps := tmps, defers := [] } w' := by
  have hr := run_loadVar_row (P := Tryz.prog) w' g 33 33 cs (0, 0) _ hg Tryz.underlying33 rfl (by rw [hs]; kernel_rfl)
  simp at h0 h1 h2
  exact bodyPost_ret (v := .tuple #[.agg cs, .int .i64 m, .int .i64 y]) (by simp [results, Tryz.results22, asAddr, hr, h0, h1, h2]) rfl hR
set_option maxHeartbeats 2000000 in
theorem recover_off (p v : Value) (w : World) (hup : ∀ W, Below w.heap.size w W → Calls Tryz.prog 40 #[p] W fun e W' => e = .returned (.bool false) ∧ W' = W) :
    Calls Tryz.prog 22 #[p, v] w fun e w' => e = .returned (.tuple #[.agg Sp.zero.arr, .int .i64 0, .int .i64 20]) ∧ Below w.heap.size w w' := by
  have hb0 := bel_alloc w (.cells #[.int .i64 0, .int .i64 0, .int .i64 0, .int .i64 0, .string ⟨#[]⟩] 33)
  have h1 := hup _ hb0
  have HB : Hid _ := hb0
  simp only [Sp.zero, Sp.arr]
  clear hup hb0
  go_enter Tryz.func22, Tryz.ntmps22
  go_wp2_with fail
  refine h1.mono ?_
  rintro e w1 ⟨rfl, rfl⟩
  clear h1
  go_wp2
  exact jrcv_ret _ w.heap.size _ #[.int .i64 0, .int .i64 0, .int .i64 0, .int .i64 0, .string ⟨#[]⟩] 0 20 _ rfl rfl rfl (heap_alloc_new w _) rfl ⟨rfl, HB.out⟩
set_option maxHeartbeats 2000000 in
theorem commit_none (p v : Value) (oa : Option Addr) (ca k : Nat) (hk : k ≤ 24) (a0 a1 a2 a3 : Int) (r : ByteArray) (w : World) (hlo : ∀ W, Below w.heap.size w W → Calls Tryz.prog 27 #[p] W fun e W' => e = .returned (.tuple #[.agg layZ, .int .i64 30]) ∧ Below W.heap.size W W') :
    Calls Tryz.prog 19 #[p, v, .slice oa k ca, .agg #[.int .i64 a0, .int .i64 a1, .int .i64 a2, .int .i64 a3, .string r]] w fun e w' => e = .returned (.int .i64 1) ∧ Below w.heap.size w w' := by
  have hb0 := bel_alloc w (.cells #[.int .i64 a0, .int .i64 a1, .int .i64 a2, .int .i64 a3, .string r] 33)
  have h1 := hlo _ hb0
  have j24 : ¬ (24 : Int) < (k : Int) := by omega
  have HB : Hid _ := hb0
  unfold layZ at h1
  clear hlo hb0
  go_enter Tryz.func19, Tryz.ntmps19
  go_wp2_with fail
  refine h1.mono ?_
  rintro e w1 ⟨rfl, hb1⟩
  have HB1 : Hid (Below w.heap.size w w1) := HB.out.trans (hb1.mono HB.out.size)
  clear h1 hb1 HB
  go_wp2
  go_ret
  exact ⟨rfl, HB1.out.alloc HB1.out.size _⟩
set_option maxHeartbeats 2000000 in
theorem anew_bad (p v : Value) (a0 a1 a2 a3 : Int) (r : ByteArray) (w : World) (hU : ∀ W, Below w.heap.size w W → Calls Tryz.prog 34 #[v, .agg #[.int .i64 a0, .int .i64 a1, .int .i64 a2, .int .i64 a3, .string r]] W fun e W' => e = .returned (.int .i64 0) ∧ Below W.heap.size W W') (hI : ∀ W, Below w.heap.size w W → Calls Tryz.prog 33 #[p, .agg #[.int .i64 a0, .int .i64 a1, .int .i64 a2, .int .i64 a3, .string r]] W fun e W' => e = .returned (.bool false) ∧ Below W.heap.size W W') :
    Calls Tryz.prog 25 #[p, v, .agg #[.int .i64 a0, .int .i64 a1, .int .i64 a2, .int .i64 a3, .string r]] w fun e w' => e = .returned (.int .i64 1) ∧ Below w.heap.size w w' := by
  have hb0 := bel_alloc w (.cells #[.int .i64 a0, .int .i64 a1, .int .i64 a2, .int .i64 a3, .string r] 33)
  have g0 := heap_alloc_new w (.cells #[.int .i64 a0, .int .i64 a1, .int .i64 a2, .int .i64 a3, .string r] 33)
  have h1 := hU _ hb0
  clear hU
  go_enter Tryz.func25, Tryz.ntmps25
  go_wp2_with fail
  refine h1.mono ?_
  rintro e w1 ⟨rfl, hb1⟩
  have g1 := (hb1.block w.heap.size (by simp)).trans g0
  have hbw : Below w.heap.size w w1 := hb0.trans (hb1.mono hb0.size)
  have h2 := hI _ hbw
  have c0 : w1.cell? ⟨w.heap.size, 0, none⟩ = some (.int .i64 a0) := cell_of_row _ _ 0 _ _ _ g1
  have c1 : w1.cell? ⟨w.heap.size, 1, none⟩ = some (.int .i64 a1) := cell_of_row _ _ 1 _ _ _ g1
  have c2 : w1.cell? ⟨w.heap.size, 2, none⟩ = some (.int .i64 a2) := cell_of_row _ _ 2 _ _ _ g1
  have c3 : w1.cell? ⟨w.heap.size, 3, none⟩ = some (.int .i64 a3) := cell_of_row _ _ 3 _ _ _ g1
  have c4 : w1.cell? ⟨w.heap.size, 4, none⟩ = some (.string r) := cell_of_row _ _ 4 _ _ _ g1
  have HB1 : Hid (Below w.heap.size w w1) := hbw
  clear h1 hI hb0 g0 hb1 g1 hbw
  go_wp2_with fail
  refine h2.mono ?_
  rintro e w2 ⟨rfl, hb2⟩
  have HB2 : Hid (Below w.heap.size w w2) := HB1.out.trans (hb2.mono HB1.out.size)
  clear h2 hb2 HB1 c0 c1 c2 c3 c4
  go_wp2
  go_ret
  exact ⟨rfl, HB2.out⟩
end Go.Proofs.YtbmjablmmlnieaaGreatDoor
