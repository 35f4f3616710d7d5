/- pack.read at the entry: its deferred closure's two contracts, and what it tells. -/
import Derived.Test.YtlcadhojfnanfaaDoorTakeEntry
import Derived.Defers
import Derived.Recover
import Derived.Laws.Pointers
namespace Go.Proofs.YtlcadhojfnanfaaDoor
set_option maxRecDepth 20000
open Go.RowKit

set_option maxRecDepth 10000 in
theorem catch_gaveE (p : Addr) (x y : Int) (w : World) (hc : w.cell? p = some (.int .i64 x)) (hz : w.frozen? p = false) :
    CallsD Tryd.prog 38 #[.pointer (some p)] (.panicking (gave y)) w fun e u' w' =>
      e = .returned (.tuple #[]) ∧ settle u' = .returning ∧ w' = (w.alloc (.cells #[.int .i64 y] 72)).setCell p (.int .i64 y) := by
  have hn := block_lt_of_cell hc
  have hz' : ∀ o, (w.alloc o).frozen? p = false := fun o => by
    have hb := (below_newE w o).block p.block hn
    simpa [World.frozen?, hb] using hz
  have hta : ∀ (v : Value) (it : TypeId) (w : World), (Instr.typeAssert (.iface 72 v) it 72 true).run Tryd.prog w = .ok (.tuple #[v, .bool true]) w := fun _ _ _ => rfl
  refine callsD_of_wpS Tryd.func38 rfl fun c₀ cs hu => ?_
  apply wpS_seq
  generalize hK : Exit.thenS _ _ = K
  apply wpS_region
  simp [wpOpsS, go_sem, recoverD, hu, gave, Tryd.ntmps38]
  subst hK
  refine wpS_of_wp (a := { tmps := #[.pointer (some p), .iface 72 (.agg #[.int .i64 y]), undef, undef, .iface 72 (.agg #[.int .i64 y]), undef, undef, undef, undef, undef, undef, undef, undef, undef, undef, undef, undef], defers := [] }) ?_
  go_wp2
  exact ⟨rfl, _, rfl, _, by simp [results, Tryd.results38], rfl, rfl, rfl⟩
theorem catch_idleE (p : Addr) (w : World) :
    CallsD Tryd.prog 38 #[.pointer (some p)] .returning w fun e u' w' => e = .returned (.tuple #[]) ∧ u' = .returning ∧ w' = w := by
  refine callsD_of_wpS Tryd.func38 rfl fun c₀ cs hu => ?_
  apply wpS_seq
  generalize hK : Exit.thenS _ _ = K
  apply wpS_region
  simp [wpOpsS, go_sem, recoverD, hu, Tryd.ntmps38]
  subst hK
  refine wpS_of_wp (a := { tmps := #[.pointer (some p), .nilIface, undef, undef, .nilIface, undef, undef, undef, undef, undef, undef, undef, undef, undef, undef, undef, undef], defers := [] }) ?_
  go_wp2
  cases c₀
  simp_all [bodyPostS, results, Tryd.results38]
theorem read_longE (s : ByteArray) (n : Nat) (hs : n < s.size) (w : World) :
    Calls Tryd.prog 33 #[.string s, .int .i64 n, .func (.func 34) #[] #[]] w fun e w' => e = .returned (.tuple #[.agg #[.string ⟨#[]⟩, .int .i64 0, .int .i64 0], .int .i64 4]) ∧ Below w.heap.size w w' := by
  have hmf : ∀ (fn : Fn) (first cap : Array Value) (w : World), (Instr.makeFunc fn first cap).run Tryd.prog w = .ok (.func fn first cap) w := fun _ _ _ _ => rfl
  go_enter_defers Tryd.func33, Tryd.ntmps33
  go_wp2
  refine leaves_cons (f := 38) (args := #[.pointer (some ⟨w.heap.size + 1, 0, none⟩)]) (by simp) (by simp [go_sem]) ?_
  refine (catch_idleE ⟨w.heap.size + 1, 0, none⟩ _).mono ?_
  rintro e u' w'' ⟨rfl, rfl, rfl⟩
  simp [Leaves, settle, results, Tryd.results33, go_sem]
  exact ((Below.refl _ _).alloc (Nat.le_refl _) _).alloc (by simp) _

theorem read_resultsE (tmps : Array Value) (w : World) (g : Nat) (cs : Array Value) (y : Int) (h6 : tmps.getD 6 undef = .pointer (some ⟨g, 0, none⟩)) (h7 : tmps.getD 7 undef = .pointer (some ⟨g + 1, 0, none⟩))
    (hg : w.heap[g]? = some (.cells cs 28 (0, 0))) (hs : cs.size = 3) (hc : w.cell? ⟨g + 1, 0, none⟩ = some (.int .i64 y)) :
    (results Tryd.f33 tmps).run Tryd.prog w = .ok (.tuple #[.agg cs, .int .i64 y]) w := by
  have hr := run_loadVar_row (P := Tryd.prog) w g 28 28 cs (0, 0) _ hg Tryd.underlying28 rfl (by rw [hs]; kernel_rfl)
  have h2 : (loadVar 33 ⟨g + 1, 0, none⟩).run Tryd.prog w = .ok (.int .i64 y) w := by simp [hc, go_sem]
  simp at h6 h7
  simp [results, Tryd.results33, h6, h7, asAddr, hr, h2]

theorem read_panicsE (s : ByteArray) (hs : s.size ≤ 28) (y : Int) (hT : ∀ (w : World) (b : Nat), Rd w b s 0 → Calls Tryd.prog 34 #[.pointer (some ⟨b, 0, none⟩)] w fun e w' => e = .panicked (gave y) ∧ Only b w w') (w : World) :
    Calls Tryd.prog 33 #[.string s, .int .i64 28, .func (.func 34) #[] #[]] w fun e w' => e = .returned (.tuple #[.agg #[.string ⟨#[]⟩, .int .i64 0, .int .i64 0], .int .i64 y]) ∧ Below w.heap.size w w' := by
  have hmf : ∀ (fn : Fn) (first cap : Array Value) (w : World), (Instr.makeFunc fn first cap).run Tryd.prog w = .ok (.func fn first cap) w := fun _ _ _ _ => rfl
  have i1 : ¬ (28 : Int) < s.size := by omega
  go_enter_defers Tryd.func33, Tryd.ntmps33
  go_wp2_with fail
  have hb0 : Below w.heap.size w (((w.alloc (.cells #[.string ⟨#[]⟩, .int .i64 0, .int .i64 0] 28)).alloc (.cells #[.int .i64 0] 33)).alloc (.cells #[.string s, .int .i64 0] 76)) := (((Below.refl _ _).alloc (Nat.le_refl _) _).alloc (by simp) _).alloc (by simp; omega) _
  have hR : Rd (((w.alloc (.cells #[.string ⟨#[]⟩, .int .i64 0, .int .i64 0] 28)).alloc (.cells #[.int .i64 0] 33)).alloc (.cells #[.string s, .int .i64 0] 76)) (w.heap.size + 1 + 1) s 0 := by
    have := heap_alloc_new ((w.alloc (.cells #[.string ⟨#[]⟩, .int .i64 0, .int .i64 0] 28)).alloc (.cells #[.int .i64 0] 33)) (.cells #[.string s, .int .i64 0] 76)
    simpa [Rd] using this
  have g0 : (((w.alloc (.cells #[.string ⟨#[]⟩, .int .i64 0, .int .i64 0] 28)).alloc (.cells #[.int .i64 0] 33)).alloc (.cells #[.string s, .int .i64 0] 76)).heap[w.heap.size]? = some (.cells #[.string ⟨#[]⟩, .int .i64 0, .int .i64 0] 28 (0, 0)) :=
    (Below.heap_alloc _ _ _ (by simp; omega)).trans (heap_alloc2_old w _ _)
  have g1 : (((w.alloc (.cells #[.string ⟨#[]⟩, .int .i64 0, .int .i64 0] 28)).alloc (.cells #[.int .i64 0] 33)).alloc (.cells #[.string s, .int .i64 0] 76)).heap[w.heap.size + 1]? = some (.cells #[.int .i64 0] 33 (0, 0)) :=
    (Below.heap_alloc _ _ _ (by simp)).trans (heap_alloc2_new w _ _)
  generalize ((w.alloc (.cells #[.string ⟨#[]⟩, .int .i64 0, .int .i64 0] 28)).alloc (.cells #[.int .i64 0] 33)).alloc (.cells #[.string s, .int .i64 0] 76) = w0 at *
  refine (hT _ _ hR).mono ?_
  rintro e w1 ⟨rfl, hb1⟩
  have hl := hR.lt
  have k0 := (hb1.2 w.heap.size (by omega) (by omega)).trans g0
  have k1 := (hb1.2 (w.heap.size + 1) (by omega) (by omega)).trans g1
  have hl1 := lt_of_block k1
  have hbw : Below w.heap.size w w1 := hb0.trans ((hb1.below (by omega)).mono (by omega))
  clear hT hmf hR hb0 hb1 g0 g1
  refine leaves_cons (f := 38) (args := #[.pointer (some ⟨w.heap.size + 1, 0, none⟩)]) (by simp) (by simp [go_sem]) ?_
  refine (catch_gaveE ⟨w.heap.size + 1, 0, none⟩ 0 y w1 (by simp [World.cell?, k1]) (by simp [World.frozen?, k1])).mono ?_
  rintro e u' w2 ⟨rfl, hu, rfl⟩
  have c0 : ((w1.alloc (.cells #[.int .i64 y] 72)).setCell ⟨w.heap.size + 1, 0, none⟩ (.int .i64 y)).heap[w.heap.size]? = some (.cells #[.string ⟨#[]⟩, .int .i64 0, .int .i64 0] 28 (0, 0)) :=
    (Below.heap_setCell _ _ _ _ (by simp)).trans ((Below.heap_alloc _ _ _ (by omega)).trans k0)
  have c1 := heap_setCell_same (w1.alloc (.cells #[.int .i64 y] 72)) (w.heap.size + 1) 0 _ _ (.int .i64 y) ((Below.heap_alloc _ _ _ (by omega)).trans k1)
  show Leaves _ _ _ _ _ (settle u') _
  rw [hu]
  exact ⟨_, read_resultsE _ _ w.heap.size _ y rfl rfl c0 rfl (by simp [World.cell?, c1]), rfl, (hbw.alloc (by omega) _).setCell (p := ⟨w.heap.size + 1, 0, none⟩) (by simp) _⟩
end Go.Proofs.YtlcadhojfnanfaaDoor
