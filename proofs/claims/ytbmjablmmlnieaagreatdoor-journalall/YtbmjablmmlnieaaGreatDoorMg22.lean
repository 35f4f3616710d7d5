/- pack.read at the super: its deferred closure's two contracts, and what it tells. · pack.SuperOf, called with any text, tells the super and the error that the text is by the document. · A quotient, rounded up: chart's and the document's. · Where things stand, and where an index is told: chart's Layout and Place and the document's, in one form. · How many blocks the living part of a device has: the arithmetic; nothing of the program. -/
import Derived.Test.YtbmjablmmlnieaaGreatDoorMg21
import Derived.Defers
import Derived.Recover
import Derived.Laws.Pointers
import Derived.Test.YtbmjablmmlnieaaGreatDoorMg04
namespace Go.Proofs.YtbmjablmmlnieaaGreatDoor
set_option maxRecDepth 20000
open Go.RowKit

set_option maxRecDepth 10000 in
theorem catch_gaveS (p : Addr) (x y : Int) (w : World) (hc : w.cell? p = some (.int .i64 x)) (hz : w.frozen? p = false) :
    CallsD Tryz.prog 119 #[.pointer (some p)] (.panicking (gave y)) w fun e u' w' =>
      e = .returned (.tuple #[]) ∧ settle u' = .returning ∧ w' = (w.alloc (.cells #[.int .i64 y] 199)).setCell p (.int .i64 y) := by
  have hn := block_lt_of_cell hc
  have hz' : ∀ o, (w.alloc o).frozen? p = false := fun o => by
    have hb := (below_newS w o).block p.block hn
    simpa [World.frozen?, hb] using hz
  have hta : ∀ (v : Value) (it : TypeId) (w : World), (Instr.typeAssert (.iface 199 v) it 199 true).run Tryz.prog w = .ok (.tuple #[v, .bool true]) w := fun _ _ _ => rfl
  refine callsD_of_wpS Tryz.func119 rfl fun c₀ cs hu => ?_
  apply wpS_seq
  generalize hK : Exit.thenS _ _ = K
  apply wpS_region
  simp [wpOpsS, go_sem, recoverD, hu, gave, Tryz.ntmps119]
  subst hK
  refine wpS_of_wp (a := { tmps := #[.pointer (some p), .iface 199 (.agg #[.int .i64 y]), undef, undef, .iface 199 (.agg #[.int .i64 y]), undef, undef, undef, undef, undef, undef, undef, undef, undef, undef, undef, undef], defers := [] }) ?_
  go_wp2
  exact ⟨rfl, _, rfl, _, by simp [results, Tryz.results119], rfl, rfl, rfl⟩
theorem catch_idleS (p : Addr) (w : World) :
    CallsD Tryz.prog 119 #[.pointer (some p)] .returning w fun e u' w' => e = .returned (.tuple #[]) ∧ u' = .returning ∧ w' = w := by
  refine callsD_of_wpS Tryz.func119 rfl fun c₀ cs hu => ?_
  apply wpS_seq
  generalize hK : Exit.thenS _ _ = K
  apply wpS_region
  simp [wpOpsS, go_sem, recoverD, hu, Tryz.ntmps119]
  subst hK
  refine wpS_of_wp (a := { tmps := #[.pointer (some p), .nilIface, undef, undef, .nilIface, undef, undef, undef, undef, undef, undef, undef, undef, undef, undef, undef, undef], defers := [] }) ?_
  go_wp2
  cases c₀
  simp_all [bodyPostS, results, Tryz.results119]
theorem read_longS (s : ByteArray) (n : Nat) (hs : n < s.size) (w : World) :
    Calls Tryz.prog 93 #[.string s, .int .i64 n, .func (.func 94) #[] #[]] w fun e w' => e = .returned (.tuple #[.agg #[.int .i64 0, .int .i64 0, .int .i64 0, .int .i64 0, .string ⟨#[]⟩], .int .i64 4]) ∧ Below w.heap.size w w' := by
  have hmf : ∀ (fn : Fn) (first cap : Array Value) (w : World), (Instr.makeFunc fn first cap).run Tryz.prog w = .ok (.func fn first cap) w := fun _ _ _ _ => rfl
  go_enter_defers Tryz.func93, Tryz.ntmps93
  go_wp2
  refine leaves_cons (f := 119) (args := #[.pointer (some ⟨w.heap.size + 1, 0, none⟩)]) (by simp) (by simp [go_sem]) ?_
  refine (catch_idleS ⟨w.heap.size + 1, 0, none⟩ _).mono ?_
  rintro e u' w'' ⟨rfl, rfl, rfl⟩
  simp [Leaves, settle, results, Tryz.results93, go_sem]
  exact ((Below.refl _ _).alloc (Nat.le_refl _) _).alloc (by simp) _

theorem read_resultsS (tmps : Array Value) (w : World) (g : Nat) (cs : Array Value) (y : Int) (h6 : tmps.getD 6 undef = .pointer (some ⟨g, 0, none⟩)) (h7 : tmps.getD 7 undef = .pointer (some ⟨g + 1, 0, none⟩))
    (hg : w.heap[g]? = some (.cells cs 33 (0, 0))) (hs : cs.size = 5) (hc : w.cell? ⟨g + 1, 0, none⟩ = some (.int .i64 y)) :
    (results Tryz.f93 tmps).run Tryz.prog w = .ok (.tuple #[.agg cs, .int .i64 y]) w := by
  have hr := run_loadVar_row (P := Tryz.prog) w g 33 33 cs (0, 0) _ hg Tryz.underlying33 rfl (by rw [hs]; kernel_rfl)
  have h2 : (loadVar 23 ⟨g + 1, 0, none⟩).run Tryz.prog w = .ok (.int .i64 y) w := by simp [hc, go_sem]
  simp at h6 h7
  simp [results, Tryz.results93, h6, h7, asAddr, hr, h2]

theorem read_panicsS (s : ByteArray) (hs : s.size ≤ 448) (y : Int) (hT : ∀ (w : World) (b : Nat), Rd w b s 0 → Calls Tryz.prog 94 #[.pointer (some ⟨b, 0, none⟩)] w fun e w' => e = .panicked (gave y) ∧ Only b w w') (w : World) :
    Calls Tryz.prog 93 #[.string s, .int .i64 448, .func (.func 94) #[] #[]] w fun e w' => e = .returned (.tuple #[.agg #[.int .i64 0, .int .i64 0, .int .i64 0, .int .i64 0, .string ⟨#[]⟩], .int .i64 y]) ∧ Below w.heap.size w w' := by
  have hmf : ∀ (fn : Fn) (first cap : Array Value) (w : World), (Instr.makeFunc fn first cap).run Tryz.prog w = .ok (.func fn first cap) w := fun _ _ _ _ => rfl
  have i1 : ¬ (448 : Int) < s.size := by omega
  go_enter_defers Tryz.func93, Tryz.ntmps93
  go_wp2_with fail
  have hb0 : Below w.heap.size w (((w.alloc (.cells #[.int .i64 0, .int .i64 0, .int .i64 0, .int .i64 0, .string ⟨#[]⟩] 33)).alloc (.cells #[.int .i64 0] 23)).alloc (.cells #[.string s, .int .i64 0] 203)) := (((Below.refl _ _).alloc (Nat.le_refl _) _).alloc (by simp) _).alloc (by simp; omega) _
  have hR : Rd (((w.alloc (.cells #[.int .i64 0, .int .i64 0, .int .i64 0, .int .i64 0, .string ⟨#[]⟩] 33)).alloc (.cells #[.int .i64 0] 23)).alloc (.cells #[.string s, .int .i64 0] 203)) (w.heap.size + 1 + 1) s 0 := by
    have := heap_alloc_new ((w.alloc (.cells #[.int .i64 0, .int .i64 0, .int .i64 0, .int .i64 0, .string ⟨#[]⟩] 33)).alloc (.cells #[.int .i64 0] 23)) (.cells #[.string s, .int .i64 0] 203)
    simpa [Rd] using this
  have g0 : (((w.alloc (.cells #[.int .i64 0, .int .i64 0, .int .i64 0, .int .i64 0, .string ⟨#[]⟩] 33)).alloc (.cells #[.int .i64 0] 23)).alloc (.cells #[.string s, .int .i64 0] 203)).heap[w.heap.size]? = some (.cells #[.int .i64 0, .int .i64 0, .int .i64 0, .int .i64 0, .string ⟨#[]⟩] 33 (0, 0)) :=
    (Below.heap_alloc _ _ _ (by simp; omega)).trans (heap_alloc2_old w _ _)
  have g1 : (((w.alloc (.cells #[.int .i64 0, .int .i64 0, .int .i64 0, .int .i64 0, .string ⟨#[]⟩] 33)).alloc (.cells #[.int .i64 0] 23)).alloc (.cells #[.string s, .int .i64 0] 203)).heap[w.heap.size + 1]? = some (.cells #[.int .i64 0] 23 (0, 0)) :=
    (Below.heap_alloc _ _ _ (by simp)).trans (heap_alloc2_new w _ _)
  generalize ((w.alloc (.cells #[.int .i64 0, .int .i64 0, .int .i64 0, .int .i64 0, .string ⟨#[]⟩] 33)).alloc (.cells #[.int .i64 0] 23)).alloc (.cells #[.string s, .int .i64 0] 203) = w0 at *
  refine (hT _ _ hR).mono ?_
  rintro e w1 ⟨rfl, hb1⟩
  have hl := hR.lt
  have k0 := (hb1.2 w.heap.size (by omega) (by omega)).trans g0
  have k1 := (hb1.2 (w.heap.size + 1) (by omega) (by omega)).trans g1
  have hl1 := lt_of_block k1
  have hbw : Below w.heap.size w w1 := hb0.trans ((hb1.below (by omega)).mono (by omega))
  clear hT hmf hR hb0 hb1 g0 g1
  refine leaves_cons (f := 119) (args := #[.pointer (some ⟨w.heap.size + 1, 0, none⟩)]) (by simp) (by simp [go_sem]) ?_
  refine (catch_gaveS ⟨w.heap.size + 1, 0, none⟩ 0 y w1 (by simp [World.cell?, k1]) (by simp [World.frozen?, k1])).mono ?_
  rintro e u' w2 ⟨rfl, hu, rfl⟩
  have c0 : ((w1.alloc (.cells #[.int .i64 y] 199)).setCell ⟨w.heap.size + 1, 0, none⟩ (.int .i64 y)).heap[w.heap.size]? = some (.cells #[.int .i64 0, .int .i64 0, .int .i64 0, .int .i64 0, .string ⟨#[]⟩] 33 (0, 0)) :=
    (Below.heap_setCell _ _ _ _ (by simp)).trans ((Below.heap_alloc _ _ _ (by omega)).trans k0)
  have c1 := heap_setCell_same (w1.alloc (.cells #[.int .i64 y] 199)) (w.heap.size + 1) 0 _ _ (.int .i64 y) ((Below.heap_alloc _ _ _ (by omega)).trans k1)
  show Leaves _ _ _ _ _ (settle u') _
  rw [hu]
  exact ⟨_, read_resultsS _ _ w.heap.size _ y rfl rfl c0 rfl (by simp [World.cell?, c1]), rfl, (hbw.alloc (by omega) _).setCell (p := ⟨w.heap.size + 1, 0, none⟩) (by simp) _⟩
end Go.Proofs.YtbmjablmmlnieaaGreatDoor

namespace Go.Proofs.YtbmjablmmlnieaaGreatDoor
set_option maxRecDepth 20000
open Go.RowKit

theorem read_returnsS (s : ByteArray) (hs : s.size ≤ 448) (hT : ∀ (w : World) (b : Nat), Rd w b s 0 → Calls Tryz.prog 94 #[.pointer (some ⟨b, 0, none⟩)] w fun e w' => e = .returned (.agg (superCells s)) ∧ Only b w w') (w : World) :
    Calls Tryz.prog 93 #[.string s, .int .i64 448, .func (.func 94) #[] #[]] w fun e w' => e = .returned (.tuple #[.agg (superCells s), .int .i64 0]) ∧ Below w.heap.size w w' := by
  have hmf : ∀ (fn : Fn) (first cap : Array Value) (w : World), (Instr.makeFunc fn first cap).run Tryz.prog w = .ok (.func fn first cap) w := fun _ _ _ _ => rfl
  have i1 : ¬ (448 : Int) < s.size := by omega
  go_enter_defers Tryz.func93, Tryz.ntmps93
  go_wp2_with fail
  have hb0 : Below w.heap.size w (((w.alloc (.cells #[.int .i64 0, .int .i64 0, .int .i64 0, .int .i64 0, .string ⟨#[]⟩] 33)).alloc (.cells #[.int .i64 0] 23)).alloc (.cells #[.string s, .int .i64 0] 203)) := (((Below.refl _ _).alloc (Nat.le_refl _) _).alloc (by simp) _).alloc (by simp; omega) _
  have hR : Rd (((w.alloc (.cells #[.int .i64 0, .int .i64 0, .int .i64 0, .int .i64 0, .string ⟨#[]⟩] 33)).alloc (.cells #[.int .i64 0] 23)).alloc (.cells #[.string s, .int .i64 0] 203)) (w.heap.size + 1 + 1) s 0 := by
    have := heap_alloc_new ((w.alloc (.cells #[.int .i64 0, .int .i64 0, .int .i64 0, .int .i64 0, .string ⟨#[]⟩] 33)).alloc (.cells #[.int .i64 0] 23)) (.cells #[.string s, .int .i64 0] 203)
    simpa [Rd] using this
  have g0 : (((w.alloc (.cells #[.int .i64 0, .int .i64 0, .int .i64 0, .int .i64 0, .string ⟨#[]⟩] 33)).alloc (.cells #[.int .i64 0] 23)).alloc (.cells #[.string s, .int .i64 0] 203)).heap[w.heap.size]? = some (.cells #[.int .i64 0, .int .i64 0, .int .i64 0, .int .i64 0, .string ⟨#[]⟩] 33 (0, 0)) :=
    (Below.heap_alloc _ _ _ (by simp; omega)).trans (heap_alloc2_old w _ _)
  have g1 : (((w.alloc (.cells #[.int .i64 0, .int .i64 0, .int .i64 0, .int .i64 0, .string ⟨#[]⟩] 33)).alloc (.cells #[.int .i64 0] 23)).alloc (.cells #[.string s, .int .i64 0] 203)).heap[w.heap.size + 1]? = some (.cells #[.int .i64 0] 23 (0, 0)) :=
    (Below.heap_alloc _ _ _ (by simp)).trans (heap_alloc2_new w _ _)
  generalize ((w.alloc (.cells #[.int .i64 0, .int .i64 0, .int .i64 0, .int .i64 0, .string ⟨#[]⟩] 33)).alloc (.cells #[.int .i64 0] 23)).alloc (.cells #[.string s, .int .i64 0] 203) = w0 at *
  refine (hT _ _ hR).mono ?_
  rintro e w1 ⟨rfl, hb1⟩
  have hl := hR.lt
  have k0 := (hb1.2 w.heap.size (by omega) (by omega)).trans g0
  have k1 := (hb1.2 (w.heap.size + 1) (by omega) (by omega)).trans g1
  have hl1 := lt_of_block k1
  have hbw : Below w.heap.size w w1 := hb0.trans ((hb1.below (by omega)).mono (by omega))
  have c0 := setRow_heap w1 w.heap.size _ (superCells s) _ _ k0
  have c1 := (setRow_other w1 w.heap.size (w.heap.size + 1) (superCells s) (by omega)).trans k1
  have c2 : (w1.setRow w.heap.size (superCells s)).cell? ⟨w.heap.size + 1, 0, none⟩ = some (.int .i64 0) := by simp [World.cell?, c1]
  have c3 : (w1.setRow w.heap.size (superCells s)).frozen? ⟨w.heap.size + 1, 0, none⟩ = false := by simp [World.frozen?, c1]
  have hbr : Below w.heap.size w (w1.setRow w.heap.size (superCells s)) := hbw.trans ⟨rfl, rfl, rfl, by simp [World.setRow], fun k hk => setRow_other _ _ _ _ (by omega)⟩
  clear hT hmf hR hb0 hb1 g0 g1
  go_wp2_with (refine wpList_store_row rfl 33 _ _ rfl w.heap.size (superCells s) rfl rfl 33 _ k0 (by kernel_rfl) rfl (superCells_one s) ?_)
  refine leaves_cons (f := 119) (args := #[.pointer (some ⟨w.heap.size + 1, 0, none⟩)]) (by simp) (by simp [go_sem]) ?_
  refine (catch_idleS ⟨w.heap.size + 1, 0, none⟩ _).mono ?_
  rintro e u' w2 ⟨rfl, rfl, rfl⟩
  have d1 := heap_setCell_same (w1.setRow w.heap.size (superCells s)) (w.heap.size + 1) 0 _ _ (.int .i64 0) c1
  exact ⟨_, read_resultsS _ _ w.heap.size _ 0 rfl rfl ((Below.heap_setCell _ _ _ _ (by simp)).trans c0) rfl (by simp [World.cell?, d1]), rfl, hbr.setCell (p := ⟨w.heap.size + 1, 0, none⟩) (by simp) _⟩

/-- The error that a text is as a superblock. -/
def superOE (s : ByteArray) : Int :=
  if 448 < s.size then 4 else if s.size < 448 then 3 else if allZ (s.extract 54 448) = true then 0 else 5
/-- A superblock's number of a text. -/
def superON (s : ByteArray) (a k : Nat) : Int := if superOE s = 0 then leVal ((s.data.toList.drop a).take k) else 0
def superOR (s : ByteArray) : ByteArray := if superOE s = 0 then s.extract 22 54 else ⟨#[]⟩
def superOC (s : ByteArray) : Array Value := #[.int .i64 (superON s 0 6), .int .i64 (superON s 6 6), .int .i64 (superON s 12 6), .int .i64 (superON s 18 4), .string (superOR s)]
theorem superOC_one (s : ByteArray) : (superOC s).all (·.oneCell') = true := by simp [superOC, Value.oneCell']
theorem superOC_no {s : ByteArray} (h : ¬ superOE s = 0) : superOC s = #[.int .i64 0, .int .i64 0, .int .i64 0, .int .i64 0, .string ⟨#[]⟩] := by simp [superOC, superON, superOR, h]
theorem superOC_yes {s : ByteArray} (h : superOE s = 0) : superOC s = superCells s := by simp [superOC, superON, superOR, superCells, h]

theorem readSuper_any (s : ByteArray) (w : World) :
    Calls Tryz.prog 93 #[.string s, .int .i64 448, .func (.func 94) #[] #[]] w fun e w' => e = .returned (.tuple #[.agg (superOC s), .int .i64 (superOE s)]) ∧ Below w.heap.size w w' := by
  by_cases h1 : 448 < s.size
  · have he : superOE s = 4 := by simp [superOE, h1]
    rw [superOC_no (by rw [he]; decide), he]
    exact read_longS s 448 h1 w
  by_cases h2 : s.size < 448
  · have he : superOE s = 3 := by simp [superOE, h1, h2]
    rw [superOC_no (by rw [he]; decide), he]
    exact read_panicsS s (by omega) 3 (fun w b h => takeSuper_short b s h2 w h) w
  by_cases h4 : allZ (s.extract 54 448) = true
  case neg =>
    have he : superOE s = 5 := by rw [superOE, if_neg h1, if_neg h2, if_neg h4]
    rw [superOC_no (by rw [he]; decide), he]
    exact read_panicsS s (by omega) 5 (fun w b h => by simpa only [if_neg h4] using takeSuper_full b s (by omega) w h) w
  have he : superOE s = 0 := by rw [superOE, if_neg h1, if_neg h2, if_pos h4]
  rw [superOC_yes he, he]
  exact read_returnsS s (by omega) (fun w b h => by simpa only [if_pos h4] using takeSuper_full b s (by omega) w h) w

theorem superOf_any (s : ByteArray) (w : World) :
    Calls Tryz.prog 62 #[.string s] w fun e w' => e = .returned (.tuple #[.agg (superOC s), .int .i64 (superOE s)]) ∧ Below w.heap.size w w' := by
  have hmf : ∀ (fn : Fn) (first cap : Array Value) (w : World), (Instr.makeFunc fn first cap).run Tryz.prog w = .ok (.func fn first cap) w := fun _ _ _ _ => rfl
  go_enter Tryz.func62, Tryz.ntmps62
  go_wp2_with fail
  refine (readSuper_any s _).mono ?_
  rintro e w1 ⟨rfl, hb1⟩
  have g0 := (hb1.block w.heap.size (by simp)).trans (heap_alloc_new w _)
  have hbw : Below w.heap.size w w1 := (below_newS w _).trans (hb1.mono (by simp))
  clear hb1
  go_wp2_with (refine wpList_store_row rfl 33 _ _ rfl w.heap.size (superOC s) rfl rfl 33 _ g0 (by kernel_rfl) rfl (superOC_one s) ?_)
  have hr := run_loadVar_row (P := Tryz.prog) (w1.setRow w.heap.size (superOC s)) w.heap.size 33 33 (superOC s) (0, 0) _ (setRow_heap _ _ _ _ _ _ g0) Tryz.underlying33 rfl (by kernel_rfl)
  exact bodyPost_ret (v := .tuple #[.agg (superOC s), .int .i64 (superOE s)]) (by simp [results, Tryz.results62, asAddr, hr]) rfl ⟨rfl, hbw.trans ⟨rfl, rfl, rfl, by simp [World.setRow], fun k hk => setRow_other _ _ _ _ (by omega)⟩⟩
end Go.Proofs.YtbmjablmmlnieaaGreatDoor

namespace Go.Proofs.YtbmjablmmlnieaaGreatDoor
set_option maxRecDepth 20000
open Go.RowKit

theorem up_num (a s : Nat) (ha : a ≤ 6000000) (hs : 0 < s) (hs2 : s ≤ 1000) : ∃ k d : Nat, (a : Int) + s - 1 = (k : Int) ∧ k ≤ 6001000 ∧ (k : Int) / (s : Int) = (d : Int) ∧ d ≤ 6001000 ∧ d = (a + s - 1) / s :=
  ⟨a + s - 1, (a + s - 1) / s, by omega, by omega, by norm_cast, Nat.le_trans (Nat.div_le_self _ _) (by omega), rfl⟩
theorem roundUp_any (a s : Nat) (ha : a ≤ 6000000) (hs : 0 < s) (hs2 : s ≤ 1000) (w : World) :
    Calls Tryz.prog 92 #[.int .i64 (a : Int), .int .i64 (s : Int)] w fun e w' => e = .returned (.int .i64 (((a + s - 1) / s : Nat) : Int)) ∧ w' = w := by
  have h0 : (s : Int) ≠ 0 := by omega
  obtain ⟨k, d, h1, h2, h3, h4, h5⟩ := up_num a s ha hs hs2
  rw [← h5]
  clear h5
  go_enter Tryz.func92, Tryz.ntmps92
  go_wp2
  go_ret
  exact ⟨rfl, rfl⟩
theorem rup_any (a s : Nat) (ha : a ≤ 6000000) (hs : 0 < s) (hs2 : s ≤ 1000) (w : World) :
    Calls Tryz.prog 61 #[.int .i64 (a : Int), .int .i64 (s : Int)] w fun e w' => e = .returned (.int .i64 (((a + s - 1) / s : Nat) : Int)) ∧ w' = w := by
  have h0 : (s : Int) ≠ 0 := by omega
  obtain ⟨k, d, h1, h2, h3, h4, h5⟩ := up_num a s ha hs hs2
  rw [← h5]
  clear h5
  go_enter Tryz.func61, Tryz.ntmps61
  go_wp2
  go_ret
  exact ⟨rfl, rfl⟩
end Go.Proofs.YtbmjablmmlnieaaGreatDoor

namespace Go.Proofs.YtbmjablmmlnieaaGreatDoor
set_option maxRecDepth 20000
open Go.RowKit

/-- A layout's cells: n the living part, q its inodes, s the blocks of lost+found, t those of a plan's list. -/
def layA (n q s t : Nat) : Array Value := #[.int .i64 (n : Int), .int .i64 2, .int .i64 3, .int .i64 27, .int .i64 28, .int .i64 29, .int .i64 (q : Int), .int .i64 (29 + (q : Int)), .int .i64 (s : Int), .int .i64 (29 + (q : Int) + (s : Int)), .int .i64 (29 + (q : Int) + (s : Int) + 1), .int .i64 (n : Int), .int .i64 ((n : Int) + 1), .int .i64 (t : Int), .int .i64 ((n : Int) + 1 + (t : Int)), .int .i64 ((n : Int) + 1 + (t : Int) + (n : Int))]
def layZ : Array Value := #[.int .i64 0, .int .i64 0, .int .i64 0, .int .i64 0, .int .i64 0, .int .i64 0, .int .i64 0, .int .i64 0, .int .i64 0, .int .i64 0, .int .i64 0, .int .i64 0, .int .i64 0, .int .i64 0, .int .i64 0, .int .i64 0]
def layQ (n : Nat) : Nat := n / 8
def layS (n : Nat) : Nat := (n / 8 + 16 - 1) / 16
def layT (n : Nat) : Nat := (n + 64 - 1) / 64
/-- Layout's answer. -/
theorem lay_ret (tmps : Array Value) (w w' : World) (y : Int) (cs : Array Value) (h1 : tmps.getD 2 undef = .pointer (some ⟨w.heap.size, 0, none⟩)) (h3 : tmps.getD 3 undef = .int .i64 y) (hg : w'.heap[w.heap.size]? = some (.cells cs 71 (0, 0))) (hs : cs.size = 16) (hb : Below w.heap.size w w') :
    bodyPost Tryz.prog Tryz.f59 (fun e w'' => e = .returned (.tuple #[.agg cs, .int .i64 y]) ∧ Below w.heap.size w w'') .ret { tmps := tmps, defers := [] } w' := by
  have hr := run_loadVar_row (P := Tryz.prog) w' w.heap.size 71 71 cs (0, 0) _ hg Tryz.underlying71 rfl (by rw [hs]; kernel_rfl)
  simp at h1 h3
  exact bodyPost_ret (v := .tuple #[.agg cs, .int .i64 y]) (by simp [results, Tryz.results59, asAddr, hr, h1, h3]) rfl ⟨rfl, hb⟩
theorem layout_bad (n : Int) (hn : n < 48 ∨ 1024 < n) (w : World) :
    Calls Tryz.prog 59 #[.int .i64 n] w fun e w' => e = .returned (.tuple #[.agg layZ, .int .i64 1]) ∧ Below w.heap.size w w' := by
  unfold layZ
  rcases hn with h | h
  · go_enter Tryz.func59, Tryz.ntmps59
    go_wp2
    exact lay_ret _ w _ 1 _ rfl rfl (heap_alloc_new w _) rfl ((Below.refl _ _).alloc (Nat.le_refl _) _)
  · have h0 : ¬ n < 48 := by omega
    go_enter Tryz.func59, Tryz.ntmps59
    go_wp2
    exact lay_ret _ w _ 1 _ rfl rfl (heap_alloc_new w _) rfl ((Below.refl _ _).alloc (Nat.le_refl _) _)
set_option maxHeartbeats 2000000 in
theorem layout_any (n : Nat) (h0 : 48 ≤ n) (h1 : n ≤ 1024) (w : World) :
    Calls Tryz.prog 59 #[.int .i64 (n : Int)] w fun e w' => e = .returned (.tuple #[.agg (layA n (layQ n) (layS n) (layT n)), .int .i64 0]) ∧ Below w.heap.size w w' := by
  have i0 : ¬ (n : Int) < 48 := by omega
  have i1 : ¬ (1024 : Int) < n := by omega
  have r1 := roundUp_any (n / 8) 16 (by omega) (by decide) (by decide)
  have r2 := roundUp_any n 64 (by omega) (by decide) (by decide)
  have d1 : (n : Int) / 8 = ((layQ n : Nat) : Int) := rfl
  have b1 : layQ n ≤ 128 := by unfold layQ; omega
  have b2 : layS n ≤ 9 := by unfold layS; omega
  have b3 : layT n ≤ 17 := by unfold layT; omega
  rw [show n / 8 = layQ n from rfl, show (layQ n + 16 - 1) / 16 = layS n from rfl] at r1
  rw [show (n + 64 - 1) / 64 = layT n from rfl] at r2
  generalize layQ n = q at *
  generalize layS n = s at *
  generalize layT n = t at *
  go_enter Tryz.func59, Tryz.ntmps59
  go_wp2_with fail
  refine (r1 _).mono ?_
  rintro e w1 ⟨rfl, rfl⟩
  go_wp2_with fail
  refine (r2 _).mono ?_
  rintro e w1 ⟨rfl, rfl⟩
  go_wp2_with fail
  exact lay_ret _ w _ 0 (layA n q s t) rfl rfl (heap_alloc2_old w _ _) rfl (((Below.refl _ _).alloc (Nat.le_refl _) _).alloc (by simp) _)
/-- What Layout tells. -/
def layV (n : Int) : Array Value := if 48 ≤ n ∧ n ≤ 1024 then layA n.toNat (layQ n.toNat) (layS n.toNat) (layT n.toNat) else layZ
def clayE (n : Int) : Int := if 48 ≤ n ∧ n ≤ 1024 then 0 else 1
theorem layout_all (n : Int) (w : World) : Calls Tryz.prog 59 #[.int .i64 n] w fun e w' => e = .returned (.tuple #[.agg (layV n), .int .i64 (clayE n)]) ∧ Below w.heap.size w w' := by
  unfold layV clayE
  by_cases h : 48 ≤ n ∧ n ≤ 1024
  · rw [if_pos h, if_pos h]
    obtain ⟨m, rfl⟩ : ∃ m : Nat, n = m := ⟨n.toNat, by omega⟩
    exact layout_any m (by omega) (by omega) w
  · rw [if_neg h, if_neg h]
    exact layout_bad n (by omega) w
end Go.Proofs.YtbmjablmmlnieaaGreatDoor

namespace Go.Proofs.YtbmjablmmlnieaaGreatDoor
set_option maxRecDepth 20000
open Go.RowKit

/-- How many blocks a layout takes in all. -/
def totI (n : Nat) : Int := (n : Int) + 1 + (layT n : Int) + (n : Int)
def lvGo (s : Int) : Nat → Nat → Option Nat
  | 0, _ => none
  | f + 1, k => if totI k * 8 = s then some k else lvGo s f (k + 1)
/-- The living part of so many sectors, if there is one. -/
def liveO (s : Int) : Option Nat := lvGo s 977 48
theorem lvGo_some {s : Int} : ∀ {f k m : Nat}, lvGo s f k = some m → k ≤ m ∧ m < k + f ∧ totI m * 8 = s
  | 0, k, m, h => by cases h
  | f + 1, k, m, h => by
    unfold lvGo at h
    split at h
    · next e => simp at h; subst h; exact ⟨Nat.le_refl _, by omega, e⟩
    · have := lvGo_some h; omega
theorem liveO_some {s : Int} {m : Nat} (h : liveO s = some m) : 48 ≤ m ∧ m ≤ 1024 ∧ totI m * 8 = s := by
  have := lvGo_some h; omega
theorem totI_lt {a b : Nat} (h : a < b) : totI a < totI b := by
  have : layT a ≤ layT b := Nat.div_le_div_right (by omega)
  unfold totI; omega
theorem totI_inj {a b : Nat} (h : totI a = totI b) : a = b := by
  rcases Nat.lt_trichotomy a b with h1 | h1 | h1
  · have := totI_lt h1; omega
  · exact h1
  · have := totI_lt h1; omega
theorem lvGo_hit {n : Nat} : ∀ {f k : Nat}, k ≤ n → n < k + f → lvGo (totI n * 8) f k = some n
  | 0, k, h1, h2 => by omega
  | f + 1, k, h1, h2 => by
    unfold lvGo
    by_cases e : k = n
    · subst e; rw [if_pos rfl]
    · rw [if_neg (fun h => e (totI_inj (by omega)))]
      exact lvGo_hit (by omega) (by omega)
theorem liveO_of {n : Nat} (h1 : 48 ≤ n) (h2 : n ≤ 1024) : liveO (totI n * 8) = some n := lvGo_hit h1 (by omega)
theorem totI_bound {n : Nat} (h : n ≤ 1024) : 0 ≤ totI n ∧ totI n ≤ 2100 := by
  have : layT n ≤ 17 := by unfold layT; omega
  unfold totI; omega
/-- What layoutOf tells of so many sectors. -/
def loA (s : Int) : Array Value := match liveO s with | some n => layA n (layQ n) (layS n) (layT n) | none => layZ
def loE (s : Int) : Int := match liveO s with | some _ => 0 | none => 30
def loN (s : Int) : Int := match liveO s with | some n => (n : Int) | none => 0
theorem loA_one (n q s t : Nat) : (layA n q s t).all (·.oneCell') = true := by simp [layA, Value.oneCell']
end Go.Proofs.YtbmjablmmlnieaaGreatDoor
