/- pack.takeSuper, of a reader that stands at the beginning of a text of at most 448 bytes, panics with what a reader gives up with where the text is no superblock's, or tells the superblock. · pack.read at the super: its deferred closure's two contracts, and what it tells. · pack.SuperOf, called with any text, tells the super and the error that the text is by the document. -/
import Derived.Test.YtdngoicpcocnnaaGreatDoorMg03
import Derived.Test.YtdngoicpcocnnaaGreatDoorMg24
import Derived.Laws.Rows
import Derived.Laws.Tables
import Derived.Defers
import Derived.Recover
import Derived.Laws.Pointers
namespace Go.Proofs.YtdngoicpcocnnaaGreatDoor
set_option maxRecDepth 20000
open Go.RowKit

theorem Only.setRowS {b g : Nat} {w w' : World} (h : Only b w w') (hg : w.heap.size ≤ g) (cs : Array Value) : Only b w (w'.setRow g cs) :=
  ⟨h.1.trans ⟨rfl, rfl, rfl, by simp [World.setRow], fun k hk => absurd hk (Nat.not_lt_zero _)⟩, fun k hk hb => (setRow_other _ _ _ _ (by omega)).trans (h.2 k hk hb)⟩
theorem below_newS (w : World) (o1 : Obj) : Below w.heap.size w (w.alloc o1) := (Below.refl _ _).alloc (Nat.le_refl _) _
/-- The superblock that a text of 448 bytes is. -/
def superCells (s : ByteArray) : Array Value := #[.int .i64 (leVal ((s.data.toList.drop 0).take 6)), .int .i64 (leVal ((s.data.toList.drop 6).take 6)), .int .i64 (leVal ((s.data.toList.drop 12).take 6)), .int .i64 (leVal ((s.data.toList.drop 18).take 4)), .string (s.extract 22 54)]
theorem superCells_one (s : ByteArray) : (superCells s).all (·.oneCell') = true := by simp [superCells, Value.oneCell']
set_option maxHeartbeats 1000000 in
theorem takeSuper_short (b : Nat) (s : ByteArray) (hs : s.size < 448) (w : World) (h : Rd w b s 0) :
    Calls Tryz.prog 94 #[.pointer (some ⟨b, 0, none⟩)] w fun e w' => e = .panicked (gave 3) ∧ Only b w w' := by
  have hblt := h.lt
  have hr0 := h.below (below_newS w (.cells #[.int .i64 0, .int .i64 0, .int .i64 0, .int .i64 0, .string ⟨#[]⟩] 33))
  have hb0 : Only b w (w.alloc (.cells #[.int .i64 0, .int .i64 0, .int .i64 0, .int .i64 0, .string ⟨#[]⟩] 33)) := Only.of_below (below_newS w _)
  clear h
  go_enter Tryz.func94, Tryz.ntmps94
  go_wp2_with fail
  generalize w.alloc (.cells #[.int .i64 0, .int .i64 0, .int .i64 0, .int .i64 0, .string ⟨#[]⟩] 33) = w0 at *
  by_cases h0 : 0 + 6 ≤ s.size
  case neg =>
    refine (number_short b s 0 6 (by decide) (by decide) h0 (by omega) _ hr0).mono ?_
    rintro e w' ⟨rfl, hbs⟩
    exact ⟨rfl, rfl, hb0.trans (Only.of_below hbs)⟩
  refine (number_any b s 0 6 (by decide) (by decide) h0 (by omega) _ hr0).mono ?_
  rintro e w1 ⟨rfl, hr1, hbn⟩
  have hb1 := hb0.trans hbn
  clear hr0 hb0 hbn
  go_wp2_with fail
  by_cases h1 : 6 + 6 ≤ s.size
  case neg =>
    refine (number_short b s 6 6 (by decide) (by decide) h1 (by omega) _ hr1).mono ?_
    rintro e w' ⟨rfl, hbs⟩
    exact ⟨rfl, rfl, hb1.trans (Only.of_below hbs)⟩
  refine (number_any b s 6 6 (by decide) (by decide) h1 (by omega) _ hr1).mono ?_
  rintro e w2 ⟨rfl, hr2, hbn⟩
  have hb2 := hb1.trans hbn
  clear hr1 hb1 hbn
  go_wp2_with fail
  by_cases h2 : 12 + 6 ≤ s.size
  case neg =>
    refine (number_short b s 12 6 (by decide) (by decide) h2 (by omega) _ hr2).mono ?_
    rintro e w' ⟨rfl, hbs⟩
    exact ⟨rfl, rfl, hb2.trans (Only.of_below hbs)⟩
  refine (number_any b s 12 6 (by decide) (by decide) h2 (by omega) _ hr2).mono ?_
  rintro e w3 ⟨rfl, hr3, hbn⟩
  have hb3 := hb2.trans hbn
  clear hr2 hb2 hbn
  go_wp2_with fail
  by_cases h3 : 18 + 4 ≤ s.size
  case neg =>
    refine (number_short b s 18 4 (by decide) (by decide) h3 (by omega) _ hr3).mono ?_
    rintro e w' ⟨rfl, hbs⟩
    exact ⟨rfl, rfl, hb3.trans (Only.of_below hbs)⟩
  refine (number_any b s 18 4 (by decide) (by decide) h3 (by omega) _ hr3).mono ?_
  rintro e w4 ⟨rfl, hr4, hbn⟩
  have hb4 := hb3.trans hbn
  clear hr3 hb3 hbn
  go_wp2_with fail
  by_cases h4 : 22 + 32 ≤ s.size
  case neg =>
    refine (bytes_short b s 22 32 h4 (by decide) (by omega) (by decide) _ hr4).mono ?_
    rintro e w' ⟨rfl, hbs⟩
    exact ⟨rfl, rfl, hb4.trans (Only.of_below hbs)⟩
  refine (bytes_any b s 22 32 h4 (by omega) _ hr4).mono ?_
  rintro e w5 ⟨rfl, hr5, hbn⟩
  have hb5 := hb4.trans hbn
  clear hr4 hb4 hbn
  go_wp2_with fail
  refine (pkClone_any _ (by simp; omega) _).mono ?_
  rintro e w6 ⟨rfl, hbc⟩
  have hr6 := hr5.below hbc
  have hb6 := hb5.trans (Only.of_below hbc)
  clear hr5 hb5 hbc
  go_wp2_with fail
  refine (bytes_short b s 54 394 (by omega) (by decide) (by omega) (by decide) _ (hr6.below (below_newS _ _))).mono ?_
  rintro e w' ⟨rfl, hbs⟩
  exact ⟨rfl, rfl, (hb6.trans (Only.of_below (below_newS _ _))).trans (Only.of_below hbs)⟩
set_option maxHeartbeats 1000000 in
theorem takeSuper_full (b : Nat) (s : ByteArray) (hs : s.size = 448) (w : World) (h : Rd w b s 0) :
    Calls Tryz.prog 94 #[.pointer (some ⟨b, 0, none⟩)] w fun e w' => e = (if allZ (s.extract 54 448) = true then .returned (.agg (superCells s)) else .panicked (gave 5)) ∧ Only b w w' := by
  have hblt := h.lt
  have hr0 := h.below (below_newS w (.cells #[.int .i64 0, .int .i64 0, .int .i64 0, .int .i64 0, .string ⟨#[]⟩] 33))
  have hb0 : Only b w (w.alloc (.cells #[.int .i64 0, .int .i64 0, .int .i64 0, .int .i64 0, .string ⟨#[]⟩] 33)) := Only.of_below (below_newS w _)
  have hw0 : w.heap.size < (w.alloc (.cells #[.int .i64 0, .int .i64 0, .int .i64 0, .int .i64 0, .string ⟨#[]⟩] 33)).heap.size := by simp
  have g0 : (w.alloc (.cells #[.int .i64 0, .int .i64 0, .int .i64 0, .int .i64 0, .string ⟨#[]⟩] 33)).heap[w.heap.size]? = some (.cells #[.int .i64 0, .int .i64 0, .int .i64 0, .int .i64 0, .string ⟨#[]⟩] 33 (0, 0)) := heap_alloc_new w _
  clear h
  go_enter Tryz.func94, Tryz.ntmps94
  go_wp2_with fail
  generalize w.alloc (.cells #[.int .i64 0, .int .i64 0, .int .i64 0, .int .i64 0, .string ⟨#[]⟩] 33) = w0 at *
  refine (number_any b s 0 6 (by decide) (by decide) (by omega) (by omega) _ hr0).mono ?_
  rintro e w1 ⟨rfl, hr1, hbn⟩
  have hb1 := hb0.trans hbn
  have g1 := (hbn.2 w.heap.size hw0 (by omega)).trans g0
  have hw1 := Nat.lt_of_lt_of_le hw0 hbn.size
  clear hr0 hb0 hbn g0 hw0
  go_wp2_with fail
  refine (number_any b s 6 6 (by decide) (by decide) (by omega) (by omega) _ hr1).mono ?_
  rintro e w2 ⟨rfl, hr2, hbn⟩
  have hb2 := hb1.trans hbn
  have g2 := (hbn.2 w.heap.size hw1 (by omega)).trans g1
  have hw2 := Nat.lt_of_lt_of_le hw1 hbn.size
  clear hr1 hb1 hbn g1 hw1
  go_wp2_with fail
  refine (number_any b s 12 6 (by decide) (by decide) (by omega) (by omega) _ hr2).mono ?_
  rintro e w3 ⟨rfl, hr3, hbn⟩
  have hb3 := hb2.trans hbn
  have g3 := (hbn.2 w.heap.size hw2 (by omega)).trans g2
  have hw3 := Nat.lt_of_lt_of_le hw2 hbn.size
  clear hr2 hb2 hbn g2 hw2
  go_wp2_with fail
  refine (number_any b s 18 4 (by decide) (by decide) (by omega) (by omega) _ hr3).mono ?_
  rintro e w4 ⟨rfl, hr4, hbn⟩
  have hb4 := hb3.trans hbn
  have g4 := (hbn.2 w.heap.size hw3 (by omega)).trans g3
  have hw4 := Nat.lt_of_lt_of_le hw3 hbn.size
  clear hr3 hb3 hbn g3 hw3
  go_wp2_with fail
  refine (bytes_any b s 22 32 (by omega) (by omega) _ hr4).mono ?_
  rintro e w5 ⟨rfl, hr5, hbn⟩
  have hb5 := hb4.trans hbn
  have g5 := (hbn.2 w.heap.size hw4 (by omega)).trans g4
  have hw5 := Nat.lt_of_lt_of_le hw4 hbn.size
  clear hr4 hb4 hbn g4 hw4
  go_wp2_with fail
  refine (pkClone_any _ (by simp; omega) _).mono ?_
  rintro e w6 ⟨rfl, hbc⟩
  have hr6 := hr5.below hbc
  have hb6 := hb5.trans (Only.of_below hbc)
  have g6 := (hbc.block w.heap.size hw5).trans g5
  have hw6 := Nat.lt_of_lt_of_le hw5 hbc.size
  clear hr5 hb5 hbc g5 hw5
  go_wp2_with fail
  refine (bytes_any b s 54 394 (by omega) (by omega) _ (hr6.below (below_newS _ _))).mono ?_
  rintro e w10 ⟨rfl, hr10, hbn⟩
  have hb10 := (hb6.trans (Only.of_below (below_newS _ _))).trans hbn
  have g0' := (hbn.2 w.heap.size (by simp; omega) (by omega)).trans (show _ = some (Obj.cells #[.int .i64 0, .int .i64 0, .int .i64 0, .int .i64 0, .string ⟨#[]⟩] 33 (0, 0)) from by rw [Below.heap_alloc _ _ _ (by omega)]; exact g6)
  have g1' := (hbn.2 w6.heap.size (by simp) (by have := hr6.lt; omega)).trans (heap_alloc_new w6 _)
  clear hr6 hb6 hbn g6
  go_wp2_with fail
  refine (isZero_any (s.extract 54 448) (by unfold maxLen; simp; omega) _).mono ?_
  rintro e w11 ⟨rfl, hbz⟩
  have hb11 := hb10.trans (Only.of_below hbz)
  have g0 := (hbz.block w.heap.size (lt_of_block g0')).trans g0'
  have g1 := (hbz.block w6.heap.size (lt_of_block g1')).trans g1'
  clear hr10 hb10 hbz g0' g1'
  go_wp2_with fail
  by_cases hz : allZ (s.extract 54 448) = true
  case neg =>
    rw [Bool.eq_false_iff.2 hz]
    refine (must_no b _).mono ?_
    rintro e w' ⟨rfl, rfl⟩
    exact ⟨rfl, by rw [if_neg hz], hb11⟩
  rw [hz]
  refine (must_yes b _).mono ?_
  rintro e w' ⟨rfl, rfl⟩
  have g1 : w'.heap[w6.heap.size]? = some (Obj.cells (superCells s) 33 (0, 0)) := g1
  go_wp2_with (first | refine wpList_load_row rfl 33 _ rfl w6.heap.size rfl 33 _ (0, 0) _ g1 Tryz.underlying33 rfl (by kernel_rfl) ?_ | refine wpList_store_row rfl 33 _ _ rfl w.heap.size (superCells s) rfl rfl 33 _ g0 (by kernel_rfl) rfl (superCells_one s) ?_)
  exact bodyPost_ret (v := .agg (superCells s)) (results_cell_row Tryz.results94 _ _ w.heap.size 33 _ (0, 0) _ rfl (setRow_heap _ _ _ _ _ _ g0) Tryz.underlying33 rfl (by kernel_rfl)) rfl ⟨rfl, hb11.setRowS (Nat.le_refl _) _⟩
end Go.Proofs.YtdngoicpcocnnaaGreatDoor

namespace Go.Proofs.YtdngoicpcocnnaaGreatDoor
set_option maxRecDepth 20000
open Go.RowKit

set_option maxRecDepth 10000 in
theorem catch_gaveS (p : Addr) (x y : Int) (w : World) (hc : w.cell? p = some (.int .i64 x)) (hz : w.frozen? p = false) :
    CallsD Tryz.prog 119 #[.pointer (some p)] (.panicking (gave y)) w fun e u' w' =>
      e = .returned (.tuple #[]) ∧ settle u' = .returning ∧ w' = (w.alloc (.cells #[.int .i64 y] 199)).setCell p (.int .i64 y) := by
  have hn := block_lt_of_cell hc
  have hz' : ∀ o, (w.alloc o).frozen? p = false := fun o => by
    have hb := (below_newS w o).block p.block hn
    simpa [World.frozen?, hb] using hz
  have hta : ∀ (v : Value) (it : TypeId) (w : World), (Instr.typeAssert (.iface 199 v) it 199 true).run Tryz.prog w = .ok (.tuple #[v, .bool true]) w := fun _ _ _ => rfl
  refine callsD_of_wpS Tryz.func119 rfl fun c₀ cs hu => ?_
  apply wpS_seq
  generalize hK : Exit.thenS _ _ = K
  apply wpS_region
  simp [wpOpsS, go_sem, recoverD, hu, gave, Tryz.ntmps119]
  subst hK
  refine wpS_of_wp (a := { tmps := #[.pointer (some p), .iface 199 (.agg #[.int .i64 y]), undef, undef, .iface 199 (.agg #[.int .i64 y]), undef, undef, undef, undef, undef, undef, undef, undef, undef, undef, undef, undef], defers := [] }) ?_
  go_wp2
  exact ⟨rfl, _, rfl, _, by simp [results, Tryz.results119], rfl, rfl, rfl⟩
theorem catch_idleS (p : Addr) (w : World) :
    CallsD Tryz.prog 119 #[.pointer (some p)] .returning w fun e u' w' => e = .returned (.tuple #[]) ∧ u' = .returning ∧ w' = w := by
  refine callsD_of_wpS Tryz.func119 rfl fun c₀ cs hu => ?_
  apply wpS_seq
  generalize hK : Exit.thenS _ _ = K
  apply wpS_region
  simp [wpOpsS, go_sem, recoverD, hu, Tryz.ntmps119]
  subst hK
  refine wpS_of_wp (a := { tmps := #[.pointer (some p), .nilIface, undef, undef, .nilIface, undef, undef, undef, undef, undef, undef, undef, undef, undef, undef, undef, undef], defers := [] }) ?_
  go_wp2
  cases c₀
  simp_all [bodyPostS, results, Tryz.results119]
theorem read_longS (s : ByteArray) (n : Nat) (hs : n < s.size) (w : World) :
    Calls Tryz.prog 93 #[.string s, .int .i64 n, .func (.func 94) #[] #[]] w fun e w' => e = .returned (.tuple #[.agg #[.int .i64 0, .int .i64 0, .int .i64 0, .int .i64 0, .string ⟨#[]⟩], .int .i64 4]) ∧ Below w.heap.size w w' := by
  have hmf : ∀ (fn : Fn) (first cap : Array Value) (w : World), (Instr.makeFunc fn first cap).run Tryz.prog w = .ok (.func fn first cap) w := fun _ _ _ _ => rfl
  go_enter_defers Tryz.func93, Tryz.ntmps93
  go_wp2
  refine leaves_cons (f := 119) (args := #[.pointer (some ⟨w.heap.size + 1, 0, none⟩)]) (by simp) (by simp [go_sem]) ?_
  refine (catch_idleS ⟨w.heap.size + 1, 0, none⟩ _).mono ?_
  rintro e u' w'' ⟨rfl, rfl, rfl⟩
  simp [Leaves, settle, results, Tryz.results93, go_sem]
  exact ((Below.refl _ _).alloc (Nat.le_refl _) _).alloc (by simp) _

theorem read_resultsS (tmps : Array Value) (w : World) (g : Nat) (cs : Array Value) (y : Int) (h6 : tmps.getD 6 undef = .pointer (some ⟨g, 0, none⟩)) (h7 : tmps.getD 7 undef = .pointer (some ⟨g + 1, 0, none⟩))
    (hg : w.heap[g]? = some (.cells cs 33 (0, 0))) (hs : cs.size = 5) (hc : w.cell? ⟨g + 1, 0, none⟩ = some (.int .i64 y)) :
    (results Tryz.f93 tmps).run Tryz.prog w = .ok (.tuple #[.agg cs, .int .i64 y]) w := by
  have hr := run_loadVar_row (P := Tryz.prog) w g 33 33 cs (0, 0) _ hg Tryz.underlying33 rfl (by rw [hs]; kernel_rfl)
  have h2 : (loadVar 23 ⟨g + 1, 0, none⟩).run Tryz.prog w = .ok (.int .i64 y) w := by simp [hc, go_sem]
  simp at h6 h7
  simp [results, Tryz.results93, h6, h7, asAddr, hr, h2]

theorem read_panicsS (s : ByteArray) (hs : s.size ≤ 448) (y : Int) (hT : ∀ (w : World) (b : Nat), Rd w b s 0 → Calls Tryz.prog 94 #[.pointer (some ⟨b, 0, none⟩)] w fun e w' => e = .panicked (gave y) ∧ Only b w w') (w : World) :
    Calls Tryz.prog 93 #[.string s, .int .i64 448, .func (.func 94) #[] #[]] w fun e w' => e = .returned (.tuple #[.agg #[.int .i64 0, .int .i64 0, .int .i64 0, .int .i64 0, .string ⟨#[]⟩], .int .i64 y]) ∧ Below w.heap.size w w' := by
  have hmf : ∀ (fn : Fn) (first cap : Array Value) (w : World), (Instr.makeFunc fn first cap).run Tryz.prog w = .ok (.func fn first cap) w := fun _ _ _ _ => rfl
  have i1 : ¬ (448 : Int) < s.size := by omega
  go_enter_defers Tryz.func93, Tryz.ntmps93
  go_wp2_with fail
  have hb0 : Below w.heap.size w (((w.alloc (.cells #[.int .i64 0, .int .i64 0, .int .i64 0, .int .i64 0, .string ⟨#[]⟩] 33)).alloc (.cells #[.int .i64 0] 23)).alloc (.cells #[.string s, .int .i64 0] 203)) := (((Below.refl _ _).alloc (Nat.le_refl _) _).alloc (by simp) _).alloc (by simp; omega) _
  have hR : Rd (((w.alloc (.cells #[.int .i64 0, .int .i64 0, .int .i64 0, .int .i64 0, .string ⟨#[]⟩] 33)).alloc (.cells #[.int .i64 0] 23)).alloc (.cells #[.string s, .int .i64 0] 203)) (w.heap.size + 1 + 1) s 0 := by
    have := heap_alloc_new ((w.alloc (.cells #[.int .i64 0, .int .i64 0, .int .i64 0, .int .i64 0, .string ⟨#[]⟩] 33)).alloc (.cells #[.int .i64 0] 23)) (.cells #[.string s, .int .i64 0] 203)
    simpa [Rd] using this
  have g0 : (((w.alloc (.cells #[.int .i64 0, .int .i64 0, .int .i64 0, .int .i64 0, .string ⟨#[]⟩] 33)).alloc (.cells #[.int .i64 0] 23)).alloc (.cells #[.string s, .int .i64 0] 203)).heap[w.heap.size]? = some (.cells #[.int .i64 0, .int .i64 0, .int .i64 0, .int .i64 0, .string ⟨#[]⟩] 33 (0, 0)) :=
    (Below.heap_alloc _ _ _ (by simp; omega)).trans (heap_alloc2_old w _ _)
  have g1 : (((w.alloc (.cells #[.int .i64 0, .int .i64 0, .int .i64 0, .int .i64 0, .string ⟨#[]⟩] 33)).alloc (.cells #[.int .i64 0] 23)).alloc (.cells #[.string s, .int .i64 0] 203)).heap[w.heap.size + 1]? = some (.cells #[.int .i64 0] 23 (0, 0)) :=
    (Below.heap_alloc _ _ _ (by simp)).trans (heap_alloc2_new w _ _)
  generalize ((w.alloc (.cells #[.int .i64 0, .int .i64 0, .int .i64 0, .int .i64 0, .string ⟨#[]⟩] 33)).alloc (.cells #[.int .i64 0] 23)).alloc (.cells #[.string s, .int .i64 0] 203) = w0 at *
  refine (hT _ _ hR).mono ?_
  rintro e w1 ⟨rfl, hb1⟩
  have hl := hR.lt
  have k0 := (hb1.2 w.heap.size (by omega) (by omega)).trans g0
  have k1 := (hb1.2 (w.heap.size + 1) (by omega) (by omega)).trans g1
  have hl1 := lt_of_block k1
  have hbw : Below w.heap.size w w1 := hb0.trans ((hb1.below (by omega)).mono (by omega))
  clear hT hmf hR hb0 hb1 g0 g1
  refine leaves_cons (f := 119) (args := #[.pointer (some ⟨w.heap.size + 1, 0, none⟩)]) (by simp) (by simp [go_sem]) ?_
  refine (catch_gaveS ⟨w.heap.size + 1, 0, none⟩ 0 y w1 (by simp [World.cell?, k1]) (by simp [World.frozen?, k1])).mono ?_
  rintro e u' w2 ⟨rfl, hu, rfl⟩
  have c0 : ((w1.alloc (.cells #[.int .i64 y] 199)).setCell ⟨w.heap.size + 1, 0, none⟩ (.int .i64 y)).heap[w.heap.size]? = some (.cells #[.int .i64 0, .int .i64 0, .int .i64 0, .int .i64 0, .string ⟨#[]⟩] 33 (0, 0)) :=
    (Below.heap_setCell _ _ _ _ (by simp)).trans ((Below.heap_alloc _ _ _ (by omega)).trans k0)
  have c1 := heap_setCell_same (w1.alloc (.cells #[.int .i64 y] 199)) (w.heap.size + 1) 0 _ _ (.int .i64 y) ((Below.heap_alloc _ _ _ (by omega)).trans k1)
  show Leaves _ _ _ _ _ (settle u') _
  rw [hu]
  exact ⟨_, read_resultsS _ _ w.heap.size _ y rfl rfl c0 rfl (by simp [World.cell?, c1]), rfl, (hbw.alloc (by omega) _).setCell (p := ⟨w.heap.size + 1, 0, none⟩) (by simp) _⟩
end Go.Proofs.YtdngoicpcocnnaaGreatDoor

namespace Go.Proofs.YtdngoicpcocnnaaGreatDoor
set_option maxRecDepth 20000
open Go.RowKit

theorem read_returnsS (s : ByteArray) (hs : s.size ≤ 448) (hT : ∀ (w : World) (b : Nat), Rd w b s 0 → Calls Tryz.prog 94 #[.pointer (some ⟨b, 0, none⟩)] w fun e w' => e = .returned (.agg (superCells s)) ∧ Only b w w') (w : World) :
    Calls Tryz.prog 93 #[.string s, .int .i64 448, .func (.func 94) #[] #[]] w fun e w' => e = .returned (.tuple #[.agg (superCells s), .int .i64 0]) ∧ Below w.heap.size w w' := by
  have hmf : ∀ (fn : Fn) (first cap : Array Value) (w : World), (Instr.makeFunc fn first cap).run Tryz.prog w = .ok (.func fn first cap) w := fun _ _ _ _ => rfl
  have i1 : ¬ (448 : Int) < s.size := by omega
  go_enter_defers Tryz.func93, Tryz.ntmps93
  go_wp2_with fail
  have hb0 : Below w.heap.size w (((w.alloc (.cells #[.int .i64 0, .int .i64 0, .int .i64 0, .int .i64 0, .string ⟨#[]⟩] 33)).alloc (.cells #[.int .i64 0] 23)).alloc (.cells #[.string s, .int .i64 0] 203)) := (((Below.refl _ _).alloc (Nat.le_refl _) _).alloc (by simp) _).alloc (by simp; omega) _
  have hR : Rd (((w.alloc (.cells #[.int .i64 0, .int .i64 0, .int .i64 0, .int .i64 0, .string ⟨#[]⟩] 33)).alloc (.cells #[.int .i64 0] 23)).alloc (.cells #[.string s, .int .i64 0] 203)) (w.heap.size + 1 + 1) s 0 := by
    have := heap_alloc_new ((w.alloc (.cells #[.int .i64 0, .int .i64 0, .int .i64 0, .int .i64 0, .string ⟨#[]⟩] 33)).alloc (.cells #[.int .i64 0] 23)) (.cells #[.string s, .int .i64 0] 203)
    simpa [Rd] using this
  have g0 : (((w.alloc (.cells #[.int .i64 0, .int .i64 0, .int .i64 0, .int .i64 0, .string ⟨#[]⟩] 33)).alloc (.cells #[.int .i64 0] 23)).alloc (.cells #[.string s, .int .i64 0] 203)).heap[w.heap.size]? = some (.cells #[.int .i64 0, .int .i64 0, .int .i64 0, .int .i64 0, .string ⟨#[]⟩] 33 (0, 0)) :=
    (Below.heap_alloc _ _ _ (by simp; omega)).trans (heap_alloc2_old w _ _)
  have g1 : (((w.alloc (.cells #[.int .i64 0, .int .i64 0, .int .i64 0, .int .i64 0, .string ⟨#[]⟩] 33)).alloc (.cells #[.int .i64 0] 23)).alloc (.cells #[.string s, .int .i64 0] 203)).heap[w.heap.size + 1]? = some (.cells #[.int .i64 0] 23 (0, 0)) :=
    (Below.heap_alloc _ _ _ (by simp)).trans (heap_alloc2_new w _ _)
  generalize ((w.alloc (.cells #[.int .i64 0, .int .i64 0, .int .i64 0, .int .i64 0, .string ⟨#[]⟩] 33)).alloc (.cells #[.int .i64 0] 23)).alloc (.cells #[.string s, .int .i64 0] 203) = w0 at *
  refine (hT _ _ hR).mono ?_
  rintro e w1 ⟨rfl, hb1⟩
  have hl := hR.lt
  have k0 := (hb1.2 w.heap.size (by omega) (by omega)).trans g0
  have k1 := (hb1.2 (w.heap.size + 1) (by omega) (by omega)).trans g1
  have hl1 := lt_of_block k1
  have hbw : Below w.heap.size w w1 := hb0.trans ((hb1.below (by omega)).mono (by omega))
  have c0 := setRow_heap w1 w.heap.size _ (superCells s) _ _ k0
  have c1 := (setRow_other w1 w.heap.size (w.heap.size + 1) (superCells s) (by omega)).trans k1
  have c2 : (w1.setRow w.heap.size (superCells s)).cell? ⟨w.heap.size + 1, 0, none⟩ = some (.int .i64 0) := by simp [World.cell?, c1]
  have c3 : (w1.setRow w.heap.size (superCells s)).frozen? ⟨w.heap.size + 1, 0, none⟩ = false := by simp [World.frozen?, c1]
  have hbr : Below w.heap.size w (w1.setRow w.heap.size (superCells s)) := hbw.trans ⟨rfl, rfl, rfl, by simp [World.setRow], fun k hk => setRow_other _ _ _ _ (by omega)⟩
  clear hT hmf hR hb0 hb1 g0 g1
  go_wp2_with (refine wpList_store_row rfl 33 _ _ rfl w.heap.size (superCells s) rfl rfl 33 _ k0 (by kernel_rfl) rfl (superCells_one s) ?_)
  refine leaves_cons (f := 119) (args := #[.pointer (some ⟨w.heap.size + 1, 0, none⟩)]) (by simp) (by simp [go_sem]) ?_
  refine (catch_idleS ⟨w.heap.size + 1, 0, none⟩ _).mono ?_
  rintro e u' w2 ⟨rfl, rfl, rfl⟩
  have d1 := heap_setCell_same (w1.setRow w.heap.size (superCells s)) (w.heap.size + 1) 0 _ _ (.int .i64 0) c1
  exact ⟨_, read_resultsS _ _ w.heap.size _ 0 rfl rfl ((Below.heap_setCell _ _ _ _ (by simp)).trans c0) rfl (by simp [World.cell?, d1]), rfl, hbr.setCell (p := ⟨w.heap.size + 1, 0, none⟩) (by simp) _⟩

/-- The error that a text is as a superblock. -/
def superOE (s : ByteArray) : Int :=
  if 448 < s.size then 4 else if s.size < 448 then 3 else if allZ (s.extract 54 448) = true then 0 else 5
/-- A superblock's number of a text. -/
def superON (s : ByteArray) (a k : Nat) : Int := if superOE s = 0 then leVal ((s.data.toList.drop a).take k) else 0
def superOR (s : ByteArray) : ByteArray := if superOE s = 0 then s.extract 22 54 else ⟨#[]⟩
def superOC (s : ByteArray) : Array Value := #[.int .i64 (superON s 0 6), .int .i64 (superON s 6 6), .int .i64 (superON s 12 6), .int .i64 (superON s 18 4), .string (superOR s)]
theorem superOC_one (s : ByteArray) : (superOC s).all (·.oneCell') = true := by simp [superOC, Value.oneCell']
theorem superOC_no {s : ByteArray} (h : ¬ superOE s = 0) : superOC s = #[.int .i64 0, .int .i64 0, .int .i64 0, .int .i64 0, .string ⟨#[]⟩] := by simp [superOC, superON, superOR, h]
theorem superOC_yes {s : ByteArray} (h : superOE s = 0) : superOC s = superCells s := by simp [superOC, superON, superOR, superCells, h]

theorem readSuper_any (s : ByteArray) (w : World) :
    Calls Tryz.prog 93 #[.string s, .int .i64 448, .func (.func 94) #[] #[]] w fun e w' => e = .returned (.tuple #[.agg (superOC s), .int .i64 (superOE s)]) ∧ Below w.heap.size w w' := by
  by_cases h1 : 448 < s.size
  · have he : superOE s = 4 := by simp [superOE, h1]
    rw [superOC_no (by rw [he]; decide), he]
    exact read_longS s 448 h1 w
  by_cases h2 : s.size < 448
  · have he : superOE s = 3 := by simp [superOE, h1, h2]
    rw [superOC_no (by rw [he]; decide), he]
    exact read_panicsS s (by omega) 3 (fun w b h => takeSuper_short b s h2 w h) w
  by_cases h4 : allZ (s.extract 54 448) = true
  case neg =>
    have he : superOE s = 5 := by rw [superOE, if_neg h1, if_neg h2, if_neg h4]
    rw [superOC_no (by rw [he]; decide), he]
    exact read_panicsS s (by omega) 5 (fun w b h => by simpa only [if_neg h4] using takeSuper_full b s (by omega) w h) w
  have he : superOE s = 0 := by rw [superOE, if_neg h1, if_neg h2, if_pos h4]
  rw [superOC_yes he, he]
  exact read_returnsS s (by omega) (fun w b h => by simpa only [if_pos h4] using takeSuper_full b s (by omega) w h) w

theorem superOf_any (s : ByteArray) (w : World) :
    Calls Tryz.prog 62 #[.string s] w fun e w' => e = .returned (.tuple #[.agg (superOC s), .int .i64 (superOE s)]) ∧ Below w.heap.size w w' := by
  have hmf : ∀ (fn : Fn) (first cap : Array Value) (w : World), (Instr.makeFunc fn first cap).run Tryz.prog w = .ok (.func fn first cap) w := fun _ _ _ _ => rfl
  go_enter Tryz.func62, Tryz.ntmps62
  go_wp2_with fail
  refine (readSuper_any s _).mono ?_
  rintro e w1 ⟨rfl, hb1⟩
  have g0 := (hb1.block w.heap.size (by simp)).trans (heap_alloc_new w _)
  have hbw : Below w.heap.size w w1 := (below_newS w _).trans (hb1.mono (by simp))
  clear hb1
  go_wp2_with (refine wpList_store_row rfl 33 _ _ rfl w.heap.size (superOC s) rfl rfl 33 _ g0 (by kernel_rfl) rfl (superOC_one s) ?_)
  have hr := run_loadVar_row (P := Tryz.prog) (w1.setRow w.heap.size (superOC s)) w.heap.size 33 33 (superOC s) (0, 0) _ (setRow_heap _ _ _ _ _ _ g0) Tryz.underlying33 rfl (by kernel_rfl)
  exact bodyPost_ret (v := .tuple #[.agg (superOC s), .int .i64 (superOE s)]) (by simp [results, Tryz.results62, asAddr, hr]) rfl ⟨rfl, hbw.trans ⟨rfl, rfl, rfl, by simp [World.setRow], fun k hk => setRow_other _ _ _ _ (by omega)⟩⟩
end Go.Proofs.YtdngoicpcocnnaaGreatDoor
