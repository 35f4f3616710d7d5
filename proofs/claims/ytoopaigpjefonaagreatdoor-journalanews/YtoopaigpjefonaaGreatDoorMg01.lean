/- pack.takeHead, of a reader that stands at the beginning of a text of at most 48 bytes, panics with what a reader gives up with where the text is no head's, or tells the head. · pack.read at the head: its deferred closure's two contracts, and what it tells. · pack.HeadOf, called with any text, tells the head and the error that the text is by the document. -/
import Derived.Test.YtoopaigpjefonaaGreatDoorMg00
import Derived.Laws.Rows
import Derived.Laws.Tables
import Derived.Defers
import Derived.Recover
import Derived.Laws.Pointers
namespace Go.Proofs.YtoopaigpjefonaaGreatDoor
set_option maxRecDepth 20000
open Go.RowKit

theorem Only.setRow {b g : Nat} {w w' : World} (h : Only b w w') (hg : w.heap.size ≤ g) (cs : Array Value) : Only b w (w'.setRow g cs) :=
  ⟨h.1.trans ⟨rfl, rfl, rfl, by simp [World.setRow], fun k hk => absurd hk (Nat.not_lt_zero _)⟩, fun k hk hb => (setRow_other _ _ _ _ (by omega)).trans (h.2 k hk hb)⟩
theorem below_new (w : World) (o1 : Obj) : Below w.heap.size w (w.alloc o1) := (Below.refl _ _).alloc (Nat.le_refl _) _
/-- The head that a text of 48 bytes is. -/
def headCells (s : ByteArray) : Array Value := #[.int .i64 (leVal ((s.data.toList.drop 4).take 6)), .int .i64 (leVal ((s.data.toList.drop 10).take 4)), .int .i64 (leVal ((s.data.toList.drop 14).take 2)), .int .i64 (leVal ((s.data.toList.drop 16).take 4)), .int .i64 (leVal ((s.data.toList.drop 20).take 4)), .int .i64 (leVal ((s.data.toList.drop 24).take 4)), .int .i64 (leVal ((s.data.toList.drop 28).take 6)), .int .i64 (leVal ((s.data.toList.drop 34).take 6))]
theorem headCells_one (s : ByteArray) : (headCells s).all (·.oneCell') = true := by simp [headCells, Value.oneCell']

set_option maxHeartbeats 1000000 in
theorem takeHead_short (b : Nat) (s : ByteArray) (hs : s.size < 48) (w : World) (h : Rd w b s 0) :
    Calls Tryz.prog 164 #[.pointer (some ⟨b, 0, none⟩)] w fun e w' => e = .panicked (gave 3) ∧ Only b w w' := by
  have hblt := h.lt
  have hr0 := h.below (below_new w (.cells #[.int .i64 0, .int .i64 0, .int .i64 0, .int .i64 0, .int .i64 0, .int .i64 0, .int .i64 0, .int .i64 0] 121))
  have hb0 : Only b w (w.alloc (.cells #[.int .i64 0, .int .i64 0, .int .i64 0, .int .i64 0, .int .i64 0, .int .i64 0, .int .i64 0, .int .i64 0] 121)) := Only.of_below (below_new w _)
  clear h
  go_enter Tryz.func164, Tryz.ntmps164
  go_wp2_with fail
  generalize w.alloc (.cells #[.int .i64 0, .int .i64 0, .int .i64 0, .int .i64 0, .int .i64 0, .int .i64 0, .int .i64 0, .int .i64 0] 121) = w0 at *
  by_cases h0 : 0 + 4 ≤ s.size
  case neg =>
    refine (bytes_short b s 0 4 h0 (by decide) (by omega) (by decide) _ hr0).mono ?_
    rintro e w' ⟨rfl, hbs⟩
    exact ⟨rfl, rfl, hb0.trans (Only.of_below hbs)⟩
  refine (bytes_any b s 0 4 h0 (by omega) _ hr0).mono ?_
  rintro e w1 ⟨rfl, hr1, hbn⟩
  have hb1 := hb0.trans hbn
  clear hr0 hb0 hbn
  go_wp2_with fail
  by_cases h1 : 4 + 6 ≤ s.size
  case neg =>
    refine (number_short b s 4 6 (by decide) (by decide) h1 (by omega) _ hr1).mono ?_
    rintro e w' ⟨rfl, hbs⟩
    exact ⟨rfl, rfl, hb1.trans (Only.of_below hbs)⟩
  refine (number_any b s 4 6 (by decide) (by decide) h1 (by omega) _ hr1).mono ?_
  rintro e w2 ⟨rfl, hr2, hbn⟩
  have hb2 := hb1.trans hbn
  clear hr1 hb1 hbn
  go_wp2_with fail
  by_cases h2 : 10 + 4 ≤ s.size
  case neg =>
    refine (number_short b s 10 4 (by decide) (by decide) h2 (by omega) _ hr2).mono ?_
    rintro e w' ⟨rfl, hbs⟩
    exact ⟨rfl, rfl, hb2.trans (Only.of_below hbs)⟩
  refine (number_any b s 10 4 (by decide) (by decide) h2 (by omega) _ hr2).mono ?_
  rintro e w3 ⟨rfl, hr3, hbn⟩
  have hb3 := hb2.trans hbn
  clear hr2 hb2 hbn
  go_wp2_with fail
  by_cases h3 : 14 + 2 ≤ s.size
  case neg =>
    refine (number_short b s 14 2 (by decide) (by decide) h3 (by omega) _ hr3).mono ?_
    rintro e w' ⟨rfl, hbs⟩
    exact ⟨rfl, rfl, hb3.trans (Only.of_below hbs)⟩
  refine (number_any b s 14 2 (by decide) (by decide) h3 (by omega) _ hr3).mono ?_
  rintro e w4 ⟨rfl, hr4, hbn⟩
  have hb4 := hb3.trans hbn
  clear hr3 hb3 hbn
  go_wp2_with fail
  by_cases h4 : 16 + 4 ≤ s.size
  case neg =>
    refine (number_short b s 16 4 (by decide) (by decide) h4 (by omega) _ hr4).mono ?_
    rintro e w' ⟨rfl, hbs⟩
    exact ⟨rfl, rfl, hb4.trans (Only.of_below hbs)⟩
  refine (number_any b s 16 4 (by decide) (by decide) h4 (by omega) _ hr4).mono ?_
  rintro e w5 ⟨rfl, hr5, hbn⟩
  have hb5 := hb4.trans hbn
  clear hr4 hb4 hbn
  go_wp2_with fail
  by_cases h5 : 20 + 4 ≤ s.size
  case neg =>
    refine (number_short b s 20 4 (by decide) (by decide) h5 (by omega) _ hr5).mono ?_
    rintro e w' ⟨rfl, hbs⟩
    exact ⟨rfl, rfl, hb5.trans (Only.of_below hbs)⟩
  refine (number_any b s 20 4 (by decide) (by decide) h5 (by omega) _ hr5).mono ?_
  rintro e w6 ⟨rfl, hr6, hbn⟩
  have hb6 := hb5.trans hbn
  clear hr5 hb5 hbn
  go_wp2_with fail
  by_cases h6 : 24 + 4 ≤ s.size
  case neg =>
    refine (number_short b s 24 4 (by decide) (by decide) h6 (by omega) _ hr6).mono ?_
    rintro e w' ⟨rfl, hbs⟩
    exact ⟨rfl, rfl, hb6.trans (Only.of_below hbs)⟩
  refine (number_any b s 24 4 (by decide) (by decide) h6 (by omega) _ hr6).mono ?_
  rintro e w7 ⟨rfl, hr7, hbn⟩
  have hb7 := hb6.trans hbn
  clear hr6 hb6 hbn
  go_wp2_with fail
  by_cases h7 : 28 + 6 ≤ s.size
  case neg =>
    refine (number_short b s 28 6 (by decide) (by decide) h7 (by omega) _ hr7).mono ?_
    rintro e w' ⟨rfl, hbs⟩
    exact ⟨rfl, rfl, hb7.trans (Only.of_below hbs)⟩
  refine (number_any b s 28 6 (by decide) (by decide) h7 (by omega) _ hr7).mono ?_
  rintro e w8 ⟨rfl, hr8, hbn⟩
  have hb8 := hb7.trans hbn
  clear hr7 hb7 hbn
  go_wp2_with fail
  by_cases h8 : 34 + 6 ≤ s.size
  case neg =>
    refine (number_short b s 34 6 (by decide) (by decide) h8 (by omega) _ hr8).mono ?_
    rintro e w' ⟨rfl, hbs⟩
    exact ⟨rfl, rfl, hb8.trans (Only.of_below hbs)⟩
  refine (number_any b s 34 6 (by decide) (by decide) h8 (by omega) _ hr8).mono ?_
  rintro e w9 ⟨rfl, hr9, hbn⟩
  have hb9 := hb8.trans hbn
  clear hr8 hb8 hbn
  go_wp2_with fail
  by_cases h9 : 40 + 8 ≤ s.size
  case neg =>
    refine (bytes_short b s 40 8 h9 (by decide) (by omega) (by decide) _ (hr9.below (below_new _ _))).mono ?_
    rintro e w' ⟨rfl, hbs⟩
    exact ⟨rfl, rfl, (hb9.trans (Only.of_below (below_new _ _))).trans (Only.of_below hbs)⟩
  omega

set_option maxHeartbeats 1000000 in
theorem takeHead_full (b : Nat) (s : ByteArray) (hs : s.size = 48) (w : World) (h : Rd w b s 0) :
    Calls Tryz.prog 164 #[.pointer (some ⟨b, 0, none⟩)] w fun e w' => e = (if (s.extract 0 4).toList == [71, 82, 80, 78] then if allZ (s.extract 40 48) = true then .returned (.agg (headCells s)) else .panicked (gave 5) else .panicked (gave 5)) ∧ Only b w w' := by
  have hblt := h.lt
  have hr0 := h.below (below_new w (.cells #[.int .i64 0, .int .i64 0, .int .i64 0, .int .i64 0, .int .i64 0, .int .i64 0, .int .i64 0, .int .i64 0] 121))
  have hb0 : Only b w (w.alloc (.cells #[.int .i64 0, .int .i64 0, .int .i64 0, .int .i64 0, .int .i64 0, .int .i64 0, .int .i64 0, .int .i64 0] 121)) := Only.of_below (below_new w _)
  have hw0 : w.heap.size < (w.alloc (.cells #[.int .i64 0, .int .i64 0, .int .i64 0, .int .i64 0, .int .i64 0, .int .i64 0, .int .i64 0, .int .i64 0] 121)).heap.size := by simp
  have g0 : (w.alloc (.cells #[.int .i64 0, .int .i64 0, .int .i64 0, .int .i64 0, .int .i64 0, .int .i64 0, .int .i64 0, .int .i64 0] 121)).heap[w.heap.size]? = some (.cells #[.int .i64 0, .int .i64 0, .int .i64 0, .int .i64 0, .int .i64 0, .int .i64 0, .int .i64 0, .int .i64 0] 121 (0, 0)) := heap_alloc_new w _
  clear h
  go_enter Tryz.func164, Tryz.ntmps164
  go_wp2_with fail
  generalize w.alloc (.cells #[.int .i64 0, .int .i64 0, .int .i64 0, .int .i64 0, .int .i64 0, .int .i64 0, .int .i64 0, .int .i64 0] 121) = w0 at *
  refine (bytes_any b s 0 4 (by omega) (by omega) _ hr0).mono ?_
  rintro e w1 ⟨rfl, hr1, hbn⟩
  have hb1 := hb0.trans hbn
  have g1 := (hbn.2 w.heap.size hw0 (by omega)).trans g0
  have hw1 := Nat.lt_of_lt_of_le hw0 hbn.size
  clear hr0 hb0 hbn g0 hw0
  go_wp2_with fail
  refine (number_any b s 4 6 (by decide) (by decide) (by omega) (by omega) _ hr1).mono ?_
  rintro e w2 ⟨rfl, hr2, hbn⟩
  have hb2 := hb1.trans hbn
  have g2 := (hbn.2 w.heap.size hw1 (by omega)).trans g1
  have hw2 := Nat.lt_of_lt_of_le hw1 hbn.size
  clear hr1 hb1 hbn g1 hw1
  go_wp2_with fail
  refine (number_any b s 10 4 (by decide) (by decide) (by omega) (by omega) _ hr2).mono ?_
  rintro e w3 ⟨rfl, hr3, hbn⟩
  have hb3 := hb2.trans hbn
  have g3 := (hbn.2 w.heap.size hw2 (by omega)).trans g2
  have hw3 := Nat.lt_of_lt_of_le hw2 hbn.size
  clear hr2 hb2 hbn g2 hw2
  go_wp2_with fail
  refine (number_any b s 14 2 (by decide) (by decide) (by omega) (by omega) _ hr3).mono ?_
  rintro e w4 ⟨rfl, hr4, hbn⟩
  have hb4 := hb3.trans hbn
  have g4 := (hbn.2 w.heap.size hw3 (by omega)).trans g3
  have hw4 := Nat.lt_of_lt_of_le hw3 hbn.size
  clear hr3 hb3 hbn g3 hw3
  go_wp2_with fail
  refine (number_any b s 16 4 (by decide) (by decide) (by omega) (by omega) _ hr4).mono ?_
  rintro e w5 ⟨rfl, hr5, hbn⟩
  have hb5 := hb4.trans hbn
  have g5 := (hbn.2 w.heap.size hw4 (by omega)).trans g4
  have hw5 := Nat.lt_of_lt_of_le hw4 hbn.size
  clear hr4 hb4 hbn g4 hw4
  go_wp2_with fail
  refine (number_any b s 20 4 (by decide) (by decide) (by omega) (by omega) _ hr5).mono ?_
  rintro e w6 ⟨rfl, hr6, hbn⟩
  have hb6 := hb5.trans hbn
  have g6 := (hbn.2 w.heap.size hw5 (by omega)).trans g5
  have hw6 := Nat.lt_of_lt_of_le hw5 hbn.size
  clear hr5 hb5 hbn g5 hw5
  go_wp2_with fail
  refine (number_any b s 24 4 (by decide) (by decide) (by omega) (by omega) _ hr6).mono ?_
  rintro e w7 ⟨rfl, hr7, hbn⟩
  have hb7 := hb6.trans hbn
  have g7 := (hbn.2 w.heap.size hw6 (by omega)).trans g6
  have hw7 := Nat.lt_of_lt_of_le hw6 hbn.size
  clear hr6 hb6 hbn g6 hw6
  go_wp2_with fail
  refine (number_any b s 28 6 (by decide) (by decide) (by omega) (by omega) _ hr7).mono ?_
  rintro e w8 ⟨rfl, hr8, hbn⟩
  have hb8 := hb7.trans hbn
  have g8 := (hbn.2 w.heap.size hw7 (by omega)).trans g7
  have hw8 := Nat.lt_of_lt_of_le hw7 hbn.size
  clear hr7 hb7 hbn g7 hw7
  go_wp2_with fail
  refine (number_any b s 34 6 (by decide) (by decide) (by omega) (by omega) _ hr8).mono ?_
  rintro e w9 ⟨rfl, hr9, hbn⟩
  have hb9 := hb8.trans hbn
  have g9 := (hbn.2 w.heap.size hw8 (by omega)).trans g8
  have hw9 := Nat.lt_of_lt_of_le hw8 hbn.size
  clear hr8 hb8 hbn g8 hw8
  go_wp2_with fail
  refine (bytes_any b s 40 8 (by omega) (by omega) _ (hr9.below (below_new _ _))).mono ?_
  rintro e w10 ⟨rfl, hr10, hbn⟩
  have hb10 := (hb9.trans (Only.of_below (below_new _ _))).trans hbn
  have g0' := (hbn.2 w.heap.size (by simp; omega) (by omega)).trans (show _ = some (Obj.cells #[.int .i64 0, .int .i64 0, .int .i64 0, .int .i64 0, .int .i64 0, .int .i64 0, .int .i64 0, .int .i64 0] 121 (0, 0)) from by rw [Below.heap_alloc _ _ _ (by omega)]; exact g9)
  have g1' := (hbn.2 w9.heap.size (by simp) (by have := hr9.lt; omega)).trans (heap_alloc_new w9 _)
  clear hr9 hb9 hbn g9
  go_wp2_with fail
  by_cases hm : ((s.extract 0 4).toList == [71, 82, 80, 78]) = true
  case neg =>
    rw [Bool.eq_false_iff.2 hm]
    refine (must_no b _).mono ?_
    rintro e w' ⟨rfl, rfl⟩
    exact ⟨rfl, by rw [if_neg hm], hb10⟩
  rw [hm]
  refine (must_yes b _).mono ?_
  rintro e w' ⟨rfl, rfl⟩
  go_wp2_with fail
  refine (isZero_any (s.extract 40 48) (by unfold maxLen; simp; omega) _).mono ?_
  rintro e w11 ⟨rfl, hbz⟩
  have hb11 := hb10.trans (Only.of_below hbz)
  have g0 := (hbz.block w.heap.size (lt_of_block g0')).trans g0'
  have g1 := (hbz.block w9.heap.size (lt_of_block g1')).trans g1'
  clear hr10 hb10 hbz g0' g1'
  go_wp2_with fail
  by_cases hz : allZ (s.extract 40 48) = true
  case neg =>
    rw [Bool.eq_false_iff.2 hz]
    refine (must_no b _).mono ?_
    rintro e w' ⟨rfl, rfl⟩
    exact ⟨rfl, by rw [if_pos hm, if_neg hz], hb11⟩
  rw [hz]
  refine (must_yes b _).mono ?_
  rintro e w' ⟨rfl, rfl⟩
  have g1 : w'.heap[w9.heap.size]? = some (Obj.cells (headCells s) 121 (0, 0)) := g1
  go_wp2_with (first | refine wpList_load_row rfl 121 _ rfl w9.heap.size rfl 121 _ (0, 0) _ g1 Tryz.underlying121 rfl (by kernel_rfl) ?_ | refine wpList_store_row rfl 121 _ _ rfl w.heap.size (headCells s) rfl rfl 121 _ g0 (by kernel_rfl) rfl (headCells_one s) ?_)
  refine bodyPost_ret (v := .agg (headCells s)) (results_cell_row Tryz.results164 _ _ w.heap.size 121 _ (0, 0) _ rfl (setRow_heap _ _ _ _ _ _ g0) Tryz.underlying121 rfl (by kernel_rfl)) rfl ⟨rfl, hb11.setRow (Nat.le_refl _) _⟩
end Go.Proofs.YtoopaigpjefonaaGreatDoor

namespace Go.Proofs.YtoopaigpjefonaaGreatDoor
set_option maxRecDepth 20000
open Go.RowKit

set_option maxRecDepth 10000 in
theorem catch_gave (p : Addr) (x y : Int) (w : World) (hc : w.cell? p = some (.int .i64 x)) (hz : w.frozen? p = false) :
    CallsD Tryz.prog 178 #[.pointer (some p)] (.panicking (gave y)) w fun e u' w' =>
      e = .returned (.tuple #[]) ∧ settle u' = .returning ∧ w' = (w.alloc (.cells #[.int .i64 y] 281)).setCell p (.int .i64 y) := by
  have hn := block_lt_of_cell hc
  have hz' : ∀ o, (w.alloc o).frozen? p = false := fun o => by
    have hb := (below_new w o).block p.block hn
    simpa [World.frozen?, hb] using hz
  have hta : ∀ (v : Value) (it : TypeId) (w : World), (Instr.typeAssert (.iface 281 v) it 281 true).run Tryz.prog w = .ok (.tuple #[v, .bool true]) w := fun _ _ _ => rfl
  refine callsD_of_wpS Tryz.func178 rfl fun c₀ cs hu => ?_
  apply wpS_seq
  generalize hK : Exit.thenS _ _ = K
  apply wpS_region
  simp [wpOpsS, go_sem, recoverD, hu, gave, Tryz.ntmps178]
  subst hK
  refine wpS_of_wp (a := { tmps := #[.pointer (some p), .iface 281 (.agg #[.int .i64 y]), undef, undef, .iface 281 (.agg #[.int .i64 y]), undef, undef, undef, undef, undef, undef, undef, undef, undef, undef, undef, undef], defers := [] }) ?_
  go_wp2
  exact ⟨rfl, _, rfl, _, by simp [results, Tryz.results178], rfl, rfl, rfl⟩
theorem catch_idle (p : Addr) (w : World) :
    CallsD Tryz.prog 178 #[.pointer (some p)] .returning w fun e u' w' => e = .returned (.tuple #[]) ∧ u' = .returning ∧ w' = w := by
  refine callsD_of_wpS Tryz.func178 rfl fun c₀ cs hu => ?_
  apply wpS_seq
  generalize hK : Exit.thenS _ _ = K
  apply wpS_region
  simp [wpOpsS, go_sem, recoverD, hu, Tryz.ntmps178]
  subst hK
  refine wpS_of_wp (a := { tmps := #[.pointer (some p), .nilIface, undef, undef, .nilIface, undef, undef, undef, undef, undef, undef, undef, undef, undef, undef, undef, undef], defers := [] }) ?_
  go_wp2
  cases c₀
  simp_all [bodyPostS, results, Tryz.results178]
theorem read_long (s : ByteArray) (n : Nat) (hs : n < s.size) (w : World) :
    Calls Tryz.prog 163 #[.string s, .int .i64 n, .func (.func 164) #[] #[]] w fun e w' => e = .returned (.tuple #[.agg #[.int .i64 0, .int .i64 0, .int .i64 0, .int .i64 0, .int .i64 0, .int .i64 0, .int .i64 0, .int .i64 0], .int .i64 4]) ∧ Below w.heap.size w w' := by
  have hmf : ∀ (fn : Fn) (first cap : Array Value) (w : World), (Instr.makeFunc fn first cap).run Tryz.prog w = .ok (.func fn first cap) w := fun _ _ _ _ => rfl
  go_enter_defers Tryz.func163, Tryz.ntmps163
  go_wp2
  refine leaves_cons (f := 178) (args := #[.pointer (some ⟨w.heap.size + 1, 0, none⟩)]) (by simp) (by simp [go_sem]) ?_
  refine (catch_idle ⟨w.heap.size + 1, 0, none⟩ _).mono ?_
  rintro e u' w'' ⟨rfl, rfl, rfl⟩
  simp [Leaves, settle, results, Tryz.results163, go_sem]
  exact ((Below.refl _ _).alloc (Nat.le_refl _) _).alloc (by simp) _

theorem read_results (tmps : Array Value) (w : World) (g : Nat) (cs : Array Value) (y : Int) (h6 : tmps.getD 6 undef = .pointer (some ⟨g, 0, none⟩)) (h7 : tmps.getD 7 undef = .pointer (some ⟨g + 1, 0, none⟩))
    (hg : w.heap[g]? = some (.cells cs 121 (0, 0))) (hs : cs.size = 8) (hc : w.cell? ⟨g + 1, 0, none⟩ = some (.int .i64 y)) :
    (results Tryz.f163 tmps).run Tryz.prog w = .ok (.tuple #[.agg cs, .int .i64 y]) w := by
  have hr := run_loadVar_row (P := Tryz.prog) w g 121 121 cs (0, 0) _ hg Tryz.underlying121 rfl (by rw [hs]; kernel_rfl)
  have h2 : (loadVar 32 ⟨g + 1, 0, none⟩).run Tryz.prog w = .ok (.int .i64 y) w := by simp [hc, go_sem]
  simp at h6 h7
  simp [results, Tryz.results163, h6, h7, asAddr, hr, h2]

theorem read_panics (s : ByteArray) (hs : s.size ≤ 48) (y : Int) (hT : ∀ (w : World) (b : Nat), Rd w b s 0 → Calls Tryz.prog 164 #[.pointer (some ⟨b, 0, none⟩)] w fun e w' => e = .panicked (gave y) ∧ Only b w w') (w : World) :
    Calls Tryz.prog 163 #[.string s, .int .i64 48, .func (.func 164) #[] #[]] w fun e w' => e = .returned (.tuple #[.agg #[.int .i64 0, .int .i64 0, .int .i64 0, .int .i64 0, .int .i64 0, .int .i64 0, .int .i64 0, .int .i64 0], .int .i64 y]) ∧ Below w.heap.size w w' := by
  have hmf : ∀ (fn : Fn) (first cap : Array Value) (w : World), (Instr.makeFunc fn first cap).run Tryz.prog w = .ok (.func fn first cap) w := fun _ _ _ _ => rfl
  have i1 : ¬ (48 : Int) < s.size := by omega
  go_enter_defers Tryz.func163, Tryz.ntmps163
  go_wp2_with fail
  have hb0 : Below w.heap.size w (((w.alloc (.cells #[.int .i64 0, .int .i64 0, .int .i64 0, .int .i64 0, .int .i64 0, .int .i64 0, .int .i64 0, .int .i64 0] 121)).alloc (.cells #[.int .i64 0] 32)).alloc (.cells #[.string s, .int .i64 0] 285)) := (((Below.refl _ _).alloc (Nat.le_refl _) _).alloc (by simp) _).alloc (by simp; omega) _
  have hR : Rd (((w.alloc (.cells #[.int .i64 0, .int .i64 0, .int .i64 0, .int .i64 0, .int .i64 0, .int .i64 0, .int .i64 0, .int .i64 0] 121)).alloc (.cells #[.int .i64 0] 32)).alloc (.cells #[.string s, .int .i64 0] 285)) (w.heap.size + 1 + 1) s 0 := by
    have := heap_alloc_new ((w.alloc (.cells #[.int .i64 0, .int .i64 0, .int .i64 0, .int .i64 0, .int .i64 0, .int .i64 0, .int .i64 0, .int .i64 0] 121)).alloc (.cells #[.int .i64 0] 32)) (.cells #[.string s, .int .i64 0] 285)
    simpa [Rd] using this
  have g0 : (((w.alloc (.cells #[.int .i64 0, .int .i64 0, .int .i64 0, .int .i64 0, .int .i64 0, .int .i64 0, .int .i64 0, .int .i64 0] 121)).alloc (.cells #[.int .i64 0] 32)).alloc (.cells #[.string s, .int .i64 0] 285)).heap[w.heap.size]? = some (.cells #[.int .i64 0, .int .i64 0, .int .i64 0, .int .i64 0, .int .i64 0, .int .i64 0, .int .i64 0, .int .i64 0] 121 (0, 0)) :=
    (Below.heap_alloc _ _ _ (by simp; omega)).trans (heap_alloc2_old w _ _)
  have g1 : (((w.alloc (.cells #[.int .i64 0, .int .i64 0, .int .i64 0, .int .i64 0, .int .i64 0, .int .i64 0, .int .i64 0, .int .i64 0] 121)).alloc (.cells #[.int .i64 0] 32)).alloc (.cells #[.string s, .int .i64 0] 285)).heap[w.heap.size + 1]? = some (.cells #[.int .i64 0] 32 (0, 0)) :=
    (Below.heap_alloc _ _ _ (by simp)).trans (heap_alloc2_new w _ _)
  generalize ((w.alloc (.cells #[.int .i64 0, .int .i64 0, .int .i64 0, .int .i64 0, .int .i64 0, .int .i64 0, .int .i64 0, .int .i64 0] 121)).alloc (.cells #[.int .i64 0] 32)).alloc (.cells #[.string s, .int .i64 0] 285) = w0 at *
  refine (hT _ _ hR).mono ?_
  rintro e w1 ⟨rfl, hb1⟩
  have hl := hR.lt
  have k0 := (hb1.2 w.heap.size (by omega) (by omega)).trans g0
  have k1 := (hb1.2 (w.heap.size + 1) (by omega) (by omega)).trans g1
  have hl1 := lt_of_block k1
  have hbw : Below w.heap.size w w1 := hb0.trans ((hb1.below (by omega)).mono (by omega))
  clear hT hmf hR hb0 hb1 g0 g1
  refine leaves_cons (f := 178) (args := #[.pointer (some ⟨w.heap.size + 1, 0, none⟩)]) (by simp) (by simp [go_sem]) ?_
  refine (catch_gave ⟨w.heap.size + 1, 0, none⟩ 0 y w1 (by simp [World.cell?, k1]) (by simp [World.frozen?, k1])).mono ?_
  rintro e u' w2 ⟨rfl, hu, rfl⟩
  have c0 : ((w1.alloc (.cells #[.int .i64 y] 281)).setCell ⟨w.heap.size + 1, 0, none⟩ (.int .i64 y)).heap[w.heap.size]? = some (.cells #[.int .i64 0, .int .i64 0, .int .i64 0, .int .i64 0, .int .i64 0, .int .i64 0, .int .i64 0, .int .i64 0] 121 (0, 0)) :=
    (Below.heap_setCell _ _ _ _ (by simp)).trans ((Below.heap_alloc _ _ _ (by omega)).trans k0)
  have c1 := heap_setCell_same (w1.alloc (.cells #[.int .i64 y] 281)) (w.heap.size + 1) 0 _ _ (.int .i64 y) ((Below.heap_alloc _ _ _ (by omega)).trans k1)
  show Leaves _ _ _ _ _ (settle u') _
  rw [hu]
  exact ⟨_, read_results _ _ w.heap.size _ y rfl rfl c0 rfl (by simp [World.cell?, c1]), rfl, (hbw.alloc (by omega) _).setCell (p := ⟨w.heap.size + 1, 0, none⟩) (by simp) _⟩
end Go.Proofs.YtoopaigpjefonaaGreatDoor

namespace Go.Proofs.YtoopaigpjefonaaGreatDoor
set_option maxRecDepth 20000
open Go.RowKit

theorem read_returns (s : ByteArray) (hs : s.size ≤ 48) (hT : ∀ (w : World) (b : Nat), Rd w b s 0 → Calls Tryz.prog 164 #[.pointer (some ⟨b, 0, none⟩)] w fun e w' => e = .returned (.agg (headCells s)) ∧ Only b w w') (w : World) :
    Calls Tryz.prog 163 #[.string s, .int .i64 48, .func (.func 164) #[] #[]] w fun e w' => e = .returned (.tuple #[.agg (headCells s), .int .i64 0]) ∧ Below w.heap.size w w' := by
  have hmf : ∀ (fn : Fn) (first cap : Array Value) (w : World), (Instr.makeFunc fn first cap).run Tryz.prog w = .ok (.func fn first cap) w := fun _ _ _ _ => rfl
  have i1 : ¬ (48 : Int) < s.size := by omega
  go_enter_defers Tryz.func163, Tryz.ntmps163
  go_wp2_with fail
  have hb0 : Below w.heap.size w (((w.alloc (.cells #[.int .i64 0, .int .i64 0, .int .i64 0, .int .i64 0, .int .i64 0, .int .i64 0, .int .i64 0, .int .i64 0] 121)).alloc (.cells #[.int .i64 0] 32)).alloc (.cells #[.string s, .int .i64 0] 285)) := (((Below.refl _ _).alloc (Nat.le_refl _) _).alloc (by simp) _).alloc (by simp; omega) _
  have hR : Rd (((w.alloc (.cells #[.int .i64 0, .int .i64 0, .int .i64 0, .int .i64 0, .int .i64 0, .int .i64 0, .int .i64 0, .int .i64 0] 121)).alloc (.cells #[.int .i64 0] 32)).alloc (.cells #[.string s, .int .i64 0] 285)) (w.heap.size + 1 + 1) s 0 := by
    have := heap_alloc_new ((w.alloc (.cells #[.int .i64 0, .int .i64 0, .int .i64 0, .int .i64 0, .int .i64 0, .int .i64 0, .int .i64 0, .int .i64 0] 121)).alloc (.cells #[.int .i64 0] 32)) (.cells #[.string s, .int .i64 0] 285)
    simpa [Rd] using this
  have g0 : (((w.alloc (.cells #[.int .i64 0, .int .i64 0, .int .i64 0, .int .i64 0, .int .i64 0, .int .i64 0, .int .i64 0, .int .i64 0] 121)).alloc (.cells #[.int .i64 0] 32)).alloc (.cells #[.string s, .int .i64 0] 285)).heap[w.heap.size]? = some (.cells #[.int .i64 0, .int .i64 0, .int .i64 0, .int .i64 0, .int .i64 0, .int .i64 0, .int .i64 0, .int .i64 0] 121 (0, 0)) :=
    (Below.heap_alloc _ _ _ (by simp; omega)).trans (heap_alloc2_old w _ _)
  have g1 : (((w.alloc (.cells #[.int .i64 0, .int .i64 0, .int .i64 0, .int .i64 0, .int .i64 0, .int .i64 0, .int .i64 0, .int .i64 0] 121)).alloc (.cells #[.int .i64 0] 32)).alloc (.cells #[.string s, .int .i64 0] 285)).heap[w.heap.size + 1]? = some (.cells #[.int .i64 0] 32 (0, 0)) :=
    (Below.heap_alloc _ _ _ (by simp)).trans (heap_alloc2_new w _ _)
  generalize ((w.alloc (.cells #[.int .i64 0, .int .i64 0, .int .i64 0, .int .i64 0, .int .i64 0, .int .i64 0, .int .i64 0, .int .i64 0] 121)).alloc (.cells #[.int .i64 0] 32)).alloc (.cells #[.string s, .int .i64 0] 285) = w0 at *
  refine (hT _ _ hR).mono ?_
  rintro e w1 ⟨rfl, hb1⟩
  have hl := hR.lt
  have k0 := (hb1.2 w.heap.size (by omega) (by omega)).trans g0
  have k1 := (hb1.2 (w.heap.size + 1) (by omega) (by omega)).trans g1
  have hl1 := lt_of_block k1
  have hbw : Below w.heap.size w w1 := hb0.trans ((hb1.below (by omega)).mono (by omega))
  have c0 := setRow_heap w1 w.heap.size _ (headCells s) _ _ k0
  have c1 := (setRow_other w1 w.heap.size (w.heap.size + 1) (headCells s) (by omega)).trans k1
  have c2 : (w1.setRow w.heap.size (headCells s)).cell? ⟨w.heap.size + 1, 0, none⟩ = some (.int .i64 0) := by simp [World.cell?, c1]
  have c3 : (w1.setRow w.heap.size (headCells s)).frozen? ⟨w.heap.size + 1, 0, none⟩ = false := by simp [World.frozen?, c1]
  have hbr : Below w.heap.size w (w1.setRow w.heap.size (headCells s)) := hbw.trans ⟨rfl, rfl, rfl, by simp [World.setRow], fun k hk => setRow_other _ _ _ _ (by omega)⟩
  clear hT hmf hR hb0 hb1 g0 g1
  go_wp2_with (refine wpList_store_row rfl 121 _ _ rfl w.heap.size (headCells s) rfl rfl 121 _ k0 (by kernel_rfl) rfl (headCells_one s) ?_)
  refine leaves_cons (f := 178) (args := #[.pointer (some ⟨w.heap.size + 1, 0, none⟩)]) (by simp) (by simp [go_sem]) ?_
  refine (catch_idle ⟨w.heap.size + 1, 0, none⟩ _).mono ?_
  rintro e u' w2 ⟨rfl, rfl, rfl⟩
  have d1 := heap_setCell_same (w1.setRow w.heap.size (headCells s)) (w.heap.size + 1) 0 _ _ (.int .i64 0) c1
  exact ⟨_, read_results _ _ w.heap.size _ 0 rfl rfl ((Below.heap_setCell _ _ _ _ (by simp)).trans c0) rfl (by simp [World.cell?, d1]), rfl, hbr.setCell (p := ⟨w.heap.size + 1, 0, none⟩) (by simp) _⟩

/-- The error that a text is as a head. -/
def headE (s : ByteArray) : Int :=
  if 48 < s.size then 4 else if s.size < 48 then 3 else if ((s.extract 0 4).toList == [71, 82, 80, 78]) = true then if allZ (s.extract 40 48) = true then 0 else 5 else 5
/-- A head's number of a text. -/
def headN (s : ByteArray) (a k : Nat) : Int := if headE s = 0 then leVal ((s.data.toList.drop a).take k) else 0
def headC (s : ByteArray) : Array Value := #[.int .i64 (headN s 4 6), .int .i64 (headN s 10 4), .int .i64 (headN s 14 2), .int .i64 (headN s 16 4), .int .i64 (headN s 20 4), .int .i64 (headN s 24 4), .int .i64 (headN s 28 6), .int .i64 (headN s 34 6)]
theorem headC_one (s : ByteArray) : (headC s).all (·.oneCell') = true := by simp [headC, Value.oneCell']
theorem headC_no {s : ByteArray} (h : ¬ headE s = 0) : headC s = #[.int .i64 0, .int .i64 0, .int .i64 0, .int .i64 0, .int .i64 0, .int .i64 0, .int .i64 0, .int .i64 0] := by simp [headC, headN, h]
theorem headC_yes {s : ByteArray} (h : headE s = 0) : headC s = headCells s := by simp [headC, headN, headCells, h]

theorem readHead_any (s : ByteArray) (w : World) :
    Calls Tryz.prog 163 #[.string s, .int .i64 48, .func (.func 164) #[] #[]] w fun e w' => e = .returned (.tuple #[.agg (headC s), .int .i64 (headE s)]) ∧ Below w.heap.size w w' := by
  by_cases h1 : 48 < s.size
  · have he : headE s = 4 := by simp [headE, h1]
    rw [headC_no (by rw [he]; decide), he]
    exact read_long s 48 h1 w
  by_cases h2 : s.size < 48
  · have he : headE s = 3 := by simp [headE, h1, h2]
    rw [headC_no (by rw [he]; decide), he]
    exact read_panics s (by omega) 3 (fun w b h => takeHead_short b s h2 w h) w
  by_cases h3 : ((s.extract 0 4).toList == [71, 82, 80, 78]) = true
  case neg =>
    have he : headE s = 5 := by rw [headE, if_neg h1, if_neg h2, if_neg h3]
    rw [headC_no (by rw [he]; decide), he]
    exact read_panics s (by omega) 5 (fun w b h => by simpa only [if_neg h3] using takeHead_full b s (by omega) w h) w
  by_cases h4 : allZ (s.extract 40 48) = true
  case neg =>
    have he : headE s = 5 := by rw [headE, if_neg h1, if_neg h2, if_pos h3, if_neg h4]
    rw [headC_no (by rw [he]; decide), he]
    exact read_panics s (by omega) 5 (fun w b h => by simpa only [if_pos h3, if_neg h4] using takeHead_full b s (by omega) w h) w
  have he : headE s = 0 := by rw [headE, if_neg h1, if_neg h2, if_pos h3, if_pos h4]
  rw [headC_yes he, he]
  exact read_returns s (by omega) (fun w b h => by simpa only [if_pos h3, if_pos h4] using takeHead_full b s (by omega) w h) w

theorem headOf_any (s : ByteArray) (w : World) :
    Calls Tryz.prog 131 #[.string s] w fun e w' => e = .returned (.tuple #[.agg (headC s), .int .i64 (headE s)]) ∧ Below w.heap.size w w' := by
  have hmf : ∀ (fn : Fn) (first cap : Array Value) (w : World), (Instr.makeFunc fn first cap).run Tryz.prog w = .ok (.func fn first cap) w := fun _ _ _ _ => rfl
  go_enter Tryz.func131, Tryz.ntmps131
  go_wp2_with fail
  refine (readHead_any s _).mono ?_
  rintro e w1 ⟨rfl, hb1⟩
  have g0 := (hb1.block w.heap.size (by simp)).trans (heap_alloc_new w _)
  have hbw : Below w.heap.size w w1 := (below_new w _).trans (hb1.mono (by simp))
  clear hb1
  go_wp2_with (refine wpList_store_row rfl 121 _ _ rfl w.heap.size (headC s) rfl rfl 121 _ g0 (by kernel_rfl) rfl (headC_one s) ?_)
  have hr := run_loadVar_row (P := Tryz.prog) (w1.setRow w.heap.size (headC s)) w.heap.size 121 121 (headC s) (0, 0) _ (setRow_heap _ _ _ _ _ _ g0) Tryz.underlying121 rfl (by kernel_rfl)
  exact bodyPost_ret (v := .tuple #[.agg (headC s), .int .i64 (headE s)]) (by simp [results, Tryz.results131, asAddr, hr]) rfl ⟨rfl, hbw.trans ⟨rfl, rfl, rfl, by simp [World.setRow], fun k hk => setRow_other _ _ _ _ (by omega)⟩⟩
end Go.Proofs.YtoopaigpjefonaaGreatDoor
