/- journal's promise over any vault that is told. · journal's superIn: the superblock that a slot's reading is. · journal's Choose: the superblock of two slots' readings. -/
import Derived.Test.YtldkdoddklfdlaaGreatDoorMg13
import Derived.Test.YtldkdoddklfdlaaGreatDoorMg40
import Derived.BigQuiet
import Derived.Deep.RegionHeld3
import Derived.Test.YtldkdoddklfdlaaGreatDoorMg12
import Derived.Laws.Small
import Derived.BigFrame
namespace Go.Proofs.YtldkdoddklfdlaaGreatDoor
set_option maxRecDepth 20000
open Go.RowKit

theorem jpro_ret (tmps : Array Value) (g : Nat) (w' : World) (a : Int) (r : ByteArray) (y : Int) (R : Ending → World → Prop) (h1 : tmps.getD 6 undef = .pointer (some ⟨g, 0, none⟩)) (h2 : tmps.getD 7 undef = .int .i64 y) (hg : w'.heap[g]? = some (.cells #[.int .i64 a, .string r] 27 (0, 0))) (hR : R (.returned (.tuple #[.agg #[.int .i64 a, .string r], .int .i64 y])) w') :
    bodyPost Tryz.prog Tryz.f50 R .ret { tmps := tmps, defers := [] } w' := by
  have hr := run_loadVar_row (P := Tryz.prog) w' g 27 27 #[.int .i64 a, .string r] (0, 0) _ hg Tryz.underlying27 rfl (by kernel_rfl)
  simp at h1 h2
  exact bodyPost_ret (v := .tuple #[.agg #[.int .i64 a, .string r], .int .i64 y]) (by simp [results, Tryz.results50, asAddr, hr, h1, h2]) rfl hR
set_option maxHeartbeats 4000000 in
theorem jpro_yes (v : Value) (l : List Wt) (oa : Option Addr) (ca : Nat) (a0 a1 a2 a3 : Int) (r T C J H B X : ByteArray) (E : Int) (P Q : World → Prop) (w : World) (hP : Stb w.heap.size P) (hQ : Stb w.heap.size Q) (hT : T.size = 448) (hC : C.size = 2) (hH : H.size = 32)
    (hp : ∀ w, Calls Tryz.prog 12 #[.agg #[.int .i64 a0, .int .i64 a1, .int .i64 a2, .int .i64 a3, .string r]] w fun e w' => e = .returned (.tuple #[.string T, .int .i64 0]) ∧ Below w.heap.size w w')
    (hput : ∀ w, Calls Tryz.prog 67 #[.int .i64 (l.length : Int), .int .i64 2] w fun e w' => e = .returned (.tuple #[.string C, .int .i64 0]) ∧ Below w.heap.size w w')
    (hj : ∀ w', Below w.heap.size w w' → Calls Tryz.prog 88 #[.slice oa l.length ca] w' fun e w'' => e = .returned (.string J) ∧ Below w'.heap.size w' w'')
    (hh : ∀ w', Below w.heap.size w w' → Calls Tryz.prog 87 #[v, .string J] w' fun e w'' => e = .returned (.string H) ∧ Q w'' ∧ Kept w.heap.size w' w'' ∧ w'.heap.size ≤ w''.heap.size)
    (hpad : ∀ w, Calls Tryz.prog 68 #[.string (C ++ H ++ T.extract 0 54), .int .i64 448] w fun e w' => e = .returned (.tuple #[.string B, .int .i64 0]) ∧ Below w.heap.size w w')
    (hs : ∀ w', Q w' → Calls Tryz.prog 13 #[v, .agg #[.int .i64 a0, .int .i64 2, .int .i64 2, .int .i64 0, .int .i64 0, .int .i64 0, .int .i64 a1, .int .i64 a1], .string B] w' fun e w'' => e = .returned (.tuple #[.string X, .int .i64 E]) ∧ P w'' ∧ Kept w.heap.size w' w'' ∧ w'.heap.size ≤ w''.heap.size) :
    Calls Tryz.prog 50 #[v, .slice oa l.length ca, .agg #[.int .i64 a0, .int .i64 a1, .int .i64 a2, .int .i64 a3, .string r]] w fun e w' => e = .returned (.tuple #[.agg #[.int .i64 (if E = 0 then 2 else 0), .string (if E = 0 then X else ⟨#[]⟩)], .int .i64 E]) ∧ P w' := by
  have h54 : (54 : Int) ≤ T.size := by omega
  have hU : (T.extract 0 54).size = 54 := by simp [hT]
  go_enter Tryz.func50, Tryz.ntmps50
  go_wp2_with fail
  refine (hp _).mono ?_
  rintro e w1 ⟨rfl, hb1⟩
  have g1 := (hb1.block (w.heap.size + 1) (by simp)).trans (heap_alloc2_new w _ _)
  have g0 := (hb1.block w.heap.size (by simp; omega)).trans (heap_alloc2_old w _ _)
  have hbw : Below w.heap.size w w1 := (((Below.refl _ _).alloc (Nat.le_refl _) _).alloc (by simp) _).trans (hb1.mono (by simp; omega))
  clear hp hb1
  go_wp2_with fail
  refine (hput _).mono ?_
  rintro e w2 ⟨rfl, hb2⟩
  have HB2 : Hid (Below w.heap.size w w2 ∧ w2.heap[w.heap.size + 1]? = some (.cells #[.int .i64 0, .string ⟨#[]⟩] 27 (0, 0)) ∧ w2.heap[w.heap.size]? = some (.cells #[.int .i64 a0, .int .i64 a1, .int .i64 a2, .int .i64 a3, .string r] 23 (0, 0))) := ⟨hbw.trans (hb2.mono hbw.size), (hb2.block _ (lt_of_block g1)).trans g1, (hb2.block _ (lt_of_block g0)).trans g0⟩
  clear hput hb2 g0 g1 hbw
  go_wp2_with fail
  go_region_held3 (fun _ => True) (exact True.intro) (first
    | (go_at_call 88; refine (hj _ HB2.out.1.drew).mono ?_; rintro e w3 ⟨rfl, hb3⟩; have HB3 : Hid (Below w.heap.size w w3 ∧ w3.heap[w.heap.size + 1]? = some (.cells #[.int .i64 0, .string ⟨#[]⟩] 27 (0, 0)) ∧ w3.heap[w.heap.size]? = some (.cells #[.int .i64 a0, .int .i64 a1, .int .i64 a2, .int .i64 a3, .string r] 23 (0, 0))) := ⟨HB2.out.1.drew.trans (hb3.mono HB2.out.1.size), (hb3.block _ (lt_of_block HB2.out.2.1)).trans HB2.out.2.1, (hb3.block _ (lt_of_block HB2.out.2.2)).trans HB2.out.2.2⟩; clear hb3)
    | (go_at_call 87; refine (hh _ HB3.out.1).mono ?_; rintro e w4 ⟨rfl, hq4, hk4, hz4⟩; have HB4 : Hid (Q w4 ∧ w4.heap[w.heap.size + 1]? = some (.cells #[.int .i64 0, .string ⟨#[]⟩] 27 (0, 0)) ∧ w4.heap[w.heap.size]? = some (.cells #[.int .i64 a0, .int .i64 a1, .int .i64 a2, .int .i64 a3, .string r] 23 (0, 0))) := ⟨hq4, (hk4 _ (by omega) (lt_of_block HB3.out.2.1)).trans HB3.out.2.1, (hk4 _ (by omega) (lt_of_block HB3.out.2.2)).trans HB3.out.2.2⟩; clear hq4 hk4 hz4)
    | (go_at_call 68; refine (hpad _).mono ?_; rintro e w5 ⟨rfl, hb5⟩; have HB5 : Hid (Q w5 ∧ w5.heap[w.heap.size + 1]? = some (.cells #[.int .i64 0, .string ⟨#[]⟩] 27 (0, 0)) ∧ w5.heap[w.heap.size]? = some (.cells #[.int .i64 a0, .int .i64 a1, .int .i64 a2, .int .i64 a3, .string r] 23 (0, 0))) := ⟨hQ _ _ HB4.out.1 (hb5.mono (by have := lt_of_block HB4.out.2.1; omega)), (hb5.block _ (lt_of_block HB4.out.2.1)).trans HB4.out.2.1, (hb5.block _ (lt_of_block HB4.out.2.2)).trans HB4.out.2.2⟩; clear hb5))
  have hlt5 := lt_of_block HB5.out.2.1
  have c0 : w5.cell? ⟨w.heap.size, 0, none⟩ = some (.int .i64 a0) := cell_of_row _ _ 0 _ _ _ HB5.out.2.2
  have c1 : w5.cell? ⟨w.heap.size, 1, none⟩ = some (.int .i64 a1) := cell_of_row _ _ 1 _ _ _ HB5.out.2.2
  have hbA : Below w5.heap.size w5 (w5.alloc (.cells #[.int .i64 a0, .int .i64 2, .int .i64 2, .int .i64 0, .int .i64 0, .int .i64 0, .int .i64 a1, .int .i64 a1] 51)) := (Below.refl _ _).alloc (Nat.le_refl _) _
  have hs2 := hs (w5.alloc (.cells #[.int .i64 a0, .int .i64 2, .int .i64 2, .int .i64 0, .int .i64 0, .int .i64 0, .int .i64 a1, .int .i64 a1] 51)) (hQ _ _ HB5.out.1 (hbA.mono (by omega)))
  have g5 : (w5.alloc (.cells #[.int .i64 a0, .int .i64 2, .int .i64 2, .int .i64 0, .int .i64 0, .int .i64 0, .int .i64 a1, .int .i64 a1] 51)).heap[w.heap.size + 1]? = some (.cells #[.int .i64 0, .string ⟨#[]⟩] 27 (0, 0)) := (Below.heap_alloc _ _ _ hlt5).trans HB5.out.2.1
  clear hj hh hpad hs hbA HB2 HB3 HB4
  go_wp2_with fail
  refine hs2.mono ?_
  rintro e w6 ⟨rfl, hp6, hk6, hz6⟩
  have g6 : w6.heap[w.heap.size + 1]? = some (.cells #[.int .i64 0, .string ⟨#[]⟩] 27 (0, 0)) := (hk6 _ (by omega) (by simp; omega)).trans g5
  have gh : w6.heap[w5.heap.size]? = _ := (hk6 _ (by omega) (by simp)).trans (heap_alloc_new w5 _)
  have ch : w6.cell? ⟨w5.heap.size, 1, none⟩ = some (.int .i64 2) := cell_of_row _ _ 1 _ _ _ gh
  have HP6 : Hid (∀ cs, P (w6.setRow (w.heap.size + 1) cs)) := fun cs => hP _ _ hp6 (below_setRow (Below.refl _ _) (by omega) _)
  clear hs2 c0 c1 gh hp6 hk6 hz6 g5 HB5
  by_cases hE : E = 0
  · subst hE
    go_wp2_with (refine wpList_store_row rfl 27 _ _ rfl (w.heap.size + 1) #[.int .i64 2, .string X] rfl rfl 27 _ g6 (by kernel_rfl) rfl (by simp [Value.oneCell']) ?_)
    exact jpro_ret _ (w.heap.size + 1) _ 2 X 0 _ rfl rfl (setRow_heap _ _ _ _ _ _ g6) ⟨by simp, HP6.out _⟩
  · have hE1 : (E != 0) = true := by simpa using hE
    go_wp2_with (refine wpList_store_row rfl 27 _ _ rfl (w.heap.size + 1) #[.int .i64 0, .string ⟨#[]⟩] rfl rfl 27 _ g6 (by kernel_rfl) rfl (by simp [Value.oneCell']) ?_)
    exact jpro_ret _ (w.heap.size + 1) _ 0 ⟨#[]⟩ E _ rfl rfl (setRow_heap _ _ _ _ _ _ g6) ⟨by simp, HP6.out _⟩
set_option maxHeartbeats 4000000 in
theorem jpro_no (v u : Value) (a0 a1 a2 a3 : Int) (r T : ByteArray) (E : Int) (w : World) (hE : ¬ E = 0)
    (hp : ∀ w, Calls Tryz.prog 12 #[.agg #[.int .i64 a0, .int .i64 a1, .int .i64 a2, .int .i64 a3, .string r]] w fun e w' => e = .returned (.tuple #[.string T, .int .i64 E]) ∧ Below w.heap.size w w') :
    Calls Tryz.prog 50 #[v, u, .agg #[.int .i64 a0, .int .i64 a1, .int .i64 a2, .int .i64 a3, .string r]] w fun e w' => e = .returned (.tuple #[.agg #[.int .i64 0, .string ⟨#[]⟩], .int .i64 E]) ∧ Below w.heap.size w w' := by
  have hE1 : (E != 0) = true := by simpa using hE
  clear hE
  go_enter Tryz.func50, Tryz.ntmps50
  go_wp2_with fail
  refine (hp _).mono ?_
  rintro e w1 ⟨rfl, hb1⟩
  have g1 := (hb1.block (w.heap.size + 1) (by simp)).trans (heap_alloc2_new w _ _)
  have hbw : Below w.heap.size w w1 := (((Below.refl _ _).alloc (Nat.le_refl _) _).alloc (by simp) _).trans (hb1.mono (by simp; omega))
  clear hp hb1
  go_wp2_with (refine wpList_store_row rfl 27 _ _ rfl (w.heap.size + 1) #[.int .i64 0, .string ⟨#[]⟩] rfl rfl 27 _ g1 (by kernel_rfl) rfl (by simp [Value.oneCell']) ?_)
  exact jpro_ret _ (w.heap.size + 1) _ 0 ⟨#[]⟩ E _ rfl rfl (setRow_heap _ _ _ _ _ _ g1) ⟨rfl, below_setRow hbw (by omega) _⟩
theorem pro_sizes {K : VK} (HK : VKOk K) {S : K.σ} {l : List Wt} {s : Sp} (hr : K.room S 1) (hll : l.length ≤ 24) (he : s.err = 0) : putE (l.length : Int) 2 = 0 ∧ (putS (l.length : Int) 2).size = 2 ∧ (K.hS S (joinB l)).size = 32 ∧ padE (putS (l.length : Int) 2 ++ K.hS S (joinB l) ++ s.txt.extract 0 54) 448 = 0 ∧ (proT K S l s).size = 448 := by
  have h1 : putE (l.length : Int) 2 = 0 := by
    unfold putE
    rw [if_neg (by decide), if_neg (by have : (256 : Int) ^ (2 : Int).toNat = 65536 := by decide
                                       omega)]
  have h2 : (putS (l.length : Int) 2).size = 2 := putS_len h1
  have h3 := HK.hSize S (joinB l) hr
  have h4 : (putS (l.length : Int) 2 ++ K.hS S (joinB l) ++ s.txt.extract 0 54).size = 88 := by
    rw [ByteArray.size_append, ByteArray.size_append, h2, h3, ByteArray.size_extract, sp_size he]
    rfl
  refine ⟨h1, h2, h3, ?_, ?_⟩
  · unfold padE
    rw [if_neg (by decide), h4]
    rfl
  · unfold proT
    unfold padS
    rw [if_pos (by rw [h4]; decide)]
    generalize putS (l.length : Int) 2 ++ K.hS S (joinB l) ++ s.txt.extract 0 54 = x at *
    show (x.data.toList ++ List.replicate ((448 : Int).toNat - x.size) 0).toArray.size = 448
    rw [List.size_toArray, List.length_append, List.length_replicate, ← Lib.size_eq, h4]
    rfl
theorem jpro_any (K : VK) (HK : VKOk K) (F : Nat → Prop) (S : K.σ) (s : Sp) (oa : Option Addr) (ca : Nat) (l : List Wt) {w w' : World} (hr : K.room S 2) (hl : VOut K F w S w') (hw : w.heap.size ≤ w'.heap.size) (hv : Wts w' (.slice oa l.length ca) l) (hll : l.length ≤ 24) (hsz : ∀ x ∈ l, x.raw.size ≤ 512) :
    Calls Tryz.prog 50 #[K.v, .slice oa l.length ca, .agg s.arr] w' fun e w'' => e = .returned (.tuple #[.agg #[.int .i64 (proA K S l s), .string (proR K S l s)], .int .i64 (proE K S l s)]) ∧ VOut K F w (proP K S l s) w'' ∧ Kept w.heap.size w' w'' ∧ w'.heap.size ≤ w''.heap.size := by
  have hp := fun w => super_any s.vol s.ep s.nx s.lv s.root w
  by_cases he : s.err = 0
  · have he' : superE s.vol s.ep s.nx s.lv s.root = 0 := he
    obtain ⟨z1, z2, z3, z4, z5⟩ := pro_sizes HK (HK.less hr (by omega)) hll he
    have hJ : (joinB l).size ≤ 1000000 := by
      have := joinB_le l hsz
      rw [joinB_size] at this
      omega
    have e1 : proE K S l s = bsealE s.hdC (proT K S l s) := if_pos he
    have e2 : proP K S l s = K.sP (K.hP S (joinB l)) s.hdC (proT K S l s) := if_pos he
    have e3 : proA K S l s = if bsealE s.hdC (proT K S l s) = 0 then 2 else 0 := by unfold proA; rw [e1]
    have e4 : proR K S l s = if bsealE s.hdC (proT K S l s) = 0 then K.sS (K.hP S (joinB l)) s.hdC (proT K S l s) else ⟨#[]⟩ := by unfold proR; rw [e1]
    rw [e1, e2, e3, e4]
    have stb : ∀ S', Stb w'.heap.size (fun w'' => VOut K F w S' w'' ∧ Kept w.heap.size w' w'' ∧ w'.heap.size ≤ w''.heap.size) := fun S' w1 w2 h hb => ⟨VOut.stb HK _ _ h.1 (hb.mono hw), fun k hk hk2 => (hb.block k hk2).trans (h.2.1 k hk hk2), Nat.le_trans h.2.2 hb.size⟩
    refine jpro_yes K.v l oa ca s.vol s.ep s.nx s.lv s.root s.txt (putS (l.length : Int) 2) (joinB l) (K.hS S (joinB l)) (proT K S l s) (K.sS (K.hP S (joinB l)) s.hdC (proT K S l s)) (bsealE s.hdC (proT K S l s)) (fun w'' => VOut K F w (K.sP (K.hP S (joinB l)) s.hdC (proT K S l s)) w'' ∧ Kept w.heap.size w' w'' ∧ w'.heap.size ≤ w''.heap.size) (fun w'' => VOut K F w (K.hP S (joinB l)) w'' ∧ Kept w.heap.size w' w'' ∧ w'.heap.size ≤ w''.heap.size) w' (stb _) (stb _) (sp_size he) z2 z3 ?_ ?_ ?_ ?_ ?_ ?_
    · intro w1
      have := hp w1
      rw [he'] at this
      exact this
    · intro w1
      have := put_any (l.length : Int) 2 w1
      rw [z1] at this
      exact this
    · intro w1 hb
      exact joined_any _ l w1 (hv.below hb) (by omega) hsz
    · intro w1 hb
      refine (VOut.hash HK (joinB l) hJ (HK.less hr (by omega)) (VOut.stb HK _ _ hl (hb.mono hw))).mono fun e w'' ⟨h2, h3, h4, h5⟩ => ⟨h2, ⟨h3, fun k hk hk2 => (h4 k hk (Nat.lt_of_lt_of_le hk2 hb.size)).trans (hb.block k hk2), Nat.le_trans hb.size h5⟩, fun k hk hk2 => h4 k (Nat.le_trans hw hk) hk2, h5⟩
    · intro w1
      have := pad_any (putS (l.length : Int) 2 ++ K.hS S (joinB l) ++ s.txt.extract 0 54) 448 w1
      rw [z4] at this
      exact this
    · intro w1 h
      refine (VOut.seal_ HK s.hdC (proT K S l s) (HK.hRoom hr) h.1).mono fun e w'' ⟨h2, h3, h4, h5⟩ => ⟨h2, ⟨h3, fun k hk hk2 => (h4 k hk (Nat.lt_of_lt_of_le hk2 h.2.2)).trans (h.2.1 k hk hk2), Nat.le_trans h.2.2 h5⟩, fun k hk hk2 => h4 k (Nat.le_trans hw hk) hk2, h5⟩
  · have he' : ¬ superE s.vol s.ep s.nx s.lv s.root = 0 := he
    have e1 : proE K S l s = superE s.vol s.ep s.nx s.lv s.root := if_neg he
    have e2 : proP K S l s = S := if_neg he
    have e3 : proA K S l s = 0 := by unfold proA; rw [e1]; exact if_neg he'
    have e4 : proR K S l s = ⟨#[]⟩ := by unfold proR; rw [e1]; exact if_neg he'
    rw [e1, e2, e3, e4]
    exact (jpro_no K.v _ s.vol s.ep s.nx s.lv s.root (superS s.vol s.ep s.nx s.lv s.root) _ w' he' hp).mono fun e w'' ⟨h1, h2⟩ => ⟨h1, VOut.stb HK _ _ hl (h2.mono hw), fun k _ hk => h2.block k hk, h2.size⟩
end Go.Proofs.YtldkdoddklfdlaaGreatDoor

namespace Go.Proofs.YtldkdoddklfdlaaGreatDoor
set_option maxRecDepth 20000
open Go.RowKit

theorem jsin_ret (tmps : Array Value) (g : Nat) (w' : World) (cs : Array Value) (b : Bool) (R : Ending → World → Prop) (h1 : tmps.getD 6 undef = .pointer (some ⟨g, 0, none⟩)) (h2 : tmps.getD 7 undef = .bool b) (hg : w'.heap[g]? = some (.cells cs 23 (0, 0))) (hs : cs.size = 5) (hR : R (.returned (.tuple #[.agg cs, .bool b])) w') :
    bodyPost Tryz.prog Tryz.f89 R .ret { tmps := tmps, defers := [] } w' := by
  have hr := run_loadVar_row (P := Tryz.prog) w' g 23 23 cs (0, 0) _ hg Tryz.underlying23 rfl (by rw [hs]; kernel_rfl)
  simp at h1 h2
  exact bodyPost_ret (v := .tuple #[.agg cs, .bool b]) (by simp [results, Tryz.results89, asAddr, hr, h1, h2]) rfl hR
set_option maxHeartbeats 4000000 in
theorem jsin_in (ok : Bool) (h : Hd) (s : ByteArray) (c : Sp) (y : Int) (slot live : Int) (w : World)
    (ho : ∀ w, Calls Tryz.prog 119 #[.string s] w fun e w' => e = .returned (.tuple #[.agg c.arr, .int .i64 y]) ∧ Below w.heap.size w w') :
    Calls Tryz.prog 89 #[.agg #[.bool ok, .int .i64 h.v0, .int .i64 h.v1, .int .i64 h.v2, .int .i64 h.v3, .int .i64 h.v4, .int .i64 h.v5, .int .i64 h.v6, .int .i64 h.v7, .string s], .int .i64 slot, .int .i64 live] w fun e w' => e = .returned (.tuple #[.agg (if ok = true ∧ h.v2 = 1 ∧ y = 0 ∧ c.ep.tmod 2 = slot ∧ c.lv = live then c else Sp.zero).arr, .bool (decide (ok = true ∧ h.v2 = 1 ∧ y = 0 ∧ c.ep.tmod 2 = slot ∧ c.lv = live))]) ∧ Below w.heap.size w w' := by
  obtain ⟨c0, c1, c2, c3, r⟩ := c
  simp only [Sp.arr, Sp.zero] at *
  by_cases h1 : ok = true ∧ h.v2 = 1
  · obtain ⟨rfl, h2⟩ := h1
    by_cases h3 : y = 0 ∧ c1.tmod 2 = slot ∧ c3 = live
    · obtain ⟨rfl, h4, h5⟩ := h3
      rw [if_pos ⟨rfl, h2, rfl, h4, h5⟩, decide_eq_true (p := _ ∧ _) ⟨rfl, h2, rfl, h4, h5⟩]
      have k2 : (h.v2 != 1) = false := by simp [h2]
      have k4 : (c1.tmod 2 != slot) = false := by simp [h4]
      have k5 : (c3 != live) = false := by simp [h5]
      clear h2 h4 h5
      go_enter Tryz.func89, Tryz.ntmps89
      go_wp2_with fail
      refine (ho _).mono ?_
      rintro e w1 ⟨rfl, hb1⟩
      have g1 := (hb1.block (w.heap.size + 1) (by simp)).trans (heap_alloc2_new w _ _)
      have hbw : Below w.heap.size w w1 := (((Below.refl _ _).alloc (Nat.le_refl _) _).alloc (by simp) _).trans (hb1.mono (by simp; omega))
      have hlt := lt_of_block g1
      have g2 : (w1.alloc (.cells #[.int .i64 c0, .int .i64 c1, .int .i64 c2, .int .i64 c3, .string r] 23)).heap[w.heap.size + 1]? = some (.cells #[.int .i64 0, .int .i64 0, .int .i64 0, .int .i64 0, .string ⟨#[]⟩] 23 (0, 0)) := (Below.heap_alloc _ _ _ hlt).trans g1
      have gc : (w1.alloc (.cells #[.int .i64 c0, .int .i64 c1, .int .i64 c2, .int .i64 c3, .string r] 23)).heap[w1.heap.size]? = some (.cells #[.int .i64 c0, .int .i64 c1, .int .i64 c2, .int .i64 c3, .string r] 23 (0, 0)) := heap_alloc_new w1 _
      have hb2 : Below w.heap.size w (w1.alloc (.cells #[.int .i64 c0, .int .i64 c1, .int .i64 c2, .int .i64 c3, .string r] 23)) := hbw.alloc (by omega) _
      clear ho hb1 g1 hbw
      go_wp2_with (first | refine wpList_load_row rfl 23 _ rfl w1.heap.size rfl 23 _ (0, 0) _ gc Tryz.underlying23 rfl (by kernel_rfl) ?_ | refine wpList_store_row rfl 23 _ _ rfl (w.heap.size + 1) #[.int .i64 c0, .int .i64 c1, .int .i64 c2, .int .i64 c3, .string r] rfl rfl 23 _ g2 (by kernel_rfl) rfl (by simp [Value.oneCell']) ?_)
      exact jsin_ret _ (w.heap.size + 1) _ #[.int .i64 c0, .int .i64 c1, .int .i64 c2, .int .i64 c3, .string r] true _ rfl rfl (setRow_heap _ _ _ _ _ _ g2) rfl ⟨rfl, below_setRow hb2 (by omega) _⟩
    · rw [if_neg (fun h => h3 h.2.2), decide_eq_false (p := _ ∧ _) (fun h => h3 h.2.2)]
      have k2 : (h.v2 != 1) = false := by simp [h2]
      have hway : (y != 0) = true ∨ ((y != 0) = false ∧ (c1.tmod 2 != slot) = true) ∨ ((y != 0) = false ∧ (c1.tmod 2 != slot) = false ∧ (c3 != live) = true) := by
        by_cases e1 : y = 0
        · by_cases e2 : c1.tmod 2 = slot
          · exact .inr (.inr ⟨by simp [e1], by simp [e2], by simp; exact fun e3 => h3 ⟨e1, e2, e3⟩⟩)
          · exact .inr (.inl ⟨by simp [e1], by simpa using e2⟩)
        · exact .inl (by simpa using e1)
      clear h2 h3
      rcases hway with k3 | ⟨k3, k4⟩ | ⟨k3, k4, k5⟩
      all_goals
        go_enter Tryz.func89, Tryz.ntmps89
        go_wp2_with fail
        refine (ho _).mono ?_
        rintro e w1 ⟨rfl, hb1⟩
        have g1 := (hb1.block (w.heap.size + 1) (by simp)).trans (heap_alloc2_new w _ _)
        have hbw : Below w.heap.size w w1 := (((Below.refl _ _).alloc (Nat.le_refl _) _).alloc (by simp) _).trans (hb1.mono (by simp; omega))
        have hlt := lt_of_block g1
        have g2 : (w1.alloc (.cells #[.int .i64 c0, .int .i64 c1, .int .i64 c2, .int .i64 c3, .string r] 23)).heap[w.heap.size + 1]? = some (.cells #[.int .i64 0, .int .i64 0, .int .i64 0, .int .i64 0, .string ⟨#[]⟩] 23 (0, 0)) := (Below.heap_alloc _ _ _ hlt).trans g1
        have gc : (w1.alloc (.cells #[.int .i64 c0, .int .i64 c1, .int .i64 c2, .int .i64 c3, .string r] 23)).heap[w1.heap.size]? = some (.cells #[.int .i64 c0, .int .i64 c1, .int .i64 c2, .int .i64 c3, .string r] 23 (0, 0)) := heap_alloc_new w1 _
        have hb2 : Below w.heap.size w (w1.alloc (.cells #[.int .i64 c0, .int .i64 c1, .int .i64 c2, .int .i64 c3, .string r] 23)) := hbw.alloc (by omega) _
        clear ho hb1 g1 hbw
        go_wp2_with (refine wpList_store_row rfl 23 _ _ rfl (w.heap.size + 1) #[.int .i64 0, .int .i64 0, .int .i64 0, .int .i64 0, .string ⟨#[]⟩] rfl rfl 23 _ g2 (by kernel_rfl) rfl (by simp [Value.oneCell']) ?_)
        exact jsin_ret _ (w.heap.size + 1) _ #[.int .i64 0, .int .i64 0, .int .i64 0, .int .i64 0, .string ⟨#[]⟩] false _ rfl rfl (setRow_heap _ _ _ _ _ _ g2) rfl ⟨rfl, below_setRow hb2 (by omega) _⟩
  · rw [if_neg (fun h => h1 ⟨h.1, h.2.1⟩), decide_eq_false (p := _ ∧ _) (fun h => h1 ⟨h.1, h.2.1⟩)]
    have hb0 : Below w.heap.size w ((w.alloc (.cells #[.bool ok, .int .i64 h.v0, .int .i64 h.v1, .int .i64 h.v2, .int .i64 h.v3, .int .i64 h.v4, .int .i64 h.v5, .int .i64 h.v6, .int .i64 h.v7, .string s] 125)).alloc (.cells #[.int .i64 0, .int .i64 0, .int .i64 0, .int .i64 0, .string ⟨#[]⟩] 23)) := ((Below.refl _ _).alloc (Nat.le_refl _) _).alloc (by simp) _
    have HB : Hid _ := hb0
    clear ho hb0
    cases ok with
    | false =>
      go_enter Tryz.func89, Tryz.ntmps89
      go_wp2
      exact jsin_ret _ (w.heap.size + 1) _ #[.int .i64 0, .int .i64 0, .int .i64 0, .int .i64 0, .string ⟨#[]⟩] false _ rfl rfl (heap_alloc2_new w _ _) rfl ⟨rfl, HB.out⟩
    | true =>
      have k2 : (h.v2 != 1) = true := by simp; exact fun e => h1 ⟨rfl, e⟩
      clear h1
      go_enter Tryz.func89, Tryz.ntmps89
      go_wp2
      exact jsin_ret _ (w.heap.size + 1) _ #[.int .i64 0, .int .i64 0, .int .i64 0, .int .i64 0, .string ⟨#[]⟩] false _ rfl rfl (heap_alloc2_new w _ _) rfl ⟨rfl, HB.out⟩
theorem jsin_any (r : Rg) (slot live : Int) (w : World) :
    Calls Tryz.prog 89 #[.agg r.arr, .int .i64 slot, .int .i64 live] w fun e w' => e = .returned (.tuple #[.agg (sinS r slot live).arr, .bool (sinB r slot live)]) ∧ Below w.heap.size w w' := by
  have h := jsin_in r.ok r.h r.body (spOf r.body) (superOE r.body) slot live w fun w => superOf_any r.body w
  have e : sinS r slot live = if r.ok = true ∧ r.h.v2 = 1 ∧ superOE r.body = 0 ∧ (spOf r.body).ep.tmod 2 = slot ∧ (spOf r.body).lv = live then spOf r.body else Sp.zero := by
    unfold sinS sinB
    by_cases hc : r.ok = true ∧ r.h.v2 = 1 ∧ superOE r.body = 0 ∧ (spOf r.body).ep.tmod 2 = slot ∧ (spOf r.body).lv = live
    · rw [if_pos hc, if_pos (decide_eq_true hc)]
    · rw [if_neg hc, if_neg (by simpa using hc)]
  rw [e]
  exact h
end Go.Proofs.YtldkdoddklfdlaaGreatDoor

namespace Go.Proofs.YtldkdoddklfdlaaGreatDoor
set_option maxRecDepth 20000
open Go.RowKit

/-- A list of readings that lies. -/
def RgAt (W : World) (g o : Nat) (r : Rg) : Prop := W.cell? ⟨g, o, none⟩ = some (.bool r.ok) ∧ W.cell? ⟨g, o + 1, none⟩ = some (.int .i64 r.h.v0) ∧ W.cell? ⟨g, o + 2, none⟩ = some (.int .i64 r.h.v1) ∧ W.cell? ⟨g, o + 3, none⟩ = some (.int .i64 r.h.v2) ∧ W.cell? ⟨g, o + 4, none⟩ = some (.int .i64 r.h.v3) ∧ W.cell? ⟨g, o + 5, none⟩ = some (.int .i64 r.h.v4) ∧ W.cell? ⟨g, o + 6, none⟩ = some (.int .i64 r.h.v5) ∧ W.cell? ⟨g, o + 7, none⟩ = some (.int .i64 r.h.v6) ∧ W.cell? ⟨g, o + 8, none⟩ = some (.int .i64 r.h.v7) ∧ W.cell? ⟨g, o + 9, none⟩ = some (.string r.body)
def Rgs (W : World) (v : Value) (l : List Rg) : Prop := (∃ oa cap, v = .slice oa 0 cap ∧ l = []) ∨ ∃ g o cap, v = .slice (some ⟨g, o, none⟩) l.length cap ∧ g < W.heap.size ∧ ∀ i r, l[i]? = some r → RgAt W g (o + i * 10) r
theorem RgAt.keep {W W' : World} {g o : Nat} {r : Rg} (h : RgAt W g o r) (k : W'.heap[g]? = W.heap[g]?) : RgAt W' g o r := by
  obtain ⟨h0, h1, h2, h3, h4, h5, h6, h7, h8, h9⟩ := h
  have e := fun i => World.cell?_of_block (w := W) (w' := W') (a := ⟨g, i, none⟩) k
  exact ⟨(e _).trans h0, (e _).trans h1, (e _).trans h2, (e _).trans h3, (e _).trans h4, (e _).trans h5, (e _).trans h6, (e _).trans h7, (e _).trans h8, (e _).trans h9⟩
theorem Rgs.form {W : World} {v : Value} {l : List Rg} (h : Rgs W v l) : ∃ oa cap, v = .slice oa l.length cap := by
  rcases h with ⟨oa, cap, rfl, rfl⟩ | ⟨g, o, cap, rfl, _⟩
  · exact ⟨oa, cap, rfl⟩
  · exact ⟨_, cap, rfl⟩
theorem Rgs.at {W : World} {oa : Option Addr} {cap : Nat} {l : List Rg} (h : Rgs W (.slice oa l.length cap) l) {i : Nat} (hi : i < l.length) : ∃ g o, oa = some ⟨g, o, none⟩ ∧ g < W.heap.size ∧ RgAt W g (o + i * 10) l[i] := by
  rcases h with ⟨_, _, _, rfl⟩ | ⟨g, o, cap', e, hg, hx⟩
  · simp at hi
  · simp only [Value.slice.injEq] at e
    exact ⟨g, o, e.1, hg, hx i _ (List.getElem?_eq_getElem hi)⟩
/-- What a round of Choose knows. -/
structure ChR (w : World) (l : List Rg) (live : Int) (j : Nat) (wr : World) (fnd : Bool) (bs : Sp) : Prop where
  fndE : fnd = (chN l live j).isSome
  bsE : bs = osp (chN l live j)
  below : Below w.heap.size w wr
  res : wr.heap[w.heap.size]? = some (.cells #[.int .i64 0, .int .i64 0, .int .i64 0, .int .i64 0, .string ⟨#[]⟩] 23 (0, 0))
  best : wr.heap[w.heap.size + 1]? = some (.cells bs.arr 23 (0, 0))
theorem chN_yes {l : List Rg} {live : Int} {j : Nat} {r : Rg} (h : l[j]? = some r) (h1 : sinB r j live = true) (h2 : (chN l live j).isSome = false ∨ (osp (chN l live j)).ep < (spOf r.body).ep) : chN l live (j + 1) = some (spOf r.body) := by
  unfold chN
  rw [h]
  show (if _ then _ else _) = _
  rw [if_pos]
  refine ⟨h1, fun b hb => ?_⟩
  rw [hb] at h2
  rcases h2 with h2 | h2
  · cases h2
  · exact h2
theorem chN_no {l : List Rg} {live : Int} {j : Nat} {r : Rg} (h : l[j]? = some r) (h1 : sinB r j live = false ∨ ((chN l live j).isSome = true ∧ ¬ (osp (chN l live j)).ep < (spOf r.body).ep)) : chN l live (j + 1) = chN l live j := by
  rw [chN, h]
  show (if _ then _ else _) = _
  rw [if_neg]
  rintro ⟨h2, h3⟩
  rcases h1 with h1 | ⟨h1, h4⟩
  · rw [h1] at h2; cases h2
  · obtain ⟨b, hb⟩ := Option.isSome_iff_exists.1 h1
    rw [hb] at h4
    exact h4 (h3 b hb)
theorem jcho_ret (tmps : Array Value) (g : Nat) (w' : World) (cs : Array Value) (b : Bool) (R : Ending → World → Prop) (h1 : tmps.getD 4 undef = .pointer (some ⟨g, 0, none⟩)) (h2 : tmps.getD 5 undef = .bool b) (hg : w'.heap[g]? = some (.cells cs 23 (0, 0))) (hs : cs.size = 5) (hR : R (.returned (.tuple #[.agg cs, .bool b])) w') :
    bodyPost Tryz.prog Tryz.f52 R .ret { tmps := tmps, defers := [] } w' := by
  have hr := run_loadVar_row (P := Tryz.prog) w' g 23 23 cs (0, 0) _ hg Tryz.underlying23 rfl (by rw [hs]; kernel_rfl)
  simp at h1 h2
  exact bodyPost_ret (v := .tuple #[.agg cs, .bool b]) (by simp [results, Tryz.results52, asAddr, hr, h1, h2]) rfl hR
set_option maxHeartbeats 4000000 in
theorem jcho_any (v : Value) (l : List Rg) (live : Int) (w : World) (hv : Rgs w v l) :
    Calls Tryz.prog 52 #[v, .int .i64 live] w fun e w' => e = .returned (.tuple #[.agg (osp (chO l live)).arr, .bool (chO l live).isSome]) ∧ Below w.heap.size w w' := by
  obtain ⟨oa, ca, rfl⟩ := hv.form
  have HV : Hid (Rgs w (.slice oa l.length ca) l) := hv
  obtain ⟨m, hm⟩ : ∃ m : Nat, m = min 2 l.length := ⟨_, rfl⟩
  have HM : Hid (m ≤ l.length ∧ chO l live = chN l live m) := ⟨by omega, by rw [hm]; rfl⟩
  have hm2 : m ≤ 2 := by omega
  have hmn : ∀ (ts : Array TypeId) (t : TypeId) (w : World), (Builtin.min_ ts t #[.int .i64 2, .int .i64 (l.length : Int)]).run Tryz.prog w = .ok (.int .i64 (m : Int)) w := fun ts t w => by
    rw [run_min_int2]
    congr 2
    split <;> omega
  rw [HM.out.2]
  clear hv hm
  have HI : Hid (ChR w l live 0 ((w.alloc (.cells #[.int .i64 0, .int .i64 0, .int .i64 0, .int .i64 0, .string ⟨#[]⟩] 23)).alloc (.cells #[.int .i64 0, .int .i64 0, .int .i64 0, .int .i64 0, .string ⟨#[]⟩] 23)) false Sp.zero) := ⟨rfl, rfl, ((Below.refl _ _).alloc (Nat.le_refl _) _).alloc (by simp) _, heap_alloc2_old w _ _, heap_alloc2_new w _ _⟩
  obtain ⟨X, hX⟩ : ∃ X, X = osp (chN l live m) := ⟨_, rfl⟩
  obtain ⟨Y, hY⟩ : ∃ Y, Y = (chN l live m).isSome := ⟨_, rfl⟩
  rw [← hX, ← hY]
  have HX : Hid (X = osp (chN l live m) ∧ Y = (chN l live m).isSome) := ⟨hX, hY⟩
  clear hX hY
  go_enter Tryz.func52, Tryz.ntmps52
  go_wp2_with fail
  go_loopw [7, 14] (fun fv iv wr => ∃ (j : Nat) (fnd : Bool) (bs : Sp), j ≤ m ∧ iv = .int .i64 (j : Int) ∧ fv = .bool fnd ∧ Hid (ChR w l live j wr fnd bs)) (fun _ iv _ => m - (intOf iv).toNat)
  case atStart => exact ⟨0, false, Sp.zero, Nat.zero_le _, rfl, rfl, HI⟩
  case round =>
    clear HI hmn
    obtain ⟨j, fnd, bs, hj, rfl, rfl, HR⟩ := hrel
    by_cases hlt : j < m
    · have j1 : (j : Int) < m := by omega
      have hjl : j < l.length := by have := HM.out.1; omega
      have j2 : (j : Int) < l.length := by omega
      obtain ⟨g, o, rfl, hg, hat⟩ := HV.out.at hjl
      have hgw := Nat.lt_of_lt_of_le hg HR.out.below.size
      obtain ⟨d0, d1, d2, d3, d4, d5, d6, d7, d8, d9⟩ := hat.keep (HR.out.below.block g hg)
      have hs := jsin_any l[j] (j : Int) live
      have HL : Hid (l[j]? = some l[j]) := List.getElem?_eq_getElem hjl
      generalize l[j] = r at *
      unfold Rg.arr readA at hs
      go_wp2_with fail
      refine (hs _).mono ?_
      rintro e w2 ⟨rfl, hb2⟩
      have hbw2 : Below w.heap.size w w2 := HR.out.below.trans (hb2.mono HR.out.below.size)
      have gres := (hb2.block _ (lt_of_block HR.out.res)).trans HR.out.res
      have gbest := (hb2.block _ (lt_of_block HR.out.best)).trans HR.out.best
      have hF := HR.out.fndE
      have hB := HR.out.bsE
      have HQ : Hid ((sinB r (j : Int) live = true → sinS r (j : Int) live = spOf r.body) ∧ (sinB r (j : Int) live = false → chN l live (j + 1) = chN l live j) ∧ (sinB r (j : Int) live = true → fnd = false ∨ bs.ep < (spOf r.body).ep → chN l live (j + 1) = some (spOf r.body)) ∧ (fnd = true → ¬ bs.ep < (spOf r.body).ep → chN l live (j + 1) = chN l live j)) := by
        rw [hF, hB]
        exact ⟨fun h => if_pos h, fun h => chN_no HL.out (.inl h), fun h h2 => chN_yes HL.out h h2, fun h h2 => chN_no HL.out (.inr ⟨h, h2⟩)⟩
      have HO : Hid (fnd = (chN l live j).isSome ∧ bs = osp (chN l live j)) := ⟨hF, hB⟩
      clear hs hb2 d0 d1 d2 d3 d4 d5 d6 d7 d8 d9 hat HR hF hB HL
      generalize sinB r (j : Int) live = q at *
      generalize sinS r (j : Int) live = c at *
      generalize spOf r.body = sp at *
      obtain ⟨c0, c1, c2, c3, rt⟩ := c
      obtain ⟨b0, b1, b2, b3, br⟩ := bs
      unfold Sp.arr at gbest
      simp only [Sp.arr]
      have hlt2 := lt_of_block gbest
      have gc : (w2.alloc (.cells #[.int .i64 c0, .int .i64 c1, .int .i64 c2, .int .i64 c3, .string rt] 23)).heap[w2.heap.size]? = some (.cells #[.int .i64 c0, .int .i64 c1, .int .i64 c2, .int .i64 c3, .string rt] 23 (0, 0)) := heap_alloc_new w2 _
      have hb3 : Below w.heap.size w (w2.alloc (.cells #[.int .i64 c0, .int .i64 c1, .int .i64 c2, .int .i64 c3, .string rt] 23)) := hbw2.alloc (by omega) _
      have gr3 : (w2.alloc (.cells #[.int .i64 c0, .int .i64 c1, .int .i64 c2, .int .i64 c3, .string rt] 23)).heap[w.heap.size]? = some (.cells #[.int .i64 0, .int .i64 0, .int .i64 0, .int .i64 0, .string ⟨#[]⟩] 23 (0, 0)) := (Below.heap_alloc _ _ _ (by omega)).trans gres
      have gb3 : (w2.alloc (.cells #[.int .i64 c0, .int .i64 c1, .int .i64 c2, .int .i64 c3, .string rt] 23)).heap[w.heap.size + 1]? = some (.cells #[.int .i64 b0, .int .i64 b1, .int .i64 b2, .int .i64 b3, .string br] 23 (0, 0)) := (Below.heap_alloc _ _ _ hlt2).trans gbest
      have e1 : (w2.alloc (.cells #[.int .i64 c0, .int .i64 c1, .int .i64 c2, .int .i64 c3, .string rt] 23)).cell? ⟨w.heap.size + 1, 1, none⟩ = some (.int .i64 b1) := cell_of_row _ _ 1 _ _ _ gb3
      have HN : Hid (chN l live (j + 1) = chN l live j → ChR w l live (j + 1) (w2.alloc (.cells #[.int .i64 c0, .int .i64 c1, .int .i64 c2, .int .i64 c3, .string rt] 23)) fnd ⟨b0, b1, b2, b3, br⟩) := fun h => ⟨by rw [h]; exact HO.out.1, by rw [h]; exact HO.out.2, hb3, gr3, gb3⟩
      have HY : Hid (chN l live (j + 1) = some ⟨c0, c1, c2, c3, rt⟩ → ChR w l live (j + 1) ((w2.alloc (.cells #[.int .i64 c0, .int .i64 c1, .int .i64 c2, .int .i64 c3, .string rt] 23)).setRow (w.heap.size + 1) #[.int .i64 c0, .int .i64 c1, .int .i64 c2, .int .i64 c3, .string rt]) true ⟨c0, c1, c2, c3, rt⟩) := fun h => ⟨by rw [h]; rfl, by rw [h]; rfl, below_setRow hb3 (by omega) _, (setRow_other _ _ _ _ (by omega)).trans gr3, setRow_heap _ _ _ _ _ _ gb3⟩
      clear hbw2 gres gbest hb3 gr3 HV
      cases q with
      | false =>
        have HF := HN.out (HQ.out.2.1 rfl)
        have HF : Hid _ := HF
        clear HN HY HQ HO gc gb3
        go_wp2
        go_roundw
        case rel => exact ⟨j + 1, fnd, ⟨b0, b1, b2, b3, br⟩, by omega, by go_num, rfl, HF⟩
        case measure => simp [intOf]; omega
      | true =>
        have ec : Sp.mk c0 c1 c2 c3 rt = sp := HQ.out.1 rfl
        have ec1 : sp.ep = c1 := by rw [← ec]
        cases fnd with
        | false =>
          have HF : Hid _ := HY.out (by rw [ec]; exact HQ.out.2.2.1 rfl (.inl rfl))
          clear HN HY HQ HO ec ec1 e1
          go_wp2_with (first | refine wpList_load_row rfl 23 _ rfl w2.heap.size rfl 23 _ (0, 0) _ gc Tryz.underlying23 rfl (by kernel_rfl) ?_ | refine wpList_store_row rfl 23 _ _ rfl (w.heap.size + 1) #[.int .i64 c0, .int .i64 c1, .int .i64 c2, .int .i64 c3, .string rt] rfl rfl 23 _ gb3 (by kernel_rfl) rfl (by simp [Value.oneCell']) ?_)
          go_roundw
          case rel => exact ⟨j + 1, true, ⟨c0, c1, c2, c3, rt⟩, by omega, by go_num, rfl, HF⟩
          case measure => simp [intOf]; omega
        | true =>
          by_cases hcmp : b1 < c1
          · have HF : Hid _ := HY.out (by rw [ec]; exact HQ.out.2.2.1 rfl (.inr (by rw [ec1]; exact hcmp)))
            have k1 : decide (b1 < c1) = true := by simpa using hcmp
            clear HN HY HQ HO ec ec1 hcmp
            go_wp2_with (first | refine wpList_load_row rfl 23 _ rfl w2.heap.size rfl 23 _ (0, 0) _ gc Tryz.underlying23 rfl (by kernel_rfl) ?_ | refine wpList_store_row rfl 23 _ _ rfl (w.heap.size + 1) #[.int .i64 c0, .int .i64 c1, .int .i64 c2, .int .i64 c3, .string rt] rfl rfl 23 _ gb3 (by kernel_rfl) rfl (by simp [Value.oneCell']) ?_)
            go_roundw
            case rel => exact ⟨j + 1, true, ⟨c0, c1, c2, c3, rt⟩, by omega, by go_num, rfl, HF⟩
            case measure => simp [intOf]; omega
          · have HF : Hid _ := HN.out (HQ.out.2.2.2 rfl (by rw [ec1]; exact hcmp))
            have k1 : decide (b1 < c1) = false := by simpa using hcmp
            clear HN HY HQ HO ec ec1 hcmp gc gb3
            go_wp2
            go_roundw
            case rel => exact ⟨j + 1, true, ⟨b0, b1, b2, b3, br⟩, by omega, by go_num, rfl, HF⟩
            case measure => simp [intOf]; omega
    · have j1 : ¬ (j : Int) < m := by omega
      obtain rfl : j = m := by omega
      have gres := HR.out.res
      have gbest := HR.out.best
      have HF : Hid (Below w.heap.size w wr ∧ bs = X ∧ fnd = Y) := ⟨HR.out.below, by rw [HX.out.1]; exact HR.out.bsE, by rw [HX.out.2]; exact HR.out.fndE⟩
      clear HR
      obtain ⟨b0, b1, b2, b3, br⟩ := bs
      unfold Sp.arr at gbest
      go_wp2_with (first | refine wpList_load_row rfl 23 _ rfl (w.heap.size + 1) rfl 23 _ (0, 0) _ gbest Tryz.underlying23 rfl (by kernel_rfl) ?_ | refine wpList_store_row rfl 23 _ _ rfl w.heap.size #[.int .i64 b0, .int .i64 b1, .int .i64 b2, .int .i64 b3, .string br] rfl rfl 23 _ gres (by kernel_rfl) rfl (by simp [Value.oneCell']) ?_)
      exact jcho_ret _ w.heap.size _ #[.int .i64 b0, .int .i64 b1, .int .i64 b2, .int .i64 b3, .string br] fnd _ rfl rfl (setRow_heap _ _ _ _ _ _ gres) rfl ⟨by rw [← HF.out.2.1, ← HF.out.2.2]; rfl, below_setRow HF.out.1 (Nat.le_refl _) _⟩
end Go.Proofs.YtldkdoddklfdlaaGreatDoor
