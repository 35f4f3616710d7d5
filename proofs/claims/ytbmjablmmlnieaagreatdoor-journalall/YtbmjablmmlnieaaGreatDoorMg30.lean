/- journal's promise over any vault that is told. -/
import Derived.Test.YtbmjablmmlnieaaGreatDoorMg27
import Derived.Test.YtbmjablmmlnieaaGreatDoorMg25
import Derived.BigQuiet
import Derived.Deep.RegionHeld3
namespace Go.Proofs.YtbmjablmmlnieaaGreatDoor
set_option maxRecDepth 20000
open Go.RowKit

theorem jpro_ret (tmps : Array Value) (g : Nat) (w' : World) (a : Int) (r : ByteArray) (y : Int) (R : Ending → World → Prop) (h1 : tmps.getD 6 undef = .pointer (some ⟨g, 0, none⟩)) (h2 : tmps.getD 7 undef = .int .i64 y) (hg : w'.heap[g]? = some (.cells #[.int .i64 a, .string r] 48 (0, 0))) (hR : R (.returned (.tuple #[.agg #[.int .i64 a, .string r], .int .i64 y])) w') :
    bodyPost Tryz.prog Tryz.f41 R .ret { tmps := tmps, defers := [] } w' := by
  have hr := run_loadVar_row (P := Tryz.prog) w' g 48 48 #[.int .i64 a, .string r] (0, 0) _ hg Tryz.underlying48 rfl (by kernel_rfl)
  simp at h1 h2
  exact bodyPost_ret (v := .tuple #[.agg #[.int .i64 a, .string r], .int .i64 y]) (by simp [results, Tryz.results41, asAddr, hr, h1, h2]) rfl hR
set_option maxHeartbeats 4000000 in
theorem jpro_yes (v : Value) (l : List Wt) (oa : Option Addr) (ca : Nat) (a0 a1 a2 a3 : Int) (r T C J H B X : ByteArray) (E : Int) (P Q : World → Prop) (w : World) (hP : Stb w.heap.size P) (hQ : Stb w.heap.size Q) (hT : T.size = 448) (hC : C.size = 2) (hH : H.size = 32)
    (hp : ∀ w, Calls Tryz.prog 68 #[.agg #[.int .i64 a0, .int .i64 a1, .int .i64 a2, .int .i64 a3, .string r]] w fun e w' => e = .returned (.tuple #[.string T, .int .i64 0]) ∧ Below w.heap.size w w')
    (hput : ∀ w, Calls Tryz.prog 74 #[.int .i64 (l.length : Int), .int .i64 2] w fun e w' => e = .returned (.tuple #[.string C, .int .i64 0]) ∧ Below w.heap.size w w')
    (hj : ∀ w', Below w.heap.size w w' → Calls Tryz.prog 77 #[.slice oa l.length ca] w' fun e w'' => e = .returned (.string J) ∧ Below w'.heap.size w' w'')
    (hh : ∀ w', Below w.heap.size w w' → Calls Tryz.prog 76 #[v, .string J] w' fun e w'' => e = .returned (.string H) ∧ Q w'' ∧ Kept w.heap.size w' w'' ∧ w'.heap.size ≤ w''.heap.size)
    (hpad : ∀ w, Calls Tryz.prog 75 #[.string (C ++ H ++ T.extract 0 54), .int .i64 448] w fun e w' => e = .returned (.tuple #[.string B, .int .i64 0]) ∧ Below w.heap.size w w')
    (hs : ∀ w', Q w' → Calls Tryz.prog 78 #[v, .agg #[.int .i64 a0, .int .i64 2, .int .i64 2, .int .i64 0, .int .i64 0, .int .i64 0, .int .i64 a1, .int .i64 a1], .string B] w' fun e w'' => e = .returned (.tuple #[.string X, .int .i64 E]) ∧ P w'' ∧ Kept w.heap.size w' w'' ∧ w'.heap.size ≤ w''.heap.size) :
    Calls Tryz.prog 41 #[v, .slice oa l.length ca, .agg #[.int .i64 a0, .int .i64 a1, .int .i64 a2, .int .i64 a3, .string r]] w fun e w' => e = .returned (.tuple #[.agg #[.int .i64 (if E = 0 then 2 else 0), .string (if E = 0 then X else ⟨#[]⟩)], .int .i64 E]) ∧ P w' := by
  have h54 : (54 : Int) ≤ T.size := by omega
  have hU : (T.extract 0 54).size = 54 := by simp [hT]
  go_enter Tryz.func41, Tryz.ntmps41
  go_wp2_with fail
  refine (hp _).mono ?_
  rintro e w1 ⟨rfl, hb1⟩
  have g1 := (hb1.block (w.heap.size + 1) (by simp)).trans (heap_alloc2_new w _ _)
  have g0 := (hb1.block w.heap.size (by simp; omega)).trans (heap_alloc2_old w _ _)
  have hbw : Below w.heap.size w w1 := (((Below.refl _ _).alloc (Nat.le_refl _) _).alloc (by simp) _).trans (hb1.mono (by simp; omega))
  clear hp hb1
  go_wp2_with fail
  refine (hput _).mono ?_
  rintro e w2 ⟨rfl, hb2⟩
  have HB2 : Hid (Below w.heap.size w w2 ∧ w2.heap[w.heap.size + 1]? = some (.cells #[.int .i64 0, .string ⟨#[]⟩] 48 (0, 0)) ∧ w2.heap[w.heap.size]? = some (.cells #[.int .i64 a0, .int .i64 a1, .int .i64 a2, .int .i64 a3, .string r] 33 (0, 0))) := ⟨hbw.trans (hb2.mono hbw.size), (hb2.block _ (lt_of_block g1)).trans g1, (hb2.block _ (lt_of_block g0)).trans g0⟩
  clear hput hb2 g0 g1 hbw
  go_wp2_with fail
  go_region_held3 (fun _ => True) (exact True.intro) (first
    | (go_at_call 77; refine (hj _ HB2.out.1.drew).mono ?_; rintro e w3 ⟨rfl, hb3⟩; have HB3 : Hid (Below w.heap.size w w3 ∧ w3.heap[w.heap.size + 1]? = some (.cells #[.int .i64 0, .string ⟨#[]⟩] 48 (0, 0)) ∧ w3.heap[w.heap.size]? = some (.cells #[.int .i64 a0, .int .i64 a1, .int .i64 a2, .int .i64 a3, .string r] 33 (0, 0))) := ⟨HB2.out.1.drew.trans (hb3.mono HB2.out.1.size), (hb3.block _ (lt_of_block HB2.out.2.1)).trans HB2.out.2.1, (hb3.block _ (lt_of_block HB2.out.2.2)).trans HB2.out.2.2⟩; clear hb3)
    | (go_at_call 76; refine (hh _ HB3.out.1).mono ?_; rintro e w4 ⟨rfl, hq4, hk4, hz4⟩; have HB4 : Hid (Q w4 ∧ w4.heap[w.heap.size + 1]? = some (.cells #[.int .i64 0, .string ⟨#[]⟩] 48 (0, 0)) ∧ w4.heap[w.heap.size]? = some (.cells #[.int .i64 a0, .int .i64 a1, .int .i64 a2, .int .i64 a3, .string r] 33 (0, 0))) := ⟨hq4, (hk4 _ (by omega) (lt_of_block HB3.out.2.1)).trans HB3.out.2.1, (hk4 _ (by omega) (lt_of_block HB3.out.2.2)).trans HB3.out.2.2⟩; clear hq4 hk4 hz4)
    | (go_at_call 75; refine (hpad _).mono ?_; rintro e w5 ⟨rfl, hb5⟩; have HB5 : Hid (Q w5 ∧ w5.heap[w.heap.size + 1]? = some (.cells #[.int .i64 0, .string ⟨#[]⟩] 48 (0, 0)) ∧ w5.heap[w.heap.size]? = some (.cells #[.int .i64 a0, .int .i64 a1, .int .i64 a2, .int .i64 a3, .string r] 33 (0, 0))) := ⟨hQ _ _ HB4.out.1 (hb5.mono (by have := lt_of_block HB4.out.2.1; omega)), (hb5.block _ (lt_of_block HB4.out.2.1)).trans HB4.out.2.1, (hb5.block _ (lt_of_block HB4.out.2.2)).trans HB4.out.2.2⟩; clear hb5))
  have hlt5 := lt_of_block HB5.out.2.1
  have c0 : w5.cell? ⟨w.heap.size, 0, none⟩ = some (.int .i64 a0) := cell_of_row _ _ 0 _ _ _ HB5.out.2.2
  have c1 : w5.cell? ⟨w.heap.size, 1, none⟩ = some (.int .i64 a1) := cell_of_row _ _ 1 _ _ _ HB5.out.2.2
  have hbA : Below w5.heap.size w5 (w5.alloc (.cells #[.int .i64 a0, .int .i64 2, .int .i64 2, .int .i64 0, .int .i64 0, .int .i64 0, .int .i64 a1, .int .i64 a1] 79)) := (Below.refl _ _).alloc (Nat.le_refl _) _
  have hs2 := hs (w5.alloc (.cells #[.int .i64 a0, .int .i64 2, .int .i64 2, .int .i64 0, .int .i64 0, .int .i64 0, .int .i64 a1, .int .i64 a1] 79)) (hQ _ _ HB5.out.1 (hbA.mono (by omega)))
  have g5 : (w5.alloc (.cells #[.int .i64 a0, .int .i64 2, .int .i64 2, .int .i64 0, .int .i64 0, .int .i64 0, .int .i64 a1, .int .i64 a1] 79)).heap[w.heap.size + 1]? = some (.cells #[.int .i64 0, .string ⟨#[]⟩] 48 (0, 0)) := (Below.heap_alloc _ _ _ hlt5).trans HB5.out.2.1
  clear hj hh hpad hs hbA HB2 HB3 HB4
  go_wp2_with fail
  refine hs2.mono ?_
  rintro e w6 ⟨rfl, hp6, hk6, hz6⟩
  have g6 : w6.heap[w.heap.size + 1]? = some (.cells #[.int .i64 0, .string ⟨#[]⟩] 48 (0, 0)) := (hk6 _ (by omega) (by simp; omega)).trans g5
  have gh : w6.heap[w5.heap.size]? = _ := (hk6 _ (by omega) (by simp)).trans (heap_alloc_new w5 _)
  have ch : w6.cell? ⟨w5.heap.size, 1, none⟩ = some (.int .i64 2) := cell_of_row _ _ 1 _ _ _ gh
  have HP6 : Hid (∀ cs, P (w6.setRow (w.heap.size + 1) cs)) := fun cs => hP _ _ hp6 (below_setRow (Below.refl _ _) (by omega) _)
  clear hs2 c0 c1 gh hp6 hk6 hz6 g5 HB5
  by_cases hE : E = 0
  · subst hE
    go_wp2_with (refine wpList_store_row rfl 48 _ _ rfl (w.heap.size + 1) #[.int .i64 2, .string X] rfl rfl 48 _ g6 (by kernel_rfl) rfl (by simp [Value.oneCell']) ?_)
    exact jpro_ret _ (w.heap.size + 1) _ 2 X 0 _ rfl rfl (setRow_heap _ _ _ _ _ _ g6) ⟨by simp, HP6.out _⟩
  · have hE1 : (E != 0) = true := by simpa using hE
    go_wp2_with (refine wpList_store_row rfl 48 _ _ rfl (w.heap.size + 1) #[.int .i64 0, .string ⟨#[]⟩] rfl rfl 48 _ g6 (by kernel_rfl) rfl (by simp [Value.oneCell']) ?_)
    exact jpro_ret _ (w.heap.size + 1) _ 0 ⟨#[]⟩ E _ rfl rfl (setRow_heap _ _ _ _ _ _ g6) ⟨by simp, HP6.out _⟩
set_option maxHeartbeats 4000000 in
theorem jpro_no (v u : Value) (a0 a1 a2 a3 : Int) (r T : ByteArray) (E : Int) (w : World) (hE : ¬ E = 0)
    (hp : ∀ w, Calls Tryz.prog 68 #[.agg #[.int .i64 a0, .int .i64 a1, .int .i64 a2, .int .i64 a3, .string r]] w fun e w' => e = .returned (.tuple #[.string T, .int .i64 E]) ∧ Below w.heap.size w w') :
    Calls Tryz.prog 41 #[v, u, .agg #[.int .i64 a0, .int .i64 a1, .int .i64 a2, .int .i64 a3, .string r]] w fun e w' => e = .returned (.tuple #[.agg #[.int .i64 0, .string ⟨#[]⟩], .int .i64 E]) ∧ Below w.heap.size w w' := by
  have hE1 : (E != 0) = true := by simpa using hE
  clear hE
  go_enter Tryz.func41, Tryz.ntmps41
  go_wp2_with fail
  refine (hp _).mono ?_
  rintro e w1 ⟨rfl, hb1⟩
  have g1 := (hb1.block (w.heap.size + 1) (by simp)).trans (heap_alloc2_new w _ _)
  have hbw : Below w.heap.size w w1 := (((Below.refl _ _).alloc (Nat.le_refl _) _).alloc (by simp) _).trans (hb1.mono (by simp; omega))
  clear hp hb1
  go_wp2_with (refine wpList_store_row rfl 48 _ _ rfl (w.heap.size + 1) #[.int .i64 0, .string ⟨#[]⟩] rfl rfl 48 _ g1 (by kernel_rfl) rfl (by simp [Value.oneCell']) ?_)
  exact jpro_ret _ (w.heap.size + 1) _ 0 ⟨#[]⟩ E _ rfl rfl (setRow_heap _ _ _ _ _ _ g1) ⟨rfl, below_setRow hbw (by omega) _⟩
theorem pro_sizes {K : VK} (HK : VKOk K) {S : K.σ} {l : List Wt} {s : Sp} (hr : K.room S 1) (hll : l.length ≤ 24) (he : s.err = 0) : putE (l.length : Int) 2 = 0 ∧ (putS (l.length : Int) 2).size = 2 ∧ (K.hS S (joinB l)).size = 32 ∧ padE (putS (l.length : Int) 2 ++ K.hS S (joinB l) ++ s.txt.extract 0 54) 448 = 0 ∧ (proT K S l s).size = 448 := by
  have h1 : putE (l.length : Int) 2 = 0 := by
    unfold putE
    rw [if_neg (by decide), if_neg (by have : (256 : Int) ^ (2 : Int).toNat = 65536 := by decide
                                       omega)]
  have h2 : (putS (l.length : Int) 2).size = 2 := putS_len h1
  have h3 := HK.hSize S (joinB l) hr
  have h4 : (putS (l.length : Int) 2 ++ K.hS S (joinB l) ++ s.txt.extract 0 54).size = 88 := by
    rw [ByteArray.size_append, ByteArray.size_append, h2, h3, ByteArray.size_extract, sp_size he]
    rfl
  refine ⟨h1, h2, h3, ?_, ?_⟩
  · unfold padE
    rw [if_neg (by decide), h4]
    rfl
  · unfold proT
    unfold padS
    rw [if_pos (by rw [h4]; decide)]
    generalize putS (l.length : Int) 2 ++ K.hS S (joinB l) ++ s.txt.extract 0 54 = x at *
    show (x.data.toList ++ List.replicate ((448 : Int).toNat - x.size) 0).toArray.size = 448
    rw [List.size_toArray, List.length_append, List.length_replicate, ← Lib.size_eq, h4]
    rfl
theorem jpro_any (K : VK) (HK : VKOk K) (F : Nat → Prop) (S : K.σ) (s : Sp) (oa : Option Addr) (ca : Nat) (l : List Wt) {w w' : World} (hr : K.room S 2) (hl : VOut K F w S w') (hw : w.heap.size ≤ w'.heap.size) (hv : Wts w' (.slice oa l.length ca) l) (hll : l.length ≤ 24) (hsz : ∀ x ∈ l, x.raw.size ≤ 512) :
    Calls Tryz.prog 41 #[K.v, .slice oa l.length ca, .agg s.arr] w' fun e w'' => e = .returned (.tuple #[.agg #[.int .i64 (proA K S l s), .string (proR K S l s)], .int .i64 (proE K S l s)]) ∧ VOut K F w (proP K S l s) w'' ∧ Kept w.heap.size w' w'' ∧ w'.heap.size ≤ w''.heap.size := by
  have hp := fun w => super_any s.vol s.ep s.nx s.lv s.root w
  by_cases he : s.err = 0
  · have he' : superE s.vol s.ep s.nx s.lv s.root = 0 := he
    obtain ⟨z1, z2, z3, z4, z5⟩ := pro_sizes HK (HK.less hr (by omega)) hll he
    have hJ : (joinB l).size ≤ 1000000 := by
      have := joinB_le l hsz
      rw [joinB_size] at this
      omega
    have e1 : proE K S l s = bsealE s.hdC (proT K S l s) := if_pos he
    have e2 : proP K S l s = K.sP (K.hP S (joinB l)) s.hdC (proT K S l s) := if_pos he
    have e3 : proA K S l s = if bsealE s.hdC (proT K S l s) = 0 then 2 else 0 := by unfold proA; rw [e1]
    have e4 : proR K S l s = if bsealE s.hdC (proT K S l s) = 0 then K.sS (K.hP S (joinB l)) s.hdC (proT K S l s) else ⟨#[]⟩ := by unfold proR; rw [e1]
    rw [e1, e2, e3, e4]
    have stb : ∀ S', Stb w'.heap.size (fun w'' => VOut K F w S' w'' ∧ Kept w.heap.size w' w'' ∧ w'.heap.size ≤ w''.heap.size) := fun S' w1 w2 h hb => ⟨VOut.stb HK _ _ h.1 (hb.mono hw), fun k hk hk2 => (hb.block k hk2).trans (h.2.1 k hk hk2), Nat.le_trans h.2.2 hb.size⟩
    refine jpro_yes K.v l oa ca s.vol s.ep s.nx s.lv s.root s.txt (putS (l.length : Int) 2) (joinB l) (K.hS S (joinB l)) (proT K S l s) (K.sS (K.hP S (joinB l)) s.hdC (proT K S l s)) (bsealE s.hdC (proT K S l s)) (fun w'' => VOut K F w (K.sP (K.hP S (joinB l)) s.hdC (proT K S l s)) w'' ∧ Kept w.heap.size w' w'' ∧ w'.heap.size ≤ w''.heap.size) (fun w'' => VOut K F w (K.hP S (joinB l)) w'' ∧ Kept w.heap.size w' w'' ∧ w'.heap.size ≤ w''.heap.size) w' (stb _) (stb _) (sp_size he) z2 z3 ?_ ?_ ?_ ?_ ?_ ?_
    · intro w1
      have := hp w1
      rw [he'] at this
      exact this
    · intro w1
      have := put_any (l.length : Int) 2 w1
      rw [z1] at this
      exact this
    · intro w1 hb
      exact joined_any _ l w1 (hv.below hb) (by omega) hsz
    · intro w1 hb
      refine (VOut.hash HK (joinB l) hJ (HK.less hr (by omega)) (VOut.stb HK _ _ hl (hb.mono hw))).mono fun e w'' ⟨h2, h3, h4, h5⟩ => ⟨h2, ⟨h3, fun k hk hk2 => (h4 k hk (Nat.lt_of_lt_of_le hk2 hb.size)).trans (hb.block k hk2), Nat.le_trans hb.size h5⟩, fun k hk hk2 => h4 k (Nat.le_trans hw hk) hk2, h5⟩
    · intro w1
      have := pad_any (putS (l.length : Int) 2 ++ K.hS S (joinB l) ++ s.txt.extract 0 54) 448 w1
      rw [z4] at this
      exact this
    · intro w1 h
      refine (VOut.seal_ HK s.hdC (proT K S l s) (HK.hRoom hr) h.1).mono fun e w'' ⟨h2, h3, h4, h5⟩ => ⟨h2, ⟨h3, fun k hk hk2 => (h4 k hk (Nat.lt_of_lt_of_le hk2 h.2.2)).trans (h.2.1 k hk hk2), Nat.le_trans h.2.2 h5⟩, fun k hk hk2 => h4 k (Nat.le_trans hw hk) hk2, h5⟩
  · have he' : ¬ superE s.vol s.ep s.nx s.lv s.root = 0 := he
    have e1 : proE K S l s = superE s.vol s.ep s.nx s.lv s.root := if_neg he
    have e2 : proP K S l s = S := if_neg he
    have e3 : proA K S l s = 0 := by unfold proA; rw [e1]; exact if_neg he'
    have e4 : proR K S l s = ⟨#[]⟩ := by unfold proR; rw [e1]; exact if_neg he'
    rw [e1, e2, e3, e4]
    exact (jpro_no K.v _ s.vol s.ep s.nx s.lv s.root (superS s.vol s.ep s.nx s.lv s.root) _ w' he' hp).mono fun e w'' ⟨h1, h2⟩ => ⟨h1, VOut.stb HK _ _ hl (h2.mono hw), fun k _ hk => h2.block k hk, h2.size⟩
end Go.Proofs.YtbmjablmmlnieaaGreatDoor
