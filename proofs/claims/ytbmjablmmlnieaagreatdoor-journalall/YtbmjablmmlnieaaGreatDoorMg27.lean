/- journal's Super over any vault that is told. · journal's Found over any vault that is told. · journal's Found where a promise reads well, and its records do not. -/
import Derived.Test.YtbmjablmmlnieaaGreatDoorMg23
import Derived.Test.YtbmjablmmlnieaaGreatDoorMg26
import Derived.Test.YtbmjablmmlnieaaGreatDoorMg24
import Derived.Test.YtbmjablmmlnieaaGreatDoorMg25
import Derived.BigQuiet
import Derived.Deep.RegionHeld3
namespace Go.Proofs.YtbmjablmmlnieaaGreatDoor
set_option maxRecDepth 20000
open Go.RowKit

theorem jsup_ret (tmps : Array Value) (g : Nat) (w' : World) (a : Int) (r : ByteArray) (y : Int) (R : Ending → World → Prop) (h1 : tmps.getD 4 undef = .pointer (some ⟨g, 0, none⟩)) (h2 : tmps.getD 5 undef = .int .i64 y) (hg : w'.heap[g]? = some (.cells #[.int .i64 a, .string r] 48 (0, 0))) (hR : R (.returned (.tuple #[.agg #[.int .i64 a, .string r], .int .i64 y])) w') :
    bodyPost Tryz.prog Tryz.f42 R .ret { tmps := tmps, defers := [] } w' := by
  have hr := run_loadVar_row (P := Tryz.prog) w' g 48 48 #[.int .i64 a, .string r] (0, 0) _ hg Tryz.underlying48 rfl (by kernel_rfl)
  simp at h1 h2
  exact bodyPost_ret (v := .tuple #[.agg #[.int .i64 a, .string r], .int .i64 y]) (by simp [results, Tryz.results42, asAddr, hr, h1, h2]) rfl hR
set_option maxHeartbeats 4000000 in
theorem jsup_no (v : Value) (a0 a1 a2 a3 : Int) (r T : ByteArray) (E : Int) (w : World) (hE : ¬ E = 0)
    (hp : ∀ w, Calls Tryz.prog 68 #[.agg #[.int .i64 a0, .int .i64 a1, .int .i64 a2, .int .i64 a3, .string r]] w fun e w' => e = .returned (.tuple #[.string T, .int .i64 E]) ∧ Below w.heap.size w w') :
    Calls Tryz.prog 42 #[v, .agg #[.int .i64 a0, .int .i64 a1, .int .i64 a2, .int .i64 a3, .string r]] w fun e w' => e = .returned (.tuple #[.agg #[.int .i64 0, .string ⟨#[]⟩], .int .i64 E]) ∧ Below w.heap.size w w' := by
  have hE1 : (E != 0) = true := by simpa using hE
  clear hE
  go_enter Tryz.func42, Tryz.ntmps42
  go_wp2_with fail
  refine (hp _).mono ?_
  rintro e w1 ⟨rfl, hb1⟩
  have g1 := (hb1.block (w.heap.size + 1) (by simp)).trans (heap_alloc2_new w _ _)
  have hbw : Below w.heap.size w w1 := (((Below.refl _ _).alloc (Nat.le_refl _) _).alloc (by simp) _).trans (hb1.mono (by simp; omega))
  clear hp hb1
  go_wp2_with (refine wpList_store_row rfl 48 _ _ rfl (w.heap.size + 1) #[.int .i64 0, .string ⟨#[]⟩] rfl rfl 48 _ g1 (by kernel_rfl) rfl (by simp [Value.oneCell']) ?_)
  exact jsup_ret _ (w.heap.size + 1) _ 0 ⟨#[]⟩ E _ rfl rfl (setRow_heap _ _ _ _ _ _ g1) ⟨rfl, below_setRow hbw (by omega) _⟩
set_option maxHeartbeats 4000000 in
theorem jsup_yes (v : Value) (a0 a1 a2 a3 : Int) (r T X : ByteArray) (E : Int) (P : World → Prop) (w : World) (hP : Stb w.heap.size P)
    (hp : ∀ w, Calls Tryz.prog 68 #[.agg #[.int .i64 a0, .int .i64 a1, .int .i64 a2, .int .i64 a3, .string r]] w fun e w' => e = .returned (.tuple #[.string T, .int .i64 0]) ∧ Below w.heap.size w w')
    (hs : ∀ w', Below w.heap.size w w' → Calls Tryz.prog 78 #[v, .agg #[.int .i64 a0, .int .i64 (a1.tmod 2), .int .i64 1, .int .i64 0, .int .i64 0, .int .i64 0, .int .i64 a1, .int .i64 a1], .string T] w' fun e w'' => e = .returned (.tuple #[.string X, .int .i64 E]) ∧ P w'' ∧ Kept w.heap.size w' w'' ∧ w'.heap.size ≤ w''.heap.size) :
    Calls Tryz.prog 42 #[v, .agg #[.int .i64 a0, .int .i64 a1, .int .i64 a2, .int .i64 a3, .string r]] w fun e w' => e = .returned (.tuple #[.agg #[.int .i64 (if E = 0 then a1.tmod 2 else 0), .string (if E = 0 then X else ⟨#[]⟩)], .int .i64 E]) ∧ P w' := by
  go_enter Tryz.func42, Tryz.ntmps42
  go_wp2_with fail
  refine (hp _).mono ?_
  rintro e w1 ⟨rfl, hb1⟩
  have g1 := (hb1.block (w.heap.size + 1) (by simp)).trans (heap_alloc2_new w _ _)
  have g0 := (hb1.block w.heap.size (by simp; omega)).trans (heap_alloc2_old w _ _)
  have hbw : Below w.heap.size w w1 := (((Below.refl _ _).alloc (Nat.le_refl _) _).alloc (by simp) _).trans (hb1.mono (by simp; omega))
  have hlt := lt_of_block g1
  have c0 : w1.cell? ⟨w.heap.size, 0, none⟩ = some (.int .i64 a0) := cell_of_row _ _ 0 _ _ _ g0
  have c1 : w1.cell? ⟨w.heap.size, 1, none⟩ = some (.int .i64 a1) := cell_of_row _ _ 1 _ _ _ g0
  have hs2 := hs (w1.alloc (.cells #[.int .i64 a0, .int .i64 (a1.tmod 2), .int .i64 1, .int .i64 0, .int .i64 0, .int .i64 0, .int .i64 a1, .int .i64 a1] 79)) (hbw.alloc (by omega) _)
  clear hp hb1 hs
  go_wp2_with fail
  refine hs2.mono ?_
  rintro e w3 ⟨rfl, hp3, hk3, hz3⟩
  have g3 : w3.heap[w.heap.size + 1]? = _ := (hk3 _ (by omega) (by simp; omega)).trans ((Below.heap_alloc _ _ _ hlt).trans g1)
  have gh : w3.heap[w1.heap.size]? = _ := (hk3 _ (by omega) (by simp)).trans (heap_alloc_new w1 _)
  have ch : w3.cell? ⟨w1.heap.size, 1, none⟩ = some (.int .i64 (a1.tmod 2)) := cell_of_row _ _ 1 _ _ _ gh
  have HP3 : Hid (∀ cs, P (w3.setRow (w.heap.size + 1) cs)) := fun cs => hP _ _ hp3 (below_setRow (Below.refl _ _) (by omega) _)
  clear hs2 g0 c0 c1 gh hp3 hk3 hz3 g1 hbw
  by_cases hE : E = 0
  · subst hE
    generalize hq : a1.tmod 2 = q at *
    go_wp2_with (refine wpList_store_row rfl 48 _ _ rfl (w.heap.size + 1) #[.int .i64 q, .string X] rfl rfl 48 _ g3 (by kernel_rfl) rfl (by simp [Value.oneCell']) ?_)
    exact jsup_ret _ (w.heap.size + 1) _ q X 0 _ rfl rfl (setRow_heap _ _ _ _ _ _ g3) ⟨by simp, HP3.out _⟩
  · have hE1 : (E != 0) = true := by simpa using hE
    go_wp2_with (refine wpList_store_row rfl 48 _ _ rfl (w.heap.size + 1) #[.int .i64 0, .string ⟨#[]⟩] rfl rfl 48 _ g3 (by kernel_rfl) rfl (by simp [Value.oneCell']) ?_)
    exact jsup_ret _ (w.heap.size + 1) _ 0 ⟨#[]⟩ E _ rfl rfl (setRow_heap _ _ _ _ _ _ g3) ⟨by simp, HP3.out _⟩
theorem jsuper_any (K : VK) (HK : VKOk K) (F : Nat → Prop) (S : K.σ) (s : Sp) {w w' : World} (hr : K.room S 1) (hl : VOut K F w S w') (hw : w.heap.size ≤ w'.heap.size) :
    Calls Tryz.prog 42 #[K.v, .agg s.arr] w' fun e w'' => e = .returned (.tuple #[.agg #[.int .i64 (supA s), .string (supR K S s)], .int .i64 (supE s)]) ∧ VOut K F w (supP K S s) w'' ∧ Kept w.heap.size w' w'' ∧ w'.heap.size ≤ w''.heap.size := by
  have hp := fun w => super_any s.vol s.ep s.nx s.lv s.root w
  by_cases he : s.err = 0
  · have he' : superE s.vol s.ep s.nx s.lv s.root = 0 := he
    rw [he'] at hp
    have e1 : supE s = bsealE s.hd s.txt := if_pos he
    have e2 : supP K S s = K.sP S s.hd s.txt := if_pos he
    have e3 : supA s = if bsealE s.hd s.txt = 0 then s.ep.tmod 2 else 0 := by unfold supA; rw [e1]
    have e4 : supR K S s = if bsealE s.hd s.txt = 0 then K.sS S s.hd s.txt else ⟨#[]⟩ := by unfold supR; rw [e1]
    rw [e1, e2, e3, e4]
    exact jsup_yes K.v s.vol s.ep s.nx s.lv s.root s.txt (K.sS S s.hd s.txt) (bsealE s.hd s.txt) (fun w'' => VOut K F w (K.sP S s.hd s.txt) w'' ∧ Kept w.heap.size w' w'' ∧ w'.heap.size ≤ w''.heap.size) w' (fun w1 w2 h hb => ⟨VOut.stb HK _ _ h.1 (hb.mono hw), fun k hk hk2 => (hb.block k hk2).trans (h.2.1 k hk hk2), Nat.le_trans h.2.2 hb.size⟩) hp fun w1 hb => by
      have h1 := VOut.seal_ HK s.hd s.txt hr (VOut.stb HK _ _ hl (hb.mono hw))
      refine h1.mono fun e w'' ⟨h2, h3, h4, h5⟩ => ⟨h2, ⟨h3, fun k hk hk2 => (h4 k hk (Nat.lt_of_lt_of_le hk2 hb.size)).trans (hb.block k hk2), Nat.le_trans hb.size h5⟩, fun k hk hk2 => h4 k (Nat.le_trans hw hk) hk2, h5⟩
  · have he' : ¬ superE s.vol s.ep s.nx s.lv s.root = 0 := he
    have e1 : supE s = superE s.vol s.ep s.nx s.lv s.root := if_neg he
    have e2 : supP K S s = S := if_neg he
    have e3 : supA s = 0 := by unfold supA; rw [e1]; exact if_neg he'
    have e4 : supR K S s = ⟨#[]⟩ := by unfold supR; rw [e1]; exact if_neg he'
    rw [e1, e2, e3, e4]
    exact (jsup_no K.v s.vol s.ep s.nx s.lv s.root (superS s.vol s.ep s.nx s.lv s.root) _ w' he' hp).mono fun e w'' ⟨h1, h2⟩ => ⟨h1, VOut.stb HK _ _ hl (h2.mono hw), fun k _ hk => h2.block k hk, h2.size⟩
end Go.Proofs.YtbmjablmmlnieaaGreatDoor

namespace Go.Proofs.YtbmjablmmlnieaaGreatDoor
set_option maxRecDepth 20000
open Go.RowKit

/-- What Found tells. -/
def fnB (K : VK) (T : K.σ) (raws : List ByteArray) (masks : List Int) (n : Int) : Bool := piB (lookR K T raws masks 2) n && rcdB raws masks 3 (piN (lookR K T raws masks 2) n).toNat && togB 27 n (rcdL raws masks 3 (piN (lookR K T raws masks 2) n).toNat)
def fnW (K : VK) (T : K.σ) (raws : List ByteArray) (masks : List Int) (n : Int) : List Wt := rcdL raws masks 3 (piN (lookR K T raws masks 2) n).toNat
def fnOk (K : VK) (T : K.σ) (raws : List ByteArray) (masks : List Int) (n : Int) : Bool := fnB K T raws masks n && decide (K.hS T (joinB (fnW K T raws masks n)) = (lookR K T raws masks 2).body.extract 2 34)
def fnP (K : VK) (T : K.σ) (raws : List ByteArray) (masks : List Int) (n : Int) : K.σ := if fnB K T raws masks n then K.hP T (joinB (fnW K T raws masks n)) else T
theorem jfnd_ret (tmps : Array Value) (g : Nat) (w' : World) (v : Value) (cs : Array Value) (b : Bool) (R : Ending → World → Prop) (h0 : tmps.getD 6 undef = v) (h1 : tmps.getD 7 undef = .pointer (some ⟨g, 0, none⟩)) (h2 : tmps.getD 8 undef = .bool b) (hg : w'.heap[g]? = some (.cells cs 33 (0, 0))) (hs : cs.size = 5) (hR : R (.returned (.tuple #[v, .agg cs, .bool b])) w') :
    bodyPost Tryz.prog Tryz.f47 R .ret { tmps := tmps, defers := [] } w' := by
  have hr := run_loadVar_row (P := Tryz.prog) w' g 33 33 cs (0, 0) _ hg Tryz.underlying33 rfl (by rw [hs]; kernel_rfl)
  simp at h0 h1 h2
  exact bodyPost_ret (v := .tuple #[v, .agg cs, .bool b]) (by simp [results, Tryz.results47, asAddr, hr, h0, h1, h2]) rfl hR
set_option maxHeartbeats 4000000 in
theorem found_pno (v : Value) (n q s2 t : Nat) (oa ob : Option Addr) (ca cb : Nat) (raws : List ByteArray) (masks : List Int) (ok : Bool) (h : Hd) (body : ByteArray) (c : Int) (s : Sp) (w : World)
    (hlook : ∀ W, Below w.heap.size w W → Calls Tryz.prog 80 #[v, .agg #[.slice oa raws.length ca, .slice ob masks.length cb], .int .i64 2] W fun e W' => e = .returned (.agg #[.bool ok, .int .i64 h.v0, .int .i64 h.v1, .int .i64 h.v2, .int .i64 h.v3, .int .i64 h.v4, .int .i64 h.v5, .int .i64 h.v6, .int .i64 h.v7, .string body]) ∧ Below W.heap.size W W')
    (hpi : ∀ W, Calls Tryz.prog 81 #[.agg #[.bool ok, .int .i64 h.v0, .int .i64 h.v1, .int .i64 h.v2, .int .i64 h.v3, .int .i64 h.v4, .int .i64 h.v5, .int .i64 h.v6, .int .i64 h.v7, .string body], .int .i64 (n : Int)] W fun e W' => e = .returned (.tuple #[.int .i64 c, .agg s.arr, .bool false]) ∧ Below W.heap.size W W') :
    Calls Tryz.prog 47 #[v, .agg (layA n q s2 t), .agg #[.slice oa raws.length ca, .slice ob masks.length cb]] w fun e w' => e = .returned (.tuple #[.slice none 0 0, .agg Sp.zero.arr, .bool false]) ∧ Below w.heap.size w w' := by
  obtain ⟨s0, s1, s3, s4, r⟩ := s
  simp only [Sp.arr, Sp.zero] at *
  have hb0 : Below w.heap.size w (((w.alloc (.cells (layA n q s2 t) 71)).alloc (.cells #[.slice oa raws.length ca, .slice ob masks.length cb] 60)).alloc (.cells #[.int .i64 0, .int .i64 0, .int .i64 0, .int .i64 0, .string ⟨#[]⟩] 33)) := (((Below.refl _ _).alloc (Nat.le_refl _) _).alloc (by simp) _).alloc (by simp; omega) _
  have h1 := hlook _ hb0
  have gL : (((w.alloc (.cells (layA n q s2 t) 71)).alloc (.cells #[.slice oa raws.length ca, .slice ob masks.length cb] 60)).alloc (.cells #[.int .i64 0, .int .i64 0, .int .i64 0, .int .i64 0, .string ⟨#[]⟩] 33)).heap[w.heap.size]? = some (.cells (layA n q s2 t) 71 (0, 0)) := (Below.heap_alloc _ _ _ (by simp; omega)).trans (heap_alloc2_old w _ _)
  have gR : (((w.alloc (.cells (layA n q s2 t) 71)).alloc (.cells #[.slice oa raws.length ca, .slice ob masks.length cb] 60)).alloc (.cells #[.int .i64 0, .int .i64 0, .int .i64 0, .int .i64 0, .string ⟨#[]⟩] 33)).heap[w.heap.size + 1 + 1]? = some (.cells #[.int .i64 0, .int .i64 0, .int .i64 0, .int .i64 0, .string ⟨#[]⟩] 33 (0, 0)) := by
    have := heap_alloc_new ((w.alloc (.cells (layA n q s2 t) 71)).alloc (.cells #[.slice oa raws.length ca, .slice ob masks.length cb] 60)) (.cells #[.int .i64 0, .int .i64 0, .int .i64 0, .int .i64 0, .string ⟨#[]⟩] 33)
    simpa using this
  unfold layA at h1 gL gR hb0 ⊢
  clear hlook
  generalize raws.length = rl at *
  generalize masks.length = ml at *
  go_enter Tryz.func47, Tryz.ntmps47
  go_wp2_with fail
  refine h1.mono ?_
  rintro e w1 ⟨rfl, hb1⟩
  have gL1 := (hb1.block _ (lt_of_block gL)).trans gL
  have gR1 := (hb1.block _ (lt_of_block gR)).trans gR
  have hlt1 := lt_of_block gR1
  have n1 : (w1.alloc (.cells #[.bool ok, .int .i64 h.v0, .int .i64 h.v1, .int .i64 h.v2, .int .i64 h.v3, .int .i64 h.v4, .int .i64 h.v5, .int .i64 h.v6, .int .i64 h.v7, .string body] 81)).cell? ⟨w.heap.size, 0, none⟩ = some (.int .i64 (n : Int)) := cell_of_row _ _ 0 _ _ _ ((Below.heap_alloc _ _ _ (by omega)).trans gL1)
  have HB1 : Hid (Below w.heap.size w w1 ∧ w1.heap[w.heap.size + 1 + 1]? = some (.cells #[.int .i64 0, .int .i64 0, .int .i64 0, .int .i64 0, .string ⟨#[]⟩] 33 (0, 0))) := ⟨hb0.trans (hb1.mono hb0.size), gR1⟩
  clear h1 hb0 gL gR hb1 gL1 gR1
  go_wp2_with fail
  refine (hpi _).mono ?_
  rintro e w2 ⟨rfl, hb2⟩
  have hz2 := hb2.size
  have gR2 := (hb2.block (w.heap.size + 1 + 1) (by simp; omega)).trans ((Below.heap_alloc _ _ _ hlt1).trans HB1.out.2)
  have hlt2 := lt_of_block gR2
  have g3 : (w2.alloc (.cells #[.int .i64 s0, .int .i64 s1, .int .i64 s3, .int .i64 s4, .string r] 33)).heap[w.heap.size + 1 + 1]? = some (.cells #[.int .i64 0, .int .i64 0, .int .i64 0, .int .i64 0, .string ⟨#[]⟩] 33 (0, 0)) := (Below.heap_alloc _ _ _ hlt2).trans gR2
  have hb3 : Below w.heap.size w (w2.alloc (.cells #[.int .i64 s0, .int .i64 s1, .int .i64 s3, .int .i64 s4, .string r] 33)) := ((HB1.out.1.alloc HB1.out.1.size _).trans (hb2.mono (by have := HB1.out.1.size; simp; omega))).alloc (by omega) _
  clear hpi hb2 n1 HB1 gR2
  go_wp2_with (refine wpList_store_row rfl 33 _ _ rfl (w.heap.size + 1 + 1) #[.int .i64 0, .int .i64 0, .int .i64 0, .int .i64 0, .string ⟨#[]⟩] rfl rfl 33 _ g3 (by kernel_rfl) rfl (by simp [Value.oneCell']) ?_)
  exact jfnd_ret _ (w.heap.size + 1 + 1) _ (.slice none 0 0) #[.int .i64 0, .int .i64 0, .int .i64 0, .int .i64 0, .string ⟨#[]⟩] false _ rfl rfl rfl (setRow_heap _ _ _ _ _ _ g3) rfl ⟨rfl, below_setRow hb3 (by omega) _⟩
end Go.Proofs.YtbmjablmmlnieaaGreatDoor

namespace Go.Proofs.YtbmjablmmlnieaaGreatDoor
set_option maxRecDepth 20000
open Go.RowKit

set_option maxHeartbeats 4000000 in
theorem found_rno (v : Value) (n q s2 t : Nat) (oa ob : Option Addr) (ca cb : Nat) (raws : List ByteArray) (masks : List Int) (ok : Bool) (h : Hd) (body : ByteArray) (m : Nat) (s0 s1 s3 s4 : Int) (r : ByteArray) (w : World)
    (hlook : ∀ W, Below w.heap.size w W → Calls Tryz.prog 80 #[v, .agg #[.slice oa raws.length ca, .slice ob masks.length cb], .int .i64 2] W fun e W' => e = .returned (.agg #[.bool ok, .int .i64 h.v0, .int .i64 h.v1, .int .i64 h.v2, .int .i64 h.v3, .int .i64 h.v4, .int .i64 h.v5, .int .i64 h.v6, .int .i64 h.v7, .string body]) ∧ Below W.heap.size W W')
    (hpi : ∀ W, Calls Tryz.prog 81 #[.agg #[.bool ok, .int .i64 h.v0, .int .i64 h.v1, .int .i64 h.v2, .int .i64 h.v3, .int .i64 h.v4, .int .i64 h.v5, .int .i64 h.v6, .int .i64 h.v7, .string body], .int .i64 (n : Int)] W fun e W' => e = .returned (.tuple #[.int .i64 (m : Int), .agg #[.int .i64 s0, .int .i64 s1, .int .i64 s3, .int .i64 s4, .string r], .bool true]) ∧ Below W.heap.size W W')
    (hrcd : ∀ W, Below w.heap.size w W → Calls Tryz.prog 82 #[.agg (layA n q s2 t), .agg #[.slice oa raws.length ca, .slice ob masks.length cb], .int .i64 (m : Int)] W fun e W' => e = .returned (.tuple #[.slice none 0 0, .bool false]) ∧ Below W.heap.size W W') :
    Calls Tryz.prog 47 #[v, .agg (layA n q s2 t), .agg #[.slice oa raws.length ca, .slice ob masks.length cb]] w fun e w' => e = .returned (.tuple #[.slice none 0 0, .agg Sp.zero.arr, .bool false]) ∧ Below w.heap.size w w' := by
  have hb0 : Below w.heap.size w (((w.alloc (.cells (layA n q s2 t) 71)).alloc (.cells #[.slice oa raws.length ca, .slice ob masks.length cb] 60)).alloc (.cells #[.int .i64 0, .int .i64 0, .int .i64 0, .int .i64 0, .string ⟨#[]⟩] 33)) := (((Below.refl _ _).alloc (Nat.le_refl _) _).alloc (by simp) _).alloc (by simp; omega) _
  have h1 := hlook _ hb0
  have gL : (((w.alloc (.cells (layA n q s2 t) 71)).alloc (.cells #[.slice oa raws.length ca, .slice ob masks.length cb] 60)).alloc (.cells #[.int .i64 0, .int .i64 0, .int .i64 0, .int .i64 0, .string ⟨#[]⟩] 33)).heap[w.heap.size]? = some (.cells (layA n q s2 t) 71 (0, 0)) := (Below.heap_alloc _ _ _ (by simp; omega)).trans (heap_alloc2_old w _ _)
  have gI : (((w.alloc (.cells (layA n q s2 t) 71)).alloc (.cells #[.slice oa raws.length ca, .slice ob masks.length cb] 60)).alloc (.cells #[.int .i64 0, .int .i64 0, .int .i64 0, .int .i64 0, .string ⟨#[]⟩] 33)).heap[w.heap.size + 1]? = some (.cells #[.slice oa raws.length ca, .slice ob masks.length cb] 60 (0, 0)) := (Below.heap_alloc _ _ _ (by simp)).trans (heap_alloc2_new w _ _)
  have gR : (((w.alloc (.cells (layA n q s2 t) 71)).alloc (.cells #[.slice oa raws.length ca, .slice ob masks.length cb] 60)).alloc (.cells #[.int .i64 0, .int .i64 0, .int .i64 0, .int .i64 0, .string ⟨#[]⟩] 33)).heap[w.heap.size + 1 + 1]? = some (.cells #[.int .i64 0, .int .i64 0, .int .i64 0, .int .i64 0, .string ⟨#[]⟩] 33 (0, 0)) := by
    have := heap_alloc_new ((w.alloc (.cells (layA n q s2 t) 71)).alloc (.cells #[.slice oa raws.length ca, .slice ob masks.length cb] 60)) (.cells #[.int .i64 0, .int .i64 0, .int .i64 0, .int .i64 0, .string ⟨#[]⟩] 33)
    simpa using this
  unfold layA at h1 gL gI gR hb0 hrcd ⊢
  clear hlook
  go_enter Tryz.func47, Tryz.ntmps47
  go_wp2_with fail
  refine h1.mono ?_
  rintro e w1 ⟨rfl, hb1⟩
  have gL1 := (hb1.block _ (lt_of_block gL)).trans gL
  have gI1 := (hb1.block _ (lt_of_block gI)).trans gI
  have gR1 := (hb1.block _ (lt_of_block gR)).trans gR
  have hlt1 := lt_of_block gR1
  have hba : Below w1.heap.size w1 (w1.alloc (.cells #[.bool ok, .int .i64 h.v0, .int .i64 h.v1, .int .i64 h.v2, .int .i64 h.v3, .int .i64 h.v4, .int .i64 h.v5, .int .i64 h.v6, .int .i64 h.v7, .string body] 81)) := (Below.refl _ _).alloc (Nat.le_refl _) _
  have n1 : (w1.alloc (.cells #[.bool ok, .int .i64 h.v0, .int .i64 h.v1, .int .i64 h.v2, .int .i64 h.v3, .int .i64 h.v4, .int .i64 h.v5, .int .i64 h.v6, .int .i64 h.v7, .string body] 81)).cell? ⟨w.heap.size, 0, none⟩ = some (.int .i64 (n : Int)) := cell_of_row _ _ 0 _ _ _ ((hba.block _ (by omega)).trans gL1)
  have HB1 : Hid (Below w.heap.size w (w1.alloc (.cells #[.bool ok, .int .i64 h.v0, .int .i64 h.v1, .int .i64 h.v2, .int .i64 h.v3, .int .i64 h.v4, .int .i64 h.v5, .int .i64 h.v6, .int .i64 h.v7, .string body] 81)) ∧ (w1.alloc (.cells #[.bool ok, .int .i64 h.v0, .int .i64 h.v1, .int .i64 h.v2, .int .i64 h.v3, .int .i64 h.v4, .int .i64 h.v5, .int .i64 h.v6, .int .i64 h.v7, .string body] 81)).heap[w.heap.size]? = some (.cells #[.int .i64 (n : Int), .int .i64 2, .int .i64 3, .int .i64 27, .int .i64 28, .int .i64 29, .int .i64 (q : Int), .int .i64 (29 + (q : Int)), .int .i64 (s2 : Int), .int .i64 (29 + (q : Int) + (s2 : Int)), .int .i64 (29 + (q : Int) + (s2 : Int) + 1), .int .i64 (n : Int), .int .i64 ((n : Int) + 1), .int .i64 (t : Int), .int .i64 ((n : Int) + 1 + (t : Int)), .int .i64 ((n : Int) + 1 + (t : Int) + (n : Int))] 71 (0, 0)) ∧ (w1.alloc (.cells #[.bool ok, .int .i64 h.v0, .int .i64 h.v1, .int .i64 h.v2, .int .i64 h.v3, .int .i64 h.v4, .int .i64 h.v5, .int .i64 h.v6, .int .i64 h.v7, .string body] 81)).heap[w.heap.size + 1]? = some (.cells #[.slice oa raws.length ca, .slice ob masks.length cb] 60 (0, 0)) ∧ (w1.alloc (.cells #[.bool ok, .int .i64 h.v0, .int .i64 h.v1, .int .i64 h.v2, .int .i64 h.v3, .int .i64 h.v4, .int .i64 h.v5, .int .i64 h.v6, .int .i64 h.v7, .string body] 81)).heap[w.heap.size + 1 + 1]? = some (.cells #[.int .i64 0, .int .i64 0, .int .i64 0, .int .i64 0, .string ⟨#[]⟩] 33 (0, 0)) ∧ (w1.alloc (.cells #[.bool ok, .int .i64 h.v0, .int .i64 h.v1, .int .i64 h.v2, .int .i64 h.v3, .int .i64 h.v4, .int .i64 h.v5, .int .i64 h.v6, .int .i64 h.v7, .string body] 81)).heap[w1.heap.size]? = some (.cells #[.bool ok, .int .i64 h.v0, .int .i64 h.v1, .int .i64 h.v2, .int .i64 h.v3, .int .i64 h.v4, .int .i64 h.v5, .int .i64 h.v6, .int .i64 h.v7, .string body] 81 (0, 0)) ∧ w.heap.size + 1 + 1 < w1.heap.size) := ⟨(hb0.trans (hb1.mono hb0.size)).trans (hba.mono (by omega)), (hba.block _ (by omega)).trans gL1, (hba.block _ (by omega)).trans gI1, (hba.block _ (by omega)).trans gR1, heap_alloc_new w1 _, hlt1⟩
  clear h1 hb0 gL gI gR hb1 gL1 gI1 gR1 hba
  go_wp2_with fail
  refine (hpi _).mono ?_
  rintro e w2 ⟨rfl, hb2⟩
  have hz2 : w1.heap.size < w2.heap.size := by have := hb2.size; simp at this; omega
  have hba : Below w2.heap.size w2 (w2.alloc (.cells #[.int .i64 s0, .int .i64 s1, .int .i64 s3, .int .i64 s4, .string r] 33)) := (Below.refl _ _).alloc (Nat.le_refl _) _
  have hbc : Below (w1.alloc (.cells #[.bool ok, .int .i64 h.v0, .int .i64 h.v1, .int .i64 h.v2, .int .i64 h.v3, .int .i64 h.v4, .int .i64 h.v5, .int .i64 h.v6, .int .i64 h.v7, .string body] 81)).heap.size (w1.alloc (.cells #[.bool ok, .int .i64 h.v0, .int .i64 h.v1, .int .i64 h.v2, .int .i64 h.v3, .int .i64 h.v4, .int .i64 h.v5, .int .i64 h.v6, .int .i64 h.v7, .string body] 81)) (w2.alloc (.cells #[.int .i64 s0, .int .i64 s1, .int .i64 s3, .int .i64 s4, .string r] 33)) := hb2.trans (hba.mono hb2.size)
  have HB2 : Hid (Below w.heap.size w (w2.alloc (.cells #[.int .i64 s0, .int .i64 s1, .int .i64 s3, .int .i64 s4, .string r] 33)) ∧ (w2.alloc (.cells #[.int .i64 s0, .int .i64 s1, .int .i64 s3, .int .i64 s4, .string r] 33)).heap[w.heap.size]? = some (.cells #[.int .i64 (n : Int), .int .i64 2, .int .i64 3, .int .i64 27, .int .i64 28, .int .i64 29, .int .i64 (q : Int), .int .i64 (29 + (q : Int)), .int .i64 (s2 : Int), .int .i64 (29 + (q : Int) + (s2 : Int)), .int .i64 (29 + (q : Int) + (s2 : Int) + 1), .int .i64 (n : Int), .int .i64 ((n : Int) + 1), .int .i64 (t : Int), .int .i64 ((n : Int) + 1 + (t : Int)), .int .i64 ((n : Int) + 1 + (t : Int) + (n : Int))] 71 (0, 0)) ∧ (w2.alloc (.cells #[.int .i64 s0, .int .i64 s1, .int .i64 s3, .int .i64 s4, .string r] 33)).heap[w.heap.size + 1]? = some (.cells #[.slice oa raws.length ca, .slice ob masks.length cb] 60 (0, 0)) ∧ (w2.alloc (.cells #[.int .i64 s0, .int .i64 s1, .int .i64 s3, .int .i64 s4, .string r] 33)).heap[w.heap.size + 1 + 1]? = some (.cells #[.int .i64 0, .int .i64 0, .int .i64 0, .int .i64 0, .string ⟨#[]⟩] 33 (0, 0)) ∧ (w2.alloc (.cells #[.int .i64 s0, .int .i64 s1, .int .i64 s3, .int .i64 s4, .string r] 33)).heap[w1.heap.size]? = some (.cells #[.bool ok, .int .i64 h.v0, .int .i64 h.v1, .int .i64 h.v2, .int .i64 h.v3, .int .i64 h.v4, .int .i64 h.v5, .int .i64 h.v6, .int .i64 h.v7, .string body] 81 (0, 0)) ∧ (w2.alloc (.cells #[.int .i64 s0, .int .i64 s1, .int .i64 s3, .int .i64 s4, .string r] 33)).heap[w2.heap.size]? = some (.cells #[.int .i64 s0, .int .i64 s1, .int .i64 s3, .int .i64 s4, .string r] 33 (0, 0)) ∧ w.heap.size + 1 + 1 < w1.heap.size) := ⟨HB1.out.1.trans (hbc.mono HB1.out.1.size), (hbc.block _ (lt_of_block HB1.out.2.1)).trans HB1.out.2.1, (hbc.block _ (lt_of_block HB1.out.2.2.1)).trans HB1.out.2.2.1, (hbc.block _ (lt_of_block HB1.out.2.2.2.1)).trans HB1.out.2.2.2.1, (hbc.block _ (lt_of_block HB1.out.2.2.2.2.1)).trans HB1.out.2.2.2.2.1, heap_alloc_new w2 _, HB1.out.2.2.2.2.2⟩
  have h3 := hrcd _ HB2.out.1
  have i0 : (w2.alloc (.cells #[.int .i64 s0, .int .i64 s1, .int .i64 s3, .int .i64 s4, .string r] 33)).cell? ⟨w.heap.size + 1, 0, none⟩ = some (.slice oa raws.length ca) := cell_of_row _ _ 0 _ _ _ HB2.out.2.2.1
  have i1 : (w2.alloc (.cells #[.int .i64 s0, .int .i64 s1, .int .i64 s3, .int .i64 s4, .string r] 33)).cell? ⟨w.heap.size + 1, 1, none⟩ = some (.slice ob masks.length cb) := cell_of_row _ _ 1 _ _ _ HB2.out.2.2.1
  have y0 : (w2.alloc (.cells #[.int .i64 s0, .int .i64 s1, .int .i64 s3, .int .i64 s4, .string r] 33)).cell? ⟨w.heap.size, 0, none⟩ = some (.int .i64 (n : Int)) := cell_of_row _ _ 0 _ _ _ HB2.out.2.1
  have y1 : (w2.alloc (.cells #[.int .i64 s0, .int .i64 s1, .int .i64 s3, .int .i64 s4, .string r] 33)).cell? ⟨w.heap.size, 1, none⟩ = some (.int .i64 2) := cell_of_row _ _ 1 _ _ _ HB2.out.2.1
  have y2 : (w2.alloc (.cells #[.int .i64 s0, .int .i64 s1, .int .i64 s3, .int .i64 s4, .string r] 33)).cell? ⟨w.heap.size, 2, none⟩ = some (.int .i64 3) := cell_of_row _ _ 2 _ _ _ HB2.out.2.1
  have y3 : (w2.alloc (.cells #[.int .i64 s0, .int .i64 s1, .int .i64 s3, .int .i64 s4, .string r] 33)).cell? ⟨w.heap.size, 3, none⟩ = some (.int .i64 27) := cell_of_row _ _ 3 _ _ _ HB2.out.2.1
  have y4 : (w2.alloc (.cells #[.int .i64 s0, .int .i64 s1, .int .i64 s3, .int .i64 s4, .string r] 33)).cell? ⟨w.heap.size, 4, none⟩ = some (.int .i64 28) := cell_of_row _ _ 4 _ _ _ HB2.out.2.1
  have y5 : (w2.alloc (.cells #[.int .i64 s0, .int .i64 s1, .int .i64 s3, .int .i64 s4, .string r] 33)).cell? ⟨w.heap.size, 5, none⟩ = some (.int .i64 29) := cell_of_row _ _ 5 _ _ _ HB2.out.2.1
  have y6 : (w2.alloc (.cells #[.int .i64 s0, .int .i64 s1, .int .i64 s3, .int .i64 s4, .string r] 33)).cell? ⟨w.heap.size, 6, none⟩ = some (.int .i64 (q : Int)) := cell_of_row _ _ 6 _ _ _ HB2.out.2.1
  have y7 : (w2.alloc (.cells #[.int .i64 s0, .int .i64 s1, .int .i64 s3, .int .i64 s4, .string r] 33)).cell? ⟨w.heap.size, 7, none⟩ = some (.int .i64 (29 + (q : Int))) := cell_of_row _ _ 7 _ _ _ HB2.out.2.1
  have y8 : (w2.alloc (.cells #[.int .i64 s0, .int .i64 s1, .int .i64 s3, .int .i64 s4, .string r] 33)).cell? ⟨w.heap.size, 8, none⟩ = some (.int .i64 (s2 : Int)) := cell_of_row _ _ 8 _ _ _ HB2.out.2.1
  have y9 : (w2.alloc (.cells #[.int .i64 s0, .int .i64 s1, .int .i64 s3, .int .i64 s4, .string r] 33)).cell? ⟨w.heap.size, 9, none⟩ = some (.int .i64 (29 + (q : Int) + (s2 : Int))) := cell_of_row _ _ 9 _ _ _ HB2.out.2.1
  have y10 : (w2.alloc (.cells #[.int .i64 s0, .int .i64 s1, .int .i64 s3, .int .i64 s4, .string r] 33)).cell? ⟨w.heap.size, 10, none⟩ = some (.int .i64 (29 + (q : Int) + (s2 : Int) + 1)) := cell_of_row _ _ 10 _ _ _ HB2.out.2.1
  have y11 : (w2.alloc (.cells #[.int .i64 s0, .int .i64 s1, .int .i64 s3, .int .i64 s4, .string r] 33)).cell? ⟨w.heap.size, 11, none⟩ = some (.int .i64 (n : Int)) := cell_of_row _ _ 11 _ _ _ HB2.out.2.1
  have y12 : (w2.alloc (.cells #[.int .i64 s0, .int .i64 s1, .int .i64 s3, .int .i64 s4, .string r] 33)).cell? ⟨w.heap.size, 12, none⟩ = some (.int .i64 ((n : Int) + 1)) := cell_of_row _ _ 12 _ _ _ HB2.out.2.1
  have y13 : (w2.alloc (.cells #[.int .i64 s0, .int .i64 s1, .int .i64 s3, .int .i64 s4, .string r] 33)).cell? ⟨w.heap.size, 13, none⟩ = some (.int .i64 (t : Int)) := cell_of_row _ _ 13 _ _ _ HB2.out.2.1
  have y14 : (w2.alloc (.cells #[.int .i64 s0, .int .i64 s1, .int .i64 s3, .int .i64 s4, .string r] 33)).cell? ⟨w.heap.size, 14, none⟩ = some (.int .i64 ((n : Int) + 1 + (t : Int))) := cell_of_row _ _ 14 _ _ _ HB2.out.2.1
  have y15 : (w2.alloc (.cells #[.int .i64 s0, .int .i64 s1, .int .i64 s3, .int .i64 s4, .string r] 33)).cell? ⟨w.heap.size, 15, none⟩ = some (.int .i64 ((n : Int) + 1 + (t : Int) + (n : Int))) := cell_of_row _ _ 15 _ _ _ HB2.out.2.1
  clear hpi hb2 n1 HB1 hba hbc hrcd
  go_wp2_with fail
  refine h3.mono ?_
  rintro e w3 ⟨rfl, hb3⟩
  have g3 := (hb3.block _ (lt_of_block HB2.out.2.2.2.1)).trans HB2.out.2.2.2.1
  have hb4 : Below w.heap.size w w3 := HB2.out.1.trans (hb3.mono HB2.out.1.size)
  have HB4 : Hid (w3.heap[w.heap.size + 1 + 1]? = some (.cells #[.int .i64 0, .int .i64 0, .int .i64 0, .int .i64 0, .string ⟨#[]⟩] 33 (0, 0)) ∧ Below w.heap.size w w3) := ⟨g3, hb4⟩
  clear h3 hb3 g3 hb4 HB2 i0 i1 y0 y1 y2 y3 y4 y5 y6 y7 y8 y9 y10 y11 y12 y13 y14 y15
  go_wp2_with fail
  go_quiet (fail)
  have g5 : (w3.drewN nq).heap[w.heap.size + 1 + 1]? = some (.cells #[.int .i64 0, .int .i64 0, .int .i64 0, .int .i64 0, .string ⟨#[]⟩] 33 (0, 0)) := HB4.out.1
  have hb5 : Below w.heap.size w (w3.drewN nq) := below_drewN HB4.out.2 nq
  clear HB4
  generalize w3.drewN nq = w5 at *
  go_wp2_with (refine wpList_store_row rfl 33 _ _ rfl (w.heap.size + 1 + 1) #[.int .i64 0, .int .i64 0, .int .i64 0, .int .i64 0, .string ⟨#[]⟩] rfl rfl 33 _ g5 (by kernel_rfl) rfl (by simp [Value.oneCell']) ?_)
  exact jfnd_ret _ (w.heap.size + 1 + 1) _ (.slice none 0 0) #[.int .i64 0, .int .i64 0, .int .i64 0, .int .i64 0, .string ⟨#[]⟩] false _ rfl rfl rfl (setRow_heap _ _ _ _ _ _ g5) rfl ⟨rfl, below_setRow hb5 (by omega) _⟩
end Go.Proofs.YtbmjablmmlnieaaGreatDoor
