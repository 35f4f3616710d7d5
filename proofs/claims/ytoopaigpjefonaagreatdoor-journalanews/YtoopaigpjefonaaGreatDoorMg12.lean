/- journal's Super over any vault that is told. · journal's zeros, blank, isOf, unsealable, headed. · journal's superOn where the power is on; isOf, unsealable at a device and a vault that lie apart. · journal's follow: steps till one fails. · errors.Is at journal's stop and the power's error, by Go's own text; journal's answer. · strings.Builder: WriteString and String off the shelf, laid at the seat. · strings.Clone: the shelf's contract, laid at the seat. · strings.Builder, once more: what was written so far. -/
import Derived.Test.YtoopaigpjefonaaGreatDoorMg11
import Derived.LaidEql
import Derived.Stop.Asserts
import Derived.RowKitTokens
import Derived.Lib.IfaceEq
import Derived.Test.YtoopaigpjefonaaGreatDoorMg00
import Derived.Shelf.Strings.Builder1
import Derived.Shelf.Strings.Builder2
import Derived.Shelf.Strconv.Clone
namespace Go.Proofs.YtoopaigpjefonaaGreatDoor
set_option maxRecDepth 20000
open Go.RowKit

theorem jsup_ret (tmps : Array Value) (g : Nat) (w' : World) (a : Int) (r : ByteArray) (y : Int) (R : Ending → World → Prop) (h1 : tmps.getD 4 undef = .pointer (some ⟨g, 0, none⟩)) (h2 : tmps.getD 5 undef = .int .i64 y) (hg : w'.heap[g]? = some (.cells #[.int .i64 a, .string r] 68 (0, 0))) (hR : R (.returned (.tuple #[.agg #[.int .i64 a, .string r], .int .i64 y])) w') :
    bodyPost Tryz.prog Tryz.f56 R .ret { tmps := tmps, defers := [] } w' := by
  have hr := run_loadVar_row (P := Tryz.prog) w' g 68 68 #[.int .i64 a, .string r] (0, 0) _ hg Tryz.underlying68 rfl (by kernel_rfl)
  simp at h1 h2
  exact bodyPost_ret (v := .tuple #[.agg #[.int .i64 a, .string r], .int .i64 y]) (by simp [results, Tryz.results56, asAddr, hr, h1, h2]) rfl hR
set_option maxHeartbeats 4000000 in
theorem jsup_no (v : Value) (a0 a1 a2 a3 : Int) (r T : ByteArray) (E : Int) (w : World) (hE : ¬ E = 0)
    (hp : ∀ w, Calls Tryz.prog 64 #[.agg #[.int .i64 a0, .int .i64 a1, .int .i64 a2, .int .i64 a3, .string r]] w fun e w' => e = .returned (.tuple #[.string T, .int .i64 E]) ∧ Below w.heap.size w w') :
    Calls Tryz.prog 56 #[v, .agg #[.int .i64 a0, .int .i64 a1, .int .i64 a2, .int .i64 a3, .string r]] w fun e w' => e = .returned (.tuple #[.agg #[.int .i64 0, .string ⟨#[]⟩], .int .i64 E]) ∧ Below w.heap.size w w' := by
  have hE1 : (E != 0) = true := by simpa using hE
  clear hE
  go_enter Tryz.func56, Tryz.ntmps56
  go_wp2_with fail
  refine (hp _).mono ?_
  rintro e w1 ⟨rfl, hb1⟩
  have g1 := (hb1.block (w.heap.size + 1) (by simp)).trans (heap_alloc2_new w _ _)
  have hbw : Below w.heap.size w w1 := (((Below.refl _ _).alloc (Nat.le_refl _) _).alloc (by simp) _).trans (hb1.mono (by simp; omega))
  clear hp hb1
  go_wp2_with (refine wpList_store_row rfl 68 _ _ rfl (w.heap.size + 1) #[.int .i64 0, .string ⟨#[]⟩] rfl rfl 68 _ g1 (by kernel_rfl) rfl (by simp [Value.oneCell']) ?_)
  exact jsup_ret _ (w.heap.size + 1) _ 0 ⟨#[]⟩ E _ rfl rfl (setRow_heap _ _ _ _ _ _ g1) ⟨rfl, below_setRow hbw (by omega) _⟩
set_option maxHeartbeats 4000000 in
theorem jsup_yes (v : Value) (a0 a1 a2 a3 : Int) (r T X : ByteArray) (E : Int) (P : World → Prop) (w : World) (hP : Stb w.heap.size P)
    (hp : ∀ w, Calls Tryz.prog 64 #[.agg #[.int .i64 a0, .int .i64 a1, .int .i64 a2, .int .i64 a3, .string r]] w fun e w' => e = .returned (.tuple #[.string T, .int .i64 0]) ∧ Below w.heap.size w w')
    (hs : ∀ w', Below w.heap.size w w' → Calls Tryz.prog 96 #[v, .agg #[.int .i64 a0, .int .i64 (a1.tmod 2), .int .i64 1, .int .i64 0, .int .i64 0, .int .i64 0, .int .i64 a1, .int .i64 a1], .string T] w' fun e w'' => e = .returned (.tuple #[.string X, .int .i64 E]) ∧ P w'' ∧ Kept w.heap.size w' w'' ∧ w'.heap.size ≤ w''.heap.size) :
    Calls Tryz.prog 56 #[v, .agg #[.int .i64 a0, .int .i64 a1, .int .i64 a2, .int .i64 a3, .string r]] w fun e w' => e = .returned (.tuple #[.agg #[.int .i64 (if E = 0 then a1.tmod 2 else 0), .string (if E = 0 then X else ⟨#[]⟩)], .int .i64 E]) ∧ P w' := by
  go_enter Tryz.func56, Tryz.ntmps56
  go_wp2_with fail
  refine (hp _).mono ?_
  rintro e w1 ⟨rfl, hb1⟩
  have g1 := (hb1.block (w.heap.size + 1) (by simp)).trans (heap_alloc2_new w _ _)
  have g0 := (hb1.block w.heap.size (by simp; omega)).trans (heap_alloc2_old w _ _)
  have hbw : Below w.heap.size w w1 := (((Below.refl _ _).alloc (Nat.le_refl _) _).alloc (by simp) _).trans (hb1.mono (by simp; omega))
  have hlt := lt_of_block g1
  have c0 : w1.cell? ⟨w.heap.size, 0, none⟩ = some (.int .i64 a0) := cell_of_row _ _ 0 _ _ _ g0
  have c1 : w1.cell? ⟨w.heap.size, 1, none⟩ = some (.int .i64 a1) := cell_of_row _ _ 1 _ _ _ g0
  have hs2 := hs (w1.alloc (.cells #[.int .i64 a0, .int .i64 (a1.tmod 2), .int .i64 1, .int .i64 0, .int .i64 0, .int .i64 0, .int .i64 a1, .int .i64 a1] 121)) (hbw.alloc (by omega) _)
  clear hp hb1 hs
  go_wp2_with fail
  refine hs2.mono ?_
  rintro e w3 ⟨rfl, hp3, hk3, hz3⟩
  have g3 : w3.heap[w.heap.size + 1]? = _ := (hk3 _ (by omega) (by simp; omega)).trans ((Below.heap_alloc _ _ _ hlt).trans g1)
  have gh : w3.heap[w1.heap.size]? = _ := (hk3 _ (by omega) (by simp)).trans (heap_alloc_new w1 _)
  have ch : w3.cell? ⟨w1.heap.size, 1, none⟩ = some (.int .i64 (a1.tmod 2)) := cell_of_row _ _ 1 _ _ _ gh
  have HP3 : Hid (∀ cs, P (w3.setRow (w.heap.size + 1) cs)) := fun cs => hP _ _ hp3 (below_setRow (Below.refl _ _) (by omega) _)
  clear hs2 g0 c0 c1 gh hp3 hk3 hz3 g1 hbw
  by_cases hE : E = 0
  · subst hE
    generalize hq : a1.tmod 2 = q at *
    go_wp2_with (refine wpList_store_row rfl 68 _ _ rfl (w.heap.size + 1) #[.int .i64 q, .string X] rfl rfl 68 _ g3 (by kernel_rfl) rfl (by simp [Value.oneCell']) ?_)
    exact jsup_ret _ (w.heap.size + 1) _ q X 0 _ rfl rfl (setRow_heap _ _ _ _ _ _ g3) ⟨by simp, HP3.out _⟩
  · have hE1 : (E != 0) = true := by simpa using hE
    go_wp2_with (refine wpList_store_row rfl 68 _ _ rfl (w.heap.size + 1) #[.int .i64 0, .string ⟨#[]⟩] rfl rfl 68 _ g3 (by kernel_rfl) rfl (by simp [Value.oneCell']) ?_)
    exact jsup_ret _ (w.heap.size + 1) _ 0 ⟨#[]⟩ E _ rfl rfl (setRow_heap _ _ _ _ _ _ g3) ⟨by simp, HP3.out _⟩
theorem jsuper_any (K : VK) (HK : VKOk K) (F : Nat → Prop) (S : K.σ) (s : Sp) {w w' : World} (hr : K.room S 1) (hl : VOut K F w S w') (hw : w.heap.size ≤ w'.heap.size) :
    Calls Tryz.prog 56 #[K.v, .agg s.arr] w' fun e w'' => e = .returned (.tuple #[.agg #[.int .i64 (supA s), .string (supR K S s)], .int .i64 (supE s)]) ∧ VOut K F w (supP K S s) w'' ∧ Kept w.heap.size w' w'' ∧ w'.heap.size ≤ w''.heap.size := by
  have hp := fun w => super_any s.vol s.ep s.nx s.lv s.root w
  by_cases he : s.err = 0
  · have he' : superE s.vol s.ep s.nx s.lv s.root = 0 := he
    rw [he'] at hp
    have e1 : supE s = bsealE s.hd s.txt := if_pos he
    have e2 : supP K S s = K.sP S s.hd s.txt := if_pos he
    have e3 : supA s = if bsealE s.hd s.txt = 0 then s.ep.tmod 2 else 0 := by unfold supA; rw [e1]
    have e4 : supR K S s = if bsealE s.hd s.txt = 0 then K.sS S s.hd s.txt else ⟨#[]⟩ := by unfold supR; rw [e1]
    rw [e1, e2, e3, e4]
    exact jsup_yes K.v s.vol s.ep s.nx s.lv s.root s.txt (K.sS S s.hd s.txt) (bsealE s.hd s.txt) (fun w'' => VOut K F w (K.sP S s.hd s.txt) w'' ∧ Kept w.heap.size w' w'' ∧ w'.heap.size ≤ w''.heap.size) w' (fun w1 w2 h hb => ⟨VOut.stb HK _ _ h.1 (hb.mono hw), fun k hk hk2 => (hb.block k hk2).trans (h.2.1 k hk hk2), Nat.le_trans h.2.2 hb.size⟩) hp fun w1 hb => by
      have h1 := VOut.seal_ HK s.hd s.txt hr (VOut.stb HK _ _ hl (hb.mono hw))
      refine h1.mono fun e w'' ⟨h2, h3, h4, h5⟩ => ⟨h2, ⟨h3, fun k hk hk2 => (h4 k hk (Nat.lt_of_lt_of_le hk2 hb.size)).trans (hb.block k hk2), Nat.le_trans hb.size h5⟩, fun k hk hk2 => h4 k (Nat.le_trans hw hk) hk2, h5⟩
  · have he' : ¬ superE s.vol s.ep s.nx s.lv s.root = 0 := he
    have e1 : supE s = superE s.vol s.ep s.nx s.lv s.root := if_neg he
    have e2 : supP K S s = S := if_neg he
    have e3 : supA s = 0 := by unfold supA; rw [e1]; exact if_neg he'
    have e4 : supR K S s = ⟨#[]⟩ := by unfold supR; rw [e1]; exact if_neg he'
    rw [e1, e2, e3, e4]
    exact (jsup_no K.v s.vol s.ep s.nx s.lv s.root (superS s.vol s.ep s.nx s.lv s.root) _ w' he' hp).mono fun e w'' ⟨h1, h2⟩ => ⟨h1, VOut.stb HK _ _ hl (h2.mono hw), fun k _ hk => h2.block k hk, h2.size⟩
end Go.Proofs.YtoopaigpjefonaaGreatDoor

namespace Go.Proofs.YtoopaigpjefonaaGreatDoor
set_option maxRecDepth 20000
open Go.RowKit

set_option maxRecDepth 100000 in
theorem blank12_eq : (⟨(Lib.repeatL (⟨#[0]⟩ : ByteArray).data.toList 12).toArray⟩ : ByteArray) = fillS 0 12 := by rfl
theorem jzeros_any (n : Nat) (hn : n = 12 ∨ n = 512) (w : World) : Calls Tryz.prog 66 #[.int .i64 (n : Int)] w fun e w' => e = .returned (.string (fillS 0 n)) ∧ Below w.heap.size w w' := by
  have hr : ∀ w : World, Calls Tryz.prog 46 #[.string ⟨#[0]⟩, .int .i64 (n : Int)] w fun e w' => e = .returned (.string (fillS 0 n)) ∧ Below w.heap.size w w' := fun w => by
    rcases hn with rfl | rfl
    · have h := Any.strings_Repeat pl_lays105 pl_Builder_Extra_105 ⟨#[0]⟩ 12 w (by decide) (by decide)
      rw [blank12_eq] at h
      exact h
    · have h := Any.strings_Repeat pl_lays105 pl_Builder_Extra_105 ⟨#[0]⟩ 512 w (by decide) (by decide)
      rw [blank512_eq] at h
      exact h
  generalize fillS 0 n = z at *
  clear hn
  go_enter Tryz.func66, Tryz.ntmps66
  go_wp2_with fail
  refine (hr _).mono ?_
  rintro e w1 ⟨rfl, hb⟩
  have HB : Hid _ := hb
  clear hb hr
  go_wp2
  go_ret
  exact ⟨rfl, HB.out⟩
theorem blank_ret (tmps : Array Value) (g : Nat) (w' : World) (cs : Array Value) (R : Ending → World → Prop) (h1 : tmps.getD 2 undef = .pointer (some ⟨g, 0, none⟩)) (hg : w'.heap[g]? = some (.cells cs 68 (0, 0))) (hs : cs.size = 2) (hR : R (.returned (.agg cs)) w') :
    bodyPost Tryz.prog Tryz.f32 R .ret { tmps := tmps, defers := [] } w' :=
  bodyPost_ret (v := .agg cs) (results_cell_row Tryz.results32 tmps w' g 68 cs (0, 0) _ h1 hg Tryz.underlying68 rfl (by rw [hs]; kernel_rfl)) rfl hR
set_option maxHeartbeats 4000000 in
theorem jblank_any (a : Int) (w : World) : Calls Tryz.prog 32 #[.int .i64 a] w fun e w' => e = .returned (.agg #[.int .i64 a, .string (fillS 0 512)]) ∧ Below w.heap.size w w' := by
  have hz := fun w => jzeros_any 512 (.inr rfl) w
  generalize fillS 0 512 = z at *
  go_enter Tryz.func32, Tryz.ntmps32
  go_wp2_with fail
  refine (hz _).mono ?_
  rintro e w1 ⟨rfl, hb1⟩
  have g0 := (hb1.block w.heap.size (by simp)).trans (heap_alloc_new w _)
  have hbw : Below w.heap.size w w1 := (below_new w _).trans (hb1.mono (by simp))
  clear hb1 hz
  go_wp2_with (refine wpList_store_row rfl 68 _ _ rfl w.heap.size #[.int .i64 a, .string z] rfl rfl 68 _ g0 (by kernel_rfl) rfl (by simp [Value.oneCell']) ?_)
  exact blank_ret _ w.heap.size _ #[.int .i64 a, .string z] _ rfl (setRow_heap _ _ _ _ _ _ g0) rfl ⟨rfl, hbw.trans ⟨rfl, rfl, rfl, by simp [World.setRow], fun k hk => setRow_other _ _ _ _ (by omega)⟩⟩
set_option maxHeartbeats 4000000 in
theorem isOf_any (p : Value) (sc : Int) (s : Sp) (w : World) (hS : ∀ W, Below w.heap.size w W → Calls Tryz.prog 90 #[p] W fun e W' => e = .returned (.int .i64 sc) ∧ W' = W) :
    Calls Tryz.prog 27 #[p, .agg s.arr] w fun e w' => e = .returned (.bool (decide (loE sc = 0 ∧ loN sc = s.lv))) ∧ Below w.heap.size w w' := by
  obtain ⟨a0, a1, a2, a3, r⟩ := s
  simp only [Sp.arr]
  have hb0 : Below w.heap.size w (w.alloc (.cells #[.int .i64 a0, .int .i64 a1, .int .i64 a2, .int .i64 a3, .string r] 23)) := (Below.refl _ _).alloc (Nat.le_refl _) _
  have hl := live_any p sc (w.alloc (.cells #[.int .i64 a0, .int .i64 a1, .int .i64 a2, .int .i64 a3, .string r] 23)) fun W hW => hS W (hb0.trans (hW.mono hb0.size))
  have g0 := heap_alloc_new w (.cells #[.int .i64 a0, .int .i64 a1, .int .i64 a2, .int .i64 a3, .string r] 23)
  generalize loE sc = E at *
  generalize loN sc = N at *
  clear hS
  go_enter Tryz.func27, Tryz.ntmps27
  go_wp2_with fail
  refine hl.mono ?_
  rintro e w1 ⟨rfl, hb1⟩
  have g1 := (hb1.block w.heap.size (by simp)).trans g0
  have c3 : w1.cell? ⟨w.heap.size, 3, none⟩ = some (.int .i64 a3) := by simp [World.cell?, g1]
  have HB : Hid (Below w.heap.size w w1) := hb0.trans (hb1.mono hb0.size)
  clear hl hb0 hb1 g0 g1
  by_cases h1 : E = 0
  · subst h1
    by_cases h2 : N = a3
    · have h3 : (N == a3) = true := by simp [h2]
      go_wp2
      go_ret
      exact ⟨by simp, HB.out⟩
    · have h3 : (N == a3) = false := by simp [h2]
      go_wp2
      go_ret
      exact ⟨by simp, HB.out⟩
  · have h3 : (E == 0) = false := by simp [h1]
    go_wp2
    go_ret
    exact ⟨by simp [h1], HB.out⟩
set_option maxHeartbeats 4000000 in
theorem unseal_any (K : VK) (HK : VKOk K) (F : Nat → Prop) (S : K.σ) (s : Sp) (w : World) (hr : K.room S 0) (hl : K.lies w F S) :
    Calls Tryz.prog 28 #[K.v, .agg s.arr] w fun e w' => e = .returned (.int .i64 s.err) ∧ Below w.heap.size w w' := by
  have hp := fun w => super_any s.vol s.ep s.nx s.lv s.root w
  have hz := fun w => jzeros_any 12 (.inl rfl) w
  have hq := fun (w' : World) (hb : Below w.heap.size w w') => HK.probe F S w' hr (HK.below hl hb)
  have he : s.err = superE s.vol s.ep s.nx s.lv s.root := rfl
  rw [he]
  obtain ⟨a0, a1, a2, a3, r⟩ := s
  simp only [Sp.arr] at *
  generalize superE a0 a1 a2 a3 r = E at *
  generalize superS a0 a1 a2 a3 r = T at *
  generalize fillS 0 12 = Z at *
  generalize K.v = v at *
  clear hr hl he
  by_cases h1 : E = 0
  · subst h1
    go_enter Tryz.func28, Tryz.ntmps28
    go_wp2_with fail
    refine (hp _).mono ?_
    rintro e w1 ⟨rfl, hb1⟩
    have hbw : Below w.heap.size w w1 := (below_new w _).trans (hb1.mono (by simp))
    clear hb1 hp
    go_wp2_with fail
    refine (hz _).mono ?_
    rintro e w2 ⟨rfl, hb2⟩
    have hbx : Below w.heap.size w w2 := hbw.trans (hb2.mono hbw.size)
    clear hb2 hz hbw
    go_wp2_with fail
    refine (hq _ hbx).mono ?_
    rintro e w3 ⟨rfl, hb3⟩
    have HB : Hid (Below w.heap.size w w3) := hbx.trans (hb3.mono hbx.size)
    clear hb3 hbx hq
    go_wp2
    go_ret
    exact ⟨rfl, HB.out⟩
  · have h3 : (E != 0) = true := by simpa using h1
    go_enter Tryz.func28, Tryz.ntmps28
    go_wp2_with fail
    refine (hp _).mono ?_
    rintro e w1 ⟨rfl, hb1⟩
    have HB : Hid (Below w.heap.size w w1) := (below_new w _).trans (hb1.mono (by simp))
    clear hb1 hp hz hq h1
    go_wp2
    go_ret
    exact ⟨rfl, HB.out⟩
end Go.Proofs.YtoopaigpjefonaaGreatDoor

namespace Go.Proofs.YtoopaigpjefonaaGreatDoor
set_option maxRecDepth 20000
open Go.RowKit

theorem json_ret (tmps : Array Value) (g : Nat) (w' : World) (a : Int) (r : ByteArray) (y : Int) (R : Ending → World → Prop) (h1 : tmps.getD 6 undef = .pointer (some ⟨g, 0, none⟩)) (h2 : tmps.getD 7 undef = .int .i64 y) (hg : w'.heap[g]? = some (.cells #[.int .i64 a, .string r] 68 (0, 0))) (hR : R (.returned (.tuple #[.agg #[.int .i64 a, .string r], .int .i64 y])) w') :
    bodyPost Tryz.prog Tryz.f29 R .ret { tmps := tmps, defers := [] } w' := by
  have hr := run_loadVar_row (P := Tryz.prog) w' g 68 68 #[.int .i64 a, .string r] (0, 0) _ hg Tryz.underlying68 rfl (by kernel_rfl)
  simp at h1 h2
  exact bodyPost_ret (v := .tuple #[.agg #[.int .i64 a, .string r], .int .i64 y]) (by simp [results, Tryz.results29, asAddr, hr, h1, h2]) rfl hR
set_option maxHeartbeats 4000000 in
theorem superOn_in (p v : Value) (u : Bool) (a0 a1 a2 a3 : Int) (r R : ByteArray) (A E A' E' : Int) (R' : ByteArray) (P : World → Prop) (w : World) (hP : Stb w.heap.size P)
    (hup : ∀ W, Below w.heap.size w W → Calls Tryz.prog 39 #[p] W fun e W' => e = .returned (.bool u) ∧ W' = W)
    (hno : u = false → (∀ W, Below w.heap.size w W → P W) ∧ A' = 0 ∧ R' = ⟨#[]⟩ ∧ E' = 20)
    (hyes : u = true → A' = A ∧ R' = R ∧ E' = E ∧ ∀ W, Below w.heap.size w W → Calls Tryz.prog 56 #[v, .agg #[.int .i64 a0, .int .i64 a1, .int .i64 a2, .int .i64 a3, .string r]] W fun e w'' => e = .returned (.tuple #[.agg #[.int .i64 A, .string R], .int .i64 E]) ∧ P w'' ∧ Kept w.heap.size W w'' ∧ W.heap.size ≤ w''.heap.size) :
    Calls Tryz.prog 29 #[p, v, .agg #[.int .i64 a0, .int .i64 a1, .int .i64 a2, .int .i64 a3, .string r]] w fun e w' => e = .returned (.tuple #[.agg #[.int .i64 A', .string R'], .int .i64 E']) ∧ P w' := by
  have hb0 : Below w.heap.size w ((w.alloc (.cells #[.int .i64 a0, .int .i64 a1, .int .i64 a2, .int .i64 a3, .string r] 23)).alloc (.cells #[.int .i64 0, .string ⟨#[]⟩] 68)) := ((Below.refl _ _).alloc (Nat.le_refl _) _).alloc (by simp) _
  have hu := hup _ hb0
  cases u with
  | false =>
    obtain ⟨h1, rfl, rfl, rfl⟩ := hno rfl
    have HF : Hid _ := h1 _ hb0
    clear hyes hno hup h1 hP hb0
    go_enter Tryz.func29, Tryz.ntmps29
    go_wp2_with fail
    refine hu.mono ?_
    rintro e w1 ⟨rfl, rfl⟩
    clear hu
    go_wp2
    exact json_ret _ (w.heap.size + 1) _ 0 ⟨#[]⟩ 20 _ rfl rfl (heap_alloc2_new w _ _) ⟨rfl, HF.out⟩
  | true =>
    obtain ⟨rfl, rfl, rfl, h1⟩ := hyes rfl
    have hs := h1 _ hb0
    clear hyes hno hup h1
    go_enter Tryz.func29, Tryz.ntmps29
    go_wp2_with fail
    refine hu.mono ?_
    rintro e w1 ⟨rfl, rfl⟩
    clear hu
    go_wp2_with fail
    refine hs.mono ?_
    rintro e w2 ⟨rfl, hp2, hk2, hz2⟩
    have g2 : w2.heap[w.heap.size + 1]? = some (.cells #[.int .i64 0, .string ⟨#[]⟩] 68 (0, 0)) := (hk2 _ (by omega) (by simp)).trans (heap_alloc2_new w _ _)
    have HP2 : Hid (∀ cs, P (w2.setRow (w.heap.size + 1) cs)) := fun cs => hP _ _ hp2 (below_setRow (Below.refl _ _) (by omega) _)
    clear hs hp2 hk2 hz2 hb0
    go_wp2_with (refine wpList_store_row rfl 68 _ _ rfl (w.heap.size + 1) #[.int .i64 A', .string R'] rfl rfl 68 _ g2 (by kernel_rfl) rfl (by simp [Value.oneCell']) ?_)
    exact json_ret _ (w.heap.size + 1) _ A' R' E' _ rfl rfl (setRow_heap _ _ _ _ _ _ g2) ⟨rfl, HP2.out _⟩
/-- What superOn tells. -/
def sonE (P : PS) (s : Sp) : Int := if P.up then supE s else 20
def sonA (P : PS) (s : Sp) : Int := if P.up then supA s else 0
def sonR (K : VK) (P : PS) (S : K.σ) (s : Sp) : ByteArray := if P.up then supR K S s else ⟨#[]⟩
def sonS (K : VK) (P : PS) (S : K.σ) (s : Sp) : K.σ := if P.up then supP K S s else S
theorem superOn_any (K : VK) (HK : VKOk K) (F : Nat → Prop) (B : Nat) (P : PS) (S : K.σ) (s : Sp) (w : World) (h : Duo K w F B P S) (hr : K.room S 1) :
    Calls Tryz.prog 29 #[.pointer (some ⟨B, 0, none⟩), K.v, .agg s.arr] w fun e w' => e = .returned (.tuple #[.agg #[.int .i64 (sonA P s), .string (sonR K P S s)], .int .i64 (sonE P s)]) ∧ Duo K w' F B P (sonS K P S s) ∧ Touch F w w' := by
  refine h.vaultC (E := fun e => e = .returned (.tuple #[.agg #[.int .i64 (sonA P s), .string (sonR K P S s)], .int .i64 (sonE P s)])) fun F2 hl _ => ?_
  refine (superOn_in (.pointer (some ⟨B, 0, none⟩)) K.v P.up s.vol s.ep s.nx s.lv s.root (supR K S s) (supA s) (supE s) (sonA P s) (sonE P s) (sonR K P S s) (VOut K F2 w (sonS K P S s)) w (VOut.stb HK) (fun W hb => (h.below HK hb).up) (fun hu => ?_) (fun hu => ?_)).mono fun e w' ⟨h1, h2⟩ => ⟨h1, h2.lies HK, h2.2⟩
  · unfold sonS sonA sonR sonE
    rw [hu]
    exact ⟨fun W hb => VOut.start HK hl hb, rfl, rfl, rfl⟩
  · unfold sonS sonA sonR sonE
    rw [hu]
    refine ⟨rfl, rfl, rfl, fun W hb => ?_⟩
    exact jsuper_any K HK F2 S s hr (VOut.start HK hl hb) hb.size
theorem isOf_duo (K : VK) (HK : VKOk K) (F : Nat → Prop) (B : Nat) (P : PS) (S : K.σ) (s : Sp) (w : World) (h : Duo K w F B P S) :
    Calls Tryz.prog 27 #[.pointer (some ⟨B, 0, none⟩), .agg s.arr] w fun e w' => e = .returned (.bool (decide (loE (P.kept.length : Nat) = 0 ∧ loN (P.kept.length : Nat) = s.lv))) ∧ Below w.heap.size w w' :=
  isOf_any _ _ s w fun _ hb => (h.below HK hb).sectors
theorem unseal_duo (K : VK) (HK : VKOk K) (F : Nat → Prop) (B : Nat) (P : PS) (S : K.σ) (s : Sp) (w : World) (h : Duo K w F B P S) (hr : K.room S 0) :
    Calls Tryz.prog 28 #[K.v, .agg s.arr] w fun e w' => e = .returned (.int .i64 s.err) ∧ Below w.heap.size w w' :=
  h.lookC fun F2 hl => unseal_any K HK F2 S s w hr hl
end Go.Proofs.YtoopaigpjefonaaGreatDoor

namespace Go.Proofs.YtoopaigpjefonaaGreatDoor
set_option maxRecDepth 20000
open Go.RowKit

def folE : List (List Wt) → PS → Int
  | [], _ => 0
  | l :: r, S => if takeE l S = 0 then folE r (takeP l S) else takeE l S
def folP : List (List Wt) → PS → PS
  | [], S => S
  | l :: r, S => if takeE l S = 0 then folP r (takeP l S) else takeP l S
/-- Why steps ended, as an error. -/
def stopV (k : Int) (y : Int) : Value := .iface 140 (.agg #[.int .i64 k, .int .i64 y])
def total (ls : List (List Wt)) : Nat := (ls.map List.length).sum
theorem flush_wait (S : PS) : (flushP S).wait.length ≤ S.wait.length := by
  unfold flushP
  split
  · simp [settleP]
  · exact Nat.le_refl _
theorem take_wait : ∀ (l : List Wt) (S : PS), (takeP l S).wait.length ≤ S.wait.length + 8 * l.length
  | [], S => by have := flush_wait S; unfold takeP; simpa using this
  | x :: l, S => by
    have h := (bput_wait S x.at_ x.raw).1
    unfold takeP
    split
    · have := take_wait l (bputP S x.at_ x.raw); rw [List.length_cons]; omega
    · rw [List.length_cons]; omega
theorem Wts.touch2 {w w' : World} {v : Value} {l : List Wt} {F : Nat → Prop} (h : Wts w v l) (ht : Touch F w w') (ho : l ≠ [] → Wts.Out v F) : Wts w' v l := by
  by_cases hl : l = []
  · obtain ⟨oa, cap, rfl⟩ := h.form
    subst hl
    exact .inl ⟨oa, cap, rfl, rfl⟩
  · exact h.touch ht (ho hl)
/-- Steps that lie: a slice of slices of writes, none of them in F. -/
structure Steps (w : World) (F : Nat → Prop) (g o : Nat) (ls : List (List Wt)) : Prop where
  lt : g < w.heap.size
  out : ¬ F g
  el : ∀ i l, ls[i]? = some l → ∃ u, w.cell? ⟨g, o + i, none⟩ = some u ∧ Wts w u l ∧ (l ≠ [] → Wts.Out u F)
theorem Steps.touch {w w' : World} {F : Nat → Prop} {g o : Nat} {ls : List (List Wt)} (h : Steps w F g o ls) (ht : Touch F w w') : Steps w' F g o ls :=
  ⟨Nat.lt_of_lt_of_le h.lt ht.size, h.out, fun i l hl => by
    obtain ⟨u, h1, h2, h3⟩ := h.el i l hl
    exact ⟨u, (World.cell?_of_block (a := ⟨g, o + i, none⟩) (ht.2 g h.lt h.out)).trans h1, h2.touch2 ht h3, h3⟩⟩
/-- A list's block is not among what a plate has grown by. -/
theorem Wts.out_grow {w w' : World} {v : Value} {l : List Wt} {F : Nat → Prop} (h : Wts w v l) (ho : l ≠ [] → Wts.Out v F) (hl : l ≠ []) : Wts.Out v (grow F w w') := by
  rcases h with ⟨_, _, _, h⟩ | ⟨g, o, cap, e, hg, hx⟩
  · exact absurd h hl
  · intro g' o' len cap' e' hF
    have e2 := e'
    rw [e] at e'
    simp only [Value.slice.injEq, Option.some.injEq, Addr.mk.injEq] at e'
    obtain ⟨⟨rfl, _⟩, _⟩ := e'
    rcases hF with hF | hF
    · exact ho hl _ _ _ _ e hF
    · omega
/-- What follow tells: nothing, or why it ended. -/
def RetV (X : Int) (v : Value) : Prop := (v = .nilIface ∧ X = 0) ∨ ∃ k, ¬ X = 0 ∧ v = stopV k X
structure FoR (w : World) (F : Nat → Prop) (B : Nat) (ls : List (List Wt)) (S : PS) (j : Nat) (wr : World) (T : PS) : Prop where
  e : folE ls S = folE (ls.drop j) T
  p : folP ls S = folP (ls.drop j) T
  plate : Plate wr (grow F w wr) B T
  touch : Touch F w wr
  wait : T.wait.length + 8 * total (ls.drop j) ≤ 900000
theorem total_drop {ls : List (List Wt)} {j : Nat} (h : j < ls.length) : total (ls.drop j) = ls[j].length + total (ls.drop (j + 1)) := by
  unfold total
  rw [List.drop_eq_getElem_cons h, List.map_cons, List.sum_cons]
set_option maxHeartbeats 4000000 in
theorem follow_any (g o cap : Nat) (ls : List (List Wt)) (B : Nat) (F : Nat → Prop) (S : PS) (w : World) (hv : Steps w F g o ls) (hls : ls.length ≤ 1000) (hp : Plate w F B S) (hw : S.wait.length + 8 * total ls ≤ 900000) (hg : ErrT w) (hF : ¬ F 3) :
    Calls Tryz.prog 31 #[.pointer (some ⟨B, 0, none⟩), .slice (some ⟨g, o, none⟩) ls.length cap] w fun e w' => (∃ v, e = .returned v ∧ RetV (folE ls S) v) ∧ Plate w' (grow F w w') B (folP ls S) ∧ Touch F w w' := by
  obtain ⟨X, hX⟩ : ∃ X, X = folE ls S := ⟨_, rfl⟩
  obtain ⟨Y, hY⟩ : ∃ Y, Y = folP ls S := ⟨_, rfl⟩
  rw [← hX, ← hY]
  have HX : Hid (X = folE ls S ∧ Y = folP ls S) := ⟨hX, hY⟩
  have HV : Hid (Steps w F g o ls ∧ ErrT w ∧ ¬ F 3) := ⟨hv, hg, hF⟩
  have HI : Hid (FoR w F B ls S 0 w S) := ⟨rfl, rfl, hp.mono fun k _ h => .inl h, Touch.refl _ _, hw⟩
  clear hX hY hv hp hg hF hw
  go_enter Tryz.func31, Tryz.ntmps31
  go_wp2_with fail
  go_loopw [10] (fun iv wr => ∃ (j : Nat) (T : PS), j ≤ ls.length ∧ iv = .int .i64 (j : Int) ∧ Hid (FoR w F B ls S j wr T)) (fun iv _ => ls.length - (intOf iv).toNat)
  case atStart => exact ⟨0, S, Nat.zero_le _, rfl, HI⟩
  case round =>
    clear HI
    obtain ⟨j, T, hj, rfl, HR⟩ := hrel
    by_cases hlt : j < ls.length
    · have j1 : (j : Int) < ls.length := by omega
      obtain ⟨u, c0, hu, huo⟩ := (HV.out.1.touch HR.out.touch).el j _ (List.getElem?_eq_getElem hlt)
      have hgw := (HV.out.1.touch HR.out.touch).lt
      have hd : ls.drop j = ls[j] :: ls.drop (j + 1) := List.drop_eq_getElem_cons hlt
      have htd := total_drop hlt
      have HE : Hid ((X = folE (ls[j] :: ls.drop (j + 1)) T ∧ Y = folP (ls[j] :: ls.drop (j + 1)) T) ∧ folE ls S = folE (ls[j] :: ls.drop (j + 1)) T ∧ folP ls S = folP (ls[j] :: ls.drop (j + 1)) T) := by rw [← hd, HX.out.1, HX.out.2]; exact ⟨⟨HR.out.e, HR.out.p⟩, HR.out.e, HR.out.p⟩
      have HW : Hid (T.wait.length + 8 * (ls[j].length + total (ls.drop (j + 1))) ≤ 900000) := by rw [← htd]; exact HR.out.wait
      clear hd htd
      obtain ⟨u0, c00, hu0, huo0⟩ := HV.out.1.el j _ (List.getElem?_eq_getElem hlt)
      have huu : u0 = u := by
        have := (World.cell?_of_block (a := ⟨g, o + j, none⟩) (HR.out.touch.2 g HV.out.1.lt HV.out.1.out)).trans c00
        rw [c0] at this
        exact (Option.some.inj this).symm
      subst huu
      have hnE : ¬ grow F w wr 3 := fun h => by
        rcases h with h | h
        · exact HV.out.2.2 h
        · have := HV.out.2.1.lt; omega
      have htake : Calls Tryz.prog 68 #[u0, .pointer (some ⟨B, 0, none⟩)] wr fun e w' => e = .returned (.int .i64 (takeE ls[j] T)) ∧ Plate w' (grow (grow F w wr) wr w') B (takeP ls[j] T) ∧ Touch (grow F w wr) wr w' := by
        exact take_any u0 _ B _ T wr hu (fun hl => hu0.out_grow huo0 hl) HR.out.plate (by have := HW.out; omega) (HV.out.2.1.touch HR.out.touch HV.out.2.2) hnE
      clear hu huo c00 hu0 huo0 hnE
      have HTW := take_wait ls[j] T
      generalize ls[j] = l at *
      go_wp2_with fail
      refine htake.mono ?_
      rintro e w2 ⟨rfl, hp2, ht2⟩
      clear htake
      have H2 : Hid (Touch F w w2 ∧ Plate w2 (grow F w w2) B (takeP l T)) := ⟨HR.out.touch.trans ht2, hp2.mono fun k hk h => by
        rcases h with h | h
        · rcases h with h | h
          · exact .inl h
          · exact .inr ⟨h.1, hk⟩
        · exact .inr ⟨by have := HR.out.touch.size; omega, hk⟩⟩
      clear hp2 ht2
      by_cases hz : takeE l T = 0
      · have HF : Hid (FoR w F B ls S (j + 1) w2 (takeP l T)) := ⟨by rw [HE.out.2.1, folE, if_pos hz], by rw [HE.out.2.2, folP, if_pos hz], H2.out.2, H2.out.1, by have := HW.out; omega⟩
        rw [hz]
        clear HE H2
        go_wp2
        go_roundw
        case rel => exact ⟨j + 1, _, by omega, by go_num, HF⟩
        case measure => simp [intOf]; omega
      · have HF : Hid (X = takeE l T ∧ Y = takeP l T ∧ ¬ X = 0) := by rw [HE.out.1.1, HE.out.1.2, folE, folP, if_neg hz, if_neg hz]; exact ⟨rfl, rfl, hz⟩
        have hz1 : (takeE l T != 0) = true := by simpa using hz
        clear HE
        generalize takeE l T = y at *
        go_wp2
        go_ret
        exact ⟨⟨_, rfl, .inr ⟨(j : Int), HF.out.2.2, by rw [HF.out.1]; rfl⟩⟩, by rw [HF.out.2.1]; exact H2.out.2, H2.out.1⟩
    · have j1 : ¬ (j : Int) < ls.length := by omega
      have hd : ls.drop j = [] := List.drop_eq_nil_of_le (by omega)
      have HE : Hid (X = 0 ∧ Y = T) := by
        have e := HR.out.e
        have p := HR.out.p
        rw [hd] at e p
        rw [HX.out.1, HX.out.2, e, p]
        exact ⟨rfl, rfl⟩
      clear hd
      go_wp2
      go_ret
      exact ⟨⟨_, rfl, .inl ⟨rfl, HE.out.1⟩⟩, by rw [HE.out.2]; exact HR.out.plate, HR.out.touch⟩
end Go.Proofs.YtoopaigpjefonaaGreatDoor

namespace Go.Proofs.YtoopaigpjefonaaGreatDoor
set_option maxRecDepth 20000
open Go.RowKit Go.Extern.Stop Go.Stop Go.Extern

theorem is_typeOf (v : Value) (w : World) : (ReflectliteType.typeOf #[.iface 32 v]).run Tryz.prog w = .ok (.iface 240 (.agg #[.pointer (some ⟨6, 32, none⟩)])) w := by kernel_rfl
theorem is_comparable (w : World) : ((ReflectliteType.method fun t => do Rtype.noPackHeld "Comparable" t; pure (.bool (← typeInfo t).comparable)) #[.agg #[.pointer (some ⟨6, 32, none⟩)]]).run Tryz.prog w = .ok (.bool true) w := by kernel_rfl
theorem is_callComparable (w : World) : (callFunc 294 #[.agg #[.pointer (some ⟨6, 32, none⟩)]]).run Tryz.prog w = .ok (.value (.bool true)) w := by
  rw [@run_callFunc_extern Tryz.prog 294 _ (ReflectliteType.method fun t => do Rtype.noPackHeld "Comparable" t; pure (.bool (← typeInfo t).comparable)) Tryz.func294 (by kernel_rfl) (by kernel_rfl) (by kernel_rfl) (by kernel_rfl), is_comparable]
  rfl
theorem is_method (v : Value) (w : World) : (Go.method 501 240 v "Comparable").run Tryz.prog w = .ok (294, v) w := by kernel_rfl
theorem is_comp : (Tryz.prog.info? 32).map (·.comparable) = some true := by kernel_rfl
theorem is_noIsS (v : Value) (xT : TypeId) (w : World) : (Instr.typeAssert (.iface 140 v) xT 242 true).run Tryz.prog w = .ok (.tuple #[.nilIface, .bool false]) w := run_typeAssert_lacksB Tryz.underlying242 (by kernel_rfl) (by kernel_rfl) v xT w
theorem is_hasS (v : Value) (xT : TypeId) (w : World) : (Instr.typeAssert (.iface 140 v) xT 245 true).run Tryz.prog w = .ok (.tuple #[.iface 140 v, .bool true]) w := run_typeAssert_hasB Tryz.underlying245 (by kernel_rfl) v xT w
theorem is_noIsE (v : Value) (xT : TypeId) (w : World) : (Instr.typeAssert (.iface 32 v) xT 242 true).run Tryz.prog w = .ok (.tuple #[.nilIface, .bool false]) w := run_typeAssert_lacksB Tryz.underlying242 (by kernel_rfl) (by kernel_rfl) v xT w
theorem is_noUnE (v : Value) (xT : TypeId) (w : World) : (Instr.typeAssert (.iface 32 v) xT 245 true).run Tryz.prog w = .ok (.tuple #[.nilIface, .bool false]) w := run_typeAssert_lacksB Tryz.underlying245 (by kernel_rfl) (by kernel_rfl) v xT w
theorem is_noUnsE (v : Value) (xT : TypeId) (w : World) : (Instr.typeAssert (.iface 32 v) xT 247 true).run Tryz.prog w = .ok (.tuple #[.nilIface, .bool false]) w := run_typeAssert_lacksB Tryz.underlying247 (by kernel_rfl) (by kernel_rfl) v xT w
theorem is_methodUnwrap (x y : Int) (w : World) : (Go.method 501 140 (.agg #[.int .i64 x, .int .i64 y]) "Unwrap").run Tryz.prog w = .ok (290, .agg #[.int .i64 x, .int .i64 y]) w := by kernel_rfl
theorem junwrap_any (x y : Int) (w : World) : Calls Tryz.prog 290 #[.agg #[.int .i64 x, .int .i64 y]] w fun e w' => e = .returned (.iface 32 (.int .i64 y)) ∧ w' = w.alloc (.cells #[.int .i64 x, .int .i64 y] 140) := by
  go_enter Tryz.func290, Tryz.ntmps290
  go_wp2
  go_ret
  exact ⟨rfl, rfl⟩
set_option maxHeartbeats 4000000 in
theorem is_in (x y : Int) (w : World) :
    Calls Tryz.prog 113 #[.iface 140 (.agg #[.int .i64 x, .int .i64 y]), .iface 32 (.int .i64 20), .bool true] w fun e w' => e = .returned (.bool (y == 20)) ∧ w' = w.alloc (.cells #[.int .i64 x, .int .i64 y] 140) := by
  have f1 := is_noIsS
  have f2 := is_hasS
  have f3 := is_noIsE
  have f4 := is_noUnE
  have f5 := is_noUnsE
  have f6 := is_methodUnwrap
  have hty := run_eql_iface_types (P := Tryz.prog) 140 32 (.agg #[.int .i64 x, .int .i64 y]) (.int .i64 20) Tryz.underlying73 (by decide)
  have heq := fun W : World => Go.Lib.run_eql_iface_int (P := Tryz.prog) W (k := .i64) y 20 Tryz.underlying73 is_comp Tryz.underlying32
  go_enter Tryz.func113, Tryz.ntmps113
  go_wp2_with fail
  refine wp_loop_rounds 2 ?_
  rw [rounds_succ]
  go_wp2_with fail
  refine (junwrap_any x y _).mono ?_
  rintro e w1 ⟨rfl, rfl⟩
  cases hy : (y == 20) with
  | true =>
    go_wp2_with fail
    rw [rounds_succ]
    go_wp2
    go_ret
    exact ⟨by rw [hy]; rfl, rfl⟩
  | false =>
    go_wp2_with fail
    rw [rounds_succ]
    go_wp2
    go_ret
    exact ⟨by rw [hy]; rfl, rfl⟩
set_option maxHeartbeats 4000000 in
theorem is_any (x y : Int) (w : World) :
    Calls Tryz.prog 67 #[.iface 140 (.agg #[.int .i64 x, .int .i64 y]), .iface 32 (.int .i64 20)] w fun e w' => e = .returned (.bool (y == 20)) ∧ w' = w.alloc (.cells #[.int .i64 x, .int .i64 y] 140) := by
  have h8 := @run_callFunc_extern Tryz.prog 112 _ ReflectliteType.typeOf Tryz.func112 (by kernel_rfl) (by kernel_rfl) (by kernel_rfl) (by kernel_rfl)
  have h9 := is_callComparable
  have tT := is_typeOf
  have mR := is_method
  have hin := is_in x y
  generalize (y == 20) = q at *
  go_enter Tryz.func67, Tryz.ntmps67
  go_wp2_with fail
  refine (hin _).mono ?_
  rintro e w1 ⟨rfl, rfl⟩
  go_wp2
  go_ret
  exact ⟨rfl, rfl⟩
/-- What a call of journal tells whose steps ended so. -/
def ansE (y : Int) : Int := if y = 0 then 0 else if y = 20 then 20 else 1
theorem answer_any (X : Int) (v : Value) (hv : RetV X v) (w : World) :
    Calls Tryz.prog 30 #[v] w fun e w' => e = .returned (.int .i64 (ansE X)) ∧ Below w.heap.size w w' := by
  unfold ansE
  rcases hv with ⟨rfl, rfl⟩ | ⟨k, hX, rfl⟩
  · rw [if_pos rfl]
    go_enter Tryz.func30, Tryz.ntmps30
    go_wp2
    go_ret
    exact ⟨rfl, Below.refl _ _⟩
  · rw [if_neg hX]
    have his := is_any k X
    unfold stopV
    by_cases h20 : X = 20
    · rw [if_pos h20]
      rw [show (X == 20) = true by simp [h20]] at his
      clear hX h20
      go_enter Tryz.func30, Tryz.ntmps30
      go_wp2_with fail
      refine (his _).mono ?_
      rintro e w1 ⟨rfl, rfl⟩
      go_wp2
      go_ret
      exact ⟨rfl, (Below.refl _ _).alloc (Nat.le_refl _) _⟩
    · rw [if_neg h20]
      rw [show (X == 20) = false by simp [h20]] at his
      clear hX h20
      go_enter Tryz.func30, Tryz.ntmps30
      go_wp2_with fail
      refine (his _).mono ?_
      rintro e w1 ⟨rfl, rfl⟩
      go_wp2
      go_ret
      exact ⟨rfl, (Below.refl _ _).alloc (Nat.le_refl _) _⟩
end Go.Proofs.YtoopaigpjefonaaGreatDoor

namespace Go.Proofs.YtoopaigpjefonaaGreatDoor
set_option maxRecDepth 20000
open Go.Shelf Go.RowKit

def ct169_ren : Go.Shelf.Ren := ⟨fun | 169 => 83 | n => n, fun | 70 => 154 | 9 => 9 | 0 => 0 | 72 => 156 | 37 => 143 | 127 => 220 | 3 => 3 | 5 => 5 | n => n, fun | n => n⟩
theorem ct169 : Go.Proofs.Lays.n169 Tryz.prog ct169_ren := {
  mixed := by kernel_rfl
  f169 := Tryz.func83.trans (congrArg some (by kernel_rfl))
  t0 := Tryz.underlying0
  a0 := Tryz.isAgg0
  z0 := Tryz.sizeOf0
  v0 := Tryz.zeroValue0
  t3 := Tryz.underlying3
  a3 := Tryz.isAgg3
  z3 := Tryz.sizeOf3
  v3 := Tryz.zeroValue3
  t9 := Tryz.underlying9
  a9 := Tryz.isAgg9
  z9 := Tryz.sizeOf9
  v9 := Tryz.zeroValue9
  t37 := Tryz.underlying143
  a37 := Tryz.isAgg143
  z37 := Tryz.sizeOf143
  v37 := Tryz.zeroValue143
  t70 := Tryz.underlying154
  a70 := Tryz.isAgg154
  z70 := Tryz.sizeOf154
  v70 := Tryz.zeroValue154
  t72 := Tryz.underlying156
  a72 := Tryz.isAgg156
  z72 := Tryz.sizeOf156
  v72 := Tryz.zeroValue156
  t127 := Tryz.underlying220
  a127 := Tryz.isAgg220
  z127 := Tryz.sizeOf220
  v127 := Tryz.zeroValue220 }
theorem ct169_extra : Builder.Extra Tryz.prog ct169_ren := {
  sizeBuilder := by kernel_rfl
  liesBuilder := by kernel_rfl
  t5 := Tryz.underlying5
  a5 := Tryz.isAgg5
  z5 := Tryz.sizeOf5
  v5 := Tryz.zeroValue5
  infoByte := by kernel_rfl
  cellsByte := by kernel_rfl
  sizeByte := by kernel_rfl
  neB5 := by decide }
def ct166_ren : Go.Shelf.Ren := ⟨fun | 166 => 81 | 240 => 122 | 276 => 153 | n => n, fun | 0 => 0 | 3 => 3 | 4 => 4 | 9 => 9 | 20 => 20 | 37 => 143 | 70 => 154 | 72 => 156 | 75 => 73 | 164 => 257 | 5 => 5 | 80 => 97 | n => n, fun | n => n⟩
theorem ct166 : Go.Proofs.Lays.n166 Tryz.prog ct166_ren := {
  mixed := by kernel_rfl
  f166 := Tryz.func81.trans (congrArg some (by kernel_rfl))
  f240 := Tryz.func122.trans (congrArg some (by kernel_rfl))
  f276 := Tryz.func153.trans (congrArg some (by kernel_rfl))
  t0 := Tryz.underlying0
  a0 := Tryz.isAgg0
  z0 := Tryz.sizeOf0
  v0 := Tryz.zeroValue0
  t3 := Tryz.underlying3
  a3 := Tryz.isAgg3
  z3 := Tryz.sizeOf3
  v3 := Tryz.zeroValue3
  t4 := Tryz.underlying4
  a4 := Tryz.isAgg4
  z4 := Tryz.sizeOf4
  v4 := Tryz.zeroValue4
  t9 := Tryz.underlying9
  a9 := Tryz.isAgg9
  z9 := Tryz.sizeOf9
  v9 := Tryz.zeroValue9
  t20 := Tryz.underlying20
  a20 := Tryz.isAgg20
  z20 := Tryz.sizeOf20
  v20 := Tryz.zeroValue20
  t37 := Tryz.underlying143
  a37 := Tryz.isAgg143
  z37 := Tryz.sizeOf143
  v37 := Tryz.zeroValue143
  t70 := Tryz.underlying154
  a70 := Tryz.isAgg154
  z70 := Tryz.sizeOf154
  v70 := Tryz.zeroValue154
  t72 := Tryz.underlying156
  a72 := Tryz.isAgg156
  z72 := Tryz.sizeOf156
  v72 := Tryz.zeroValue156
  t75 := Tryz.underlying73
  a75 := Tryz.isAgg73
  z75 := Tryz.sizeOf73
  v75 := Tryz.zeroValue73
  t164 := Tryz.underlying257
  a164 := Tryz.isAgg257
  z164 := Tryz.sizeOf257
  v164 := Tryz.zeroValue257 }
theorem ct166_extra : Builder.Extra Tryz.prog ct166_ren := {
  sizeBuilder := by kernel_rfl
  liesBuilder := by kernel_rfl
  t5 := Tryz.underlying5
  a5 := Tryz.isAgg5
  z5 := Tryz.sizeOf5
  v5 := Tryz.zeroValue5
  infoByte := by kernel_rfl
  cellsByte := by kernel_rfl
  sizeByte := by kernel_rfl
  neB5 := by decide }
theorem ctString_any (B b : Nat) (l : List UInt8) (w : World) (h : Lib.IsBuilder 156 5 B b (Lib.byteCells l) w) (hBw : B ≤ w.heap.size) :
    Calls Tryz.prog 83 #[.pointer (some ⟨b, 0, none⟩)] w fun e w' => e = .returned (.string ⟨l.toArray⟩) ∧ Below B w w' := Any.Builder_String_any ct169 ct169_extra B b l w h hBw
end Go.Proofs.YtoopaigpjefonaaGreatDoor

namespace Go.Proofs.YtoopaigpjefonaaGreatDoor
set_option maxRecDepth 20000
open Go.Shelf Go.RowKit

def sh_laysM316_ren : Go.Shelf.Ren := ⟨fun | 316 => 188 | n => n, fun | 9 => 9 | 3 => 3 | 4 => 4 | 37 => 143 | 0 => 0 | 127 => 220 | 5 => 5 | n => n, fun | n => n⟩
theorem sh_laysM316 : Go.Proofs.LaysM.n316 Tryz.prog sh_laysM316_ren := {
  mixed := by kernel_rfl
  f316 := Tryz.func188.trans (congrArg some (by kernel_rfl))
  t0 := Tryz.underlying0
  a0 := Tryz.isAgg0
  z0 := Tryz.sizeOf0
  v0 := Tryz.zeroValue0
  t3 := Tryz.underlying3
  a3 := Tryz.isAgg3
  z3 := Tryz.sizeOf3
  v3 := Tryz.zeroValue3
  t4 := Tryz.underlying4
  a4 := Tryz.isAgg4
  z4 := Tryz.sizeOf4
  v4 := Tryz.zeroValue4
  t9 := Tryz.underlying9
  a9 := Tryz.isAgg9
  z9 := Tryz.sizeOf9
  v9 := Tryz.zeroValue9
  t37 := Tryz.underlying143
  a37 := Tryz.isAgg143
  z37 := Tryz.sizeOf143
  v37 := Tryz.zeroValue143
  t127 := Tryz.underlying220
  a127 := Tryz.isAgg220
  z127 := Tryz.sizeOf220
  v127 := Tryz.zeroValue220
  t5 := Tryz.underlying5
  a5 := Tryz.isAgg5
  z5 := Tryz.sizeOf5
  v5 := Tryz.zeroValue5
  i0 := by kernel_rfl
  i3 := by kernel_rfl
  i4 := by kernel_rfl
  i5 := by kernel_rfl
  i9 := by kernel_rfl
  i37 := by kernel_rfl
  i127 := by kernel_rfl }

theorem shSlClone_any (s : ByteArray) (w : World) (hs : s.size ≤ 281474976710656) :
    Calls Tryz.prog 188 #[.string s] w fun e w' => e = .returned (.string s) ∧ Below w.heap.size w w' := Any.stringslite_Clone sh_laysM316 s w hs
theorem shClone_any (s : ByteArray) (w : World) (hs : s.size ≤ 281474976710656) :
    Calls Tryz.prog 170 #[.string s] w fun e w' => e = .returned (.string s) ∧ Below w.heap.size w w' := by
  go_enter Tryz.func170, Tryz.ntmps170
  go_wp2_with fail
  refine (shSlClone_any s _ hs).mono ?_
  rintro e w1 ⟨rfl, hb⟩
  go_wp2
  go_ret
  exact ⟨rfl, hb⟩
end Go.Proofs.YtoopaigpjefonaaGreatDoor

namespace Go.Proofs.YtoopaigpjefonaaGreatDoor
set_option maxRecDepth 20000
open Go.RowKit Go.Shelf

def Bl (B b : Nat) (l : List UInt8) (w : World) : Prop := Lib.IsBuilder 156 5 B b (Lib.byteCells l) w
theorem ptWrite_any (B b : Nat) (l : List UInt8) (s : ByteArray) (w : World) (h : Bl B b l w) (hlen : l.length + s.size ≤ 140737488355328) (hBw : B ≤ w.heap.size) :
    Calls Tryz.prog 81 #[.pointer (some ⟨b, 0, none⟩), .string s] w fun e w' => e = .returned (.tuple #[.int .i64 s.size, .nilIface]) ∧ Bl B b (l ++ s.data.toList) w' ∧ Below B w w' := by
  refine (Any.Builder_WriteString ct166 ct166_extra B b (Lib.byteCells l) s w h (by rw [Lib.byteCells_length]; exact hlen) hBw).mono fun e w' ⟨he, hB, hb⟩ => ⟨by rw [he], .inr ?_, hb⟩
  have e : Lib.byteCells l ++ Lib.strCells s = Lib.byteCells (l ++ s.data.toList) := by simp [Lib.byteCells, Lib.strCells]
  rw [← e]
  exact hB
theorem pt_owns {w w' : World} {base : Nat} {e : TypeId} {size : Nat} {v : Value} {n : Nat} {xs : List Value} (h : w.ownsRow base e size v n xs) (hk : ∀ k, k < w.heap.size → w'.heap[k]? = w.heap[k]?) : w'.ownsRow base e size v n xs := by
  refine ⟨h.1, ?_⟩
  rcases h.2 with h0 | ⟨g, cap, cur, e, h0, hg, h1, h2, h3, h4⟩
  · exact .inl h0
  · exact .inr ⟨g, cap, cur, e, h0, (hk g (lt_of_block hg)).trans hg, h1, h2, h3, h4⟩
theorem Bl_keep {B b : Nat} {l : List UInt8} {w w' : World} (h : Bl B b l w) (hb : Below w.heap.size w w') : Bl B b l w' := by
  have hk : ∀ k, k < w.heap.size → w'.heap[k]? = w.heap[k]? := fun k hk => hb.block k hk
  rcases h with ⟨h1, v, h2, h3, h4⟩ | ⟨h1, v, h2, h3, h4⟩
  · exact .inl ⟨h1, v, (hk _ (lt_of_block h2)).trans h2, pt_owns h3 hk, h4⟩
  · exact .inr ⟨h1, v, (hk _ (lt_of_block h2)).trans h2, pt_owns h3 hk, h4⟩
theorem below_drewN {B : Nat} {w wr : World} (h : Below B w wr) : ∀ m, Below B w (wr.drewN m)
  | 0 => h
  | m + 1 => (below_drewN h m).drew
end Go.Proofs.YtoopaigpjefonaaGreatDoor
