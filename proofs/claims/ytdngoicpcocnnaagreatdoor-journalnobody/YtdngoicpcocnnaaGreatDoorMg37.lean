/- journal's zeros, blank, isOf, unsealable, headed. · journal's superOn where the power is on; isOf, unsealable at a device and a vault that lie apart. · journal's promise over any vault that is told. -/
import Derived.Test.YtdngoicpcocnnaaGreatDoorMg27
import Derived.Test.YtdngoicpcocnnaaGreatDoorMg31
import Derived.Test.YtdngoicpcocnnaaGreatDoorMg32
import Derived.Test.YtdngoicpcocnnaaGreatDoorMg29
import Derived.BigQuiet
import Derived.Deep.RegionHeld3
namespace Go.Proofs.YtdngoicpcocnnaaGreatDoor
set_option maxRecDepth 20000
open Go.RowKit

set_option maxRecDepth 100000 in
theorem blank12_eq : (⟨(Lib.repeatL (⟨#[0]⟩ : ByteArray).data.toList 12).toArray⟩ : ByteArray) = fillS 0 12 := by rfl
theorem jzeros_any (n : Nat) (hn : n = 12 ∨ n = 512) (w : World) : Calls Tryz.prog 70 #[.int .i64 (n : Int)] w fun e w' => e = .returned (.string (fillS 0 n)) ∧ Below w.heap.size w w' := by
  have hr : ∀ w : World, Calls Tryz.prog 26 #[.string ⟨#[0]⟩, .int .i64 (n : Int)] w fun e w' => e = .returned (.string (fillS 0 n)) ∧ Below w.heap.size w w' := fun w => by
    rcases hn with rfl | rfl
    · have h := Any.strings_Repeat pl_lays105 pl_Builder_Extra_105 ⟨#[0]⟩ 12 w (by decide) (by decide)
      rw [blank12_eq] at h
      exact h
    · have h := Any.strings_Repeat pl_lays105 pl_Builder_Extra_105 ⟨#[0]⟩ 512 w (by decide) (by decide)
      rw [blank512_eq] at h
      exact h
  generalize fillS 0 n = z at *
  clear hn
  go_enter Tryz.func70, Tryz.ntmps70
  go_wp2_with fail
  refine (hr _).mono ?_
  rintro e w1 ⟨rfl, hb⟩
  have HB : Hid _ := hb
  clear hb hr
  go_wp2
  go_ret
  exact ⟨rfl, HB.out⟩
theorem blank_ret (tmps : Array Value) (g : Nat) (w' : World) (cs : Array Value) (R : Ending → World → Prop) (h1 : tmps.getD 2 undef = .pointer (some ⟨g, 0, none⟩)) (hg : w'.heap[g]? = some (.cells cs 48 (0, 0))) (hs : cs.size = 2) (hR : R (.returned (.agg cs)) w') :
    bodyPost Tryz.prog Tryz.f38 R .ret { tmps := tmps, defers := [] } w' :=
  bodyPost_ret (v := .agg cs) (results_cell_row Tryz.results38 tmps w' g 48 cs (0, 0) _ h1 hg Tryz.underlying48 rfl (by rw [hs]; kernel_rfl)) rfl hR
set_option maxHeartbeats 4000000 in
theorem jblank_any (a : Int) (w : World) : Calls Tryz.prog 38 #[.int .i64 a] w fun e w' => e = .returned (.agg #[.int .i64 a, .string (fillS 0 512)]) ∧ Below w.heap.size w w' := by
  have hz := fun w => jzeros_any 512 (.inr rfl) w
  generalize fillS 0 512 = z at *
  go_enter Tryz.func38, Tryz.ntmps38
  go_wp2_with fail
  refine (hz _).mono ?_
  rintro e w1 ⟨rfl, hb1⟩
  have g0 := (hb1.block w.heap.size (by simp)).trans (heap_alloc_new w _)
  have hbw : Below w.heap.size w w1 := (below_new w _).trans (hb1.mono (by simp))
  clear hb1 hz
  go_wp2_with (refine wpList_store_row rfl 48 _ _ rfl w.heap.size #[.int .i64 a, .string z] rfl rfl 48 _ g0 (by kernel_rfl) rfl (by simp [Value.oneCell']) ?_)
  exact blank_ret _ w.heap.size _ #[.int .i64 a, .string z] _ rfl (setRow_heap _ _ _ _ _ _ g0) rfl ⟨rfl, hbw.trans ⟨rfl, rfl, rfl, by simp [World.setRow], fun k hk => setRow_other _ _ _ _ (by omega)⟩⟩
set_option maxHeartbeats 4000000 in
theorem isOf_any (p : Value) (sc : Int) (s : Sp) (w : World) (hS : ∀ W, Below w.heap.size w W → Calls Tryz.prog 60 #[p] W fun e W' => e = .returned (.int .i64 sc) ∧ W' = W) :
    Calls Tryz.prog 33 #[p, .agg s.arr] w fun e w' => e = .returned (.bool (decide (loE sc = 0 ∧ loN sc = s.lv))) ∧ Below w.heap.size w w' := by
  obtain ⟨a0, a1, a2, a3, r⟩ := s
  simp only [Sp.arr]
  have hb0 : Below w.heap.size w (w.alloc (.cells #[.int .i64 a0, .int .i64 a1, .int .i64 a2, .int .i64 a3, .string r] 33)) := (Below.refl _ _).alloc (Nat.le_refl _) _
  have hl := live_any p sc (w.alloc (.cells #[.int .i64 a0, .int .i64 a1, .int .i64 a2, .int .i64 a3, .string r] 33)) fun W hW => hS W (hb0.trans (hW.mono hb0.size))
  have g0 := heap_alloc_new w (.cells #[.int .i64 a0, .int .i64 a1, .int .i64 a2, .int .i64 a3, .string r] 33)
  generalize loE sc = E at *
  generalize loN sc = N at *
  clear hS
  go_enter Tryz.func33, Tryz.ntmps33
  go_wp2_with fail
  refine hl.mono ?_
  rintro e w1 ⟨rfl, hb1⟩
  have g1 := (hb1.block w.heap.size (by simp)).trans g0
  have c3 : w1.cell? ⟨w.heap.size, 3, none⟩ = some (.int .i64 a3) := by simp [World.cell?, g1]
  have HB : Hid (Below w.heap.size w w1) := hb0.trans (hb1.mono hb0.size)
  clear hl hb0 hb1 g0 g1
  by_cases h1 : E = 0
  · subst h1
    by_cases h2 : N = a3
    · have h3 : (N == a3) = true := by simp [h2]
      go_wp2
      go_ret
      exact ⟨by simp, HB.out⟩
    · have h3 : (N == a3) = false := by simp [h2]
      go_wp2
      go_ret
      exact ⟨by simp, HB.out⟩
  · have h3 : (E == 0) = false := by simp [h1]
    go_wp2
    go_ret
    exact ⟨by simp [h1], HB.out⟩
set_option maxHeartbeats 4000000 in
theorem unseal_any (K : VK) (HK : VKOk K) (F : Nat → Prop) (S : K.σ) (s : Sp) (w : World) (hr : K.room S 0) (hl : K.lies w F S) :
    Calls Tryz.prog 34 #[K.v, .agg s.arr] w fun e w' => e = .returned (.int .i64 s.err) ∧ Below w.heap.size w w' := by
  have hp := fun w => super_any s.vol s.ep s.nx s.lv s.root w
  have hz := fun w => jzeros_any 12 (.inl rfl) w
  have hq := fun (w' : World) (hb : Below w.heap.size w w') => HK.probe F S w' hr (HK.below hl hb)
  have he : s.err = superE s.vol s.ep s.nx s.lv s.root := rfl
  rw [he]
  obtain ⟨a0, a1, a2, a3, r⟩ := s
  simp only [Sp.arr] at *
  generalize superE a0 a1 a2 a3 r = E at *
  generalize superS a0 a1 a2 a3 r = T at *
  generalize fillS 0 12 = Z at *
  generalize K.v = v at *
  clear hr hl he
  by_cases h1 : E = 0
  · subst h1
    go_enter Tryz.func34, Tryz.ntmps34
    go_wp2_with fail
    refine (hp _).mono ?_
    rintro e w1 ⟨rfl, hb1⟩
    have hbw : Below w.heap.size w w1 := (below_new w _).trans (hb1.mono (by simp))
    clear hb1 hp
    go_wp2_with fail
    refine (hz _).mono ?_
    rintro e w2 ⟨rfl, hb2⟩
    have hbx : Below w.heap.size w w2 := hbw.trans (hb2.mono hbw.size)
    clear hb2 hz hbw
    go_wp2_with fail
    refine (hq _ hbx).mono ?_
    rintro e w3 ⟨rfl, hb3⟩
    have HB : Hid (Below w.heap.size w w3) := hbx.trans (hb3.mono hbx.size)
    clear hb3 hbx hq
    go_wp2
    go_ret
    exact ⟨rfl, HB.out⟩
  · have h3 : (E != 0) = true := by simpa using h1
    go_enter Tryz.func34, Tryz.ntmps34
    go_wp2_with fail
    refine (hp _).mono ?_
    rintro e w1 ⟨rfl, hb1⟩
    have HB : Hid (Below w.heap.size w w1) := (below_new w _).trans (hb1.mono (by simp))
    clear hb1 hp hz hq h1
    go_wp2
    go_ret
    exact ⟨rfl, HB.out⟩
end Go.Proofs.YtdngoicpcocnnaaGreatDoor

namespace Go.Proofs.YtdngoicpcocnnaaGreatDoor
set_option maxRecDepth 20000
open Go.RowKit

theorem json_ret (tmps : Array Value) (g : Nat) (w' : World) (a : Int) (r : ByteArray) (y : Int) (R : Ending → World → Prop) (h1 : tmps.getD 6 undef = .pointer (some ⟨g, 0, none⟩)) (h2 : tmps.getD 7 undef = .int .i64 y) (hg : w'.heap[g]? = some (.cells #[.int .i64 a, .string r] 48 (0, 0))) (hR : R (.returned (.tuple #[.agg #[.int .i64 a, .string r], .int .i64 y])) w') :
    bodyPost Tryz.prog Tryz.f35 R .ret { tmps := tmps, defers := [] } w' := by
  have hr := run_loadVar_row (P := Tryz.prog) w' g 48 48 #[.int .i64 a, .string r] (0, 0) _ hg Tryz.underlying48 rfl (by kernel_rfl)
  simp at h1 h2
  exact bodyPost_ret (v := .tuple #[.agg #[.int .i64 a, .string r], .int .i64 y]) (by simp [results, Tryz.results35, asAddr, hr, h1, h2]) rfl hR
set_option maxHeartbeats 4000000 in
theorem superOn_in (p v : Value) (u : Bool) (a0 a1 a2 a3 : Int) (r R : ByteArray) (A E A' E' : Int) (R' : ByteArray) (P : World → Prop) (w : World) (hP : Stb w.heap.size P)
    (hup : ∀ W, Below w.heap.size w W → Calls Tryz.prog 40 #[p] W fun e W' => e = .returned (.bool u) ∧ W' = W)
    (hno : u = false → (∀ W, Below w.heap.size w W → P W) ∧ A' = 0 ∧ R' = ⟨#[]⟩ ∧ E' = 20)
    (hyes : u = true → A' = A ∧ R' = R ∧ E' = E ∧ ∀ W, Below w.heap.size w W → Calls Tryz.prog 42 #[v, .agg #[.int .i64 a0, .int .i64 a1, .int .i64 a2, .int .i64 a3, .string r]] W fun e w'' => e = .returned (.tuple #[.agg #[.int .i64 A, .string R], .int .i64 E]) ∧ P w'' ∧ Kept w.heap.size W w'' ∧ W.heap.size ≤ w''.heap.size) :
    Calls Tryz.prog 35 #[p, v, .agg #[.int .i64 a0, .int .i64 a1, .int .i64 a2, .int .i64 a3, .string r]] w fun e w' => e = .returned (.tuple #[.agg #[.int .i64 A', .string R'], .int .i64 E']) ∧ P w' := by
  have hb0 : Below w.heap.size w ((w.alloc (.cells #[.int .i64 a0, .int .i64 a1, .int .i64 a2, .int .i64 a3, .string r] 33)).alloc (.cells #[.int .i64 0, .string ⟨#[]⟩] 48)) := ((Below.refl _ _).alloc (Nat.le_refl _) _).alloc (by simp) _
  have hu := hup _ hb0
  cases u with
  | false =>
    obtain ⟨h1, rfl, rfl, rfl⟩ := hno rfl
    have HF : Hid _ := h1 _ hb0
    clear hyes hno hup h1 hP hb0
    go_enter Tryz.func35, Tryz.ntmps35
    go_wp2_with fail
    refine hu.mono ?_
    rintro e w1 ⟨rfl, rfl⟩
    clear hu
    go_wp2
    exact json_ret _ (w.heap.size + 1) _ 0 ⟨#[]⟩ 20 _ rfl rfl (heap_alloc2_new w _ _) ⟨rfl, HF.out⟩
  | true =>
    obtain ⟨rfl, rfl, rfl, h1⟩ := hyes rfl
    have hs := h1 _ hb0
    clear hyes hno hup h1
    go_enter Tryz.func35, Tryz.ntmps35
    go_wp2_with fail
    refine hu.mono ?_
    rintro e w1 ⟨rfl, rfl⟩
    clear hu
    go_wp2_with fail
    refine hs.mono ?_
    rintro e w2 ⟨rfl, hp2, hk2, hz2⟩
    have g2 : w2.heap[w.heap.size + 1]? = some (.cells #[.int .i64 0, .string ⟨#[]⟩] 48 (0, 0)) := (hk2 _ (by omega) (by simp)).trans (heap_alloc2_new w _ _)
    have HP2 : Hid (∀ cs, P (w2.setRow (w.heap.size + 1) cs)) := fun cs => hP _ _ hp2 (below_setRow (Below.refl _ _) (by omega) _)
    clear hs hp2 hk2 hz2 hb0
    go_wp2_with (refine wpList_store_row rfl 48 _ _ rfl (w.heap.size + 1) #[.int .i64 A', .string R'] rfl rfl 48 _ g2 (by kernel_rfl) rfl (by simp [Value.oneCell']) ?_)
    exact json_ret _ (w.heap.size + 1) _ A' R' E' _ rfl rfl (setRow_heap _ _ _ _ _ _ g2) ⟨rfl, HP2.out _⟩
/-- What superOn tells. -/
def sonE (P : PS) (s : Sp) : Int := if P.up then supE s else 20
def sonA (P : PS) (s : Sp) : Int := if P.up then supA s else 0
def sonR (K : VK) (P : PS) (S : K.σ) (s : Sp) : ByteArray := if P.up then supR K S s else ⟨#[]⟩
def sonS (K : VK) (P : PS) (S : K.σ) (s : Sp) : K.σ := if P.up then supP K S s else S
theorem superOn_any (K : VK) (HK : VKOk K) (F : Nat → Prop) (B : Nat) (P : PS) (S : K.σ) (s : Sp) (w : World) (h : Duo K w F B P S) (hr : K.room S 1) :
    Calls Tryz.prog 35 #[.pointer (some ⟨B, 0, none⟩), K.v, .agg s.arr] w fun e w' => e = .returned (.tuple #[.agg #[.int .i64 (sonA P s), .string (sonR K P S s)], .int .i64 (sonE P s)]) ∧ Duo K w' F B P (sonS K P S s) ∧ Touch F w w' := by
  refine h.vaultC (E := fun e => e = .returned (.tuple #[.agg #[.int .i64 (sonA P s), .string (sonR K P S s)], .int .i64 (sonE P s)])) fun F2 hl _ => ?_
  refine (superOn_in (.pointer (some ⟨B, 0, none⟩)) K.v P.up s.vol s.ep s.nx s.lv s.root (supR K S s) (supA s) (supE s) (sonA P s) (sonE P s) (sonR K P S s) (VOut K F2 w (sonS K P S s)) w (VOut.stb HK) (fun W hb => (h.below HK hb).up) (fun hu => ?_) (fun hu => ?_)).mono fun e w' ⟨h1, h2⟩ => ⟨h1, h2.lies HK, h2.2⟩
  · unfold sonS sonA sonR sonE
    rw [hu]
    exact ⟨fun W hb => VOut.start HK hl hb, rfl, rfl, rfl⟩
  · unfold sonS sonA sonR sonE
    rw [hu]
    refine ⟨rfl, rfl, rfl, fun W hb => ?_⟩
    exact jsuper_any K HK F2 S s hr (VOut.start HK hl hb) hb.size
theorem isOf_duo (K : VK) (HK : VKOk K) (F : Nat → Prop) (B : Nat) (P : PS) (S : K.σ) (s : Sp) (w : World) (h : Duo K w F B P S) :
    Calls Tryz.prog 33 #[.pointer (some ⟨B, 0, none⟩), .agg s.arr] w fun e w' => e = .returned (.bool (decide (loE (P.kept.length : Nat) = 0 ∧ loN (P.kept.length : Nat) = s.lv))) ∧ Below w.heap.size w w' :=
  isOf_any _ _ s w fun _ hb => (h.below HK hb).sectors
theorem unseal_duo (K : VK) (HK : VKOk K) (F : Nat → Prop) (B : Nat) (P : PS) (S : K.σ) (s : Sp) (w : World) (h : Duo K w F B P S) (hr : K.room S 0) :
    Calls Tryz.prog 34 #[K.v, .agg s.arr] w fun e w' => e = .returned (.int .i64 s.err) ∧ Below w.heap.size w w' :=
  h.lookC fun F2 hl => unseal_any K HK F2 S s w hr hl
end Go.Proofs.YtdngoicpcocnnaaGreatDoor

namespace Go.Proofs.YtdngoicpcocnnaaGreatDoor
set_option maxRecDepth 20000
open Go.RowKit

theorem jpro_ret (tmps : Array Value) (g : Nat) (w' : World) (a : Int) (r : ByteArray) (y : Int) (R : Ending → World → Prop) (h1 : tmps.getD 6 undef = .pointer (some ⟨g, 0, none⟩)) (h2 : tmps.getD 7 undef = .int .i64 y) (hg : w'.heap[g]? = some (.cells #[.int .i64 a, .string r] 48 (0, 0))) (hR : R (.returned (.tuple #[.agg #[.int .i64 a, .string r], .int .i64 y])) w') :
    bodyPost Tryz.prog Tryz.f41 R .ret { tmps := tmps, defers := [] } w' := by
  have hr := run_loadVar_row (P := Tryz.prog) w' g 48 48 #[.int .i64 a, .string r] (0, 0) _ hg Tryz.underlying48 rfl (by kernel_rfl)
  simp at h1 h2
  exact bodyPost_ret (v := .tuple #[.agg #[.int .i64 a, .string r], .int .i64 y]) (by simp [results, Tryz.results41, asAddr, hr, h1, h2]) rfl hR
set_option maxHeartbeats 4000000 in
theorem jpro_yes (v : Value) (l : List Wt) (oa : Option Addr) (ca : Nat) (a0 a1 a2 a3 : Int) (r T C J H B X : ByteArray) (E : Int) (P Q : World → Prop) (w : World) (hP : Stb w.heap.size P) (hQ : Stb w.heap.size Q) (hT : T.size = 448) (hC : C.size = 2) (hH : H.size = 32)
    (hp : ∀ w, Calls Tryz.prog 68 #[.agg #[.int .i64 a0, .int .i64 a1, .int .i64 a2, .int .i64 a3, .string r]] w fun e w' => e = .returned (.tuple #[.string T, .int .i64 0]) ∧ Below w.heap.size w w')
    (hput : ∀ w, Calls Tryz.prog 74 #[.int .i64 (l.length : Int), .int .i64 2] w fun e w' => e = .returned (.tuple #[.string C, .int .i64 0]) ∧ Below w.heap.size w w')
    (hj : ∀ w', Below w.heap.size w w' → Calls Tryz.prog 77 #[.slice oa l.length ca] w' fun e w'' => e = .returned (.string J) ∧ Below w'.heap.size w' w'')
    (hh : ∀ w', Below w.heap.size w w' → Calls Tryz.prog 76 #[v, .string J] w' fun e w'' => e = .returned (.string H) ∧ Q w'' ∧ Kept w.heap.size w' w'' ∧ w'.heap.size ≤ w''.heap.size)
    (hpad : ∀ w, Calls Tryz.prog 75 #[.string (C ++ H ++ T.extract 0 54), .int .i64 448] w fun e w' => e = .returned (.tuple #[.string B, .int .i64 0]) ∧ Below w.heap.size w w')
    (hs : ∀ w', Q w' → Calls Tryz.prog 78 #[v, .agg #[.int .i64 a0, .int .i64 2, .int .i64 2, .int .i64 0, .int .i64 0, .int .i64 0, .int .i64 a1, .int .i64 a1], .string B] w' fun e w'' => e = .returned (.tuple #[.string X, .int .i64 E]) ∧ P w'' ∧ Kept w.heap.size w' w'' ∧ w'.heap.size ≤ w''.heap.size) :
    Calls Tryz.prog 41 #[v, .slice oa l.length ca, .agg #[.int .i64 a0, .int .i64 a1, .int .i64 a2, .int .i64 a3, .string r]] w fun e w' => e = .returned (.tuple #[.agg #[.int .i64 (if E = 0 then 2 else 0), .string (if E = 0 then X else ⟨#[]⟩)], .int .i64 E]) ∧ P w' := by
  have h54 : (54 : Int) ≤ T.size := by omega
  have hU : (T.extract 0 54).size = 54 := by simp [hT]
  go_enter Tryz.func41, Tryz.ntmps41
  go_wp2_with fail
  refine (hp _).mono ?_
  rintro e w1 ⟨rfl, hb1⟩
  have g1 := (hb1.block (w.heap.size + 1) (by simp)).trans (heap_alloc2_new w _ _)
  have g0 := (hb1.block w.heap.size (by simp; omega)).trans (heap_alloc2_old w _ _)
  have hbw : Below w.heap.size w w1 := (((Below.refl _ _).alloc (Nat.le_refl _) _).alloc (by simp) _).trans (hb1.mono (by simp; omega))
  clear hp hb1
  go_wp2_with fail
  refine (hput _).mono ?_
  rintro e w2 ⟨rfl, hb2⟩
  have HB2 : Hid (Below w.heap.size w w2 ∧ w2.heap[w.heap.size + 1]? = some (.cells #[.int .i64 0, .string ⟨#[]⟩] 48 (0, 0)) ∧ w2.heap[w.heap.size]? = some (.cells #[.int .i64 a0, .int .i64 a1, .int .i64 a2, .int .i64 a3, .string r] 33 (0, 0))) := ⟨hbw.trans (hb2.mono hbw.size), (hb2.block _ (lt_of_block g1)).trans g1, (hb2.block _ (lt_of_block g0)).trans g0⟩
  clear hput hb2 g0 g1 hbw
  go_wp2_with fail
  go_region_held3 (fun _ => True) (exact True.intro) (first
    | (go_at_call 77; refine (hj _ HB2.out.1.drew).mono ?_; rintro e w3 ⟨rfl, hb3⟩; have HB3 : Hid (Below w.heap.size w w3 ∧ w3.heap[w.heap.size + 1]? = some (.cells #[.int .i64 0, .string ⟨#[]⟩] 48 (0, 0)) ∧ w3.heap[w.heap.size]? = some (.cells #[.int .i64 a0, .int .i64 a1, .int .i64 a2, .int .i64 a3, .string r] 33 (0, 0))) := ⟨HB2.out.1.drew.trans (hb3.mono HB2.out.1.size), (hb3.block _ (lt_of_block HB2.out.2.1)).trans HB2.out.2.1, (hb3.block _ (lt_of_block HB2.out.2.2)).trans HB2.out.2.2⟩; clear hb3)
    | (go_at_call 76; refine (hh _ HB3.out.1).mono ?_; rintro e w4 ⟨rfl, hq4, hk4, hz4⟩; have HB4 : Hid (Q w4 ∧ w4.heap[w.heap.size + 1]? = some (.cells #[.int .i64 0, .string ⟨#[]⟩] 48 (0, 0)) ∧ w4.heap[w.heap.size]? = some (.cells #[.int .i64 a0, .int .i64 a1, .int .i64 a2, .int .i64 a3, .string r] 33 (0, 0))) := ⟨hq4, (hk4 _ (by omega) (lt_of_block HB3.out.2.1)).trans HB3.out.2.1, (hk4 _ (by omega) (lt_of_block HB3.out.2.2)).trans HB3.out.2.2⟩; clear hq4 hk4 hz4)
    | (go_at_call 75; refine (hpad _).mono ?_; rintro e w5 ⟨rfl, hb5⟩; have HB5 : Hid (Q w5 ∧ w5.heap[w.heap.size + 1]? = some (.cells #[.int .i64 0, .string ⟨#[]⟩] 48 (0, 0)) ∧ w5.heap[w.heap.size]? = some (.cells #[.int .i64 a0, .int .i64 a1, .int .i64 a2, .int .i64 a3, .string r] 33 (0, 0))) := ⟨hQ _ _ HB4.out.1 (hb5.mono (by have := lt_of_block HB4.out.2.1; omega)), (hb5.block _ (lt_of_block HB4.out.2.1)).trans HB4.out.2.1, (hb5.block _ (lt_of_block HB4.out.2.2)).trans HB4.out.2.2⟩; clear hb5))
  have hlt5 := lt_of_block HB5.out.2.1
  have c0 : w5.cell? ⟨w.heap.size, 0, none⟩ = some (.int .i64 a0) := cell_of_row _ _ 0 _ _ _ HB5.out.2.2
  have c1 : w5.cell? ⟨w.heap.size, 1, none⟩ = some (.int .i64 a1) := cell_of_row _ _ 1 _ _ _ HB5.out.2.2
  have hbA : Below w5.heap.size w5 (w5.alloc (.cells #[.int .i64 a0, .int .i64 2, .int .i64 2, .int .i64 0, .int .i64 0, .int .i64 0, .int .i64 a1, .int .i64 a1] 79)) := (Below.refl _ _).alloc (Nat.le_refl _) _
  have hs2 := hs (w5.alloc (.cells #[.int .i64 a0, .int .i64 2, .int .i64 2, .int .i64 0, .int .i64 0, .int .i64 0, .int .i64 a1, .int .i64 a1] 79)) (hQ _ _ HB5.out.1 (hbA.mono (by omega)))
  have g5 : (w5.alloc (.cells #[.int .i64 a0, .int .i64 2, .int .i64 2, .int .i64 0, .int .i64 0, .int .i64 0, .int .i64 a1, .int .i64 a1] 79)).heap[w.heap.size + 1]? = some (.cells #[.int .i64 0, .string ⟨#[]⟩] 48 (0, 0)) := (Below.heap_alloc _ _ _ hlt5).trans HB5.out.2.1
  clear hj hh hpad hs hbA HB2 HB3 HB4
  go_wp2_with fail
  refine hs2.mono ?_
  rintro e w6 ⟨rfl, hp6, hk6, hz6⟩
  have g6 : w6.heap[w.heap.size + 1]? = some (.cells #[.int .i64 0, .string ⟨#[]⟩] 48 (0, 0)) := (hk6 _ (by omega) (by simp; omega)).trans g5
  have gh : w6.heap[w5.heap.size]? = _ := (hk6 _ (by omega) (by simp)).trans (heap_alloc_new w5 _)
  have ch : w6.cell? ⟨w5.heap.size, 1, none⟩ = some (.int .i64 2) := cell_of_row _ _ 1 _ _ _ gh
  have HP6 : Hid (∀ cs, P (w6.setRow (w.heap.size + 1) cs)) := fun cs => hP _ _ hp6 (below_setRow (Below.refl _ _) (by omega) _)
  clear hs2 c0 c1 gh hp6 hk6 hz6 g5 HB5
  by_cases hE : E = 0
  · subst hE
    go_wp2_with (refine wpList_store_row rfl 48 _ _ rfl (w.heap.size + 1) #[.int .i64 2, .string X] rfl rfl 48 _ g6 (by kernel_rfl) rfl (by simp [Value.oneCell']) ?_)
    exact jpro_ret _ (w.heap.size + 1) _ 2 X 0 _ rfl rfl (setRow_heap _ _ _ _ _ _ g6) ⟨by simp, HP6.out _⟩
  · have hE1 : (E != 0) = true := by simpa using hE
    go_wp2_with (refine wpList_store_row rfl 48 _ _ rfl (w.heap.size + 1) #[.int .i64 0, .string ⟨#[]⟩] rfl rfl 48 _ g6 (by kernel_rfl) rfl (by simp [Value.oneCell']) ?_)
    exact jpro_ret _ (w.heap.size + 1) _ 0 ⟨#[]⟩ E _ rfl rfl (setRow_heap _ _ _ _ _ _ g6) ⟨by simp, HP6.out _⟩
set_option maxHeartbeats 4000000 in
theorem jpro_no (v u : Value) (a0 a1 a2 a3 : Int) (r T : ByteArray) (E : Int) (w : World) (hE : ¬ E = 0)
    (hp : ∀ w, Calls Tryz.prog 68 #[.agg #[.int .i64 a0, .int .i64 a1, .int .i64 a2, .int .i64 a3, .string r]] w fun e w' => e = .returned (.tuple #[.string T, .int .i64 E]) ∧ Below w.heap.size w w') :
    Calls Tryz.prog 41 #[v, u, .agg #[.int .i64 a0, .int .i64 a1, .int .i64 a2, .int .i64 a3, .string r]] w fun e w' => e = .returned (.tuple #[.agg #[.int .i64 0, .string ⟨#[]⟩], .int .i64 E]) ∧ Below w.heap.size w w' := by
  have hE1 : (E != 0) = true := by simpa using hE
  clear hE
  go_enter Tryz.func41, Tryz.ntmps41
  go_wp2_with fail
  refine (hp _).mono ?_
  rintro e w1 ⟨rfl, hb1⟩
  have g1 := (hb1.block (w.heap.size + 1) (by simp)).trans (heap_alloc2_new w _ _)
  have hbw : Below w.heap.size w w1 := (((Below.refl _ _).alloc (Nat.le_refl _) _).alloc (by simp) _).trans (hb1.mono (by simp; omega))
  clear hp hb1
  go_wp2_with (refine wpList_store_row rfl 48 _ _ rfl (w.heap.size + 1) #[.int .i64 0, .string ⟨#[]⟩] rfl rfl 48 _ g1 (by kernel_rfl) rfl (by simp [Value.oneCell']) ?_)
  exact jpro_ret _ (w.heap.size + 1) _ 0 ⟨#[]⟩ E _ rfl rfl (setRow_heap _ _ _ _ _ _ g1) ⟨rfl, below_setRow hbw (by omega) _⟩
theorem pro_sizes {K : VK} (HK : VKOk K) {S : K.σ} {l : List Wt} {s : Sp} (hr : K.room S 1) (hll : l.length ≤ 24) (he : s.err = 0) : putE (l.length : Int) 2 = 0 ∧ (putS (l.length : Int) 2).size = 2 ∧ (K.hS S (joinB l)).size = 32 ∧ padE (putS (l.length : Int) 2 ++ K.hS S (joinB l) ++ s.txt.extract 0 54) 448 = 0 ∧ (proT K S l s).size = 448 := by
  have h1 : putE (l.length : Int) 2 = 0 := by
    unfold putE
    rw [if_neg (by decide), if_neg (by have : (256 : Int) ^ (2 : Int).toNat = 65536 := by decide
                                       omega)]
  have h2 : (putS (l.length : Int) 2).size = 2 := putS_len h1
  have h3 := HK.hSize S (joinB l) hr
  have h4 : (putS (l.length : Int) 2 ++ K.hS S (joinB l) ++ s.txt.extract 0 54).size = 88 := by
    rw [ByteArray.size_append, ByteArray.size_append, h2, h3, ByteArray.size_extract, sp_size he]
    rfl
  refine ⟨h1, h2, h3, ?_, ?_⟩
  · unfold padE
    rw [if_neg (by decide), h4]
    rfl
  · unfold proT
    unfold padS
    rw [if_pos (by rw [h4]; decide)]
    generalize putS (l.length : Int) 2 ++ K.hS S (joinB l) ++ s.txt.extract 0 54 = x at *
    show (x.data.toList ++ List.replicate ((448 : Int).toNat - x.size) 0).toArray.size = 448
    rw [List.size_toArray, List.length_append, List.length_replicate, ← Lib.size_eq, h4]
    rfl
theorem jpro_any (K : VK) (HK : VKOk K) (F : Nat → Prop) (S : K.σ) (s : Sp) (oa : Option Addr) (ca : Nat) (l : List Wt) {w w' : World} (hr : K.room S 2) (hl : VOut K F w S w') (hw : w.heap.size ≤ w'.heap.size) (hv : Wts w' (.slice oa l.length ca) l) (hll : l.length ≤ 24) (hsz : ∀ x ∈ l, x.raw.size ≤ 512) :
    Calls Tryz.prog 41 #[K.v, .slice oa l.length ca, .agg s.arr] w' fun e w'' => e = .returned (.tuple #[.agg #[.int .i64 (proA K S l s), .string (proR K S l s)], .int .i64 (proE K S l s)]) ∧ VOut K F w (proP K S l s) w'' ∧ Kept w.heap.size w' w'' ∧ w'.heap.size ≤ w''.heap.size := by
  have hp := fun w => super_any s.vol s.ep s.nx s.lv s.root w
  by_cases he : s.err = 0
  · have he' : superE s.vol s.ep s.nx s.lv s.root = 0 := he
    obtain ⟨z1, z2, z3, z4, z5⟩ := pro_sizes HK (HK.less hr (by omega)) hll he
    have hJ : (joinB l).size ≤ 1000000 := by
      have := joinB_le l hsz
      rw [joinB_size] at this
      omega
    have e1 : proE K S l s = bsealE s.hdC (proT K S l s) := if_pos he
    have e2 : proP K S l s = K.sP (K.hP S (joinB l)) s.hdC (proT K S l s) := if_pos he
    have e3 : proA K S l s = if bsealE s.hdC (proT K S l s) = 0 then 2 else 0 := by unfold proA; rw [e1]
    have e4 : proR K S l s = if bsealE s.hdC (proT K S l s) = 0 then K.sS (K.hP S (joinB l)) s.hdC (proT K S l s) else ⟨#[]⟩ := by unfold proR; rw [e1]
    rw [e1, e2, e3, e4]
    have stb : ∀ S', Stb w'.heap.size (fun w'' => VOut K F w S' w'' ∧ Kept w.heap.size w' w'' ∧ w'.heap.size ≤ w''.heap.size) := fun S' w1 w2 h hb => ⟨VOut.stb HK _ _ h.1 (hb.mono hw), fun k hk hk2 => (hb.block k hk2).trans (h.2.1 k hk hk2), Nat.le_trans h.2.2 hb.size⟩
    refine jpro_yes K.v l oa ca s.vol s.ep s.nx s.lv s.root s.txt (putS (l.length : Int) 2) (joinB l) (K.hS S (joinB l)) (proT K S l s) (K.sS (K.hP S (joinB l)) s.hdC (proT K S l s)) (bsealE s.hdC (proT K S l s)) (fun w'' => VOut K F w (K.sP (K.hP S (joinB l)) s.hdC (proT K S l s)) w'' ∧ Kept w.heap.size w' w'' ∧ w'.heap.size ≤ w''.heap.size) (fun w'' => VOut K F w (K.hP S (joinB l)) w'' ∧ Kept w.heap.size w' w'' ∧ w'.heap.size ≤ w''.heap.size) w' (stb _) (stb _) (sp_size he) z2 z3 ?_ ?_ ?_ ?_ ?_ ?_
    · intro w1
      have := hp w1
      rw [he'] at this
      exact this
    · intro w1
      have := put_any (l.length : Int) 2 w1
      rw [z1] at this
      exact this
    · intro w1 hb
      exact joined_any _ l w1 (hv.below hb) (by omega) hsz
    · intro w1 hb
      refine (VOut.hash HK (joinB l) hJ (HK.less hr (by omega)) (VOut.stb HK _ _ hl (hb.mono hw))).mono fun e w'' ⟨h2, h3, h4, h5⟩ => ⟨h2, ⟨h3, fun k hk hk2 => (h4 k hk (Nat.lt_of_lt_of_le hk2 hb.size)).trans (hb.block k hk2), Nat.le_trans hb.size h5⟩, fun k hk hk2 => h4 k (Nat.le_trans hw hk) hk2, h5⟩
    · intro w1
      have := pad_any (putS (l.length : Int) 2 ++ K.hS S (joinB l) ++ s.txt.extract 0 54) 448 w1
      rw [z4] at this
      exact this
    · intro w1 h
      refine (VOut.seal_ HK s.hdC (proT K S l s) (HK.hRoom hr) h.1).mono fun e w'' ⟨h2, h3, h4, h5⟩ => ⟨h2, ⟨h3, fun k hk hk2 => (h4 k hk (Nat.lt_of_lt_of_le hk2 h.2.2)).trans (h.2.1 k hk hk2), Nat.le_trans h.2.2 h5⟩, fun k hk hk2 => h4 k (Nat.le_trans hw hk) hk2, h5⟩
  · have he' : ¬ superE s.vol s.ep s.nx s.lv s.root = 0 := he
    have e1 : proE K S l s = superE s.vol s.ep s.nx s.lv s.root := if_neg he
    have e2 : proP K S l s = S := if_neg he
    have e3 : proA K S l s = 0 := by unfold proA; rw [e1]; exact if_neg he'
    have e4 : proR K S l s = ⟨#[]⟩ := by unfold proR; rw [e1]; exact if_neg he'
    rw [e1, e2, e3, e4]
    exact (jpro_no K.v _ s.vol s.ep s.nx s.lv s.root (superS s.vol s.ep s.nx s.lv s.root) _ w' he' hp).mono fun e w'' ⟨h1, h2⟩ => ⟨h1, VOut.stb HK _ _ hl (h2.mono hw), fun k _ hk => h2.block k hk, h2.size⟩
end Go.Proofs.YtdngoicpcocnnaaGreatDoor
