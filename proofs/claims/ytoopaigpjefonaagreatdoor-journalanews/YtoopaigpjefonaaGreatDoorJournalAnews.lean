/- The card of the law JournalAnews: a superblock is written alone as the document says, or refused, wherever the power fails. -/
import Derived.Test.YtoopaigpjefonaaGreatDoorMg51
import Derived.Test.YtoopaigpjefonaaGreatDoorMg50
import Derived.Test.YtoopaigpjefonaaGreatDoorMg49
import Derived.Test.YtoopaigpjefonaaGreatDoorCards
import Derived.Test.YtoopaigpjefonaaGreatDoorTie
import Derived.WalkKit
import Derived.ProofKit
import Derived.OpenShut
import Derived.ShutString
import Derived.ChangeOld
import Derived.Below
import Derived.Deep.DeepHandedRow
import Derived.Lib.LaidTab
import Derived.LaidHandle
namespace Go.Proofs.YtoopaigpjefonaaGreatDoor
set_option maxRecDepth 20000
open Go.ChangeShapes Go.WideShapes Go.ChangeAt Go.RowKit
open Go.ChangeMaps (open_string shut_string)

open Go.Deep in
theorem cutv_of_trod {H : Type} {enc : TypeId × Value → H} {W : World} {v : Value} {d : DataW H} {p : List MemPlace} {base : Nat} (hok : Value.okWide Tryz.prog W .any base 26 v) (h : DataW.Trod enc Tryz.prog W 0 (fun _ => true) true 26 v d p) : ∃ c : CutT, v = .agg #[.int .i64 c.fuse, c.kv] ∧ Bools W (fun k => W.heap.size ≤ k) c.kv c.keep ∧ c.fuse < 9223372036854775808 := by
  obtain ⟨k, kv, l, e, hb, hk⟩ := cut_of_trod hok h
  exact ⟨⟨k, kv, l⟩, e, hb, hk⟩

theorem journalAnews_own : ownKnob Tryz.prog.godebug = none := by kernel_rfl
theorem journalAnews_laidOut : laidOutB Tryz.prog = true := by kernel_rfl

theorem journalAnews_tables {W : World} (h : laidMet Tryz.prog [("unicode/utf8.acceptRanges", Rows.laid_unicode_utf8_acceptRanges), ("grapnel/sum.first", Rows.laid_grapnel_sum_first), ("grapnel/sum.cubes", Rows.laid_grapnel_sum_cubes), ("unicode/utf8.first", Rows.laid_unicode_utf8_first)] W) : Sm.First W ∧ Sm.Cubes W := by
  have h' : laidMet Tryz.prog [("unicode/utf8.acceptRanges", Rows.laid_unicode_utf8_acceptRanges), ("grapnel/sum.first", Lib.tabData .u32 Sm.firstZ), ("grapnel/sum.cubes", Lib.tabData .u32 Sm.cubesZ), ("unicode/utf8.first", Rows.laid_unicode_utf8_first)] W := h
  have g0 : Tryz.prog.globalNamed "grapnel/sum.first" = some 0 := by kernel_rfl
  have g1 : Tryz.prog.globalNamed "grapnel/sum.cubes" = some 2 := by kernel_rfl
  have y0 : (Tryz.prog.globals[0]?).map (·.type) = some 162 := by kernel_rfl
  have y1 : (Tryz.prog.globals[2]?).map (·.type) = some 276 := by kernel_rfl
  obtain ⟨ps, ⟨_, _, _, _, _, _, _, _, _, _, ⟨g', t', cs, fuel, p, q, hg', ht', hvar, hd, ⟨g2, t2, cs2, fuel2, p2, q2, hg2, ht2, hvar2, hd2, _, _⟩, _⟩, _⟩, _⟩ := h'
  have T0 : Lib.TabIs Tryz.prog W "grapnel/sum.first" .u32 Sm.firstZ := by
    obtain rfl := Option.some.inj (g0.symm.trans hg')
    obtain rfl := Option.some.inj (y0.symm.trans ht')
    unfold Lib.TabIs
    rw [hvar, ← Lib.cells_of_tab Tryz.underlying162 Tryz.underlying160 (by kernel_rfl) (by kernel_rfl) hd]
  have T1 : Lib.TabIs Tryz.prog W "grapnel/sum.cubes" .u32 Sm.cubesZ := by
    obtain rfl := Option.some.inj (g1.symm.trans hg2)
    obtain rfl := Option.some.inj (y1.symm.trans ht2)
    unfold Lib.TabIs
    rw [hvar2, ← Lib.cells_of_tab Tryz.underlying276 Tryz.underlying160 (by kernel_rfl) (by kernel_rfl) hd2]
  have c0 : ∀ i, i < 8 → W.cell? ⟨0, i, none⟩ = some (.int .u32 (Sm.st0.at i : Nat)) := fun i hi => by rw [T0.cell g0 i hi, Sm.firstZ_at i hi]
  have c1 : ∀ i, i < 64 → W.cell? ⟨2, i, none⟩ = some (.int .u32 (Sm.keyN i : Nat)) := fun i hi => by rw [T1.cell g1 i hi, Sm.cubesZ_at i hi]
  exact ⟨⟨Sm.lt_of_cell (c0 0 (by decide)), c0⟩, ⟨Sm.lt_of_cell (c1 0 (by decide)), c1⟩⟩
theorem journalAnews_contract (H : Type) (enc : TypeId × Value → H) (W : World) (base : Nat) (args : Array Value) (ds gs : List (DataW H)) (before : List MemPlace)
    (hval : ∀ (j : Nat) t v, Tryz.f4.params[j]? = some t → args[j]? = some v → Value.okWide Tryz.prog W .any base t v)
    (hW : DataW.Whole enc Tryz.prog Tryz.f4.params.toList Rows.journalAnewsSpec.vars false W args.toList ds gs before) (hT : Sm.First W ∧ Sm.Cubes W) (hE : ErrT W) :
    Calls Tryz.prog 4 args W fun e W' => ∃ v, e = .returned v ∧ Rows.journalAnewsSpec.post enc Tryz.prog Tryz.f4 false true false false W args v W' := by
  have hW' := hW
  obtain ⟨p, q, hA0, hV, rfl, hfz, hnd⟩ := hW
  have hA : DataW.TrodAll enc Tryz.prog W 0 (fun _ => true) true Tryz.f4.params.toList args.toList ds p := hA0
  rw [Tryz.params4] at hA hval
  obtain ⟨v0, vs0, d0, ds0, p0, q0, hargs, rfl, rfl, h0, r0⟩ := trodAll_cons hA
  obtain ⟨v1, vs1, d1, ds1, p1, q1, rfl, rfl, rfl, h1, r1⟩ := trodAll_cons r0
  obtain ⟨v2, vs2, d2, ds2, p2, q2, rfl, rfl, rfl, h2, r2⟩ := trodAll_cons r1
  obtain ⟨rfl, rfl, rfl⟩ := trodAll_nil r2
  obtain rfl : args = #[v0, v1, v2] := by cases args; simp_all
  obtain ⟨rfl, rfl⟩ := trodVars_none hV
  have k0 := h0
  have lt0 : ∀ x ∈ p0, x.block < W.heap.size := by obtain ⟨m, hm⟩ := k0; exact DataW.trod_lt m _ _ _ hm
  obtain ⟨a0, rfl, _, _, _⟩ := open_int Tryz.underlying3 (hval 0 3 v0 rfl rfl) h0
  have k1 := h1
  have lt1 : ∀ x ∈ p1, x.block < W.heap.size := by obtain ⟨m, hm⟩ := k1; exact DataW.trod_lt m _ _ _ hm
  obtain ⟨x1_0, x1_1, x1_2, x1_3, x1_4, rfl, w1⟩ := open_super (hval 1 23 v1 rfl rfl) h1
  have k2 := h2
  have lt2 : ∀ x ∈ p2, x.block < W.heap.size := by obtain ⟨m, hm⟩ := k2; exact DataW.trod_lt m _ _ _ hm
  obtain ⟨l2, w2⟩ := cutv_of_trod (hval 2 26 v2 rfl rfl) h2
  clear hA0
  refine (walk_journalAnews a0 ⟨x1_0, x1_1, x1_2, x1_3, x1_4⟩ v2 l2 w1 W w2 hT hE).mono fun e W' ⟨he, bel⟩ => ?_
  subst he
  exact ⟨_, rfl, _, _, _, [], _, [], hW', trodAll_mk1 (shut_bool Tryz.underlying4 _), (trodAll_cons_mk (Below.trod journalAnews_laidOut (by kernel_rfl) (of_decide_eq_true (by kernel_rfl)) k0 bel lt0) (trodAll_cons_mk (Below.trod journalAnews_laidOut (by kernel_rfl) (of_decide_eq_true (by kernel_rfl)) k1 bel lt1) (trodAll_cons_mk (Below.trod journalAnews_laidOut (by kernel_rfl) (of_decide_eq_true (by kernel_rfl)) k2 bel lt2) trodAll_mk0))), rfl, bel.frame _, fun h => by cases h⟩

/-- A world for the witness: the settled one, utf8's two tables holding what they are laid with. -/
def journalAnews_lay (zs : List Nat) : Obj → Obj
  | .cells _ t frozen => .cells (zs.map fun (z : Nat) => Value.int .u8 (z : Int)).toArray t frozen
  | o => o
def journalAnews_lay32 (zs : List Int) : Obj → Obj
  | .cells _ t frozen => .cells (zs.map fun z => Value.int .u32 z).toArray t frozen
  | o => o
noncomputable def journalAnews_world (os : Os) : World :=
  { World.holding Tryz.prog os ⟨#[], #[], []⟩ with heap := (((((World.holding Tryz.prog os ⟨#[], #[], []⟩).heap.modify 4 (journalAnews_lay Go.Pinned.utf8FirstZ)).modify 5 (journalAnews_lay ([128, 191, 160, 191, 128, 159, 144, 191, 128, 143] ++ List.replicate 22 0))).modify 3 fun
      | .cells _ t frozen => .cells #[.iface 240 (.agg #[typeHandle Tryz.prog 73])] t frozen
      | o => o).modify 0 (journalAnews_lay32 Sm.firstZ)).modify 2 (journalAnews_lay32 Sm.cubesZ) }
set_option maxRecDepth 100000 in
theorem journalAnews_laid (os : Os) : laidMetH Tryz.prog Rows.journalAnewsRow.laid ((journalAnews_world os).forCall (fun _ _ => 0) ⟨#[], #[.int .i64 0, .agg #[.int .i64 0, .int .i64 0, .int .i64 0, .int .i64 0, .string ByteArray.empty], .agg #[.int .i64 0, .slice none 0 0]], []⟩).memory :=
  laidMetH_of_parts (laidMet_of_run' 8 (by kernel_rfl) (by kernel_rfl)) (by kernel_rfl)
set_option maxRecDepth 100000 in
theorem journalAnews_reads (os : Os) {H : Type} (enc : TypeId × Value → H) : ∃ places, DataW.whole enc Tryz.prog ((journalAnews_world os).forCall (fun _ _ => 0) ⟨#[], #[.int .i64 0, .agg #[.int .i64 0, .int .i64 0, .int .i64 0, .int .i64 0, .string ByteArray.empty], .agg #[.int .i64 0, .slice none 0 0]], []⟩).memory Tryz.f4.params.toList Rows.journalAnewsSpec.vars false (#[.int .i64 0, .agg #[.int .i64 0, .int .i64 0, .int .i64 0, .int .i64 0, .string ByteArray.empty], .agg #[.int .i64 0, .slice none 0 0]] : Array Value).toList 8 = some ([.lit (.int .i64 0), .agg [.lit (.int .i64 0), .lit (.int .i64 0), .lit (.int .i64 0), .lit (.int .i64 0), .lit (.string [])], .agg [.lit (.int .i64 0), .nil]], [], places) :=
  ⟨[], by kernel_rfl⟩

set_option maxRecDepth 100000 in
theorem journalAnews_lifted (os : Os) (started : os.Started) (H : Type) (enc : TypeId × Value → H) (F : Stop.Interp) :
    ReturnsInHanded {} Tryz.checked os 4 .any ((OpenSpec.ofChange Rows.journalAnewsSpec).preRow enc Tryz.prog Tryz.f4 Rows.journalAnewsRow.domain false Rows.journalAnewsRow.laid) (((OpenSpec.ofChange Rows.journalAnewsSpec).at F).post enc Tryz.prog Tryz.f4 false true false false) := by
  obtain ⟨places, hx⟩ := journalAnews_reads os enc
  refine returnsInHanded_of_row (C := Tryz.checked) (s := OpenSpec.ofChange Rows.journalAnewsSpec) journalAnews_own started (by kernel_rfl) Tryz.func4
    (witness_row_at (enc := enc) (C := Tryz.checked) false (journalAnews_world os) #[.int .i64 0, .agg #[.int .i64 0, .int .i64 0, .int .i64 0, .int .i64 0, .string ByteArray.empty], .agg #[.int .i64 0, .slice none 0 0]] rfl (by kernel_rfl) (by kernel_rfl) (by kernel_rfl)
      (OpenSpec.preRow_of_cond 8 hx (by kernel_rfl) (fun k hk => by cases hk) (by kernel_rfl) (journalAnews_laid os))) ?_
  intro W base args ds gs before hval hW _ _ _ hL _ _
  have hH : laidMetH Tryz.prog Rows.journalAnewsRow.laid W := hL
  have hH2 : laidMet Tryz.prog [("unicode/utf8.acceptRanges", Rows.laid_unicode_utf8_acceptRanges), ("grapnel/sum.first", Rows.laid_grapnel_sum_first), ("grapnel/sum.cubes", Rows.laid_grapnel_sum_cubes), ("unicode/utf8.first", Rows.laid_unicode_utf8_first)] W ∧ handlesMet Tryz.prog [("errors.errorType", Rows.laid_errors_errorType)] W := hH
  exact journalAnews_contract H enc W base args ds gs before hval hW (journalAnews_tables hH2.1) (errT_of_handles hH2.2)

theorem journalAnews_said : Rows.JournalAnewsSaid :=
  OpenClaim.holds_of_cond 4 Tryz.f4 rfl rfl rfl rfl rfl rfl rfl ⟨rfl, rfl, rfl, rfl, rfl⟩ rfl rfl rfl rfl rfl (by kernel_rfl) Tryz.func4 (by kernel_rfl)
    (of_decide_eq_true (by kernel_rfl)) (by unfold Func.isWrapper; first | (rw [if_pos (by decide +kernel)]; kernel_rfl) | (rw [if_neg (by decide +kernel)]; exact ⟨rfl, rfl⟩))
    (fun os started H enc _ F => by rw [OpenClaim.pre_eq_preRow]; exact journalAnews_lifted os started H enc F)

theorem journalAnews_plain (f : FuncId) (fn : Func) (hf : Tryz.pinned.checked.prog.funcNamed "grapnel/grapnellaw12.JournalAnews" = some f) (hfn : Tryz.pinned.checked.prog.funcs[f]? = some fn) :
    true = Tryz.pinned.checked.prog.looks [] ∧ ∀ (j : Nat) t, fn.params[j]? = some t → Tryz.pinned.checked.prog.wantsStandIn t = false := by
  obtain rfl : f = 4 := Option.some.inj ((show Tryz.prog.funcNamed "grapnel/grapnellaw12.JournalAnews" = some 4 by kernel_rfl).symm.trans hf) |>.symm
  obtain rfl : fn = Tryz.f4 := (Option.some.inj (Tryz.func4.symm.trans hfn)).symm
  refine ⟨by kernel_rfl, fun j t ht => ?_⟩
  rw [Tryz.params4] at ht
  have hm := Array.mem_of_getElem? ht
  have h1 : t = 3 ∨ t = 23 ∨ t = 26 := by simpa using hm
  rcases h1 with h1 | h1 | h1
  · subst h1; exact (show Tryz.prog.wantsStandIn 3 = false by kernel_rfl)
  · subst h1; exact (show Tryz.prog.wantsStandIn 23 = false by kernel_rfl)
  · subst h1; exact (show Tryz.prog.wantsStandIn 26 = false by kernel_rfl)

theorem journalAnews_card : Rows.JournalAnewsCardSaid :=
  Claim7.holds_tied_plain_at .later [] _ _ _ _ journalAnews_said (fun _ h => by cases h) (by kernel_rfl) (fun _ h => by cases h) journalAnews_row_tie rfl ⟨rfl, rfl⟩ (by kernel_rfl) rfl journalAnews_plain (by kernel_rfl)
#print axioms journalAnews_card
end Go.Proofs.YtoopaigpjefonaaGreatDoor
