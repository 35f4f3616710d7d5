/- The card of the law JournalSupers: a superblock's block is the document's, or refused. -/
import Derived.Test.YtijpgmkdnemmbaaGreatDoorMg52
import Derived.Test.YtijpgmkdnemmbaaGreatDoorCards
import Derived.Test.YtijpgmkdnemmbaaGreatDoorTie
import Derived.ShutString
import Derived.Deep.DeepHandedRow
import Derived.LaidHandle
set_option maxRecDepth 20000
set_option maxHeartbeats 8000000
open Go.RowKit Go.Proofs.Tryz
namespace Go.Proofs.YtijpgmkdnemmbaaGreatDoor
section
open Go.ChangeShapes Go.WideShapes Go.ChangeAt Go.RowKit
open Go.ChangeMaps (open_string shut_string)
theorem journalSupers_own:ownKnob prog.godebug=none:=by kernel_rfl
theorem journalSupers_laidOut:laidOutB prog=true:=by kernel_rfl
theorem journalSupers_tables {W:World}(h:laidMet prog [("unicode/utf8.acceptRanges",Rows.laid_unicode_utf8_acceptRanges),("grapnel/sum.first",Rows.laid_grapnel_sum_first),("grapnel/sum.cubes",Rows.laid_grapnel_sum_cubes),("unicode/utf8.first",Rows.laid_unicode_utf8_first)] W):Sm.Z3p W∧Sm.Z0H W:=by
 have h':laidMet prog [("unicode/utf8.acceptRanges",Rows.laid_unicode_utf8_acceptRanges),("grapnel/sum.first",Lib.tabData .u32 Sm.firstZ),("grapnel/sum.cubes",Lib.tabData .u32 Sm.cubesZ),("unicode/utf8.first",Rows.laid_unicode_utf8_first)] W:=h
 have g0:prog.globalNamed "grapnel/sum.first" = some 0:=by kernel_rfl
 have g1:prog.globalNamed "grapnel/sum.cubes" = some 2:=by kernel_rfl
 have y0:(prog.globals[0]?).map (·.type)=some 146:=by kernel_rfl
 have y1:(prog.globals[2]?).map (·.type)=some 261:=by kernel_rfl
 obtain⟨ps,⟨_,_,_,_,_,_,_,_,_,_,⟨g',t',cs,fuel,p,q,hg',ht',hvar,hd,⟨g2,t2,cs2,fuel2,p2,q2,hg2,ht2,hvar2,hd2,_,_⟩,_⟩,_⟩,_⟩:=h'
 have T0:Lib.TabIs prog W "grapnel/sum.first" .u32 Sm.firstZ:=by
  obtain rfl:=Option.some.inj (g0.symm.trans hg')
  obtain rfl:=Option.some.inj (y0.symm.trans ht')
  unfold Lib.TabIs
  rw [hvar,← Lib.cells_of_tab underlying146 underlying144 (by kernel_rfl) (by kernel_rfl) hd]
 have T1:Lib.TabIs prog W "grapnel/sum.cubes" .u32 Sm.cubesZ:=by
  obtain rfl:=Option.some.inj (g1.symm.trans hg2)
  obtain rfl:=Option.some.inj (y1.symm.trans ht2)
  unfold Lib.TabIs
  rw [hvar2,← Lib.cells_of_tab underlying261 underlying144 (by kernel_rfl) (by kernel_rfl) hd2]
 have c0:∀ i,i<8→W.cell? ⟨0,i,none⟩=some (.int .u32 (Sm.st0.at i:Nat)):=fun i hi=>by rw [T0.cell g0 i hi,Sm.firstZ_at i hi]
 have c1:∀ i,i<64→W.cell? ⟨2,i,none⟩=some (.int .u32 (Sm.keyN i:Nat)):=fun i hi=>by rw [T1.cell g1 i hi,Sm.cubesZ_at i hi]
 exact⟨⟨Sm.Z5U (c0 0 (by decide)),c0⟩,⟨Sm.Z5U (c1 0 (by decide)),c1⟩⟩
theorem journalSupers_contract (H:Type)(enc:TypeId × Value→H)(W:World)(base:Nat)(args:Array Value)(ds gs:List (DataW H))(before:List MemPlace)
  (hval:∀ (j:Nat) t v,Tryz.f3.params[j]? = some t→args[j]? = some v→Value.okWide prog W .any base t v)
  (hW:DataW.Whole enc prog Tryz.f3.params.toList Rows.journalSupersSpec.vars false W args.toList ds gs before)(hT:Sm.Z3p W∧Sm.Z0H W)(hE:ErrT W) :
  Calls prog 3 args W fun e W'=> ∃ v,e= .returned v∧Rows.journalSupersSpec.post enc prog Tryz.f3 false true false false W args v W':=by
 have hW':=hW
 obtain⟨p,q,hA0,hV,rfl,hfz,hnd⟩:=hW
 have hA:DataW.TrodAll enc prog W 0 (fun _=>true) true Tryz.f3.params.toList args.toList ds p:=hA0
 rw [Tryz.params3] at hA hval
 obtain⟨v0,vs0,d0,ds0,p0,q0,hargs,rfl,rfl,h0,r0⟩:=trodAll_cons hA
 obtain⟨rfl,rfl,rfl⟩:=trodAll_nil r0
 obtain rfl:args=#[v0]:=by cases args;simp_all
 obtain⟨rfl,rfl⟩:=trodVars_none hV
 have k0:=h0
 have lt0:∀ x∈p0,x.block<W.heap.size:=by obtain⟨m,hm⟩:=k0;exact DataW.trod_lt m _ _ _ hm
 obtain⟨x0_0,x0_1,x0_2,x0_3,x0_4,rfl,w0⟩:=open_super (hval 0 23 v0 rfl rfl) h0
 clear hA0
 refine (Z5O ⟨x0_0,x0_1,x0_2,x0_3,x0_4⟩ w0 W hT hE).mono fun e W' ⟨he,bel⟩=> ?_
 subst he
 exact⟨_,rfl,_,_,_,[],_,[],hW',trodAll_mk1 (shut_bool underlying4 _),(trodAll_cons_mk (Below.trod journalSupers_laidOut (by kernel_rfl) (of_decide_eq_true (by kernel_rfl)) k0 bel lt0) trodAll_mk0),rfl,bel.frame _,fun h=>by cases h⟩
def journalSupers_lay (zs:List Nat):Obj→Obj
 | .cells _ t frozen=> .cells (zs.map fun (z:Nat)=>Value.int .u8 (z:Int)).toArray t frozen
 | o=>o
def journalSupers_lay32 (zs:List Int):Obj→Obj
 | .cells _ t frozen=> .cells (zs.map fun z=>Value.int .u32 z).toArray t frozen
 | o=>o
noncomputable def journalSupers_world (os:Os):World :=
 { World.holding prog os ⟨#[],#[],[]⟩ with heap:=(((((World.holding prog os ⟨#[],#[],[]⟩).heap.modify 4 (journalSupers_lay Go.Pinned.utf8FirstZ)).modify 5 (journalSupers_lay ([128,191,160,191,128,159,144,191,128,143]++List.replicate 22 0))).modify 3 fun
   | .cells _ t frozen=> .cells #[.iface 241 (.agg #[typeHandle prog 113])] t frozen
   | o=>o).modify 0 (journalSupers_lay32 Sm.firstZ)).modify 2 (journalSupers_lay32 Sm.cubesZ)}
set_option maxRecDepth 100000 in
theorem journalSupers_laid (os:Os):laidMetH prog Rows.journalSupersRow.laid ((journalSupers_world os).forCall (fun _ _=>0) ⟨#[],#[.agg #[.int .i64 0,.int .i64 0,.int .i64 0,.int .i64 0,.string ByteArray.empty]],[]⟩).memory :=
 laidMetH_of_parts (laidMet_of_run' 8 (by kernel_rfl) (by kernel_rfl)) (by kernel_rfl)
set_option maxRecDepth 100000 in
theorem journalSupers_reads (os:Os){H:Type}(enc:TypeId × Value→H):∃ places,DataW.whole enc prog ((journalSupers_world os).forCall (fun _ _=>0) ⟨#[],#[.agg #[.int .i64 0,.int .i64 0,.int .i64 0,.int .i64 0,.string ByteArray.empty]],[]⟩).memory Tryz.f3.params.toList Rows.journalSupersSpec.vars false (#[.agg #[.int .i64 0,.int .i64 0,.int .i64 0,.int .i64 0,.string ByteArray.empty]]:Array Value).toList 8=some ([.agg [.lit (.int .i64 0),.lit (.int .i64 0),.lit (.int .i64 0),.lit (.int .i64 0),.lit (.string [])]],[],places) :=
 ⟨[],by kernel_rfl⟩
set_option maxRecDepth 100000 in
theorem journalSupers_lifted (os:Os)(started:os.Started)(H:Type)(enc:TypeId × Value→H)(F:Stop.Interp) :
  ReturnsInHanded {} Tryz.checked os 3 .any ((OpenSpec.ofChange Rows.journalSupersSpec).preRow enc prog Tryz.f3 Rows.journalSupersRow.domain false Rows.journalSupersRow.laid) (((OpenSpec.ofChange Rows.journalSupersSpec).at F).post enc prog Tryz.f3 false true false false):=by
 obtain⟨places,hx⟩:=journalSupers_reads os enc
 refine returnsInHanded_of_row (C:=Tryz.checked) (s:=OpenSpec.ofChange Rows.journalSupersSpec) journalSupers_own started (by kernel_rfl) func3
  (witness_row_at (enc:=enc) (C:=Tryz.checked) false (journalSupers_world os) #[.agg #[.int .i64 0,.int .i64 0,.int .i64 0,.int .i64 0,.string ByteArray.empty]] rfl (by kernel_rfl) (by kernel_rfl) (by kernel_rfl)
   (OpenSpec.preRow_of_cond 8 hx (by kernel_rfl) (fun k hk=>by cases hk) (by kernel_rfl) (journalSupers_laid os))) ?_
 intro W base args ds gs before hval hW _ _ _ hL _ _
 have hH:laidMetH prog Rows.journalSupersRow.laid W:=hL
 have hH2:laidMet prog [("unicode/utf8.acceptRanges",Rows.laid_unicode_utf8_acceptRanges),("grapnel/sum.first",Rows.laid_grapnel_sum_first),("grapnel/sum.cubes",Rows.laid_grapnel_sum_cubes),("unicode/utf8.first",Rows.laid_unicode_utf8_first)] W∧handlesMet prog [("errors.errorType",Rows.laid_errors_errorType)] W:=hH
 exact journalSupers_contract H enc W base args ds gs before hval hW (journalSupers_tables hH2.1) (Z8f hH2.2)
theorem journalSupers_both (a b:Bool)(h1:a=true)(h2:b=true):(a&&b)=true:=by rw [h1,h2];rfl
theorem journalSupers_c1:laidOutB prog=true:=by kernel_rfl
theorem journalSupers_c2:mapsRowed prog=true:=by kernel_rfl
theorem journalSupers_c9:(Rows.journalSupersRow.inPlace==prog.inPlace 3)=true:=by kernel_rfl
theorem journalSupers_c10:(Rows.journalSupersRow.unfollowed==prog.unfollowed 3)=true:=by kernel_rfl
theorem journalSupers_c11:(Rows.journalSupersRow.recurses==prog.recurses 3)=true:=by kernel_rfl
theorem journalSupers_c12:(Rows.journalSupersRow.named==prog.varsNamed 3)=true:=by kernel_rfl
theorem journalSupers_c24:prog.stopsHeard=true:=by kernel_rfl
theorem journalSupers_c25:prog.mayEnter=true:=by kernel_rfl
theorem journalSupers_c26:(Rows.journalSupersRow.lifted==prog.liftsFinal)=true:=by kernel_rfl
theorem journalSupers_c27:(prog.make==some Rows.journalSupersRow.make)=true:=by kernel_rfl
theorem journalSupers_closed:joinedFacts prog 3 Tryz.f3 (OpenSpec.ofChange Rows.journalSupersSpec).bare Rows.journalSupersRow=true:=by
 unfold joinedFacts
 iterate 31 (refine journalSupers_both _ _ ?_ ?_)
 ·kernel_rfl
 ·exact journalSupers_c1
 ·exact journalSupers_c2
 ·kernel_rfl
 ·kernel_rfl
 ·kernel_rfl
 ·kernel_rfl
 ·kernel_rfl
 ·kernel_rfl
 ·exact journalSupers_c9
 ·exact journalSupers_c10
 ·exact journalSupers_c11
 ·exact journalSupers_c12
 ·kernel_rfl
 ·kernel_rfl
 ·kernel_rfl
 ·kernel_rfl
 ·kernel_rfl
 ·kernel_rfl
 ·kernel_rfl
 ·kernel_rfl
 ·kernel_rfl
 ·kernel_rfl
 ·kernel_rfl
 ·exact journalSupers_c24
 ·exact journalSupers_c25
 ·exact journalSupers_c26
 ·exact journalSupers_c27
 ·kernel_rfl
 ·kernel_rfl
 ·kernel_rfl
 ·kernel_rfl
theorem journalSupers_said:Rows.JournalSupersSaid :=
 OpenClaim.holds_of_cond 3 Tryz.f3 rfl rfl rfl rfl rfl rfl rfl ⟨rfl,rfl,rfl,rfl,rfl⟩ rfl rfl rfl rfl rfl (by kernel_rfl) func3 journalSupers_closed
  (of_decide_eq_true (by kernel_rfl)) (by unfold Func.isWrapper;first | (rw [if_pos (by decide +kernel)];kernel_rfl) | (rw [if_neg (by decide +kernel)];exact⟨rfl,rfl⟩))
  (fun os started H enc _ F=>by rw [OpenClaim.pre_eq_preRow];exact journalSupers_lifted os started H enc F)
theorem journalSupers_plain (f:FuncId)(fn:Func)(hf:Tryz.pinned.checked.prog.funcNamed "grapnel/grapnellaw12.JournalSupers" = some f)(hfn:Tryz.pinned.checked.prog.funcs[f]? = some fn) :
  true=Tryz.pinned.checked.prog.looks []∧∀ (j:Nat) t,fn.params[j]? = some t→Tryz.pinned.checked.prog.wantsStandIn t=false:=by
 obtain rfl:f=3:=Option.some.inj ((show prog.funcNamed "grapnel/grapnellaw12.JournalSupers" = some 3 by kernel_rfl).symm.trans hf) |>.symm
 obtain rfl:fn=Tryz.f3:=(Option.some.inj (func3.symm.trans hfn)).symm
 refine⟨by kernel_rfl,fun j t ht=> ?_⟩
 rw [Tryz.params3] at ht
 obtain rfl:t=23:=by simpa using Array.mem_of_getElem? ht
 exact (show prog.wantsStandIn 23=false by kernel_rfl)
theorem journalSupers_card:Rows.JournalSupersCardSaid :=
 Claim7.holds_tied_plain_at .later [] _ _ _ _ journalSupers_said (fun _ h=>by cases h) (by kernel_rfl) (fun _ h=>by cases h) journalSupers_row_tie rfl ⟨rfl,rfl⟩ (by kernel_rfl) rfl journalSupers_plain (by kernel_rfl)
#print axioms journalSupers_card
end
end Go.Proofs.YtijpgmkdnemmbaaGreatDoor
