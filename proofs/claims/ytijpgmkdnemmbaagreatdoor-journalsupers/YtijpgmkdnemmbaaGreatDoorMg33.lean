/- Part 33. -/
import Derived.Test.YtijpgmkdnemmbaaGreatDoorMg32
import Derived.Laws.DeepNot64
import Derived.Lib.LazyBuf
import Derived.Lib.SliceRun
set_option maxRecDepth 20000
set_option maxHeartbeats 8000000
open Go.RowKit Go.Proofs.Tryz
namespace Go.Proofs.YtijpgmkdnemmbaaGreatDoor
namespace Sm
def Z0H (w:World):Prop:=2<w.heap.size∧∀ i,i<64→w.cell? ⟨2,i,none⟩=some (.int .u32 (keyN i:Nat))
theorem not_nat (e:Nat)(h:e<4294967296):4294967295 ^^^ e=4294967295-e:=by
 apply Nat.eq_of_testBit_eq
 intro i
 have d:(4294967295-e).testBit i=(decide (i<32) && !e.testBit i):=by
  rw [show 4294967295-e=2 ^ 32-(e+1) by omega]
  exact Nat.testBit_two_pow_sub_succ (n:=32) h i
 have b:Nat.testBit 4294967295 i=decide (i<32):=Nat.testBit_two_pow_sub_one 32 i
 rw [Nat.testBit_xor,d,b]
 by_cases a:i<32
 ·simp [a]
 ·have c:e.testBit i=false:=Nat.testBit_lt_two_pow (Nat.lt_of_lt_of_le h (Nat.pow_le_pow_right (n:=2) (by decide) (by omega:32≤i)))
  simp [a,c]
theorem bs1_bits (e:Nat):bits .xor .u32 (bits .xor .u32 ((rotr e 6:Nat):Int) ((rotr e 11:Nat):Int)) ((rotr e 25:Nat):Int)=((bs1 e:Nat):Int):=by
 rw [u32_xor_nat _ _ (Z0m _ _) (Z0m _ _),u32_xor_nat _ _ (Z17 (Z0m _ _) (Z0m _ _)) (Z0m _ _)]
 rfl
theorem bs0_bits (e:Nat):bits .xor .u32 (bits .xor .u32 ((rotr e 2:Nat):Int) ((rotr e 13:Nat):Int)) ((rotr e 22:Nat):Int)=((bs0 e:Nat):Int):=by
 rw [u32_xor_nat _ _ (Z0m _ _) (Z0m _ _),u32_xor_nat _ _ (Z17 (Z0m _ _) (Z0m _ _)) (Z0m _ _)]
 rfl
theorem chf_bits (e f g:Nat)(he:e<4294967296)(hf:f<4294967296)(hg:g<4294967296):bits .xor .u32 (bits .and .u32 (e:Int) (f:Int)) (bits .and .u32 (bits .xor .u32 IntKind.u32.max (e:Int)) (g:Int))=((chf e f g:Nat):Int):=by
 rw [show (IntKind.u32.max:Int)=((4294967295:Nat):Int) from rfl,u32_xor_nat _ _ (by decide) he,not_nat e he,u32_and_nat _ _ he hf,u32_and_nat _ _ (by omega) hg,u32_xor_nat _ _ (Z2A hf) (Z2A hg)]
 rfl
theorem maj_bits (a b c:Nat)(ha:a<4294967296)(hb:b<4294967296)(hc:c<4294967296):bits .xor .u32 (bits .xor .u32 (bits .and .u32 (a:Int) (b:Int)) (bits .and .u32 (a:Int) (c:Int))) (bits .and .u32 (b:Int) (c:Int))=((maj a b c:Nat):Int):=by
 rw [u32_and_nat _ _ ha hb,u32_and_nat _ _ ha hc,u32_and_nat _ _ hb hc,u32_xor_nat _ _ (Z2A hb) (Z2A hc),u32_xor_nat _ _ (Z17 (Z2A hb) (Z2A hc)) (Z2A hc)]
 rfl
theorem t_bits (e f g h k y:Nat)(he:e<4294967296)(hf:f<4294967296)(hg:g<4294967296) :
  IntKind.u32.wrap (IntKind.u32.wrap (IntKind.u32.wrap (IntKind.u32.wrap ((h:Int)+bits .xor .u32 (bits .xor .u32 ((rotr e 6:Nat):Int) ((rotr e 11:Nat):Int)) ((rotr e 25:Nat):Int))+bits .xor .u32 (bits .and .u32 (e:Int) (f:Int)) (bits .and .u32 (bits .xor .u32 IntKind.u32.max (e:Int)) (g:Int)))+(k:Int))+(y:Int))=(((h+bs1 e+chf e f g+k+y)%4294967296:Nat):Int):=by
 rw [bs1_bits,chf_bits e f g he hf hg,IntKind.wrap_u32,IntKind.wrap_u32,IntKind.wrap_u32,IntKind.wrap_u32]
 omega
set_option maxRecDepth 10000 in
theorem Z3S (s:St)(hs:s.ok)(b:List Nat)(hb:Z03 b)(g off:Nat)(w:World)(hq:Z0H w)(hg:g<w.heap.size)
  (hc:∀ i,i<64→w.cell? ⟨g,off+i,none⟩=some (.int .u8 (b.getD i 0:Nat))) :
  Calls prog 129 #[.agg (stC s),.pointer (some ⟨g,off,none⟩)] w fun e w'=>e= .returned (.agg (stC (comp s b)))∧Below w.heap.size w w':=by
 have HC:Hid (∀ i,i<64→w.cell? ⟨g,off+i,none⟩=some (.int .u8 (b.getD i 0:Nat))):=hc
 have HQ:Hid (Z0H w):=hq
 clear hc hq
 go_enter func129,ntmps129
 go_wp2_with fail
 have O:Below w.heap.size w ((w.alloc (.cells (stC s) 146)).alloc (.cells #[.int .u32 0,.int .u32 0,.int .u32 0,.int .u32 0,.int .u32 0,.int .u32 0,.int .u32 0,.int .u32 0] 146)):=((Below.refl _ _).alloc (Nat.le_refl _) _).alloc (by simp) _
 have W:=heap_alloc2_old w (.cells (stC s) 146) (.cells #[.int .u32 0,.int .u32 0,.int .u32 0,.int .u32 0,.int .u32 0,.int .u32 0,.int .u32 0,.int .u32 0] 146)
 have r0:=heap_alloc2_new w (.cells (stC s) 146) (.cells #[.int .u32 0,.int .u32 0,.int .u32 0,.int .u32 0,.int .u32 0,.int .u32 0,.int .u32 0,.int .u32 0] 146)
 generalize (w.alloc (.cells (stC s) 146)).alloc (.cells #[.int .u32 0,.int .u32 0,.int .u32 0,.int .u32 0,.int .u32 0,.int .u32 0,.int .u32 0,.int .u32 0] 146)=w0 at *
 refine (schedule_any b hb g off w0 (Nat.lt_of_lt_of_le hg O.size) (fun i hi=>(O.cell (p:=⟨g,off+i,none⟩) hg).trans (HC.out i hi))).mono ?_
 rintro e H ⟨rfl,F⟩
 have X:=(F.block _ (lt_of_block W)).trans W
 have V:=(F.block _ (lt_of_block r0)).trans r0
 have h1:=O.trans (F.mono O.size)
 have a3:=lt_of_block V
 clear O W r0 F
 obtain⟨z,D⟩:∃ z,z=((Z1h b).map fun x=>Value.int .u32 (x:Nat)).toArray:=⟨_,rfl⟩
 have N:z.size=64:=by rw [D];simp [Z1N]
 have u:z.all (·.oneCell')=true:=by rw [D];simp [Value.oneCell']
 have HW:Hid (∀ i,i<64→z[i]? = some (.int .u32 (Z25 b i:Nat))):=fun i hi=>by
  rw [D,List.getElem?_toArray,List.getElem?_map,List.getElem?_eq_getElem (by rw [Z1N];exact hi)]
  show some _=some _
  rw [Z25,Z0b _ _ (by rw [Z1N];exact hi)]
 rw [← D]
 clear D
 have l:(prog.info? 261).map (·.size)=some z.size:=by rw [N];kernel_rfl
 go_wp2_with (refine wpList_store_row rfl 261 _ _ rfl H.heap.size z rfl rfl 261 _ (heap_alloc_new H _) l (by rw [N];rfl) u ?_)
 rw [World.setRow_alloc_new]
 have M:=heap_alloc_new H (.cells z 261)
 have n:=(Below.heap_alloc H (.cells z 261) w.heap.size (lt_of_block X)).trans X
 have I:=(Below.heap_alloc H (.cells z 261) (w.heap.size+1) (lt_of_block V)).trans V
 have J:=h1.alloc h1.size (.cells z 261)
 clear h1 X V l u
 generalize H.alloc (.cells z 261)=w2 at *
 have c0:w2.cell? ⟨w.heap.size,0,none⟩=some (.int .u32 (s.a:Nat)):=by simp [World.cell?,n,stC]
 have c1:w2.cell? ⟨w.heap.size,1,none⟩=some (.int .u32 (s.b:Nat)):=by simp [World.cell?,n,stC]
 have c2:w2.cell? ⟨w.heap.size,2,none⟩=some (.int .u32 (s.c:Nat)):=by simp [World.cell?,n,stC]
 have c3:w2.cell? ⟨w.heap.size,3,none⟩=some (.int .u32 (s.d:Nat)):=by simp [World.cell?,n,stC]
 have c4:w2.cell? ⟨w.heap.size,4,none⟩=some (.int .u32 (s.e:Nat)):=by simp [World.cell?,n,stC]
 have c5:w2.cell? ⟨w.heap.size,5,none⟩=some (.int .u32 (s.f:Nat)):=by simp [World.cell?,n,stC]
 have c6:w2.cell? ⟨w.heap.size,6,none⟩=some (.int .u32 (s.g:Nat)):=by simp [World.cell?,n,stC]
 have c7:w2.cell? ⟨w.heap.size,7,none⟩=some (.int .u32 (s.h:Nat)):=by simp [World.cell?,n,stC]
 go_region_held3 (fun w'=>w'.cell? ⟨w.heap.size,0,none⟩=some (.int .u32 (s.a:Nat))∧w'.cell? ⟨w.heap.size,1,none⟩=some (.int .u32 (s.b:Nat))∧w'.cell? ⟨w.heap.size,2,none⟩=some (.int .u32 (s.c:Nat))∧w'.cell? ⟨w.heap.size,3,none⟩=some (.int .u32 (s.d:Nat))∧w'.cell? ⟨w.heap.size,4,none⟩=some (.int .u32 (s.e:Nat))∧w'.cell? ⟨w.heap.size,5,none⟩=some (.int .u32 (s.f:Nat))∧w'.cell? ⟨w.heap.size,6,none⟩=some (.int .u32 (s.g:Nat))∧w'.cell? ⟨w.heap.size,7,none⟩=some (.int .u32 (s.h:Nat))) (simp [go_sem, *]) (fail)
 clear c0 c1 c2 c3 c4 c5 c6 c7
 go_wp2_with fail
 go_loopw [6,7,8,9,10,11,12,13,35] (fun a b' c d e f g' h i wr=> ∃ j:Nat,j≤64∧i= .int .i64 j∧a= .int .u32 ((rnds (Z1h b) s j).a:Nat)∧b'= .int .u32 ((rnds (Z1h b) s j).b:Nat)∧c= .int .u32 ((rnds (Z1h b) s j).c:Nat)∧d= .int .u32 ((rnds (Z1h b) s j).d:Nat)∧e= .int .u32 ((rnds (Z1h b) s j).e:Nat)∧f= .int .u32 ((rnds (Z1h b) s j).f:Nat)∧g'= .int .u32 ((rnds (Z1h b) s j).g:Nat)∧h= .int .u32 ((rnds (Z1h b) s j).h:Nat)∧wr.heap[H.heap.size]? = some (.cells z 261 (0,0))∧wr.heap[w.heap.size]? = some (.cells (stC s) 146 (0,0))∧wr.heap[w.heap.size+1]? = some (.cells #[.int .u32 0,.int .u32 0,.int .u32 0,.int .u32 0,.int .u32 0,.int .u32 0,.int .u32 0,.int .u32 0] 146 (0,0))∧Below w.heap.size w wr) (fun _ _ _ _ _ _ _ _ i _=>64-(intOf i).toNat)
 case atStart=>exact⟨0,Nat.zero_le _,rfl,rfl,rfl,rfl,rfl,rfl,rfl,rfl,rfl,M,n,I,J.drew⟩
 case round =>
  clear M n I J
  obtain⟨j,hj,rfl,rfl,rfl,rfl,rfl,rfl,rfl,rfl,rfl,M,n,I,J⟩:=hrel
  obtain⟨G,A⟩:∃ G,G=rnds (Z1h b) s j:=⟨_,rfl⟩
  have K:G.ok:=by rw [A];exact rnds_ok hs _ _
  rw [← A]
  by_cases Q:j<64
  ·have ck:=(J.cell (p:=⟨2,j,none⟩) HQ.out.1).trans (HQ.out.2 j Q)
   have cw:=(cell_of_row _ _ j _ _ _ M).trans (HW.out j Q)
   obtain⟨k,U⟩:∃ k,k=keyN j:=⟨_,rfl⟩
   obtain⟨y,S⟩:∃ y,y=Z25 b j:=⟨_,rfl⟩
   rw [← U] at ck
   rw [← S] at cw
   have a1:Hid (rnds (Z1h b) s (j+1)=rnd k y G):=by
    show rnds (Z1h b) s (j+1)=_
    rw [rnds,U,S,A];rfl
   have HK:Hid (k<4294967296∧y<4294967296):=⟨by rw [U];exact keyN_lt j,by rw [S];exact Z30 hb j⟩
   clear U S A
   have a4:Hid G.ok:=K
   obtain⟨L,hB,hC,hD,R,hF,hG,hH⟩:=K
   have s4:(j:Int)<64:=by omega
   obtain⟨o,B,C,E,m,t,r,q⟩:=G
   simp only at L hB hC hD R hF hG hH
   go_wp2_with fail
   go_region_held3 (fun w'=>w'.cell? ⟨2,j,none⟩=some (.int .u32 (k:Nat))∧w'.cell? ⟨H.heap.size,j,none⟩=some (.int .u32 (y:Nat))) (simp [go_sem, *]) (first | (go_at_call 153;refine (Z1Y m 6 R (by decide) (by decide) _).mono ?_;rintro e w' ⟨rfl,rfl⟩) | (go_at_call 153;refine (Z1Y m 11 R (by decide) (by decide) _).mono ?_;rintro e w' ⟨rfl,rfl⟩) | (go_at_call 153;refine (Z1Y m 25 R (by decide) (by decide) _).mono ?_;rintro e w' ⟨rfl,rfl⟩))
   rw [t_bits m t r q k y R hF hG]
   obtain⟨T,Z⟩:∃ T,T=(q+bs1 m+chf m t r+k+y)%4294967296:=⟨_,rfl⟩
   rw [← Z]
   have HT:Hid (T=(q+bs1 m+chf m t r+k+y)%4294967296):=Z
   clear Z ck cw
   go_wp2_with fail
   refine (Z1Y o 2 L (by decide) (by decide) _).mono ?_
   rintro e w' ⟨rfl,rfl⟩
   go_wp2_with fail
   refine (Z1Y o 13 L (by decide) (by decide) _).mono ?_
   rintro e w' ⟨rfl,rfl⟩
   go_wp2_with fail
   refine (Z1Y o 22 L (by decide) (by decide) _).mono ?_
   rintro e w' ⟨rfl,rfl⟩
   go_wp2_with fail
   rw [bs0_bits,maj_bits o B C L hB hC]
   refine⟨⟨j+1,by omega,by go_num,?_⟩,by simp [intOf];omega⟩
   rw [a1.out]
   refine⟨?_,rfl,rfl,rfl,?_,rfl,rfl,rfl,M,n,I,J.drew⟩
   ·show _=Value.int .u32 (((q+bs1 m+chf m t r+k+y+(bs0 o+maj o B C))%4294967296:Nat):Int)
    congr 1
    rw [HT.out]
    omega
   ·show _=Value.int .u32 (((E+(q+bs1 m+chf m t r+k+y))%4294967296:Nat):Int)
    congr 1
    rw [HT.out]
    omega
  ·obtain rfl:j=64:=by omega
   have HS:Hid (G=rnds (Z1h b) s 64):=A
   clear A
   obtain⟨o,B,C,E,m,t,r,q⟩:=G
   have c0:wr.cell? ⟨w.heap.size,0,none⟩=some (.int .u32 (s.a:Nat)):=by simp [World.cell?,n,stC]
   have c1:wr.cell? ⟨w.heap.size,1,none⟩=some (.int .u32 (s.b:Nat)):=by simp [World.cell?,n,stC]
   have c2:wr.cell? ⟨w.heap.size,2,none⟩=some (.int .u32 (s.c:Nat)):=by simp [World.cell?,n,stC]
   have c3:wr.cell? ⟨w.heap.size,3,none⟩=some (.int .u32 (s.d:Nat)):=by simp [World.cell?,n,stC]
   have c4:wr.cell? ⟨w.heap.size,4,none⟩=some (.int .u32 (s.e:Nat)):=by simp [World.cell?,n,stC]
   have c5:wr.cell? ⟨w.heap.size,5,none⟩=some (.int .u32 (s.f:Nat)):=by simp [World.cell?,n,stC]
   have c6:wr.cell? ⟨w.heap.size,6,none⟩=some (.int .u32 (s.g:Nat)):=by simp [World.cell?,n,stC]
   have c7:wr.cell? ⟨w.heap.size,7,none⟩=some (.int .u32 (s.h:Nat)):=by simp [World.cell?,n,stC]
   have a0:Hid (comp s b=Z3R s ⟨o,B,C,E,m,t,r,q⟩):=by show comp s b=_;rw [comp,← HS.out]
   have l:(prog.info? 146).map (·.size)=some (stC (Z3R s ⟨o,B,C,E,m,t,r,q⟩)).size:=by show _=some 8;kernel_rfl
   have u:(stC (Z3R s ⟨o,B,C,E,m,t,r,q⟩)).all (·.oneCell')=true:=by simp [stC,Value.oneCell']
   go_wp2_with (refine wpList_store_row rfl 146 _ _ rfl (w.heap.size+1) (stC (Z3R s ⟨o,B,C,E,m,t,r,q⟩)) rfl rfl 146 _ I l rfl u ?_)
   have Y:=run_loadVar_row (P:=prog) (wr.setRow (w.heap.size+1) (stC (Z3R s ⟨o,B,C,E,m,t,r,q⟩))) (w.heap.size+1) 146 146 (stC (Z3R s ⟨o,B,C,E,m,t,r,q⟩)) (0,0) _ (setRow_heap _ _ _ _ _ _ I) underlying146 rfl l
   have a2:=below_rowG J (show w.heap.size≤w.heap.size+1 by omega) (stC (Z3R s ⟨o,B,C,E,m,t,r,q⟩))
   exact bodyPost_ret (v:= .agg (stC (Z3R s ⟨o,B,C,E,m,t,r,q⟩))) (by simp [results,Tryz.results129,asAddr,Act.put,Y]) rfl ⟨by rw [a0.out],a2⟩
theorem Row.lt {w:World}{g:Nat}{t:TypeId}{l:List Value}(h:Row w g t l):g<w.heap.size:=lt_of_block h
theorem Row.cell {w:World}{g:Nat}{t:TypeId}{l:List Value}(h:Row w g t l)(i:Nat):w.cell? ⟨g,i,none⟩=l[i]? :=(cell_of_row _ _ _ _ _ _ h).trans (by simp)
theorem Row.frozen {w:World}{g:Nat}{t:TypeId}{l:List Value}(h:Row w g t l)(i:Nat):w.frozen? ⟨g,i,none⟩=false:=by simp [World.frozen?,show w.heap[g]? = _ from h]
theorem Row.below {w w':World}{g:Nat}{t:TypeId}{l:List Value}(h:Row w g t l){B:Nat}(hb:Below B w w')(hg:g<B):Row w' g t l:=(hb.block _ hg).trans h
theorem Row.only {w w':World}{g b:Nat}{t:TypeId}{l:List Value}(h:Row w g t l)(ho:Only b w w')(hg:g≠b):Row w' g t l:=(ho.2 _ h.lt hg).trans h
theorem Row.set {w:World}{g n:Nat}{t:TypeId}{A C:List Value}{q:Value}(h:Row w g t (A ++ [q]++C))(v:Value)(hn:n=A.length):Row (w.setCell ⟨g,n,none⟩ v) g t (A ++ [v]++C):=by
 have b:=heap_setCell_same w g n _ t v h
 have a:=set_mid A [] [] C v q n (by simpa using hn)
 simp only [List.append_nil,List.nil_append] at a
 rw [a] at b
 exact b
theorem Row.setCells {g:Nat}{t:TypeId}{C:List Value}:∀ (vs B A:List Value) (w:World) (n:Nat),vs.length=B.length→n=A.length→Row w g t (A++B++C)→Row (w.setCells g n vs) g t (A++vs++C)
 | [],[],A,w,n,_,_,h=>h
 | v :: vs,q :: B,A,w,n,hl,hn,h=>by
  have h1:Row w g t (A ++ [q]++(B++C)):=by simpa using h
  have b:=h1.set v hn
  have c:Row (w.setCell ⟨g,n,none⟩ v) g t ((A ++ [v])++B++C):=by simpa using b
  have a:=Row.setCells vs B (A ++ [v]) _ (n+1) (by simpa using hl) (by simp [hn]) c
  show Row ((w.setCell ⟨g,n,none⟩ v).setCells g (n+1) vs) g t (A++(v :: vs)++C)
  rw [show A++(v :: vs)++C=(A ++ [v])++vs++C by simp]
  exact a
 | v :: vs,[],A,w,n,hl,_,_=>by simp at hl
 | [],q :: B,A,w,n,hl,_,_=>by simp at hl
theorem Only.setCells {b:Nat}{w:World}:∀ (vs:List Value) (n:Nat) (w':World),Only b w w'→Only b w (w'.setCells b n vs)
 | [],_,_,h=>h
 | v :: vs,n,_,h=>Only.setCells vs (n+1) _ (h.setCell n v)
theorem Z2M {P:Program}(w:World)(dT sT ty elem:TypeId)(b o dLen dCap:Nat)(t:ByteArray)
  (hu:P.underlying dT=some (.slice elem))(hz:∀ w,(Go.sizeOf elem).run P w= .ok 1 w)(hle:dLen≤t.size)
  (hc:∀ j,j<dLen→(w.cell? ⟨b,o+j,none⟩).isSome=true)(hf:∀ j,j<dLen→w.frozen? ⟨b,o+j,none⟩=false) :
  (Builtin.copy_ #[dT,sT] ty #[.slice (some ⟨b,o,none⟩) dLen dCap,.string t]).run P w= .ok (goInt dLen) (w.setCells b o ((t.data.toList.take dLen).map fun x=>Value.int .u8 (x.toNat:Int))):=by
 have a:=Nat.min_eq_right hle
 have d:((t.data.toList.take dLen).map fun x=>Value.int .u8 (x.toNat:Int)).length=dLen:=by
  rw [List.length_map,List.length_take,← Lib.size_eq];omega
 have c:=run_storeCells_cells (P:=P) b o ((t.data.toList.take dLen).map fun x=>Value.int .u8 (x.toNat:Int)) 0 w (by rw [d];simpa using hc) (by rw [d];simpa using hf) (by
  intro v e
  obtain⟨x,_,rfl⟩:=List.mem_map.1 e
  rfl)
 simp [Builtin.copy_,run_underlying hu,Builtin.lenOf,Builtin.firstCells,hz,a]
 rw [← List.map_take,c]
 rfl
def mixA (st:St):List Value:= [Value.bool true,.int .u32 (st.a:Nat),.int .u32 (st.b:Nat),.int .u32 (st.c:Nat),.int .u32 (st.d:Nat),.int .u32 (st.e:Nat),.int .u32 (st.f:Nat),.int .u32 (st.g:Nat),.int .u32 (st.h:Nat)]
def mixT (have_ size:Nat):List Value:= [Value.int .i64 (have_:Nat),Value.int .i64 (size:Nat)]
def mixV (st:St)(rest:List Value)(have_ size:Nat):List Value:=mixA st++rest++mixT have_ size
theorem Z0H.below {w w':World}(h:Z0H w){B:Nat}(hb:Below B w w')(hB:2<B):Z0H w':=⟨Nat.lt_of_lt_of_le h.1 hb.size,fun i hi=>(hb.cell (p:=⟨2,i,none⟩) hB).trans (h.2 i hi)⟩
theorem zero_u8 (w:World):(zeroValue 5).run prog w= .ok (.int .u8 0) w:=(zero_of_info (n:=1) (by kernel_rfl)).1 w
theorem Z7H (g t o:Nat)(A B C:List Value)(ho:o=A.length)(L cap n:Nat)(z:Int)(hz:z=(n:Int))(hL:L≤8)(hB:B.length=L)(w:World)(hr:Row w g t (A++B++C)) :
  Calls prog 105 #[.slice (some ⟨g,o,none⟩) L cap,.int .u64 z] w fun e w'=>e= .returned (.tuple #[])∧Row w' g t (A++beV L n++C)∧Only g w w':=by
 subst hz
 exact putHigh_at g t o A B C ho L cap n hL hB w hr
theorem Z7I (w:World)(g t:Nat)(A:List Value)(m h_ n:Nat)(hl:A.length=65)(hr:Row w g t (A++beV 8 m++mixT h_ n)):w.cell? ⟨g,74,none⟩=some (.int .i64 (n:Nat)):=by
 have a:(beV 8 m).length=8:=by simp [beV]
 rw [hr.cell,List.getElem?_append_right (by rw [List.length_append,hl,a];decide),List.length_append,hl,a]
 rfl
theorem beV8 (n:Nat):beV 8 n=byV (be8 n):=by
 have h:∀ a b,n/a/b=n/(a*b):=fun a b=>Nat.div_div_eq_div_mul n a b
 simp [beV,byV,be8,be4,List.range,List.range.loop,h]
theorem Z05 (a b:List Nat):byV (a++b)=byV a++byV b:=by simp [byV]
theorem Z1l (n:Nat):byV (List.replicate n 0)=List.replicate n (Value.int .u8 0):=by simp [byV]
theorem Z0s (b:List Nat)(i:Nat)(h:i<b.length):(byV b)[i]? = some (.int .u8 (b.getD i 0:Nat)):=by
 rw [byV,List.getElem?_map,List.getElem?_eq_getElem h,Z0b _ _ h]
 rfl
set_option maxRecDepth 10000 in
theorem finish_small (st:St)(hok:st.ok)(d:List Nat)(hb:Z03 d)(h_ n:Nat)(hl:d.length=h_)(hh:h_<56)(r0:Value)(R:List Value)(hR:R.length=63-h_)(hs:n<1099511627776)(w:World)(hq:Z0H w) :
  Calls prog 130 #[.agg (mixV st (byV d++r0 :: R) h_ n).toArray] w fun e w'=>e= .returned (.agg (byV (outL (comp st (d++128 :: (List.replicate (55-h_) 0++be8 (8*n)))))).toArray)∧Below w.heap.size w w':=by
 have m:(byV d).length=h_:=by simp [byV,hl]
 obtain⟨D,N⟩:∃ D,D=mixV st (byV d++r0 :: R) h_ n:=⟨_,rfl⟩
 have r:Row ((w.alloc (.cells D.toArray 150)).alloc (.cells #[.int .u8 0,.int .u8 0,.int .u8 0,.int .u8 0,.int .u8 0,.int .u8 0,.int .u8 0,.int .u8 0,.int .u8 0,.int .u8 0,.int .u8 0,.int .u8 0,.int .u8 0,.int .u8 0,.int .u8 0,.int .u8 0,.int .u8 0,.int .u8 0,.int .u8 0,.int .u8 0,.int .u8 0,.int .u8 0,.int .u8 0,.int .u8 0,.int .u8 0,.int .u8 0,.int .u8 0,.int .u8 0,.int .u8 0,.int .u8 0,.int .u8 0,.int .u8 0] 156)) w.heap.size 150 (mixA st++byV d ++ [r0]++(R++mixT h_ n)):=by
  have:=heap_alloc2_old w (.cells D.toArray 150) (.cells #[.int .u8 0,.int .u8 0,.int .u8 0,.int .u8 0,.int .u8 0,.int .u8 0,.int .u8 0,.int .u8 0,.int .u8 0,.int .u8 0,.int .u8 0,.int .u8 0,.int .u8 0,.int .u8 0,.int .u8 0,.int .u8 0,.int .u8 0,.int .u8 0,.int .u8 0,.int .u8 0,.int .u8 0,.int .u8 0,.int .u8 0,.int .u8 0,.int .u8 0,.int .u8 0,.int .u8 0,.int .u8 0,.int .u8 0,.int .u8 0,.int .u8 0,.int .u8 0] 156)
  rw [Row,this,N]
  simp [mixV]
 have G:Row ((w.alloc (.cells D.toArray 150)).alloc (.cells #[.int .u8 0,.int .u8 0,.int .u8 0,.int .u8 0,.int .u8 0,.int .u8 0,.int .u8 0,.int .u8 0,.int .u8 0,.int .u8 0,.int .u8 0,.int .u8 0,.int .u8 0,.int .u8 0,.int .u8 0,.int .u8 0,.int .u8 0,.int .u8 0,.int .u8 0,.int .u8 0,.int .u8 0,.int .u8 0,.int .u8 0,.int .u8 0,.int .u8 0,.int .u8 0,.int .u8 0,.int .u8 0,.int .u8 0,.int .u8 0,.int .u8 0,.int .u8 0] 156)) (w.heap.size+1) 156 (digV []):=heap_alloc2_new w _ _
 have H:Below w.heap.size w ((w.alloc (.cells D.toArray 150)).alloc (.cells #[.int .u8 0,.int .u8 0,.int .u8 0,.int .u8 0,.int .u8 0,.int .u8 0,.int .u8 0,.int .u8 0,.int .u8 0,.int .u8 0,.int .u8 0,.int .u8 0,.int .u8 0,.int .u8 0,.int .u8 0,.int .u8 0,.int .u8 0,.int .u8 0,.int .u8 0,.int .u8 0,.int .u8 0,.int .u8 0,.int .u8 0,.int .u8 0,.int .u8 0,.int .u8 0,.int .u8 0,.int .u8 0,.int .u8 0,.int .u8 0,.int .u8 0,.int .u8 0] 156)):=((Below.refl _ _).alloc (Nat.le_refl _) _).alloc (by simp) _
 obtain⟨w0,a6⟩:∃ w0,(w.alloc (.cells D.toArray 150)).alloc (.cells #[.int .u8 0,.int .u8 0,.int .u8 0,.int .u8 0,.int .u8 0,.int .u8 0,.int .u8 0,.int .u8 0,.int .u8 0,.int .u8 0,.int .u8 0,.int .u8 0,.int .u8 0,.int .u8 0,.int .u8 0,.int .u8 0,.int .u8 0,.int .u8 0,.int .u8 0,.int .u8 0,.int .u8 0,.int .u8 0,.int .u8 0,.int .u8 0,.int .u8 0,.int .u8 0,.int .u8 0,.int .u8 0,.int .u8 0,.int .u8 0,.int .u8 0,.int .u8 0] 156)=w0:=⟨_,rfl⟩
 rw [a6] at r G H
 have c1:w0.cell? ⟨w.heap.size,73,none⟩=some (.int .i64 (h_:Nat)):=by
  rw [r.cell]
  have:(mixA st++byV d ++ [r0]++R).length=73:=by simp [mixA,m];omega
  rw [← List.append_assoc,List.getElem?_append_right (by omega),this]
  rfl
 have c2:w0.cell? ⟨w.heap.size,9+h_,none⟩=some r0:=by
  rw [r.cell]
  have:(mixA st++byV d).length=9+h_:=by simp [mixA,m];omega
  rw [List.append_assoc _ [r0],List.getElem?_append_right (by omega),this,Nat.sub_self]
  rfl
 have c3:∀ i,w0.frozen? ⟨w.heap.size,i,none⟩=false:=fun i=>r.frozen i
 have o:Row (w0.setCell ⟨w.heap.size,9+h_,none⟩ (.int .u8 128)) w.heap.size 150 (mixA st++byV d ++ [.int .u8 128]++(R++mixT h_ n)):=r.set _ (by simp [mixA,m];omega)
 have Q:Row (w0.setCell ⟨w.heap.size,9+h_,none⟩ (.int .u8 128)) (w.heap.size+1) 156 (digV []):=(Below.heap_setCell _ _ _ _ (by simp)).trans G
 have M:=H.setCell (p:=⟨w.heap.size,9+h_,none⟩) (Nat.le_refl _) (.int .u8 128)
 obtain⟨w1,a9⟩:∃ w1,w0.setCell ⟨w.heap.size,9+h_,none⟩ (.int .u8 128)=w1:=⟨_,rfl⟩
 rw [a9] at o Q M
 have c4:w1.cell? ⟨w.heap.size,73,none⟩=some (.int .i64 (h_:Nat)):=by
  rw [o.cell]
  have:(mixA st++byV d ++ [Value.int .u8 128]++R).length=73:=by simp [mixA,m];omega
  rw [← List.append_assoc,List.getElem?_append_right (by omega),this]
  rfl
 clear r G H
 have i1:(h_:Int)<64:=by omega
 have i2:IntKind.i64.wrap ((h_:Int)+1)=h_+1:=by rw [IntKind.wrap_i64];omega
 have i3:(0:Int)≤(h_:Int)+1:=by omega
 have i4:(h_:Int)+1≤64:=by omega
 have i5:((h_:Int)+1).toNat=h_+1:=by omega
 have i6:¬ 64=h_+1:=by omega
 have T:=Lib.run_clear_slice (P:=prog) w1 90 5 0 (.int .u8 0) underlying90 zero_u8 rfl rfl w.heap.size (9+(h_+1)) (63-h_) (63-h_) (by omega) (fun j hj=>by
  rw [o.cell,List.getElem?_eq_getElem (by simp [mixA,mixT,m];omega)];rfl) (fun j _=>o.frozen _)
 have B:Row (w1.setCells w.heap.size (9+(h_+1)) (List.replicate (63-h_) (.int .u8 0))) w.heap.size 150 ((mixA st++byV d ++ [.int .u8 128])++List.replicate (63-h_) (.int .u8 0)++mixT h_ n):=Row.setCells _ R _ _ _ (by simp [hR]) (by simp [mixA,m];omega) (by simpa using o)
 have A:Only w.heap.size w1 (w1.setCells w.heap.size (9+(h_+1)) (List.replicate (63-h_) (.int .u8 0))):=Only.setCells _ _ _ (Only.refl _ _)
 obtain⟨w2,X⟩:∃ w2,w1.setCells w.heap.size (9+(h_+1)) (List.replicate (63-h_) (.int .u8 0))=w2:=⟨_,rfl⟩
 rw [X] at T B A
 have a1:=Q.only A (by omega)
 have aa:=o.lt
 have Z:=M.trans ((A.below (by omega)))
 clear X o Q M A
 have q:Row w2 w.heap.size 150 ((mixA st++byV d ++ [.int .u8 128]++List.replicate (55-h_) (.int .u8 0))++List.replicate 8 (.int .u8 0)++mixT h_ n):=by
  have e:List.replicate (63-h_) (Value.int .u8 0)=List.replicate (55-h_) (Value.int .u8 0)++List.replicate 8 (Value.int .u8 0):=by
   rw [List.replicate_append_replicate];congr 1;omega
  rw [e] at B
  simpa using B
 have l:(mixA st++byV d ++ [Value.int .u8 128]++List.replicate (55-h_) (Value.int .u8 0)).length=65:=by simp [mixA,m];omega
 have c5:w2.cell? ⟨w.heap.size,73,none⟩=some (.int .i64 (h_:Nat)):=by
  rw [q.cell,List.getElem?_append_right (by rw [List.length_append,l];simp),List.length_append,l]
  rfl
 have c6:w2.cell? ⟨w.heap.size,74,none⟩=some (.int .i64 (n:Nat)):=by
  rw [q.cell,List.getElem?_append_right (by rw [List.length_append,l];simp),List.length_append,l]
  rfl
 have ib:decide ((56:Int)≤(h_:Int))=false:=decide_eq_false (by omega)
 have j1:IntKind.u64.wrap (n:Int)=n:=by rw [IntKind.wrap_u64];omega
 have j2:IntKind.u64.wrap (8*(n:Int))=8*n:=by rw [IntKind.wrap_u64];omega
 have HR:Hid (Row w2 w.heap.size 150 ((mixA st++byV d ++ [.int .u8 128]++List.replicate (55-h_) (.int .u8 0))++List.replicate 8 (.int .u8 0)++mixT h_ n)):=q
 have HZ:Hid (Row w2 (w.heap.size+1) 156 (digV [])∧Below w.heap.size w w2):=⟨a1,Z⟩
 rw [← N]
 clear N B q a1 Z
 go_enter func130,ntmps130
 go_wp2_with fail
 go_region_held3 (fun w'=>w'.cell? ⟨w.heap.size,74,none⟩=some (.int .i64 (n:Nat))) (simp [go_sem, *]) (first | (go_at_call 105;refine (Z7H w.heap.size 150 65 _ _ _ l.symm 8 8 (8*n) (8*(n:Int)) (by omega) (by decide) List.length_replicate w2.drew HR.out).mono ?_;rintro e w3 ⟨rfl,K,J⟩;have c7:=Z7I w3 _ _ _ _ h_ n l K))
 obtain⟨b,u⟩:∃ b,b=d++128 :: (List.replicate (55-h_) 0++be8 (8*n)):=⟨_,rfl⟩
 have k:Row w3 w.heap.size 150 (mixA st++byV b++mixT h_ n):=by
  have e:byV b=byV d ++ [Value.int .u8 128]++List.replicate (55-h_) (Value.int .u8 0)++beV 8 (8*n):=by
   rw [u,Z05,beV8,← Z1l]
   simp [byV]
  rw [e]
  simpa using K
 have a7:Z03 b:=by rw [u];exact hb.append (Z03.cons (by decide) ((Z03.zeros _).append (Z5y _)))
 have I:b.length=64:=by rw [u];simp [Z2r,hl];omega
 have a2:Hid (b=d++128 :: (List.replicate (55-h_) 0++be8 (8*n))):=u
 have e1:w3.cell? ⟨w.heap.size,1,none⟩=some (.int .u32 (st.a:Nat)):=k.cell 1
 have e2:w3.cell? ⟨w.heap.size,2,none⟩=some (.int .u32 (st.b:Nat)):=k.cell 2
 have e3:w3.cell? ⟨w.heap.size,3,none⟩=some (.int .u32 (st.c:Nat)):=k.cell 3
 have e4:w3.cell? ⟨w.heap.size,4,none⟩=some (.int .u32 (st.d:Nat)):=k.cell 4
 have e5:w3.cell? ⟨w.heap.size,5,none⟩=some (.int .u32 (st.e:Nat)):=k.cell 5
 have e6:w3.cell? ⟨w.heap.size,6,none⟩=some (.int .u32 (st.f:Nat)):=k.cell 6
 have e7:w3.cell? ⟨w.heap.size,7,none⟩=some (.int .u32 (st.g:Nat)):=k.cell 7
 have e8:w3.cell? ⟨w.heap.size,8,none⟩=some (.int .u32 (st.h:Nat)):=k.cell 8
 have HC:Hid (∀ i,i<64→w3.cell? ⟨w.heap.size,9+i,none⟩=some (.int .u8 (b.getD i 0:Nat))):=fun i hi=>by
  rw [k.cell,List.append_assoc,List.getElem?_append_right (by simp [mixA]),show 9+i-(mixA st).length=i by simp [mixA],List.getElem?_append_left (by simp [byV,I];omega),Z0s b i (by omega)]
 have F:Row w3 (w.heap.size+1) 156 (digV []):=Row.only (w:=w2.drew) HZ.out.1 J (by omega)
 have z:Below w.heap.size w w3:=HZ.out.2.drew.trans (J.below (Nat.le_of_lt HR.out.lt))
 have W:=hq.below z hq.1
 have C:=k.lt
 have V:Hid (Z0H w3∧w.heap.size<w3.heap.size):=⟨W,C⟩
 clear K J k u c7 W C l HR HZ
 go_wp2_with fail
 refine (Z3S st hok b a7 w.heap.size 9 w3 V.out.1 V.out.2 HC.out).mono ?_
 rintro e w4 ⟨rfl,E⟩
 have O:=F.below E F.lt
 have t:=z.trans (E.mono z.size)
 clear F z E e1 e2 e3 e4 e5 e6 e7 e8 HC
 go_wp2_with fail
 refine (Z1T (comp st b) (Z61 _ _) w4).mono ?_
 rintro e w5 ⟨rfl,L⟩
 have Y:w5.heap[w.heap.size+1]? = some (.cells (digV []).toArray 156 (0,0)):=O.below L O.lt
 have S:=t.trans (L.mono t.size)
 clear O t L
 obtain⟨s,x⟩:∃ s,s=(byV (outL (comp st b))).toArray:=⟨_,rfl⟩
 have U:s.size=32:=by rw [x];simp [byV,Z1u]
 have a0:s.all (·.oneCell')=true:=by rw [x];simp [byV,Value.oneCell']
 have a5:Hid (s=(byV (outL (comp st b))).toArray):=x
 rw [← x]
 clear x
 have a3:(digV []).toArray.size=s.size:=by rw [U];rfl
 have y:(prog.info? 156).map (·.size)=some s.size:=by rw [U];kernel_rfl
 have a8:=Z0l S (show w.heap.size≤w.heap.size+1 by omega) s
 have a4:=run_loadVar_row (P:=prog) (w5.setRow (w.heap.size+1) s) (w.heap.size+1) 156 156 s (0,0) _ (setRow_heap _ _ _ _ _ _ Y) underlying156 rfl y
 go_wp2_with (refine wpList_store_row rfl 156 _ _ rfl (w.heap.size+1) s rfl rfl 156 _ Y y a3 a0 ?_)
 exact bodyPost_ret (v:= .agg s) (by simp [results,Tryz.results130,asAddr,Act.put,a4]) rfl ⟨by rw [a5.out,a2.out],a8⟩
def Z00 (s:ByteArray):List Nat:=s.data.toList.map (·.toNat)
theorem Z01 (s:ByteArray):(Z00 s).length=s.size:=by simp [Z00]
theorem Z04 (s:ByteArray):Z03 (Z00 s):=fun x hx=>by
 obtain⟨y,_,rfl⟩:=List.mem_map.1 hx
 exact y.toNat_lt
def Z2m:Value→Nat
 | .string t=>t.size
 | _=>0
def Z1D (w:World)(B:Nat)(l:List Nat)(n:Nat):Prop:= ∃ R:List Value,R.length=64-l.length%64∧Row w B 150 (mixV (Z0e l (l.length/64)) (byV (l.drop (64*(l.length/64)))++R) (l.length%64) n)
theorem Z2W (w:World):(Go.sizeOf 5).run prog w= .ok 1 w:=by
 obtain⟨e,b,d,a,c⟩:=info_parts (show (prog.info? 5).map (fun i=>(i.zero,i.size,i.bytes))=some (some (.int .u8 0),1,1) by kernel_rfl)
 simp [Go.sizeOf,typeInfo,b,a]
theorem Z0h (s:ByteArray)(p q:Nat):Z00 (s.extract p q)=((Z00 s).drop p).take (q-p):=by
 rw [Z00,Lib.extract_data,List.map_take,List.map_drop]
 rfl
theorem Z62 (l:List Nat)(R:List Value)(hR:R.length=64-l.length%64):(mixA (Z0e l (l.length/64))++(byV (l.drop (64*(l.length/64)))++R)).length=73:=by
 simp [mixA,byV,hR];omega
theorem mixAt_part (w:World)(B:Nat)(l1 un:List Nat)(R:List Value)(h_ k N:Nat)(z:Int)(hz:z=((h_+k:Nat):Int))(hh:h_=l1.length%64)(hk:un.length=k)(hlt:h_+k<64)(hR:R.length=64-(h_+k))
  (hr:Row w B 150 ((mixA (Z0e l1 (l1.length/64))++byV (l1.drop (64*(l1.length/64)))++byV un++R) ++ [.int .i64 z] ++ [.int .i64 (N:Nat)])):Z1D w B (l1++un) N:=by
 have b:(l1++un).length/64=l1.length/64:=by rw [List.length_append];omega
 have a:(l1++un).length%64=h_+k:=by rw [List.length_append];omega
 refine⟨R,by rw [a];exact hR,?_⟩
 rw [b,a,Z2Q _ _ _ (by omega),List.drop_append_of_le_length (by omega),Z05,mixV,mixT,← hz]
 simpa using hr
end Sm
end Go.Proofs.YtijpgmkdnemmbaaGreatDoor
