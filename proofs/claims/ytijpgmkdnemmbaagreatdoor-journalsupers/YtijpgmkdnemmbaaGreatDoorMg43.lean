/- Part 43. -/
import Derived.Test.YtijpgmkdnemmbaaGreatDoorMg04
import Derived.Lib.ConvBytes
import Derived.Laws.IdiomCopy
import Derived.Deep.Upon
import Derived.Shelf.Strings.Builder1
import Derived.Shelf.Strings.Builder2
import Derived.Test.YtijpgmkdnemmbaaGreatDoorMg03
set_option maxRecDepth 20000
set_option maxHeartbeats 8000000
open Go.RowKit Go.Proofs.Tryz
namespace Go.Proofs.YtijpgmkdnemmbaaGreatDoor
namespace Bx
structure OwnC (w:World) (base g n cap:Nat) (xs:List Value):Prop where
 len:xs.length=n
 low:base≤g
 lt:g<w.heap.size
 room:n≤cap
 most:cap≤maxLen
 there:∀ i,i<cap→(w.cell? ⟨g,i,none⟩).isSome=true
 free:∀ i,i<cap→w.frozen? ⟨g,i,none⟩=false
 cells:∀ i u,xs[i]? = some u→w.cell? ⟨g,i,none⟩=some u
theorem OwnC.kept {w w':World}{base g n cap:Nat}{xs:List Value}(h:OwnC w base g n cap xs)(hb:w'.heap[g]? = w.heap[g]?)(hs:w.heap.size≤w'.heap.size):OwnC w' base g n cap xs :=
 ⟨h.len,h.low,Nat.lt_of_lt_of_le h.lt hs,h.room,h.most,fun i hi=>by rw [World.cell?_of_block (a:=⟨g,i,none⟩) hb];exact h.there i hi,fun i hi=>by rw [World.frozen?_of_block (a:=⟨g,i,none⟩) hb];exact h.free i hi,fun i u hu=>by rw [World.cell?_of_block (a:=⟨g,i,none⟩) hb];exact h.cells i u hu⟩
theorem OwnC.alloc {w:World}{base g n cap:Nat}{xs:List Value}(h:OwnC w base g n cap xs)(o:Obj):OwnC (w.alloc o) base g n cap xs:=h.kept (Below.heap_alloc w o g (by have:=h.lt;omega)) (by simp)
theorem OwnC.of {w:World}{base n:Nat}{e:TypeId}{v:Value}{xs:List Value}(h:w.ownsRow base e 1 v n xs)(hn:0<n):∃ g cap,v= .slice (some ⟨g,0,none⟩) n cap∧OwnC w base g n cap xs:=by
 rcases h.2 with ⟨_,h0⟩ | ⟨g,cap,cur,hv,hb,hg,hnc,hcm,hcs,htake⟩
 ·omega
 ·have a:=h.1
  simp only [Nat.mul_one] at hcs htake a
  refine⟨g,cap,hv,a,hb,(Array.getElem?_eq_some_iff.1 hg).1,hnc,hcm,fun i hi=> ?_,fun i _=>by simp [World.frozen?,hg],fun i u hu=> ?_⟩
  ·rw [cell_of_row w g i cur e (0,0) hg,Array.getElem?_eq_getElem (by omega)];rfl
  ·rw [cell_of_row w g i cur e (0,0) hg]
   rw [← htake,List.getElem?_take] at hu
   split at hu
   ·simpa using hu
   ·cases hu
theorem OwnC.append {P:Program}(w:World)(base:Nat)(t ty e:TypeId)(i:TypeInfo)(z:Value)(bytes:Nat)(ht:P.underlying t=some (.slice e))(hi:P.info? e=some i)(hz:i.zero=some z)
  (hsize:i.size=1)(hby:i.bytes=bytes)(hzs:z.cells.size=1)
  (g n cap:Nat)(xs:List Value)(hown:OwnC w base g n cap xs)
  (a:Addr)(m c:Nat)(news:List Value)(hl:news.length=m)(hnews:∀ j u,news[j]? = some u→w.cell? (a.add j)=some u)(h1:∀ u∈news,u.oneCell'=true)
  (h63:n+m≤maxLen)(hbytes:(n+m)*bytes≤140737488355328)(hbase:base≤w.heap.size) :
  ∃ g' cap' w',(Builtin.append_ #[t,t] ty #[.slice (some ⟨g,0,none⟩) n cap,.slice (some a) m c]).run P w= .ok (.slice (some ⟨g',0,none⟩) (n+m) cap') w'∧OwnC w' base g' (n+m) cap' (xs++news)∧w.grownBy w' (some g)∧(g'=g∨g'=w.heap.size):=by
 subst hby
 have r:=hown.len
 have l:(xs++news).length=n+m:=by rw [List.length_append];omega
 by_cases b:n+m≤cap
 ·have y:=run_firstCells_some (P:=P) w i.size m a m c news (by rw [hsize];omega) hnews
  have q:=run_storeCells_cells (P:=P) g n news 0 w (fun j hj=>by simpa using hown.there (n+j) (by omega)) (fun j hj=>by simpa using hown.free (n+j) (by omega)) h1
  rw [Nat.add_zero] at q
  have f:=World.cell?_setCells_in g news n w (fun j hj=>hown.there (n+j) (by omega))
  refine⟨g,cap,w.setCells g n news,?_,⟨l,hown.low,?_,b,hown.most,fun i hi=> ?_,fun i hi=> ?_,fun i u hu=> ?_⟩,⟨World.os_setCells _ _ _ _,?_,World.output_setCells _ _ _ _,?_,fun k hk hne=> ?_⟩,.inl rfl⟩
  ·rw [hsize] at y
   simp [Builtin.append_,run_underlying ht,sizeOf,typeInfo,hi,Builtin.lenOf,b,y,Addr.add_lit,q,hsize]
  ·exact Nat.lt_of_lt_of_le hown.lt (Only.setCells news n w (Only.refl g w)).size
  ·by_cases x:n≤i∧i<n+news.length
   ·have:=f (i-n) (by omega)
    rw [show n+(i-n)=i by omega] at this
    rw [this];rfl
   ·rw [World.cell?_setCells_out g news n w ⟨g,i,none⟩ (fun _ _=>by show i<n∨n+news.length≤i;omega)]
    exact hown.there i hi
  ·rw [World.frozen?_setCells];exact hown.free i hi
  ·by_cases x:i<n
   ·rw [World.cell?_setCells_out g news n w ⟨g,i,none⟩ (fun _ _=>by show i<n∨_;omega)]
    rw [List.getElem?_append_left (by omega)] at hu
    exact hown.cells i u hu
   ·rw [List.getElem?_append_right (by omega)] at hu
    have B:=(List.getElem?_eq_some_iff.1 hu).1
    have:=f (i-n) (by omega)
    rw [show n+(i-n)=i by omega] at this
    rw [this,← hu,r,List.getElem?_eq_getElem]
  ·exact (Only.setCells news n w (Only.refl g w)).1.tape
  ·exact (Only.setCells news n w (Only.refl g w)).size
  ·exact (Only.setCells news n w (Only.refl g w)).2 k hk (fun e=>hne (by rw [e]))
 ·have o:∀ j u,xs[j]? = some u→w.cell? ((⟨g,0,none⟩:Addr).add j)=some u:=fun j u hu=>by
   have p:(⟨g,0,none⟩:Addr).add j=⟨g,j,none⟩:=by unfold Addr.add;split <;> simp_all
   rw [p];exact hown.cells j u hu
  have h:=run_append_grow (P:=P) w t ty e i z ht hi hz ⟨g,0,none⟩ n cap xs (by rw [hsize];omega) o a m c news (by rw [hsize];omega) hnews (by omega) (by unfold maxLen at h63;omega) (growslice_fits (by omega) hbytes)
  have s:=grownCap_ge w (n+m) cap e
  have v:grownCap w (n+m) cap e≤maxLen:=grownCap_le_maxLen w (n+m) cap e h63
  have d:(w.drew.alloc (.cells (xs.toArray++news.toArray++Builtin.zeroCells z.cells (grownCap w (n+m) cap e-(n+m))) e)).heap[w.heap.size]? = some (.cells (xs.toArray++news.toArray++Builtin.zeroCells z.cells (grownCap w (n+m) cap e-(n+m))) e (0,0)):=heap_alloc_new w.drew _
  have A:(xs.toArray++news.toArray++Builtin.zeroCells z.cells (grownCap w (n+m) cap e-(n+m))).size=grownCap w (n+m) cap e:=by
   rw [Array.size_append,Array.size_append,List.size_toArray,List.size_toArray,size_zeroCells,hzs];omega
  refine⟨w.heap.size,_,_,h,⟨l,hbase,by simp,s,v,fun i hi=> ?_,fun i _=> ?_,fun i u hu=> ?_⟩,⟨rfl,rfl,rfl,by simp,fun k hk _=>Below.heap_alloc w.drew _ k (by have:w.drew.heap.size=w.heap.size:=rfl;omega)⟩,.inr rfl⟩
  ·rw [cell_of_row _ _ _ _ _ _ d,Array.getElem?_eq_getElem (by omega)];rfl
  ·simp only [World.frozen?,d];simp
  ·rw [cell_of_row _ _ _ _ _ _ d,Array.getElem?_append_left (by have:=(List.getElem?_eq_some_iff.1 hu).1;simp at this ⊢;omega)]
   simpa using hu
theorem Z0C {P:Program}(w:World){ops:Array Oper}{rest:List Oper}{o:Oper}{a:Act}{Q:Exit→Act→World→Prop}(hgd:o.guard=none)(s x:Operand)(t:TypeId)
  (ho:o.op= .call { callee:= .builtin .append,args:=#[s,x],argTypes:=#[t,t]})
  (base:Nat)(e:TypeId)(i:TypeInfo)(z:Value)(bytes:Nat)(ht:P.underlying t=some (.slice e))(hi:P.info? e=some i)(hz:i.zero=some z)
  (hsize:i.size=1)(hby:i.bytes=bytes)(hzs:z.cells.size=1)
  (g n cap:Nat)(xs:List Value)(hs:a.eval s= .slice (some ⟨g,0,none⟩) n cap)(hown:OwnC w base g n cap xs)
  (ad:Addr)(m c:Nat)(news:List Value)(hx:a.eval x= .slice (some ad) m c)(hl:news.length=m)(hnews:∀ j u,news[j]? = some u→w.cell? (ad.add j)=some u)(h1:∀ u∈news,u.oneCell'=true)
  (h63:n+m≤maxLen)(hbytes:(n+m)*bytes≤140737488355328)(hbase:base≤w.heap.size)
  (h:∀ g' cap' w',OwnC w' base g' (n+m) cap' (xs++news)→w.grownBy w' (some g)→(g'=g∨g'=w.heap.size)→wpList P ops Q rest (a.put o.dst (.slice (some ⟨g',0,none⟩) (n+m) cap')) w'):wpList P ops Q (o :: rest) a w:=by
 refine wpList_plain hgd fun K hK=> ?_
 obtain⟨g',cap',w',b,f,d,k⟩:=OwnC.append (P:=P) w base t o.type e i z bytes ht hi hz hsize hby hzs g n cap xs hown ad m c news hl hnews h1 h63 hbytes hbase
 unfold Oper.wp execOp
 simp only [ho,resolve,invoke,builtin,Sem.run_bind,Sem.run_pure,Result.andThen_ok,List.map_toArray,List.map_cons,List.map_nil,hs,hx,b]
 exact hK _ _ (h g' cap' w' f d k)
theorem Z20 (w:World)(e:TypeId)(s:ByteArray):Below w.heap.size w (Lib.bytesWorld w e s) :=
 ⟨rfl,rfl,rfl,by rw [Lib.bytesWorld_size];omega,fun k hk=>Lib.bytesWorld_at_old w e s k hk⟩
theorem Z2v (w:World)(e:TypeId)(s:ByteArray)(hs:s.size≤maxLen):OwnC (Lib.bytesWorld w e s) w.heap.size w.heap.size s.size (grownCap w s.size 0 e) (s.data.toList.map fun x=>Value.int .u8 (x.toNat:Int)):=by
 have d:=grownCap_ge w s.size 0 e
 have a:=Lib.bytesWorld_at_new w e s
 have c:(Lib.bytesCells w e s).size=grownCap w s.size 0 e:=by simp [Lib.bytesCells];omega
 refine⟨by simp,Nat.le_refl _,by rw [Lib.bytesWorld_size];omega,d,grownCap_le_maxLen w s.size 0 e hs,fun i hi=> ?_,fun i hi=> ?_,fun i u hu=> ?_⟩
 ·rw [cell_of_row _ _ _ _ _ _ a,Array.getElem?_eq_getElem (by omega)];rfl
 ·simp [World.frozen?,a,c];omega
 ·have b:=(List.getElem?_eq_some_iff.1 hu).1
  simp only [List.length_map,Array.length_toList] at b
  have f:i<s.size:=by simpa using b
  rw [Lib.bytesWorld_cell w e s i f,← hu]
  simp [List.getD,f]
end Bx
namespace Bx
section
open Go.Shelf Go.RowKit
def bx169_ren:Go.Shelf.Ren:=⟨fun | 169=>61 | n=>n,fun | 70=>137 | 9=>9 | 0=>0 | 72=>139 | 37=>90 | 127=>200 | 3=>3 | 5=>5 | n=>n,fun | n=>n⟩
theorem bx169:Go.Proofs.Lays.n169 prog bx169_ren:= {
 mixed:=by kernel_rfl
 f169:=func61.trans (congrArg some (by kernel_rfl))
 t0:=underlying0
 a0:=Tryz.isAgg0
 z0:=Tryz.sizeOf0
 v0:=Tryz.zeroValue0
 t3:=underlying3
 a3:=Tryz.isAgg3
 z3:=Tryz.sizeOf3
 v3:=Tryz.zeroValue3
 t9:=underlying9
 a9:=Tryz.isAgg9
 z9:=Tryz.sizeOf9
 v9:=Tryz.zeroValue9
 t37:=underlying90
 a37:=Tryz.isAgg90
 z37:=Tryz.sizeOf90
 v37:=Tryz.zeroValue90
 t70:=underlying137
 a70:=Tryz.isAgg137
 z70:=Tryz.sizeOf137
 v70:=Tryz.zeroValue137
 t72:=underlying139
 a72:=Tryz.isAgg139
 z72:=Tryz.sizeOf139
 v72:=Tryz.zeroValue139
 t127:=underlying200
 a127:=Tryz.isAgg200
 z127:=Tryz.sizeOf200
 v127:=Tryz.zeroValue200 }
theorem bx169_extra:Builder.Extra prog bx169_ren:= {
 sizeBuilder:=by kernel_rfl
 liesBuilder:=by kernel_rfl
 t5:=underlying5
 a5:=Tryz.isAgg5
 z5:=Tryz.sizeOf5
 v5:=Tryz.zeroValue5
 infoByte:=by kernel_rfl
 cellsByte:=by kernel_rfl
 sizeByte:=by kernel_rfl
 neB5:=by decide }
theorem bString_any (B b:Nat)(l:List UInt8)(w:World)(h:Lib.IsBuilder 139 5 B b (Lib.byteCells l) w)(hBw:B≤w.heap.size) :
  Calls prog 61 #[.pointer (some ⟨b,0,none⟩)] w fun e w'=>e= .returned (.string ⟨l.toArray⟩)∧Below B w w':=Any.Builder_String_any bx169 bx169_extra B b l w h hBw
def bx165_ren:Go.Shelf.Ren:=⟨fun | 165=>58 | 240=>100 | 241=>101 | 276=>126 | 277=>127 | n=>n,fun | 70=>137 | 3=>3 | 0=>0 | 4=>4 | 9=>9 | 20=>20 | 72=>139 | 37=>90 | 164=>229 | 5=>5 | n=>n,fun | n=>n⟩
theorem bx165:Go.Proofs.Lays.n165 prog bx165_ren:= {
 mixed:=by kernel_rfl
 f165:=func58.trans (congrArg some (by kernel_rfl))
 f240:=func100.trans (congrArg some (by kernel_rfl))
 f241:=func101.trans (congrArg some (by kernel_rfl))
 f276:=func126.trans (congrArg some (by kernel_rfl))
 f277:=func127.trans (congrArg some (by kernel_rfl))
 t0:=underlying0
 a0:=Tryz.isAgg0
 z0:=Tryz.sizeOf0
 v0:=Tryz.zeroValue0
 t3:=underlying3
 a3:=Tryz.isAgg3
 z3:=Tryz.sizeOf3
 v3:=Tryz.zeroValue3
 t4:=underlying4
 a4:=Tryz.isAgg4
 z4:=Tryz.sizeOf4
 v4:=Tryz.zeroValue4
 t9:=underlying9
 a9:=Tryz.isAgg9
 z9:=Tryz.sizeOf9
 v9:=Tryz.zeroValue9
 t20:=underlying20
 a20:=Tryz.isAgg20
 z20:=Tryz.sizeOf20
 v20:=Tryz.zeroValue20
 t37:=underlying90
 a37:=Tryz.isAgg90
 z37:=Tryz.sizeOf90
 v37:=Tryz.zeroValue90
 t70:=underlying137
 a70:=Tryz.isAgg137
 z70:=Tryz.sizeOf137
 v70:=Tryz.zeroValue137
 t72:=underlying139
 a72:=Tryz.isAgg139
 z72:=Tryz.sizeOf139
 v72:=Tryz.zeroValue139
 t164:=underlying229
 a164:=Tryz.isAgg229
 z164:=Tryz.sizeOf229
 v164:=Tryz.zeroValue229 }
theorem bx165_extra:Builder.Extra prog bx165_ren:= {
 sizeBuilder:=by kernel_rfl
 liesBuilder:=by kernel_rfl
 t5:=underlying5
 a5:=Tryz.isAgg5
 z5:=Tryz.sizeOf5
 v5:=Tryz.zeroValue5
 infoByte:=by kernel_rfl
 cellsByte:=by kernel_rfl
 sizeByte:=by kernel_rfl
 neB5:=by decide }
theorem bGrow_fresh (B b n:Nat)(w:World)(hB:B≤b)(hbk:w.heap[b]? = some (.cells #[.pointer none,.slice none 0 0] 139 (0,0)))(hBw:B≤w.heap.size)(hn:n≤281474976710656) :
  Calls prog 58 #[.pointer (some ⟨b,0,none⟩),.int .i64 n] w fun e w'=>e= .returned (.tuple #[])∧(Lib.BuilderAt 139 5 B b (.pointer (some ⟨b,0,none⟩)) [] w'∧Below B w w'):=Any.Builder_Grow_fresh bx165 bx165_extra B b n w hB hbk hBw hn
theorem bCheck_used (b:Nat)(w:World)(h0:w.cell? ⟨b,0,none⟩=some (.pointer (some ⟨b,0,none⟩))) :
  Calls prog 100 #[.pointer (some ⟨b,0,none⟩)] w fun e w'=>e= .returned (.tuple #[])∧w'=w:=by
 obtain⟨j,a,_⟩:=Option.map_eq_some_iff.1 (show (prog.info? 139).map (·.size)=some 2 by kernel_rfl)
 go_enter func100,ntmps100
 go_wp2
 rw [Lib.run_neq_ptr_same w _ underlying137 a]
 go_wp2
 go_end0
 exact⟨rfl,rfl⟩
set_option maxRecDepth 100000 in
theorem bWrite_used (B b:Nat)(bs:List Value)(ad:Addr)(m c:Nat)(news:List Value)(w:World)(h:Lib.BuilderAt 139 5 B b (.pointer (some ⟨b,0,none⟩)) bs w)
  (hl:news.length=m)(hnews:∀ j u,news[j]? = some u→w.cell? (ad.add j)=some u)(h1:∀ u∈news,u.oneCell'=true)(hlen:bs.length+m≤140737488355328)(hBw:B≤w.heap.size) :
  Calls prog 244 #[.pointer (some ⟨b,0,none⟩),.slice (some ad) m c] w fun e w'=>e= .returned (.tuple #[.int .i64 m,.nilIface])∧(Lib.BuilderAt 139 5 B b (.pointer (some ⟨b,0,none⟩)) (bs++news) w'∧Below B w w'):=by
 obtain⟨F,G,o,y,x⟩:=info_parts Z2n
 have q:=bCheck_used b w h.cell0
 obtain⟨z,v,f,l,r⟩:=h
 have J:w.cell? ⟨b,0,none⟩=some (.pointer (some ⟨b,0,none⟩)):=by rw [Lib.cell_of_heap f];rfl
 have L:w.cell? ⟨b,1,none⟩=some v:=by rw [Lib.cell_of_heap f];rfl
 go_enter func244,ntmps244
 go_wp2_with fail
 refine q.mono ?_
 rintro e E ⟨rfl,rfl⟩
 go_wp2_with (at_builtin;refine wpList_append_own _ rfl _ _ 90 rfl B 5 F (.int .u8 0) 1 1 underlying90 G o y x rfl (by decide) _ _ _ rfl l ad m c news rfl (by omega) hnews h1 ?c3 ?c4 ?c5 ?_)
 case c3=>unfold maxLen;omega
 case c4=>omega
 case c5=>exact hBw
 intro D s d a _
 have t:=lt_of_block f
 have i:s.heap[b]? = some (.cells #[.pointer (some ⟨b,0,none⟩),v] 139 (0,0)):=by
  rw [a.block b t (fun e=>r e.symm)]
  exact f
 have K:s.cell? ⟨b,0,none⟩=some (.pointer (some ⟨b,0,none⟩)):=by rw [Lib.cell_of_heap i];rfl
 have I:s.cell? ⟨b,1,none⟩=some v:=by rw [Lib.cell_of_heap i];rfl
 have H:=Lib.frozen_of_heap i 1
 obtain⟨C,A,n,rfl⟩:∃ C A n,D= .slice C A n:=by
  rcases d.2 with ⟨hv,_⟩ | ⟨g,n,cur,hv,_⟩
  ·exact⟨_,_,_,hv⟩
  ·exact⟨_,_,_,hv⟩
 go_wp2
 go_ret2
 refine⟨rfl,?_,?_⟩
 ·exact Lib.BuilderAt.put (T:=139) (e:=5) z i (bs':=bs++news) (by simpa [hl] using d) (by decide)
 ·exact ((Below.refl B E).grown a hBw (fun k hk=>(l.lt k hk).1)).setCell (p:=⟨b,1,none⟩) z _
end
end Bx
namespace Bx
theorem Z7S (s:ByteArray):strN (Z00 s)=s:=by
 unfold strN strOfNums Z00
 rw [List.map_map,List.map_map]
 have:((fun (n:Int)=>UInt8.ofNat n.toNat) ∘ (fun (x:Nat)=>(x:Int))) ∘ (fun (x:UInt8)=>x.toNat)=id:=by
  funext x
  simp
 rw [this,List.map_id]
theorem byV_cells (l:List Nat)(h:Z03 l):byV l=Lib.byteCells (l.map UInt8.ofNat):=by
 unfold byV Lib.byteCells
 rw [List.map_map]
 refine List.map_congr_left fun x hx=> ?_
 have:=h x hx
 simp [Function.comp]
 omega
theorem strN_cells (l:List Nat):(⟨(l.map UInt8.ofNat).toArray⟩:ByteArray)=strN l:=by
 unfold strN strOfNums
 rw [List.map_map]
 rfl
def Z54 (s:S16)(a:Nat)(l:List Nat):List Nat:=(List.range l.length).map fun i=>l.getD i 0 ^^^ (blkL (s.at (a+i/64))).getD (i%64) 0
def xorL (n:Nat)(u b:List Nat):List Nat:=(List.range n).map fun i=>u.getD i 0 ^^^ b.getD i 0
theorem Z6r (s:S16)(a:Nat)(l:List Nat):(Z54 s a l).length=l.length:=by simp [Z54]
theorem Z0a (n:Nat)(u b:List Nat):(xorL n u b).length=n:=by simp [xorL]
theorem xor_byte {a b:Nat}(ha:a<256)(hb:b<256):a ^^^ b<256:=Nat.xor_lt_two_pow (n:=8) ha hb
theorem Z7T (s:S16)(a:Nat)(l:List Nat)(h:Z03 l):Z03 (Z54 s a l):=fun x hx=>by
 obtain⟨i,_,rfl⟩:=List.mem_map.1 hx
 exact xor_byte (Z0k (by decide) h _) (Z0k (by decide) (Z4A _) _)
theorem strmL_step (s:S16)(a:Nat)(l:List Nat)(q p n:Nat)(hp:p=64*q)(hn:n≤64)(hl:p+n≤l.length):(Z54 s a l).take (p+n)=(Z54 s a l).take p++xorL n (l.drop p) (blkL (s.at (a+q))):=by
 rw [List.take_add]
 congr 1
 refine List.ext_getElem? fun i=> ?_
 by_cases b:i<n
 ·rw [List.getElem?_take,if_pos b,List.getElem?_drop,Z54,xorL,List.getElem?_map,List.getElem?_map,List.getElem?_range (by omega),List.getElem?_range b]
  have d:(p+i)/64=q:=by omega
  have c:(p+i)%64=i:=by omega
  simp only [Option.map_some,d,c]
  congr 2
  rw [List.getD_eq_getElem?_getD,List.getD_eq_getElem?_getD,List.getElem?_drop]
 ·rw [List.getElem?_eq_none (by simp;omega),List.getElem?_eq_none (by rw [Z0a];omega)]
theorem chaS_strm (K N:List Nat)(a:Nat)(l:List Nat):chaS K N a l=Z54 (st16 K N 0) a l:=rfl
def pieF (u b:List Nat)(i k:Nat):Value:= .int .u8 ((if k<i then u.getD k 0 ^^^ b.getD k 0 else u.getD k 0:Nat):Int)
theorem pieF_step (u b:List Nat)(i k:Nat):(if k=i then Value.int .u8 ((u.getD i 0 ^^^ b.getD i 0:Nat):Int) else pieF u b i k)=pieF u b (i+1) k:=by
 unfold pieF
 by_cases e:k=i
 ·subst e
  rw [if_pos rfl,if_pos (by omega)]
 ·rw [if_neg e]
  by_cases h:k<i
  ·rw [if_pos h,if_pos (by omega)]
  ·rw [if_neg h,if_neg (by omega)]
theorem pieF_at (u b:List Nat)(i:Nat):pieF u b i i= .int .u8 (u.getD i 0:Nat):=by
 unfold pieF
 rw [if_neg (by omega)]
theorem pie_take (u b:List Nat)(n:Nat)(hn:n≤64):(rowF 64 (pieF u b 64)).take n=byV (xorL n u b):=by
 refine List.ext_getElem? fun i=> ?_
 by_cases a:i<n
 ·rw [List.getElem?_take,if_pos a,Z4u _ _ _ (by omega),byV,xorL,List.map_map,List.getElem?_map,List.getElem?_range a]
  simp [pieF,show i<64 by omega]
 ·rw [List.getElem?_eq_none (by simp [Z21];omega),List.getElem?_eq_none (by simp [byV,Z0a];omega)]
theorem pie_start (u b:List Nat)(h:u.length≤64):byV u++byV (List.replicate (64-u.length) 0)=rowF 64 (pieF u b 0):=by
 refine List.ext_getElem? fun i=> ?_
 by_cases a:i<64
 ·rw [Z4u _ _ _ a]
  by_cases c:i<u.length
  ·rw [List.getElem?_append_left (by simp [byV];omega),Z0s _ _ c]
   simp [pieF]
  ·rw [List.getElem?_append_right (by simp [byV];omega),Z0s _ _ (by simp [byV];omega)]
   simp only [pieF,byV,List.length_map]
   rw [Z0W u _ (by omega),List.getD_eq_getElem?_getD,List.getElem?_replicate]
   split <;> simp
 ·rw [List.getElem?_eq_none (by simp [byV];omega),List.getElem?_eq_none (by rw [Z21];omega)]
theorem extract_more (s:ByteArray)(p q:Nat):(s.extract p s.size).extract q (s.extract p s.size).size=s.extract (p+q) s.size:=by
 rw [ByteArray.extract_extract]
 congr 1
 simp
 omega
theorem bld_below {T e B b:Nat}{p:Value}{bs:List Value}{w w':World}{C:Nat}(h:Lib.BuilderAt T e B b p bs w)(hb:Below C w w')(hC:w.heap.size≤C):Lib.BuilderAt T e B b p bs w':=by
 obtain⟨g,v,c,a,d⟩:=h
 have f:b<w.heap.size:=lt_of_block c
 refine⟨g,v,(hb.block b (by omega)).trans c,a.kept (row:=none) ⟨hb.os,hb.tape,hb.output,hb.size,fun k hk _=>hb.block k (by omega)⟩ ?_,d⟩
 by_cases e:v.ownBlock=none
 ·exact .inl e
 ·exact .inr e
structure StrmAt (w wr:World) (g:Nat) (s:S16) (a:Nat) (l:List Nat) (p:Nat):Prop where
 bld:Lib.BuilderAt 139 5 w.heap.size w.heap.size (.pointer (some ⟨w.heap.size,0,none⟩)) (byV ((Z54 s a l).take p)) wr
 st:Row wr g 331 (wdV s.toL)
 low:g<w.heap.size
 bel:Below w.heap.size w wr
set_option maxRecDepth 10000 in
theorem stream_any (s:S16)(hs:s.ok)(a:Nat)(text:ByteArray)(ha:a+(text.size+63)/64≤4294967296)(ht:text.size≤1048576)(g:Nat)(w:World)(hr:Row w g 331 (wdV s.toL)) :
  Calls prog 235 #[.pointer (some ⟨g,0,none⟩),.int .i64 a,.string text] w fun e w'=>e= .returned (.string (strN (Z54 s a (Z00 text))))∧Below w.heap.size w w':=by
 have hg:=hr.lt
 have ax:=Z01 text
 have av:=Z04 text
 have hG:=fun o=>bGrow_fresh w.heap.size w.heap.size text.size (w.alloc (.cells #[.pointer none,.slice none 0 0] o)) (Nat.le_refl _)
 have ak:∀ o,Row (w.alloc o) g 331 (wdV s.toL):=fun o=>(Below.heap_alloc w o g hg).trans hr
 go_enter func235,ntmps235
 go_wp2_with fail
 refine (hG 139 (heap_alloc_new w _) (by simp) (by omega)).mono ?_
 rintro e w1 ⟨rfl,ag,T⟩
 have ai:StrmAt w w1 g s a (Z00 text) 0:=⟨by simpa [byV] using ag,(ak _).below T hg,hg,((Below.refl _ _).alloc (Nat.le_refl _) _).trans T⟩
 clear hG ak ag T hr
 go_wp2_with fail
 go_loopw [1,2] (fun v1 v2 wr=> ∃ c q p:Nat,c=a+q∧p≤text.size∧(p=64*q∨p=text.size)∧v1= .int .i64 (c:Nat)∧v2= .string (text.extract p text.size)∧StrmAt w wr g s a (Z00 text) p) (fun _ v _=>Z2m v)
 case atStart=>exact⟨a,0,0,rfl,Nat.zero_le _,.inl rfl,rfl,by simp,ai⟩
 case round =>
  clear ai
  obtain⟨c,q,p,hc,hp,a8,rfl,rfl,E⟩:=hrel
  generalize wr=wo at *
  obtain⟨u,hu⟩:∃ u,u=text.extract p text.size:=⟨_,rfl⟩
  have a5:u.size=text.size-p:=by rw [hu];simp
  have R:Z00 u=(Z00 text).drop p:=by rw [hu,Z0h,List.take_of_length_le (by simp [Z01])]
  have W:=Z01 u
  have a2:=Z04 u
  rw [← hu]
  by_cases b4:p<text.size
  ·obtain⟨n,hn⟩:∃ n,n=min u.size 64:=⟨_,rfl⟩
   have ac:n≤64:=by omega
   have b2:0<n:=by omega
   have az:n≤u.size:=by omega
   have hq:p=64*q:=by omega
   have hx:=extract_more text p n
   rw [← hu] at hx
   have ao:c<4294967296:=by omega
   obtain⟨U,hU⟩:∃ U,U=(Z00 u).take 64:=⟨_,rfl⟩
   have V:U.length=n:=by rw [hU,List.length_take,W,hn,Nat.min_comm]
   have af:Z03 U:=by rw [hU];exact a2.take 64
   obtain⟨k,hk⟩:∃ k,k=blkL (s.at c):=⟨_,rfl⟩
   have a0:k.length=64:=by rw [hk];exact Z1x _
   have al:Z03 k:=by rw [hk];exact Z4A _
   have C:byV ((Z54 s a (Z00 text)).take p)++byV (xorL n U k)=byV ((Z54 s a (Z00 text)).take (p+n)):=by
    rw [strmL_step s a (Z00 text) q p n hq ac (by omega),Z05,← hc,← hk,← R]
    congr 2
    unfold xorL
    refine List.map_congr_left fun i hi=> ?_
    have hi:=List.mem_range.1 hi
    rw [hU,List.getD_eq_getElem?_getD (l:=(Z00 u).take 64),List.getElem?_take,if_pos (by omega),← List.getD_eq_getElem?_getD]
   obtain⟨w0,a4⟩:∃ w0,wo.alloc (.cells #[.int .u8 0,.int .u8 0,.int .u8 0,.int .u8 0,.int .u8 0,.int .u8 0,.int .u8 0,.int .u8 0,.int .u8 0,.int .u8 0,.int .u8 0,.int .u8 0,.int .u8 0,.int .u8 0,.int .u8 0,.int .u8 0,.int .u8 0,.int .u8 0,.int .u8 0,.int .u8 0,.int .u8 0,.int .u8 0,.int .u8 0,.int .u8 0,.int .u8 0,.int .u8 0,.int .u8 0,.int .u8 0,.int .u8 0,.int .u8 0,.int .u8 0,.int .u8 0,.int .u8 0,.int .u8 0,.int .u8 0,.int .u8 0,.int .u8 0,.int .u8 0,.int .u8 0,.int .u8 0,.int .u8 0,.int .u8 0,.int .u8 0,.int .u8 0,.int .u8 0,.int .u8 0,.int .u8 0,.int .u8 0,.int .u8 0,.int .u8 0,.int .u8 0,.int .u8 0,.int .u8 0,.int .u8 0,.int .u8 0,.int .u8 0,.int .u8 0,.int .u8 0,.int .u8 0,.int .u8 0,.int .u8 0,.int .u8 0,.int .u8 0,.int .u8 0] 147)=w0:=⟨_,rfl⟩
   have a1:Row w0 wo.heap.size 147 (byV (List.replicate 64 0)):=by rw [← a4];exact heap_alloc_new wo _
   have ab:Below wo.heap.size wo w0:=by rw [← a4];exact (Below.refl _ _).alloc (Nat.le_refl _) _
   obtain⟨w2,ah,b1,o1⟩:=Z5E w0 wo.heap.size 147 64 _ rfl a1 u
   rw [← hn] at ah b1
   rw [← hU] at b1
   have a6:Below wo.heap.size wo w2:=ab.trans (o1.below (Nat.le_of_lt a1.lt))
   have aa:Row w2 wo.heap.size 147 (rowF 64 (pieF U k 0)):=b1.congr (by
    rw [← pie_start U k (by omega),V,Z1l,Z1l,List.drop_replicate])
   have ay:w.heap.size<wo.heap.size:=E.bld.lt
   have F:=block_any s hs c ao g w2 (E.st.below a6 E.st.lt)
   rw [← hk] at F
   have v1:IntKind.u32.wrap (c:Int)=c:=by rw [IntKind.wrap_u32];omega
   have c1:(0:Int)<u.size:=by omega
   have b0:0<u.size:=by omega
   clear b1 o1 ab a1 hk
   obtain⟨h,A⟩:∃ h,h=(byV k).toArray:=⟨_,rfl⟩
   rw [← A] at F
   have N:h.size=64:=by rw [A];simp [byV,a0]
   have I:h.all (·.oneCell')=true:=by rw [A];simp [byV,Value.oneCell']
   have m:(prog.info? 147).map (·.size)=some h.size:=by rw [N];kernel_rfl
   have ap:Hid (h=(byV k).toArray):=A
   have HX:Hid (u.extract n u.size=text.extract (p+n) text.size∧u.size=text.size-p∧p+n≤text.size∧(p+n=64*(q+1)∨p+n=text.size)∧c+1=a+(q+1)):=⟨hx,a5,by omega,by omega,by omega⟩
   have HU:Hid (U.length=n∧Z03 U∧k.length=64∧Z03 k∧byV ((Z54 s a (Z00 text)).take p)++byV (xorL n U k)=byV ((Z54 s a (Z00 text)).take (p+n))):=⟨V,af,a0,al,C⟩
   have r:Hid (Row w2 wo.heap.size 147 (rowF 64 (pieF U k 0))∧Below wo.heap.size wo w2):=⟨aa,a6⟩
   have HS:Hid (StrmAt w wo g s a (Z00 text) p):=E
   clear A hx a5 hu R W a2 hU V af a0 al C aa a6 E a8 hq hn hc hp
   go_wp2_with fail
   refine F.mono ?_
   rintro e b ⟨rfl,O⟩
   have J:=r.out.1.lt
   have D:=r.out.1.below O J
   have Y:=r.out.2.trans (O.mono r.out.2.size)
   have a3:Row (b.alloc (.cells h 147)) b.heap.size 147 (byV k):=by rw [ap.out];exact heap_alloc_new b _
   have a7:Row (b.alloc (.cells h 147)) wo.heap.size 147 (rowF 64 (pieF U k 0)):=(Below.heap_alloc _ _ _ D.lt).trans D
   have P:=Y.alloc Y.size (.cells h 147)
   have b3:wo.heap.size<b.heap.size:=D.lt
   obtain⟨w4,aj⟩:∃ w4,(b.alloc (.cells #[.int .u8 0,.int .u8 0,.int .u8 0,.int .u8 0,.int .u8 0,.int .u8 0,.int .u8 0,.int .u8 0,.int .u8 0,.int .u8 0,.int .u8 0,.int .u8 0,.int .u8 0,.int .u8 0,.int .u8 0,.int .u8 0,.int .u8 0,.int .u8 0,.int .u8 0,.int .u8 0,.int .u8 0,.int .u8 0,.int .u8 0,.int .u8 0,.int .u8 0,.int .u8 0,.int .u8 0,.int .u8 0,.int .u8 0,.int .u8 0,.int .u8 0,.int .u8 0,.int .u8 0,.int .u8 0,.int .u8 0,.int .u8 0,.int .u8 0,.int .u8 0,.int .u8 0,.int .u8 0,.int .u8 0,.int .u8 0,.int .u8 0,.int .u8 0,.int .u8 0,.int .u8 0,.int .u8 0,.int .u8 0,.int .u8 0,.int .u8 0,.int .u8 0,.int .u8 0,.int .u8 0,.int .u8 0,.int .u8 0,.int .u8 0,.int .u8 0,.int .u8 0,.int .u8 0,.int .u8 0,.int .u8 0,.int .u8 0,.int .u8 0,.int .u8 0] 147)).setRow b.heap.size h=w4:=⟨_,rfl⟩
   have G:b.alloc (.cells h 147)=w4:=by rw [← aj,World.setRow_alloc_new]
   rw [G] at a3 a7 P
   have H4:Hid (Row w4 wo.heap.size 147 (rowF 64 (pieF U k 0))∧Row w4 b.heap.size 147 (byV k)∧Below wo.heap.size wo w4):=⟨a7,a3,P⟩
   clear O F a4 ah D Y a3 a7 P G r J
   go_wp2_with (refine wpList_store_row rfl 147 _ _ rfl b.heap.size h rfl rfl 147 _ (heap_alloc_new b _) m (by rw [N];rfl) I ?_)
   clear m I N aj
   go_loopw [25] (fun i wr=> ∃ j:Nat,j≤64∧i= .int .i64 j∧Row wr wo.heap.size 147 (rowF 64 (pieF U k j))∧Row wr b.heap.size 147 (byV k)∧Below wo.heap.size wo wr) (fun i _=>64-(intOf i).toNat)
   case atStart=>exact⟨0,Nat.zero_le _,rfl,H4.out⟩
   case round =>
    clear H4
    obtain⟨j,hj,rfl,kP,kK,f⟩:=hrel
    by_cases L:j<64
    ·have d1:=kP.cellF j L
     rw [pieF_at] at d1
     have d2:wr.cell? ⟨b.heap.size,j,none⟩=some (.int .u8 (k.getD j 0:Nat)):=by rw [kK.cell,Z0s _ _ (by rw [HU.out.2.2.1];exact L)]
     have f1:wr.frozen? ⟨wo.heap.size,j,none⟩=false:=kP.frozen _
     have au:U.getD j 0<256:=Z0k (by decide) HU.out.2.1 _
     have aq:k.getD j 0<256:=Z0k (by decide) HU.out.2.2.2.1 _
     have vx:=u8_xor_nat (U.getD j 0) (k.getD j 0) au aq
     have Z:=kP.setF j (.int .u8 ((U.getD j 0 ^^^ k.getD j 0:Nat):Int))
     have t:(rowF 64 fun i=>if i=j then Value.int .u8 ((U.getD j 0 ^^^ k.getD j 0:Nat):Int) else pieF U k j i)=rowF 64 (pieF U k (j+1)):=Z10 fun i _=>pieF_step U k j i
     rw [t] at Z
     clear t
     generalize hy:U.getD j 0 ^^^ k.getD j 0=y at *
     generalize U.getD j 0=x1 at *
     generalize k.getD j 0=x2 at *
     clear hy
     have a9:Row (wr.setCell ⟨wo.heap.size,j,none⟩ (.int .u8 (y:Int))) b.heap.size 147 (byV k):=(Below.heap_setCell _ _ _ _ (by simp;omega)).trans kK
     have H:=f.setCell (p:=⟨wo.heap.size,j,none⟩) (Nat.le_refl _) (.int .u8 (y:Int))
     have HR:Hid (Row (wr.setCell ⟨wo.heap.size,j,none⟩ (.int .u8 (y:Int))) wo.heap.size 147 (rowF 64 (pieF U k (j+1)))∧Row (wr.setCell ⟨wo.heap.size,j,none⟩ (.int .u8 (y:Int))) b.heap.size 147 (byV k)∧Below wo.heap.size wo (wr.setCell ⟨wo.heap.size,j,none⟩ (.int .u8 (y:Int)))):=⟨Z,a9,H⟩
     have i1:(j:Int)<64:=by omega
     clear kP kK f Z a9 H
     go_wp2_with fail
     go_region_with (fail)
     all_goals
      go_wp2
      go_roundw
      case rel=>exact⟨j+1,by omega,by go_num,HR.out.1,HR.out.2.1,HR.out.2.2.drew⟩
      case measure=>simp [intOf];omega
    ·obtain rfl:j=64:=by omega
     have K:=bld_below HS.out.bld f (Nat.le_refl _)
     have t:=HS.out.st.below f HS.out.st.lt
     have B:=HS.out.bel.trans (f.mono HS.out.bel.size)
     have d:∀ i u,(byV (xorL n U k))[i]? = some u→wr.cell? ((⟨wo.heap.size,0,none⟩:Addr).add i)=some u:=fun i u hiu=>by
      have ae:(⟨wo.heap.size,0,none⟩:Addr).add i=⟨wo.heap.size,i,none⟩:=by unfold Addr.add;split <;> simp_all
      rw [ae,kP.cell]
      rw [← pie_take U k n ac,List.getElem?_take] at hiu
      split at hiu
      ·exact hiu
      ·cases hiu
     have S:=bWrite_used w.heap.size w.heap.size _ ⟨wo.heap.size,0,none⟩ n 64 (byV (xorL n U k)) wr K (by simp [byV,Z0a]) d (fun v hv=>by
      obtain⟨x,_,rfl⟩:=List.mem_map.1 hv
      rfl) (by simp [byV,Z6r,ax];omega) (by have:=B.size;omega)
     rw [HU.out.2.2.2.2] at S
     have HW:Hid (Row wr g 331 (wdV s.toL)∧Below w.heap.size w wr):=⟨t,B⟩
     have i1:(n:Int)≤64:=by omega
     have i2:(n:Int)≤u.size:=by omega
     have i3:IntKind.i64.wrap ((c:Int)+1)=c+1:=by rw [IntKind.wrap_i64];omega
     clear kP kK f K t B d HU ap
     rw [show ((64:Nat):Int)=64 from rfl]
     go_wp2_with fail
     refine S.mono ?_
     rintro e w5 ⟨rfl,ad,X⟩
     have aw:StrmAt w w5 g s a (Z00 text) (p+n):=⟨ad,HW.out.1.below X hg,hg,HW.out.2.trans X⟩
     clear S ad X HW HS
     go_wp2
     go_roundw
     case rel=>exact⟨c+1,q+1,p+n,HX.out.2.2.2.2,HX.out.2.2.1,HX.out.2.2.2.1,by go_num,by rw [HX.out.1],aw⟩
     case measure=>simp [Z2m];have:=HX.out.2.1;omega
  ·have b5:p=text.size:=by omega
   have hz:u.size=0:=by omega
   have c1:¬ (0:Int)<u.size:=by omega
   have M:(Z54 s a (Z00 text)).take p=Z54 s a (Z00 text):=List.take_of_length_le (by rw [Z6r];omega)
   have z:=E.bld
   rw [M,byV_cells _ (Z7T s a _ av)] at z
   have Q:=bString_any w.heap.size w.heap.size _ wo (.inr z) (by have:=E.bel.size;omega)
   rw [strN_cells] at Q
   have HB:Hid (Below w.heap.size w wo):=E.bel
   clear E M z R a2 W hu a5 a8 hc
   go_wp2_with fail
   refine Q.mono ?_
   rintro e w2 ⟨rfl,ar⟩
   clear Q
   go_wp2
   go_ret
   exact⟨rfl,HB.out.trans ar⟩
def strmB (at_:Int)(n:Nat):Prop:=at_<0∨4294967295<at_∨4294967296-at_<((n+63)/64:Nat)
instance (at_:Int) (n:Nat):Decidable (strmB at_ n):=inferInstanceAs (Decidable (_∨_∨_))
def Z5J (key nonce:ByteArray)(at_:Int)(s:ByteArray):Nat:=if ¬ (key.size=32∧nonce.size=12) then 1 else if strmB at_ s.size then 2 else 0
def strmS (key nonce:ByteArray)(at_:Int)(s:ByteArray):ByteArray:=if Z5J key nonce at_ s=0 then strN (chaS (Z00 key) (Z00 nonce) at_.toNat (Z00 s)) else ⟨#[]⟩
theorem st16_ok (key nonce:ByteArray)(n:Nat)(hn:n<4294967296):(st16 (Z00 key) (Z00 nonce) n).ok:=by
 have a:∀ (s:ByteArray) i,Z0w (Z00 s) i<4294967296:=fun s i=>by
  have d:=Z0k (by decide) (Z04 s) i
  have e:=Z0k (by decide) (Z04 s) (i+1)
  have c:=Z0k (by decide) (Z04 s) (i+2)
  have b:=Z0k (by decide) (Z04 s) (i+3)
  unfold Z0w
  omega
 simp [S16.ok,S16.toL,st16,a,hn]
theorem chaS_get (K N:List Nat)(a:Nat)(l:List Nat)(i:Nat)(h:i<l.length):(chaS K N a l).getD i 0=l.getD i 0 ^^^ (chaL K N (a+i/64)).getD (i%64) 0:=by
 rw [List.getD_eq_getElem?_getD,chaS,List.getElem?_map,List.getElem?_range h]
 rfl
theorem chaS_twice (K N:List Nat)(a:Nat)(l:List Nat):chaS K N a (chaS K N a l)=l:=by
 refine List.ext_getElem? fun i=> ?_
 by_cases h:i<l.length
 ·conv=>lhs;rw [chaS]
  rw [List.getElem?_map,List.getElem?_range (by rw [Z23];exact h),Option.map_some,chaS_get K N a l i h,Nat.xor_assoc,Nat.xor_self,Nat.xor_zero,Z0b _ _ h,List.getElem?_eq_getElem h]
 ·rw [List.getElem?_eq_none (by rw [Z23,Z23];omega),List.getElem?_eq_none (by omega)]
theorem Z67 (K N:List Nat)(a:Nat)(l:List Nat)(h:Z03 l):Z03 (chaS K N a l):=Z7T (st16 K N 0) a l h
end Bx
end Go.Proofs.YtijpgmkdnemmbaaGreatDoor
