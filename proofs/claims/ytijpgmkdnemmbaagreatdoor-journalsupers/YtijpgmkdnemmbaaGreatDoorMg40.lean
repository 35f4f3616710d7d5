/- Part 40. -/
import Derived.Lib.ConvBytes
import Derived.Laws.IdiomCopy
import Derived.Deep.Upon
import Derived.Test.YtijpgmkdnemmbaaGreatDoorMg39
set_option maxRecDepth 20000
set_option maxHeartbeats 8000000
open Go.RowKit Go.Proofs.Tryz
namespace Go.Proofs.YtijpgmkdnemmbaaGreatDoor
namespace Sm
structure OwnC (w:World) (base g n cap:Nat) (xs:List Value):Prop where
 len:xs.length=n
 low:base≤g
 lt:g<w.heap.size
 room:n≤cap
 most:cap≤maxLen
 there:∀ i,i<cap→(w.cell? ⟨g,i,none⟩).isSome=true
 free:∀ i,i<cap→w.frozen? ⟨g,i,none⟩=false
 cells:∀ i u,xs[i]? = some u→w.cell? ⟨g,i,none⟩=some u
theorem OwnC.kept {w w':World}{base g n cap:Nat}{xs:List Value}(h:OwnC w base g n cap xs)(hb:w'.heap[g]? = w.heap[g]?)(hs:w.heap.size≤w'.heap.size):OwnC w' base g n cap xs :=
 ⟨h.len,h.low,Nat.lt_of_lt_of_le h.lt hs,h.room,h.most,fun i hi=>by rw [World.cell?_of_block (a:=⟨g,i,none⟩) hb];exact h.there i hi,fun i hi=>by rw [World.frozen?_of_block (a:=⟨g,i,none⟩) hb];exact h.free i hi,fun i u hu=>by rw [World.cell?_of_block (a:=⟨g,i,none⟩) hb];exact h.cells i u hu⟩
theorem OwnC.alloc {w:World}{base g n cap:Nat}{xs:List Value}(h:OwnC w base g n cap xs)(o:Obj):OwnC (w.alloc o) base g n cap xs:=h.kept (Below.heap_alloc w o g (by have:=h.lt;omega)) (by simp)
theorem OwnC.below {w w':World}{base g n cap B:Nat}{xs:List Value}(h:OwnC w base g n cap xs)(hb:Below B w w')(hg:g<B):OwnC w' base g n cap xs:=h.kept (hb.block g hg) hb.size
theorem OwnC.append {P:Program}(w:World)(base:Nat)(t ty e:TypeId)(i:TypeInfo)(z:Value)(bytes:Nat)(ht:P.underlying t=some (.slice e))(hi:P.info? e=some i)(hz:i.zero=some z)
  (hsize:i.size=1)(hby:i.bytes=bytes)(hzs:z.cells.size=1)
  (g n cap:Nat)(xs:List Value)(hown:OwnC w base g n cap xs)
  (a:Addr)(m c:Nat)(news:List Value)(hl:news.length=m)(hnews:∀ j u,news[j]? = some u→w.cell? (a.add j)=some u)(h1:∀ u∈news,u.oneCell'=true)
  (h63:n+m≤maxLen)(hbytes:(n+m)*bytes≤140737488355328)(hbase:base≤w.heap.size) :
  ∃ g' cap' w',(Builtin.append_ #[t,t] ty #[.slice (some ⟨g,0,none⟩) n cap,.slice (some a) m c]).run P w= .ok (.slice (some ⟨g',0,none⟩) (n+m) cap') w'∧OwnC w' base g' (n+m) cap' (xs++news)∧w.grownBy w' (some g)∧(g'=g∨g'=w.heap.size):=by
 subst hby
 have r:=hown.len
 have l:(xs++news).length=n+m:=by rw [List.length_append];omega
 by_cases b:n+m≤cap
 ·have y:=run_firstCells_some (P:=P) w i.size m a m c news (by rw [hsize];omega) hnews
  have q:=run_storeCells_cells (P:=P) g n news 0 w (fun j hj=>by simpa using hown.there (n+j) (by omega)) (fun j hj=>by simpa using hown.free (n+j) (by omega)) h1
  rw [Nat.add_zero] at q
  have f:=World.cell?_setCells_in g news n w (fun j hj=>hown.there (n+j) (by omega))
  refine⟨g,cap,w.setCells g n news,?_,⟨l,hown.low,?_,b,hown.most,fun i hi=> ?_,fun i hi=> ?_,fun i u hu=> ?_⟩,⟨World.os_setCells _ _ _ _,?_,World.output_setCells _ _ _ _,?_,fun k hk hne=> ?_⟩,.inl rfl⟩
  ·rw [hsize] at y
   simp [Builtin.append_,run_underlying ht,sizeOf,typeInfo,hi,Builtin.lenOf,b,y,Addr.add_lit,q,hsize]
  ·exact Nat.lt_of_lt_of_le hown.lt (Only.setCells news n w (Only.refl g w)).size
  ·by_cases x:n≤i∧i<n+news.length
   ·have:=f (i-n) (by omega)
    rw [show n+(i-n)=i by omega] at this
    rw [this];rfl
   ·rw [World.cell?_setCells_out g news n w ⟨g,i,none⟩ (fun _ _=>by show i<n∨n+news.length≤i;omega)]
    exact hown.there i hi
  ·rw [World.frozen?_setCells];exact hown.free i hi
  ·by_cases x:i<n
   ·rw [World.cell?_setCells_out g news n w ⟨g,i,none⟩ (fun _ _=>by show i<n∨_;omega)]
    rw [List.getElem?_append_left (by omega)] at hu
    exact hown.cells i u hu
   ·rw [List.getElem?_append_right (by omega)] at hu
    have B:=(List.getElem?_eq_some_iff.1 hu).1
    have:=f (i-n) (by omega)
    rw [show n+(i-n)=i by omega] at this
    rw [this,← hu,r,List.getElem?_eq_getElem]
  ·exact (Only.setCells news n w (Only.refl g w)).1.tape
  ·exact (Only.setCells news n w (Only.refl g w)).size
  ·exact (Only.setCells news n w (Only.refl g w)).2 k hk (fun e=>hne (by rw [e]))
 ·have o:∀ j u,xs[j]? = some u→w.cell? ((⟨g,0,none⟩:Addr).add j)=some u:=fun j u hu=>by
   have p:(⟨g,0,none⟩:Addr).add j=⟨g,j,none⟩:=by unfold Addr.add;split <;> simp_all
   rw [p];exact hown.cells j u hu
  have h:=run_append_grow (P:=P) w t ty e i z ht hi hz ⟨g,0,none⟩ n cap xs (by rw [hsize];omega) o a m c news (by rw [hsize];omega) hnews (by omega) (by unfold maxLen at h63;omega) (growslice_fits (by omega) hbytes)
  have s:=grownCap_ge w (n+m) cap e
  have v:grownCap w (n+m) cap e≤maxLen:=grownCap_le_maxLen w (n+m) cap e h63
  have d:(w.drew.alloc (.cells (xs.toArray++news.toArray++Builtin.zeroCells z.cells (grownCap w (n+m) cap e-(n+m))) e)).heap[w.heap.size]? = some (.cells (xs.toArray++news.toArray++Builtin.zeroCells z.cells (grownCap w (n+m) cap e-(n+m))) e (0,0)):=heap_alloc_new w.drew _
  have A:(xs.toArray++news.toArray++Builtin.zeroCells z.cells (grownCap w (n+m) cap e-(n+m))).size=grownCap w (n+m) cap e:=by
   rw [Array.size_append,Array.size_append,List.size_toArray,List.size_toArray,size_zeroCells,hzs];omega
  refine⟨w.heap.size,_,_,h,⟨l,hbase,by simp,s,v,fun i hi=> ?_,fun i _=> ?_,fun i u hu=> ?_⟩,⟨rfl,rfl,rfl,by simp,fun k hk _=>Below.heap_alloc w.drew _ k (by have:w.drew.heap.size=w.heap.size:=rfl;omega)⟩,.inr rfl⟩
  ·rw [cell_of_row _ _ _ _ _ _ d,Array.getElem?_eq_getElem (by omega)];rfl
  ·simp only [World.frozen?,d];simp
  ·rw [cell_of_row _ _ _ _ _ _ d,Array.getElem?_append_left (by have:=(List.getElem?_eq_some_iff.1 hu).1;simp at this ⊢;omega)]
   simpa using hu
theorem Z0C {P:Program}(w:World){ops:Array Oper}{rest:List Oper}{o:Oper}{a:Act}{Q:Exit→Act→World→Prop}(hgd:o.guard=none)(s x:Operand)(t:TypeId)
  (ho:o.op= .call { callee:= .builtin .append,args:=#[s,x],argTypes:=#[t,t]})
  (base:Nat)(e:TypeId)(i:TypeInfo)(z:Value)(bytes:Nat)(ht:P.underlying t=some (.slice e))(hi:P.info? e=some i)(hz:i.zero=some z)
  (hsize:i.size=1)(hby:i.bytes=bytes)(hzs:z.cells.size=1)
  (g n cap:Nat)(xs:List Value)(hs:a.eval s= .slice (some ⟨g,0,none⟩) n cap)(hown:OwnC w base g n cap xs)
  (ad:Addr)(m c:Nat)(news:List Value)(hx:a.eval x= .slice (some ad) m c)(hl:news.length=m)(hnews:∀ j u,news[j]? = some u→w.cell? (ad.add j)=some u)(h1:∀ u∈news,u.oneCell'=true)
  (h63:n+m≤maxLen)(hbytes:(n+m)*bytes≤140737488355328)(hbase:base≤w.heap.size)
  (h:∀ g' cap' w',OwnC w' base g' (n+m) cap' (xs++news)→w.grownBy w' (some g)→(g'=g∨g'=w.heap.size)→wpList P ops Q rest (a.put o.dst (.slice (some ⟨g',0,none⟩) (n+m) cap')) w'):wpList P ops Q (o :: rest) a w:=by
 refine wpList_plain hgd fun K hK=> ?_
 obtain⟨g',cap',w',b,f,d,k⟩:=OwnC.append (P:=P) w base t o.type e i z bytes ht hi hz hsize hby hzs g n cap xs hown ad m c news hl hnews h1 h63 hbytes hbase
 unfold Oper.wp execOp
 simp only [ho,resolve,invoke,builtin,Sem.run_bind,Sem.run_pure,Result.andThen_ok,List.map_toArray,List.map_cons,List.map_nil,hs,hx,b]
 exact hK _ _ (h g' cap' w' f d k)
theorem Z20 (w:World)(e:TypeId)(s:ByteArray):Below w.heap.size w (Lib.bytesWorld w e s) :=
 ⟨rfl,rfl,rfl,by rw [Lib.bytesWorld_size];omega,fun k hk=>Lib.bytesWorld_at_old w e s k hk⟩
theorem Z2v (w:World)(e:TypeId)(s:ByteArray)(hs:s.size≤maxLen):OwnC (Lib.bytesWorld w e s) w.heap.size w.heap.size s.size (grownCap w s.size 0 e) (s.data.toList.map fun x=>Value.int .u8 (x.toNat:Int)):=by
 have d:=grownCap_ge w s.size 0 e
 have a:=Lib.bytesWorld_at_new w e s
 have c:(Lib.bytesCells w e s).size=grownCap w s.size 0 e:=by simp [Lib.bytesCells];omega
 refine⟨by simp,Nat.le_refl _,by rw [Lib.bytesWorld_size];omega,d,grownCap_le_maxLen w s.size 0 e hs,fun i hi=> ?_,fun i hi=> ?_,fun i u hu=> ?_⟩
 ·rw [cell_of_row _ _ _ _ _ _ a,Array.getElem?_eq_getElem (by omega)];rfl
 ·simp [World.frozen?,a,c];omega
 ·have b:=(List.getElem?_eq_some_iff.1 hu).1
  simp only [List.length_map,Array.length_toList] at b
  have f:i<s.size:=by simpa using b
  rw [Lib.bytesWorld_cell w e s i f,← hu]
  simp [List.getD,f]
theorem Z2n:(prog.info? 5).map (fun i=>(i.zero,i.size,i.bytes))=some (some (.int .u8 0),1,1):=by kernel_rfl
theorem numsV (s:ByteArray):(s.data.toList.map fun x=>Value.int .u8 (x.toNat:Int))=byV (Z00 s):=by simp [byV,Z00]
def sliceLen:Value→Nat
 | .slice _ n _=>n
 | _=>0
set_option maxRecDepth 10000 in
theorem filled_any (s:ByteArray)(hs:s.size<1099511627776)(w:World) :
  Calls prog 131 #[.string s] w fun e w'=> ∃ g cap,e= .returned (.slice (some ⟨g,0,none⟩) (Z2H (Z00 s)).length cap)∧OwnC w' w.heap.size g (Z2H (Z00 s)).length cap (byV (Z2H (Z00 s)))∧Below w.heap.size w w':=by
 obtain⟨N,O,r,z,y⟩:=info_parts Z2n
 have J:=fun w'=>Lib.run_convert_string_bytes (P:=prog) w' 9 90 5 s underlying9 underlying90 underlying5
 have M:=Z2v w 5 s (by unfold maxLen;omega)
 rw [numsV] at M
 have S:=Z20 w 5 s
 have B:Hid (OwnC (Lib.bytesWorld w 5 s) w.heap.size w.heap.size s.size (grownCap w s.size 0 5) (byV (Z00 s))∧Below w.heap.size w (Lib.bytesWorld w 5 s)):=⟨M,S⟩
 clear M S
 go_enter func131,ntmps131
 go_wp2_with (at_builtin;refine Z0C _ rfl _ _ 90 rfl w.heap.size 5 N (.int .u8 0) 1 underlying90 O r z y rfl w.heap.size s.size (grownCap w s.size 0 5) (byV (Z00 s)) rfl (B.out.1.alloc _) ⟨(Lib.bytesWorld w 5 s).heap.size,0,none⟩ 1 1 [.int .u8 128] rfl rfl (World.news_of_block (heap_alloc_new _ _)) ?c2 ?c3 ?c4 ?c5 ?_)
 case c2=>intro u q;rw [List.mem_singleton] at q;rw [q];rfl
 case c3=>unfold maxLen;omega
 case c4=>omega
 case c5=>have:=B.out.2.size;simp;omega
 intro W C w1 o l _
 have F:Below w.heap.size w w1:=(B.out.2.alloc B.out.2.size _).grown l (by have:=B.out.2.size;simp;omega) (fun k H=>by obtain rfl:w.heap.size=k:=(by simpa using H);exact Nat.le_refl _)
 clear l B J
 go_wp2_with fail
 go_loopw [3] (fun v wr=> ∃ j g cap:Nat,j≤lack s.size∧v= .slice (some ⟨g,0,none⟩) (s.size+1+j) cap∧OwnC wr w.heap.size g (s.size+1+j) cap (byV (Z00 s++128 :: List.replicate j 0))∧Below w.heap.size w wr) (fun v _=>s.size+100-sliceLen v)
 case atStart=>exact⟨0,W,C,Nat.zero_le _,rfl,by rw [Z05];exact o,F⟩
 case round =>
  clear o F
  obtain⟨j,g,cap,Y,rfl,a,f⟩:=hrel
  by_cases p:j<lack s.size
  ·have t:(((s.size:Int)+1+(j:Int))%64 != 56)=true:=by rw [bne_iff_ne];unfold lack at p;omega
   have V:j<64:=by unfold lack at p;omega
   go_wp2_with (at_builtin;refine Z0C _ rfl _ _ 90 rfl w.heap.size 5 N (.int .u8 0) 1 underlying90 O r z y rfl g (s.size+1+j) cap (byV (Z00 s++128 :: List.replicate j 0)) rfl (a.alloc _) ⟨wr.heap.size,0,none⟩ 1 1 [.int .u8 0] rfl rfl (World.news_of_block (heap_alloc_new _ _)) ?c2 ?c3 ?c4 ?c5 ?_)
   case c2=>intro u q;rw [List.mem_singleton] at q;rw [q];rfl
   case c3=>unfold maxLen;omega
   case c4=>omega
   case c5=>have:=f.size;simp;omega
   intro E d w2 c b _
   have m:=a.low
   have A:Below w.heap.size w w2:=(f.alloc f.size _).grown b (by have:=f.size;simp;omega) (fun k H=>by obtain rfl:g=k:=(by simpa using H);exact m)
   have h:OwnC w2 w.heap.size E (s.size+1+(j+1)) d (byV (Z00 s++128 :: List.replicate (j+1) 0)):=by
    have e:byV (Z00 s++128 :: List.replicate (j+1) 0)=byV (Z00 s++128 :: List.replicate j 0) ++ [.int .u8 0]:=by
     rw [List.replicate_succ',Z05,Z05]
     simp [byV]
    rw [e]
    exact c
   clear a c b f
   go_wp2
   go_roundw
   case rel=>exact⟨j+1,E,d,by omega,rfl,h,A⟩
   case measure=>simp [sliceLen];omega
  ·obtain rfl:j=lack s.size:=by omega
   have t:(((s.size:Int)+1+(lack s.size:Int))%64 != 56)=false:=by
    have:((s.size:Int)+1+(lack s.size:Int))%64=56:=by unfold lack;omega
    rw [this];rfl
   have Q:lack s.size<64:=by unfold lack;omega
   have I:Hid (byV (Z2H (Z00 s))=byV (Z00 s++128 :: List.replicate (lack s.size) 0)++beV 8 (8*s.size)∧(Z2H (Z00 s)).length=s.size+1+lack s.size+8):=by
    refine⟨?_,?_⟩
    ·rw [Z2H,Z01,Z05,beV8]
    ·rw [Z2H,List.length_append,List.length_append,List.length_cons,List.length_replicate,Z2r,Z01];omega
   obtain⟨n,G⟩:∃ n,n=s.size+1+lack s.size:=⟨_,rfl⟩
   obtain⟨L,K⟩:∃ L,L=Z00 s++128 :: List.replicate (lack s.size) 0:=⟨_,rfl⟩
   rw [← K,← G] at a
   rw [← K,← G] at I
   rw [← G]
   have T:((n:Int)%64 != 56)=false:=by rw [G];simpa using t
   have X:n<1099511627776+65:=by omega
   clear t K G Q Y p
   have Z:IntKind.i64.wrap (8*(s.size:Int))=8*s.size:=by rw [IntKind.wrap_i64];omega
   go_wp2_with fail
   go_loopw [3,5] (fun v i wr=> ∃ k g cap:Nat,k≤8∧i= .int .i64 (56-8*(k:Int))∧v= .slice (some ⟨g,0,none⟩) (n+k) cap∧OwnC wr w.heap.size g (n+k) cap (byV L++(beV 8 (8*s.size)).take k)∧Below w.heap.size w wr) (fun _ i _=>(intOf i+8).toNat)
   case atStart=>exact⟨0,g,cap,by decide,rfl,rfl,by simpa using a,f⟩
   case round =>
    clear a f
    obtain⟨k,g,cap,H,rfl,rfl,a,f⟩:=hrel
    by_cases p:k<8
    ·have U:8*(k:Int)≤56:=by omega
     go_wp2_with (at_builtin;refine Z0C _ rfl _ _ 90 rfl w.heap.size 5 N (.int .u8 0) 1 underlying90 O r z y rfl g (n+k) cap (byV L++(beV 8 (8*s.size)).take k) rfl (a.alloc _) ⟨wr.heap.size,0,none⟩ 1 1 [.int .u8 (8*(s.size:Int)/2 ^ (56-8*k)%256)] rfl rfl (World.news_of_block (heap_alloc_new _ _)) ?c6 ?c7 ?c8 ?c9 ?_)
     case c6=>intro u q;rw [List.mem_singleton] at q;rw [q];rfl
     case c7=>unfold maxLen;omega
     case c8=>omega
     case c9=>have:=f.size;simp;omega
     intro E d w2 c b _
     have m:=a.low
     have A:Below w.heap.size w w2:=(f.alloc f.size _).grown b (by have:=f.size;simp;omega) (fun x hx=>by obtain rfl:g=x:=(by simpa using hx);exact m)
     have h:OwnC w2 w.heap.size E (n+(k+1)) d (byV L++(beV 8 (8*s.size)).take (k+1)):=by
      have D:(beV 8 (8*s.size)).length=8:=by simp [beV]
      have e:(beV 8 (8*s.size)).take (k+1)=(beV 8 (8*s.size)).take k ++ [.int .u8 (8*(s.size:Int)/2 ^ (56-8*k)%256)]:=by
       rw [List.take_succ_eq_append_getElem (by omega)]
       have:8*(8-1-k)=56-8*k:=by omega
       simp [beV]
       congr 3
      rw [e]
      exact c
     clear a c b f
     go_wp2
     go_roundw
     case rel=>exact⟨k+1,E,d,by omega,by go_num,rfl,h,A⟩
     case measure=>simp [intOf];omega
    ·obtain rfl:k=8:=by omega
     have D:(beV 8 (8*s.size)).length=8:=by simp [beV]
     rw [List.take_of_length_le (by omega)] at a
     have R:Hid (OwnC wr w.heap.size g (n+8) cap (byV L++beV 8 (8*s.size))∧Below w.heap.size w wr):=⟨a,f⟩
     clear a f D
     go_wp2_with fail
     exact bodyPost_ret (v:= .slice (some ⟨g,0,none⟩) (n+8) cap) (by simp [results,Tryz.results131]) rfl ⟨g,cap,by rw [I.out.2],by rw [I.out.1,I.out.2];exact R.out.1,R.out.2⟩
def stI (s:St):List Value:= [.int .i64 (s.a:Nat),.int .i64 (s.b:Nat),.int .i64 (s.c:Nat),.int .i64 (s.d:Nat),.int .i64 (s.e:Nat),.int .i64 (s.f:Nat),.int .i64 (s.g:Nat),.int .i64 (s.h:Nat)]
theorem Z1B (s:St):(stI s).length=8:=rfl
theorem stI_at (s:St)(i:Nat)(h:i<8):(stI s)[i]? = some (.int .i64 (s.at i:Nat)):=by
 match i,h with
 | 0,_=>rfl
 | 1,_=>rfl
 | 2,_=>rfl
 | 3,_=>rfl
 | 4,_=>rfl
 | 5,_=>rfl
 | 6,_=>rfl
 | 7,_=>rfl
theorem rbs1_bits (e:Nat):bits .xor .i64 (bits .xor .i64 ((rotr e 6:Nat):Int) ((rotr e 11:Nat):Int)) ((rotr e 25:Nat):Int)=((bs1 e:Nat):Int):=by
 have b:=Z0m e 6
 have a:=Z0m e 11
 have c:=Z0m e 25
 have d:=Z17 b a
 rw [Z0t _ _ (by omega) (by omega),Z0t _ _ (by omega) (by omega)]
 rfl
theorem rbs0_bits (a:Nat):bits .xor .i64 (bits .xor .i64 ((rotr a 2:Nat):Int) ((rotr a 13:Nat):Int)) ((rotr a 22:Nat):Int)=((bs0 a:Nat):Int):=by
 have c:=Z0m a 2
 have b:=Z0m a 13
 have d:=Z0m a 22
 have e:=Z17 c b
 rw [Z0t _ _ (by omega) (by omega),Z0t _ _ (by omega) (by omega)]
 rfl
theorem rch_bits (e f g:Nat)(he:e<4294967296)(hf:f<4294967296)(hg:g<4294967296):bits .xor .i64 (bits .and .i64 (e:Int) (f:Int)) (bits .and .i64 (IntKind.i64.wrap (4294967295-(e:Int))) (g:Int))=((chf e f g:Nat):Int):=by
 have b:IntKind.i64.wrap (4294967295-(e:Int))=((4294967295-e:Nat):Int):=by rw [IntKind.wrap_i64];omega
 have d:=Z2A (a:=e) hf
 have c:=Z2A (a:=4294967295-e) hg
 rw [b,Z0q _ _ (by omega) (by omega),Z0q _ _ (by omega) (by omega),Z0t _ _ (by omega) (by omega)]
 rfl
theorem rmaj_bits (a b c:Nat)(ha:a<4294967296)(hb:b<4294967296)(hc:c<4294967296):bits .xor .i64 (bits .xor .i64 (bits .and .i64 (a:Int) (b:Int)) (bits .and .i64 (a:Int) (c:Int))) (bits .and .i64 (b:Int) (c:Int))=((maj a b c:Nat):Int):=by
 have e:=Z2A (a:=a) hb
 have d:=Z2A (a:=a) hc
 have g:=Z2A (a:=b) hc
 have f:=Z17 e d
 rw [Z0q _ _ (by omega) (by omega),Z0q _ _ (by omega) (by omega),Z0q _ _ (by omega) (by omega),Z0t _ _ (by omega) (by omega),Z0t _ _ (by omega) (by omega)]
 rfl
theorem rt_bits (e f g h k w:Nat)(he:e<4294967296)(hf:f<4294967296)(hg:g<4294967296)(hh:h<4294967296)(hk:k<4294967296)(hw:w<4294967296) :
  IntKind.i64.wrap (IntKind.i64.wrap (IntKind.i64.wrap (IntKind.i64.wrap ((h:Int)+bits .xor .i64 (bits .xor .i64 ((rotr e 6:Nat):Int) ((rotr e 11:Nat):Int)) ((rotr e 25:Nat):Int))+bits .xor .i64 (bits .and .i64 (e:Int) (f:Int)) (bits .and .i64 (IntKind.i64.wrap (4294967295-(e:Int))) (g:Int)))+(k:Int))+(w:Int))=((h+bs1 e+chf e f g+k+w:Nat):Int):=by
 have b:=bs1_lt e
 have a:=chf_lt (e:=e) hf hg
 rw [rbs1_bits,rch_bits e f g he hf hg]
 generalize bs1 e=p at *
 generalize chf e f g=q at *
 clear he hf hg
 rw [Z0P ((h:Int)+(p:Int)) (by omega) (by omega),Z0P ((h:Int)+(p:Int)+(q:Int)) (by omega) (by omega),Z0P ((h:Int)+(p:Int)+(q:Int)+(k:Int)) (by omega) (by omega),Z0P ((h:Int)+(p:Int)+(q:Int)+(k:Int)+(w:Int)) (by omega) (by omega)]
 omega
theorem ru_bits (a b c:Nat)(ha:a<4294967296)(hb:b<4294967296)(hc:c<4294967296) :
  IntKind.i64.wrap (bits .xor .i64 (bits .xor .i64 ((rotr a 2:Nat):Int) ((rotr a 13:Nat):Int)) ((rotr a 22:Nat):Int)+bits .xor .i64 (bits .xor .i64 (bits .and .i64 (a:Int) (b:Int)) (bits .and .i64 (a:Int) (c:Int))) (bits .and .i64 (b:Int) (c:Int)))=((bs0 a+maj a b c:Nat):Int):=by
 have e:=bs0_lt a
 have d:=maj_lt (a:=a) hb hc
 rw [rbs0_bits,rmaj_bits a b c ha hb hc]
 generalize bs0 a=p at *
 generalize maj a b c=q at *
 clear ha hb hc
 rw [Z0P ((p:Int)+(q:Int)) (by omega) (by omega)]
 omega
end Sm
end Go.Proofs.YtijpgmkdnemmbaaGreatDoor
