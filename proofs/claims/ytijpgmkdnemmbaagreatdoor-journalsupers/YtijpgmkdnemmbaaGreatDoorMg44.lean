/- Part 44. -/
import Derived.Test.YtijpgmkdnemmbaaGreatDoorMg43
set_option maxRecDepth 20000
set_option maxHeartbeats 8000000
open Go.RowKit Go.Proofs.Tryz
namespace Go.Proofs.YtijpgmkdnemmbaaGreatDoor
namespace Bx
def sealM (ad c:List Nat):List Nat:=Z1f ad++Z1f c++(leB 8 ad.length++leB 8 c.length)
def sealT (k ad c:List Nat):List Nat:=Z64 (k.take 32) (sealM ad c)
theorem Z4j (key l:List Nat):(Z64 key l).length=16:=by simp [Z64,leB]
theorem polyT_bytes (key l:List Nat):Z03 (Z64 key l):=Z37 _ _
set_option maxRecDepth 10000 in
theorem Z80 (S:S16)(hok:S.ok)(g:Nat)(ad c:ByteArray)(had:ad.size<1099511627776)(hc:c.size<1099511627776)(w:World)(hr:Row w g 331 (wdV S.toL)) :
  Calls prog 234 #[.pointer (some ⟨g,0,none⟩),.string ad,.string c] w fun e w'=>e= .returned (.string (strN (sealT (blkL (S.at 0)) (Z00 ad) (Z00 c))))∧Below w.heap.size w w':=by
 have v:=block_any S hok 0 (by decide) g w hr
 have R:=Z1x (S.at 0)
 have a1:=Z4A (S.at 0)
 generalize blkL (S.at 0)=k at *
 obtain⟨t,m⟩:∃ t,t=(byV k).toArray:=⟨_,rfl⟩
 rw [← m] at v
 have y:t.size=64:=by rw [m];simp [byV,R]
 have u:t.all (·.oneCell')=true:=by rw [m];simp [byV,Value.oneCell']
 have n:(prog.info? 147).map (·.size)=some t.size:=by rw [y];kernel_rfl
 have a0:Hid (t=(byV k).toArray):=m
 obtain⟨K,M⟩:∃ K,K=k.take 32:=⟨_,rfl⟩
 have C:K.length=32:=by rw [M,List.length_take];omega
 have f:Z03 K:=by rw [M];exact a1.take 32
 have X:(strN K).size=32:=by rw [Z0X,C]
 have F:Z00 (strN K)=K:=Z14 K f
 have s:=fun w=>taggerOf_any (strN K) X w
 rw [F] at s
 obtain⟨o,d⟩:∃ o,o=(tagC (Z0M (Z0O K) 0) (Z0M (Z0O K) 8) (Z0M (K.drop 16) 0) (Z0M (K.drop 16) 8) 0 0 0).toArray:=⟨_,rfl⟩
 rw [← d] at s
 have h:o.size=7:=by rw [d];rfl
 have j:o.all (·.oneCell')=true:=by rw [d];simp [tagC,Value.oneCell']
 have b:(prog.info? 341).map (·.size)=some o.size:=by rw [h];kernel_rfl
 have N:Hid (o=(tagC (Z0M (Z0O K) 0) (Z0M (Z0O K) 8) (Z0M (K.drop 16) 0) (Z0M (K.drop 16) 8) 0 0 0).toArray):=d
 have HE:Hid (strN (sealT k (Z00 ad) (Z00 c))=strN (Z64 K (Z1f (Z00 ad)++Z1f (Z00 c)++(leB 8 ad.size++leB 8 c.size)))):=by
  show _=_
  rw [sealT,sealM,← M,Z01,Z01]
 rw [HE.out]
 clear m d F
 have a2:Hid (K=k.take 32∧k.length=64):=⟨M,R⟩
 clear M hr
 go_enter func234,ntmps234
 go_wp2_with fail
 refine v.mono ?_
 rintro e E ⟨rfl,A⟩
 clear v
 obtain⟨w2,r⟩:∃ w2,E.alloc (.cells t 147)=w2:=⟨_,rfl⟩
 have k2:Row w2 E.heap.size 147 (byV k):=by rw [← r,a0.out];exact heap_alloc_new E _
 have D:Below w.heap.size w w2:=by rw [← r];exact A.alloc A.size _
 have G:=run_convert_bytes_arg (P:=prog) w2 90 5 underlying90 underlying5 E.heap.size 0 32 64 (K.map fun (x:Nat)=>(x:Int)) (by simp [C]) (fun i hi=>by
  rw [Nat.zero_add,k2.cell,Z0s _ _ (by omega),a2.out.1]
  simp only [List.getD_eq_getElem?_getD,List.getElem?_map,List.getElem?_take]
  rw [if_pos hi,List.getElem?_eq_getElem (by omega)]
  rfl) 9 underlying9
 rw [show strOfNums (K.map fun (x:Nat)=>(x:Int))=strN K from rfl] at G
 go_wp2_with (refine wpList_store_row rfl 147 _ _ rfl E.heap.size t rfl rfl 147 _ (heap_alloc_new E _) n (by rw [y];rfl) u ?_;rw [World.setRow_alloc_new,r])
 refine (s _).mono ?_
 rintro e p ⟨rfl,U⟩
 have a:=D.trans (U.mono D.size)
 clear s G k2 D U r u n y A
 go_wp2_with (refine wpList_store_row rfl 341 _ _ rfl p.heap.size o rfl rfl 341 _ (heap_alloc_new p _) b (by rw [h];rfl) j ?_)
 rw [World.setRow_alloc_new]
 have Z:Z38 (p.alloc (.cells o 341)) p.heap.size K []:=⟨0,0,0,by decide,by decide,by decide,rfl,by rw [N.out];exact heap_alloc_new p _⟩
 have I:=a.alloc a.size (.cells o 341)
 generalize p.alloc (.cells o 341)=w4 at *
 have l:=a.size
 clear j b h N a
 refine (Z4R K f p.heap.size [] rfl ad had w4 Z).mono ?_
 rintro e w5 ⟨rfl,q,L⟩
 rw [List.nil_append] at q
 have Q:Below w.heap.size w w5:=I.trans ((L.below (Nat.le_of_lt Z.lt)).mono l)
 clear Z I L
 go_wp2_with fail
 refine (Z4R K f p.heap.size _ (Z3V _) c hc w5 q).mono ?_
 rintro e w6 ⟨rfl,B,J⟩
 have V:Below w.heap.size w w6:=Q.trans ((J.below (Nat.le_of_lt q.lt)).mono l)
 have O:(Z1f (Z00 ad)++Z1f (Z00 c)).length%16=0:=by
  have h1:=Z3V (Z00 ad)
  have h2:=Z3V (Z00 c)
  rw [List.length_append];omega
 clear q Q J
 go_wp2_with fail
 refine (Z7Z K f p.heap.size _ O ad.size c.size had hc w6 B).mono ?_
 rintro e w7 ⟨rfl,W,T⟩
 have z:Below w.heap.size w w7:=V.trans ((T.below (Nat.le_of_lt B.lt)).mono l)
 clear B V T O
 go_wp2_with fail
 refine (tag_told K C f p.heap.size _ w7 W).mono ?_
 rintro e w8 ⟨rfl,H⟩
 have Y:=z.trans (H.mono z.size)
 clear z H W
 go_wp2
 go_ret
 exact⟨congrArg (fun x=>Ending.returned (.string (strN (Z64 K x)))) (List.append_assoc _ _ _).symm,Y⟩
def Z0R (key nonce s:ByteArray):List Nat:=chaS (Z00 key) (Z00 nonce) 1 (Z00 s)
def Z2c (key nonce ad:ByteArray)(c:List Nat):List Nat:=sealT (chaL (Z00 key) (Z00 nonce) 0) (Z00 ad) c
theorem Z81 (a b:List Nat):strN a++strN b=strN (a++b):=by
 unfold strN strOfNums
 apply ByteArray.ext
 simp
set_option maxRecDepth 10000 in
theorem Seal_ok (key nonce ad s:ByteArray)(hk:key.size=32)(hn:nonce.size=12)(had:ad.size≤1048576)(hs:s.size≤1048576)(w:World) :
  Calls prog 230 #[.string key,.string nonce,.string ad,.string s] w fun e w'=>e= .returned (.tuple #[.string (strN (Z0R key nonce s++Z2c key nonce ad (Z0R key nonce s))),.int .i64 0])∧Below w.heap.size w w':=by
 have E:=fun w=>fit_yes key nonce hk hn w
 have k:=fun w=>Z7R key nonce hk hn w
 have u:=st16_ok key nonce 0 (by decide)
 have v:Z03 (Z0R key nonce s):=Z67 _ _ _ _ (Z04 s)
 have l:(Z0R key nonce s).length=s.size:=by rw [Z0R,Z23,Z01]
 have q:=fun g w hr=>stream_any (st16 (Z00 key) (Z00 nonce) 0) u 1 s (by omega) hs g w hr
 have p:=fun g w hr=>Z80 (st16 (Z00 key) (Z00 nonce) 0) u g ad (strN (Z0R key nonce s)) (by omega) (by rw [Z0X,l];omega) w hr
 rw [← chaS_strm] at q
 rw [Z14 _ v] at p
 have t:(Z2c key nonce ad (Z0R key nonce s)).length=16:=Z4j _ _
 have h:∀ g w,Row w g 331 (wdV (st16 (Z00 key) (Z00 nonce) 0).toL)→Calls prog 235 #[.pointer (some ⟨g,0,none⟩),.int .i64 1,.string s] w fun e w'=>e= .returned (.string (strN (Z0R key nonce s)))∧Below w.heap.size w w':=q
 have d:∀ g w,Row w g 331 (wdV (st16 (Z00 key) (Z00 nonce) 0).toL)→Calls prog 234 #[.pointer (some ⟨g,0,none⟩),.string ad,.string (strN (Z0R key nonce s))] w fun e w'=>e= .returned (.string (strN (Z2c key nonce ad (Z0R key nonce s))))∧Below w.heap.size w w':=p
 clear q p
 rw [← Z81]
 have K:(strN (Z0R key nonce s)).size=s.size:=by rw [Z0X,l]
 have J:(strN (Z2c key nonce ad (Z0R key nonce s))).size=16:=by rw [Z0X,t]
 generalize strN (Z2c key nonce ad (Z0R key nonce s))=G at *
 generalize strN (Z0R key nonce s)=C at *
 obtain⟨D,o⟩:∃ D,D=C++G:=⟨_,rfl⟩
 have H:∀ w',(Op.stringOp .add C G).run prog w'= .ok (.string D) w':=fun w'=>by rw [o];exact run_string_add_sum (P:=prog) (w:=w') C G (by omega)
 rw [← o]
 generalize st16 (Z00 key) (Z00 nonce) 0=S at *
 obtain⟨c,a⟩:∃ c,c=(wdV S.toL).toArray:=⟨_,rfl⟩
 rw [← a] at k
 have m:c.size=16:=by rw [a];rfl
 have i:c.all (·.oneCell')=true:=by rw [a];simp [wdV,Value.oneCell']
 have b:(prog.info? 331).map (·.size)=some c.size:=by rw [m];kernel_rfl
 have z:Hid (c=(wdV S.toL).toArray):=a
 clear a o v l t
 go_enter func230,ntmps230
 go_wp2_with fail
 refine (E _).mono ?_
 rintro e w' ⟨rfl,rfl⟩
 clear E
 go_wp2_with fail
 refine (k _).mono ?_
 rintro e f ⟨rfl,y⟩
 clear k
 go_wp2_with (refine wpList_store_row rfl 331 _ _ rfl f.heap.size c rfl rfl 331 _ (heap_alloc_new f _) b (by rw [m];rfl) i ?_)
 rw [World.setRow_alloc_new]
 have A:Row (f.alloc (.cells c 331)) f.heap.size 331 (wdV S.toL):=by rw [z.out];exact heap_alloc_new f _
 have r:=y.alloc y.size (.cells c 331)
 generalize f.alloc (.cells c 331)=w2 at *
 clear i b m z
 refine (h f.heap.size w2 A).mono ?_
 rintro e I ⟨rfl,n⟩
 have F:=A.below n A.lt
 have j:=r.trans (n.mono r.size)
 clear A r n h
 go_wp2_with fail
 refine (d f.heap.size I F).mono ?_
 rintro e L ⟨rfl,x⟩
 have B:=j.trans (x.mono j.size)
 clear F j x d
 go_wp2
 go_ret2
 exact⟨rfl,B⟩
def Z3q (s:ByteArray):ByteArray:=s.extract 0 (s.size-16)
def openG (s:ByteArray):ByteArray:=s.extract (s.size-16) s.size
def Z42 (key nonce ad s:ByteArray):Prop:=openG s=strN (Z2c key nonce ad (Z00 (Z3q s)))
instance (key nonce ad s:ByteArray):Decidable (Z42 key nonce ad s):=inferInstanceAs (Decidable (_=_))
set_option maxRecDepth 10000 in
theorem Open_short (key nonce ad s:ByteArray)(hk:key.size=32)(hn:nonce.size=12)(hs:s.size<16)(w:World) :
  Calls prog 228 #[.string key,.string nonce,.string ad,.string s] w fun e w'=>e= .returned (.tuple #[.string ⟨#[]⟩,.int .i64 3])∧w'=w:=by
 have a:=fun w=>fit_yes key nonce hk hn w
 have b:(s.size:Int)<16:=by omega
 go_enter func228,ntmps228
 go_wp2_with fail
 refine (a _).mono ?_
 rintro e w' ⟨rfl,rfl⟩
 clear a
 go_wp2
 go_ret2
 exact⟨rfl,rfl⟩
set_option maxRecDepth 10000 in
theorem Open_long (key nonce ad s:ByteArray)(hk:key.size=32)(hn:nonce.size=12)(had:ad.size≤1048576)(hs:s.size≤1048576)(h16:16≤s.size)(w:World) :
  Calls prog 228 #[.string key,.string nonce,.string ad,.string s] w fun e w'=>e= .returned (if Z42 key nonce ad s then .tuple #[.string (strN (chaS (Z00 key) (Z00 nonce) 1 (Z00 (Z3q s)))),.int .i64 0] else .tuple #[.string ⟨#[]⟩,.int .i64 10])∧Below w.heap.size w w':=by
 have E:=fun w=>fit_yes key nonce hk hn w
 have o:=fun w=>Z7R key nonce hk hn w
 have A:=st16_ok key nonce 0 (by decide)
 have D:(Z3q s).size=s.size-16:=by unfold Z3q;simp
 have P:(openG s).size=16:=by unfold openG;simp;omega
 have y:∀ g w,Row w g 331 (wdV (st16 (Z00 key) (Z00 nonce) 0).toL)→Calls prog 235 #[.pointer (some ⟨g,0,none⟩),.int .i64 1,.string (Z3q s)] w fun e w'=>e= .returned (.string (strN (chaS (Z00 key) (Z00 nonce) 1 (Z00 (Z3q s)))))∧Below w.heap.size w w':=fun g w hr=>stream_any (st16 (Z00 key) (Z00 nonce) 0) A 1 (Z3q s) (by omega) (by omega) g w hr
 have v:∀ g w,Row w g 331 (wdV (st16 (Z00 key) (Z00 nonce) 0).toL)→Calls prog 234 #[.pointer (some ⟨g,0,none⟩),.string ad,.string (Z3q s)] w fun e w'=>e= .returned (.string (strN (Z2c key nonce ad (Z00 (Z3q s)))))∧Below w.heap.size w w':=fun g w hr=>Z80 (st16 (Z00 key) (Z00 nonce) 0) A g ad (Z3q s) (by omega) (by omega) w hr
 have a:=fun w=>same_any (openG s) (strN (Z2c key nonce ad (Z00 (Z3q s)))) (by unfold maxLen;omega) w
 have K:decide (openG s=strN (Z2c key nonce ad (Z00 (Z3q s))))=decide (Z42 key nonce ad s):=rfl
 rw [K] at a
 have O:IntKind.i64.wrap ((s.size:Int)-16)=((s.size-16:Nat):Int):=by rw [IntKind.wrap_i64];omega
 have M:s.extract 0 (s.size-16)=Z3q s:=rfl
 have L:s.extract (s.size-16) s.size=openG s:=rfl
 generalize strN (Z2c key nonce ad (Z00 (Z3q s)))=T at *
 generalize strN (chaS (Z00 key) (Z00 nonce) 1 (Z00 (Z3q s)))=U at *
 have N:¬ (s.size:Int)<16:=by omega
 obtain⟨m,I⟩:∃ m,m=s.size-16:=⟨_,rfl⟩
 rw [← I] at O M L
 have X:(s.size:Int)-16=m:=by omega
 have Y:IntKind.i64.wrap (m:Int)=m:=by rw [IntKind.wrap_i64];omega
 have R:(m:Int)≤s.size:=by omega
 generalize Z3q s=C at *
 generalize openG s=G at *
 generalize st16 (Z00 key) (Z00 nonce) 0=S at *
 obtain⟨n,r⟩:∃ n,n=(wdV S.toL).toArray:=⟨_,rfl⟩
 rw [← r] at o
 have p:n.size=16:=by rw [r];rfl
 have l:n.all (·.oneCell')=true:=by rw [r];simp [wdV,Value.oneCell']
 have c:(prog.info? 331).map (·.size)=some n.size:=by rw [p];kernel_rfl
 have u:Hid (n=(wdV S.toL).toArray):=r
 have W:Hid (m=s.size-16∧C.size=s.size-16):=⟨I,D⟩
 clear r I K D
 by_cases z:Z42 key nonce ad s
 ·rw [if_pos z]
  rw [decide_eq_true z] at a
  clear z
  go_enter func228,ntmps228
  go_wp2_with fail
  refine (E _).mono ?_
  rintro e w' ⟨rfl,rfl⟩
  clear E
  go_wp2_with fail
  refine (o _).mono ?_
  rintro e k ⟨rfl,h⟩
  clear o
  obtain⟨w2,b⟩:∃ w2,k.alloc (.cells n 331)=w2:=⟨_,rfl⟩
  have t:Row w2 k.heap.size 331 (wdV S.toL):=by rw [← b,u.out];exact heap_alloc_new k _
  have j:Below w'.heap.size w' w2:=by rw [← b];exact h.alloc h.size (.cells n 331)
  go_wp2_with (refine wpList_store_row rfl 331 _ _ rfl k.heap.size n rfl rfl 331 _ (heap_alloc_new k _) c (by rw [p];rfl) l ?_;rw [World.setRow_alloc_new,b])
  clear b l c p u h
  go_quiet (fail)
  go_wp2_with fail
  refine (v k.heap.size (w2.drewN _) t).mono ?_
  rintro e Q ⟨rfl,i⟩
  have x:=Row.below (w:=w2.drewN _) t i t.lt
  have d:=(bdrewN j _).trans (i.mono (by exact j.size))
  clear t j i v
  go_wp2_with fail
  refine (a _).mono ?_
  rintro e J ⟨rfl,f⟩
  have F:=x.below f x.lt
  have q:=d.trans (f.mono d.size)
  clear x d f a
  go_wp2_with fail
  refine (y k.heap.size J F).mono ?_
  rintro e V ⟨rfl,B⟩
  have H:=q.trans (B.mono q.size)
  clear F q B y
  go_wp2
  go_ret2
  exact⟨rfl,H⟩
 ·rw [if_neg z]
  rw [decide_eq_false z] at a
  clear z
  go_enter func228,ntmps228
  go_wp2_with fail
  refine (E _).mono ?_
  rintro e w' ⟨rfl,rfl⟩
  clear E
  go_wp2_with fail
  refine (o _).mono ?_
  rintro e k ⟨rfl,h⟩
  clear o
  obtain⟨w2,b⟩:∃ w2,k.alloc (.cells n 331)=w2:=⟨_,rfl⟩
  have t:Row w2 k.heap.size 331 (wdV S.toL):=by rw [← b,u.out];exact heap_alloc_new k _
  have j:Below w'.heap.size w' w2:=by rw [← b];exact h.alloc h.size (.cells n 331)
  go_wp2_with (refine wpList_store_row rfl 331 _ _ rfl k.heap.size n rfl rfl 331 _ (heap_alloc_new k _) c (by rw [p];rfl) l ?_;rw [World.setRow_alloc_new,b])
  clear b l c p u h
  go_quiet (fail)
  go_wp2_with fail
  refine (v k.heap.size (w2.drewN _) t).mono ?_
  rintro e Q ⟨rfl,i⟩
  have x:=Row.below (w:=w2.drewN _) t i t.lt
  have d:=(bdrewN j _).trans (i.mono (by exact j.size))
  clear t j i v
  go_wp2_with fail
  refine (a _).mono ?_
  rintro e J ⟨rfl,f⟩
  have F:=x.below f x.lt
  have q:=d.trans (f.mono d.size)
  clear x d f a
  clear F y
  go_wp2
  go_ret2
  exact⟨rfl,q⟩
def fitP (key nonce:ByteArray):Prop:=key.size=32∧nonce.size=12
instance (key nonce:ByteArray):Decidable (fitP key nonce):=inferInstanceAs (Decidable (_∧_))
def Z6B (key nonce ad s:ByteArray):ByteArray:=if fitP key nonce then strN (Z0R key nonce s++Z2c key nonce ad (Z0R key nonce s)) else ⟨#[]⟩
def sealE (key nonce:ByteArray):Nat:=if fitP key nonce then 0 else 1
def Z4b (key nonce ad s:ByteArray):Nat:=if fitP key nonce then if s.size<16 then 3 else if Z42 key nonce ad s then 0 else 10 else 1
def Z4G (key nonce ad s:ByteArray):ByteArray:=if Z4b key nonce ad s=0 then strN (chaS (Z00 key) (Z00 nonce) 1 (Z00 (Z3q s))) else ⟨#[]⟩
theorem Seal_any (key nonce ad s:ByteArray)(had:ad.size≤1048576)(hs:s.size≤1048576)(w:World) :
  Calls prog 230 #[.string key,.string nonce,.string ad,.string s] w fun e w'=>e= .returned (.tuple #[.string (Z6B key nonce ad s),.int .i64 (sealE key nonce:Nat)])∧Below w.heap.size w w':=by
 unfold Z6B sealE
 by_cases h:fitP key nonce
 ·rw [if_pos h,if_pos h]
  exact Seal_ok key nonce ad s h.1 h.2 had hs w
 ·rw [if_neg h,if_neg h]
  refine (Seal_bad key nonce ad s h w).mono ?_
  rintro e w' ⟨rfl,rfl⟩
  exact⟨rfl,Below.refl _ _⟩
theorem Open_any (key nonce ad s:ByteArray)(had:ad.size≤1048576)(hs:s.size≤1048576)(w:World) :
  Calls prog 228 #[.string key,.string nonce,.string ad,.string s] w fun e w'=>e= .returned (.tuple #[.string (Z4G key nonce ad s),.int .i64 (Z4b key nonce ad s:Nat)])∧Below w.heap.size w w':=by
 by_cases h:fitP key nonce
 ·by_cases b:s.size<16
  ·have a:Z4b key nonce ad s=3:=by unfold Z4b;rw [if_pos h,if_pos b]
   have c:Z4G key nonce ad s=⟨#[]⟩:=by unfold Z4G;rw [a];rfl
   rw [a,c]
   refine (Open_short key nonce ad s h.1 h.2 b w).mono ?_
   rintro e w' ⟨rfl,rfl⟩
   exact⟨rfl,Below.refl _ _⟩
  ·have d:=Open_long key nonce ad s h.1 h.2 had hs (by omega) w
   by_cases f:Z42 key nonce ad s
   ·have a:Z4b key nonce ad s=0:=by unfold Z4b;rw [if_pos h,if_neg b,if_pos f]
    have c:Z4G key nonce ad s=strN (chaS (Z00 key) (Z00 nonce) 1 (Z00 (Z3q s))):=by unfold Z4G;rw [if_pos a]
    rw [if_pos f] at d
    rw [a,c]
    exact d
   ·have a:Z4b key nonce ad s=10:=by unfold Z4b;rw [if_pos h,if_neg b,if_neg f]
    have c:Z4G key nonce ad s=⟨#[]⟩:=by unfold Z4G;rw [a];rfl
    rw [if_neg f] at d
    rw [a,c]
    exact d
 ·have a:Z4b key nonce ad s=1:=by unfold Z4b;rw [if_neg h]
  have c:Z4G key nonce ad s=⟨#[]⟩:=by unfold Z4G;rw [a];rfl
  rw [a,c]
  refine (Open_bad key nonce ad s h w).mono ?_
  rintro e w' ⟨rfl,rfl⟩
  exact⟨rfl,Below.refl _ _⟩
theorem back_math (key nonce ad s:ByteArray) :
  (strN (Z0R key nonce s++Z2c key nonce ad (Z0R key nonce s))).size=s.size+16∧Z42 key nonce ad (strN (Z0R key nonce s++Z2c key nonce ad (Z0R key nonce s))) ∧
  strN (chaS (Z00 key) (Z00 nonce) 1 (Z00 (Z3q (strN (Z0R key nonce s++Z2c key nonce ad (Z0R key nonce s))))))=s:=by
 have i:Z03 (Z0R key nonce s):=Z67 _ _ _ _ (Z04 s)
 have h:(Z0R key nonce s).length=s.size:=by rw [Z0R,Z23,Z01]
 have d:∀ c,(Z2c key nonce ad c).length=16:=fun c=>Z4j _ _
 have f:∀ c,Z03 (Z2c key nonce ad c):=fun c=>polyT_bytes _ _
 have b:(strN (Z0R key nonce s++Z2c key nonce ad (Z0R key nonce s))).size=s.size+16:=by rw [Z0X,List.length_append,h,d]
 have a:Z00 (strN (Z0R key nonce s++Z2c key nonce ad (Z0R key nonce s)))=Z0R key nonce s++Z2c key nonce ad (Z0R key nonce s):=Z14 _ (i.append (f _))
 have e:Z00 (Z3q (strN (Z0R key nonce s++Z2c key nonce ad (Z0R key nonce s))))=Z0R key nonce s:=by
  rw [Z3q,Z0h,a,b,List.drop_zero,show s.size+16-16-0=(Z0R key nonce s).length by omega,List.take_left]
 have g:Z00 (openG (strN (Z0R key nonce s++Z2c key nonce ad (Z0R key nonce s))))=Z2c key nonce ad (Z0R key nonce s):=by
  rw [openG,Z0h,a,b,show s.size+16-16=(Z0R key nonce s).length by omega,List.drop_left,List.take_of_length_le (by rw [d];omega)]
 refine⟨b,?_,?_⟩
 ·unfold Z42
  rw [e]
  exact (Z7S _).symm.trans (congrArg strN g)
 ·rw [e,Z0R,chaS_twice,Z7S]
theorem Z1j:(prog.info? 3).map (fun i=>(i.zero,i.size,i.bytes))=some (some (.int .i64 0),1,8):=by kernel_rfl
def intV (l:List Nat):List Value:=l.map fun (x:Nat)=>Value.int .i64 (x:Int)
theorem intV_one (l:List Nat):∀ u∈intV l,u.oneCell'=true:=fun u hu=>by
 obtain⟨x,_,rfl⟩:=List.mem_map.1 hu
 rfl
theorem intV_at (l:List Nat)(i:Nat)(h:i<l.length):(intV l)[i]? = some (.int .i64 (l.getD i 0:Nat)):=by
 rw [intV,List.getElem?_map,List.getElem?_eq_getElem h,Z0b _ _ h];rfl
theorem OwnC.fresh (w:World)(t:TypeId)(vs:List Value)(n:Nat)(hl:vs.length=n)(hm:n≤maxLen):OwnC (w.alloc (.cells vs.toArray t)) w.heap.size w.heap.size n n vs:=by
 have a:Row (w.alloc (.cells vs.toArray t)) w.heap.size t vs:=heap_alloc_new w _
 refine⟨hl,Nat.le_refl _,by simp,Nat.le_refl _,hm,fun i hi=> ?_,fun i hi=>a.frozen i,fun i u hu=>(a.cell i).trans hu⟩
 rw [a.cell,List.getElem?_eq_getElem (by omega)];rfl
theorem below_drewN {B:Nat}{w w':World}(h:Below B w w')(n:Nat):Below B w (w'.drewN n):=h.trans ⟨rfl,rfl,rfl,Nat.le_refl _,fun _ _=>rfl⟩
theorem OwnC.drewN {w:World}{base g n cap:Nat}{xs:List Value}(h:OwnC w base g n cap xs)(k:Nat):OwnC (w.drewN k) base g n cap xs:=h.kept rfl (Nat.le_refl _)
theorem strN_nums (s:ByteArray):strN (Z00 s)=s:=by
 unfold strN strOfNums Z00
 rw [List.map_map,List.map_map]
 have:((fun (n:Int)=>UInt8.ofNat n.toNat) ∘ (fun (x:Nat)=>(x:Int))) ∘ (fun (x:UInt8)=>x.toNat)=id:=by
  funext x
  simp
 rw [this,List.map_id]
theorem strN_app (a b:List Nat):strN a++strN b=strN (a++b):=by
 unfold strN strOfNums
 apply ByteArray.ext
 simp
theorem numsAt (s:ByteArray)(i:Nat)(h:i<s.size):(Z00 s).getD i 0=s[i].toNat:=by
 rw [Z0b _ _ (by rw [Z01];exact h)]
 simp [Z00]
 rfl
set_option maxRecDepth 100000 in
theorem reven_any (s:ByteArray)(hs:s.size≤1048576)(w:World) :
  Calls prog 138 #[.string s] w fun e w'=>e= .returned (.string (strN (Z1f (Z00 s))))∧w'=w:=by
 have g:Hid (Z1f (Z00 s)=Z00 s++List.replicate ((16-s.size%16)%16) 0):=by show _=_;rw [Z1f,Z01]
 have o:Hid (s=strN (Z00 s++List.replicate 0 0)):=by show _=_;rw [List.replicate_zero,List.append_nil,strN_nums]
 have d:Hid (∀ j,(strN (Z00 s++List.replicate j 0)).size=s.size+j∧strN (Z00 s++List.replicate j 0)++⟨#[0]⟩=strN (Z00 s++List.replicate (j+1) 0)):=fun j=>⟨by rw [Z0X];simp [Z01],by rw [List.replicate_succ',← List.append_assoc];exact strN_app _ [0]⟩
 obtain⟨R,i⟩:∃ R,R=strN (Z1f (Z00 s)):=⟨_,rfl⟩
 rw [← i]
 have l:Hid _:=i
 clear i
 go_enter func138,ntmps138
 go_wp2_with fail
 go_loopw [0] (fun v wr=> ∃ j:Nat,j≤(16-s.size%16)%16∧v= .string (strN (Z00 s++List.replicate j 0))∧wr=w) (fun v _=>1048600-Z2m v)
 case atStart=>exact⟨0,Nat.zero_le _,congrArg Value.string o.out,rfl⟩
 case round =>
  clear o
  obtain⟨j,t,rfl,rfl⟩:=hrel
  obtain⟨a,c⟩:=d.out j
  by_cases k:j<(16-s.size%16)%16
  ·obtain⟨b,_⟩:=d.out (j+1)
   have p:Hid _:=b
   have h:Hid _:=a
   obtain⟨B,f⟩:∃ B,B=strN (Z00 s++List.replicate (j+1) 0):=⟨_,rfl⟩
   rw [← f] at c
   have m:Hid _:=f
   clear f b d g
   generalize strN (Z00 s++List.replicate j 0)=A at *
   have n:∀ w',(Op.stringOp .add A ⟨#[0]⟩).run prog w'= .ok (.string B) w':=fun w'=>by rw [← c];exact run_string_add_sum (P:=prog) (w:=w') A ⟨#[0]⟩ (by rw [a];show _+1≤_;omega)
   have r:¬ (A.size:Int)%16=0:=by omega
   have q:¬ A.size%16=0:=by omega
   clear a c
   go_wp2
   go_roundw
   case rel=>exact⟨j+1,by omega,by rw [m.out],trivial⟩
   case measure =>
    have u:=p.out
    rw [← m.out] at u
    have x:=h.out
    simp [Z2m]
    omega
  ·obtain rfl:j=(16-s.size%16)%16:=by omega
   rw [← g.out,← l.out] at a ⊢
   have r:(R.size:Int)%16=0:=by omega
   have q:R.size%16=0:=by omega
   clear a c d g t k l
   go_wp2
   go_ret
   exact⟨rfl,rfl⟩
theorem leB_snoc (k n:Nat):byV (leB (k+1) n)=byV (leB k n) ++ [.int .u8 ((n/2 ^ (8*k)%256:Nat):Int)]:=by
 rw [leB,List.range_succ,List.map_append,Z05]
 rfl
set_option maxRecDepth 100000 in
theorem rlong_any (n:Nat)(hn:n<9223372036854775808)(w:World) :
  Calls prog 139 #[.int .i64 n] w fun e w'=>e= .returned (.string (strN (leB 8 n)))∧Below w.heap.size w w':=by
 obtain⟨G,O,C,z,B⟩:=info_parts Z2n
 obtain⟨X,t⟩:∃ X,X=strN (leB 8 n):=⟨_,rfl⟩
 rw [← t]
 have J:Hid _:=t
 clear t
 go_enter func139,ntmps139
 go_wp2_with fail
 go_loopw [0,3,4] (fun m v i wz=> ∃ j:Nat,j≤8∧i= .int .i64 j∧m= .int .i64 (n/2 ^ (8*j):Nat)∧wz.ownsRow w.heap.size 5 1 v j (byV (leB j n))∧Below w.heap.size w wz) (fun _ _ i _=>8-(intOf i).toNat)
 case atStart=>exact⟨0,Nat.zero_le _,rfl,by simp,World.ownsRow_nil _ _ _ _,Below.refl _ _⟩
 case round =>
  obtain⟨j,L,rfl,rfl,a,f⟩:=hrel
  by_cases N:j<8
  ·have I:Hid (n/2 ^ (8*(j+1))=n/2 ^ (8*j)/256):=by
    show _=_
    rw [Nat.div_div_eq_div_mul,show 8*(j+1)=8*j+8 by omega,Nat.pow_add]
   have F:Hid _:=leB_snoc j n
   have M:n/2 ^ (8*j)≤n:=Nat.div_le_self _ _
   generalize n/2 ^ (8*j)=m at *
   have o:wrap64 ((m:Int)/256)=((m/256:Nat):Int):=by
    unfold wrap64
    omega
   have H:Hid _:=o
   clear o
   obtain⟨y,r⟩:∃ y,y=m%256:=⟨_,rfl⟩
   have K:IntKind.u8.wrap ((m:Int)%256)=(y:Int):=by rw [IntKind.wrap_u8,r];omega
   rw [← r] at F
   clear r M
   have l:Hid (∀ g',u3.ownBlock=some g'→w.heap.size≤g'):=fun g' hg'=>(a.lt g' hg').1
   go_wp2_with (at_builtin;refine wpList_append_lies _ rfl _ _ 90 rfl w.heap.size 5 G (.int .u8 0) 1 1 underlying90 O C z B rfl (by decide) u3 j (byV (leB j n)) rfl (a.alloc _) ⟨wr.heap.size,0,none⟩ 1 1 [.int .u8 (y:Nat)] rfl rfl (World.news_of_block (heap_alloc_new _ _)) ?c2 (by decide) ?c3 ?c4 ?c5 _ rfl ?_)
   case c2=>intro u E;rw [List.mem_singleton] at E;rw [E];rfl
   case c3=>unfold maxLen;omega
   case c4=>omega
   case c5=>have:=f.size;simp;omega
   intro R D Q d b h k
   have p:=(f.alloc f.size _).grown b (by have:=f.size;simp;omega) (fun g hg=>l.out g hg)
   have c:=F.out ▸ d
   have q:Hid (_∧_):=⟨c,p⟩
   clear d c b h k p a f K l
   go_wp2
   go_roundw
   case rel=>exact⟨j+1,by omega,by go_num,by rw [I.out,H.out],q.out.1,q.out.2⟩
   case measure=>simp [intOf];omega
  ·obtain rfl:j=8:=by omega
   obtain⟨g,A,rfl,_,_⟩:=a.form (by decide)
   have s:=run_convert_bytes_arg (P:=prog) wr 90 5 underlying90 underlying5 g 0 8 A ((leB 8 n).map fun (x:Nat)=>(x:Int)) (by simp [Z11]) (fun i hi=>by
    rw [Nat.zero_add,a.cellAt i (by omega),Z0s _ _ (by rw [Z11];exact hi),Z0b _ _ (by rw [Z11];exact hi)]
    simp [List.getD,Z11,hi]) 9 underlying9
   rw [show strOfNums ((leB 8 n).map fun (x:Nat)=>(x:Int))=strN (leB 8 n) from rfl,← J.out] at s
   have q:Hid _:=f
   clear a f
   generalize n/2 ^ (8*8)=m at *
   go_wp2
   go_ret
   exact⟨rfl,q.out⟩
theorem leN_digit:∀ (l:List Nat) (_:Z03 l) (k:Nat),leN l/256 ^ k%256=l.getD k 0
 | [],_,k=>by simp [leN]
 | x :: l,h,0=>by
  have:=h x (List.mem_cons_self ..)
  show (x+256*leN l)/256 ^ 0%256=x
  rw [Nat.pow_zero,Nat.div_one]
  omega
 | x :: l,h,k+1=>by
  have h1:=h x (List.mem_cons_self ..)
  have h2:=leN_digit l (fun y hy=>h y (List.mem_cons_of_mem _ hy)) k
  show (x+256*leN l)/256 ^ (k+1)%256=l.getD k 0
  rw [show 256 ^ (k+1)=256*256 ^ k by rw [Nat.pow_succ,Nat.mul_comm],← Nat.div_div_eq_div_mul,show (x+256*leN l)/256=leN l by omega]
  exact h2
theorem bit_of (y r:Nat)(hr:r<8):y/2 ^ r%2=y%256/2 ^ r%2:=by
 have:r=0∨r=1∨r=2∨r=3∨r=4∨r=5∨r=6∨r=7:=by omega
 rcases this with rfl | rfl | rfl | rfl | rfl | rfl | rfl | rfl <;> simp only [Nat.reducePow] <;> omega
theorem leN_bit (l:List Nat)(h:Z03 l)(t:Nat):leN l/2 ^ t%2=l.getD (t/8) 0/2 ^ (t%8)%2:=by
 have e:2 ^ t=256 ^ (t/8)*2 ^ (t%8):=by
  rw [show (256:Nat)=2 ^ 8 from rfl,← Nat.pow_mul,← Nat.pow_add]
  congr 1
  omega
 rw [e,← Nat.div_div_eq_div_mul,bit_of _ _ (Nat.mod_lt _ (by decide)),leN_digit l h]
theorem dig_step (V t m:Nat):2*(V/2 ^ (t+1)%2 ^ m)+V/2 ^ t%2=V/2 ^ t%2 ^ (m+1):=by
 rw [Nat.pow_succ 2 t,← Nat.div_div_eq_div_mul,Nat.pow_succ 2 m,Nat.mul_comm (2 ^ m) 2,Nat.mod_mul]
 omega
def digL (V n:Nat):List Nat:=(List.range n).map fun i=>V/2 ^ (10*i)%1024
theorem Z15 (V n:Nat):(digL V n).length=n:=by simp [digL]
theorem digL_snoc (V n:Nat):intV (digL V (n+1))=intV (digL V n) ++ [.int .i64 ((V/2 ^ (10*n)%1024:Nat):Int)]:=by
 rw [digL,List.range_succ,List.map_append,intV,List.map_append]
 rfl
theorem and_one (b r:Nat)(h:b<256):bits .and .i64 ((b:Int)/2 ^ r) 1=((b/2 ^ r%2:Nat):Int):=by
 have a:(b:Int)/2 ^ r=((b/2 ^ r:Nat):Int):=by rw [Int.natCast_ediv,Int.natCast_pow];rfl
 have c:b/2 ^ r≤b:=Nat.div_le_self _ _
 rw [a,show (1:Int)=((1:Nat):Int) from rfl,Z0q _ _ (by omega) (by decide),Nat.and_one_is_mod]
set_option maxRecDepth 10000 in
theorem Z57 (b:ByteArray)(hs:b.size≤1048576)(n:Nat)(h0:0<n)(hn:n≤1000)(w:World) :
  Calls prog 158 #[.string b,.int .i64 n] w fun e w'=> ∃ g cap,e= .returned (.slice (some ⟨g,0,none⟩) n cap)∧OwnC w' w.heap.size g n cap (intV (digL (leN (Z00 b)) n))∧Below w.heap.size w w':=by
 obtain⟨T,U,A,F,E⟩:=info_parts Z1j
 have j:Hid (∀ t,leN (Z00 b)/2 ^ t%2=(Z00 b).getD (t/8) 0/2 ^ (t%8)%2):=fun t=>leN_bit _ (Z04 b) t
 generalize leN (Z00 b)=V at *
 go_enter func158,ntmps158
 go_wp2_with fail
 go_loopw [5,6] (fun v i wz=> ∃ I:Nat,I≤n∧i= .int .i64 I∧wz.ownsRow w.heap.size 3 1 v I (intV (digL V I))∧Below w.heap.size w wz) (fun _ i _=>n-(intOf i).toNat)
 case atStart=>exact⟨0,Nat.zero_le _,rfl,World.ownsRow_nil _ _ _ _,Below.refl _ _⟩
 case round =>
  obtain⟨I,hI,rfl,a,l⟩:=hrel
  by_cases W:I<n
  ·have B:Hid (wr.ownsRow w.heap.size 3 1 u5 I (intV (digL V I))∧Below w.heap.size w wr):=⟨a,l⟩
   clear a l
   have O:(I:Int)<n:=by omega
   generalize hwo:wr=wo at *
   clear hwo
   go_wp2_with fail
   go_loopw [7,8] (fun d jv wz=> ∃ J:Nat,J≤10∧jv= .int .i64 ((J:Int)-1)∧d= .int .i64 ((V/2 ^ (10*I+J)%2 ^ (10-J):Nat):Int)∧wz=wo) (fun _ jv _=>(intOf jv+1).toNat)
   case atStart=>exact⟨10,Nat.le_refl _,rfl,by simp [Nat.mod_one],rfl⟩
   case round =>
    obtain⟨J,hJ,rfl,rfl,rfl⟩:=hrel
    cases J with
    | zero =>
     rw [show ((0:Nat):Int)-1= -1 from rfl,show 10*I+0=10*I from rfl,show 2 ^ (10-0)=1024 from rfl]
     have R:Hid (intV (digL V (I+1))=intV (digL V I) ++ [.int .i64 ((V/2 ^ (10*I)%1024:Nat):Int)]):=digL_snoc V I
     generalize V/2 ^ (10*I)%1024=d at *
     have a:=B.out.1
     have l:=B.out.2
     have q:Hid (∀ g',u5.ownBlock=some g'→w.heap.size≤g'):=fun g' hg'=>(a.lt g' hg').1
     clear B j
     go_wp2_with (at_builtin;refine wpList_append_lies _ rfl _ _ 67 rfl w.heap.size 3 T (.int .i64 0) 1 8 underlying67 U A F E rfl (by decide) u5 I (intV (digL V I)) rfl (a.alloc _) ⟨_,0,none⟩ 1 1 [.int .i64 (d:Nat)] rfl rfl (World.news_of_block (heap_alloc_new _ _)) ?c2 (by decide) ?c3 ?c4 ?c5 _ rfl ?_)
     case c2=>intro u N;rw [List.mem_singleton] at N;rw [N];rfl
     case c3=>unfold maxLen;omega
     case c4=>omega
     case c5=>have:=l.size;simp;omega
     intro g1 L w1 h c o p
     have y:=(l.alloc l.size _).grown c (by have:=l.size;simp;omega) (fun g hg=>q.out g hg)
     have f:=R.out ▸ h
     have z:Hid (_∧_):=⟨f,y⟩
     clear h f c o p y a l q
     go_wp2
     go_roundw
     case rel=>exact⟨I+1,by omega,by go_num,z.out.1,z.out.2⟩
     case measure=>simp [intOf];omega
    | succ J =>
     rw [show (((J+1:Nat):Int)-1)=(J:Int) by omega]
     have m:=dig_step V (10*I+J) (9-J)
     rw [show 9-J+1=10-J by omega] at m
     have X:V/2 ^ (10*I+J+1)%2 ^ (9-J)<1024:=Nat.lt_of_lt_of_le (Nat.mod_lt _ (Nat.pow_pos (by decide))) (Nat.le_trans (Nat.pow_le_pow_right (by decide) (show 9-J≤10 by omega)) (by decide))
     rw [show 10*I+(J+1)=10*I+J+1 by omega,show 10-(J+1)=9-J by omega]
     rw [j.out] at m
     have s:Hid _:=m
     clear m
     generalize V/2 ^ (10*I+J+1)%2 ^ (9-J)=d at *
     have Z:IntKind.i64.wrap (10*(I:Int))=10*I:=by rw [IntKind.wrap_i64];omega
     obtain⟨t,D⟩:∃ t,t=10*I+J:=⟨_,rfl⟩
     have e2:IntKind.i64.wrap (10*(I:Int)+(J:Int))=(t:Int):=by rw [IntKind.wrap_i64];omega
     have e3:IntKind.i64.wrap (2*(d:Int))=2*d:=by rw [IntKind.wrap_i64];omega
     obtain⟨k,K⟩:∃ k,k=t/8:=⟨_,rfl⟩
     obtain⟨r,H⟩:∃ r,r=t%8:=⟨_,rfl⟩
     have k1:(t:Int)/8=(k:Int):=by omega
     have k2:(t:Int)%8=(r:Int):=by omega
     rw [← D,← K,← H] at s
     have tl:(t:Int)<100000:=by omega
     have rl:r<8:=by omega
     have M:Hid (t=10*I+J):=D
     clear D K H
     by_cases G:k<b.size
     ·have S:(k:Int)<b.size:=by omega
      have C:=b[k].toNat_lt
      have ha:=and_one b[k].toNat r C
      rw [numsAt b k G] at s
      have Q:b[k].toNat/2 ^ r%2<2:=Nat.mod_lt _ (by decide)
      generalize b[k].toNat/2 ^ r%2=x at *
      have e4:IntKind.i64.wrap (2*(d:Int)+(x:Int))=((2*d+x:Nat):Int):=by rw [IntKind.wrap_i64];omega
      have k4:¬ (r:Int)<0:=by omega
      have Y:(0:Int)≤r:=by omega
      go_wp2
      go_roundw
      case rel=>exact⟨J,by omega,rfl,congrArg (Value.int .i64) (by rw [← M.out,← s.out];omega),trivial⟩
      case measure=>simp [intOf]
     ·have S:¬ (k:Int)<b.size:=by omega
      rw [Z0W _ _ (by rw [Z01];omega),Nat.zero_div,Nat.zero_mod] at s
      go_wp2
      go_roundw
      case rel=>exact⟨J,by omega,rfl,congrArg (Value.int .i64) (by rw [← M.out,← s.out];omega),trivial⟩
      case measure=>simp [intOf]
  ·obtain rfl:I=n:=by omega
   obtain⟨g,cap,rfl,P⟩:=OwnC.of a h0
   have z:Hid (OwnC wr w.heap.size g I cap (intV (digL V I))∧Below w.heap.size w wr):=⟨P,l⟩
   clear P a l j
   go_wp2
   go_ret
   exact⟨g,cap,rfl,z.out⟩
end Bx
end Go.Proofs.YtijpgmkdnemmbaaGreatDoor
