/- Part 36. -/
import Derived.Test.YtijpgmkdnemmbaaGreatDoorMg35
import Derived.Deep.MidRow
set_option maxRecDepth 20000
set_option maxHeartbeats 8000000
open Go.RowKit Go.Proofs.Tryz
namespace Go.Proofs.YtijpgmkdnemmbaaGreatDoor
namespace Sm
def padK (k:List Nat):List Nat:=k++List.replicate (64-k.length) 0
def xorL (c:Nat)(l:List Nat):List Nat:=l.map (· ^^^ c)
theorem Z2s (k:List Nat)(h:k.length≤64):(padK k).length=64:=by simp [padK];omega
theorem Z2T {k:List Nat}(h:Z03 k):Z03 (padK k):=h.append (Z03.zeros _)
theorem Z0a (c:Nat)(l:List Nat):(xorL c l).length=l.length:=by simp [xorL]
theorem Z1a {c:Nat}{l:List Nat}(hc:c<256)(h:Z03 l):Z03 (xorL c l):=fun x hx=>by
 obtain⟨y,hy,rfl⟩:=List.mem_map.1 hx
 exact Nat.xor_lt_two_pow (n:=8) (h y hy) hc
theorem u8_xor_nat (a b:Nat)(ha:a<256)(hb:b<256):bits .xor .u8 (a:Int) (b:Int)=((a ^^^ b:Nat):Int):=by
 have c:a ^^^ b<2 ^ 8:=Nat.xor_lt_two_pow ha hb
 show IntKind.u8.wrap ((BitVec.ofInt 8 (a:Int) ^^^ BitVec.ofInt 8 (b:Int)).toNat:Int)=_
 rw [BitVec.toNat_xor,BitVec.ofInt_natCast,BitVec.ofInt_natCast,BitVec.toNat_ofNat,BitVec.toNat_ofNat,Nat.mod_eq_of_lt ha,Nat.mod_eq_of_lt hb,IntKind.wrap_u8]
 have d:a ^^^ b<256:=c
 omega
theorem xorRow {w:World}{g:Nat}{t:TypeId}{K:List Nat}{c j:Nat}(h:Row w g t (byV (xorL c (K.take j)++K.drop j)))(hl:K.length=64)(hj:j<64):Row w g t (byV (xorL c (K.take j)) ++ [.int .u8 (K.getD j 0:Nat)]++byV (K.drop (j+1))):=by
 have e:K.drop j=K.getD j 0 :: K.drop (j+1):=by
  rw [List.drop_eq_getElem_cons (by omega),Z0b _ _ (by omega)]
 rw [Z05,e] at h
 have a:byV (K.getD j 0 :: K.drop (j+1))= [.int .u8 (K.getD j 0:Nat)]++byV (K.drop (j+1)):=rfl
 rw [a,← List.append_assoc] at h
 exact h
theorem xorStep (K:List Nat)(j b b1 c:Nat)(hl:K.length=64)(hj:j<64)(hb:b=K.getD j 0)(h1:b1=b ^^^ c):byV (xorL c (K.take j)) ++ [.int .u8 (b1:Nat)]++byV (K.drop (j+1))=byV (xorL c (K.take (j+1))++K.drop (j+1)):=by
 rw [List.take_succ_eq_append_getElem (by omega),xorL,xorL,List.map_append,Z05,Z05,h1,hb,Z0b _ _ (by omega)]
 rfl
def mix0:List Value:=mixV st0 (List.replicate 64 (.int .u8 0)) 0 0
set_option maxRecDepth 100000 in
theorem fold_one:Array.foldl (fun cs x=>cs.setIfInBounds x.snd x.fst) (mixZ++mixZ).toArray ((mixV st0 (List.replicate 64 (.int .u8 0)) 0 0).toArray).zipIdx 0 75=(mix0++mixZ).toArray:=by kernel_rfl
set_option maxRecDepth 100000 in
theorem fold_two:Array.foldl (fun cs x=>cs.setIfInBounds (75+x.snd) x.fst) (mix0++mixZ).toArray ((mixV st0 (List.replicate 64 (.int .u8 0)) 0 0).toArray).zipIdx 0 75=(mix0++mix0).toArray:=by kernel_rfl
theorem mix0_one:((mix0++mix0).toArray).all (·.oneCell')=true:=by kernel_rfl
theorem Z08 (l:List Nat)(h:Z03 l):Z00 (strOfNums (l.map fun (x:Nat)=>(x:Int)))=l:=by
 unfold Z00 strOfNums
 rw [List.map_map,List.map_map]
 conv=>rhs;rw [← List.map_id l]
 refine List.map_congr_left fun x a=> ?_
 have a:=h x a
 simp
 omega
theorem Z1A (w:World)(g:Nat)(t:TypeId)(l:List Nat)(hl:l.length=64)(hr:Row w g t (byV l)):(convert 90 9 (.slice (some ⟨g,0,none⟩) 64 64)).run prog w= .ok (.string (strOfNums (l.map fun (x:Nat)=>(x:Int)))) w :=
 run_convert_bytes_arg (P:=prog) w 90 5 underlying90 underlying5 g 0 64 64 (l.map fun (x:Nat)=>(x:Int)) (by simp [hl]) (fun i hi=>by
  rw [Nat.zero_add,hr.cell,Z0s _ _ (by omega),Z0b _ _ (by omega)]
  simp [List.getD,hl,hi]) 9 underlying9
theorem Z6V {w:World}{B:Nat}{t:TypeId}{A C:List Value}{l:List Nat}{n:Nat}(h:Z4i w B t A C l n):B≤w.heap.size:=by
 obtain⟨R,_,_,a⟩:=h
 exact Nat.le_of_lt a.lt
def Z1Q (R:List Value):Prop:=R.length=64∧∀ v∈R,v.oneCell'=true
def keyV (K:List Nat)(R1 R2:List Value):List Value:=mixV (Z0e (xorL 54 K) 1) R1 0 64++mixV (Z0e (xorL 92 K) 1) R2 0 64
theorem Z5A:∀ v∈List.replicate 64 (Value.int .u8 0),v.oneCell'=true:=fun v hv=>by rw [List.eq_of_mem_replicate hv];rfl
theorem key_one (ip op:List Nat)(R1 R2:List Value)(h1:∀ v∈R1,v.oneCell'=true)(h2:∀ v∈R2,v.oneCell'=true):((mixV (Z0e ip (64/64)) (byV []++R1) (64%64) 64++mixV (Z0e op (64/64)) (byV []++R2) (64%64) 64).toArray).all (·.oneCell')=true:=by
 refine all_oneCell_toArray fun v hv=> ?_
 simp only [mixV,mixA,mixT,byV,List.map_nil,List.nil_append,List.mem_append,List.mem_cons,List.not_mem_nil,or_false] at hv
 rcases hv with (((rfl | rfl | rfl | rfl | rfl | rfl | rfl | rfl | rfl) | hv) | rfl | rfl) | (((rfl | rfl | rfl | rfl | rfl | rfl | rfl | rfl | rfl) | hv) | rfl | rfl)
 all_goals first
  | exact h1 v hv
  | exact h2 v hv
  | rfl
theorem heap3_new (w:World)(o1 o2:Obj)(cs:Array Value)(t:TypeId):(((w.alloc o1).alloc o2).alloc (.cells cs t)).heap[w.heap.size+1+1]? = some (.cells cs t (0,0)):=by
 have:=heap_alloc_new ((w.alloc o1).alloc o2) (.cells cs t)
 simpa using this
set_option maxRecDepth 10000 in
theorem keyOf_short (s:ByteArray)(hs:s.size≤64)(w:World)(hf:Z3p w)(hq:Z0H w) :
  Calls prog 62 #[.string s] w fun e w'=> ∃ R1 R2,Z1Q R1∧Z1Q R2∧e= .returned (.agg (keyV (padK (Z00 s)) R1 R2).toArray)∧Below w.heap.size w w':=by
 have h1:¬ (64:Int)<s.size:=by omega
 obtain⟨r,Z⟩:∃ r:Array Value,r=(List.replicate 64 (Value.int .u8 0)).toArray:=⟨_,rfl⟩
 have cj:∀ w,(zeroValue 148).run prog w= .ok (.agg r) w:=by rw [Z];exact (zero_of_info (n:=64) (by kernel_rfl)).1
 have cl:r.size=64:=by rw [Z];rfl
 obtain⟨J,R⟩:∃ J:Array Value,J=(mixZ++mixZ).toArray:=⟨_,rfl⟩
 have cn:∀ w,(zeroValue 152).run prog w= .ok (.agg J) w:=by rw [R];exact (zero_of_info (n:=150) (by kernel_rfl)).1
 have cb:J.size=150:=by rw [R];rfl
 obtain⟨H,hH⟩:∃ H,H=w.heap.size:=⟨_,rfl⟩
 have m:Row (((w.alloc (.cells J 152)).alloc (.cells r 148)).alloc (.cells r 148)) (H+1) 148 (List.replicate 64 (Value.int .u8 0)):=by
  rw [hH,Z];exact (Below.heap_alloc _ _ _ (by simp)).trans (heap_alloc2_new w _ _)
 have aq:Row (((w.alloc (.cells J 152)).alloc (.cells r 148)).alloc (.cells r 148)) (H+1+1) 148 (List.replicate 64 (Value.int .u8 0)):=by
  rw [hH,Z];exact heap3_new w _ _ _ _
 have av:Row (((w.alloc (.cells J 152)).alloc (.cells r 148)).alloc (.cells r 148)) H 152 (mixZ++mixZ):=by
  rw [hH,R];exact (Below.heap_alloc _ _ _ (by simp;omega)).trans (heap_alloc2_old w _ _)
 have bb:Below H w (((w.alloc (.cells J 152)).alloc (.cells r 148)).alloc (.cells r 148)):=by
  rw [hH];exact (((Below.refl _ _).alloc (Nat.le_refl _) _).alloc (by simp) _).alloc (by simp;omega) _
 have c8:Hid (J=(mixZ++mixZ).toArray):=R
 clear R Z
 obtain⟨w0,cf⟩:∃ w0,((w.alloc (.cells J 152)).alloc (.cells r 148)).alloc (.cells r 148)=w0:=⟨_,rfl⟩
 rw [cf] at m aq av bb
 have hn:(byV (Z00 s)).length=s.size:=by simp [byV,Z01]
 have hv:(s.data.toList.map fun x=>Value.int .u8 (x.toNat:Int))=byV (Z00 s):=by simp [byV,Z00]
 have aw:byV (padK (Z00 s))=byV (Z00 s)++List.replicate (64-s.size) (Value.int .u8 0):=by rw [padK,Z05,Z1l,Z01]
 have X:List.replicate 64 (Value.int .u8 0)= []++List.replicate s.size (Value.int .u8 0)++List.replicate (64-s.size) (Value.int .u8 0):=by
  rw [List.nil_append,List.replicate_append_replicate];congr 1;omega
 have bv:=run_copy_string (P:=prog) w0 90 9 3 5 (H+1) 0 64 64 s underlying90 Z2W hs (fun j hj=>by
  rw [m.cell,List.getElem?_eq_getElem (by simp;omega)];rfl) (fun j _=>m.frozen _)
 rw [hv] at bv
 have ax:Row (w0.setCells (H+1) 0 (byV (Z00 s))) (H+1) 148 (byV (padK (Z00 s))):=by
  rw [X] at m
  have:=Row.setCells (byV (Z00 s)) _ _ w0 0 (by rw [hn];simp) rfl m
  rw [aw];simpa using this
 have S:Only (H+1) w0 (w0.setCells (H+1) 0 (byV (Z00 s))):=Only.setCells _ _ _ (Only.refl _ _)
 obtain⟨w1,c1⟩:∃ w1,w0.setCells (H+1) 0 (byV (Z00 s))=w1:=⟨_,rfl⟩
 rw [c1] at bv ax S
 have A:=aq.only S (by omega)
 have p:=av.only S (by omega)
 have af:=run_copy_string (P:=prog) w1 90 9 3 5 (H+1+1) 0 64 64 s underlying90 Z2W hs (fun j hj=>by
  rw [A.cell,List.getElem?_eq_getElem (by simp;omega)];rfl) (fun j _=>A.frozen _)
 rw [hv] at af
 have a7:Row (w1.setCells (H+1+1) 0 (byV (Z00 s))) (H+1+1) 148 (byV (padK (Z00 s))):=by
  rw [X] at A
  have:=Row.setCells (byV (Z00 s)) _ _ w1 0 (by rw [hn];simp) rfl A
  rw [aw];simpa using this
 have d:Only (H+1+1) w1 (w1.setCells (H+1+1) 0 (byV (Z00 s))):=Only.setCells _ _ _ (Only.refl _ _)
 obtain⟨w2,bq⟩:∃ w2,w1.setCells (H+1+1) 0 (byV (Z00 s))=w2:=⟨_,rfl⟩
 rw [bq] at af a7 d
 have l:=ax.only d (by omega)
 have g:=p.only d (by omega)
 have D:Below H w w2:=(bb.trans ((S.below (Nat.le_of_lt m.lt)).mono (by omega))).trans ((d.below (Nat.le_of_lt A.lt)).mono (by omega))
 obtain⟨K,hK⟩:∃ K,K=padK (Z00 s):=⟨_,rfl⟩
 have b4:Z03 K:=by rw [hK];exact Z2T (Z04 s)
 have C:K.length=64:=by rw [hK];exact Z2s _ (by rw [Z01];exact hs)
 rw [← hK] at l a7
 have HW:Hid (H=w.heap.size∧K=padK (Z00 s)∧Row w2 (H+1) 148 (byV K)∧Row w2 (H+1+1) 148 (byV K)∧Row w2 H 152 (mixZ++mixZ)∧Below H w w2):=⟨hH,hK,l,a7,g,D⟩
 have cq:w.heap.size=H:=hH.symm
 clear m aq av bb ax A p S d l a7 g D c1 bq hn hv aw X hK hH
 go_enter func62,ntmps62
 go_wp2_with fail
 go_loopw [18] (fun i wr=> ∃ j:Nat,j≤64∧i= .int .i64 j∧Row wr (H+1) 148 (byV (xorL 54 (K.take j)++K.drop j))∧Row wr (H+1+1) 148 (byV (xorL 92 (K.take j)++K.drop j))∧Row wr H 152 (mixZ++mixZ)∧Below H w wr) (fun i _=>64-(intOf i).toNat)
 case atStart=>exact⟨0,Nat.zero_le _,rfl,HW.out.2.2.1,HW.out.2.2.2.1,HW.out.2.2.2.2.1,HW.out.2.2.2.2.2⟩
 case round =>
  obtain⟨j,hj,rfl,hx,hy,hk,hb⟩:=hrel
  by_cases a8:j<64
  ·obtain⟨b,N⟩:∃ b,b=K.getD j 0:=⟨_,rfl⟩
   have lb:b<256:=by rw [N];exact Z0k (by decide) b4 j
   have V:=(xorRow hx C a8)
   have a5:=(xorRow hy C a8)
   rw [← N] at V a5
   have lx:∀ c,(byV (xorL c (K.take j))).length=j:=fun c=>by simp [byV,Z0a];omega
   have cx:=V.at (lx 54).symm
   have cy:=a5.at (lx 92).symm
   have fx:wr.frozen? ⟨H+1,j,none⟩=false:=hx.frozen j
   have fy:wr.frozen? ⟨H+1+1,j,none⟩=false:=hy.frozen j
   have bx:bits .xor .u8 (b:Int) 54=((b ^^^ 54:Nat):Int):=u8_xor_nat b 54 lb (by decide)
   have c6:bits .xor .u8 (b:Int) 92=((b ^^^ 92:Nat):Int):=u8_xor_nat b 92 lb (by decide)
   obtain⟨b1,az⟩:∃ b1,b1=b ^^^ 54:=⟨_,rfl⟩
   obtain⟨b2,D⟩:∃ b2,b2=b ^^^ 92:=⟨_,rfl⟩
   rw [← az] at bx
   rw [← D] at c6
   have l:=V.set (.int .u8 (b1:Nat)) (lx 54).symm
   have d:Only (H+1) wr (wr.setCell ⟨H+1,j,none⟩ (.int .u8 (b1:Nat))):=(Only.refl _ _).setCell _ _
   obtain⟨w3,c9⟩:∃ w3,wr.setCell ⟨H+1,j,none⟩ (.int .u8 (b1:Nat))=w3:=⟨_,rfl⟩
   rw [c9] at l d
   have k:=a5.only d (by omega)
   have cp:=k.at (lx 92).symm
   have co:w3.frozen? ⟨H+1+1,j,none⟩=false:=k.frozen j
   have a3:=k.set (.int .u8 (b2:Nat)) (lx 92).symm
   have M:Only (H+1+1) w3 (w3.setCell ⟨H+1+1,j,none⟩ (.int .u8 (b2:Nat))):=(Only.refl _ _).setCell _ _
   obtain⟨w4,cc⟩:∃ w4,w3.setCell ⟨H+1+1,j,none⟩ (.int .u8 (b2:Nat))=w4:=⟨_,rfl⟩
   rw [cc] at a3 M
   have al:=l.only M (by omega)
   have bu:=(hk.only d (by omega)).only M (by omega)
   have bn:Below H w w4:=(hb.trans ((d.below (Nat.le_of_lt V.lt)).mono (by omega))).trans ((M.below (Nat.le_of_lt k.lt)).mono (by omega))
   rw [xorStep K j b b1 54 C a8 N az] at al
   rw [xorStep K j b b2 92 C a8 N D] at a3
   have F:Hid (Row w4 (H+1) 148 (byV (xorL 54 (K.take (j+1))++K.drop (j+1)))∧Row w4 (H+1+1) 148 (byV (xorL 92 (K.take (j+1))++K.drop (j+1)))∧Row w4 H 152 (mixZ++mixZ)∧Below H w w4):=⟨al,a3,bu,bn⟩
   have cm:(j:Int)<64:=by omega
   clear hx hy hk hb V a5 l d k a3 M al bu bn az D N lx cy fy
   go_wp2_with fail
   go_roundw
   case rel=>exact⟨j+1,by omega,by go_num,F.out.1,F.out.2.1,F.out.2.2.1,F.out.2.2.2⟩
   case measure=>simp [intOf];omega
  ·obtain rfl:j=64:=by omega
   rw [List.take_of_length_le (by omega),List.drop_eq_nil_of_le (by omega),List.append_nil] at hx hy
   have F:Hid (Row wr (H+1) 148 (byV (xorL 54 K))∧Row wr (H+1+1) 148 (byV (xorL 92 K))∧Row wr H 152 (mixZ++mixZ)∧Below H w wr):=⟨hx,hy,hk,hb⟩
   clear hx hy hk hb
   have ay:=fun w' (h:Z3p w')=>Z7K w' h
   obtain⟨ms,T⟩:∃ ms,ms=(mixV st0 (List.replicate 64 (.int .u8 0)) 0 0).toArray:=⟨_,rfl⟩
   rw [← T] at ay
   have ar:Hid (∀ w',Z3p w'→Calls prog 103 #[] w' fun e w''=>e= .returned (.agg ms)∧Below w'.heap.size w' w''):=ay
   have ca:ms.size=75:=by rw [T];rfl
   obtain⟨k1,p⟩:∃ k1,k1=(mix0++mixZ).toArray:=⟨_,rfl⟩
   obtain⟨I,g⟩:∃ I,I=(mix0++mix0).toArray:=⟨_,rfl⟩
   have br:Array.foldl (fun f x=>f.setIfInBounds x.snd x.fst) J ms.zipIdx 0 75=k1:=by rw [p,T,c8.out];exact fold_one
   have bh:Array.foldl (fun f x=>f.setIfInBounds (75+x.snd) x.fst) k1 ms.zipIdx 0 75=I:=by rw [p,g,T];exact fold_two
   have c2:k1.size=150:=by rw [p];rfl
   have W:I.size=150:=by rw [g];rfl
   have t:I.all (·.oneCell')=true:=by rw [g];exact mix0_one
   have a:(prog.info? 152).map (·.size)=some I.size:=by rw [W];kernel_rfl
   have a1:J.size=I.size:=by rw [cb,W]
   have cd:Hid (I=(mix0++mix0).toArray):=g
   clear ay T p g
   have E:=F.out.2.2.2
   have ak:Z3p wr:=hf.below E (by have:=hf.1;omega)
   go_wp2_with fail
   refine (ar.out wr ak).mono ?_
   rintro e w5 ⟨rfl,a6⟩
   have bm:Z3p w5:=ak.below a6 ak.1
   go_wp2_with fail
   refine (ar.out w5 bm).mono ?_
   rintro e w6 ⟨rfl,c5⟩
   have q:=a6.trans (c5.mono a6.size)
   clear a6 c5 bm
   go_wp2_with (refine wpList_store_row rfl 152 _ _ rfl w6.heap.size I rfl rfl 152 _ (heap_alloc_new w6 _) a a1 t ?_)
   rw [World.setRow_alloc_new]
   have k7:Row (w6.alloc (.cells I 152)) w6.heap.size 152 (mix0++mix0):=by rw [cd.out];exact heap_alloc_new w6 _
   have o:=q.alloc q.size (.cells I 152)
   obtain⟨B,a4⟩:∃ B,B=w6.heap.size:=⟨_,rfl⟩
   have cg:wr.heap.size≤B:=by rw [a4];exact q.size
   rw [← a4] at k7
   rw [← a4]
   obtain⟨w7,b6⟩:∃ w7,w6.alloc (.cells I 152)=w7:=⟨_,rfl⟩
   rw [b6] at k7 o
   rw [b6]
   clear b6 a4 q a a1 t c2 br bh ar ca W
   have b5:=F.out.1.below o F.out.1.lt
   have ap:=F.out.2.1.below o F.out.2.1.lt
   have bk:=F.out.2.2.1.below o F.out.2.2.1.lt
   have bw:Z0H w7:=(hq.below E (by have:=hq.1;omega)).below o (hq.below E (by have:=hq.1;omega)).1
   have ah:Below H w w7:=E.trans (o.mono (by have:=E.size;omega))
   have bp:Z4i w7 B 152 [] mix0 [] 0:=⟨List.replicate 64 (.int .u8 0),rfl,Z5A,k7⟩
   have y:(xorL 54 K).length=64:=by rw [Z0a];exact C
   have u:(xorL 92 K).length=64:=by rw [Z0a];exact C
   have aj:Z03 (xorL 54 K):=Z1a (by decide) b4
   have ac:Z03 (xorL 92 K):=Z1a (by decide) b4
   obtain⟨z,b8⟩:∃ z,z=xorL 54 K:=⟨_,rfl⟩
   obtain⟨G,bc⟩:∃ G,G=xorL 92 K:=⟨_,rfl⟩
   rw [← b8] at b5 y aj
   rw [← bc] at ap u ac
   have ci:H+1+1<B:=by have:=F.out.2.1.lt;omega
   have b3:2<B:=by have:=hq.1;omega
   have U:=Z1A w7 (H+1) 148 z y b5
   obtain⟨sx,ao⟩:∃ sx,sx=strOfNums (z.map fun (x:Nat)=>(x:Int)):=⟨_,rfl⟩
   have bz:Z00 sx=z:=by rw [ao];exact Z08 z aj
   rw [← ao] at U
   have O:Hid (Z4i w7 B 152 [] mix0 [] 0∧Row w7 (H+1+1) 148 (byV G)∧Row w7 H 152 (mixZ++mixZ)∧Z0H w7∧Below H w w7∧Z00 sx=z∧z=xorL 54 K∧G=xorL 92 K):=⟨bp,ap,bk,bw,ah,bz,b8,bc⟩
   clear b5 ap bk bw ah bp b8 bc ao bz k7 o E
   have ck:sx.size=64:=by rw [← Z01,O.out.2.2.2.2.2.1,y]
   go_wp2_with fail
   rw [U]
   go_wp2_with fail
   refine (Z6U B 0 152 [] mix0 rfl [] (fun x hx=>by simp at hx) sx (by simp;omega) w7 O.out.2.2.2.1 b3 O.out.1).mono ?_
   rintro e w8 ⟨rfl,bo,Q⟩
   rw [List.nil_append,O.out.2.2.2.2.2.1] at bo
   have c0:=O.out.2.1.only Q (by omega)
   have c4:=O.out.2.2.1.only Q (by omega)
   have c3:=O.out.2.2.2.1.only Q b3
   obtain⟨R1,b9,ai,a2⟩:=bo
   have aa:Below H w w8:=O.out.2.2.2.2.1.trans ((Q.below (Z6V O.out.1)).mono (by omega))
   rw [y] at a2 b9
   have bs:z.drop (64*(64/64))= []:=List.drop_eq_nil_of_le (by omega)
   rw [bs] at a2
   have L:(mixV (Z0e z (64/64)) (byV []++R1) (64%64) 64).length=75:=by simp [mixV,mixA,mixT,byV,b9]
   have b7:Z4i w8 B 152 (mixV (Z0e z (64/64)) (byV []++R1) (64%64) 64) [] [] 0:=⟨List.replicate 64 (.int .u8 0),rfl,Z5A,by
    rw [List.append_nil]
    exact a2⟩
   obtain⟨AA,au⟩:∃ AA,AA=mixV (Z0e z (64/64)) (byV []++R1) (64%64) 64:=⟨_,rfl⟩
   rw [← au] at b7 L
   have ag:=Z1A w8 (H+1+1) 148 G u c0
   obtain⟨sy,b0⟩:∃ sy,sy=strOfNums (G.map fun (x:Nat)=>(x:Int)):=⟨_,rfl⟩
   have bg:Z00 sy=G:=by rw [b0];exact Z08 G ac
   rw [← b0] at ag
   have H8:Hid (Z4i w8 B 152 AA [] [] 0∧Row w8 H 152 (mixZ++mixZ)∧Z0H w8∧Below H w w8∧Z00 sy=G∧AA=mixV (Z0e z (64/64)) (byV []++R1) (64%64) 64∧75=AA.length):=⟨b7,c4,c3,aa,bg,au,L.symm⟩
   clear c0 c4 c3 a2 aa bs L b7 au b0 bg Q U
   have ch:sy.size=64:=by rw [← Z01,H8.out.2.2.2.2.1,u]
   go_wp2_with fail
   refine (Z6U B 75 152 AA [] H8.out.2.2.2.2.2.2 [] (fun x hx=>by simp at hx) sy (by simp;omega) w8 H8.out.2.2.1 b3 H8.out.1).mono ?_
   rintro e w9 ⟨rfl,bi,bd⟩
   rw [List.nil_append,H8.out.2.2.2.2.1] at bi
   have bj:=H8.out.2.1.only bd (by omega)
   obtain⟨R2,a9,ad,a0⟩:=bi
   have ae:Below H w w9:=H8.out.2.2.2.1.trans ((bd.below (Z6V H8.out.1)).mono (by omega))
   rw [u] at a0 a9
   have bf:G.drop (64*(64/64))= []:=List.drop_eq_nil_of_le (by omega)
   rw [bf,List.append_nil] at a0
   obtain⟨f,Y⟩:∃ f,f=(AA++mixV (Z0e G (64/64)) (byV []++R2) (64%64) 64).toArray:=⟨_,rfl⟩
   have ce:w9.heap[B]? = some (.cells f 152 (0,0)):=by rw [Y];exact a0
   have bt:f.size=150:=by
    have:=H8.out.2.2.2.2.2.2
    rw [Y];simp [mixV,mixA,mixT,byV,a9];omega
   have t:f.all (·.oneCell')=true:=by rw [Y];rw [H8.out.2.2.2.2.2.1];exact key_one z G R1 R2 ai ad
   have ba:Hid (f=(keyV (padK (Z00 s)) R1 R2).toArray∧Z1Q R1∧Z1Q R2):=⟨by
    rw [Y,H8.out.2.2.2.2.2.1,O.out.2.2.2.2.2.2.1,O.out.2.2.2.2.2.2.2,HW.out.2.1];rfl,⟨b9,ai⟩,⟨a9,ad⟩⟩
   have a:(prog.info? 152).map (·.size)=some f.size:=by rw [bt];kernel_rfl
   have ab:w9.heap[H]? = some (.cells (mixZ++mixZ).toArray 152 (0,0)):=bj
   have a1:(mixZ++mixZ).toArray.size=f.size:=by rw [bt];rfl
   have bl:=Z0l ae (Nat.le_refl H) f
   have c7:=run_loadVar_row (P:=prog) (w9.setRow H f) H 152 152 f (0,0) _ (setRow_heap _ _ _ _ _ _ ab) underlying152 rfl a
   have HB:Hid (Below w.heap.size w (w9.setRow H f)):=by
    show Below _ _ _
    rw [← HW.out.1]
    exact bl
   clear a0 a9 bf Y ae bd bl ag bj
   go_wp2_with (first | refine wpList_load_row rfl 152 _ rfl B rfl 152 _ (0,0) _ ce underlying152 rfl a ?_ | refine wpList_store_row rfl 152 _ _ rfl H f rfl rfl 152 _ ab a a1 t ?_)
   exact bodyPost_ret (v:= .agg f) (by simp [results,Tryz.results62,asAddr,Act.put,c7]) rfl ⟨R1,R2,ba.out.2.1,ba.out.2.2,by rw [ba.out.1],HB.out⟩
set_option maxRecDepth 10000 in
theorem keyOf_long (s0:ByteArray)(hs0:64<s0.size)(hs1:s0.size<1099511627776)(w:World)(hf:Z3p w)(hq:Z0H w) :
  Calls prog 62 #[.string s0] w fun e w'=> ∃ R1 R2,Z1Q R1∧Z1Q R2∧e= .returned (.agg (keyV (padK (shaL (Z00 s0))) R1 R2).toArray)∧Below w.heap.size w w':=by
 have h1:(64:Int)<s0.size:=by omega
 obtain⟨k,aa⟩:∃ k:Array Value,k=(List.replicate 64 (Value.int .u8 0)).toArray:=⟨_,rfl⟩
 have ct:∀ w,(zeroValue 148).run prog w= .ok (.agg k) w:=by rw [aa];exact (zero_of_info (n:=64) (by kernel_rfl)).1
 have cw:k.size=64:=by rw [aa];rfl
 obtain⟨z,S⟩:∃ z:Array Value,z=(mixZ++mixZ).toArray:=⟨_,rfl⟩
 have d1:∀ w,(zeroValue 152).run prog w= .ok (.agg z) w:=by rw [S];exact (zero_of_info (n:=150) (by kernel_rfl)).1
 have ck:z.size=150:=by rw [S];rfl
 have hA:Below w.heap.size w (w.alloc (.cells z 152)):=(Below.refl _ _).alloc (Nat.le_refl _) _
 have b8:Row (w.alloc (.cells z 152)) w.heap.size 152 (mixZ++mixZ):=by rw [S];exact heap_alloc_new w _
 have bq:Z3p (w.alloc (.cells z 152)):=hf.below hA hf.1
 have bs:Z0H (w.alloc (.cells z 152)):=hq.below hA hq.1
 have HS:Hid (Calls prog 102 #[.string s0] (w.alloc (.cells z 152)) fun e w'=>e= .returned (.string (shaS (Z00 s0)))∧Below (w.alloc (.cells z 152)).heap.size (w.alloc (.cells z 152)) w'):=sum_any s0 hs1 _ bq bs
 have ax:Hid (z=(mixZ++mixZ).toArray∧k=(List.replicate 64 (Value.int .u8 0)).toArray):=⟨S,aa⟩
 clear S aa
 go_enter func62,ntmps62
 go_wp2_with fail
 refine HS.out.mono ?_
 rintro e L ⟨rfl,a5⟩
 obtain⟨s,bl⟩:∃ s,s=shaS (Z00 s0):=⟨_,rfl⟩
 have bh:Z00 s=shaL (Z00 s0):=by rw [bl];exact Z08 _ (Z1n _)
 have hs:s.size≤64:=by rw [← Z01,bh,Z09];decide
 rw [← bl]
 have cj:Hid (Z00 s=shaL (Z00 s0)):=bh
 clear bl bh HS
 obtain⟨H,hH⟩:∃ H,H=w.heap.size:=⟨_,rfl⟩
 obtain⟨X,hX⟩:∃ X,X=L.heap.size:=⟨_,rfl⟩
 have cv:H<X:=by have:=a5.size;simp at this;omega
 have o:Row ((L.alloc (.cells k 148)).alloc (.cells k 148)) X 148 (List.replicate 64 (Value.int .u8 0)):=by
  rw [hX,ax.out.2];exact heap_alloc2_old L _ _
 have au:Row ((L.alloc (.cells k 148)).alloc (.cells k 148)) (X+1) 148 (List.replicate 64 (Value.int .u8 0)):=by
  rw [hX,ax.out.2];exact heap_alloc2_new L _ _
 have bj:Below L.heap.size L ((L.alloc (.cells k 148)).alloc (.cells k 148)):=((Below.refl _ _).alloc (Nat.le_refl _) _).alloc (by simp) _
 have ay:Row ((L.alloc (.cells k 148)).alloc (.cells k 148)) H 152 (mixZ++mixZ):=by
  rw [← hH] at b8
  exact (b8.below a5 (by simp;omega)).below bj (by omega)
 have bg:Below H w ((L.alloc (.cells k 148)).alloc (.cells k 148)):=by
  rw [← hH] at hA
  exact (hA.trans (a5.mono (by simp;omega))).trans (bj.mono (by omega))
 clear hA b8 bq bs a5 bj
 obtain⟨w0,co⟩:∃ w0,(L.alloc (.cells k 148)).alloc (.cells k 148)=w0:=⟨_,rfl⟩
 rw [co] at o au ay bg
 have hn:(byV (Z00 s)).length=s.size:=by simp [byV,Z01]
 have hv:(s.data.toList.map fun x=>Value.int .u8 (x.toNat:Int))=byV (Z00 s):=by simp [byV,Z00]
 have az:byV (padK (Z00 s))=byV (Z00 s)++List.replicate (64-s.size) (Value.int .u8 0):=by rw [padK,Z05,Z1l,Z01]
 have Z:List.replicate 64 (Value.int .u8 0)= []++List.replicate s.size (Value.int .u8 0)++List.replicate (64-s.size) (Value.int .u8 0):=by
  rw [List.nil_append,List.replicate_append_replicate];congr 1;omega
 have c6:=run_copy_string (P:=prog) w0 90 9 3 5 (X) 0 64 64 s underlying90 Z2W hs (fun j hj=>by
  rw [o.cell,List.getElem?_eq_getElem (by simp;omega)];rfl) (fun j _=>o.frozen _)
 rw [hv] at c6
 have b0:Row (w0.setCells (X) 0 (byV (Z00 s))) (X) 148 (byV (padK (Z00 s))):=by
  rw [Z] at o
  have:=Row.setCells (byV (Z00 s)) _ _ w0 0 (by rw [hn];simp) rfl o
  rw [az];simpa using this
 have T:Only (X) w0 (w0.setCells (X) 0 (byV (Z00 s))):=Only.setCells _ _ _ (Only.refl _ _)
 obtain⟨w1,ca⟩:∃ w1,w0.setCells (X) 0 (byV (Z00 s))=w1:=⟨_,rfl⟩
 rw [ca] at c6 b0 T
 have B:=au.only T (by omega)
 have q:=ay.only T (by omega)
 have ah:=run_copy_string (P:=prog) w1 90 9 3 5 (X+1) 0 64 64 s underlying90 Z2W hs (fun j hj=>by
  rw [B.cell,List.getElem?_eq_getElem (by simp;omega)];rfl) (fun j _=>B.frozen _)
 rw [hv] at ah
 have a8:Row (w1.setCells (X+1) 0 (byV (Z00 s))) (X+1) 148 (byV (padK (Z00 s))):=by
  rw [Z] at B
  have:=Row.setCells (byV (Z00 s)) _ _ w1 0 (by rw [hn];simp) rfl B
  rw [az];simpa using this
 have d:Only (X+1) w1 (w1.setCells (X+1) 0 (byV (Z00 s))):=Only.setCells _ _ _ (Only.refl _ _)
 obtain⟨w2,c1⟩:∃ w2,w1.setCells (X+1) 0 (byV (Z00 s))=w2:=⟨_,rfl⟩
 rw [c1] at ah a8 d
 have m:=b0.only d (by omega)
 have g:=q.only d (by omega)
 have E:Below H w w2:=(bg.trans ((T.below (Nat.le_of_lt o.lt)).mono (by omega))).trans ((d.below (Nat.le_of_lt B.lt)).mono (by omega))
 obtain⟨K,hK⟩:∃ K,K=padK (Z00 s):=⟨_,rfl⟩
 have b7:Z03 K:=by rw [hK];exact Z2T (Z04 s)
 have D:K.length=64:=by rw [hK];exact Z2s _ (by rw [Z01];exact hs)
 rw [← hK] at m a8
 have HW:Hid (H=w.heap.size∧K=padK (Z00 s)∧Row w2 (X) 148 (byV K)∧Row w2 (X+1) 148 (byV K)∧Row w2 H 152 (mixZ++mixZ)∧Below H w w2):=⟨hH,hK,m,a8,g,E⟩
 have d4:w.heap.size=H:=hH.symm
 have cz:L.heap.size=X:=hX.symm
 clear o au ay bg b0 B q T d m a8 g E ca c1 hn hv az Z hK hH hX
 go_wp2_with fail
 go_loopw [18] (fun i wr=> ∃ j:Nat,j≤64∧i= .int .i64 j∧Row wr (X) 148 (byV (xorL 54 (K.take j)++K.drop j))∧Row wr (X+1) 148 (byV (xorL 92 (K.take j)++K.drop j))∧Row wr H 152 (mixZ++mixZ)∧Below H w wr) (fun i _=>64-(intOf i).toNat)
 case atStart=>exact⟨0,Nat.zero_le _,rfl,HW.out.2.2.1,HW.out.2.2.2.1,HW.out.2.2.2.2.1,HW.out.2.2.2.2.2⟩
 case round =>
  obtain⟨j,hj,rfl,hx,hy,hk,hb⟩:=hrel
  by_cases a9:j<64
  ·obtain⟨b,O⟩:∃ b,b=K.getD j 0:=⟨_,rfl⟩
   have lb:b<256:=by rw [O];exact Z0k (by decide) b7 j
   have W:=(xorRow hx D a9)
   have a6:=(xorRow hy D a9)
   rw [← O] at W a6
   have lx:∀ c,(byV (xorL c (K.take j))).length=j:=fun c=>by simp [byV,Z0a];omega
   have cx:=W.at (lx 54).symm
   have cy:=a6.at (lx 92).symm
   have fx:wr.frozen? ⟨X,j,none⟩=false:=hx.frozen j
   have fy:wr.frozen? ⟨X+1,j,none⟩=false:=hy.frozen j
   have bx:bits .xor .u8 (b:Int) 54=((b ^^^ 54:Nat):Int):=u8_xor_nat b 54 lb (by decide)
   have cf:bits .xor .u8 (b:Int) 92=((b ^^^ 92:Nat):Int):=u8_xor_nat b 92 lb (by decide)
   obtain⟨b1,b4⟩:∃ b1,b1=b ^^^ 54:=⟨_,rfl⟩
   obtain⟨b2,E⟩:∃ b2,b2=b ^^^ 92:=⟨_,rfl⟩
   rw [← b4] at bx
   rw [← E] at cf
   have m:=W.set (.int .u8 (b1:Nat)) (lx 54).symm
   have d:Only (X) wr (wr.setCell ⟨X,j,none⟩ (.int .u8 (b1:Nat))):=(Only.refl _ _).setCell _ _
   obtain⟨w3,ch⟩:∃ w3,wr.setCell ⟨X,j,none⟩ (.int .u8 (b1:Nat))=w3:=⟨_,rfl⟩
   rw [ch] at m d
   have l:=a6.only d (by omega)
   have d3:=l.at (lx 92).symm
   have d2:w3.frozen? ⟨X+1,j,none⟩=false:=l.frozen j
   have a3:=l.set (.int .u8 (b2:Nat)) (lx 92).symm
   have N:Only (X+1) w3 (w3.setCell ⟨X+1,j,none⟩ (.int .u8 (b2:Nat))):=(Only.refl _ _).setCell _ _
   obtain⟨w4,cl⟩:∃ w4,w3.setCell ⟨X+1,j,none⟩ (.int .u8 (b2:Nat))=w4:=⟨_,rfl⟩
   rw [cl] at a3 N
   have ap:=m.only N (by omega)
   have c5:=(hk.only d (by omega)).only N (by omega)
   have bw:Below H w w4:=(hb.trans ((d.below (Nat.le_of_lt W.lt)).mono (by omega))).trans ((N.below (Nat.le_of_lt l.lt)).mono (by omega))
   rw [xorStep K j b b1 54 D a9 O b4] at ap
   rw [xorStep K j b b2 92 D a9 O E] at a3
   have G:Hid (Row w4 (X) 148 (byV (xorL 54 (K.take (j+1))++K.drop (j+1)))∧Row w4 (X+1) 148 (byV (xorL 92 (K.take (j+1))++K.drop (j+1)))∧Row w4 H 152 (mixZ++mixZ)∧Below H w w4):=⟨ap,a3,c5,bw⟩
   have d0:(j:Int)<64:=by omega
   clear hx hy hk hb W a6 m d l a3 N ap c5 bw b4 E O lx cy fy
   go_wp2_with fail
   go_roundw
   case rel=>exact⟨j+1,by omega,by go_num,G.out.1,G.out.2.1,G.out.2.2.1,G.out.2.2.2⟩
   case measure=>simp [intOf];omega
  ·obtain rfl:j=64:=by omega
   rw [List.take_of_length_le (by omega),List.drop_eq_nil_of_le (by omega),List.append_nil] at hx hy
   have G:Hid (Row wr (X) 148 (byV (xorL 54 K))∧Row wr (X+1) 148 (byV (xorL 92 K))∧Row wr H 152 (mixZ++mixZ)∧Below H w wr):=⟨hx,hy,hk,hb⟩
   clear hx hy hk hb
   have b3:=fun w' (h:Z3p w')=>Z7K w' h
   obtain⟨ms,U⟩:∃ ms,ms=(mixV st0 (List.replicate 64 (.int .u8 0)) 0 0).toArray:=⟨_,rfl⟩
   rw [← U] at b3
   have av:Hid (∀ w',Z3p w'→Calls prog 103 #[] w' fun e w''=>e= .returned (.agg ms)∧Below w'.heap.size w' w''):=b3
   have ci:ms.size=75:=by rw [U];rfl
   obtain⟨k1,q⟩:∃ k1,k1=(mix0++mixZ).toArray:=⟨_,rfl⟩
   obtain⟨J,g⟩:∃ J,J=(mix0++mix0).toArray:=⟨_,rfl⟩
   have c2:Array.foldl (fun f x=>f.setIfInBounds x.snd x.fst) z ms.zipIdx 0 75=k1:=by rw [q,U,ax.out.1];exact fold_one
   have bo:Array.foldl (fun f x=>f.setIfInBounds (75+x.snd) x.fst) k1 ms.zipIdx 0 75=J:=by rw [q,g,U];exact fold_two
   have cb:k1.size=150:=by rw [q];rfl
   have Y:J.size=150:=by rw [g];rfl
   have t:J.all (·.oneCell')=true:=by rw [g];exact mix0_one
   have a:(prog.info? 152).map (·.size)=some J.size:=by rw [Y];kernel_rfl
   have hs0:z.size=J.size:=by rw [ck,Y]
   have cm:Hid (J=(mix0++mix0).toArray):=g
   clear b3 U q g
   have F:=G.out.2.2.2
   have ao:Z3p wr:=hf.below F (by have:=hf.1;omega)
   go_wp2_with fail
   refine (av.out wr ao).mono ?_
   rintro e w5 ⟨rfl,a7⟩
   have bv:Z3p w5:=ao.below a7 ao.1
   go_wp2_with fail
   refine (av.out w5 bv).mono ?_
   rintro e w6 ⟨rfl,ce⟩
   have r:=a7.trans (ce.mono a7.size)
   clear a7 ce bv
   go_wp2_with (refine wpList_store_row rfl 152 _ _ rfl w6.heap.size J rfl rfl 152 _ (heap_alloc_new w6 _) a hs0 t ?_)
   rw [World.setRow_alloc_new]
   have k7:Row (w6.alloc (.cells J 152)) w6.heap.size 152 (mix0++mix0):=by rw [cm.out];exact heap_alloc_new w6 _
   have p:=r.alloc r.size (.cells J 152)
   obtain⟨C,a4⟩:∃ C,C=w6.heap.size:=⟨_,rfl⟩
   have cp:wr.heap.size≤C:=by rw [a4];exact r.size
   rw [← a4] at k7
   rw [← a4]
   obtain⟨w7,ba⟩:∃ w7,w6.alloc (.cells J 152)=w7:=⟨_,rfl⟩
   rw [ba] at k7 p
   rw [ba]
   clear ba a4 r a hs0 t cb c2 bo av ci Y
   have b9:=G.out.1.below p G.out.1.lt
   have ar:=G.out.2.1.below p G.out.2.1.lt
   have bt:=G.out.2.2.1.below p G.out.2.2.1.lt
   have c7:Z0H w7:=(hq.below F (by have:=hq.1;omega)).below p (hq.below F (by have:=hq.1;omega)).1
   have aj:Below H w w7:=F.trans (p.mono (by have:=F.size;omega))
   have c0:Z4i w7 C 152 [] mix0 [] 0:=⟨List.replicate 64 (.int .u8 0),rfl,Z5A,k7⟩
   have y:(xorL 54 K).length=64:=by rw [Z0a];exact D
   have u:(xorL 92 K).length=64:=by rw [Z0a];exact D
   have al:Z03 (xorL 54 K):=Z1a (by decide) b7
   have ae:Z03 (xorL 92 K):=Z1a (by decide) b7
   obtain⟨A,bc⟩:∃ A,A=xorL 54 K:=⟨_,rfl⟩
   obtain⟨I,bi⟩:∃ I,I=xorL 92 K:=⟨_,rfl⟩
   rw [← bc] at b9 y al
   rw [← bi] at ar u ae
   have cr:X+1<C:=by have:=G.out.2.1.lt;omega
   have b6:2<C:=by have:=hq.1;omega
   have V:=Z1A w7 (X) 148 A y b9
   obtain⟨sx,aq⟩:∃ sx,sx=strOfNums (A.map fun (x:Nat)=>(x:Int)):=⟨_,rfl⟩
   have c8:Z00 sx=A:=by rw [aq];exact Z08 A al
   rw [← aq] at V
   have Q:Hid (Z4i w7 C 152 [] mix0 [] 0∧Row w7 (X+1) 148 (byV I)∧Row w7 H 152 (mixZ++mixZ)∧Z0H w7∧Below H w w7∧Z00 sx=A∧A=xorL 54 K∧I=xorL 92 K):=⟨c0,ar,bt,c7,aj,c8,bc,bi⟩
   clear b9 ar bt c7 aj c0 bc bi aq c8 k7 p F
   have cu:sx.size=64:=by rw [← Z01,Q.out.2.2.2.2.2.1,y]
   go_wp2_with fail
   rw [V]
   go_wp2_with fail
   refine (Z6U C 0 152 [] mix0 rfl [] (fun x hx=>by simp at hx) sx (by simp;omega) w7 Q.out.2.2.2.1 b6 Q.out.1).mono ?_
   rintro e w8 ⟨rfl,bz,R⟩
   rw [List.nil_append,Q.out.2.2.2.2.2.1] at bz
   have c9:=Q.out.2.1.only R (by omega)
   have cd:=Q.out.2.2.1.only R (by omega)
   have cc:=Q.out.2.2.2.1.only R b6
   obtain⟨R1,bd,ak,a2⟩:=bz
   have ac:Below H w w8:=Q.out.2.2.2.2.1.trans ((R.below (Z6V Q.out.1)).mono (by omega))
   rw [y] at a2 bd
   have c3:A.drop (64*(64/64))= []:=List.drop_eq_nil_of_le (by omega)
   rw [c3] at a2
   have M:(mixV (Z0e A (64/64)) (byV []++R1) (64%64) 64).length=75:=by simp [mixV,mixA,mixT,byV,bd]
   have bb:Z4i w8 C 152 (mixV (Z0e A (64/64)) (byV []++R1) (64%64) 64) [] [] 0:=⟨List.replicate 64 (.int .u8 0),rfl,Z5A,by
    rw [List.append_nil]
    exact a2⟩
   obtain⟨AA,aw⟩:∃ AA,AA=mixV (Z0e A (64/64)) (byV []++R1) (64%64) 64:=⟨_,rfl⟩
   rw [← aw] at bb M
   have ai:=Z1A w8 (X+1) 148 I u c9
   obtain⟨sy,b5⟩:∃ sy,sy=strOfNums (I.map fun (x:Nat)=>(x:Int)):=⟨_,rfl⟩
   have bn:Z00 sy=I:=by rw [b5];exact Z08 I ae
   rw [← b5] at ai
   have H8:Hid (Z4i w8 C 152 AA [] [] 0∧Row w8 H 152 (mixZ++mixZ)∧Z0H w8∧Below H w w8∧Z00 sy=I∧AA=mixV (Z0e A (64/64)) (byV []++R1) (64%64) 64∧75=AA.length):=⟨bb,cd,cc,ac,bn,aw,M.symm⟩
   clear c9 cd cc a2 ac c3 M bb aw b5 bn R V
   have cq:sy.size=64:=by rw [← Z01,H8.out.2.2.2.2.1,u]
   go_wp2_with fail
   refine (Z6U C 75 152 AA [] H8.out.2.2.2.2.2.2 [] (fun x hx=>by simp at hx) sy (by simp;omega) w8 H8.out.2.2.1 b6 H8.out.1).mono ?_
   rintro e w9 ⟨rfl,bp,bk⟩
   rw [List.nil_append,H8.out.2.2.2.2.1] at bp
   have br:=H8.out.2.1.only bk (by omega)
   obtain⟨R2,ab,af,a1⟩:=bp
   have ag:Below H w w9:=H8.out.2.2.2.1.trans ((bk.below (Z6V H8.out.1)).mono (by omega))
   rw [u] at a1 ab
   have bm:I.drop (64*(64/64))= []:=List.drop_eq_nil_of_le (by omega)
   rw [bm,List.append_nil] at a1
   obtain⟨f,a0⟩:∃ f,f=(AA++mixV (Z0e I (64/64)) (byV []++R2) (64%64) 64).toArray:=⟨_,rfl⟩
   have cn:w9.heap[C]? = some (.cells f 152 (0,0)):=by rw [a0];exact a1
   have c4:f.size=150:=by
    have:=H8.out.2.2.2.2.2.2
    rw [a0];simp [mixV,mixA,mixT,byV,ab];omega
   have t:f.all (·.oneCell')=true:=by rw [a0];rw [H8.out.2.2.2.2.2.1];exact key_one A I R1 R2 ak af
   have bf:Hid (f=(keyV (padK (shaL (Z00 s0))) R1 R2).toArray∧Z1Q R1∧Z1Q R2):=⟨by
    rw [a0,H8.out.2.2.2.2.2.1,Q.out.2.2.2.2.2.2.1,Q.out.2.2.2.2.2.2.2,HW.out.2.1,cj.out];rfl,⟨bd,ak⟩,⟨ab,af⟩⟩
   have a:(prog.info? 152).map (·.size)=some f.size:=by rw [c4];kernel_rfl
   have ad:w9.heap[H]? = some (.cells (mixZ++mixZ).toArray 152 (0,0)):=br
   have hs0:(mixZ++mixZ).toArray.size=f.size:=by rw [c4];rfl
   have bu:=Z0l ag (Nat.le_refl H) f
   have cg:=run_loadVar_row (P:=prog) (w9.setRow H f) H 152 152 f (0,0) _ (setRow_heap _ _ _ _ _ _ ad) underlying152 rfl a
   have HB:Hid (Below w.heap.size w (w9.setRow H f)):=by
    show Below _ _ _
    rw [← HW.out.1]
    exact bu
   clear a1 ab bm a0 ag bk bu ai br
   go_wp2_with (first | refine wpList_load_row rfl 152 _ rfl C rfl 152 _ (0,0) _ cn underlying152 rfl a ?_ | refine wpList_store_row rfl 152 _ _ rfl H f rfl rfl 152 _ ad a hs0 t ?_)
   exact bodyPost_ret (v:= .agg f) (by simp [results,Tryz.results62,asAddr,Act.put,cg]) rfl ⟨R1,R2,bf.out.2.1,bf.out.2.2,by rw [bf.out.1],HB.out⟩
theorem Z1v (s t:ByteArray):Z00 (s++t)=Z00 s++Z00 t:=by
 simp [Z00]
def Strs (w:World)(v:Value)(n:Nat)(S:Nat→ByteArray):Prop :=
 ∃ a cap,v= .slice a n cap∧n≤maxLen∧(n=0∨∃ b off,a=some ⟨b,off,none⟩∧b<w.heap.size∧∀ i,i<n→w.cell? ⟨b,off+i,none⟩=some (.string (S i)))
theorem mixAt_only {w w':World}{B C:Nat}{l:List Nat}{n:Nat}(h:Z1D w C l n)(ho:Only B w w')(hne:C≠B):Z1D w' C l n:=by
 obtain⟨R,a,b⟩:=h
 exact⟨R,a,b.only ho hne⟩
theorem Z7L {w w':World}{B:Nat}{l:List Nat}{n:Nat}(h:Z1D w B l n)(hb:Below w.heap.size w w'):Z1D w' B l n:=by
 obtain⟨R,b,a⟩:=h
 exact⟨R,b,a.below hb a.lt⟩
theorem Z6W {w:World}{B:Nat}{l:List Nat}{n:Nat}(h:Z1D w B l n):B≤w.heap.size:=by
 obtain⟨R,_,a⟩:=h
 exact Nat.le_of_lt a.lt
end Sm
end Go.Proofs.YtijpgmkdnemmbaaGreatDoor
