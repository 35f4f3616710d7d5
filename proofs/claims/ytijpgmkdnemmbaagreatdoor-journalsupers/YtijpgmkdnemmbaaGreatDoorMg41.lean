/- Part 41. -/
import Derived.Test.YtijpgmkdnemmbaaGreatDoorMg40
set_option maxRecDepth 20000
set_option maxHeartbeats 8000000
open Go.RowKit Go.Proofs.Tryz
namespace Go.Proofs.YtijpgmkdnemmbaaGreatDoor
namespace Sm
theorem addSt_at (s t:St)(i:Nat)(h:i<8):(s.at i+t.at i)%4294967296=(Z3R s t).at i:=by
 match i,h with
 | 0,_=>rfl
 | 1,_=>rfl
 | 2,_=>rfl
 | 3,_=>rfl
 | 4,_=>rfl
 | 5,_=>rfl
 | 6,_=>rfl
 | 7,_=>rfl
theorem mask8 (n:Nat):n &&& 255=n%256:=Nat.and_two_pow_sub_one_eq_mod n 8
theorem four_one (a b c d:Nat):∀ u∈[Value.int .u8 (a:Nat),.int .u8 (b:Nat),.int .u8 (c:Nat),.int .u8 (d:Nat)],u.oneCell'=true:=by
 intro u e
 simp only [List.mem_cons,List.not_mem_nil,or_false] at e
 rcases e with rfl | rfl | rfl | rfl <;> rfl
theorem rnd_cells (s:St)(k w P D:Nat)(hP:P=tN k w s+uN s)(hD:D=s.d+tN k w s):∀ i,i<8→(#[Value.int .i64 ((P:Int)%4294967296),.int .i64 (s.a:Nat),.int .i64 (s.b:Nat),.int .i64 (s.c:Nat),.int .i64 ((D:Int)%4294967296),.int .i64 (s.e:Nat),.int .i64 (s.f:Nat),.int .i64 (s.g:Nat)]:Array Value)[i]? = some (.int .i64 ((rnd k w s).at i:Nat)):=by
 intro i h
 match i,h with
 | 0,_=>subst hP;rfl
 | 1,_=>rfl
 | 2,_=>rfl
 | 3,_=>rfl
 | 4,_=>subst hD;rfl
 | 5,_=>rfl
 | 6,_=>rfl
 | 7,_=>rfl
theorem stI_one (s:St):∀ u∈stI s,u.oneCell'=true:=by
 intro u a
 simp only [stI,List.mem_cons,List.not_mem_nil,or_false] at a
 rcases a with rfl | rfl | rfl | rfl | rfl | rfl | rfl | rfl <;> rfl
set_option maxRecDepth 10000 in
theorem rsum_any (s:ByteArray)(hs:s.size<1099511627776)(w:World) :
  Calls prog 107 #[.string s] w fun e w'=>e= .returned (.string (shaS (Z00 s)))∧Below w.heap.size w w':=by
 obtain⟨i0,hi,c8,d1,cj⟩:=info_parts Z1j
 obtain⟨i1,hj,ca,bz,cu⟩:=info_parts Z2n
 go_enter func107,ntmps107
 go_wp2_with fail
 refine (filled_any s hs _).mono ?_
 rintro e w1 ⟨gb,cb,rfl,a9,L⟩
 go_wp2_with fail
 refine (keys_any _).mono ?_
 rintro e w2 ⟨rfl,ap,C⟩
 have aw:(Z2H (Z00 s)).length=64*((Z2H (Z00 s)).length/64):=by
  have z:=Z3i (Z00 s)
  unfold lack at z
  omega
 have cd:(Z2H (Z00 s)).length<1099511627776+200:=by
  have z:=Z3i (Z00 s)
  rw [Z01] at z
  unfold lack at z
  omega
 have bx:Z03 (Z2H (Z00 s)):=fillL_bytes (Z04 s)
 have b6:Hid (shaL (Z00 s)=outL (Z0e (Z2H (Z00 s)) ((Z2H (Z00 s)).length/64))):=rfl
 generalize Z2H (Z00 s)=F at *
 obtain⟨H,hH⟩:∃ H,H=w.heap.size:=⟨_,rfl⟩
 have ad:(w.alloc (.cells #[.int .i64 1779033703,.int .i64 3144134277,.int .i64 1013904242,.int .i64 2773480762,.int .i64 1359893119,.int .i64 2600822924,.int .i64 528734635,.int .i64 1541459225] 3)).heap.size=H+1:=by rw [hH];simp
 have bh:Row (w.alloc (.cells #[.int .i64 1779033703,.int .i64 3144134277,.int .i64 1013904242,.int .i64 2773480762,.int .i64 1359893119,.int .i64 2600822924,.int .i64 528734635,.int .i64 1541459225] 3)) H 3 (stI st0):=by rw [hH];exact heap_alloc_new w _
 have bp:Below H w (w.alloc (.cells #[.int .i64 1779033703,.int .i64 3144134277,.int .i64 1013904242,.int .i64 2773480762,.int .i64 1359893119,.int .i64 2600822924,.int .i64 528734635,.int .i64 1541459225] 3)):=by rw [hH];exact (Below.refl _ _).alloc (Nat.le_refl _) _
 rw [ad] at a9 L
 have bw:Row w2 H 3 (stI st0):=(bh.below L (by omega)).below C (by have:=L.size;rw [ad] at this;omega)
 have cl:H+1≤w1.heap.size:=by have:=L.size;rw [ad] at this;exact this
 have N:OwnC w2 (H+1) gb F.length cb (byV F):=a9.below C a9.lt
 have aj:Below H w w2:=(bp.trans (L.mono (by omega))).trans (C.mono (by omega))
 obtain⟨GK,ax⟩:∃ GK,GK=w1.heap.size:=⟨_,rfl⟩
 rw [← ax] at ap cl
 rw [← ax]
 have cq:GK<w2.heap.size:=ap.lt
 rw [← hH]
 clear a9 L C bh ad bp
 have HW:Hid (H=w.heap.size∧Below H w w2):=⟨hH,aj⟩
 clear hH aj ax
 obtain⟨Q,a5⟩:∃ Q,Q=F.length:=⟨_,rfl⟩
 rw [← a5] at aw cd N
 rw [← a5]
 have cy:Hid (Q=F.length):=a5
 rw [← a5] at b6
 have cp:Hid (Q=64*(Q/64)):=aw
 clear a5 aw
 go_wp2_with fail
 go_loopw [6] (fun v wr=> ∃ A q:Nat,A=64*q∧A≤Q∧v= .int .i64 A∧Row wr H 3 (stI (Z0e F q))∧Only H w2 wr) (fun v _=>Q-(intOf v).toNat)
 case atStart=>exact⟨0,0,rfl,Nat.zero_le _,rfl,bw,Only.refl _ _⟩
 case round =>
  clear bw
  obtain⟨A,q,af,d7,rfl,hr,ho⟩:=hrel
  have bn:Hid (A=64*q):=af
  by_cases db:A<Q
  ·have ct:A+64≤Q:=by have:=cp.out;omega
   have bt:OwnC wr (H+1) gb Q cb (byV F):=N.kept (ho.2 gb N.lt (by have:=N.low;omega)) ho.size
   have cz:=N.room
   have bv:=N.lt
   have q1:IntKind.i64.wrap ((A:Int)+64)=A+64:=by rw [IntKind.wrap_i64];omega
   have q2:(A:Int)+64≤cb:=by omega
   have q3:¬ cb=A:=by omega
   have q4:(A:Int)<Q:=by omega
   have q5:((A:Int)+64).toNat=A+64:=by omega
   have aq:Z03 ((F.drop A).take 64):=(bx.drop _).take _
   have J:∀ i,i<64→wr.cell? ⟨gb,A+i,none⟩=some (.int .u8 (((F.drop A).take 64).getD i 0:Nat)):=fun i hi=>by
    have z:A+i<F.length:=by have:=cy.out;omega
    rw [bt.cells (A+i) _ (Z0s F (A+i) z)]
    congr 3
    rw [Z0b _ _ z,Z0b _ _ (by simp;omega)]
    simp
   have HC:Hid _:=J
   clear J af bt
   go_wp2_with fail
   have bk:gb<wr.heap.size:=Nat.lt_of_lt_of_le bv ho.size
   refine (words_any _ aq gb A (cb-A) wr bk HC.out).mono ?_
   rintro e w3 ⟨v,rfl,u,ar⟩
   obtain⟨gW,cW,rfl,d4,ai⟩:=u.form (by decide)
   obtain⟨l,a6⟩:∃ l,l=Z1h ((F.drop A).take 64):=⟨_,rfl⟩
   have b4:∀ i,l.getD i 0<4294967296:=fun i=>by rw [a6];exact Z30 aq i
   have d5:l.length=64:=by rw [a6];exact Z1N _
   rw [← a6] at u
   have ce:Hid (l=Z1h ((F.drop A).take 64)):=a6
   clear a6 HC aq
   obtain⟨b,ab⟩:∃ b,b=Z0e F q:=⟨_,rfl⟩
   have au:b.ok:=by rw [ab];exact Z31 _ _
   rw [← ab] at hr
   have cc:Hid (b=Z0e F q):=ab
   clear ab
   have cs:H<wr.heap.size:=hr.lt
   have aa:Row w3 H 3 (stI b):=hr.below ar cs
   have b3:Only H w2 w3:=ho.trans (Only.of_below ar)
   have b1:∀ i,i<64→w3.cell? ⟨gW,i,none⟩=some (.int .i64 (l.getD i 0:Nat)):=fun i hi'=>by
    rw [u.cellAt i (by omega),List.getElem?_map,List.getElem?_eq_getElem (by omega),Z0b _ _ (by omega)]
    rfl
   have hE:(w3.alloc (.cells #[] 3)).ownsRow w3.heap.size 3 1 (.slice (some ⟨w3.heap.size,0,none⟩) 0 0) 0 []:=⟨rfl,.inr ⟨w3.heap.size,0,#[],rfl,Nat.le_refl _,heap_alloc_new w3 _,Nat.le_refl _,by unfold maxLen;omega,rfl,rfl⟩⟩
   have bf:Row (w3.alloc (.cells #[] 3)) H 3 (stI b):=(Below.heap_alloc w3 _ H (by have:=aa.lt;omega)).trans aa
   have HE:Hid ((w3.alloc (.cells #[] 3)).ownsRow w3.heap.size 3 1 (.slice (some ⟨w3.heap.size,0,none⟩) 0 0) 0 []∧Row (w3.alloc (.cells #[] 3)) H 3 (stI b)∧(∀ i,i<64→w3.cell? ⟨gW,i,none⟩=some (.int .i64 (l.getD i 0:Nat)))∧Row w3 H 3 (stI b)):=⟨hE,bf,b1,aa⟩
   clear hE bf b1 aa u hr ho ar
   go_wp2_with (at_builtin;refine wpList_append_lies _ rfl _ _ 67 rfl w3.heap.size 3 i0 (.int .i64 0) 1 8 underlying67 hi c8 d1 cj rfl (by decide) (.slice (some ⟨w3.heap.size,0,none⟩) 0 0) 0 [] rfl HE.out.1 ⟨H,0,none⟩ 8 8 (stI b) rfl rfl (World.news_of_block HE.out.2.1) ?c1 (by decide) (by decide) (by decide) ?c2 _ rfl ?_)
   case c1=>exact stI_one b
   case c2=>simp
   intro c cx w4 R I ao ah
   have Y:Below w3.heap.size w3 w4:=((Below.refl _ _).alloc (Nat.le_refl _) _).grown I (by simp) (fun k hk=>by obtain rfl:w3.heap.size=k:=(by simpa [Value.ownBlock] using hk);exact Nat.le_refl _)
   have bb:Row w4 H 3 (stI b):=HE.out.2.2.2.below Y HE.out.2.2.2.lt
   have ae:Only H w2 w4:=b3.trans (Only.of_below Y)
   have bq:∀ i,i<64→w4.cell? ⟨gW,i,none⟩=some (.int .i64 (l.getD i 0:Nat)):=fun i hi'=>(Y.cell ai).trans (HE.out.2.2.1 i hi')
   have bm:∀ i,i<64→w4.cell? ⟨GK,i,none⟩=some (.int .i64 (keyN i:Nat)):=fun i hi'=>by
    have z:Row w4 GK 3 _:=ap.only ae (by omega)
    rw [z.cell,List.getElem?_map,List.getElem?_eq_getElem (by simpa [keyL] using hi'),keyN,Z0b _ _ (by simpa [keyL] using hi')]
    rfl
   have b9:∀ i,i<8→w4.cell? ⟨c,i,none⟩=some (.int .i64 (b.at i:Nat)):=fun i hi'=>by
    rw [R.cellAt i (by omega)];exact stI_at b i hi'
   have W:w3.heap.size≤c:=by
    rcases ao with h | h
    ·have:w3.heap.size=c:=by simpa [Value.ownBlock] using h
     omega
    ·omega
   have K:Hid (Row w4 H 3 (stI b)∧Only H w2 w4∧(∀ i,i<64→w4.cell? ⟨gW,i,none⟩=some (.int .i64 (l.getD i 0:Nat)))∧(∀ i,i<64→w4.cell? ⟨GK,i,none⟩=some (.int .i64 (keyN i:Nat)))∧(∀ i,i<8→w4.cell? ⟨c,i,none⟩=some (.int .i64 (b.at i:Nat)))):=⟨bb,ae,bq,bm,b9⟩
   have az:gW<w4.heap.size:=Nat.lt_of_lt_of_le ai Y.size
   have bl:GK<w4.heap.size:=Nat.lt_of_lt_of_le cq ae.size
   clear bb ae bq bm b9 R I ao HE Y b3
   go_wp2_with fail
   go_loopw [8,9] (fun x i wx=> ∃ j c cx:Nat,j≤64∧i= .int .i64 j∧x= .slice (some ⟨c,0,none⟩) 8 cx∧w3.heap.size≤c∧c<wx.heap.size∧(∀ i,i<8→wx.cell? ⟨c,i,none⟩=some (.int .i64 ((rnds l b j).at i:Nat)))∧Below w4.heap.size w4 wx) (fun _ i _=>64-(intOf i).toNat)
   case atStart=>exact⟨0,c,cx,Nat.zero_le _,rfl,rfl,W,ah,K.out.2.2.2.2,Below.refl _ _⟩
   case round =>
    clear W ah
    obtain⟨j,c,cx,d6,rfl,rfl,W,bg,f,E⟩:=hrel
    by_cases al:j<64
    ·have bc:=rnds_ok au l j
     have ba:=keyN_lt j
     have ag:=b4 j
     have ck:=(E.cell (p:=⟨GK,j,none⟩) bl).trans (K.out.2.2.2.1 j al)
     have cw:=(E.cell (p:=⟨gW,j,none⟩) az).trans (K.out.2.2.1 j al)
     have b5:rnds l b (j+1)=rnd (keyN j) (l.getD j 0) (rnds l b j):=rfl
     have d2:Hid (rnds l b (j+1)=rnd (keyN j) (l.getD j 0) (rnds l b j)):=b5
     clear b5
     generalize rnds l b j=r at *
     generalize keyN j=kk at *
     generalize l.getD j 0=ww at *
     obtain⟨M,xb,xc,xd,O,xf,xg,xh⟩:=r
     obtain⟨la,lb,lc,ld,le,lf,lg,lh⟩:=bc
     have c0:wr.cell? ⟨c,0,none⟩=some (.int .i64 (M:Nat)):=f 0 (by decide)
     have c1:wr.cell? ⟨c,1,none⟩=some (.int .i64 (xb:Nat)):=f 1 (by decide)
     have c2:wr.cell? ⟨c,2,none⟩=some (.int .i64 (xc:Nat)):=f 2 (by decide)
     have c3:wr.cell? ⟨c,3,none⟩=some (.int .i64 (xd:Nat)):=f 3 (by decide)
     have c4:wr.cell? ⟨c,4,none⟩=some (.int .i64 (O:Nat)):=f 4 (by decide)
     have c5:wr.cell? ⟨c,5,none⟩=some (.int .i64 (xf:Nat)):=f 5 (by decide)
     have c6:wr.cell? ⟨c,6,none⟩=some (.int .i64 (xg:Nat)):=f 6 (by decide)
     have c7:wr.cell? ⟨c,7,none⟩=some (.int .i64 (xh:Nat)):=f 7 (by decide)
     simp only at la lb lc ld le lf lg lh
     clear f
     have d9:(j:Int)<64:=by omega
     go_wp2_with fail
     go_region_held3 (fun w'=>w'.cell? ⟨c,4,none⟩=some (.int .i64 (O:Nat))∧w'.cell? ⟨c,5,none⟩=some (.int .i64 (xf:Nat))∧w'.cell? ⟨c,6,none⟩=some (.int .i64 (xg:Nat))∧w'.cell? ⟨c,7,none⟩=some (.int .i64 (xh:Nat))∧w'.cell? ⟨GK,j,none⟩=some (.int .i64 (kk:Nat))∧w'.cell? ⟨gW,j,none⟩=some (.int .i64 (ww:Nat))) (simp [go_sem, *]) (first | (go_at_call 134;refine (rright_i _ _ (by assumption) (by decide) (by decide) _).mono ?_;rintro e w1 ⟨rfl,rfl⟩))
     rw [rt_bits O xf xg xh kk ww le lf lg lh ba ag]
     have lT:xh+bs1 O+chf O xf xg+kk+ww<21474836480:=tN_lt (s:=⟨M,xb,xc,xd,O,xf,xg,xh⟩) ⟨la,lb,lc,ld,le,lf,lg,lh⟩ ba ag
     obtain⟨T,hT⟩:∃ T,T=xh+bs1 O+chf O xf xg+kk+ww:=⟨_,rfl⟩
     rw [← hT] at lT
     rw [← hT]
     have HT:Hid (T=xh+bs1 O+chf O xf xg+kk+ww):=hT
     clear hT
     go_wp2_with fail
     go_region_held3 (fun w'=>w'.cell? ⟨c,0,none⟩=some (.int .i64 (M:Nat))∧w'.cell? ⟨c,1,none⟩=some (.int .i64 (xb:Nat))∧w'.cell? ⟨c,2,none⟩=some (.int .i64 (xc:Nat))) (simp [go_sem, *]) (first | (go_at_call 134;refine (rright_i _ _ (by assumption) (by decide) (by decide) _).mono ?_;rintro e w1 ⟨rfl,rfl⟩))
     rw [ru_bits M xb xc la lb lc]
     have lU:bs0 M+maj M xb xc<8589934592:=uN_lt (s:=⟨M,xb,xc,xd,O,xf,xg,xh⟩) ⟨la,lb,lc,ld,le,lf,lg,lh⟩
     obtain⟨U,hU⟩:∃ U,U=bs0 M+maj M xb xc:=⟨_,rfl⟩
     rw [← hU] at lU
     rw [← hU]
     have HU:Hid (U=bs0 M+maj M xb xc):=hU
     clear hU
     obtain⟨P,hP⟩:∃ P,P=T+U:=⟨_,rfl⟩
     obtain⟨D,hD⟩:∃ D,D=xd+T:=⟨_,rfl⟩
     have cv:IntKind.i64.wrap ((T:Int)+(U:Int))=(P:Int):=by rw [hP,Z0P _ (by omega) (by omega)];omega
     have d8:IntKind.i64.wrap ((xd:Int)+(T:Int))=(D:Int):=by rw [hD,Z0P _ (by omega) (by omega)];omega
     have lP:P<9223372036854775808:=by omega
     have lD:D<9223372036854775808:=by omega
     have bu:Hid (P=T+U∧D=xd+T):=⟨hP,hD⟩
     clear hP hD
     have AL:∀ o i,(wr.alloc o).cell? ⟨c,i,none⟩=wr.cell? ⟨c,i,none⟩:=fun o i=>World.cell?_of_block (Below.heap_alloc wr o c (by omega))
     have c9:Hid (∀ o,Below w4.heap.size w4 (wr.alloc o)):=fun o=>E.alloc E.size o
     go_wp2_with fail
     go_region_held3 (fun w'=>w'.cell? ⟨c,0,none⟩=some (.int .i64 (M:Nat))∧w'.cell? ⟨c,1,none⟩=some (.int .i64 (xb:Nat))∧w'.cell? ⟨c,2,none⟩=some (.int .i64 (xc:Nat))∧w'.cell? ⟨c,3,none⟩=some (.int .i64 (xd:Nat))∧w'.cell? ⟨c,4,none⟩=some (.int .i64 (O:Nat))∧w'.cell? ⟨c,5,none⟩=some (.int .i64 (xf:Nat))∧w'.cell? ⟨c,6,none⟩=some (.int .i64 (xg:Nat))) (simp [go_sem, *]) (first | (go_at_call 135;refine (Z7V _ (by assumption) _).mono ?_;rintro e w1 ⟨rfl,rfl⟩))
     have bs:=rnd_cells ⟨M,xb,xc,xd,O,xf,xg,xh⟩ kk ww P D (by rw [bu.out.1,HT.out,HU.out];rfl) (by rw [bu.out.2,HT.out];rfl)
     have cg:Hid _:=bs
     clear bs c0 c1 c2 c3 c4 c5 c6 c7 ck cw
     go_wp2
     refine⟨⟨j+1,wr.heap.size,8,by omega,by go_num,rfl,by omega,?_,fun i hi'=> ?_,(c9.out _).drew.drew.drew.drew.drew.drew.drew.drew.drew⟩,?_⟩
     ·show wr.heap.size<(wr.alloc _).heap.size
      simp
     ·refine (cell_of_row _ _ _ _ _ _ (heap_alloc_new wr _)).trans ?_
      rw [d2.out]
      exact cg.out i hi'
     ·simp [intOf];omega
    ·obtain rfl:j=64:=by omega
     rw [show ((64:Nat):Int)=64 from rfl]
     have ac:Hid ((∀ i,i<8→wr.cell? ⟨c,i,none⟩=some (.int .i64 ((rnds l b 64).at i:Nat)))∧Row wr H 3 (stI b)∧Only H w2 wr):=⟨f,K.out.1.below E (K.out.1.lt),K.out.2.1.trans (Only.of_below E)⟩
     clear f E
     obtain⟨X,hX⟩:∃ X,X=rnds l b 64:=⟨_,rfl⟩
     have bj:X.ok:=by rw [hX];exact rnds_ok au l 64
     rw [← hX] at ac
     have HX:Hid (X=rnds l b 64):=hX
     clear hX
     go_wp2_with fail
     go_loopw [12] (fun i wz=> ∃ j:Nat,j≤8∧i= .int .i64 j∧Row wz H 3 ((stI (Z3R b X)).take j++(stI b).drop j)∧Only H wr wz) (fun i _=>8-(intOf i).toNat)
     case atStart=>exact⟨0,Nat.zero_le _,rfl,ac.out.2.1,Only.refl _ _⟩
     case round =>
      obtain⟨j,co,rfl,G,a4⟩:=hrel
      by_cases d:j<8
      ·have ch:wr.cell? ⟨H,j,none⟩=some (.int .i64 (b.at j:Nat)):=by
        rw [G.cell,List.getElem?_append_right (by simp [Z1B];omega),List.length_take,Z1B,List.getElem?_drop,show j+(j-min j 8)=j by omega]
        exact stI_at b j d
       have da:wr.cell? ⟨c,j,none⟩=some (.int .i64 (X.at j:Nat)):=by
        rw [World.cell?_of_block (a:=⟨c,j,none⟩) (a4.2 c bg (by omega))]
        exact ac.out.1 j d
       have cf:wr.frozen? ⟨H,j,none⟩=false:=G.frozen j
       have l1:=St.at_lt au j
       have l2:=St.at_lt bj j
       have b8:Hid ((b.at j+X.at j)%4294967296=(Z3R b X).at j):=addSt_at b X j d
       have bi:Hid ((stI b)[j]? = some (.int .i64 (b.at j:Nat))):=stI_at b j d
       generalize b.at j=a1 at *
       generalize X.at j=a2 at *
       obtain⟨P,hP⟩:∃ P,P=a1+a2:=⟨_,rfl⟩
       have cv:IntKind.i64.wrap ((a1:Int)+(a2:Int))=(P:Int):=by rw [hP,Z0P _ (by omega) (by omega)];omega
       have lP:P<9223372036854775808:=by omega
       rw [← hP] at b8
       have HP:Hid (P=a1+a2):=hP
       clear hP
       have j8:(j:Int)<8:=by omega
       have ak:Row (wr.setCell ⟨H,j,none⟩ (.int .i64 ((P%4294967296:Nat):Int))) H 3 ((stI (Z3R b X)).take (j+1)++(stI b).drop (j+1)):=by
        have z:(stI b).drop j= .int .i64 (a1:Nat) :: (stI b).drop (j+1):=by
         have h2:=bi.out
         rw [List.drop_eq_getElem_cons (by rw [Z1B];exact d)]
         congr 1
         rw [List.getElem?_eq_getElem (by rw [Z1B];exact d)] at h2
         exact Option.some.inj h2
        have h3:Row wr H 3 ((stI (Z3R b X)).take j ++ [.int .i64 (a1:Nat)]++(stI b).drop (j+1)):=by
         rw [z] at G
         simpa using G
        have h4:=h3.set (n:=j) (.int .i64 ((P%4294967296:Nat):Int)) (by simp [Z1B];omega)
        rw [List.take_succ_eq_append_getElem (by rw [Z1B];exact d)]
        have h5:(stI (Z3R b X))[j]'(by rw [Z1B];exact d)= .int .i64 ((P%4294967296:Nat):Int):=by
         have h6:=stI_at (Z3R b X) j d
         rw [List.getElem?_eq_getElem (by rw [Z1B];exact d),← b8.out] at h6
         exact Option.some.inj h6
        rw [h5]
        exact h4
       have ay:Hid (Row (wr.setCell ⟨H,j,none⟩ (.int .i64 ((P%4294967296:Nat):Int))) H 3 ((stI (Z3R b X)).take (j+1)++(stI b).drop (j+1))∧Only H _ (wr.setCell ⟨H,j,none⟩ (.int .i64 ((P%4294967296:Nat):Int)))):=⟨ak,a4.setCell _ _⟩
       clear G ak a4
       go_wp2_with fail
       go_region_with (first | (go_at_call 135;refine (Z7V _ lP _).mono ?_;rintro e w1 ⟨rfl,rfl⟩))
       all_goals
        go_wp2
        go_roundw
        case rel=>exact⟨j+1,by omega,by go_num,ay.out.1,ay.out.2.drew⟩
        case measure=>simp [intOf];omega
      ·obtain rfl:j=8:=by omega
       have br:Hid (Row wr H 3 (stI (Z0e F (q+1)))∧Only H w2 wr):=by
        refine⟨?_,ac.out.2.2.trans a4⟩
        have z:Z0e F (q+1)=Z3R b X:=by
         rw [Z0e,comp,← cc.out,HX.out,ce.out,bn.out]
        rw [z]
        have h2:=G
        rw [List.take_of_length_le (by rw [Z1B];exact Nat.le_refl _),List.drop_eq_nil_of_le (by rw [Z1B];exact Nat.le_refl _),List.append_nil] at h2
        exact h2
       clear G a4
       go_wp2
       go_roundw
       case rel=>exact⟨A+64,q+1,by have:=bn.out;omega,ct,by go_num,br.out.1,br.out.2⟩
       case measure=>simp [intOf];omega
  ·obtain rfl:A=Q:=by omega
   obtain⟨S,hS⟩:∃ S,S=Z0e F q:=⟨_,rfl⟩
   have b0:S.ok:=by rw [hS];exact Z31 _ _
   have HS:Hid (shaL (Z00 s)=outL S):=by
    show _=_
    have z:=b6.out
    rw [af,show 64*q/64=q by omega,← hS] at z
    exact z
   rw [← hS] at hr
   clear hS af
   have bd:Below H w wr:=HW.out.2.trans (ho.below (by have:=HW.out.2.size;have:=HW.out.1;omega))
   have av:=hr.lt
   go_wp2_with fail
   go_loopw [13,14] (fun v i wo=> ∃ j:Nat,j≤8∧i= .int .i64 j∧wo.ownsRow wr.heap.size 5 1 v (4*j) (byV (outN S j))∧Below wr.heap.size wr wo) (fun _ i _=>8-(intOf i).toNat)
   case atStart=>exact⟨0,Nat.zero_le _,rfl,World.ownsRow_nil _ _ _ _,Below.refl _ _⟩
   case round =>
    obtain⟨j,co,rfl,m,B⟩:=hrel
    by_cases d:j<8
    ·have ch:=(B.cell (p:=⟨H,j,none⟩) av).trans ((hr.cell j).trans (stI_at S j d))
     have l1:=St.at_lt b0 j
     obtain⟨x,hx⟩:∃ x,x=S.at j:=⟨_,rfl⟩
     rw [← hx] at ch l1
     have HX:Hid (x=S.at j):=hx
     clear hx
     have j8:(j:Int)<8:=by omega
     have cr:H<wr.heap.size:=Nat.lt_of_lt_of_le av B.size
     have AL:∀ o,(wr.alloc o).cell? ⟨H,j,none⟩=some (.int .i64 (x:Nat)):=fun o=>(World.cell?_of_block (Below.heap_alloc wr o H (by omega))).trans ch
     obtain⟨y0,a0⟩:∃ y,y=x/16777216%256:=⟨_,rfl⟩
     obtain⟨y1,V⟩:∃ y,y=x/65536%256:=⟨_,rfl⟩
     obtain⟨y2,a8⟩:∃ y,y=x/256%256:=⟨_,rfl⟩
     obtain⟨y3,Z⟩:∃ y,y=x%256:=⟨_,rfl⟩
     have f0:IntKind.u8.wrap ((x:Int)/16777216)=(y0:Int):=by rw [IntKind.wrap_u8,a0];omega
     have f1:IntKind.u8.wrap (bits .and .i64 ((x:Int)/65536) 255)=(y1:Int):=by
      rw [show (x:Int)/65536=((x/65536:Nat):Int) by omega,show (255:Int)=((255:Nat):Int) from rfl,Z0q _ _ (by omega) (by decide),mask8,IntKind.wrap_u8,V];omega
     have f2:IntKind.u8.wrap (bits .and .i64 ((x:Int)/256) 255)=(y2:Int):=by
      rw [show (x:Int)/256=((x/256:Nat):Int) by omega,show (255:Int)=((255:Nat):Int) from rfl,Z0q _ _ (by omega) (by decide),mask8,IntKind.wrap_u8,a8];omega
     have f3:IntKind.u8.wrap (bits .and .i64 (x:Int) 255)=(y3:Int):=by
      rw [show (255:Int)=((255:Nat):Int) from rfl,Z0q _ _ (by omega) (by decide),mask8,IntKind.wrap_u8,Z];omega
     have HB:Hid (byV (outN S (j+1))=byV (outN S j) ++ [.int .u8 (y0:Nat),.int .u8 (y1:Nat),.int .u8 (y2:Nat),.int .u8 (y3:Nat)]):=by
      show _=_
      rw [outN,Z05,← HX.out,a0,V,a8,Z]
      rfl
     clear a0 V a8 Z
     have HO:Hid (∀ o,((wr.alloc o).drew).ownsRow _ 5 1 u13 (4*j) (byV (outN S j))∧Below _ _ ((wr.alloc o).drew)):=fun o=>⟨(m.alloc o).drew,(B.alloc B.size o).drew⟩
     have b2:Hid (∀ g',u13.ownBlock=some g'→_≤g'):=fun g' hg'=>(m.lt g' hg').1
     clear m B
     go_wp2_with fail
     go_region_held3 (fun w'=>w'.cell? ⟨H,j,none⟩=some (.int .i64 (x:Nat))) (simp [go_sem, *]) (first | (refine step_append_lies _ rfl _ _ 90 rfl _ 5 i1 (.int .u8 0) 1 1 underlying90 hj ca bz cu rfl (by decide) u13 (4*j) _ rfl (HO.out _).1 ⟨wr.heap.size,0,none⟩ 4 4 [.int .u8 (y0:Nat),.int .u8 (y1:Nat),.int .u8 (y2:Nat),.int .u8 (y3:Nat)] rfl rfl (World.news_of_block (heap_alloc_new wr _)) (four_one _ _ _ _) (by decide) (by unfold maxLen;omega) (by omega) (Below.size' (HO.out _).2) _ rfl ?_;intro g1 d3 w1 a3 t bo b7;have d0:=(Z3A t b2.out av cr j).trans ch))
     have C:=(HO.out _).2.grown t (Below.size' (HO.out _).2) (fun g hg=>b2.out g hg)
     have a7:=HB.out ▸ a3
     have HF:Hid (_∧_):=⟨a7,C⟩
     clear a3 a7 t bo b7 C d0
     go_wp2
     go_roundw
     case rel=>exact⟨j+1,by omega,by go_num,HF.out.1,HF.out.2⟩
     case measure=>simp [intOf];omega
    ·obtain rfl:j=8:=by omega
     obtain⟨g,cn,rfl,_,_⟩:=m.form (by decide)
     have cm:=run_convert_bytes_arg (P:=prog) wr 90 5 underlying90 underlying5 g 0 32 cn ((outL S).map fun (x:Nat)=>(x:Int)) (by simp [Z1u]) (fun i hi=>by
      rw [Nat.zero_add,m.cellAt i (by omega),outN_all,Z0s _ _ (by rw [Z1u];exact hi),Z0b _ _ (by rw [Z1u];exact hi)]
      simp [List.getD,Z1u,hi]) 9 underlying9
     have ci:Hid (strOfNums ((outL S).map fun (x:Nat)=>(x:Int))=shaS (Z00 s)):=by show _=_;rw [shaS,HS.out]
     rw [ci.out] at cm
     have HF:Hid (Below w.heap.size w wr):=by
      have z:=HW.out.1
      show Below _ _ _
      rw [← z]
      exact bd.trans (B.mono (by omega))
     clear m B bd
     go_wp2
     go_ret
     exact⟨rfl,HF.out⟩
theorem zeroRow {w:World}{g:Nat}{t:TypeId}{A:List Value}{j:Nat}(h:Row w g t (A++List.replicate (64-j) (.int .u8 0)))(hj:j<64):Row w g t (A ++ [.int .u8 0]++List.replicate (64-(j+1)) (.int .u8 0)):=by
 have e:List.replicate (64-j) (Value.int .u8 0)= [.int .u8 0]++List.replicate (64-(j+1)) (.int .u8 0):=by
  rw [show 64-j=(64-(j+1))+1 by omega,List.replicate_succ];rfl
 rw [e,← List.append_assoc] at h
 exact h
theorem Z4k (K:List Nat)(j:Nat)(v:Value)(c:Nat)(hl:K.length=64)(hj:j<64)(hv:v= .int .u8 ((K.getD j 0 ^^^ c:Nat):Int)):byV (xorL c (K.take j)) ++ [v]++List.replicate (64-(j+1)) (.int .u8 0)=byV (xorL c (K.take (j+1)))++List.replicate (64-(j+1)) (.int .u8 0):=by
 rw [List.take_succ_eq_append_getElem (by omega),xorL,xorL,List.map_append,Z05,hv,Z0b _ _ (by omega)]
 rfl
theorem padK_in (key:ByteArray)(j:Nat)(h:j<key.size):key[j].toNat=(padK (Z00 key)).getD j 0:=by
 have a:j<(Z00 key).length:=by rw [Z01];exact h
 rw [padK,Z3s _ _ _ _ a,Z0b _ _ a]
 simp [Z00]
 rfl
theorem padK_out (key:ByteArray)(j:Nat)(h:key.size≤j):(padK (Z00 key)).getD j 0=0:=by
 have b:(Z00 key).length≤j:=by rw [Z01];exact h
 rw [padK,Z2l _ _ _ _ b]
 by_cases a:j-(Z00 key).length<64-(Z00 key).length
 ·rw [Z0b _ _ (by simpa using a)];simp
 ·rw [Z0W _ _ (by simpa using a)]
theorem Z2a {w:World}{base:Nat}{g:Nat}(h:w.ownsRow base 5 1 (.slice (some ⟨g,0,none⟩) 64 64) 64 (madeCells #[Value.int .u8 0] 64).toList):Row w g 5 (List.replicate 64 (.int .u8 0)):=by
 rcases h.2 with ⟨h',_⟩ | ⟨g',cap,cur,h',_,hg,_,_,hcs,htake⟩
 ·simp at h'
 ·simp only [Value.slice.injEq,Option.some.injEq,Addr.mk.injEq,and_true,true_and] at h'
  obtain⟨rfl,rfl⟩:=h'
  have c:cur.toList.length=64:=by simpa using hcs
  rw [List.take_of_length_le (by omega)] at htake
  have a:cur.toList=List.replicate 64 (.int .u8 0):=by rw [htake];simp [toList_madeCells_one]
  have b:cur=(List.replicate 64 (Value.int .u8 0)).toArray:=by rw [← a]
  rw [Row,hg,b]
set_option maxRecDepth 10000 in
theorem rMac_short (key s:ByteArray)(hk:key.size≤64)(hs:s.size<549755813888)(w:World) :
  Calls prog 66 #[.string key,.string s] w fun e w'=>e= .returned (.string (macS key s))∧Below w.heap.size w w':=by
 obtain⟨i0,hi,ad,ai,ao⟩:=info_parts Z2n
 have b4:¬ (64:Int)<key.size:=by omega
 obtain⟨K,hK⟩:∃ K,K=padK (Z00 key):=⟨_,rfl⟩
 have a5:Z03 K:=by rw [hK];exact Z2T (Z04 key)
 have t:K.length=64:=by rw [hK];exact Z2s _ (by rw [Z01];exact hk)
 have HK:Hid (K=padK (Z00 key)):=hK
 clear hK
 go_enter func66,ntmps66
 go_wp2_with (at_make;refine wpList_make_full _ rfl _ _ 90 rfl w.heap.size 5 i0 (.int .u8 0) 1 underlying90 hi ad ai .i64 .i64 _ _ 64 rfl rfl rfl rfl ?c1 ?c2 (Nat.le_refl _) ?_)
 case c2=>unfold maxLen;decide
 intro w1 B q
 have o:Below w.heap.size w w1:=(Below.refl _ _).grown q (Nat.le_refl _) (fun k hk=>by simp at hk)
 have L:=Z2a B
 clear B q
 go_wp2_with (at_make;refine wpList_make_full _ rfl _ _ 90 rfl w1.heap.size 5 i0 (.int .u8 0) 1 underlying90 hi ad ai .i64 .i64 _ _ 64 rfl rfl rfl rfl ?d1 ?d2 (Nat.le_refl _) ?_)
 case d1=>rw [ao];decide
 case d2=>unfold maxLen;decide
 intro w2 E r
 have n:Below w1.heap.size w1 w2:=(Below.refl _ _).grown r (Nat.le_refl _) (fun k hk=>by simp at hk)
 have ah:=Z2a E
 have d:=L.below n L.lt
 have b3:w.heap.size<w1.heap.size:=L.lt
 have a0:=o.trans (n.mono o.size)
 have H2:Hid (Row w2 w.heap.size 5 (List.replicate 64 (.int .u8 0))∧Row w2 w1.heap.size 5 (List.replicate 64 (.int .u8 0))∧Below w.heap.size w w2):=⟨d,ah,a0⟩
 clear E r L d ah o n a0
 go_wp2_with fail
 go_loopw [7] (fun i wr=> ∃ j:Nat,j≤64∧i= .int .i64 j∧Row wr w.heap.size 5 (byV (xorL 54 (K.take j))++List.replicate (64-j) (.int .u8 0))∧Row wr w1.heap.size 5 (byV (xorL 92 (K.take j))++List.replicate (64-j) (.int .u8 0))∧Below w.heap.size w wr) (fun i _=>64-(intOf i).toNat)
 case atStart=>exact⟨0,Nat.zero_le _,rfl,H2.out.1,H2.out.2.1,H2.out.2.2⟩
 case round =>
  clear H2
  obtain⟨j,hj,rfl,hx,hy,hb⟩:=hrel
  by_cases v:j<64
  ·have b5:(j:Int)<64:=by omega
   have p:=zeroRow hx v
   have C:=zeroRow hy v
   have F:∀ c,(byV (xorL c (K.take j))).length=j:=fun c=>by simp [byV,Z0a];omega
   have cx:=p.at (F 54).symm
   have cy:=C.at (F 92).symm
   have fx:wr.frozen? ⟨w.heap.size,j,none⟩=false:=hx.frozen j
   have fy:wr.frozen? ⟨w1.heap.size,j,none⟩=false:=hy.frozen j
   by_cases aj:j<key.size
   ·have ap:(j:Int)<key.size:=by omega
    obtain⟨b,y⟩:∃ b,b=K.getD j 0:=⟨_,rfl⟩
    have lb:b<256:=by rw [y];exact Z0k (by decide) a5 j
    have b6:key[j].toNat=b:=by rw [y,HK.out];exact padK_in key j aj
    have bx:bits .xor .u8 (b:Int) 54=((b ^^^ 54:Nat):Int):=u8_xor_nat b 54 lb (by decide)
    have ac:bits .xor .u8 (b:Int) 92=((b ^^^ 92:Nat):Int):=u8_xor_nat b 92 lb (by decide)
    obtain⟨b1,o⟩:∃ b1,b1=b ^^^ 54:=⟨_,rfl⟩
    obtain⟨b2,n⟩:∃ b2,b2=b ^^^ 92:=⟨_,rfl⟩
    rw [← o] at bx
    rw [← n] at ac
    have a6:Hid (Value.int .u8 (b1:Nat)= .int .u8 ((K.getD j 0 ^^^ 54:Nat):Int)):=by show _=_;rw [o,y]
    have a1:Hid (Value.int .u8 (b2:Nat)= .int .u8 ((K.getD j 0 ^^^ 92:Nat):Int)):=by show _=_;rw [n,y]
    clear o n y
    have d:=p.set (.int .u8 (b1:Nat)) (F 54).symm
    have g:Only w.heap.size wr (wr.setCell ⟨w.heap.size,j,none⟩ (.int .u8 (b1:Nat))):=(Only.refl _ _).setCell _ _
    obtain⟨w3,a2⟩:∃ w3,wr.setCell ⟨w.heap.size,j,none⟩ (.int .u8 (b1:Nat))=w3:=⟨_,rfl⟩
    rw [a2] at d g
    have a:=C.only g (by omega)
    have ar:=a.at (F 92).symm
    have aq:w3.frozen? ⟨w1.heap.size,j,none⟩=false:=a.frozen j
    have l:=a.set (.int .u8 (b2:Nat)) (F 92).symm
    have f:Only w1.heap.size w3 (w3.setCell ⟨w1.heap.size,j,none⟩ (.int .u8 (b2:Nat))):=(Only.refl _ _).setCell _ _
    obtain⟨w4,a7⟩:∃ w4,w3.setCell ⟨w1.heap.size,j,none⟩ (.int .u8 (b2:Nat))=w4:=⟨_,rfl⟩
    rw [a7] at l f
    have m:=d.only f (by omega)
    have z:Below w.heap.size w w4:=(hb.trans ((g.below (Nat.le_of_lt p.lt)))).trans ((f.below (Nat.le_of_lt a.lt)).mono (by omega))
    rw [Z4k K j _ 54 t v a6.out] at m
    rw [Z4k K j _ 92 t v a1.out] at l
    have S:Hid (Row w4 w.heap.size 5 (byV (xorL 54 (K.take (j+1)))++List.replicate (64-(j+1)) (.int .u8 0))∧Row w4 w1.heap.size 5 (byV (xorL 92 (K.take (j+1)))++List.replicate (64-(j+1)) (.int .u8 0))∧Below w.heap.size w w4):=⟨m,l,z⟩
    clear hx hy hb p C d g a l f m z F cy fy
    go_wp2_with fail
    go_roundw
    case rel=>exact⟨j+1,by omega,by go_num,S.out.1,S.out.2.1,S.out.2.2⟩
    case measure=>simp [intOf];omega
   ·have ap:¬ (j:Int)<key.size:=by omega
    have aa:K.getD j 0=0:=by rw [HK.out];exact padK_out key j (by omega)
    have a6:Hid (Value.int .u8 54= .int .u8 ((K.getD j 0 ^^^ 54:Nat):Int)):=by show _=_;rw [aa];rfl
    have a1:Hid (Value.int .u8 92= .int .u8 ((K.getD j 0 ^^^ 92:Nat):Int)):=by show _=_;rw [aa];rfl
    have bx:bits .xor .u8 0 54=54:=u8_xor_nat 0 54 (by decide) (by decide)
    have ac:bits .xor .u8 0 92=92:=u8_xor_nat 0 92 (by decide) (by decide)
    clear aa
    have d:=p.set (.int .u8 54) (F 54).symm
    have g:Only w.heap.size wr (wr.setCell ⟨w.heap.size,j,none⟩ (.int .u8 54)):=(Only.refl _ _).setCell _ _
    obtain⟨w3,a2⟩:∃ w3,wr.setCell ⟨w.heap.size,j,none⟩ (.int .u8 54)=w3:=⟨_,rfl⟩
    rw [a2] at d g
    have a:=C.only g (by omega)
    have ar:=a.at (F 92).symm
    have aq:w3.frozen? ⟨w1.heap.size,j,none⟩=false:=a.frozen j
    have l:=a.set (.int .u8 92) (F 92).symm
    have f:Only w1.heap.size w3 (w3.setCell ⟨w1.heap.size,j,none⟩ (.int .u8 92)):=(Only.refl _ _).setCell _ _
    obtain⟨w4,a7⟩:∃ w4,w3.setCell ⟨w1.heap.size,j,none⟩ (.int .u8 92)=w4:=⟨_,rfl⟩
    rw [a7] at l f
    have m:=d.only f (by omega)
    have z:Below w.heap.size w w4:=(hb.trans ((g.below (Nat.le_of_lt p.lt)))).trans ((f.below (Nat.le_of_lt a.lt)).mono (by omega))
    rw [Z4k K j _ 54 t v a6.out] at m
    rw [Z4k K j _ 92 t v a1.out] at l
    have S:Hid (Row w4 w.heap.size 5 (byV (xorL 54 (K.take (j+1)))++List.replicate (64-(j+1)) (.int .u8 0))∧Row w4 w1.heap.size 5 (byV (xorL 92 (K.take (j+1)))++List.replicate (64-(j+1)) (.int .u8 0))∧Below w.heap.size w w4):=⟨m,l,z⟩
    clear hx hy hb p C d g a l f m z F cy fy
    go_wp2_with fail
    go_roundw
    case rel=>exact⟨j+1,by omega,by go_num,S.out.1,S.out.2.1,S.out.2.2⟩
    case measure=>simp [intOf];omega
  ·obtain rfl:j=64:=by omega
   rw [List.take_of_length_le (by omega)] at hx hy
   have a9:Row wr w.heap.size 5 (byV (xorL 54 K)):=by simpa using hx
   have a3:Row wr w1.heap.size 5 (byV (xorL 92 K)):=by simpa using hy
   have Y:(xorL 54 K).length=64:=by rw [Z0a];exact t
   have A:(xorL 92 K).length=64:=by rw [Z0a];exact t
   have ag:Z03 (xorL 54 K):=Z1a (by decide) a5
   have ae:Z03 (xorL 92 K):=Z1a (by decide) a5
   have af:Hid (macL K (Z00 s)=shaL (xorL 92 K++shaL (xorL 54 K++Z00 s))∧macS key s=strOfNums ((macL K (Z00 s)).map fun (x:Nat)=>(x:Int))):=⟨rfl,by
    have h1:keyP (Z00 key)=K:=by rw [HK.out,keyP,if_neg (by rw [Z01];omega)]
    rw [macS,h1]⟩
   generalize xorL 54 K=ip at *
   generalize xorL 92 K=op at *
   have a4:=fun W (h:Row W w.heap.size 5 (byV ip))=>Z1A W w.heap.size 5 ip Y h
   have ab:=Z1A wr w1.heap.size 5 op A a3
   obtain⟨J,H⟩:∃ J,J=strOfNums (ip.map fun (x:Nat)=>(x:Int)):=⟨_,rfl⟩
   obtain⟨I,M⟩:∃ I,I=strOfNums (op.map fun (x:Nat)=>(x:Int)):=⟨_,rfl⟩
   have Z:=a4 wr a9
   rw [← H] at Z
   rw [← M] at ab
   have N:Z00 J=ip:=by rw [H];exact Z08 ip ag
   have G:Z00 I=op:=by rw [M];exact Z08 op ae
   have ax:J.size=64:=by rw [← Z01,N,Y]
   have az:I.size=64:=by rw [← Z01,G,A]
   have X:Hid (Row wr w.heap.size 5 (byV ip)∧Row wr w1.heap.size 5 (byV op)∧Below w.heap.size w wr∧Z00 J=ip∧Z00 I=op):=⟨a9,a3,hb,N,G⟩
   obtain⟨V,T⟩:∃ V,V=J++s:=⟨_,rfl⟩
   have ak:∀ w',(Op.stringOp .add J s).run prog w'= .ok (.string V) w':=fun w'=>by rw [T];exact run_string_add_sum (P:=prog) (w:=w') J s (by omega)
   have aw:V.size<1099511627776:=by rw [T,ByteArray.size_append];omega
   obtain⟨X1,a8⟩:∃ X1,X1=shaS (Z00 V):=⟨_,rfl⟩
   have D:Z00 X1=shaL (ip++Z00 s):=by
    rw [a8,show Z00 (shaS (Z00 V))=shaL (Z00 V) from Z08 _ (Z1n _),T,Z1v,N]
   have ay:X1.size=32:=by rw [← Z01,D,Z09]
   obtain⟨m2,Q⟩:∃ m2,m2=I++X1:=⟨_,rfl⟩
   have al:∀ w',(Op.stringOp .add I X1).run prog w'= .ok (.string m2) w':=fun w'=>by rw [Q];exact run_string_add_sum (P:=prog) (w:=w') I X1 (by omega)
   have b0:m2.size<1099511627776:=by rw [Q,ByteArray.size_append];omega
   have HX:Hid (shaS (Z00 V)=X1∧shaS (Z00 m2)=macS key s):=⟨a8.symm,by
    rw [af.out.2,af.out.1,Q,Z1v,G,D];rfl⟩
   have au:∀ W,Row W w.heap.size 5 (byV ip)→(convert 90 9 (.slice (some ⟨w.heap.size,0,none⟩) 64 64)).run prog W= .ok (.string J) W:=fun W h=>by rw [H];exact a4 W h
   have av:∀ W,Row W w1.heap.size 5 (byV op)→(convert 90 9 (.slice (some ⟨w1.heap.size,0,none⟩) 64 64)).run prog W= .ok (.string I) W:=fun W h=>by rw [M];exact Z1A W w1.heap.size 5 op A h
   clear hx hy a9 a3 hb a4 H M N G Z ab T a8 D Q
   go_wp2_with fail
   go_region_held3 (fun w'=>Row w' w.heap.size 5 (byV ip)∧Row w' w1.heap.size 5 (byV op)) (first | exact⟨X.out.1,X.out.2.1⟩ | exact⟨R,U⟩) (first | (go_at_call 107;refine (rsum_any _ (by assumption) _).mono ?_;rintro e wA ⟨rfl,u⟩;(first | rw [HX.out.1] | rw [HX.out.2]);have R:Row wA w.heap.size 5 (byV ip):=(by first | exact R.below u R.lt | exact Row.below (w:=wr.drew) X.out.1 u X.out.1.lt);have U:Row wA w1.heap.size 5 (byV op):=(by first | exact U.below u U.lt | exact Row.below (w:=wr.drew) X.out.2.1 u X.out.2.1.lt);have O:Below w.heap.size w wA:=(by first | exact O.trans (u.mono O.size) | exact X.out.2.2.1.drew.trans (u.mono X.out.2.2.1.size))))
   have S:Hid (Below w.heap.size w wA):=O
   clear O R U
   go_wp2
   go_ret
   exact⟨rfl,S.out⟩
theorem keyP_sum (k:List Nat)(h:64<k.length):keyP (shaL k)=keyP k:=by
 unfold keyP
 rw [if_pos h,if_neg (by rw [Z09];decide)]
theorem macS_sum (key s:ByteArray)(h:64<key.size):macS (shaS (Z00 key)) s=macS key s:=by
 unfold macS
 rw [show Z00 (shaS (Z00 key))=shaL (Z00 key) from Z08 _ (Z1n _),keyP_sum _ (by rw [Z01];exact h)]
end Sm
end Go.Proofs.YtijpgmkdnemmbaaGreatDoor
