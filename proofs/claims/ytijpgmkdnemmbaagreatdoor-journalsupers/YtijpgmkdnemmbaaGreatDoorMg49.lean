/- Part 49. -/
import Derived.Test.YtijpgmkdnemmbaaGreatDoorMg48
set_option maxRecDepth 20000
set_option maxHeartbeats 8000000
open Go.RowKit Go.Proofs.Tryz
namespace Go.Proofs.YtijpgmkdnemmbaaGreatDoor
namespace Bx
theorem Z1K.rq {L:List Nat}(h:Z1K L)(a b c d:Nat):Z1K (rq L a b c d):=(((((((((h.rq1 a b).rq2 16 d a).rq1 c d).rq2 12 b c).rq1 a b).rq2 8 d a).rq1 c d).rq2 7 b c))
theorem rq_0 (x0 x1 x2 x3 x4 x5 x6 x7 x8 x9 x10 x11 x12 x13 x14 x15:Nat):rq [x0,x1,x2,x3,x4,x5,x6,x7,x8,x9,x10,x11,x12,x13,x14,x15] 0 4 8 12= [qA x0 x4 x8 x12,x1,x2,x3,qB x0 x4 x8 x12,x5,x6,x7,qC x0 x4 x8 x12,x9,x10,x11,qD x0 x4 x8 x12,x13,x14,x15]:=by
 simp only [rq,rq1,rq2,List.set_cons_zero,List.set_cons_succ,List.getD_cons_zero,List.getD_cons_succ]
 rfl
theorem rq_1 (x0 x1 x2 x3 x4 x5 x6 x7 x8 x9 x10 x11 x12 x13 x14 x15:Nat):rq [x0,x1,x2,x3,x4,x5,x6,x7,x8,x9,x10,x11,x12,x13,x14,x15] 1 5 9 13= [x0,qA x1 x5 x9 x13,x2,x3,x4,qB x1 x5 x9 x13,x6,x7,x8,qC x1 x5 x9 x13,x10,x11,x12,qD x1 x5 x9 x13,x14,x15]:=by
 simp only [rq,rq1,rq2,List.set_cons_zero,List.set_cons_succ,List.getD_cons_zero,List.getD_cons_succ]
 rfl
theorem rq_2 (x0 x1 x2 x3 x4 x5 x6 x7 x8 x9 x10 x11 x12 x13 x14 x15:Nat):rq [x0,x1,x2,x3,x4,x5,x6,x7,x8,x9,x10,x11,x12,x13,x14,x15] 2 6 10 14= [x0,x1,qA x2 x6 x10 x14,x3,x4,x5,qB x2 x6 x10 x14,x7,x8,x9,qC x2 x6 x10 x14,x11,x12,x13,qD x2 x6 x10 x14,x15]:=by
 simp only [rq,rq1,rq2,List.set_cons_zero,List.set_cons_succ,List.getD_cons_zero,List.getD_cons_succ]
 rfl
theorem rq_3 (x0 x1 x2 x3 x4 x5 x6 x7 x8 x9 x10 x11 x12 x13 x14 x15:Nat):rq [x0,x1,x2,x3,x4,x5,x6,x7,x8,x9,x10,x11,x12,x13,x14,x15] 3 7 11 15= [x0,x1,x2,qA x3 x7 x11 x15,x4,x5,x6,qB x3 x7 x11 x15,x8,x9,x10,qC x3 x7 x11 x15,x12,x13,x14,qD x3 x7 x11 x15]:=by
 simp only [rq,rq1,rq2,List.set_cons_zero,List.set_cons_succ,List.getD_cons_zero,List.getD_cons_succ]
 rfl
theorem rq_4 (x0 x1 x2 x3 x4 x5 x6 x7 x8 x9 x10 x11 x12 x13 x14 x15:Nat):rq [x0,x1,x2,x3,x4,x5,x6,x7,x8,x9,x10,x11,x12,x13,x14,x15] 0 5 10 15= [qA x0 x5 x10 x15,x1,x2,x3,x4,qB x0 x5 x10 x15,x6,x7,x8,x9,qC x0 x5 x10 x15,x11,x12,x13,x14,qD x0 x5 x10 x15]:=by
 simp only [rq,rq1,rq2,List.set_cons_zero,List.set_cons_succ,List.getD_cons_zero,List.getD_cons_succ]
 rfl
theorem rq_5 (x0 x1 x2 x3 x4 x5 x6 x7 x8 x9 x10 x11 x12 x13 x14 x15:Nat):rq [x0,x1,x2,x3,x4,x5,x6,x7,x8,x9,x10,x11,x12,x13,x14,x15] 1 6 11 12= [x0,qA x1 x6 x11 x12,x2,x3,x4,x5,qB x1 x6 x11 x12,x7,x8,x9,x10,qC x1 x6 x11 x12,qD x1 x6 x11 x12,x13,x14,x15]:=by
 simp only [rq,rq1,rq2,List.set_cons_zero,List.set_cons_succ,List.getD_cons_zero,List.getD_cons_succ]
 rfl
theorem rq_6 (x0 x1 x2 x3 x4 x5 x6 x7 x8 x9 x10 x11 x12 x13 x14 x15:Nat):rq [x0,x1,x2,x3,x4,x5,x6,x7,x8,x9,x10,x11,x12,x13,x14,x15] 2 7 8 13= [x0,x1,qA x2 x7 x8 x13,x3,x4,x5,x6,qB x2 x7 x8 x13,qC x2 x7 x8 x13,x9,x10,x11,x12,qD x2 x7 x8 x13,x14,x15]:=by
 simp only [rq,rq1,rq2,List.set_cons_zero,List.set_cons_succ,List.getD_cons_zero,List.getD_cons_succ]
 rfl
theorem rq_7 (x0 x1 x2 x3 x4 x5 x6 x7 x8 x9 x10 x11 x12 x13 x14 x15:Nat):rq [x0,x1,x2,x3,x4,x5,x6,x7,x8,x9,x10,x11,x12,x13,x14,x15] 3 4 9 14= [x0,x1,x2,qA x3 x4 x9 x14,qB x3 x4 x9 x14,x5,x6,x7,x8,qC x3 x4 x9 x14,x10,x11,x12,x13,qD x3 x4 x9 x14,x15]:=by
 simp only [rq,rq1,rq2,List.set_cons_zero,List.set_cons_succ,List.getD_cons_zero,List.getD_cons_succ]
 rfl
theorem rq_round (S:S16):rq (rq (rq (rq (rq (rq (rq (rq S.toL 0 4 8 12) 1 5 9 13) 2 6 10 14) 3 7 11 15) 0 5 10 15) 1 6 11 12) 2 7 8 13) 3 4 9 14=S.cols.slants.toL:=by
 unfold S16.toL
 rw [rq_0,rq_1,rq_2,rq_3,rq_4,rq_5,rq_6,rq_7]
 rfl
theorem mask8 (n:Nat):n &&& 255=n%256:=Nat.and_two_pow_sub_one_eq_mod n 8
theorem four_one (a b c d:Nat):∀ u∈[Value.int .u8 (a:Nat),.int .u8 (b:Nat),.int .u8 (c:Nat),.int .u8 (d:Nat)],u.oneCell'=true:=by
 intro u e
 simp only [List.mem_cons,List.not_mem_nil,or_false] at e
 rcases e with rfl | rfl | rfl | rfl <;> rfl
theorem Z0A.of {w:World}{base g cap:Nat}{L:List Nat}(h:OwnC w base g 16 cap (intV L))(hl:L.length=16):Z0A w g L:=⟨h.lt,fun i hi=>h.cells i _ (intV_at L i (by omega)),fun i hi=>h.free i (by have:=h.room;omega)⟩
theorem Z0A.news {w:World}{g:Nat}{L:List Nat}(h:Z0A w g L)(hl:L.length=16):∀ j u,(intV L)[j]? = some u→w.cell? ((⟨g,0,none⟩:Addr).add j)=some u:=fun j u hj=>by
 have hlt:=(List.getElem?_eq_some_iff.1 hj).1
 rw [intV,List.length_map] at hlt
 have hadd:(⟨g,0,none⟩:Addr).add j=⟨g,j,none⟩:=by unfold Addr.add;split <;> simp_all
 rw [hadd,h.cells j (by omega),← hj,intV_at _ _ hlt]
def sL (K:List Nat)(j:Nat):List Nat:= [0x61707865,0x3320646e,0x79622d32,0x6b206574]++(List.range j).map fun i=>Z0w K (4*i)
theorem sL_step (K:List Nat)(j:Nat):intV (sL K (j+1))=intV (sL K j) ++ [.int .i64 (Z0w K (4*j):Nat)]:=by
 rw [sL,sL,List.range_succ,List.map_append,← List.append_assoc]
 simp [intV]
theorem sL_all (K N:List Nat)(n:Nat):intV (sL K 8) ++ [.int .i64 (n:Nat),.int .i64 (Z0w N 0:Nat),.int .i64 (Z0w N 4:Nat),.int .i64 (Z0w N 8:Nat)]=intV (st16 K N n).toL:=rfl
theorem rword_z (s:ByteArray)(z:Int)(p:Nat)(hz:z=(p:Int))(hp:p+4≤s.size)(hs:s.size≤1048576)(w:World) :
  Calls prog 155 #[.string s,.int .i64 z] w fun e w'=>e= .returned (.int .i64 (Z0w (Z00 s) p:Nat))∧∃ n,w'=w.drewN n:=by
 subst hz
 exact rword_any s p hp hs w
set_option maxRecDepth 10000 in
theorem rBlock_any (key nonce:ByteArray)(hk:key.size=32)(hn:nonce.size=12)(n:Nat)(hnn:n<4294967296)(w:World) :
  Calls prog 136 #[.string key,.string nonce,.int .i64 n] w fun e w'=>e= .returned (.string (strN (chaL (Z00 key) (Z00 nonce) n)))∧Below w.heap.size w w':=by
 obtain⟨i0,E,ai,bq,b4⟩:=info_parts Z1j
 obtain⟨i1,hj,cm,ck,d4⟩:=info_parts Z2n
 have au:=st16_ok key nonce n hnn
 have bn:Hid (∀ j:Nat,j<8→∀ w,Calls prog 155 #[.string key,.int .i64 (4*(j:Int))] w fun e w'=>e= .returned (.int .i64 (Z0w (Z00 key) (4*j):Nat))∧∃ n,w'=w.drewN n):=fun j hj w=>rword_z key _ (4*j) (by omega) (by omega) (by omega) w
 have b8:=fun w=>rword_z nonce 0 0 rfl (by omega) (by omega) w
 have bj:=fun w=>rword_z nonce 4 4 rfl (by omega) (by omega) w
 have b3:=fun w=>rword_z nonce 8 8 rfl (by omega) (by omega) w
 generalize Z00 key=K at *
 generalize Z00 nonce=N at *
 obtain⟨H,hH⟩:∃ H,H=w.heap.size:=⟨_,rfl⟩
 have hE:OwnC (w.alloc (.cells #[.int .i64 1634760805,.int .i64 857760878,.int .i64 2036477234,.int .i64 1797285236] 3)) w.heap.size w.heap.size 4 4 (intV (sL K 0)):=OwnC.fresh w 3 (intV (sL K 0)) 4 rfl (by decide)
 have m:Below w.heap.size w (w.alloc (.cells #[.int .i64 1634760805,.int .i64 857760878,.int .i64 2036477234,.int .i64 1797285236] 3)):=(Below.refl _ _).alloc (Nat.le_refl _) _
 have H0:Hid (OwnC (w.alloc (.cells #[.int .i64 1634760805,.int .i64 857760878,.int .i64 2036477234,.int .i64 1797285236] 3)) w.heap.size w.heap.size 4 4 (intV (sL K 0))∧Below w.heap.size w (w.alloc (.cells #[.int .i64 1634760805,.int .i64 857760878,.int .i64 2036477234,.int .i64 1797285236] 3))):=⟨hE,m⟩
 clear hE m hH
 go_enter func136,ntmps136
 go_wp2_with fail
 go_loopw [7,8] (fun v i wr=> ∃ j g d:Nat,j≤8∧i= .int .i64 j∧v= .slice (some ⟨g,0,none⟩) (4+j) d∧OwnC wr w.heap.size g (4+j) d (intV (sL K j))∧Below w.heap.size w wr) (fun _ i _=>8-(intOf i).toNat)
 case atStart=>exact⟨0,w.heap.size,4,Nat.zero_le _,rfl,rfl,H0.out.1,H0.out.2⟩
 case round =>
  clear H0
  obtain⟨j,g,d,dc,rfl,rfl,a,o⟩:=hrel
  by_cases ci:j<8
  ·have hW:=bn.out j ci
   have a5:Hid (intV (sL K (j+1))=intV (sL K j) ++ [.int .i64 (Z0w K (4*j):Nat)]):=sL_step K j
   have q0:IntKind.i64.wrap (4*(j:Int))=4*j:=by rw [IntKind.wrap_i64];omega
   have Z:Hid (OwnC wr w.heap.size g (4+j) d (intV (sL K j))∧Below w.heap.size w wr):=⟨a,o⟩
   clear bn b8 bj b3 a o au
   generalize Z0w K (4*j)=W at *
   go_wp2_with fail
   refine (hW _).mono ?_
   rintro e w1 ⟨rfl,k,rfl⟩
   have a:=Z.out.1.drewN k
   have o:=below_drewN Z.out.2 k
   clear hW Z
   generalize wr.drewN k=w1 at *
   go_wp2_with (at_builtin;refine Z0C _ rfl _ _ 67 rfl w.heap.size 3 i0 (.int .i64 0) 8 underlying67 E ai bq b4 rfl g (4+j) d (intV (sL K j)) rfl (a.alloc _) ⟨w1.heap.size,0,none⟩ 1 1 [.int .i64 (W:Nat)] rfl rfl (World.news_of_block (heap_alloc_new _ _)) ?c2 ?c3 ?c4 ?c5 ?_)
   case c2=>intro u hu;rw [List.mem_singleton] at hu;rw [hu];rfl
   case c3=>unfold maxLen;omega
   case c4=>omega
   case c5=>have:=o.size;simp;omega
   intro g2 ce w2 b c _
   have V:=a.low
   have l:Below w.heap.size w w2:=(o.alloc o.size _).grown c (by have:=o.size;simp;omega) (fun x hx=>by obtain rfl:g=x:=(by simpa using hx);exact V)
   rw [← a5.out] at b
   clear a c o
   go_wp2
   go_roundw
   case rel=>exact⟨j+1,g2,ce,by omega,by go_num,rfl,b,l⟩
   case measure=>simp [intOf];omega
  ·obtain rfl:j=8:=by omega
   rw [show ((8:Nat):Int)=8 from rfl]
   have Z:Hid (OwnC wr w.heap.size g 12 d (intV (sL K 8))∧Below w.heap.size w wr):=⟨a,o⟩
   have a5:Hid (intV (sL K 8) ++ [.int .i64 (n:Nat),.int .i64 (Z0w N 0:Nat),.int .i64 (Z0w N 4:Nat),.int .i64 (Z0w N 8:Nat)]=intV (st16 K N n).toL):=sL_all K N n
   clear a o bn
   have b5:Hid (st16 K N n).ok:=au
   clear au
   have cr:Hid (chaL K N n=blkL (st16 K N n)):=rfl
   generalize Z0w N 0=n0 at *
   generalize Z0w N 4=n4 at *
   generalize Z0w N 8=n8 at *
   generalize hSS:st16 K N n=S at *
   clear hSS
   go_wp2_with fail
   refine (b8 _).mono ?_
   rintro e w' ⟨rfl,k0,rfl⟩
   obtain⟨va,ap⟩:∃ v,v=wr.drewN k0:=⟨_,rfl⟩
   have bl:Hid (OwnC va w.heap.size g 12 d (intV (sL K 8))∧Below w.heap.size w va):=by rw [ap];exact⟨Z.out.1.drewN k0,below_drewN Z.out.2 k0⟩
   rw [← ap]
   clear ap Z b8
   go_wp2_with fail
   refine (bj _).mono ?_
   rintro e w' ⟨rfl,k1,rfl⟩
   obtain⟨vb,bd⟩:∃ v,v=va.drewN k1:=⟨_,rfl⟩
   have b0:Hid (OwnC vb w.heap.size g 12 d (intV (sL K 8))∧Below w.heap.size w vb):=by rw [bd];exact⟨bl.out.1.drewN k1,below_drewN bl.out.2 k1⟩
   rw [← bd]
   clear bd bl bj
   go_wp2_with fail
   refine (b3 _).mono ?_
   rintro e w' ⟨rfl,k2,rfl⟩
   obtain⟨w1,q⟩:∃ v,v=vb.drewN k2:=⟨_,rfl⟩
   have bm:Hid (OwnC w1 w.heap.size g 12 d (intV (sL K 8))∧Below w.heap.size w w1):=by rw [q];exact⟨b0.out.1.drewN k2,below_drewN b0.out.2 k2⟩
   rw [← q]
   clear q b0 b3
   have a:=bm.out.1
   have o:=bm.out.2
   clear bm
   go_wp2_with (at_builtin;refine Z0C _ rfl _ _ 67 rfl w.heap.size 3 i0 (.int .i64 0) 8 underlying67 E ai bq b4 rfl g 12 d (intV (sL K 8)) rfl (a.alloc _) ⟨w1.heap.size,0,none⟩ 4 4 [.int .i64 (n:Nat),.int .i64 (n0:Nat),.int .i64 (n4:Nat),.int .i64 (n8:Nat)] rfl rfl (World.news_of_block (heap_alloc_new _ _)) ?c2 ?c3 ?c4 ?c5 ?_)
   case c2=>exact intV_one [n,n0,n4,n8]
   case c3=>decide
   case c4=>decide
   case c5=>have:=o.size;simp;omega
   intro gs cs w2 b c _
   have V:=a.low
   have l:Below w.heap.size w w2:=(o.alloc o.size _).grown c (by have:=o.size;simp;omega) (fun x hx=>by obtain rfl:g=x:=(by simpa using hx);exact V)
   rw [a5.out] at b
   have a6:Z0A w2 gs S.toL:=Z0A.of b rfl
   have hE:OwnC (w2.alloc (.cells #[] 3)) w2.heap.size w2.heap.size 0 0 []:=⟨rfl,Nat.le_refl _,by simp,Nat.le_refl _,by decide,fun i E=>absurd E (Nat.not_lt_zero _),fun i E=>absurd E (Nat.not_lt_zero _),fun i u h=>by simp at h⟩
   have br:Below w2.heap.size w2 (w2.alloc (.cells #[] 3)):=(Below.refl _ _).alloc (Nat.le_refl _) _
   have M:=(a6.below br a6.lt).news rfl
   clear a c o b a5
   go_wp2_with (at_builtin;refine Z0C _ rfl _ _ 67 rfl w2.heap.size 3 i0 (.int .i64 0) 8 underlying67 E ai bq b4 rfl w2.heap.size 0 0 [] rfl hE ⟨gs,0,none⟩ 16 cs (intV S.toL) rfl rfl M ?c2 ?c3 ?c4 ?c5 ?_)
   case c2=>exact intV_one _
   case c3=>decide
   case c4=>decide
   case c5=>simp
   intro gx cx w3 a3 s _
   have A:Below w2.heap.size w2 w3:=br.grown s (by simp) (fun k hk=>by obtain rfl:w2.heap.size=k:=(by simpa using hk);exact Nat.le_refl _)
   have C:Z0A w3 gx S.toL:=Z0A.of a3 rfl
   have HX:Hid (Z0A w3 gx S.toL∧Below w2.heap.size w2 w3):=⟨C,A⟩
   have I:Hid (Z0A w2 gs S.toL∧Below w.heap.size w w2):=⟨a6,l⟩
   clear a3 s hE br M C A a6 l
   go_wp2_with fail
   go_loopw [9,10] (fun x i wx=> ∃ j gx cx:Nat,j≤10∧i= .int .i64 j∧x= .slice (some ⟨gx,0,none⟩) 16 cx∧Z0A wx gx (S.rounds j).toL∧Below w2.heap.size w2 wx) (fun _ i _=>10-(intOf i).toNat)
   case atStart=>exact⟨0,gx,cx,Nat.zero_le _,rfl,rfl,HX.out.1,HX.out.2⟩
   case round =>
    clear HX
    obtain⟨j,g0,c0,d9,rfl,rfl,B,m⟩:=hrel
    by_cases ci:j<10
    ·have a7:Z1K (S.rounds j).toL:=S16.rounds_ok b5.out j
     have a4:(S.rounds j).toL.length=16:=rfl
     obtain⟨L0,av⟩:∃ L,L=(S.rounds j).toL:=⟨_,rfl⟩
     rw [← av] at B a7 a4
     have cw:Hid (L0=(S.rounds j).toL):=av
     clear av
     generalize hv0:wr=v0 at *
     clear hv0
     go_wp2_with fail
     refine (Z1r L0 a4 a7 0 4 8 12 (by decide) (by decide) (by decide) (by decide) g0 c0 v0 B).mono ?_
     rintro e v1 ⟨g1,c1,rfl,az,cj,ad⟩
     have b1:=m.trans (ad.mono m.size)
     obtain⟨L1,D⟩:∃ L,L=rq L0 0 4 8 12:=⟨_,rfl⟩
     rw [← D] at az
     have ay:L1.length=16:=by rw [D,Z2D];exact a4
     have q:Z1K L1:=by rw [D];exact a7.rq _ _ _ _
     have d0:Hid (L1=rq L0 0 4 8 12):=D
     clear D B cj ad m a4 a7
     go_wp2_with fail
     refine (Z1r L1 ay q 1 5 9 13 (by decide) (by decide) (by decide) (by decide) g1 c1 v1 az).mono ?_
     rintro e v2 ⟨g2,c2,rfl,ao,bx,ag⟩
     have l:=b1.trans (ag.mono b1.size)
     obtain⟨L2,U⟩:∃ L,L=rq L1 1 5 9 13:=⟨_,rfl⟩
     rw [← U] at ao
     have bh:L2.length=16:=by rw [U,Z2D];exact ay
     have b2:Z1K L2:=by rw [U];exact q.rq _ _ _ _
     have cu:Hid (L2=rq L1 1 5 9 13):=U
     clear U az bx ag b1 ay q
     go_wp2_with fail
     refine (Z1r L2 bh b2 2 6 10 14 (by decide) (by decide) (by decide) (by decide) g2 c2 v2 ao).mono ?_
     rintro e v3 ⟨g3,c3,rfl,C,bt,ac⟩
     have A:=l.trans (ac.mono l.size)
     obtain⟨L3,a1⟩:∃ L,L=rq L2 2 6 10 14:=⟨_,rfl⟩
     rw [← a1] at C
     have b7:L3.length=16:=by rw [a1,Z2D];exact bh
     have ar:Z1K L3:=by rw [a1];exact b2.rq _ _ _ _
     have cp:Hid (L3=rq L2 2 6 10 14):=a1
     clear a1 ao bt ac l bh b2
     go_wp2_with fail
     refine (Z1r L3 b7 ar 3 7 11 15 (by decide) (by decide) (by decide) (by decide) g3 c3 v3 C).mono ?_
     rintro e v4 ⟨g4,c4,rfl,aj,ch,af⟩
     have aw:=A.trans (af.mono A.size)
     obtain⟨L4,Y⟩:∃ L,L=rq L3 3 7 11 15:=⟨_,rfl⟩
     rw [← Y] at aj
     have bg:L4.length=16:=by rw [Y,Z2D];exact b7
     have bb:Z1K L4:=by rw [Y];exact ar.rq _ _ _ _
     have co:Hid (L4=rq L3 3 7 11 15):=Y
     clear Y C ch af A b7 ar
     go_wp2_with fail
     refine (Z1r L4 bg bb 0 5 10 15 (by decide) (by decide) (by decide) (by decide) g4 c4 v4 aj).mono ?_
     rintro e v5 ⟨g5,c5,rfl,al,c9,ab⟩
     have bc:=aw.trans (ab.mono aw.size)
     obtain⟨L5,T⟩:∃ L,L=rq L4 0 5 10 15:=⟨_,rfl⟩
     rw [← T] at al
     have bi:L5.length=16:=by rw [T,Z2D];exact bg
     have b6:Z1K L5:=by rw [T];exact bb.rq _ _ _ _
     have d2:Hid (L5=rq L4 0 5 10 15):=T
     clear T aj c9 ab aw bg bb
     go_wp2_with fail
     refine (Z1r L5 bi b6 1 6 11 12 (by decide) (by decide) (by decide) (by decide) g5 c5 v5 al).mono ?_
     rintro e v6 ⟨g6,c6,rfl,ak,bz,a9⟩
     have bo:=bc.trans (a9.mono bc.size)
     obtain⟨L6,R⟩:∃ L,L=rq L5 1 6 11 12:=⟨_,rfl⟩
     rw [← R] at ak
     have b9:L6.length=16:=by rw [R,Z2D];exact bi
     have bp:Z1K L6:=by rw [R];exact b6.rq _ _ _ _
     have cn:Hid (L6=rq L5 1 6 11 12):=R
     clear R al bz a9 bc bi b6
     go_wp2_with fail
     refine (Z1r L6 b9 bp 2 7 8 13 (by decide) (by decide) (by decide) (by decide) g6 c6 v6 ak).mono ?_
     rintro e v7 ⟨g7,c7,rfl,ba,cd,aa⟩
     have bk:=bo.trans (aa.mono bo.size)
     obtain⟨L7,a2⟩:∃ L,L=rq L6 2 7 8 13:=⟨_,rfl⟩
     rw [← a2] at ba
     have aq:L7.length=16:=by rw [a2,Z2D];exact b9
     have bf:Z1K L7:=by rw [a2];exact bp.rq _ _ _ _
     have cq:Hid (L7=rq L6 2 7 8 13):=a2
     clear a2 ak cd aa bo b9 bp
     go_wp2_with fail
     refine (Z1r L7 aq bf 3 4 9 14 (by decide) (by decide) (by decide) (by decide) g7 c7 v7 ba).mono ?_
     rintro e v8 ⟨g8,c8,rfl,ax,cc,ae⟩
     have ca:=bk.trans (ae.mono bk.size)
     obtain⟨L8,Q⟩:∃ L,L=rq L7 3 4 9 14:=⟨_,rfl⟩
     rw [← Q] at ax
     have d3:L8.length=16:=by rw [Q,Z2D];exact aq
     have d1:Z1K L8:=by rw [Q];exact bf.rq _ _ _ _
     have cl:Hid (L8=rq L7 3 4 9 14):=Q
     clear Q ba cc ae bk aq bf
     have HF:Hid (Z0A v8 g8 (S.rounds (j+1)).toL∧Below w2.heap.size w2 v8):=by
      refine⟨?_,ca⟩
      show Z0A v8 g8 (S.rounds j).cols.slants.toL
      rw [← rq_round,← cw.out,← d0.out,← cu.out,← cp.out,← co.out,← d2.out,← cn.out,← cq.out,← cl.out]
      exact ax
     clear ax ca d3 d1
     go_wp2
     go_roundw
     case rel=>exact⟨j+1,g8,c8,by omega,by go_num,rfl,HF.out.1,HF.out.2⟩
     case measure=>simp [intOf];omega
    ·obtain rfl:j=10:=by omega
     rw [show ((10:Nat):Int)=10 from rfl]
     generalize hwo:wr=wo at *
     clear hwo
     have d6:=I.out.1.lt
     have bu:=I.out.1.below m d6
     have bv:Below w.heap.size w wo:=I.out.2.trans (m.mono I.out.2.size)
     have cf:Z1K (S.rounds 10).toL:=S16.rounds_ok b5.out 10
     have d5:Z1K S.toL:=b5.out
     obtain⟨X,hX⟩:∃ X,X=(S.rounds 10).toL:=⟨_,rfl⟩
     rw [← hX] at B cf
     have d7:Hid (X=(S.rounds 10).toL):=hX
     have HD:Hid (Z0A wo g0 X∧Z0A wo gs S.toL∧Below w.heap.size w wo):=⟨B,bu,bv⟩
     clear hX B bu bv m I
     go_wp2_with fail
     go_loopw [11,12] (fun v i wz=> ∃ j:Nat,j≤16∧i= .int .i64 j∧wz.ownsRow wo.heap.size 5 1 v (4*j) (byV (blkN S j))∧Below wo.heap.size wo wz) (fun _ i _=>16-(intOf i).toNat)
     case atStart=>exact⟨0,Nat.zero_le _,rfl,World.ownsRow_nil _ _ _ _,Below.refl _ _⟩
     case round =>
      obtain⟨j,da,rfl,a,f⟩:=hrel
      by_cases ah:j<16
      ·have cx:=(f.cell (p:=⟨g0,j,none⟩) HD.out.1.lt).trans (HD.out.1.cells j ah)
       have cy:=(f.cell (p:=⟨gs,j,none⟩) HD.out.2.1.lt).trans (HD.out.2.1.cells j ah)
       have lx:=cf.get j
       have ly:=d5.get j
       obtain⟨y,hy⟩:∃ y,y=(X.getD j 0+S.toL.getD j 0)%4294967296:=⟨_,rfl⟩
       have cz:IntKind.i64.wrap ((X.getD j 0:Nat)+(S.toL.getD j 0:Nat):Int)=((X.getD j 0+S.toL.getD j 0:Nat):Int):=by rw [IntKind.wrap_i64];omega
       have bw:=fun w=>rlow_z ((X.getD j 0+S.toL.getD j 0:Nat):Int) (X.getD j 0+S.toL.getD j 0) rfl (by omega) y hy w
       have HY:Hid (y=blkW S j):=by show _=_;rw [hy,d7.out];rfl
       have dd:y<4294967296:=by rw [hy];exact Nat.mod_lt _ (by decide)
       clear hy
       generalize X.getD j 0+S.toL.getD j 0=z at *
       generalize X.getD j 0=X0 at *
       generalize S.toL.getD j 0=Z0 at *
       have db:(j:Int)<16:=by omega
       have Z:Hid (wr.ownsRow wo.heap.size 5 1 u11 (4*j) (byV (blkN S j))∧Below wo.heap.size wo wr):=⟨a,f⟩
       clear a f
       go_wp2_with fail
       go_region_held3 (fun w'=>w'.cell? ⟨g0,j,none⟩=some (.int .i64 (X0:Nat))∧w'.cell? ⟨gs,j,none⟩=some (.int .i64 (Z0:Nat))) (simp [go_sem, *]) (first | (go_at_call 157;refine (bw _).mono ?_;rintro e w1 ⟨rfl,rfl⟩))
       clear cx cy lx ly cz bw
       obtain⟨wq,a8⟩:∃ v,v=wr.drew:=⟨_,rfl⟩
       have a:wq.ownsRow wo.heap.size 5 1 u11 (4*j) (byV (blkN S j)):=by rw [a8];exact Z.out.1.drew
       have f:Below wo.heap.size wo wq:=by rw [a8];exact Z.out.2.drew
       rw [← a8]
       clear a8 Z
       obtain⟨y0,J⟩:∃ t,t=y%256:=⟨_,rfl⟩
       obtain⟨y1,F⟩:∃ t,t=y/256%256:=⟨_,rfl⟩
       obtain⟨y2,a0⟩:∃ t,t=y/65536%256:=⟨_,rfl⟩
       obtain⟨y3,G⟩:∃ t,t=y/16777216%256:=⟨_,rfl⟩
       have f3:IntKind.u8.wrap ((y:Int)/16777216)=(y3:Int):=by rw [IntKind.wrap_u8,G];omega
       have f2:IntKind.u8.wrap (bits .and .i64 ((y:Int)/65536) 255)=(y2:Int):=by
        rw [show (y:Int)/65536=((y/65536:Nat):Int) by omega,show (255:Int)=((255:Nat):Int) from rfl,Z0q _ _ (by omega) (by decide),mask8,IntKind.wrap_u8,a0];omega
       have f1:IntKind.u8.wrap (bits .and .i64 ((y:Int)/256) 255)=(y1:Int):=by
        rw [show (y:Int)/256=((y/256:Nat):Int) by omega,show (255:Int)=((255:Nat):Int) from rfl,Z0q _ _ (by omega) (by decide),mask8,IntKind.wrap_u8,F];omega
       have f0:IntKind.u8.wrap (bits .and .i64 (y:Int) 255)=(y0:Int):=by
        rw [show (255:Int)=((255:Nat):Int) from rfl,Z0q _ _ (by omega) (by decide),mask8,IntKind.wrap_u8,J];omega
       have HB:Hid (byV (blkN S (j+1))=byV (blkN S j) ++ [.int .u8 (y0:Nat),.int .u8 (y1:Nat),.int .u8 (y2:Nat),.int .u8 (y3:Nat)]):=by
        show _=_
        rw [blkN,Z05,← HY.out,J,F,a0,G]
        rfl
       clear J F a0 G
       have bs:Hid (∀ g',u11.ownBlock=some g'→_≤g'):=fun g' hg'=>(a.lt g' hg').1
       go_wp2_with (at_builtin;refine wpList_append_lies _ rfl _ _ 90 rfl wo.heap.size 5 i1 (.int .u8 0) 1 1 underlying90 hj cm ck d4 rfl (by decide) u11 (4*j) (byV (blkN S j)) rfl (a.alloc _) ⟨wq.heap.size,0,none⟩ 4 4 [.int .u8 (y0:Nat),.int .u8 (y1:Nat),.int .u8 (y2:Nat),.int .u8 (y3:Nat)] rfl rfl (World.news_of_block (heap_alloc_new _ _)) (four_one _ _ _ _) (by decide) ?c3 ?c4 ?c5 _ rfl ?_)
       case c3=>unfold maxLen;omega
       case c4=>omega
       case c5=>have:=f.size;simp;omega
       intro g1 d8 w1 O r cg cb
       have l:=(f.alloc f.size _).grown r (by have:=f.size;simp;omega) (fun g hg=>bs.out g hg)
       have b:=HB.out ▸ O
       have HF:Hid (_∧_):=⟨b,l⟩
       clear O b r cg cb l a f f0 f1 f2 f3 bs
       go_wp2
       go_roundw
       case rel=>exact⟨j+1,by omega,by go_num,HF.out.1,HF.out.2⟩
       case measure=>simp [intOf];omega
      ·obtain rfl:j=16:=by omega
       obtain⟨g,d,rfl,_,_⟩:=a.form (by decide)
       have cv:=run_convert_bytes_arg (P:=prog) wr 90 5 underlying90 underlying5 g 0 64 d ((blkL S).map fun (x:Nat)=>(x:Int)) (by simp [Z1x]) (fun i E=>by
        rw [Nat.zero_add,a.cellAt i (by omega),show blkN S 16=blkL S from rfl,Z0s _ _ (by rw [Z1x];exact E),Z0b _ _ (by rw [Z1x];exact E)]
        simp [List.getD,Z1x,E]) 9 underlying9
       have ct:Hid (strOfNums ((blkL S).map fun (x:Nat)=>(x:Int))=strN (chaL K N n)):=by show _=_;rw [cr.out];rfl
       rw [ct.out] at cv
       have HF:Hid (Below w.heap.size w wr):=HD.out.2.2.trans (f.mono HD.out.2.2.size)
       clear a f
       go_wp2
       go_ret
       exact⟨rfl,HF.out⟩
theorem Z3I {w w':World}{base:Nat}{e:TypeId}{size:Nat}{v:Value}{n:Nat}{xs:List Value}(hb:Below w.heap.size w w')(h:w.ownsRow base e size v n xs):w'.ownsRow base e size v n xs:=by
 obtain⟨b,a⟩:=h
 refine⟨b,?_⟩
 rcases a with a | ⟨g,cap,cur,hv,hg,hh,r⟩
 ·exact .inl a
 ·exact .inr ⟨g,cap,cur,hv,hg,by rw [hb.block g (lt_of_block hh)];exact hh,r⟩
theorem rStream_bad (key nonce s:ByteArray)(at_:Int)(h:¬ (key.size=32∧nonce.size=12))(w:World) :
  Calls prog 110 #[.string key,.string nonce,.int .i64 at_,.string s] w fun e w'=>e= .returned (.tuple #[.string ⟨#[]⟩,.int .i64 1])∧w'=w:=by
 by_cases b:key.size=32
 ·have c:¬ nonce.size=12:=fun hh=>h ⟨b,hh⟩
  have a:¬ (nonce.size:Int)=12:=by omega
  clear h
  go_enter func110,ntmps110
  go_wp2
  go_ret2
  exact⟨rfl,rfl⟩
 ·have a:¬ (key.size:Int)=32:=by omega
  clear h
  go_enter func110,ntmps110
  go_wp2
  go_ret2
  exact⟨rfl,rfl⟩
set_option maxRecDepth 10000 in
theorem rStream_range (key nonce s:ByteArray)(hk:key.size=32)(hn:nonce.size=12)(hs:s.size≤1048576)(at_:Int)(h:strmB at_ s.size)(w:World) :
  Calls prog 110 #[.string key,.string nonce,.int .i64 at_,.string s] w fun e w'=>e= .returned (.tuple #[.string ⟨#[]⟩,.int .i64 2])∧w'=w:=by
 by_cases g:at_<0
 ·clear h
  go_enter func110,ntmps110
  go_wp2
  go_ret2
  exact⟨rfl,rfl⟩
 ·by_cases c:4294967295<at_
  ·clear h
   go_enter func110,ntmps110
   go_wp2
   go_ret2
   exact⟨rfl,rfl⟩
  ·obtain⟨a,rfl⟩:∃ a:Nat,at_=a:=⟨at_.toNat,by omega⟩
   have b:(4294967296:Int)-a<((s.size+63)/64:Nat):=by
    rcases h with h | h | h
    ·omega
    ·omega
    ·exact h
   have f:(4294967296:Int)-a<((s.size:Int)+63)/64:=by omega
   have d:(a:Int)≤4294967295:=by omega
   clear h b
   go_enter func110,ntmps110
   go_wp2
   go_ret2
   exact⟨rfl,rfl⟩
def keyAt (K N:List Nat)(a j:Nat):Value:= .string (strN (chaL K N (a+j/64)))
theorem chaS_at (K N:List Nat)(a:Nat)(l:List Nat)(j:Nat)(h:j<l.length):(chaS K N a l).getD j 0=l.getD j 0 ^^^ (chaL K N (a+j/64)).getD (j%64) 0:=by
 rw [List.getD_eq_getElem?_getD,chaS,List.getElem?_map,List.getElem?_range h]
 rfl
theorem chaL_bytes (K N:List Nat)(n:Nat):Z03 (chaL K N n):=Z4A _
set_option maxRecDepth 10000 in
theorem rStream_ok (key nonce s:ByteArray)(hk:key.size=32)(hn:nonce.size=12)(hs:s.size≤1048576)(a:Nat)(h:¬ strmB a s.size)(w:World) :
  Calls prog 110 #[.string key,.string nonce,.int .i64 a,.string s] w fun e w'=>e= .returned (.tuple #[.string (strN (chaS (Z00 key) (Z00 nonce) a (Z00 s))),.int .i64 0])∧Below w.heap.size w w':=by
 obtain⟨i1,hj,a2,R,a0⟩:=info_parts Z2n
 have ha:(a:Int)≤4294967295:=by unfold strmB at h;omega
 have h1:¬ (a:Int)<0:=by omega
 have h2:¬ (4294967295:Int)<a:=by omega
 have h3:a+(s.size+63)/64≤4294967296:=by unfold strmB at h;omega
 have h4:¬ (4294967296:Int)-a<((s.size:Int)+63)/64:=by omega
 have F:Hid (∀ n:Nat,n<4294967296→∀ w,Calls prog 136 #[.string key,.string nonce,.int .i64 n] w fun e w'=>e= .returned (.string (strN (chaL (Z00 key) (Z00 nonce) n)))∧Below w.heap.size w w'):=fun n hn' w=>rBlock_any key nonce hk hn n hn' w
 have O:Hid (∀ j,j<s.size→(chaS (Z00 key) (Z00 nonce) a (Z00 s)).getD j 0=(Z00 s).getD j 0 ^^^ (chaL (Z00 key) (Z00 nonce) (a+j/64)).getD (j%64) 0):=fun j hj=>chaS_at _ _ _ _ j (by rw [Z01];exact hj)
 have k:Hid ((chaS (Z00 key) (Z00 nonce) a (Z00 s)).length=s.size):=by show _=_;rw [Z23,Z01]
 have H3:Hid (a+(s.size+63)/64≤4294967296):=h3
 generalize Z00 key=K at *
 generalize Z00 nonce=N at *
 generalize chaS K N a (Z00 s)=T at *
 clear h h3
 go_enter func110,ntmps110
 go_wp2_with fail
 go_loopw [10,11,12] (fun v kv i wz=> ∃ j:Nat,j≤s.size∧i= .int .i64 j∧wz.ownsRow w.heap.size 5 1 v j (byV (T.take j))∧Below w.heap.size w wz∧(j=0→v= .slice none 0 0)∧(j≠0→kv=keyAt K N a (j-1))) (fun _ _ i _=>s.size-(intOf i).toNat)
 case atStart=>exact⟨0,Nat.zero_le _,rfl,World.ownsRow_nil _ _ _ _,Below.refl _ _,fun _=>rfl,fun h=>absurd rfl h⟩
 case round =>
  obtain⟨j,ab,rfl,b,p,hz,q⟩:=hrel
  by_cases L:j<s.size
  ·have a8:(j:Int)<s.size:=by omega
   have S:Hid (Z00 (strN (chaL K N (a+j/64)))=chaL K N (a+j/64)):=Z14 _ (chaL_bytes _ _ _)
   have l:Hid ((strN (chaL K N (a+j/64))).size=64):=by show _=_;rw [Z0X,Z7O]
   have Z:Hid (Value.string (strN (chaL K N (a+j/64)))=keyAt K N a (j+1-1)):=rfl
   have C:Hid (T.getD j 0=(Z00 s).getD j 0 ^^^ (chaL K N (a+j/64)).getD (j%64) 0):=O.out j L
   clear O
   by_cases hr:j%64=0
   ·have Q:(j:Int)%64=0:=by omega
    have V:=F.out (a+j/64) (by have:=H3.out;omega)
    have a5:IntKind.i64.wrap ((a:Int)+(j:Int)/64)=((a+j/64:Nat):Int):=by rw [IntKind.wrap_i64];omega
    have G:Hid (wr.ownsRow w.heap.size 5 1 u10 j (byV (T.take j))∧Below w.heap.size w wr):=⟨b,p⟩
    have HR:Hid (j%64=0):=hr
    clear b p hz q F hr
    generalize strN (chaL K N (a+j/64))=B at *
    generalize a+j/64=m at *
    ·go_wp2_with fail
     refine (V _).mono ?_
     rintro e A ⟨rfl,M⟩
     have b:A.ownsRow w.heap.size 5 1 u10 j (byV (T.take j)):=Z3I M G.out.1
     have p:=G.out.2.trans (M.mono G.out.2.size)
     clear V M G a5
     have b0:0<B.size:=by rw [l.out];omega
     have a4:((0:Nat):Int)<B.size:=by rw [l.out];omega
     have vx:=u8_xor_nat s[j].toNat (B[0]'b0).toNat s[j].toNat_lt (B[0]'b0).toNat_lt
     have Y:Hid (s[j].toNat ^^^ (B[0]'b0).toNat=T.getD j 0):=by
      show _=_
      rw [C.out,← Z2I s j L,← Z2I B 0 b0,S.out,HR.out]
     generalize s[j].toNat ^^^ (B[0]'b0).toNat=v at *
     have HB:Hid (byV (T.take (j+1))=byV (T.take j) ++ [.int .u8 (v:Nat)]):=by
      show _=_
      rw [List.take_succ_eq_append_getElem (by have:=k.out;omega),Z05,Y.out,Z0b _ _ (by have:=k.out;omega)]
      rfl
     have E:Hid (∀ o,((A.alloc o).drew).ownsRow w.heap.size 5 1 u10 j (byV (T.take j))∧Below w.heap.size w ((A.alloc o).drew)):=fun o=>⟨(b.alloc o).drew,(p.alloc p.size o).drew⟩
     have J:Hid (∀ g',u10.ownBlock=some g'→w.heap.size≤g'):=fun g' hg'=>(b.lt g' hg').1
     clear b p C Y
     have a7:(j:Int).tmod 64=0:=by rw [Int.tmod_eq_emod_of_nonneg (by omega)];exact Q
     have n1:(0:Int)<B.size:=by rw [l.out];decide
     have n2:0<B.size:=by rw [l.out];decide
     go_wp2_with fail
     go_region_held3 (fun _=>True) (simp [go_sem, *]) (first | (refine step_append_lies _ rfl _ _ 90 rfl _ 5 i1 (.int .u8 0) 1 1 underlying90 hj a2 R a0 rfl (by decide) u10 j _ rfl (E.out _).1 ⟨A.heap.size,0,none⟩ 1 1 [.int .u8 (v:Nat)] rfl rfl (World.news_of_block (heap_alloc_new A _)) (by intro u X;rw [List.mem_singleton] at X;rw [X];rfl) (by decide) (by unfold maxLen;omega) (by omega) (E.out _).2.size _ rfl ?_;intro g1 U w1 f c t y))
     all_goals
      have z:=(E.out _).2.grown c (E.out _).2.size (fun g hg=>J.out g hg)
      have d:=HB.out ▸ f
      have H:Hid (_∧_):=⟨d,z⟩
      clear f d c t y z
      go_wp2
      go_roundw
      case rel=>exact⟨j+1,by omega,by go_num,H.out.1,H.out.2,fun h=>by omega,fun h=>Z.out⟩
      case measure=>simp [intOf];omega
   ·obtain⟨r,a1⟩:∃ r,r=j%64:=⟨_,rfl⟩
    have Q:(j:Int)%64=(r:Int):=by omega
    have aa:r<64:=by omega
    have ac:¬ (r:Int)=0:=by omega
    have a9:¬ r=0:=by omega
    have I:=q (by omega)
    have hd:(j-1)/64=j/64:=by omega
    rw [keyAt,hd] at I
    have HR:Hid (r=j%64):=a1
    clear hz q F hr hd a1
    generalize strN (chaL K N (a+j/64))=B at *
    generalize a+j/64=m at *
    subst I
    obtain⟨A,a6⟩:∃ v,v=wr:=⟨_,rfl⟩
    subst a6
    ·skip
     have b0:r<B.size:=by rw [l.out];omega
     have a4:((r:Nat):Int)<B.size:=by rw [l.out];omega
     have vx:=u8_xor_nat s[j].toNat (B[r]'b0).toNat s[j].toNat_lt (B[r]'b0).toNat_lt
     have Y:Hid (s[j].toNat ^^^ (B[r]'b0).toNat=T.getD j 0):=by
      show _=_
      rw [C.out,← Z2I s j L,← Z2I B r b0,S.out,HR.out]
     generalize s[j].toNat ^^^ (B[r]'b0).toNat=v at *
     have HB:Hid (byV (T.take (j+1))=byV (T.take j) ++ [.int .u8 (v:Nat)]):=by
      show _=_
      rw [List.take_succ_eq_append_getElem (by have:=k.out;omega),Z05,Y.out,Z0b _ _ (by have:=k.out;omega)]
      rfl
     have E:Hid (∀ o,((A.alloc o).drew).ownsRow w.heap.size 5 1 u10 j (byV (T.take j))∧Below w.heap.size w ((A.alloc o).drew)):=fun o=>⟨(b.alloc o).drew,(p.alloc p.size o).drew⟩
     have J:Hid (∀ g',u10.ownBlock=some g'→w.heap.size≤g'):=fun g' hg'=>(b.lt g' hg').1
     clear b p C Y
     have a7:(j:Int).tmod 64=(r:Int):=by rw [Int.tmod_eq_emod_of_nonneg (by omega)];exact Q
     go_wp2_with fail
     go_region_held3 (fun _=>True) (simp [go_sem, *]) (first | (refine step_append_lies _ rfl _ _ 90 rfl _ 5 i1 (.int .u8 0) 1 1 underlying90 hj a2 R a0 rfl (by decide) u10 j _ rfl (E.out _).1 ⟨A.heap.size,0,none⟩ 1 1 [.int .u8 (v:Nat)] rfl rfl (World.news_of_block (heap_alloc_new A _)) (by intro u X;rw [List.mem_singleton] at X;rw [X];rfl) (by decide) (by unfold maxLen;omega) (by omega) (E.out _).2.size _ rfl ?_;intro g1 U w1 f c t y))
     all_goals
      have z:=(E.out _).2.grown c (E.out _).2.size (fun g hg=>J.out g hg)
      have d:=HB.out ▸ f
      have H:Hid (_∧_):=⟨d,z⟩
      clear f d c t y z
      go_wp2
      go_roundw
      case rel=>exact⟨j+1,by omega,by go_num,H.out.1,H.out.2,fun h=>by omega,fun h=>Z.out⟩
      case measure=>simp [intOf];omega
  ·obtain rfl:j=s.size:=by omega
   clear F O
   rw [List.take_of_length_le (by have:=k.out;omega)] at b
   have H:Hid (Below w.heap.size w wr):=p
   by_cases h0:s.size=0
   ·obtain rfl:=hz h0
    have hT:strN T=⟨#[]⟩:=by
     obtain rfl:T= []:=List.eq_nil_of_length_eq_zero (by have:=k.out;omega)
     rfl
    have D:=fun W=>run_convert_bytes_nil (P:=prog) W 90 5 underlying90 underlying5 0 0 9 underlying9
    clear b p hz q
    have HT:Hid (strN T=⟨#[]⟩):=hT
    clear hT
    go_wp2
    first
     | (rw [D];go_wp2)
     | skip
    go_ret2
    exact⟨by rw [HT.out];rfl,H.out⟩
   ·obtain⟨g,a3,rfl,_,_⟩:=b.form (by omega)
    have D:=run_convert_bytes_arg (P:=prog) wr 90 5 underlying90 underlying5 g 0 s.size a3 (T.map fun (x:Nat)=>(x:Int)) (by simp;exact k.out) (fun i hi=>by
     have hl:=k.out
     rw [Nat.zero_add,b.cellAt i (by omega),Z0s _ _ (by omega),Z0b _ _ (by omega)]
     rw [List.getD_eq_getElem?_getD,List.getElem?_map,List.getElem?_eq_getElem (by omega)];rfl) 9 underlying9
    rw [show strOfNums (T.map fun (x:Nat)=>(x:Int))=strN T from rfl] at D
    clear b p hz q
    go_wp2
    first
     | (rw [D];go_wp2)
     | skip
    go_ret2
    exact⟨rfl,H.out⟩
theorem Z85 (key nonce s:ByteArray)(hs:s.size≤1048576)(at_:Int)(w:World) :
  Calls prog 110 #[.string key,.string nonce,.int .i64 at_,.string s] w fun e w'=>e= .returned (.tuple #[.string (strmS key nonce at_ s),.int .i64 (Z5J key nonce at_ s:Nat)])∧Below w.heap.size w w':=by
 by_cases h:key.size=32∧nonce.size=12
 ·by_cases b:strmB at_ s.size
  ·have e:Z5J key nonce at_ s=2:=by unfold Z5J;rw [if_neg (fun hh=>hh h),if_pos b]
   unfold strmS
   rw [e,if_neg (by decide)]
   refine (rStream_range key nonce s h.1 h.2 hs at_ b w).mono ?_
   rintro e w' ⟨rfl,rfl⟩
   exact⟨rfl,Below.refl _ _⟩
  ·have e:Z5J key nonce at_ s=0:=by unfold Z5J;rw [if_neg (fun hh=>hh h),if_neg b]
   unfold strmS
   rw [e,if_pos rfl]
   obtain⟨a,rfl⟩:∃ a:Nat,at_=a:=⟨at_.toNat,by unfold strmB at b;omega⟩
   exact rStream_ok key nonce s h.1 h.2 hs a b w
 ·have e:Z5J key nonce at_ s=1:=by unfold Z5J;rw [if_pos h]
  unfold strmS
  rw [e,if_neg (by decide)]
  refine (rStream_bad key nonce s at_ h w).mono ?_
  rintro e w' ⟨rfl,rfl⟩
  exact⟨rfl,Below.refl _ _⟩
end Bx
end Go.Proofs.YtijpgmkdnemmbaaGreatDoor
