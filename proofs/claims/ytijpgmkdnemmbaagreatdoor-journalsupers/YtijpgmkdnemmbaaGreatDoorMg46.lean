/- Part 46. -/
import Derived.Test.YtijpgmkdnemmbaaGreatDoorMg45
import Derived.Deep.OwnRows
import Derived.BigRegion
set_option maxRecDepth 20000
set_option maxHeartbeats 8000000
open Go.RowKit Go.Proofs.Tryz
namespace Go.Proofs.YtijpgmkdnemmbaaGreatDoor
namespace Bx
theorem Z0n.lift {w w':World}{g n:Nat}{f:Nat→Value}(h:Z0n w g n f)(hb:Below w.heap.size w w'):Z0n w' g n f:=h.below hb h.lt
theorem Z4B (w:World)(n:Nat):Z0n (w.alloc (.cells (madeCells #[.int .i64 0] n) 3)) w.heap.size n (fun _=> .int .i64 0):=by
 have h:(w.alloc (.cells (madeCells #[.int .i64 0] n) 3)).heap[w.heap.size]? = some (.cells (madeCells #[.int .i64 0] n) 3 (0,0)):=heap_alloc_new w _
 have a:Row (w.alloc (.cells (madeCells #[.int .i64 0] n) 3)) w.heap.size 3 (List.replicate n (.int .i64 0)):=by
  rw [Row,← toList_madeCells_one];exact h
 exact⟨a.lt,fun i hi=>by rw [a.cell,List.getElem?_replicate,if_pos hi],fun i _=>a.frozen i⟩
theorem Z0n.own {w:World}{base g n:Nat}{L:List Nat}(h:Z0n w g n (fun k=> .int .i64 (L.getD k 0:Nat)))(hl:L.length=n)(hb:base≤g)(hm:n≤maxLen):OwnC w base g n n (intV L) :=
 ⟨by simp [intV,hl],hb,h.lt,Nat.le_refl _,hm,fun i hi=>by rw [h.cells i hi];rfl,h.free,fun i u hu=>by
  have hi:i<L.length:=by have:=(List.getElem?_eq_some_iff.1 hu).1;simpa [intV] using this
  rw [intV_at L i hi] at hu
  rw [h.cells i (by omega),← hu]⟩
theorem Z0V {w:World}{g go n i:Nat}{L:List Nat}{v:Value}(h:Z0g w g n L)(hne:g≠go):Z0g (w.setCell ⟨go,i,none⟩ v) g n L:=by
 have b:=Below.heap_setCell w ⟨go,i,none⟩ v g hne
 exact⟨by simpa using h.lt,fun j hj=>by rw [World.cell?_of_block (a:=⟨g,j,none⟩) b];exact h.cells j hj,fun j hj=>by rw [World.frozen?_of_block (a:=⟨g,j,none⟩) b];exact h.free j hj⟩
theorem Z0g.drewN {w:World}{g n:Nat}{L:List Nat}(h:Z0g w g n L)(k:Nat):Z0g (w.drewN k) g n L:=⟨h.lt,h.cells,h.free⟩
set_option maxRecDepth 10000 in
theorem Z6w (T:List Nat)(hT:Z6F T)(hl:T.length≤26)(g0 cap0:Nat)(hc0:T.length≤cap0)(w:World)(ht:Z0g w g0 T.length T) :
  Calls prog 161 #[.slice (some ⟨g0,0,none⟩) T.length cap0] w fun e w'=> ∃ g cap,e= .returned (.slice (some ⟨g,0,none⟩) 13 cap)∧Z0g w' g 13 (digL (bigN T%Z0x) 13)∧w.heap.size≤g∧Below w.heap.size w w':=by
 obtain⟨i0,hi,ay,b7,b0⟩:=info_parts Z1j
 have hm:∀ W,(Instr.makeSlice 67 (.int .i64 13) (.int .i64 13)).run prog W= .ok (.slice (some ⟨W.heap.size,0,none⟩) 13 13) (W.alloc (.cells (madeCells #[.int .i64 0] 13) 3)):=run_make_row' (P:=prog) 67 3 (.int .i64 0) 8 underlying67 Z1j rfl .i64 .i64 13 (by omega) (by omega)
 have ab:Hid (∀ W:World,Z0n (W.alloc (.cells (madeCells #[.int .i64 0] 13) 3)) W.heap.size 13 (fun _=> .int .i64 0)):=fun W=>Z4B W 13
 obtain⟨ms,a9⟩:∃ ms,madeCells #[.int .i64 0] 13=ms:=⟨_,rfl⟩
 rw [a9] at ab
 simp only [a9] at hm
 clear a9
 have ar:Hid (∀ k,Z6F (stL T k)∧(stL T k).length≤26∧Z58 (Z2t (stL T k))=stL T (k+1)):=fun k=>⟨stL_small hT k,stL_length hl k,stL_next T k⟩
 have HE:Hid (∃ X,stL T 8=Z58 X∧X<1024 ^ 13∧X%Z0x=bigN T%Z0x):=eight T hT
 have H0:Hid (Z0g w g0 (stL T 0).length (stL T 0)∧(stL T 0).length≤cap0):=⟨ht,hc0⟩
 have e0:T.length=(stL T 0).length:=rfl
 rw [e0]
 clear ht hc0 e0
 go_enter func161,ntmps161
 go_wp2_with fail
 go_loopw [0,3] (fun u v wr=> ∃ k g cap:Nat,k≤8∧u= .slice (some ⟨g,0,none⟩) (stL T k).length cap∧v= .int .i64 k∧Z0g wr g (stL T k).length (stL T k)∧(stL T k).length≤cap∧(k=0∨w.heap.size≤g)∧Below w.heap.size w wr) (fun _ v _=>8-(intOf v).toNat)
 case atStart=>exact⟨0,g0,cap0,Nat.zero_le _,rfl,rfl,H0.out.1,H0.out.2,.inl rfl,Below.refl _ _⟩
 case round =>
  clear H0
  obtain⟨k,g,cap,J,rfl,rfl,z,M,hg,o⟩:=hrel
  by_cases bm:k<8
  ·have k8:(k:Int)<8:=by omega
   obtain⟨hS,ag,ad⟩:=ar.out k
   obtain⟨L,a0⟩:∃ L,L=stL T k:=⟨_,rfl⟩
   rw [← a0] at z M hS ag ad
   rw [← a0]
   have b3:Hid (Z58 (Z2t L)=stL T (k+1)):=ad
   have HS:Hid (Z6F L):=hS
   have I:=ab.out wr
   have V:Below w.heap.size w (wr.alloc (.cells ms 3)):=o.alloc o.size _
   have S:Z0g (wr.alloc (.cells ms 3)) g L.length L:=z.below ((Below.refl wr.heap.size wr).alloc (Nat.le_refl _) _) z.lt
   have U:g≠wr.heap.size:=by have:=z.lt;omega
   have C:w.heap.size≤wr.heap.size:=o.size
   obtain⟨w1,b1⟩:∃ w1,wr.alloc (.cells ms 3)=w1:=⟨_,rfl⟩
   rw [b1] at I V S
   obtain⟨go,ap⟩:∃ go,wr.heap.size=go:=⟨_,rfl⟩
   rw [ap] at I U C
   have O:Hid (Z0n w1 go 13 (fun k=> .int .i64 (Z2e L 0 k:Nat))∧Z0g w1 g L.length L∧Below w.heap.size w w1):=⟨I.congr fun q _=>by rw [foldF_init];rfl,S,V⟩
   clear hS ad a0 z o I V S hg
   go_wp2_with fail
   generalize wr=wr0 at *
   go_loopw [5] (fun v wq=> ∃ i:Nat,i≤L.length∧v= .int .i64 i∧Z0n wq go 13 (fun k=> .int .i64 (Z2e L i k:Nat))∧Z0g wq g L.length L∧Below w.heap.size w wq) (fun v _=>L.length-(intOf v).toNat)
   case atStart=>exact⟨0,Nat.zero_le _,rfl,O.out.1,O.out.2.1,O.out.2.2⟩
   case round =>
    clear O
    obtain⟨i,E,rfl,b,z,o⟩:=hrel
    by_cases az:i<L.length
    ·have il:(i:Int)<(L.length:Nat):=by omega
     have ct:=z.cells i az
     have bl:=Z3C HS.out i
     by_cases a:i<13
     ·have aj:(i:Int)<13:=by omega
      have co:wr.cell? ⟨go,i,none⟩=some (.int .i64 0):=by rw [b.cells i a,foldF_zero L i];rfl
      have fo:=b.free i a
      have j:Hid (∀ q,Z0n ((wr.setCell ⟨go,i,none⟩ (.int .i64 (L.getD i 0:Nat))).drewN q) go 13 (fun k=> .int .i64 (Z2e L (i+1) k:Nat))∧Z0g ((wr.setCell ⟨go,i,none⟩ (.int .i64 (L.getD i 0:Nat))).drewN q) g L.length L∧Below w.heap.size w ((wr.setCell ⟨go,i,none⟩ (.int .i64 (L.getD i 0:Nat))).drewN q)):=fun q=>⟨((b.set i (.int .i64 (L.getD i 0:Nat)) a).congr fun k _=>by
       rw [foldF_low L i k a]
       split <;> rfl).drewN q,(Z0V z U).drewN q,below_drewN (o.setCell (p:=⟨go,i,none⟩) C _) q⟩
      generalize L.getD i 0=x at *
      have wx:IntKind.i64.wrap (0+(x:Int))=x:=by rw [IntKind.wrap_i64];omega
      have bg:IntKind.i64.wrap (x:Int)=x:=by rw [IntKind.wrap_i64];omega
      clear b z o
      go_wp2_with fail
      go_region
      all_goals
       go_wp2
       go_roundw
       case rel=>exact⟨i+1,by omega,by go_num,(j.out 1).1,(j.out 1).2.1,(j.out 1).2.2⟩
       case measure=>simp [intOf];omega
     ·obtain⟨q,rfl⟩:∃ q,i=q+13:=⟨i-13,by omega⟩
      have G:q<13:=by omega
      have co:=b.cells q G
      have fo:=b.free q G
      have bj:=foldF_lt HS.out (q+13) q
      have j:Hid (∀ n,Z0n ((wr.setCell ⟨go,q,none⟩ (.int .i64 ((Z2e L (q+13) q+5*L.getD (q+13) 0:Nat):Int))).drewN n) go 13 (fun k=> .int .i64 (Z2e L (q+13+1) k:Nat))∧Z0g ((wr.setCell ⟨go,q,none⟩ (.int .i64 ((Z2e L (q+13) q+5*L.getD (q+13) 0:Nat):Int))).drewN n) g L.length L∧Below w.heap.size w ((wr.setCell ⟨go,q,none⟩ (.int .i64 ((Z2e L (q+13) q+5*L.getD (q+13) 0:Nat):Int))).drewN n)):=fun n=>⟨((b.set q (.int .i64 ((Z2e L (q+13) q+5*L.getD (q+13) 0:Nat):Int)) G).congr fun k J=>by
       rw [foldF_high L (q+13) k (by omega) J,show q+13-13=q by omega]
       split <;> rfl).drewN n,(Z0V z U).drewN n,below_drewN (o.setCell (p:=⟨go,q,none⟩) C _) n⟩
      generalize L.getD (q+13) 0=x at *
      generalize Z2e L (q+13) q=y at *
      obtain⟨s,hs⟩:∃ s,s=y+5*x:=⟨_,rfl⟩
      rw [← hs] at j
      have bb:IntKind.i64.wrap ((5:Int)*(x:Int))=((5*x:Nat):Int):=by rw [IntKind.wrap_i64];omega
      have bh:IntKind.i64.wrap ((y:Int)+5*(x:Int))=(s:Int):=by rw [IntKind.wrap_i64];omega
      have bn:IntKind.i64.wrap ((q:Int)+13-13)=(q:Int):=by rw [IntKind.wrap_i64];omega
      have t1:(q:Int).tmod 13=(q:Int):=by rw [Int.tmod_eq_emod_of_nonneg (by omega)];omega
      have t2:(q:Int)%13=(q:Int):=by omega
      have bd:(q:Int)<13:=by omega
      have q0:¬ (q:Int)+13<13:=by omega
      clear b z o hs
      go_wp2_with fail
      go_region
      all_goals
       go_wp2
       go_roundw
       case rel=>exact⟨q+13+1,by omega,by go_num,(j.out 1).1,(j.out 1).2.1,(j.out 1).2.2⟩
       case measure=>simp [intOf];omega
    ·obtain rfl:i=L.length:=by omega
     obtain⟨f,hf⟩:∃ f,f=Z2e L L.length:=⟨_,rfl⟩
     have Z:Hid (∀ i,f i<6442450944):=fun i=>by rw [hf];exact foldF_lt HS.out _ _
     have av:Hid ((∀ k,k<13→Z4n f 13 k=(digL (Z2t L) 13).getD k 0)∧Z0U f 13=Z2t L/1024 ^ 13):=⟨fun k J=>by rw [hf];exact carryD_all L k J,by rw [hf];exact carry_last L⟩
     have ah:Z0n wr go 13 (fun k=> .int .i64 (Z4n f 0 k:Nat)):=b.congr fun k _=>by rw [hf];rfl
     have O:Hid (Z0n wr go 13 (fun k=> .int .i64 (Z4n f 0 k:Nat))∧Below w.heap.size w wr):=⟨ah,o⟩
     clear b ah z o hf
     go_wp2_with fail
     generalize wr=wr1 at *
     go_loopw [6,7] (fun u v wq=> ∃ i:Nat,i≤13∧u= .int .i64 (Z0U f i:Nat)∧v= .int .i64 i∧Z0n wq go 13 (fun k=> .int .i64 (Z4n f i k:Nat))∧Below w.heap.size w wq) (fun _ v _=>13-(intOf v).toNat)
     case atStart=>exact⟨0,Nat.zero_le _,rfl,rfl,O.out.1,O.out.2⟩
     case round =>
      clear O
      obtain⟨i,E,rfl,rfl,b,o⟩:=hrel
      by_cases a:i<13
      ·have aj:(i:Int)<13:=by omega
       have co:wr.cell? ⟨go,i,none⟩=some (.int .i64 (f i:Nat)):=by
        rw [b.cells i a]
        unfold Z4n
        rw [if_neg (by omega)]
       have fo:=b.free i a
       have b4:=Z84 Z.out i
       have bi:=Z.out i
       obtain⟨r,hr⟩:∃ r,r=(Z0U f i+f i)%1024:=⟨_,rfl⟩
       have j:Hid (Z0U f (i+1)=(Z0U f i+f i)/1024∧Z0n (wr.setCell ⟨go,i,none⟩ (.int .i64 (r:Nat))) go 13 (fun k=> .int .i64 (Z4n f (i+1) k:Nat))∧Below w.heap.size w (wr.setCell ⟨go,i,none⟩ (.int .i64 (r:Nat)))):=⟨rfl,(b.set i (.int .i64 (r:Nat)) a).congr fun k _=>by
        rw [carryD_step f i k,hr]
        split <;> rfl,o.setCell (p:=⟨go,i,none⟩) C _⟩
       generalize Z0U f i=c at *
       generalize f i=x at *
       have s1:IntKind.i64.wrap ((c:Int)+(x:Int))=(c:Int)+x:=by rw [IntKind.wrap_i64];omega
       have s2:((c:Int)+x)%1024=(r:Int):=by omega
       have s3:((c:Int)+x).tmod 1024=(r:Int):=by rw [Int.tmod_eq_emod_of_nonneg (by omega)];exact s2
       obtain⟨d,hd⟩:∃ d,d=(c+x)/1024:=⟨_,rfl⟩
       have s4:((c:Int)+x)/1024=(d:Int):=by omega
       have s5:((c:Int)+x).tdiv 1024=(d:Int):=by rw [Int.tdiv_eq_ediv_of_nonneg (by omega)];exact s4
       rw [← hd] at j
       clear b o hr hd
       go_wp2
       go_roundw
       case rel=>exact⟨i+1,by omega,by rw [j.out.1],by go_num,j.out.2.1,j.out.2.2⟩
       case measure=>simp [intOf];omega
      ·obtain rfl:i=13:=by omega
       have ak:OwnC wr w.heap.size go 13 13 (intV (digL (Z2t L) 13)):=Z0n.own (b.congr fun k J=>by rw [av.out.1 k J]) (Z15 _ _) C (by decide)
       have b4:=Z84 Z.out 13
       have ao:=av.out.2
       generalize Z0U f 13=c at *
       obtain⟨r1,aq⟩:∃ r1,r1=c%1024:=⟨_,rfl⟩
       obtain⟨Y,al⟩:∃ Y,Y=c/1024:=⟨_,rfl⟩
       obtain⟨r2,ax⟩:∃ r2,r2=Y%1024:=⟨_,rfl⟩
       obtain⟨r3,ae⟩:∃ r3,r3=c/1048576:=⟨_,rfl⟩
       have aw:Hid (intV (digL (Z2t L) 13) ++ [.int .i64 (r1:Nat),.int .i64 (r2:Nat),.int .i64 (r3:Nat)]=intV (stL T (k+1))):=by
        show _=_
        rw [← b3.out,Z58,← ao,aq,ax,al,ae]
        simp [intV]
       have a1:(c:Int)%1024=(r1:Int):=by omega
       have a2:(c:Int).tmod 1024=(r1:Int):=by rw [Int.tmod_eq_emod_of_nonneg (by omega)];exact a1
       have a3:(c:Int)/1024=(Y:Int):=by omega
       have a4:(c:Int).tdiv 1024=(Y:Int):=by rw [Int.tdiv_eq_ediv_of_nonneg (by omega)];exact a3
       have a5:(Y:Int)%1024=(r2:Int):=by omega
       have a6:(Y:Int).tmod 1024=(r2:Int):=by rw [Int.tmod_eq_emod_of_nonneg (by omega)];exact a5
       have a7:(c:Int)/1048576=(r3:Int):=by omega
       have a8:(c:Int).tdiv 1048576=(r3:Int):=by rw [Int.tdiv_eq_ediv_of_nonneg (by omega)];exact a7
       have HO:Hid (OwnC wr w.heap.size go 13 13 (intV (digL (Z2t L) 13))∧Below w.heap.size w wr):=⟨ak,o⟩
       clear b o ak ao aq ax ae al
       go_wp2_with (first | (at_builtin;refine Z0C _ rfl _ _ 67 rfl w.heap.size 3 i0 (.int .i64 0) 8 underlying67 hi ay b7 b0 rfl go 13 13 (intV (digL (Z2t L) 13)) rfl (HO.out.1.alloc _) ⟨wr.heap.size,0,none⟩ 3 3 [.int .i64 (r1:Nat),.int .i64 (r2:Nat),.int .i64 (r3:Nat)] rfl rfl (World.news_of_block (heap_alloc_new _ _)) ?c2 ?c3 ?c4 ?c5 ?_))
       case c2=>intro u hu;simp only [List.mem_cons,List.not_mem_nil,or_false] at hu;rcases hu with rfl | rfl | rfl <;> rfl
       case c3=>decide
       case c4=>decide
       case c5=>have:=HO.out.2.size;simp;omega
       intro g2 N w2 l B _
       have D:Below w.heap.size w w2:=(HO.out.2.alloc HO.out.2.size _).grown B (by have:=HO.out.2.size;simp;omega) (fun x hx=>by obtain rfl:go=x:=(by simpa using hx);exact C)
       rw [aw.out] at l
       have m:(stL T (k+1)).length=16:=by rw [stL,Z4l]
       have j:Hid (Z0g w2 g2 (stL T (k+1)).length (stL T (k+1))∧(stL T (k+1)).length≤N∧w.heap.size≤g2∧Below w.heap.size w w2):=⟨by rw [m];exact Z0g.of l m,by rw [m];exact l.room,l.low,D⟩
       clear l B D HO aw
       go_wp2
       go_roundw
       case rel=>exact⟨k+1,g2,N,by omega,by rw [m],by go_num,j.out.1,j.out.2.1,.inr j.out.2.2.1,j.out.2.2.2⟩
       case measure=>simp [intOf];omega
  ·obtain rfl:k=8:=by omega
   obtain⟨X,hX,Q,af⟩:=HE.out
   have m:(stL T 8).length=16:=by rw [hX,Z4l]
   have R:w.heap.size≤g:=by
    rcases hg with h | h
    ·omega
    ·exact h
   have b:Z0n wr g 13 (fun k=> .int .i64 ((digL X 13).getD k 0:Nat)):=⟨z.lt,fun i E=>by rw [z.cells i (by omega),hX,turnL_low X i E,Z4m X 13 i E],fun i E=>z.free i (by omega)⟩
   rw [m] at M
   rw [m]
   have b6:(13:Int)≤cap:=by omega
   have HB:Hid (Z0n wr g 13 (fun k=> .int .i64 ((digL X 13).getD k 0:Nat))∧Below w.heap.size w wr):=⟨b,o⟩
   have HX:Hid (X<1024 ^ 13∧X%Z0x=bigN T%Z0x):=⟨Q,af⟩
   clear z o hg b hX Q af HE ar ab hm
   go_wp2_with fail
   refine (rprime_any _).mono ?_
   rintro e w2 ⟨gp,cp,rfl,aa,bk,D⟩
   have H:=HB.out.1.lift D
   have au:=HB.out.2.trans (D.mono HB.out.2.size)
   have b5:g≠gp:=by have:=HB.out.1.lt;omega
   have A:=rless_any (digL X 13) Z2K (Z3B X 13) (by unfold Digs Z2K;decide) (Z15 X 13) rfl g gp cap cp w2 ⟨H.lt,H.cells,H.free⟩ aa
   rw [dN_digL,prime_num,Nat.mod_eq_of_lt HX.out.1] at A
   have t:Hid (Z0n w2 g 13 (fun k=> .int .i64 ((digL X 13).getD k 0:Nat))∧Z0g w2 gp 13 Z2K∧Below w.heap.size w w2):=⟨H,aa,au⟩
   clear H aa au D
   by_cases ac:X<Z0x
   ·rw [decide_eq_true ac] at A
    go_wp2_with fail
    refine A.mono ?_
    rintro e w3 ⟨rfl,F,rfl⟩
    have j:Hid (Z0g (w2.drewN F) g 13 (digL (bigN T%Z0x) 13)∧Below w.heap.size w (w2.drewN F)):=by
     refine⟨?_,below_drewN t.out.2.2 F⟩
     rw [← HX.out.2,Nat.mod_eq_of_lt ac]
     exact Z0g.drewN ⟨t.out.1.lt,t.out.1.cells,t.out.1.free⟩ F
    clear A
    go_wp2
    go_ret
    exact⟨g,cap,rfl,j.out.1,R,j.out.2⟩
   ·rw [decide_eq_false ac] at A
    obtain⟨y,hy,ai⟩:=over X (by omega) HX.out.1
    have HY:Hid (y=bigN T%Z0x):=by rw [← HX.out.2];exact hy.symm
    have b2:Hid (∀ i,i<13→(digL X 13).getD i 0=Z2K.getD i 0+(digL y 13).getD i 0):=ai
    clear hy ai
    go_wp2_with fail
    refine A.mono ?_
    rintro e w3 ⟨rfl,F,rfl⟩
    have K:Hid (Z0n (w2.drewN F) g 13 (fun k=> .int .i64 ((if k<0 then (digL y 13).getD k 0 else (digL X 13).getD k 0:Nat):Int))∧Z0g (w2.drewN F) gp 13 Z2K∧Below w.heap.size w (w2.drewN F)):=⟨(t.out.1.drewN F).congr fun q _=>by rw [if_neg (Nat.not_lt_zero q)],t.out.2.1.drewN F,below_drewN t.out.2.2 F⟩
    clear A
    generalize w2.drewN F=w3 at *
    clear t
    go_wp2_with fail
    generalize wr=wr0 at *
    go_loopw [9,10] (fun u v wq=> ∃ i:Nat,i≤13∧u= .int .i64 0∧v= .int .i64 i∧Z0n wq g 13 (fun k=> .int .i64 ((if k<i then (digL y 13).getD k 0 else (digL X 13).getD k 0:Nat):Int))∧Z0g wq gp 13 Z2K∧Below w.heap.size w wq) (fun _ v _=>13-(intOf v).toNat)
    case atStart=>exact⟨0,Nat.zero_le _,rfl,rfl,K.out.1,K.out.2.1,K.out.2.2⟩
    case round =>
     clear K
     obtain⟨i,E,rfl,rfl,b,hP,o⟩:=hrel
     by_cases a:i<13
     ·have aj:(i:Int)<13:=by omega
      have ct:wr.cell? ⟨g,i,none⟩=some (.int .i64 ((Z2K.getD i 0+(digL y 13).getD i 0:Nat):Int)):=by rw [b.cells i a,if_neg (Nat.lt_irrefl i),b2.out i a]
      have bf:=hP.cells i a
      have fo:=b.free i a
      have j:Hid (∀ n,Z0n ((wr.drewN n).setCell ⟨g,i,none⟩ (.int .i64 ((digL y 13).getD i 0:Nat))) g 13 (fun k=> .int .i64 ((if k<i+1 then (digL y 13).getD k 0 else (digL X 13).getD k 0:Nat):Int))∧Z0g ((wr.drewN n).setCell ⟨g,i,none⟩ (.int .i64 ((digL y 13).getD i 0:Nat))) gp 13 Z2K∧Below w.heap.size w ((wr.drewN n).setCell ⟨g,i,none⟩ (.int .i64 ((digL y 13).getD i 0:Nat)))):=fun n=>⟨((b.drewN n).set i (.int .i64 ((digL y 13).getD i 0:Nat)) a).congr fun k _=>by
       by_cases e:k=i
       ·subst e;rw [if_pos rfl,if_pos (by omega)]
       ·rw [if_neg e]
        by_cases h:k<i
        ·rw [if_pos h,if_pos (by omega)]
        ·rw [if_neg h,if_neg (by omega)],Z0V (hP.drewN n) (Ne.symm b5),(below_drewN o n).setCell (p:=⟨g,i,none⟩) R _⟩
      have b8:Z2K.getD i 0<1024:=Z0k (by decide) (by unfold Z2K;decide) i
      have ba:(digL y 13).getD i 0<1024:=Z0k (by decide) (Z3B y 13) i
      generalize Z2K.getD i 0=pp at *
      generalize (digL y 13).getD i 0=yy at *
      obtain⟨x,hx⟩:∃ x,x=pp+yy:=⟨_,rfl⟩
      rw [← hx] at ct
      have s1:IntKind.i64.wrap ((x:Int)-(pp:Int))=(yy:Int):=by rw [IntKind.wrap_i64];omega
      have s2:IntKind.i64.wrap ((yy:Int)+0)=(yy:Int):=by rw [IntKind.wrap_i64];omega
      have s3:(x:Int)-(pp:Int)=(yy:Int):=by omega
      have s4:¬ (yy:Int)<0:=by omega
      have b9:∀ n,(wr.drewN n).cell? ⟨g,i,none⟩=some (.int .i64 (x:Nat)):=fun _=>ct
      have bc:∀ n,(wr.drewN n).frozen? ⟨g,i,none⟩=false:=fun _=>fo
      clear b hP o hx
      go_wp2_with fail
      go_quiet (fail)
      go_wp2
      go_roundw
      case rel=>exact⟨i+1,by omega,rfl,by go_num,(j.out _).1,(j.out _).2.1,(j.out _).2.2⟩
      case measure=>simp [intOf];omega
     ·obtain rfl:i=13:=by omega
      have j:Hid (Z0g wr g 13 (digL (bigN T%Z0x) 13)∧Below w.heap.size w wr):=⟨by
       rw [← HY.out]
       exact⟨b.lt,fun k J=>by rw [b.cells k J,if_pos J],b.free⟩,o⟩
      clear b hP o
      go_wp2
      go_ret
      exact⟨g,cap,rfl,j.out.1,R,j.out.2⟩
theorem sumF_set (f:Nat→Nat)(m v:Nat):∀ n,sumF (fun k=>if k=m then f k+v else f k) n=sumF f n+if m<n then v*1024 ^ m else 0
 | 0=>by simp [sumF]
 | n+1=>by
  rw [sumF,sumF,sumF_set f m v n]
  by_cases h:m<n
  ·have h1:¬ n=m:=by omega
   have a:m<n+1:=by omega
   rw [if_pos h,if_neg h1,if_pos a]
   omega
  ·by_cases e:n=m
   ·subst e
    have a:n<n+1:=by omega
    rw [if_neg h,if_pos rfl,if_pos a,Nat.add_mul]
    omega
   ·have a:¬ m<n+1:=by omega
    rw [if_neg h,if_neg e,if_neg a]
    omega
def rowP (f:Nat→Nat)(x:Nat)(b:Nat→Nat)(i j k:Nat):Nat:=f k+if i≤k∧k<i+j then x*b (k-i) else 0
theorem rowP_zero (f:Nat→Nat)(x:Nat)(b:Nat→Nat)(i k:Nat):rowP f x b i 0 k=f k:=by
 unfold rowP
 rw [if_neg (by omega)]
 rfl
theorem rowP_step (f:Nat→Nat)(x:Nat)(b:Nat→Nat)(i j k:Nat):rowP f x b i (j+1) k=if k=i+j then rowP f x b i j k+x*b j else rowP f x b i j k:=by
 unfold rowP
 by_cases e:k=i+j
 ·subst e
  rw [if_pos (by omega),if_pos rfl,if_neg (by omega),show i+j-i=j by omega]
  omega
 ·rw [if_neg e]
  by_cases h:i≤k∧k<i+j
  ·rw [if_pos h,if_pos (by omega)]
  ·rw [if_neg h,if_neg (by omega)]
theorem rowP_sum (f:Nat→Nat)(x:Nat)(b:Nat→Nat)(i:Nat)(hi:i≤13):∀ j,j≤13→sumF (rowP f x b i j) 26=sumF f 26+x*sumF b j*1024 ^ i
 | 0,_=>by
  rw [Z12 26 fun k _=>rowP_zero f x b i k,show sumF b 0=0 from rfl]
  omega
 | j+1,h=>by
  rw [Z12 26 fun k _=>rowP_step f x b i j k,sumF_set,rowP_sum f x b i hi j (by omega),if_pos (by omega),show sumF b (j+1)=sumF b j+b j*1024 ^ j from rfl,Nat.pow_add,Nat.mul_add,Nat.add_mul,Nat.mul_comm (1024 ^ i),← Nat.mul_assoc,← Nat.mul_assoc]
  omega
def Z3W (a b:Nat→Nat):Nat→Nat→Nat
 | 0,_=>0
 | i+1,k=>rowP (Z3W a b i) (a i) b i 13 k
theorem prodP_sum (a b:Nat→Nat):∀ i,i≤13→sumF (Z3W a b i) 26=sumF a i*sumF b 13
 | 0,_=>by simp [sumF,Z3W]
 | i+1,h=>by
  rw [Z12 26 fun k _=>show Z3W a b (i+1) k=rowP (Z3W a b i) (a i) b i 13 k from rfl,rowP_sum _ _ _ _ (by omega) 13 (by omega),prodP_sum a b i (by omega),show sumF a (i+1)=sumF a i+a i*1024 ^ i from rfl,Nat.add_mul]
  generalize sumF b 13=s
  generalize 1024 ^ i=p
  rw [Nat.mul_assoc (a i) s p,Nat.mul_assoc (a i) p s,Nat.mul_comm p s]
theorem rowP_le (f:Nat→Nat)(x:Nat)(b:Nat→Nat)(i j k:Nat)(hx:x≤1023)(hb:∀ q,b q≤1023):rowP f x b i j k≤f k+1046529:=by
 unfold rowP
 have h:x*b (k-i)≤1023*1023:=Nat.mul_le_mul hx (hb _)
 split <;> omega
theorem prodP_le (a b:Nat→Nat)(ha:∀ q,a q≤1023)(hb:∀ q,b q≤1023)(k:Nat):∀ i,Z3W a b i k≤i*1046529
 | 0=>Nat.zero_le _
 | i+1=>by
  have h:=prodP_le a b ha hb k i
  have h2:=rowP_le (Z3W a b i) (a i) b i 13 k (ha i) hb
  show rowP (Z3W a b i) (a i) b i 13 k≤_
  omega
def Z6G (A B:Nat):List Nat:=(List.range 26).map (Z3W (fun k=>(digL A 13).getD k 0) (fun k=>(digL B 13).getD k 0) 13)
theorem prodL_length (A B:Nat):(Z6G A B).length=26:=by simp [Z6G]
theorem prodL_at (A B k:Nat)(h:k<26):(Z6G A B).getD k 0=Z3W (fun k=>(digL A 13).getD k 0) (fun k=>(digL B 13).getD k 0) 13 k:=by
 rw [List.getD_eq_getElem?_getD,Z6G,List.getElem?_map,List.getElem?_range h]
 rfl
theorem dig_le (A q:Nat):(digL A 13).getD q 0≤1023:=by
 have:=Z0k (by decide) (Z3B A 13) q
 omega
theorem prodL_small (A B:Nat):Z6F (Z6G A B):=fun x hx=>by
 obtain⟨k,_,rfl⟩:=List.mem_map.1 hx
 have:=prodP_le _ _ (dig_le A) (dig_le B) k 13
 omega
theorem sum_dig (A:Nat)(h:A<1024 ^ 13):sumF (fun k=>(digL A 13).getD k 0) 13=A:=by
 rw [Z12 13 fun k hk=>Z4m A 13 k hk,Z39,Nat.mod_eq_of_lt h]
theorem prodL_big (A B:Nat)(hA:A<1024 ^ 13)(hB:B<1024 ^ 13):bigN (Z6G A B)=A*B:=by
 have h:=prodP_sum (fun k=>(digL A 13).getD k 0) (fun k=>(digL B 13).getD k 0) 13 (by omega)
 rw [sum_dig A hA,sum_dig B hB,show (26:Nat)=13+13 from rfl,Z68] at h
 rw [← h,bigN,Z12 13 fun k hk=>prodL_at A B k (by omega),Z12 (n:=13) (f:=fun k=>(Z6G A B).getD (k+13) 0) fun k hk=>(prodL_at A B (k+13) (by omega)).trans (by rw [Nat.add_comm k 13])]
set_option maxRecDepth 10000 in
theorem rtimes_any (A B:Nat)(hA:A<1024 ^ 13)(hB:B<1024 ^ 13)(ga gb ca cb:Nat)(w:World)(ia:Z0g w ga 13 (digL A 13))(ib:Z0g w gb 13 (digL B 13)) :
  Calls prog 160 #[.slice (some ⟨ga,0,none⟩) 13 ca,.slice (some ⟨gb,0,none⟩) 13 cb] w fun e w'=> ∃ g cap,e= .returned (.slice (some ⟨g,0,none⟩) 13 cap)∧Z0g w' g 13 (digL (A*B%Z0x) 13)∧w.heap.size≤g∧Below w.heap.size w w':=by
 have hm:∀ W,(Instr.makeSlice 67 (.int .i64 26) (.int .i64 26)).run prog W= .ok (.slice (some ⟨W.heap.size,0,none⟩) 26 26) (W.alloc (.cells (madeCells #[.int .i64 0] 26) 3)):=run_make_row' (P:=prog) 67 3 (.int .i64 0) 8 underlying67 Z1j rfl .i64 .i64 26 (by omega) (by omega)
 have hc:=Z4B w 26
 have l:=(Below.refl w.heap.size w).alloc (Nat.le_refl _) (.cells (madeCells #[.int .i64 0] 26) 3)
 have H:Z0g (w.alloc (.cells (madeCells #[.int .i64 0] 26) 3)) ga 13 (digL A 13):=ia.below l ia.lt
 have G:Z0g (w.alloc (.cells (madeCells #[.int .i64 0] 26) 3)) gb 13 (digL B 13):=ib.below l ib.lt
 have M:ga≠w.heap.size:=by have:=ia.lt;omega
 have J:gb≠w.heap.size:=by have:=ib.lt;omega
 obtain⟨ms,I⟩:∃ ms,madeCells #[.int .i64 0] 26=ms:=⟨_,rfl⟩
 rw [I] at hc l H G
 simp only [I] at hm
 clear I ia ib
 have r:Hid (Z6F (Z6G A B)∧(Z6G A B).length=26∧bigN (Z6G A B)=A*B∧∀ k,k<26→(Z6G A B).getD k 0=Z3W (fun k=>(digL A 13).getD k 0) (fun k=>(digL B 13).getD k 0) 13 k):=⟨prodL_small A B,prodL_length A B,prodL_big A B hA hB,prodL_at A B⟩
 have S:=dig_le A
 have L:=dig_le B
 generalize A*B=AB at *
 generalize Z6G A B=PL at *
 obtain⟨a,Y⟩:∃ a:Nat→Nat,a=fun k=>(digL A 13).getD k 0:=⟨_,rfl⟩
 obtain⟨b,Z⟩:∃ b:Nat→Nat,b=fun k=>(digL B 13).getD k 0:=⟨_,rfl⟩
 rw [← Y,← Z] at r
 have d:Hid (∀ q,a q≤1023):=fun q=>by rw [Y];exact S q
 have h:Hid (∀ q,b q≤1023):=fun q=>by rw [Z];exact L q
 have U:Hid (∀ q,(digL A 13).getD q 0=a q):=fun q=>by rw [Y]
 have T:Hid (∀ q,(digL B 13).getD q 0=b q):=fun q=>by rw [Z]
 clear S L Y Z hA hB
 generalize digL A 13=LA at *
 generalize digL B 13=LB at *
 obtain⟨gt,u⟩:∃ gt,gt=w.heap.size:=⟨_,rfl⟩
 rw [← u] at hc M J
 have HG:Hid (gt=w.heap.size):=u
 have a4:w.heap.size=gt:=u.symm
 have N:w.heap.size≤gt:=by omega
 have HA:Hid (Z0n (w.alloc (.cells ms 3)) gt 26 (fun k=> .int .i64 (Z3W a b 0 k:Nat))∧Z0g (w.alloc (.cells ms 3)) ga 13 LA∧Z0g (w.alloc (.cells ms 3)) gb 13 LB∧Below w.heap.size w (w.alloc (.cells ms 3))):=⟨hc,H,G,l⟩
 clear hc H G l u
 go_enter func160,ntmps160
 go_wp2_with fail
 go_loopw [6] (fun v wr=> ∃ i:Nat,i≤13∧v= .int .i64 i∧Z0n wr gt 26 (fun k=> .int .i64 (Z3W a b i k:Nat))∧Z0g wr ga 13 LA∧Z0g wr gb 13 LB∧Below w.heap.size w wr) (fun v _=>13-(intOf v).toNat)
 case atStart=>exact⟨0,Nat.zero_le _,rfl,HA.out⟩
 case round =>
  clear HA hm
  obtain⟨i,hi,rfl,c,C,s,D⟩:=hrel
  by_cases a2:i<13
  ·have a5:(i:Int)<13:=by omega
   have HB:Hid (Z0n wr gt 26 (fun k=> .int .i64 (rowP (Z3W a b i) (a i) b i 0 k:Nat))∧Z0g wr ga 13 LA∧Z0g wr gb 13 LB∧Below w.heap.size w wr):=⟨c.congr fun k _=>by rw [rowP_zero],C,s,D⟩
   have Q:Hid (∀ k,Z3W a b i k≤i*1046529):=fun k=>prodP_le a b d.out h.out k i
   have HN:Hid (∀ k,Z3W a b (i+1) k=rowP (Z3W a b i) (a i) b i 13 k):=fun _=>rfl
   generalize Z3W a b i=f at *
   clear c C s D
   go_wp2_with fail
   generalize wr=wr0 at *
   go_loopw [7] (fun v wq=> ∃ j:Nat,j≤13∧v= .int .i64 j∧Z0n wq gt 26 (fun k=> .int .i64 (rowP f (a i) b i j k:Nat))∧Z0g wq ga 13 LA∧Z0g wq gb 13 LB∧Below w.heap.size w wq) (fun v _=>13-(intOf v).toNat)
   case atStart=>exact⟨0,Nat.zero_le _,rfl,HB.out⟩
   case round =>
    clear HB
    obtain⟨j,hj,rfl,c,C,s,D⟩:=hrel
    by_cases a3:j<13
    ·have a7:(j:Int)<13:=by omega
     have cA:=C.cells i a2
     rw [U.out i] at cA
     have cB:=s.cells j a3
     rw [T.out j] at cB
     have cT:=c.cells (i+j) (by omega)
     have fT:=c.free (i+j) (by omega)
     have a1:=Q.out (i+j)
     have a0:=rowP_le f (a i) b i j (i+j) (d.out i) h.out
     have O:a i*b j≤1023*1023:=Nat.mul_le_mul (d.out i) (h.out j)
     have E:Hid (∀ n,Z0n ((wr.setCell ⟨gt,i+j,none⟩ (.int .i64 ((rowP f (a i) b i j (i+j)+a i*b j:Nat):Int))).drewN n) gt 26 (fun k=> .int .i64 (rowP f (a i) b i (j+1) k:Nat))∧Z0g ((wr.setCell ⟨gt,i+j,none⟩ (.int .i64 ((rowP f (a i) b i j (i+j)+a i*b j:Nat):Int))).drewN n) ga 13 LA∧Z0g ((wr.setCell ⟨gt,i+j,none⟩ (.int .i64 ((rowP f (a i) b i j (i+j)+a i*b j:Nat):Int))).drewN n) gb 13 LB∧Below w.heap.size w ((wr.setCell ⟨gt,i+j,none⟩ (.int .i64 ((rowP f (a i) b i j (i+j)+a i*b j:Nat):Int))).drewN n)):=fun n=>⟨((c.set (i+j) (.int .i64 ((rowP f (a i) b i j (i+j)+a i*b j:Nat):Int)) (by omega)).congr fun k _=>by
      rw [rowP_step f (a i) b i j k]
      by_cases e:k=i+j
      ·subst e;rw [if_pos rfl,if_pos rfl]
      ·rw [if_neg e,if_neg e]).drewN n,(Z0V C M).drewN n,(Z0V s J).drewN n,below_drewN (D.setCell (p:=⟨gt,i+j,none⟩) N _) n⟩
     generalize rowP f (a i) b i j (i+j)=t at *
     obtain⟨z,hz⟩:∃ z,z=t+a i*b j:=⟨_,rfl⟩
     rw [← hz] at E
     have w0:IntKind.i64.wrap ((i:Int)+(j:Int))=(i:Int)+j:=by rw [IntKind.wrap_i64];omega
     obtain⟨X,m⟩:∃ X,X=a i*b j:=⟨_,rfl⟩
     rw [← m] at hz O
     have w1:IntKind.i64.wrap ((a i:Int)*(b j:Int))=(X:Int):=by rw [← Int.natCast_mul,← m,IntKind.wrap_i64];omega
     have w2:IntKind.i64.wrap ((t:Int)+(X:Int))=(z:Int):=by rw [IntKind.wrap_i64];omega
     have a6:(i:Int)+j<26:=by omega
     have s0:(0:Int)≤(i:Int)+j:=by omega
     have st:((i:Int)+j).toNat=i+j:=by omega
     clear m hz
     generalize a i=x at *
     generalize b j=y at *
     clear c C s D a1 a0 O d h Q
     go_wp2_with fail
     go_region
     all_goals
      go_wp2
      go_roundw
      case rel=>exact⟨j+1,by omega,by go_num,E.out 1⟩
      case measure=>simp [intOf];omega
    ·obtain rfl:j=13:=by omega
     have E:Hid (Z0n wr gt 26 (fun k=> .int .i64 (Z3W a b (i+1) k:Nat))∧Z0g wr ga 13 LA∧Z0g wr gb 13 LB∧Below w.heap.size w wr):=⟨c.congr fun k _=>by rw [HN.out],C,s,D⟩
     clear c C s D
     go_wp2
     go_roundw
     case rel=>exact⟨i+1,by omega,by go_num,E.out⟩
     case measure=>simp [intOf];omega
  ·obtain rfl:i=13:=by omega
   obtain⟨hS,hL,F,R⟩:=r.out
   have K:Z0g wr gt PL.length PL:=by
    rw [hL]
    exact⟨c.lt,fun k hk=>by rw [c.cells k hk,R k hk],c.free⟩
   have o:=Z6w PL hS (by omega) gt 26 (by omega) wr K
   rw [hL,F] at o
   have E:Hid (Below w.heap.size w wr):=D
   clear c C s D K hS hL F R r d h U T
   go_wp2_with fail
   refine o.mono ?_
   rintro e w2 ⟨g,cap,rfl,hr,hg,V⟩
   have HR:Hid (Z0g w2 g 13 (digL (AB%Z0x) 13)∧w.heap.size≤g∧Below w.heap.size w w2):=⟨hr,Nat.le_trans E.out.size hg,E.out.trans (V.mono E.out.size)⟩
   clear o hr hg V
   go_wp2
   go_ret
   exact⟨g,cap,rfl,HR.out⟩
def bitL (V n:Nat):List Nat:=(List.range n).map fun t=>V/2 ^ t%2
theorem bitL_length (V n:Nat):(bitL V n).length=n:=by simp [bitL]
theorem bitL_snoc (V n:Nat):intV (bitL V (n+1))=intV (bitL V n) ++ [.int .i64 ((V/2 ^ n%2:Nat):Int)]:=by
 rw [bitL,List.range_succ,List.map_append,intV,List.map_append]
 rfl
theorem bitL_at (V n t:Nat)(h:t<n):(bitL V n).getD t 0=V/2 ^ t%2:=by
 rw [List.getD_eq_getElem?_getD,bitL,List.getElem?_map,List.getElem?_range h]
 rfl
theorem bit_ten (y r:Nat)(hr:r<10):y%1024/2 ^ r%2=y/2 ^ r%2:=by
 have:r=0∨r=1∨r=2∨r=3∨r=4∨r=5∨r=6∨r=7∨r=8∨r=9:=by omega
 rcases this with rfl | rfl | rfl | rfl | rfl | rfl | rfl | rfl | rfl | rfl <;> simp only [Nat.reducePow] <;> omega
theorem bit_dig (V i j:Nat)(hj:j<10):V/1024 ^ i%1024/2 ^ j%2=V/2 ^ (10*i+j)%2:=by
 rw [bit_ten _ _ hj,Nat.div_div_eq_div_mul,Nat.pow_add,Nat.pow_mul]
theorem and_one10 (b r:Nat)(h:b<1024):bits .and .i64 ((b:Int)/2 ^ r) 1=((b/2 ^ r%2:Nat):Int):=by
 have a:(b:Int)/2 ^ r=((b/2 ^ r:Nat):Int):=by rw [Int.natCast_ediv,Int.natCast_pow];rfl
 have c:b/2 ^ r≤b:=Nat.div_le_self _ _
 rw [a,show (1:Int)=((1:Nat):Int) from rfl,Z0q _ _ (by omega) (by decide),Nat.and_one_is_mod]
def addF (W H k:Nat):Nat:=(digL W 14).getD k 0+if k<13 then (digL H 13).getD k 0 else 0
def addT (W H:Nat):List Nat:=(List.range 14).map (addF W H)
theorem Z3a (W H:Nat):(addT W H).length=14:=by simp [addT]
theorem addT_at (W H k:Nat)(h:k<14):(addT W H).getD k 0=addF W H k:=by
 rw [List.getD_eq_getElem?_getD,addT,List.getElem?_map,List.getElem?_range h]
 rfl
theorem dig14_lt (W k:Nat):(digL W 14).getD k 0<1024:=Z0k (by decide) (Z3B W 14) k
theorem Z4C (W k:Nat):(digL W 13).getD k 0<1024:=Z0k (by decide) (Z3B W 13) k
theorem addF_lt (W H k:Nat):addF W H k<2048:=by
 have b:=dig14_lt W k
 have a:=Z4C H k
 unfold addF
 split <;> omega
theorem addT_small (W H:Nat):Z6F (addT W H):=fun x hx=>by
 obtain⟨k,_,rfl⟩:=List.mem_map.1 hx
 have:=addF_lt W H k
 omega
theorem addT_high (W H k:Nat):(addT W H).getD (k+13) 0= [W/1024 ^ 13%1024].getD k 0:=by
 cases k with
 | zero =>
  rw [addT_at W H 13 (by omega),addF,Z4m W 14 13 (by omega),if_neg (by omega)]
  rfl
 | succ k =>
  rw [Z0W _ _ (by rw [Z3a];omega)]
  rfl
theorem addT_big (W H:Nat)(hW:W<1024 ^ 14)(hH:H<1024 ^ 13):bigN (addT W H)=H+W:=by
 have c:sumF (fun k=>(addT W H).getD k 0) 13=W%1024 ^ 13+1*(H%1024 ^ 13):=by
  rw [← Z39 W 13,← Z39 H 13,← Z6Z]
  refine Z12 13 fun k hk=> ?_
  rw [addT_at W H k (by omega),addF,Z4m W 14 k (by omega),if_pos hk,Z4m H 13 k hk,Nat.one_mul]
 have b:sumF (fun k=>(addT W H).getD (k+13) 0) 13=W/1024 ^ 13%1024:=by
  rw [Z12 13 fun i _=>addT_high W H i]
  simp [sumF]
 rw [bigN,c,b,Nat.mod_eq_of_lt hH]
 have a:W/1024 ^ 13<1024:=by
  rw [Nat.div_lt_iff_lt_mul (by decide)]
  rw [Nat.pow_succ] at hW
  omega
 rw [Nat.mod_eq_of_lt a]
 have:=Nat.mod_add_div W (1024 ^ 13)
 omega
theorem step_times (r h:Nat)(piece:List Nat):(h+leN (piece ++ [1]))%Z0x*r%Z0x=Z3U r h piece:=by
 rw [Z3U,Nat.mod_mul_mod]
def Z4K (H S k:Nat):Nat:=(digL H 13).getD k 0+(digL S 13).getD k 0
theorem last_carry (H S:Nat):∀ i,Z0U (Z4K H S) i<2
 | 0=>by simp [Z0U]
 | i+1=>by
  have:=last_carry H S i
  have h1:=Z4C H i
  have h2:=Z4C S i
  rw [Z0U,Z4K]
  omega
theorem last_sum (H S:Nat)(hH:H<1024 ^ 13)(hS:S<1024 ^ 13):sumF (Z4K H S) 13=H+S:=by
 have h:=Z6Z (fun k=>(digL H 13).getD k 0) (fun k=>(digL S 13).getD k 0) 1 13
 rw [sum_dig H hH,sum_dig S hS,Nat.one_mul] at h
 rw [← h]
 exact Z12 13 fun k _=>by rw [Z4K,Nat.one_mul]
theorem last_dig (H S i:Nat)(hi:i<13)(hH:H<1024 ^ 13)(hS:S<1024 ^ 13):(Z0U (Z4K H S) i+Z4K H S i)%1024=(H+S)/1024 ^ i%1024:=by
 rw [carryD_eq (Z4K H S) i (12-i),show i+1+(12-i)=13 by omega,last_sum H S hH hS]
theorem last_bytes (V i:Nat)(hi:i<16):V%340282366920938463463374607431768211456/2 ^ (8*i)%256=V/2 ^ (8*i)%256:=by
 have:i=0∨i=1∨i=2∨i=3∨i=4∨i=5∨i=6∨i=7∨i=8∨i=9∨i=10∨i=11∨i=12∨i=13∨i=14∨i=15:=by omega
 rcases this with rfl | rfl | rfl | rfl | rfl | rfl | rfl | rfl | rfl | rfl | rfl | rfl | rfl | rfl | rfl | rfl <;> simp only [Nat.reducePow,Nat.reduceMul] <;> omega
theorem last_leB (V:Nat):leB 16 (V%340282366920938463463374607431768211456)=leB 16 V:=by
 unfold leB
 refine List.map_congr_left fun i hi=> ?_
 exact last_bytes V i (List.mem_range.1 hi)
end Bx
end Go.Proofs.YtijpgmkdnemmbaaGreatDoor
