/- Part 29. -/
import Derived.Test.YtijpgmkdnemmbaaGreatDoorMg28
set_option maxRecDepth 20000
set_option maxHeartbeats 8000000
open Go.RowKit Go.Proofs.Tryz
namespace Go.Proofs.YtijpgmkdnemmbaaGreatDoor
theorem recover_one (K:VK)(HK:VKOk K)(F:Nat→Prop)(B:Nat)(P:PS)(T:K.σ)(r0 r1:Rg)(c:Sp)(P1 P2:PS)(n:Nat)(raws:List ByteArray)(masks:List Int)(w:World)(h:Duo K w F B P T)(hg:ErrT w)(hF:¬ F 3)(hw:P.wait.length≤1000000)(hr:K.room T 1)(hO:∀ r,K.oE T r=0→(K.oS T r).size=448)(hn:n≤1024)
  (hup:P.up=true)(hlo:loE (P.kept.length:Nat)=0∧loA (P.kept.length:Nat)=layA n (layQ n) (layS n) (layT n))(e1:(bget P 0).2=P1)(e2:(bget P1 1).2=P2)(er0:loadR K P T 0=r0)(er1:loadR K P1 T 1=r1)(hc:chO [r0,r1] (n:Int)=some c)(era:Z1C P2 (P2.kept.length/8)=raws)(erm:Z0Z P2 (P2.kept.length/8)=masks)
  (hall:piB (Z1m K T raws masks 2) (n:Int)=true∧rcdB raws masks 3 (piN (Z1m K T raws masks 2) (n:Int)).toNat=true∧togB 27 (n:Int) (fnW K T raws masks (n:Int))=true)
  (hno:fnOk K T raws masks (n:Int)=true→¬ (fnS K T raws masks (n:Int)).ep=wrap64 (c.ep+1)) :
  Calls prog 22 #[.pointer (some ⟨B,0,none⟩),K.v] w fun e w'=>e= .returned (.tuple #[.agg c.arr,.int .i64 0,.int .i64 0])∧Duo K w' F B (stA P2 (P2.kept.length/8)) (fnP K T raws masks (n:Int))∧Z02 F w w':=by
 have f:=h.lt
 have J:Z4L P P1:=by rw [← e1];exact Z3b P 0
 have I:Z4L P1 P2:=by rw [← e2];exact Z3b P1 1
 have u:P1.wait.length≤1000000:=by rw [J.2.2.1];exact hw
 have E:P2.wait.length≤1000000:=by rw [I.2.2.1];exact u
 have y:raws.length=P2.kept.length/8∧masks.length=P2.kept.length/8:=⟨by rw [← era];exact Z3Q _ _,by rw [← erm];exact Z3o _ _⟩
 have l:∀ W,Below w.heap.size w W→Calls prog 47 #[.pointer (some ⟨B,0,none⟩)] W fun e W'=>e= .returned (.tuple #[.agg (layA n (layQ n) (layS n) (layT n)),.int .i64 0])∧Below W.heap.size W W':=fun W g=>by
  have q:=Z4h (.pointer (some ⟨B,0,none⟩)) (P.kept.length:Nat) W fun W2 p=>((h.below HK g).below HK p).sectors
  rw [hlo.1,hlo.2] at q
  exact q
 have i:∀ (Pa:PS) (a:Int) W,Pa.wait.length≤1000000→Duo K W F B Pa T→ErrT W→Calls prog 53 #[.pointer (some ⟨B,0,none⟩),K.v,.int .i64 a] W fun e W'=>e= .returned (.agg (loadR K Pa T a).arr)∧Duo K W' F B (bget Pa a).2 T∧Z02 F W W':=fun Pa a W hwa b hgW=>by
  obtain⟨s,x,b⟩:=b
  have q:=kload_any K HK B s x Pa T a W b.plate hwa hgW (fun hk=>hF (b.in1 _ hk)) b.vault (HK.less hr (Nat.zero_le _)) (fun k p m=>b.apart k m p) (fun k hk=>b.lt k (b.in1 k hk))
  refine q.mono fun e W' ⟨he,hp,d⟩=>⟨?_,⟨s,x,hp,HK.keep b.vault fun k hk hF2=>d.2 k hk fun m=>b.apart k m hF2,b.apart,b.in1,b.in2,fun k hk=>Nat.lt_of_lt_of_le (b.lt k hk) d.size⟩,d.mono b.in1⟩
  rw [he]
  unfold loadK loadR Rg.arr
  by_cases t:(bget Pa a).1.2.2=0∧(bget Pa a).1.2.1=0
  ·rw [if_pos t]
   unfold toldR
   by_cases o:K.oE T (bget Pa a).1.1=0∧(K.oH T (bget Pa a).1.1).v1=a
   ·rw [if_pos o,if_pos ⟨t.1,t.2,o.1,o.2⟩]
   ·rw [if_neg o,if_neg fun q=>o ⟨q.2.2.1,q.2.2.2⟩]
    rfl
  ·rw [if_neg t,if_neg fun q=>t ⟨q.1,q.2.1⟩]
   rfl
 have j:∀ W,Z02 F w W→ErrT W:=fun W d=>hg.touch d hF
 refine (recover_kept (.pointer (some ⟨B,0,none⟩)) K.v n (layQ n) (layS n) (layT n) r0 r1 c (fnS K T raws masks (n:Int)) (fnOk K T raws masks (n:Int)) raws masks w (fun W=>Duo K W F B P1 T∧Z02 F w W) (fun W=>Duo K W F B P2 T∧Z02 F w W) (fun W=>Duo K W F B (stA P2 (P2.kept.length/8)) T∧Z02 F w W) (fun W=>Duo K W F B (stA P2 (P2.kept.length/8)) (fnP K T raws masks (n:Int))∧Z02 F w W) (duo_stb HK f) (duo_stb HK f) (duo_stb HK f) (duo_stb HK f) (fun W g=>by have q:=(h.below HK g).up;rw [hup] at q;exact q) l ?_ ?_ ?_ ?_ ?_ hno).mono fun e w' ⟨he,hq⟩=>⟨he,hq⟩
 ·intro W g
  have d:=Z02.of_below (F:=F) g
  have q:=i P 0 W hw (h.below HK g) (j W d)
  rw [er0,e1] at q
  exact q.mono fun e W' ⟨a1,a2,a3⟩=>⟨a1,⟨a2,d.trans (a3.mono fun _ h=> .inl h)⟩,Z4F a3 f,a3.size⟩
 ·intro W g _
  have q:=i P1 1 W u g.1 (j W g.2)
  rw [er1,e2] at q
  exact q.mono fun e W' ⟨a1,a2,a3⟩=>⟨a1,⟨a2,g.2.trans (a3.mono fun _ h=> .inl h)⟩,Z4F a3 f,a3.size⟩
 ·intro C W H
  have q:=jcho_any C [r0,r1] (n:Int) W H
  rw [hc] at q
  exact q
 ·intro W g _
  obtain⟨s,x,b⟩:=g.1
  refine (all_any B s P2 W b.plate E (j W g.2) (fun hk=>hF (b.in1 _ hk)) (fun k hk=>b.lt k (b.in1 k hk))).mono fun e W' ⟨D,G,z,A,he,⟨M,hm⟩,hp,d⟩=>⟨D,G,z,A,?_,?_,?_,⟨⟨s,x,hp,HK.keep b.vault fun k hk hF2=>d.2 k hk fun m=>b.apart k m hF2,b.apart,b.in1,b.in2,fun k hk=>Nat.lt_of_lt_of_le (b.lt k hk) d.size⟩,g.2.trans (d.mono fun k hk=> .inl (b.in1 k hk))⟩,Z4F (d.mono b.in1) f,d.size⟩
  ·rw [he,y.1,y.2]
  ·rw [era,erm] at hm
   rw [y.1]
   exact (jviews hm).1
  ·rw [era,erm] at hm
   rw [y.2]
   exact (jviews hm).2
 ·intro D G z A W g _ m p
  refine (found_one K HK F B _ T hr hO n (layQ n) (layS n) (layT n) hn D z G A raws masks W g.1 m p hall).mono fun e W' ⟨⟨C,he,_⟩,b,d⟩=>⟨C,he,⟨b,g.2.trans (d.mono fun _ h=> .inl h)⟩,Z4F d f,d.size⟩
theorem sonS_up (K:VK)(P:PS)(S:K.σ)(s:Sp)(h:P.up=true):sonS K P S s=supP K S s:=if_pos h
theorem blks_one (w:World)(g:Nat)(t cap:Nat)(hg:g=w.heap.size):Blks (w.alloc (.cells #[.int .i64 40,.int .u8 1,.bool false] t)) (.slice (some ⟨g,0,none⟩) 1 cap) [aB]:=by
 subst hg
 have g:=heap_alloc_new w (.cells #[.int .i64 40,.int .u8 1,.bool false] t)
 refine .inr ⟨w.heap.size,0,cap,rfl,by simp,fun i x hx=> ?_⟩
 have a:i=0:=by have:=(List.getElem?_eq_some_iff.1 hx).1;simp at this;omega
 subst a
 cases hx
 exact⟨cell_of_row _ _ 0 _ _ _ g,cell_of_row _ _ 1 _ _ _ g,cell_of_row _ _ 2 _ _ _ g⟩
theorem awk_fmt (F:Nat→Prop)(B V:Nat)(w:World)(h:Duo (Z07 V) w F B (newP 784) newV)(hg:ErrT w)(hF:¬ F 3) :
  Calls prog 18 #[.pointer (some ⟨B,0,none⟩),.pointer (some ⟨V,0,none⟩),.agg (Z0K 48 0).arr] w fun e w'=>e= .returned (.int .i64 0)∧Duo (Z07 V) w' (grow F w w') B (aP1 V) (aS1 V)∧Z02 F w w':=by
 obtain⟨d,g,_⟩:=Z3r 0 (.inl rfl)
 obtain⟨c,_,_⟩:=Z2V V newV d g
 have a:(newP 784).up=true:=rfl
 have k:(newP 784).kept.length=784:=by show (List.replicate 784 (Z0c 0 64)).length=784;rw [List.length_replicate]
 have i:sonE (newP 784) (Z0K 48 0)=0:=by unfold sonE;rw [if_pos a];exact c
 have j:sonA (newP 784) (Z0K 48 0)=0:=by unfold sonA;rw [if_pos a];unfold supA;rw [if_pos c];rfl
 have f:sonR (Z07 V) (newP 784) newV (Z0K 48 0)=aR0 V:=by unfold sonR;rw [if_pos a];rfl
 have l:sonS (Z07 V) (newP 784) newV (Z0K 48 0)=aS1 V:=sonS_up (Z07 V) _ _ _ a
 have b:(Z07 V).room newV 1:=by show (0:Nat)+1≤1000000∧(0:Nat)+1≤1000000;omega
 have q:=format_in (Z07 V) (Z1R V) F B (newP 784) newV (Z0K 48 0) w 0 (aR0 V) h b (by show (0:Nat)≤100000;omega) hg hF (by rw [k];exact⟨a784.1,a784.2.1⟩) d i j ⟨by decide,by decide⟩ f
 rw [l,(Z73 V).1] at q
 exact q
theorem awk_com (F:Nat→Prop)(B V:Nat)(oa:Option Addr)(ca:Nat)(w:World)(h:Duo (Z07 V) w F B (aP1 V) (aS1 V))(hg:ErrT w)(hF:¬ F 3)(hv:WtO F w (.slice oa aW.length ca) aW) :
  Calls prog 20 #[.pointer (some ⟨B,0,none⟩),.pointer (some ⟨V,0,none⟩),.slice oa aW.length ca,.agg (Z0K 48 1).arr] w fun e w'=>e= .returned (.int .i64 0)∧Duo (Z07 V) w' (grow F w w') B (aP2 V) (aS3 V)∧Z02 F w w':=by
 obtain⟨j,t,u⟩:=Z3r 1 (.inr rfl)
 have r:=Z3c V
 have a:(Z07 V).room (aS1 V) 2:=by
  show (aS1 V).texts.length+2≤1000000∧(aS1 V).seals.length+2≤1000000
  omega
 have k:(Z07 V).room (aS2 V) 1:=by
  show (aS2 V).texts.length+1≤1000000∧(aS2 V).seals.length+1≤1000000
  omega
 have b:aW.length≤24:=by rw [aW_eq];decide
 have f:∀ x∈aW,x.raw.size≤512:=by
  intro x n
  rw [aW_eq,List.mem_singleton] at n
  subst n
  exact Nat.le_of_eq Z5M
 obtain⟨p,_,_⟩:=Z6e V (aS1 V) (l:=aW) ((Z1R V).less a (by decide)) b j u
 obtain⟨o,_,_⟩:=Z2V V (aS2 V) j t
 have i:proA (Z07 V) (aS1 V) aW (Z0K 48 1)=2:=by unfold proA;rw [if_pos p]
 have g:supA (Z0K 48 1)=1:=by unfold supA;rw [if_pos o];rfl
 obtain⟨v,d,m,_⟩:=Z73 V
 have s:(aP1 V).kept.length=784:=d.len
 have q:=commit_in (Z07 V) (Z1R V) F B (aP1 V) (aS1 V) 7 1 5 (Z0c 3 32) 48 (layQ 48) (layS 48) (layT 48) oa ca aW w 2 1 (aRp V) (aR1 V) (aS2 V) (aS3 V) h (by rw [m];decide) hg hF hv b (by decide) d.up aTogW (fun W hW=>by
   have q:=Z4h (.pointer (some ⟨B,0,none⟩)) ((aP1 V).kept.length:Nat) W fun W2 h2=>((h.below (Z1R V) hW).below (Z1R V) h2).sectors
   rw [s] at q
   have c:(((784:Nat):Int))=784:=rfl
   rw [c,a784.1,a784.2.2] at q
   exact q) (fun W hW=>by
   have q:=unseal_duo (Z07 V) (Z1R V) F B (aP1 V) (aS1 V) (Z0K 48 1) W (h.below (Z1R V) hW) ((Z1R V).less a (by decide))
   rw [j] at q
   exact q) (fun W hd hW=>by
   have q:=promise_duo (Z07 V) (Z1R V) F B (aP1 V) (aS1 V) (Z0K 48 1) oa ca aW W hd a hW b f
   rw [i,p] at q
   exact q) (fun W hd=>by
   have q:=super_duo (Z07 V) (Z1R V) F B (aP1 V) (aS2 V) (Z0K 48 1) W hd k
   rw [g,o] at q
   exact q)
 rw [(Z3k V).1] at q
 exact q
theorem aPiB (B:Nat){P1 P2:PS}{raws:List ByteArray}{masks:List Int}(H:AwR B P1 P2 raws masks):piB (Z1m (Z07 B) (aS3 B) raws masks 2) 48=true:=by
 rw [aLook B H]
 exact (pro_pi (Z1R B) (S:=aS1 B) (l:=aW) (s:=Z0K 48 1) (by have:=Z3c B;show (aS1 B).texts.length+1≤1000000∧(aS1 B).seals.length+1≤1000000;omega) (by decide) (Z3r 1 (.inr rfl)).1).1
theorem aRcB (B:Nat){P1 P2:PS}{raws:List ByteArray}{masks:List Int}(H:AwR B P1 P2 raws masks):rcdB raws masks 3 (piN (Z1m (Z07 B) (aS3 B) raws masks 2) 48).toNat=true:=by
 obtain⟨_,c,_,_,_,d⟩:=Z3k B
 obtain⟨_,b⟩:=seen_at (a:=3) (c.alike H.a2) (d.alike H.a2) Z5M
 rw [H.er,H.em] at b
 rw [(aPi B H).1]
 have e:atM raws masks (3+((0:Nat):Int))=0:=b
 show (decide (atM raws masks (3+((0:Nat):Int))=0)&&true)=true
 rw [e]
 rfl
theorem awk_rcv (F:Nat→Prop)(B V:Nat)(w:World)(h:Duo (Z07 V) w F B (aP2 V) (aS3 V))(hg:ErrT w)(hF:¬ F 3)(hw:(aP2 V).wait.length≤1000000) :
  Calls prog 22 #[.pointer (some ⟨B,0,none⟩),.pointer (some ⟨V,0,none⟩)] w fun e w'=>e= .returned (.tuple #[.agg (Z0K 48 1).arr,.int .i64 0,.int .i64 0])∧Z02 F w w':=by
 obtain⟨P1,g⟩:∃ P1,(bget (aP2 V) 0).2=P1:=⟨_,rfl⟩
 obtain⟨P2,i⟩:∃ P2,(bget P1 1).2=P2:=⟨_,rfl⟩
 obtain⟨b,f⟩:∃ l,Z1C P2 (P2.kept.length/8)=l:=⟨_,rfl⟩
 obtain⟨masks,j⟩:∃ l,Z0Z P2 (P2.kept.length/8)=l:=⟨_,rfl⟩
 have H:AwR V P1 P2 b masks:=⟨g,i,f,j⟩
 have m:=Z3c V
 have n:(Z07 V).room (aS3 V) 1:=by
  show (aS3 V).texts.length+1≤1000000∧(aS3 V).seals.length+1≤1000000
  omega
 have k:=aP_len V
 have d:(((784:Nat):Int))=784:=rfl
 have q:=recover_one (Z07 V) (Z1R V) F B (aP2 V) (aS3 V) aRg0 aRg1 (Z0K 48 1) P1 P2 48 b masks w h hg hF hw n (ideal_oSize V (aS3 V) (by omega)) (by decide) k.2 (by rw [k.1,d];exact⟨a784.1,a784.2.2⟩) g i (aLoad0 V) (aLoad1 V H) aCho f j ⟨aPiB V H,aRcB V H,aTog V H⟩ (fun hy=>by
  have q:=aFn V H hy
  have o:(fnS (Z07 V) (aS3 V) b masks ((48:Nat):Int)).ep=1:=q
  rw [o]
  show ¬ (1:Int)=wrap64 (1+1)
  unfold wrap64
  omega)
 exact q.mono fun e w' ⟨a,_,c⟩=>⟨a,c⟩
theorem jawake_any (w:World)(hg:ErrT w):Calls prog 7 #[] w fun e w'=>e= .returned (.bool true)∧Below w.heap.size w w':=by
 have hn:∀ W,Calls prog 8 #[.int .i64 784] W fun e w'=> ∃ B,e= .returned (.tuple #[.pointer (some ⟨B,0,none⟩),.int .i64 0])∧Z0d w' (fun k=>W.heap.size≤k∧k<w'.heap.size) B (newP 784)∧Below W.heap.size W w':=fun W=>new_any 784 (by decide) W
 have N:=fun W=>jlsup_any 48 0 W
 have a0:=fun W=>jlsup_any 48 1 W
 have HG:Hid (ErrT w):=hg
 clear hg
 go_enter func7,ntmps7
 go_wp2_with fail
 refine (jsectors_any _).mono ?_
 rintro e M ⟨rfl,U⟩
 have f:Hid (Below w.heap.size w M):=U
 clear U
 go_wp2_with fail
 refine (hn _).mono ?_
 rintro e w2 ⟨B,rfl,Z,a2⟩
 have i:Hid (Z0d w2 (fun k=>M.heap.size≤k∧k<w2.heap.size) B (newP 784)∧Below M.heap.size M w2):=⟨Z,a2⟩
 clear hn Z a2
 go_wp2_with fail
 refine (ideal_any _).mono ?_
 rintro e w3 ⟨V,rfl,a1,s⟩
 have hD:∃ F:Nat→Prop,Duo (Z07 V) w3 F B (newP 784) newV∧(∀ k,F k→w.heap.size≤k):=by
  refine⟨fun k=>M.heap.size≤k∧k<w3.heap.size,⟨_,_,i.out.1.below s,a1,?_,?_,?_,?_⟩,?_⟩
  ·intro k h1 h2
   exact absurd h1.2 (by have:=h2.1;omega)
  ·exact fun k hk=>⟨hk.1,Nat.lt_of_lt_of_le hk.2 s.size⟩
  ·exact fun k hk=>⟨Nat.le_trans i.out.2.size hk.1,hk.2⟩
  ·exact fun k hk=>hk.2
  ·exact fun k hk=>Nat.le_trans f.out.size hk.1
 obtain⟨F,hD,v⟩:=hD
 have l:Below w.heap.size w w3:=(f.out.trans (i.out.2.mono f.out.size)).trans (s.mono (Nat.le_trans f.out.size i.out.2.size))
 have I:¬ F 3:=fun h=>by have q:=v _ h;have q2:=Z0E HG.out;omega
 have m:Hid (Duo (Z07 V) w3 F B (newP 784) newV∧(∀ k,F k→w.heap.size≤k)∧Below w.heap.size w w3∧ErrT w3∧¬ F 3):=⟨hD,v,l,HG.out.below l (Z0E HG.out),I⟩
 clear f i a1 s hD v l I
 go_wp2_with fail
 refine (N _).mono ?_
 rintro e w4 ⟨rfl,n⟩
 have E:=m.out.1.below (Z1R V) n
 have C:ErrT w4:=m.out.2.2.2.1.bel n
 have h5:=awk_fmt F B V w4 E C m.out.2.2.2.2
 have c:Hid (ErrT w4∧Below w.heap.size w w4):=⟨C,m.out.2.2.1.trans (n.mono m.out.2.2.1.size)⟩
 clear N n E C
 go_wp2_with fail
 refine h5.mono ?_
 rintro e w5 ⟨rfl,D,z⟩
 have T:∀ k,grow F w4 w5 k→w.heap.size≤k:=fun k hk=>by
  rcases hk with hk | hk
  ·exact m.out.2.1 k hk
  ·exact Nat.le_trans c.out.2.size hk.1
 have Q:Below w.heap.size w w5:=c.out.2.trans (z.below c.out.2.size m.out.2.1)
 have O:ErrT w5:=c.out.1.touch z m.out.2.2.2.2
 have R:¬ grow F w4 w5 3:=fun hk=>by
  rcases hk with hk | hk
  ·exact m.out.2.2.2.2 hk
  ·have q:=Z0E c.out.1;have q2:=hk.1;omega
 generalize grow F w4 w5=F2 at *
 have a:Hid (Duo (Z07 V) w5 F2 B (aP1 V) (aS1 V)∧(∀ k,F2 k→w.heap.size≤k)∧Below w.heap.size w w5∧ErrT w5∧¬ F2 3):=⟨D,T,Q,O,R⟩
 have J:=D.lt
 have hw:=fun g cap (hgg:g=w5.heap.size)=>writes_l_any _ [aB] (w5.alloc (.cells #[.int .i64 40,.int .u8 1,.bool false] 62)) (blks_one w5 g _ cap hgg) (fun x hx=>by rw [List.mem_singleton] at hx;subst hx;exact⟨⟨1,rfl⟩,by decide⟩) (by decide)
 clear h5 D z T Q O R m c
 go_wp2_with fail
 refine (hw _ _ (by simp)).mono ?_
 rintro e w6 ⟨v',rfl,r,Y⟩
 obtain⟨oz,cz,rfl⟩:=r.form
 have t:Below w5.heap.size w5 w6:=(Z1o w5 _).trans (Y.mono (by simp))
 have j:Hid (Wts w6 (.slice oz (wrsL [aB]).length cz) (wrsL [aB])∧(∀ g o len cap,(.slice oz (wrsL [aB]).length cz:Value)= .slice (some ⟨g,o,none⟩) len cap→w5.heap.size≤g)∧Below w5.heap.size w5 w6):=⟨r.wts.1,fun g o len cap e=>by have q:=(r.wts.2 g o len cap e).1;simp at q;omega,t⟩
 clear hw r Y t
 go_wp2_with fail
 refine (a0 _).mono ?_
 rintro e w7 ⟨rfl,y⟩
 have b:Below w5.heap.size w5 w7:=j.out.2.2.trans (y.mono j.out.2.2.size)
 have K:=a.out.1.below (Z1R V) b
 have u:ErrT w7:=a.out.2.2.2.1.bel b
 have h8:=awk_com F2 B V oz cz w7 K u a.out.2.2.2.2 ⟨j.out.1.below y,fun _ g o len cap e hk=>by have q:=j.out.2.1 g o len cap e;have q2:=a.out.1.lt g hk;omega⟩
 have d:Hid (ErrT w7∧Below w.heap.size w w7):=⟨u,a.out.2.2.1.trans (b.mono a.out.2.2.1.size)⟩
 clear a0 y b K u J
 go_wp2_with fail
 refine h8.mono ?_
 rintro e w8 ⟨rfl,L,A⟩
 have P:∀ k,grow F2 w7 w8 k→w.heap.size≤k:=fun k hk=>by
  rcases hk with hk | hk
  ·exact a.out.2.1 k hk
  ·exact Nat.le_trans d.out.2.size hk.1
 have G:Below w.heap.size w w8:=d.out.2.trans (A.below d.out.2.size a.out.2.1)
 have S:ErrT w8:=d.out.1.touch A a.out.2.2.2.2
 have H:¬ grow F2 w7 w8 3:=fun hk=>by
  rcases hk with hk | hk
  ·exact a.out.2.2.2.2 hk
  ·have q:=Z0E d.out.1;have q2:=hk.1;omega
 have h9:=awk_rcv _ B V w8 L S H (by rw [aP2_wait];decide)
 generalize grow F2 w7 w8=F3 at *
 have p:Hid ((∀ k,F3 k→w.heap.size≤k)∧Below w.heap.size w w8):=⟨P,G⟩
 simp only [Z0K,Sp.arr] at h9
 clear h8 L A P G S H d j a
 go_wp2_with fail
 refine h9.mono ?_
 rintro e w9 ⟨rfl,X⟩
 have HF:Hid (Below w.heap.size w w9):=p.out.2.trans (X.below p.out.2.size p.out.1)
 clear h9 X p
 generalize Z0c 3 32=rt at *
 go_wp2
 go_ret
 exact⟨rfl,HF.out.alloc HF.out.size _⟩
end Go.Proofs.YtijpgmkdnemmbaaGreatDoor
