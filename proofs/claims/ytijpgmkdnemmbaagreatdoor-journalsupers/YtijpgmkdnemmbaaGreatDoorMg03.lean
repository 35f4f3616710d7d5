/- Part 3. -/
import Derived.Test.YtijpgmkdnemmbaaGreatDoorMg02
import Derived.Deep.RegionWith
set_option maxRecDepth 20000
set_option maxHeartbeats 8000000
open Go.RowKit Go.Proofs.Tryz
namespace Go.Proofs.YtijpgmkdnemmbaaGreatDoor
namespace Bx
theorem least_math (h0 h1 h2 x y z k1 k2 k3:Nat)(l0:h0<18446744073709551616)(l1:h1<18446744073709551616)(l2:h2≤4)(lx:x<18446744073709551616)(ly:y<18446744073709551616)(lz:z<18446744073709551616)(lk:k3≤1)
  (e1:h0+k1*18446744073709551616=18446744073709551611+x)(e2:h1+k2*18446744073709551616=18446744073709551615+k1+y)(e3:h2+k3*18446744073709551616=3+k2+z) :
  (k3=1→h0+h1*18446744073709551616=(h0+h1*18446744073709551616+h2*340282366920938463463374607431768211456)%Z0x%340282366920938463463374607431768211456) ∧
  (k3=0→x+y*18446744073709551616=(h0+h1*18446744073709551616+h2*340282366920938463463374607431768211456)%Z0x%340282366920938463463374607431768211456):=by
 constructor
 ·rintro rfl
  have h:h0+h1*18446744073709551616+h2*340282366920938463463374607431768211456<Z0x:=by unfold Z0x;omega
  rw [Nat.mod_eq_of_lt h]
  clear e1 e2 e3 h
  omega
 ·rintro rfl
  have h:h0+h1*18446744073709551616+h2*340282366920938463463374607431768211456=Z0x+(x+y*18446744073709551616+z*340282366920938463463374607431768211456):=by unfold Z0x;omega
  have a:x+y*18446744073709551616+z*340282366920938463463374607431768211456<Z0x:=by unfold Z0x at h ⊢;omega
  rw [h,Nat.add_mod_left,Nat.mod_eq_of_lt a]
  clear e1 e2 e3 h a
  omega
theorem xor_back (x y:Nat)(hx:x<18446744073709551616)(hy:y<18446744073709551616):∃ e:Nat,bits .xor .u64 (x:Int) (y:Int)=e∧bits .and .u64 (e:Int) 18446744073709551615=e∧bits .and .u64 (e:Int) 0=0∧bits .xor .u64 (x:Int) (e:Int)=y∧bits .xor .u64 (x:Int) 0=x:=by
 have a:=Nat.xor_lt_two_pow (n:=64) hx hy
 refine⟨x ^^^ y,u64_xor_nat x y hx hy,?_,?_,?_,?_⟩
 ·have h:=u64_and_nat (x ^^^ y) 18446744073709551615 a (by decide)
  rw [show (x ^^^ y) &&& 18446744073709551615=(x ^^^ y)%18446744073709551616 from Nat.and_two_pow_sub_one_eq_mod _ 64,Nat.mod_eq_of_lt a] at h
  exact h
 ·have h:=u64_and_nat (x ^^^ y) 0 a (by decide)
  rw [Nat.and_zero] at h
  exact h
 ·rw [u64_xor_nat x _ hx a,← Nat.xor_assoc,Nat.xor_self,Nat.zero_xor]
 ·have h:=u64_xor_nat x 0 hx (by decide)
  rw [Nat.xor_zero] at h
  exact h
theorem least_any (h0 h1 h2:Nat)(l0:h0<18446744073709551616)(l1:h1<18446744073709551616)(l2:h2≤4):∃ a b:Nat,a<18446744073709551616∧b<18446744073709551616∧a+b*18446744073709551616=(h0+h1*18446744073709551616+h2*340282366920938463463374607431768211456)%Z0x%340282366920938463463374607431768211456 ∧
  ∀ (B o:Nat) (w:World),w.cell? ⟨B,o,none⟩=some (.int .u64 h0)→w.cell? ⟨B,o+1,none⟩=some (.int .u64 h1)→w.cell? ⟨B,o+2,none⟩=some (.int .u64 h2) →
  Calls prog 251 #[.pointer (some ⟨B,o,none⟩)] w fun e w'=>e= .returned (.tuple #[.int .u64 a,.int .u64 b])∧∃ n,w'=w.drewN n:=by
 obtain⟨h,x,r,p,j,t⟩:=sub64_c h0 18446744073709551611 0 l0 (by decide) (by decide)
 obtain⟨g,y,m,i,k,C⟩:=sub64_c h1 18446744073709551615 h l1 (by decide) t
 obtain⟨f,z,q,l,F,A⟩:=sub64_c h2 3 g (by clear p i;omega) (by decide) C
 obtain⟨c,d⟩:=least_math h0 h1 h2 x y z h g f l0 l1 l2 j k F A (by clear i l;omega) i l
 obtain⟨N,H,M,G,J,R⟩:=xor_back x h0 j l0
 obtain⟨I,P,K,O,L,Q⟩:=xor_back y h1 k l1
 have u:∀ w,(callFunc 257 #[.int .u64 h0,.int .u64 18446744073709551611,.int .u64 0]).run prog w= .ok (.value (.tuple #[.int .u64 x,.int .u64 h])) w:=r
 have D:∀ w,(callFunc 257 #[.int .u64 h1,.int .u64 18446744073709551615,.int .u64 h]).run prog w= .ok (.value (.tuple #[.int .u64 y,.int .u64 g])) w:=m
 have E:∀ w,(callFunc 257 #[.int .u64 h2,.int .u64 3,.int .u64 g]).run prog w= .ok (.value (.tuple #[.int .u64 z,.int .u64 f])) w:=q
 clear r m q p i l
 have s:f=1∨f=0:=by clear c d;omega
 rcases s with rfl | rfl
 ·refine⟨h0,h1,l0,l1,c rfl,fun B o w c0 c1 c2=> ?_⟩
  clear d c
  have v:IntKind.u64.wrap (-1)=18446744073709551615:=by rw [IntKind.wrap_u64];rfl
  go_enter func251,ntmps251
  go_wp2_with fail
  go_quiet (fail)
  go_wp2
  go_ret2
  exact⟨rfl,_,rfl⟩
 ·refine⟨x,y,j,k,d rfl,fun B o w c0 c1 c2=> ?_⟩
  clear d c
  have v:IntKind.u64.wrap 0=0:=by rw [IntKind.wrap_u64];rfl
  go_enter func251,ntmps251
  go_wp2_with fail
  go_quiet (fail)
  go_wp2
  go_ret2
  exact⟨rfl,_,rfl⟩
theorem tag_math (a b s0 s1 V x c t y:Nat)(hx:x<18446744073709551616)(h:a+b*18446744073709551616=V%340282366920938463463374607431768211456)
  (e1:a+s0=c*18446744073709551616+x)(e2:t=(s1+c)%18446744073709551616)(e3:y=(b+t)%18446744073709551616) :
  x+y*18446744073709551616=(V+(s0+s1*18446744073709551616))%340282366920938463463374607431768211456:=by
 rw [Nat.add_mod,← h,Nat.add_mod_mod]
 subst e2 e3
 clear h
 omega
set_option maxRecDepth 10000 in
theorem tag_any (B r0 r1 s0 s1 h0 h1 h2:Nat)(l0:h0<18446744073709551616)(l1:h1<18446744073709551616)(l2:h2≤4)(hs0:s0<18446744073709551616)(w:World)(hr:Row w B 341 (tagC r0 r1 s0 s1 h0 h1 h2)) :
  Calls prog 243 #[.pointer (some ⟨B,0,none⟩)] w fun e w'=>e= .returned (.string (strN (leB 16 (((h0+h1*18446744073709551616+h2*340282366920938463463374607431768211456)%Z0x+(s0+s1*18446744073709551616))%340282366920938463463374607431768211456))))∧Below w.heap.size w w':=by
 obtain⟨a,b,K,S,q,d⟩:=least_any h0 h1 h2 l0 l1 l2
 obtain⟨c,x,N,C,I,L⟩:=Z55 a s0 K hs0
 obtain⟨t,u⟩:∃ t,t=(s1+c)%18446744073709551616:=⟨_,rfl⟩
 obtain⟨y,s⟩:∃ y,y=(b+t)%18446744073709551616:=⟨_,rfl⟩
 have F:=tag_math a b s0 s1 _ x c t y I q C u s
 rw [← F,leB_two x y I]
 have R:IntKind.u64.wrap ((s1:Int)+c)=t:=by rw [IntKind.wrap_u64,u];rfl
 have O:IntKind.u64.wrap ((b:Int)+t)=y:=by rw [IntKind.wrap_u64,s];rfl
 clear F q u s C
 have H:=hr.cell 4
 have J:=hr.cell 5
 have G:=hr.cell 6
 have D:=d B 4 w H J G
 clear d H J G
 have Q:w.cell? ⟨B,2,none⟩=some (.int .u64 s0):=hr.cell 2
 have M:w.cell? ⟨B,3,none⟩=some (.int .u64 s1):=hr.cell 3
 clear hr
 go_enter func243,ntmps243
 go_wp2_with fail
 refine D.mono ?_
 rintro e j ⟨rfl,n,rfl⟩
 clear D
 go_wp2_with fail
 refine (Z3J x y _).mono ?_
 rintro e j ⟨rfl,r⟩
 have k:=(bdrewN (Below.refl _ _) n).trans r
 clear r
 obtain⟨h,f⟩:∃ h,h=(byV (leB 8 x++leB 8 y)).toArray:=⟨_,rfl⟩
 have o:h.size=16:=by rw [f];simp [byV,leB]
 have l:h.all (·.oneCell')=true:=by rw [f];simp [byV,Value.oneCell']
 have g:(prog.info? 345).map (·.size)=some h.size:=by rw [o];kernel_rfl
 rw [← f]
 have v:Hid _:=f
 clear f
 go_wp2_with (refine wpList_store_row rfl 345 _ _ rfl j.heap.size h rfl rfl 345 _ (heap_alloc_new j _) g (by rw [o];rfl) l ?_)
 rw [World.setRow_alloc_new]
 have E:Row (j.alloc (.cells h 345)) j.heap.size 345 (byV (leB 8 x++leB 8 y)):=by rw [v.out];exact heap_alloc_new j _
 have A:=k.alloc k.size (.cells h 345)
 generalize j.alloc (.cells h 345)=w2 at *
 have m:(leB 8 x++leB 8 y).length=16:=by simp [leB]
 have p:=run_convert_bytes_arg (P:=prog) w2 90 5 underlying90 underlying5 j.heap.size 0 16 16 ((leB 8 x++leB 8 y).map fun (x:Nat)=>(x:Int)) (by simp [leB]) (fun i hi=>by
  rw [Nat.zero_add,E.cell,Z0s _ _ (by rw [m];exact hi)]
  simp only [List.getD_eq_getElem?_getD,List.getElem?_map]
  rw [List.getElem?_eq_getElem (by rw [m];exact hi)]
  rfl) 9 underlying9
 have z:Hid (strOfNums ((leB 8 x++leB 8 y).map fun (x:Nat)=>(x:Int))=strN (leB 8 x++leB 8 y)):=rfl
 rw [z.out] at p
 clear E l g o
 go_wp2
 rw [p]
 go_wp2
 go_ret
 exact⟨rfl,A⟩
theorem Z7W (l:List Nat)(h:Z03 l)(o:Nat):Z0M l o<18446744073709551616:=by
 have b:=leN_lt ((l.drop o).take 8) ((h.drop o).take 8)
 have a:256 ^ ((l.drop o).take 8).length≤256 ^ 8:=Nat.pow_le_pow_right (by decide) (by simp;omega)
 exact Nat.lt_of_lt_of_le b a
theorem Z7X (l:List Nat)(h:l.length=16):leN l=Z0M l 0+Z0M l 8*18446744073709551616:=by
 have e:l=(l.drop 0).take 8++(l.drop 8).take 8:=by
  rw [List.drop_zero,List.take_of_length_le (l:=l.drop 8) (by simp;omega),List.take_append_drop]
 have a:((l.drop 0).take 8).length=8:=by simp;omega
 unfold Z0M
 conv=>lhs;rw [e,Z2U,a]
 rw [Nat.mul_comm]
theorem only_drewN {b:Nat}{w w':World}(h:Only b w w')(n:Nat):Only b w (w'.drewN n):=⟨bdrewN h.1 n,fun k hk hb=>h.2 k hk hb⟩
theorem add_math (h0 h1 h2 n0 n1 c1 x c2 y z high:Nat)(e1:h0+n0=c1*18446744073709551616+x)(e2:h1+n1+c1=c2*18446744073709551616+y)(ez:z=h2+high+c2) :
  x+y*18446744073709551616+z*340282366920938463463374607431768211456=h0+h1*18446744073709551616+h2*340282366920938463463374607431768211456+(n0+n1*18446744073709551616)+high*340282366920938463463374607431768211456:=by
 subst ez
 omega
theorem store_all (w:World)(B r0 r1 s0 s1 h0 h1 h2 a b c:Nat)(hr:Row w B 341 (tagC r0 r1 s0 s1 h0 h1 h2)) :
  (w.cell? ⟨B,4,none⟩=some (.int .u64 h0)∧w.cell? ⟨B,5,none⟩=some (.int .u64 h1)∧w.cell? ⟨B,6,none⟩=some (.int .u64 h2)∧∀ i,w.frozen? ⟨B,i,none⟩=false) ∧
  Row (((w.setCell ⟨B,4,none⟩ (.int .u64 a)).setCell ⟨B,5,none⟩ (.int .u64 b)).setCell ⟨B,6,none⟩ (.int .u64 c)) B 341 (tagC r0 r1 s0 s1 a b c)∧Only B w (((w.setCell ⟨B,4,none⟩ (.int .u64 a)).setCell ⟨B,5,none⟩ (.int .u64 b)).setCell ⟨B,6,none⟩ (.int .u64 c)):=by
 refine⟨⟨hr.cell 4,hr.cell 5,hr.cell 6,fun i=>hr.frozen i⟩,?_,(((Only.refl _ _).setCell _ _).setCell _ _).setCell _ _⟩
 have d:Row (w.setCell ⟨B,4,none⟩ (.int .u64 a)) B 341 (tagC r0 r1 s0 s1 a h1 h2):=Row.set (A:= [.int .u64 r0,.int .u64 r1,.int .u64 s0,.int .u64 s1]) (C:= [.int .u64 h1,.int .u64 h2]) hr _ rfl
 have e:Row ((w.setCell ⟨B,4,none⟩ (.int .u64 a)).setCell ⟨B,5,none⟩ (.int .u64 b)) B 341 (tagC r0 r1 s0 s1 a b h2):=Row.set (A:= [.int .u64 r0,.int .u64 r1,.int .u64 s0,.int .u64 s1,.int .u64 a]) (C:= [.int .u64 h2]) d _ rfl
 exact Row.set (A:= [.int .u64 r0,.int .u64 r1,.int .u64 s0,.int .u64 s1,.int .u64 a,.int .u64 b]) (C:= []) e _ rfl
set_option maxRecDepth 10000 in
theorem add_any (r0 r1 s0 s1 h0 h1 h2:Nat)(hr0:r0<1152921504606846976)(hr1:r1<1152921504606846976)(l0:h0<18446744073709551616)(l1:h1<18446744073709551616)(l2:h2≤4)(l:List Nat)(hl:l.length=16)(hb:Z03 l)(high:Nat)(hh:high≤1) :
  ∃ a b c:Nat,a<18446744073709551616∧b<18446744073709551616∧c≤4 ∧
  (a+b*18446744073709551616+c*340282366920938463463374607431768211456)%Z0x=((h0+h1*18446744073709551616+h2*340282366920938463463374607431768211456+leN l+high*340282366920938463463374607431768211456)*(r0+r1*18446744073709551616))%Z0x ∧
  ∀ (B g t:Nat) (w:World),Row w B 341 (tagC r0 r1 s0 s1 h0 h1 h2)→Row w g t (byV l) →
  Calls prog 249 #[.pointer (some ⟨B,0,none⟩),.pointer (some ⟨g,0,none⟩),.int .u64 high] w fun e w'=>e= .returned (.tuple #[])∧Row w' B 341 (tagC r0 r1 s0 s1 a b c)∧Only B w w':=by
 have h:=fun g t w hr=>pair_any l hl hb g t w hr
 have F:=Z7W l hb 0
 have H:=Z7W l hb 8
 have A:=Z7X l hl
 generalize Z0M l 0=n0 at *
 generalize Z0M l 8=n1 at *
 obtain⟨K,x,S,q,lx,T⟩:=Z55 h0 n0 l0 F
 obtain⟨c2,y,L,C,ly,g2⟩:=Z7U h1 n1 K l1 H T
 obtain⟨z,G⟩:∃ z,z=h2+high+c2:=⟨_,rfl⟩
 have J:z<8:=by clear q C A;omega
 have E:=add_math h0 h1 h2 n0 n1 K x c2 y z high q C G
 obtain⟨a,b,c,la,lb,N,f,k⟩:=product_any x y z r0 r1 lx ly J hr0 hr1
 refine⟨a,b,c,la,lb,N,by rw [f,E,A],fun B g t w hrB hrg=> ?_⟩
 have v1:IntKind.u64.wrap ((h2:Int)+high)=h2+high:=Z5H _ _ (by clear f E A q C;omega)
 have v2:IntKind.u64.wrap ((h2:Int)+high+c2)=z:=by rw [Z5I _ _ _ (by clear f E A q C;omega),G];rfl
 clear f E A q C G J
 have HG:Hid (Row w g t (byV l)):=hrg
 have v:Hid (Row w B 341 (tagC r0 r1 s0 s1 h0 h1 h2)):=hrB
 clear hrB hrg
 go_enter func249,ntmps249
 go_wp2_with fail
 refine (h g t _ HG.out).mono ?_
 rintro e u ⟨rfl,o⟩
 have n:=v.out.below o v.out.lt
 have r:=o.size
 clear h
 go_wp2_with fail
 obtain⟨w2,i⟩:∃ w2,u.alloc (.cells #[.int .u64 n0,.int .u64 n1] 337)=w2:=⟨_,rfl⟩
 have d:Row w2 B 341 (tagC r0 r1 s0 s1 h0 h1 h2):=by rw [← i];exact (Below.heap_alloc _ _ _ n.lt).trans n
 have j:Row w2 u.heap.size 337 [.int .u64 n0,.int .u64 n1]:=by rw [← i];exact heap_alloc_new u _
 have D:Below w.heap.size w w2:=by rw [← i];exact o.alloc r _
 rw [i]
 have d0:w2.cell? ⟨B,0,none⟩=some (.int .u64 r0):=d.cell 0
 have d1:w2.cell? ⟨B,1,none⟩=some (.int .u64 r1):=d.cell 1
 have W:w2.cell? ⟨B,4,none⟩=some (.int .u64 h0):=d.cell 4
 have Q:w2.cell? ⟨B,5,none⟩=some (.int .u64 h1):=d.cell 5
 have d6:w2.cell? ⟨B,6,none⟩=some (.int .u64 h2):=d.cell 6
 have P:w2.cell? ⟨u.heap.size,0,none⟩=some (.int .u64 n0):=j.cell 0
 have M:w2.cell? ⟨u.heap.size,1,none⟩=some (.int .u64 n1):=j.cell 1
 clear i j n
 have p:Hid (Row w2 B 341 (tagC r0 r1 s0 s1 h0 h1 h2)∧Below w.heap.size w w2):=⟨d,D⟩
 clear d D
 go_quiet (fail)
 go_wp2_with fail
 go_quiet (fail)
 go_wp2_with fail
 clear S L P M W Q
 go_region_with (first | (go_at_call 256;refine (k _).mono ?_;rintro e U ⟨rfl,m⟩;have X:=store_all U B r0 r1 s0 s1 h0 h1 h2 a b c (Row.below (w:=w2.drewN _) p.out.1 m p.out.1.lt);obtain⟨⟨Y,O,t6,Z⟩,s⟩:=X;have I:Hid _:=s;clear s))
 all_goals
  have R:=((only_drewN (Only.of_below p.out.2) _).trans (Only.of_below (b:=B) m)).trans I.out.2
  have V:=I.out.1
  clear Y O t6 Z m
  go_end0
  exact⟨rfl,V,R⟩
theorem wordAt_top (l:List Nat)(hb:Z03 l)(o:Nat)(ho:o+8≤l.length)(h:l.getD (o+7) 0<16):Z0M l o<1152921504606846976:=by
 have e:(l.drop o).take 8=(l.drop o).take 7 ++ [l.getD (o+7) 0]:=by
  rw [List.take_succ_eq_append_getElem (by simp;omega),Z0b _ _ (by omega)]
  simp
 have a:((l.drop o).take 7).length=7:=by simp;omega
 have b:=leN_lt ((l.drop o).take 7) ((hb.drop o).take 7)
 unfold Z0M
 rw [e,Z2U,a]
 rw [a] at b
 simp only [leN]
 omega
theorem clamp_top (key:List Nat)(hb:Z03 key):Z0M (Z0O key) 0<1152921504606846976∧Z0M (Z0O key) 8<1152921504606846976:=by
 have b:=Z2b key
 have a:=Z3j key hb
 have g:∀ i,i<16→i%4=3→(Z0O key).getD i 0<16:=fun i hi h3=>by
  rw [List.getD_eq_getElem?_getD,Z0O,List.getElem?_map,List.getElem?_range hi]
  show Z36 i _<16
  unfold Z36
  rw [if_pos h3]
  omega
 exact⟨wordAt_top _ a 0 (by omega) (g 7 (by decide) (by decide)),wordAt_top _ a 8 (by omega) (g 15 (by decide) (by decide))⟩
def Z38 (w:World)(B:Nat)(key l:List Nat):Prop:= ∃ h0 h1 h2:Nat,h0<18446744073709551616∧h1<18446744073709551616∧h2≤4∧(h0+h1*18446744073709551616+h2*340282366920938463463374607431768211456)%Z0x=Z5F (polyR key) l ∧
 Row w B 341 (tagC (Z0M (Z0O key) 0) (Z0M (Z0O key) 8) (Z0M (key.drop 16) 0) (Z0M (key.drop 16) 8) h0 h1 h2)
theorem Z38.below {w w':World}{B:Nat}{key l:List Nat}(h:Z38 w B key l){C:Nat}(hb:Below C w w')(hB:B<C):Z38 w' B key l:=by
 obtain⟨b,g,a,c,d,i,e,f⟩:=h
 exact⟨b,g,a,c,d,i,e,f.below hb hB⟩
theorem Z38.only {w w':World}{B g:Nat}{key l:List Nat}(h:Z38 w B key l)(ho:Only g w w')(hB:B≠g):Z38 w' B key l:=by
 obtain⟨b,i,a,c,d,j,e,f⟩:=h
 exact⟨b,i,a,c,d,j,e,f.only ho hB⟩
theorem Z38.lt {w:World}{B:Nat}{key l:List Nat}(h:Z38 w B key l):B<w.heap.size:=by
 obtain⟨c,g,b,d,f,i,e,a⟩:=h
 exact a.lt
theorem Z6Y (key:List Nat)(hk:Z03 key)(l m a:List Nat)(high:Nat)(hh:high≤1)(hl:l.length%16=0)(hm0:0<m.length)(hm:m.length≤16)(ha:a.length=16)(hab:Z03 a)(hv:leN a+high*340282366920938463463374607431768211456=leN (m ++ [1]))
  (B g t:Nat)(w:World)(hT:Z38 w B key l)(hg:Row w g t (byV a)) :
  Calls prog 249 #[.pointer (some ⟨B,0,none⟩),.pointer (some ⟨g,0,none⟩),.int .u64 high] w fun e w'=>e= .returned (.tuple #[])∧Z38 w' B key (l++m)∧Only B w w':=by
 obtain⟨k,r,j,o,p,u,e,q⟩:=hT
 obtain⟨h,d⟩:=clamp_top key hk
 obtain⟨x,y,z,n,s,v,b,c⟩:=add_any _ _ (Z0M (key.drop 16) 0) (Z0M (key.drop 16) 8) k r j h d o p u a ha hab high hh
 refine (c B g t w q hg).mono ?_
 rintro A w' ⟨rfl,f,i⟩
 refine⟨rfl,⟨x,y,z,n,s,v,?_,f⟩,i⟩
 rw [b,polyN_snoc _ l m (l.length/16) (by omega) hm0 hm,Z3U,← e,polyR,Z7X (Z0O key) (Z2b key),Nat.add_assoc _ (leN a),hv]
 rw [Nat.mul_mod,Nat.mul_mod (_%Z0x+_),Nat.mod_add_mod]
theorem Z66 (m:List Nat)(hm:m.length=16):leN m+1*340282366920938463463374607431768211456=leN (m ++ [1]):=by
 rw [Z2U,hm]
 simp [leN]
theorem leN_zeros (n:Nat):leN (List.replicate n 0)=0:=by
 induction n with
 | zero=>rfl
 | succ n ih=>rw [List.replicate_succ,leN,ih]
theorem piece_part (m:List Nat)(n:Nat):leN (m++1 :: List.replicate n 0)+0*340282366920938463463374607431768211456=leN (m ++ [1]):=by
 rw [Z2U,Z2U,leN,leN,leN_zeros]
 simp [leN]
theorem Z7Y (s:ByteArray)(p q:Nat):(s.extract p s.size).extract q (s.extract p s.size).size=s.extract (p+q) s.size:=by
 rw [ByteArray.extract_extract]
 congr 1
 simp
 omega
set_option maxRecDepth 10000 in
theorem take_any (key:List Nat)(hk:Z03 key)(B:Nat)(l:List Nat)(hl:l.length%16=0)(s:ByteArray)(w:World)(hT:Z38 w B key l) :
  Calls prog 248 #[.pointer (some ⟨B,0,none⟩),.string s] w fun e w'=>e= .returned (.tuple #[])∧Z38 w' B key (l++Z00 s)∧Only B w w':=by
 have K:Hid (Z38 w B key l):=hT
 clear hT
 go_enter func248,ntmps248
 go_wp2_with fail
 go_loopw [1] (fun v wr=> ∃ p:Nat,p%16=0∧p≤s.size∧v= .string (s.extract p s.size)∧Z38 wr B key (l++(Z00 s).take p)∧Only B w wr) (fun v _=>Z2m v)
 case atStart=>exact⟨0,rfl,Nat.zero_le _,by simp,by simpa using K.out,Only.refl _ _⟩
 case round =>
  clear K
  obtain⟨p,hp,Y,rfl,hT,I⟩:=hrel
  obtain⟨u,r⟩:∃ u,u=s.extract p s.size:=⟨_,rfl⟩
  have y:u.size=s.size-p:=by rw [r];simp
  have d:Z00 u=(Z00 s).drop p:=by rw [r,Z0h,List.take_of_length_le (by simp [Z01])]
  have f:(l++(Z00 s).take p).length%16=0:=by rw [List.length_append,List.length_take,Z01];omega
  have g:=Z04 u
  have b:=Z01 u
  have m:=hT.lt
  rw [← r]
  obtain⟨w0,i⟩:∃ w0,wr.alloc (.cells #[.int .u8 0,.int .u8 0,.int .u8 0,.int .u8 0,.int .u8 0,.int .u8 0,.int .u8 0,.int .u8 0,.int .u8 0,.int .u8 0,.int .u8 0,.int .u8 0,.int .u8 0,.int .u8 0,.int .u8 0,.int .u8 0] 345)=w0:=⟨_,rfl⟩
  have G:Row w0 wr.heap.size 345 (byV (List.replicate 16 0)):=by
   rw [← i]
   have:=heap_alloc_new wr (.cells #[.int .u8 0,.int .u8 0,.int .u8 0,.int .u8 0,.int .u8 0,.int .u8 0,.int .u8 0,.int .u8 0,.int .u8 0,.int .u8 0,.int .u8 0,.int .u8 0,.int .u8 0,.int .u8 0,.int .u8 0,.int .u8 0] 345)
   simpa [Row,byV] using this
  have N:Below wr.heap.size wr w0:=by rw [← i];exact (Below.refl _ _).alloc (Nat.le_refl _) _
  obtain⟨w1,a,o,R⟩:=Z5E w0 wr.heap.size 345 16 _ rfl G u
  have c:Below wr.heap.size wr w1:=N.trans (R.below (Nat.le_of_lt G.lt))
  have j:Z38 w1 B key (l++(Z00 s).take p):=hT.below c m
  have k:Only B w w1:=I.trans (Only.of_below c)
  have h:Hid (Z38 wr B key (l++(Z00 s).take p)∧Only B w wr):=⟨hT,I⟩
  clear N R G hT I
  by_cases H:p+16≤s.size
  ·have J:=Z7Y s p 16
   rw [← r] at J
   rw [show min u.size 16=16 by omega,show List.drop 16 (byV (List.replicate 16 0))= [] from rfl,List.append_nil] at o
   rw [show min u.size 16=16 by omega] at a
   have F:((Z00 u).take 16).length=16:=by rw [List.length_take];omega
   have q:=Z6Y key hk _ ((Z00 u).take 16) _ 1 (by decide) f (by omega) (by omega) F (g.take 16) (Z66 _ F) B wr.heap.size _ w1 j o
   have e:l++(Z00 s).take p++(Z00 u).take 16=l++(Z00 s).take (p+16):=by rw [d,List.append_assoc,List.take_add]
   rw [e] at q
   have X:(16:Int)≤u.size:=by omega
   have E:Hid (u.extract 16 u.size=s.extract (p+16) s.size∧u.size=s.size-p∧Only B w w1):=⟨J,y,k⟩
   clear J y k r d f g b F e o j m c h
   go_wp2_with fail
   refine q.mono ?_
   rintro e W ⟨rfl,t,x⟩
   clear q a i
   go_wp2
   go_roundw
   case rel=>exact⟨p+16,by omega,H,by rw [E.out.1],t,E.out.2.2.trans x⟩
   case measure=>simp [Z2m];have:=E.out.2.1;omega
  ·have C:min u.size 16=u.size:=by omega
   rw [C] at a o
   have X:¬ (16:Int)≤u.size:=by omega
   by_cases Z:u.size=0
   ·have V:¬ (0:Int)<u.size:=by omega
    have e:(Z00 s).take p=Z00 s:=List.take_of_length_le (by rw [Z01];omega)
    rw [e] at h
    clear a o j k i f g b d r c
    go_wp2_with fail
    go_end0
    exact⟨rfl,h.out⟩
   ·have V:(0:Int)<u.size:=by omega
    have c3:(u.size:Int)<16:=by omega
    have Q:(Z00 u).take 16=Z00 u:=List.take_of_length_le (by omega)
    have O:List.drop u.size (byV (List.replicate 16 0))=Value.int .u8 0 :: byV (List.replicate (15-u.size) 0):=by
     rw [Z1l,Z1l,List.drop_replicate,show 16-u.size=(15-u.size)+1 by omega,List.replicate_succ]
    rw [Q,O] at o
    have D:Row w1 wr.heap.size 345 (byV (Z00 u) ++ [.int .u8 0]++byV (List.replicate (15-u.size) 0)):=by simpa using o
    have U:w1.cell? ⟨wr.heap.size,u.size,none⟩=some (.int .u8 0):=by
     rw [D.cell,List.append_assoc,List.getElem?_append_right (by simp [byV,b]),show u.size-(byV (Z00 u)).length=0 by simp [byV,b]]
     rfl
    have S:w1.frozen? ⟨wr.heap.size,u.size,none⟩=false:=D.frozen _
    have L:=D.set (n:=u.size) (.int .u8 1) (by simp [byV,b])
    have P:Row (w1.setCell ⟨wr.heap.size,u.size,none⟩ (.int .u8 1)) wr.heap.size 345 (byV (Z00 u++1 :: List.replicate (15-u.size) 0)):=by
     rw [Z05]
     simpa [byV] using L
    have M:Only wr.heap.size w1 (w1.setCell ⟨wr.heap.size,u.size,none⟩ (.int .u8 1)):=(Only.refl _ _).setCell _ _
    have A:=j.only M (by omega)
    have z:Only B w (w1.setCell ⟨wr.heap.size,u.size,none⟩ (.int .u8 1)):=h.out.2.trans (Only.of_below (c.setCell (p:=⟨wr.heap.size,u.size,none⟩) (Nat.le_refl _) _))
    have q:=Z6Y key hk _ (Z00 u) _ 0 (by decide) f (by omega) (by omega) (by rw [List.length_append,List.length_cons,List.length_replicate];omega) (g.append (Z03.cons (by decide) (Z03.zeros _))) (piece_part _ _) B wr.heap.size _ _ A P
    have e:l++(Z00 s).take p++Z00 u=l++Z00 s:=by rw [d,List.append_assoc,List.take_append_drop]
    rw [e] at q
    have T:Hid (Only B w (w1.setCell ⟨wr.heap.size,u.size,none⟩ (.int .u8 1))):=z
    clear z A M P L D o Q O e j k h c f g b d r y
    go_wp2_with fail
    refine q.mono ?_
    rintro e W ⟨rfl,t,x⟩
    clear q a i U S
    go_wp2_with fail
    go_end0
    exact⟨rfl,t,T.out.trans x⟩
theorem tag_told (key:List Nat)(hl:key.length=32)(hk:Z03 key)(B:Nat)(l:List Nat)(w:World)(hT:Z38 w B key l) :
  Calls prog 243 #[.pointer (some ⟨B,0,none⟩)] w fun e w'=>e= .returned (.string (strN (Z64 key l)))∧Below w.heap.size w w':=by
 obtain⟨b,g,a,c,d,i,e,f⟩:=hT
 have h:=tag_any B _ _ _ _ b g a c d i (Z7W _ (hk.drop 16) 0) w f
 rw [e,← Z7X (key.drop 16) (by simp [hl])] at h
 exact h
def tagS (key s:ByteArray):ByteArray:=if key.size=32 then strN (Z64 (Z00 key) (Z00 s)) else ⟨#[]⟩
def tagE (key:ByteArray):Nat:=if key.size=32 then 0 else 1
theorem or_zero (v x y:Nat):(v ||| (x ^^^ y)=0) ↔ (v=0∧x=y):=by
 rw [Nat.or_eq_zero_iff]
 constructor
 ·rintro⟨a,c⟩
  exact⟨a,by
   have b:x ^^^ y ^^^ y=0 ^^^ y:=by rw [c]
   rw [Nat.xor_assoc,Nat.xor_self,Nat.xor_zero,Nat.zero_xor] at b
   exact b⟩
 ·rintro⟨a,rfl⟩
  exact⟨a,Nat.xor_self _⟩
theorem same_bits (v x y:Nat)(hv:v<256)(hx:x<256)(hy:y<256):∃ u:Nat,u<256∧bits .or .u8 (v:Int) (bits .xor .u8 (x:Int) (y:Int))=u∧(u=0 ↔ (v=0∧x=y)):=by
 have a:=Nat.xor_lt_two_pow (n:=8) hx hy
 exact⟨v ||| (x ^^^ y),Nat.or_lt_two_pow (n:=8) hv a,by rw [u8_xor_nat x y hx hy,u8_or_nat v _ hv a],or_zero v x y⟩
theorem text_ext (a b:ByteArray)(hs:a.size=b.size)(h:∀ i,(ha:i<a.size)→(hb:i<b.size)→a[i].toNat=b[i].toNat):a=b:=by
 apply ByteArray.ext
 apply Array.ext
 ·exact hs
 ·intro i d c
  exact UInt8.toNat_inj.1 (h i d c)
set_option maxRecDepth 10000 in
theorem same_any (a b:ByteArray)(ha:a.size≤maxLen)(w:World) :
  Calls prog 233 #[.string a,.string b] w fun e w'=>e= .returned (.bool (decide (a=b)))∧Below w.heap.size w w':=by
 unfold maxLen at ha
 by_cases x:a.size=b.size
 ·have f:((a.size:Int) != b.size)=false:=by simp;omega
  go_enter func233,ntmps233
  go_wp2_with fail
  go_loopw [5,14] (fun o i wr=> ∃ j v:Nat,j≤a.size∧v<256∧i= .int .i64 j∧o= .int .u8 v∧(v=0 ↔ ∀ k,k<j→(ha:k<a.size)→(hb:k<b.size)→a[k].toNat=b[k].toNat)∧Below w.heap.size w wr) (fun _ i _=>a.size-(intOf i).toNat)
  case atStart=>exact⟨0,0,Nat.zero_le _,by decide,rfl,rfl,⟨fun _ k q=>absurd q (Nat.not_lt_zero _),fun _=>rfl⟩,Below.refl _ _⟩
  case round =>
   obtain⟨j,v,D,B,rfl,rfl,c,d⟩:=hrel
   by_cases s:j<a.size
   ·have g:j<b.size:=by omega
    obtain⟨u,A,p,l⟩:=same_bits v a[j].toNat b[j].toNat B a[j].toNat_lt b[j].toNat_lt
    have z:Hid (u=0 ↔ ∀ k,k<j+1→(ha:k<a.size)→(hb:k<b.size)→a[k].toNat=b[k].toNat):=by
     show _ ↔ _
     rw [l,c]
     constructor
     ·rintro⟨f,r⟩ k q n t
      by_cases e:k=j
      ·subst e;exact r
      ·exact f k (by omega) n t
     ·intro h
      exact⟨fun k q n t=>h k (by omega) n t,h j (by omega) s g⟩
    clear l c
    have y:(j:Int)<a.size:=by omega
    have C:(j:Int)<b.size:=by omega
    go_wp2_with fail
    go_quiet (fail)
    go_wp2
    go_roundw
    case rel=>exact⟨j+1,u,by omega,A,by go_num,rfl,z.out,bdrewN d _⟩
    case measure=>simp [intOf];omega
   ·obtain rfl:j=a.size:=by omega
    have y:¬ (a.size:Int)<a.size:=by omega
    by_cases m:v=0
    ·subst m
     have e:=text_ext a b x fun i f r=>c.1 rfl i f f r
     clear c
     go_wp2
     go_ret
     exact⟨by simp,d⟩
    ·have e:a≠b:=fun e=>m (c.2 fun k _ _ _=>by subst e;rfl)
     have E:((v:Int)==0)=false:=by simp;omega
     clear c
     go_wp2
     go_ret
     exact⟨by simp,d⟩
 ·have f:((a.size:Int) != b.size)=true:=by simp;omega
  have e:a≠b:=fun e=>x (by rw [e])
  go_enter func233,ntmps233
  go_wp2
  go_ret
  exact⟨by simp [e],Below.refl _ _⟩
theorem fit_yes (key nonce:ByteArray)(hk:key.size=32)(hn:nonce.size=12)(w:World) :
  Calls prog 231 #[.string key,.string nonce] w fun e w'=>e= .returned (.bool true)∧w'=w:=by
 go_enter func231,ntmps231
 go_wp2
 go_ret
 exact⟨rfl,rfl⟩
theorem fit_no (key nonce:ByteArray)(h:¬ (key.size=32∧nonce.size=12))(w:World) :
  Calls prog 231 #[.string key,.string nonce] w fun e w'=>e= .returned (.bool false)∧w'=w:=by
 by_cases a:key.size=32
 ·have b:((nonce.size:Int)==12)=false:=by simp;omega
  clear h
  go_enter func231,ntmps231
  go_wp2
  go_ret
  exact⟨rfl,rfl⟩
 ·have b:((key.size:Int)==32)=false:=by simp;omega
  clear h a
  go_enter func231,ntmps231
  go_wp2
  go_ret
  exact⟨rfl,rfl⟩
theorem Seal_bad (key nonce ad s:ByteArray)(h:¬ (key.size=32∧nonce.size=12))(w:World) :
  Calls prog 230 #[.string key,.string nonce,.string ad,.string s] w fun e w'=>e= .returned (.tuple #[.string ⟨#[]⟩,.int .i64 1])∧w'=w:=by
 have a:=fun w=>fit_no key nonce h w
 clear h
 go_enter func230,ntmps230
 go_wp2_with fail
 refine (a _).mono ?_
 rintro e w' ⟨rfl,rfl⟩
 clear a
 go_wp2
 go_ret2
 exact⟨rfl,rfl⟩
theorem Open_bad (key nonce ad s:ByteArray)(h:¬ (key.size=32∧nonce.size=12))(w:World) :
  Calls prog 228 #[.string key,.string nonce,.string ad,.string s] w fun e w'=>e= .returned (.tuple #[.string ⟨#[]⟩,.int .i64 1])∧w'=w:=by
 have a:=fun w=>fit_no key nonce h w
 clear h
 go_enter func228,ntmps228
 go_wp2_with fail
 refine (a _).mono ?_
 rintro e w' ⟨rfl,rfl⟩
 clear a
 go_wp2
 go_ret2
 exact⟨rfl,rfl⟩
def Z1f (l:List Nat):List Nat:=l++List.replicate ((16-l.length%16)%16) 0
theorem Z3V (l:List Nat):(Z1f l).length%16=0:=by simp [Z1f];omega
theorem fill16_whole (l:List Nat)(h:l.length%16=0):Z1f l=l:=by simp [Z1f,h]
theorem fill16_part (l:List Nat)(h:l.length%16≠0):Z1f l=l.take (l.length-l.length%16)++(l.drop (l.length-l.length%16)++List.replicate (16-l.length%16) 0):=by
 rw [← List.append_assoc,List.take_append_drop,Z1f,Nat.mod_eq_of_lt (a:=16-l.length%16) (by omega)]
theorem Z6t (l:List Nat)(h:Z03 l):Z03 (Z1f l):=h.append (Z03.zeros _)
set_option maxRecDepth 10000 in
theorem Z4R (key:List Nat)(hk:Z03 key)(B:Nat)(l:List Nat)(hl:l.length%16=0)(s:ByteArray)(hs:s.size<1099511627776)(w:World)(hT:Z38 w B key l) :
  Calls prog 241 #[.pointer (some ⟨B,0,none⟩),.string s] w fun e w'=>e= .returned (.tuple #[])∧Z38 w' B key (l++Z1f (Z00 s))∧Only B w w':=by
 have d:=Z01 s
 obtain⟨p,r⟩:∃ p,p=s.size-s.size%16:=⟨_,rfl⟩
 have O:p≤s.size:=by omega
 have J:p%16=0:=by omega
 have S:IntKind.i64.wrap ((s.size:Int)-(s.size:Int)%16)=p:=by rw [IntKind.wrap_i64];omega
 have Q:(s.size:Int)-(s.size:Int)%16=p:=by omega
 have a:=take_any key hk B l hl (s.extract 0 p) w hT
 have k:Z00 (s.extract 0 p)=(Z00 s).take p:=by rw [Z0h,Nat.sub_zero,List.drop_zero]
 rw [k] at a
 have P:(p:Int)≤s.size:=by omega
 by_cases h:s.size%16=0
 ·have v:p=s.size:=by omega
  have e:(Z00 s).take p=Z1f (Z00 s):=by rw [fill16_whole _ (by rw [d];exact h),List.take_of_length_le (by omega)]
  rw [e] at a
  have K:¬ (p:Int)<s.size:=by omega
  have N:Hid (p=s.size-s.size%16∧p=s.size):=⟨r,v⟩
  clear r v k e hT
  go_enter func241,ntmps241
  go_wp2_with fail
  refine a.mono ?_
  rintro e b ⟨rfl,c,f⟩
  clear a
  go_wp2
  go_end0
  exact⟨rfl,c,f⟩
 ·have K:(p:Int)<s.size:=by omega
  obtain⟨u,y⟩:∃ u,u=s.extract p s.size:=⟨_,rfl⟩
  have x:u.size=s.size%16:=by rw [y];simp;omega
  have m:Z00 u=(Z00 s).drop p:=by rw [y,Z0h,List.take_of_length_le (by simp [Z01])]
  have F:=Z01 u
  have t:=Z04 u
  have q:(l++(Z00 s).take p).length%16=0:=by rw [List.length_append,List.length_take,d];omega
  have g:l++(Z00 s).take p++(Z00 u++List.replicate (16-u.size) 0)=l++Z1f (Z00 s):=by
   rw [fill16_part _ (by rw [d];exact h),d,← r,m,x,List.append_assoc]
  have N:Hid (p=s.size-s.size%16):=r
  have L:s.extract p s.size=u:=y.symm
  clear r k hT m y
  go_enter func241,ntmps241
  go_wp2_with fail
  refine a.mono ?_
  rintro e b ⟨rfl,c,f⟩
  clear a
  obtain⟨w2,j⟩:∃ w2,b.alloc (.cells #[.int .u8 0,.int .u8 0,.int .u8 0,.int .u8 0,.int .u8 0,.int .u8 0,.int .u8 0,.int .u8 0,.int .u8 0,.int .u8 0,.int .u8 0,.int .u8 0,.int .u8 0,.int .u8 0,.int .u8 0,.int .u8 0] 345)=w2:=⟨_,rfl⟩
  have C:Row w2 b.heap.size 345 (byV (List.replicate 16 0)):=by
   rw [← j]
   have:=heap_alloc_new b (.cells #[.int .u8 0,.int .u8 0,.int .u8 0,.int .u8 0,.int .u8 0,.int .u8 0,.int .u8 0,.int .u8 0,.int .u8 0,.int .u8 0,.int .u8 0,.int .u8 0,.int .u8 0,.int .u8 0,.int .u8 0,.int .u8 0] 345)
   simpa [Row,byV] using this
  have I:Below b.heap.size b w2:=by rw [← j];exact (Below.refl _ _).alloc (Nat.le_refl _) _
  obtain⟨w3,n,z,H⟩:=Z5E w2.drew b.heap.size 345 16 _ rfl C u
  have i:Below b.heap.size b w3:=I.drew.trans (H.below (Nat.le_of_lt C.lt))
  rw [show min u.size 16=u.size by omega] at n z
  rw [List.take_of_length_le (by omega)] at z
  have o:Row w3 b.heap.size 345 (byV (Z00 u++List.replicate (16-u.size) 0)):=z.congr (by rw [Z05,Z1l,Z1l,List.drop_replicate])
  have D:(Z00 u++List.replicate (16-u.size) 0).length=16:=by rw [List.length_append,List.length_replicate];omega
  have A:=Z6Y key hk _ (Z00 u++List.replicate (16-u.size) 0) _ 1 (by decide) q (by omega) (by omega) D (t.append (Z03.zeros _)) (Z66 _ D) B b.heap.size _ w3 (c.below i c.lt) o
  rw [g] at A
  have M:Hid (Only B w w3):=f.trans (Only.of_below i)
  clear z o C I H i D q g c f F t x
  go_wp2_with fail
  go_region_held3 (fun _=>True) (simp [go_sem, *]) (fail)
  go_wp2_with fail
  refine A.mono ?_
  rintro e R ⟨rfl,E,G⟩
  clear A n j
  go_wp2_with fail
  go_end0
  exact⟨rfl,E,M.out.trans G⟩
set_option maxRecDepth 10000 in
theorem Z7Z (key:List Nat)(hk:Z03 key)(B:Nat)(l:List Nat)(hl:l.length%16=0)(m n:Nat)(hm:m<1099511627776)(hn:n<1099511627776)(w:World)(hT:Z38 w B key l) :
  Calls prog 242 #[.pointer (some ⟨B,0,none⟩),.int .i64 m,.int .i64 n] w fun e w'=>e= .returned (.tuple #[])∧Z38 w' B key (l++(leB 8 m++leB 8 n))∧Only B w w':=by
 have A:IntKind.u64.wrap (m:Int)=m:=by rw [IntKind.wrap_u64];omega
 have z:IntKind.u64.wrap (n:Int)=n:=by rw [IntKind.wrap_u64];omega
 have s:=fun w=>Z3J m n w
 have h:(leB 8 m++leB 8 n).length=16:=by simp [leB]
 have t:Z03 (leB 8 m++leB 8 n):=Z03.append (Z37 _ _) (Z37 _ _)
 have u:=fun w g hT hg=>Z6Y key hk l (leB 8 m++leB 8 n) _ 1 (by decide) hl (by omega) (by omega) h t (Z66 _ h) B g 345 w hT hg
 obtain⟨d,a⟩:∃ d,d=(byV (leB 8 m++leB 8 n)).toArray:=⟨_,rfl⟩
 rw [← a] at s
 have j:d.size=16:=by rw [a];simp [byV,leB]
 have f:d.all (·.oneCell')=true:=by rw [a];simp [byV,Value.oneCell']
 have c:(prog.info? 345).map (·.size)=some d.size:=by rw [j];kernel_rfl
 have q:Hid (d=(byV (leB 8 m++leB 8 n)).toArray):=a
 have v:Hid (Z38 w B key l):=hT
 clear a hT
 go_enter func242,ntmps242
 go_wp2_with fail
 refine (s _).mono ?_
 rintro e i ⟨rfl,p⟩
 clear s
 go_wp2_with (refine wpList_store_row rfl 345 _ _ rfl i.heap.size d rfl rfl 345 _ (heap_alloc_new i _) c (by rw [j];rfl) f ?_)
 rw [World.setRow_alloc_new]
 have x:Row (i.alloc (.cells d 345)) i.heap.size 345 (byV (leB 8 m++leB 8 n)):=by rw [q.out];exact heap_alloc_new i _
 have k:=p.alloc p.size (.cells d 345)
 generalize i.alloc (.cells d 345)=w2 at *
 clear f c j q
 refine (u w2 i.heap.size (v.out.below k v.out.lt) x).mono ?_
 rintro e C ⟨rfl,r,o⟩
 have y:=(Only.of_below (b:=B) k).trans o
 clear u x k o
 go_wp2_with fail
 go_end0
 exact⟨rfl,r,y⟩
end Bx
end Go.Proofs.YtijpgmkdnemmbaaGreatDoor
