/- Part 2. -/
import Derived.Test.YtijpgmkdnemmbaaGreatDoorMg01
import Derived.Shelf.Spec.BitsCarry
import Derived.Shelf.Bits.Mul64
set_option maxRecDepth 20000
set_option maxHeartbeats 8000000
open Go.RowKit Go.Proofs.Tryz
namespace Go.Proofs.YtijpgmkdnemmbaaGreatDoor
namespace Bx
theorem add64_run (x y c:Nat)(hc:c≤1)(w:World):(callFunc 252 #[.int .u64 x,.int .u64 y,.int .u64 c]).run prog w =
  .ok (.value (.tuple #[.int .u64 (((x+y+c)%18446744073709551616:Nat):Int),.int .u64 (((x+y+c)/18446744073709551616:Nat):Int)])) w:=by
 rw [run_callFunc_extern func252 (by kernel_rfl) (by kernel_rfl) (by kernel_rfl) (e:=add64Entry) (by kernel_rfl),run_add64 x y c (by omega) (by omega) (by omega) (by omega)]
 simp only [Result.andThen]
 congr 5 <;> omega
theorem Z7U (x y c:Nat)(hx:x<18446744073709551616)(hy:y<18446744073709551616)(hc:c≤1):∃ k s:Nat,(∀ w,(callFunc 252 #[.int .u64 x,.int .u64 y,.int .u64 c]).run prog w= .ok (.value (.tuple #[.int .u64 s,.int .u64 k])) w)∧x+y+c=k*18446744073709551616+s∧s<18446744073709551616∧k≤1 :=
 ⟨(x+y+c)/18446744073709551616,(x+y+c)%18446744073709551616,fun w=>add64_run x y c hc w,by omega,by omega,by omega⟩
theorem Z55 (x y:Nat)(hx:x<18446744073709551616)(hy:y<18446744073709551616):∃ k s:Nat,(∀ w,(callFunc 252 #[.int .u64 x,.int .u64 y,.int .u64 0]).run prog w= .ok (.value (.tuple #[.int .u64 s,.int .u64 k])) w)∧x+y=k*18446744073709551616+s∧s<18446744073709551616∧k≤1:=by
 obtain⟨k,s,c,d,a,b⟩:=Z7U x y 0 hx hy (by decide)
 exact⟨k,s,c,by omega,a,b⟩
theorem sub64_run (x y b:Nat)(hb:b≤1)(w:World):(callFunc 257 #[.int .u64 x,.int .u64 y,.int .u64 b]).run prog w =
  .ok (.value (.tuple #[.int .u64 (((x+18446744073709551616-y-b)%18446744073709551616:Nat):Int),.int .u64 ((if x<y+b then 1 else 0:Nat):Int)])) w:=by
 rw [run_callFunc_extern func257 (by kernel_rfl) (by kernel_rfl) (by kernel_rfl) (e:=sub64Entry) (by kernel_rfl),run_sub64 x y b hb]
 rfl
theorem sub64_c (x y c:Nat)(hx:x<18446744073709551616)(hy:y<18446744073709551616)(hc:c≤1):∃ k s:Nat,(∀ w,(callFunc 257 #[.int .u64 x,.int .u64 y,.int .u64 c]).run prog w= .ok (.value (.tuple #[.int .u64 s,.int .u64 k])) w)∧x+k*18446744073709551616=y+c+s∧s<18446744073709551616∧k≤1:=by
 refine⟨if x<y+c then 1 else 0,(x+18446744073709551616-y-c)%18446744073709551616,fun w=>sub64_run x y c hc w,?_,by omega,by split <;> omega⟩
 split <;> omega
theorem mul64_run (x y:Nat)(hx:x<18446744073709551616)(hy:y<18446744073709551616)(w:World) :
  Calls prog 98 #[.int .u64 x,.int .u64 y] w fun e w'=>e= .returned (.tuple #[.int .u64 ((x*y/18446744073709551616:Nat):Int),.int .u64 ((x*y%18446744073709551616:Nat):Int)])∧w'=w:=by
 obtain⟨l,i,k,f⟩:=Lib.mul64_hi x y hx hy
 have n:=Lib.half_mul_le (a:=x/4294967296) (b:=y/4294967296) (by omega) (by omega)
 have m:=Lib.half_mul_le (a:=x/4294967296) (b:=y%4294967296) (by omega) (by omega)
 have o:=Lib.half_mul_le (a:=x%4294967296) (b:=y/4294967296) (by omega) (by omega)
 have d:x/4294967296*(y/4294967296)<18446744073709551616:=by omega
 have c:x/4294967296*(y%4294967296)<18446744073709551616:=by omega
 have h:x%4294967296*(y/4294967296)<18446744073709551616:=by omega
 have g:x/4294967296*(y/4294967296)+(x/4294967296*(y%4294967296)+x%4294967296*(y%4294967296)/4294967296)/4294967296<18446744073709551616:=by omega
 have j:x/4294967296*(y/4294967296)+(x/4294967296*(y%4294967296)+x%4294967296*(y%4294967296)/4294967296)/4294967296+((x/4294967296*(y%4294967296)+x%4294967296*(y%4294967296)/4294967296)%4294967296+x%4294967296*(y/4294967296))/4294967296<18446744073709551616:=by omega
 go_enter func98,ntmps98
 go_wp2
 simp only [Mul64.maskN x hx,Mul64.maskN y hy,Mul64.divN,Mul64.mulN,Mul64.addN,Mul64.wrapN _ l,Mul64.wrapN _ c,Mul64.wrapN _ i,Mul64.maskN _ i,Mul64.wrapN _ h,Mul64.wrapN _ k,Mul64.wrapN _ d,Mul64.wrapN _ g,Mul64.wrapN _ j,Mul64.wrapM (x*y)]
 rw [f]
 go_ret2
 exact⟨rfl,rfl⟩
theorem Z5G (x y:Nat)(hx:x<18446744073709551616)(hy:y<18446744073709551616):∃ h l:Nat,(∀ w,Calls prog 98 #[.int .u64 x,.int .u64 y] w fun e w'=>e= .returned (.tuple #[.int .u64 h,.int .u64 l])∧w'=w)∧x*y=h*18446744073709551616+l∧l<18446744073709551616∧h<18446744073709551616:=by
 refine⟨x*y/18446744073709551616,x*y%18446744073709551616,fun w=>mul64_run x y hx hy w,by omega,by omega,?_⟩
 have h:=Nat.mul_lt_mul'' hx hy
 rw [Nat.div_lt_iff_lt_mul (by decide)]
 exact h
theorem and_not3 (a:Nat)(h:a<18446744073709551616):a &&& 18446744073709551612=a-a%4:=by
 have e:a-a%4=a/4*4:=by omega
 rw [e]
 refine Nat.eq_of_testBit_eq fun i=> ?_
 rw [Nat.testBit_and,show (18446744073709551612:Nat)=(2 ^ 62-1)*2 ^ 2 from rfl,show a/4*4=(a/2 ^ 2)*2 ^ 2 from rfl,Nat.testBit_mul_two_pow,Nat.testBit_mul_two_pow,Nat.testBit_two_pow_sub_one,Nat.testBit_div_two_pow]
 by_cases b:2≤i
 ·by_cases c:i-2<62
  ·simp [b,c,show i-2+2=i by omega]
  ·have:a.testBit i=false:=Nat.testBit_lt_two_pow (Nat.lt_of_lt_of_le h (Nat.pow_le_pow_right (n:=2) (i:=64) (by decide) (by omega)))
   simp [b,c,show i-2+2=i by omega,this]
 ·simp [b]
theorem fold_not (c:Nat)(hc:c<18446744073709551616):bits .andNot .u64 (c:Int) 3=((c-c%4:Nat):Int):=by
 rw [show (3:Int)=((3:Nat):Int) from rfl,u64_andNot_nat c 3 hc (by decide)]
 exact congrArg _ (and_not3 c hc)
theorem fold_and (c:Nat)(hc:c<18446744073709551616):bits .and .u64 (c:Int) 3=((c%4:Nat):Int):=by
 rw [show (3:Int)=((3:Nat):Int) from rfl,u64_and_nat c 3 hc (by decide),nat_mask2]
theorem fold_or (c d:Nat)(hc:c<18446744073709551616):bits .or .u64 ((c:Int)/4) (IntKind.u64.wrap ((d:Int)*4611686018427387904))=((c/4+d%4*4611686018427387904:Nat):Int):=by
 have b:(c:Int)/4=((c/4:Nat):Int):=by omega
 have a:IntKind.u64.wrap ((d:Int)*4611686018427387904)=((d%4*4611686018427387904:Nat):Int):=by rw [IntKind.wrap_u64];omega
 rw [b,a,u64_or_nat _ _ (by omega) (by omega),Nat.or_comm,nat_join 62 _ _ (by omega) (by omega),Nat.add_comm]
theorem quot4 (d q:Nat)(h:q=d/4):(d:Int)/4=q:=by omega
theorem Z5H (p k:Nat)(h:p+k<18446744073709551616):IntKind.u64.wrap ((p:Int)+k)=p+k:=by rw [IntKind.wrap_u64];omega
theorem Z5I (p k l:Nat)(h:p+k+l<18446744073709551616):IntKind.u64.wrap ((p:Int)+k+l)=p+k+l:=by rw [IntKind.wrap_u64];omega
theorem wrap_one (p:Nat)(h:p<18446744073709551616):IntKind.u64.wrap (p:Int)=p:=by rw [IntKind.wrap_u64];omega
theorem wrap_sum4 (p k l m:Nat)(h:p+k+l+m<18446744073709551616):IntKind.u64.wrap ((p:Int)+k+l+m)=((p+k+l+m:Nat):Int):=by rw [IntKind.wrap_u64];omega
theorem small5 (p k l:Nat)(h:p+k+l≤4):p+k+l<18446744073709551616∧p+k<18446744073709551616:=by omega
theorem folded_any (a b c d:Nat)(ha:a<18446744073709551616)(hb:b<18446744073709551616)(hc:c<18446744073709551616)(hd:d<9223372036854775808):∃ x y z:Nat,x<18446744073709551616∧y<18446744073709551616∧z≤4 ∧
  (x+y*18446744073709551616+z*340282366920938463463374607431768211456)%Z0x=(a+b*18446744073709551616+c*340282366920938463463374607431768211456+d*6277101735386680763835789423207666416102355444464034512896)%Z0x ∧
  ∀ w,Calls prog 258 #[.int .u64 a,.int .u64 b,.int .u64 c,.int .u64 d] w fun e w'=>e= .returned (.agg #[.int .u64 x,.int .u64 y,.int .u64 z])∧Below w.heap.size w w':=by
 obtain⟨m,A⟩:∃ m,m=c-c%4:=⟨_,rfl⟩
 obtain⟨t,o,X,F,O,H⟩:=Z55 a m ha (by omega)
 obtain⟨g,E,P,D,M,R⟩:=Z7U b d t hb (by omega) H
 obtain⟨n,B⟩:∃ n,n=c/4+d%4*4611686018427387904:=⟨_,rfl⟩
 obtain⟨u,k,W,N,r,I⟩:=Z55 o n O (by omega)
 obtain⟨q,C⟩:∃ q,q=d/4:=⟨_,rfl⟩
 obtain⟨h,j,U,G,s,S⟩:=Z7U E q u M (by omega) I
 have f:=folded_sum a b c d o t E g k u j h (by omega) D (by omega) (by omega)
 have i:=folded_low c d k j _ a b ha hb hd hc r s f
 refine⟨k,j,c%4+g+h,r,s,i,Z65 _ _ _ f,fun w=> ?_⟩
 have K:=fold_not c hc
 have J:=fold_and c hc
 have L:=fold_or c d hc
 rw [← A] at K
 rw [← B] at L
 have V:=quot4 d q C
 obtain⟨p,l⟩:∃ p,p=c%4:=⟨_,rfl⟩
 rw [← l] at J i
 rw [← l]
 have Q:=Z5H p g (small5 p g h i).2
 have T:=Z5I p g h (small5 p g h i).1
 clear f i F D N G A B C l
 go_enter func258,ntmps258
 go_wp2
 exact bodyPost_ret (v:= .agg #[.int .u64 k,.int .u64 j,.int .u64 ((p:Int)+g+h)]) (by simp [results,Tryz.results258,go_sem]) rfl ⟨rfl,(Below.refl _ _).alloc (Nat.le_refl _) _⟩
theorem mul_small (z r:Nat)(hz:z<8)(hr:r<1152921504606846976):z*r<9223372036854775808:=by
 have a:z*r≤7*r:=Nat.mul_le_mul_right r (by omega)
 omega
theorem hi_small (x s h l:Nat)(hx:x<18446744073709551616)(hs:s<1152921504606846976)(e:x*s=h*18446744073709551616+l):h<1152921504606846976:=by
 have a:x*s≤18446744073709551615*s:=Nat.mul_le_mul_right s (by omega)
 omega
theorem third_high (t:Nat)(h2:t*6277101735386680763835789423207666416102355444464034512896≤57896044618658097711785492504343953926634992332820282019728792003956564819967):t<9223372036854775808:=by omega
theorem prod_lt (x y z r s:Nat)(hx:x<18446744073709551616)(hy:y<18446744073709551616)(hz:z<8)(hr:r<1152921504606846976)(hs:s<1152921504606846976) :
  (x+y*18446744073709551616+z*340282366920938463463374607431768211456)*(r+s*18446744073709551616)≤57896044618658097711785492504343953926634992332820282019728792003956564819967:=by
 have b:x+y*18446744073709551616+z*340282366920938463463374607431768211456≤2722258935367507707706996859454145691647:=by omega
 have a:r+s*18446744073709551616≤21267647932558653966460912964485513215:=by omega
 exact Nat.le_trans (Nat.mul_le_mul b a) (by decide)
theorem product_any (x y z r s:Nat)(hx:x<18446744073709551616)(hy:y<18446744073709551616)(hz:z<8)(hr:r<1152921504606846976)(hs:s<1152921504606846976):∃ h0 h1 h2:Nat,h0<18446744073709551616∧h1<18446744073709551616∧h2≤4 ∧
  (h0+h1*18446744073709551616+h2*340282366920938463463374607431768211456)%Z0x=((x+y*18446744073709551616+z*340282366920938463463374607431768211456)*(r+s*18446744073709551616))%Z0x ∧
  ∀ w,Calls prog 256 #[.int .u64 x,.int .u64 y,.int .u64 z,.int .u64 r,.int .u64 s] w fun e w'=>e= .returned (.agg #[.int .u64 h0,.int .u64 h1,.int .u64 h2])∧Below w.heap.size w w':=by
 have N:r<18446744073709551616:=by omega
 have L:s<18446744073709551616:=by omega
 obtain⟨K,xr,O,o,l1,g1⟩:=Z5G x r hx N
 obtain⟨h,Z,S,k,l2,g2⟩:=Z5G x s hx L
 obtain⟨yrH,yr,R,i,l3,g3⟩:=Z5G y r hy N
 obtain⟨c,T,Q,j,l4,g4⟩:=Z5G y s hy L
 have b2:=hi_small x s h Z hx hs k
 have b3:=hi_small y r yrH yr hy hr i
 have b4:=hi_small y s c T hy hs j
 obtain⟨c1,s0,X,l,l5,g5⟩:=Z55 Z yr l2 l3
 have a0:=mul_small z r hz hr
 have W:=mul_small z s hz hs
 obtain⟨E,f⟩:∃ E,E=z*r:=⟨_,rfl⟩
 obtain⟨zs,g⟩:∃ zs,zs=z*s:=⟨_,rfl⟩
 rw [← f] at a0
 rw [← g] at W
 obtain⟨c2,t0,r2,t,l6,g6⟩:=Z55 T E l4 (by clear o k i j l X O S R Q;omega)
 obtain⟨c3,s1,r3,u,l7,g7⟩:=Z55 s0 K l5 g1
 obtain⟨J,A⟩:∃ J,J=h+yrH+c1:=⟨_,rfl⟩
 have C:J<18446744073709551616:=by clear o k i j l t u X r2 r3 O S R Q;omega
 obtain⟨c4,t1,r4,d,l8,g8⟩:=Z7U t0 J c3 l6 C g7
 have a:=product_sum x y z r s K xr h Z yrH yr c T s0 c1 t0 c2 s1 c3 t1 c4 o k i j l (by rw [← f];exact t) u (by rw [← A];exact d)
 rw [← g] at a
 obtain⟨D,B⟩:∃ D,D=c+zs+c2+c4:=⟨_,rfl⟩
 have F:D<9223372036854775808:=by
  refine third_high D ?_
  have:=prod_lt x y z r s hx hy hz hr hs
  rw [← a,← B] at this
  clear a o k i j l t u d
  omega
 rw [← B] at a
 obtain⟨h0,h1,h2,k1,k2,k3,b,q⟩:=folded_any xr s1 t1 D l1 l7 l8 F
 refine⟨h0,h1,h2,k1,k2,k3,by rw [b,a],fun w=> ?_⟩
 have v1:IntKind.u64.wrap ((h:Int)+yrH)=h+yrH:=Z5H _ _ (by clear a o k i j l t u d b;omega)
 have v2:IntKind.u64.wrap ((h:Int)+yrH+c1)=J:=by rw [Z5I _ _ _ (by rw [← A];exact C),A];rfl
 have v3:IntKind.u64.wrap ((z:Int)*r)=E:=by rw [f,← Int.natCast_mul,← f];exact wrap_one E (by clear a o k i j l t u d b;omega)
 have v4:IntKind.u64.wrap ((z:Int)*s)=zs:=by rw [g,← Int.natCast_mul,← g];exact wrap_one zs (by clear a o k i j l t u d b;omega)
 have M:c+zs+c2+c4<18446744073709551616:=by clear a o k i j l t u d b;omega
 have v5:IntKind.u64.wrap ((c:Int)+zs)=c+zs:=Z5H _ _ (by clear a o k i j l t u d b;omega)
 have v6:IntKind.u64.wrap ((c:Int)+zs+c2)=c+zs+c2:=Z5I _ _ _ (by clear a o k i j l t u d b;omega)
 have v7:IntKind.u64.wrap ((c:Int)+zs+c2+c4)=D:=by rw [B];exact wrap_sum4 _ _ _ _ M
 clear a b o k i j l t u d f g A B C F M b2 b3 b4
 go_enter func256,ntmps256
 go_wp2_with fail
 refine (O _).mono ?_
 rintro e w' ⟨rfl,rfl⟩
 go_wp2_with fail
 refine (S _).mono ?_
 rintro e w' ⟨rfl,rfl⟩
 go_wp2_with fail
 refine (R _).mono ?_
 rintro e w' ⟨rfl,rfl⟩
 go_wp2_with fail
 refine (Q _).mono ?_
 rintro e w' ⟨rfl,rfl⟩
 go_wp2_with fail
 refine (q _).mono ?_
 rintro e w1 ⟨rfl,I⟩
 clear X r2 r3 r4 O S R Q q
 have hk:w1.heap[w.heap.size]? = some (.cells #[.int .u64 0,.int .u64 0,.int .u64 0] 339 (0,0)):=(I.block _ (by simp)).trans (heap_alloc_new w _)
 have Y:Below w.heap.size w w1:=((Below.refl _ _).alloc (Nat.le_refl _) _).trans (I.mono (by simp))
 obtain⟨n,p⟩:∃ n:Array Value,n=#[.int .u64 h0,.int .u64 h1,.int .u64 h2]:=⟨_,rfl⟩
 have G:n.size=3:=by rw [p];rfl
 have H:n.all (·.oneCell')=true:=by rw [p];simp [Value.oneCell']
 have m:(prog.info? 339).map (·.size)=some n.size:=by rw [G];kernel_rfl
 have V:=Z0l Y (Nat.le_refl _) n
 have U:=run_loadVar_row (P:=prog) (w1.setRow w.heap.size n) w.heap.size 339 339 n (0,0) _ (setRow_heap _ _ _ _ _ _ hk) underlying339 rfl m
 rw [← p]
 have a1:Hid (n=#[.int .u64 h0,.int .u64 h1,.int .u64 h2]):=p
 clear p
 go_wp2_with (refine wpList_store_row rfl 339 _ _ rfl w.heap.size n rfl rfl 339 _ hk m (by rw [G];rfl) H ?_)
 exact bodyPost_ret (v:= .agg n) (by simp [results,Tryz.results256,asAddr,Act.put,U]) rfl ⟨by rw [a1.out],V⟩
theorem Z56 (i n x k:Nat)(hk:k=2 ^ i)(hn:n<2 ^ i)(hx:x<256)(hi:i≤56):bits .or .u64 (n:Int) ((x:Int)*(k:Int))=((n+x*k:Nat):Int):=by
 subst hk
 have b:2 ^ i≤2 ^ 56:=Nat.pow_le_pow_right (by decide) hi
 have a:x*2 ^ i≤255*2 ^ i:=Nat.mul_le_mul_right _ (by omega)
 rw [← Int.natCast_mul,u64_or_nat _ _ (by omega) (by omega),Nat.or_comm,nat_join i _ _ (Nat.mul_mod_left _ _) hn,Nat.add_comm]
theorem low_bits (x0 x1 x2 x3 x4 x5 x6 x7:Nat)(h0:x0<256)(h1:x1<256)(h2:x2<256)(h3:x3<256)(h4:x4<256)(h5:x5<256)(h6:x6<256)(h7:x7<256) :
  ∃ n1 n2 n3 n4 n5 n6:Nat,bits .or .u64 (x0:Int) ((x1:Int)*256)=(n1:Int)∧bits .or .u64 (n1:Int) ((x2:Int)*65536)=(n2:Int)∧bits .or .u64 (n2:Int) ((x3:Int)*16777216)=(n3:Int)∧bits .or .u64 (n3:Int) ((x4:Int)*4294967296)=(n4:Int)∧bits .or .u64 (n4:Int) ((x5:Int)*1099511627776)=(n5:Int)∧bits .or .u64 (n5:Int) ((x6:Int)*281474976710656)=(n6:Int)∧bits .or .u64 (n6:Int) ((x7:Int)*72057594037927936)=((leN [x0,x1,x2,x3,x4,x5,x6,x7]:Nat):Int):=by
 refine⟨x0+x1*256,x0+x1*256+x2*65536,x0+x1*256+x2*65536+x3*16777216,x0+x1*256+x2*65536+x3*16777216+x4*4294967296,x0+x1*256+x2*65536+x3*16777216+x4*4294967296+x5*1099511627776,x0+x1*256+x2*65536+x3*16777216+x4*4294967296+x5*1099511627776+x6*281474976710656,?_,?_,?_,?_,?_,?_,?_⟩
 ·exact Z56 8 _ x1 256 rfl (by omega) h1 (by decide)
 ·exact Z56 16 _ x2 65536 rfl (by omega) h2 (by decide)
 ·exact Z56 24 _ x3 16777216 rfl (by omega) h3 (by decide)
 ·exact Z56 32 _ x4 4294967296 rfl (by omega) h4 (by decide)
 ·exact Z56 40 _ x5 1099511627776 rfl (by omega) h5 (by decide)
 ·exact Z56 48 _ x6 281474976710656 rfl (by omega) h6 (by decide)
 ·refine (Z56 56 _ x7 72057594037927936 rfl (by omega) h7 (by decide)).trans (congrArg _ ?_)
  simp only [leN]
  omega
theorem Z7V (x0 x1 x2 x3 x4 x5 x6 x7:Nat)(hb:Z03 [x0,x1,x2,x3,x4,x5,x6,x7])(g o cap:Nat)(w:World)
  (c0:w.cell? ⟨g,o,none⟩=some (.int .u8 x0))(c1:w.cell? ⟨g,o+1,none⟩=some (.int .u8 x1))(c2:w.cell? ⟨g,o+2,none⟩=some (.int .u8 x2))(c3:w.cell? ⟨g,o+3,none⟩=some (.int .u8 x3))(c4:w.cell? ⟨g,o+4,none⟩=some (.int .u8 x4))(c5:w.cell? ⟨g,o+5,none⟩=some (.int .u8 x5))(c6:w.cell? ⟨g,o+6,none⟩=some (.int .u8 x6))(c7:w.cell? ⟨g,o+7,none⟩=some (.int .u8 x7)) :
  Calls prog 255 #[.slice (some ⟨g,o,none⟩) 8 cap] w fun e w'=>e= .returned (.int .u64 (leN [x0,x1,x2,x3,x4,x5,x6,x7]:Nat))∧∃ n,w'=w.drewN n:=by
 have b:x0<256∧x1<256∧x2<256∧x3<256∧x4<256∧x5<256∧x6<256∧x7<256:=by simpa [Z03] using hb
 obtain⟨j,k,h,d,i,a,f,c⟩:=b
 obtain⟨y,u,A,l,s,r,t,q,v,z,m,x,p⟩:=low_bits x0 x1 x2 x3 x4 x5 x6 x7 j k h d i a f c
 generalize leN [x0,x1,x2,x3,x4,x5,x6,x7]=N at *
 clear hb
 go_enter func255,ntmps255
 go_wp2_with fail
 go_quiet (fail)
 go_wp2
 go_ret
 exact⟨rfl,_,rfl⟩
theorem bdrewN {B:Nat}{a w:World}(h:Below B a w)(n:Nat):Below B a (w.drewN n):=h.trans ⟨rfl,rfl,rfl,Nat.le_refl _,fun _ _=>rfl⟩
def Z0M (l:List Nat)(o:Nat):Nat:=leN ((l.drop o).take 8)
theorem low_at (l:List Nat)(hl:l.length=16)(hb:Z03 l)(g t cap o:Nat)(ho:o≤8)(w:World)(hr:w.heap[g]? = some (.cells (byV l).toArray t (0,0))) :
  Calls prog 255 #[.slice (some ⟨g,o,none⟩) 8 cap] w fun e w'=>e= .returned (.int .u64 (Z0M l o:Nat))∧∃ n,w'=w.drewN n:=by
 have b:((l.drop o).take 8).length=8:=by simp;omega
 have c:=(hb.drop o).take 8
 have a:∀ i,i<8→w.cell? ⟨g,o+i,none⟩=some (.int .u8 (((l.drop o).take 8).getD i 0:Nat)):=fun i hi=>by
  have d:Row w g t (byV l):=hr
  rw [d.cell,Z0s _ _ (by omega)]
  congr 3
  rw [List.getD_eq_getElem?_getD,List.getD_eq_getElem?_getD,List.getElem?_take,if_pos hi,List.getElem?_drop]
 unfold Z0M
 generalize (l.drop o).take 8=m at *
 match m,b with
 | [x0,x1,x2,x3,x4,x5,x6,x7],_=>exact Z7V x0 x1 x2 x3 x4 x5 x6 x7 c g o cap w (a 0 (by decide)) (a 1 (by decide)) (a 2 (by decide)) (a 3 (by decide)) (a 4 (by decide)) (a 5 (by decide)) (a 6 (by decide)) (a 7 (by decide))
theorem pair_any (l:List Nat)(hl:l.length=16)(hb:Z03 l)(g t:Nat)(w:World)(hr:Row w g t (byV l)) :
  Calls prog 247 #[.pointer (some ⟨g,0,none⟩)] w fun e w'=>e= .returned (.agg #[.int .u64 (Z0M l 0:Nat),.int .u64 (Z0M l 8:Nat)])∧Below w.heap.size w w':=by
 have j:=hr.lt
 have d:=fun cap o ho w hr=>low_at l hl hb g t cap o ho w hr
 obtain⟨b,c⟩:∃ b,b=(byV l).toArray:=⟨_,rfl⟩
 rw [← c] at d
 have k:w.heap[g]? = some (.cells b t (0,0)):=by rw [c];exact hr
 clear hr c
 generalize Z0M l=V at *
 have a:∀ o,(w.alloc o).heap[g]? = some (.cells b t (0,0)):=fun o=>(Below.heap_alloc w o g j).trans k
 have f:g≠w.heap.size:=by omega
 have i:∀ (w':World) v v',w'.heap[g]? = some (.cells b t (0,0))→((w'.setCell ⟨w.heap.size,0,none⟩ v).setCell ⟨w.heap.size,1,none⟩ v').heap[g]? = some (.cells b t (0,0)):=fun w' v v' h=>(Below.heap_setCell _ _ _ _ f).trans ((Below.heap_setCell _ _ _ _ f).trans h)
 go_enter func247,ntmps247
 go_wp2_with fail
 go_region_held3 (fun w'=>w'.heap[g]? = some (.cells b t (0,0))) (first | exact a _ | assumption | exact i _ _ _ (a _)) (first | (go_at_call 255;refine (d _ _ (by decide) _ (by first | exact a _ | assumption)).mono ?_;rintro e w' ⟨rfl,n,rfl⟩))
 clear d a i
 go_wp2
 exact bodyPost_ret (v:= .agg #[.int .u64 (V 0:Nat),.int .u64 (V 8:Nat)]) (by simp [results,Tryz.results247,go_sem]) rfl ⟨rfl,((bdrewN ((Below.refl _ _).alloc (Nat.le_refl _) _) _).setCell (Nat.le_refl _) _).setCell (Nat.le_refl _) _⟩
theorem leB_two (x y:Nat)(hx:x<18446744073709551616):leB 16 (x+y*18446744073709551616)=leB 8 x++leB 8 y:=by
 have f:∀ z∈leB 8 x++leB 8 y,z<256:=fun z hz=>by
  rcases List.mem_append.1 hz with h | h
  ·exact Z37 _ _ _ h
  ·exact Z37 _ _ _ h
 have c:=leB_leN _ f
 rw [List.length_append,Z11,Z11,Z2U,Z11,leN_leB,leN_leB,Nat.mod_eq_of_lt (a:=x) hx] at c
 rw [← c]
 unfold leB
 refine List.map_congr_left fun i b=> ?_
 have b:=List.mem_range.1 b
 have e:x+y*18446744073709551616=x+256 ^ 8*(y%256 ^ 8)+2 ^ (8*i)*(2 ^ (128-8*i)*(y/256 ^ 8)):=by
  rw [← Nat.mul_assoc,← Nat.pow_add,show 8*i+(128-8*i)=128 by omega]
  omega
 rw [e,Nat.add_mul_div_left _ _ (Nat.two_pow_pos _)]
 have d:2 ^ (128-8*i)*(y/256 ^ 8)=256*(2 ^ (120-8*i)*(y/256 ^ 8)):=by
  rw [← Nat.mul_assoc,show (256:Nat)=2 ^ 8 from rfl,← Nat.pow_add,show 8+(120-8*i)=128-8*i by omega]
 rw [d,Nat.add_mul_mod_self_left]
def putF (x y j k:Nat):Value:=if k<8 then (if k<j then .int .u8 ((x/2 ^ (8*k)%256:Nat):Int) else .int .u8 0) else if k-8<j then .int .u8 ((y/2 ^ (8*(k-8))%256:Nat):Int) else .int .u8 0
theorem putF_step (x y j:Nat)(hj:j<8)(k:Nat)(hk:k<16):(if k=8+j then Value.int .u8 ((y/2 ^ (8*j)%256:Nat):Int) else if k=j then Value.int .u8 ((x/2 ^ (8*j)%256:Nat):Int) else putF x y j k)=putF x y (j+1) k:=by
 unfold putF
 by_cases d:k=8+j
 ·subst d
  rw [if_pos rfl,if_neg (by omega),if_pos (by omega),show 8+j-8=j by omega]
 ·rw [if_neg d]
  by_cases c:k=j
  ·subst c
   rw [if_pos rfl,if_pos hj,if_pos (by omega)]
  ·rw [if_neg c]
   by_cases b:k<8
   ·rw [if_pos b,if_pos b]
    by_cases a:k<j
    ·rw [if_pos a,if_pos (by omega)]
    ·rw [if_neg a,if_neg (by omega)]
   ·rw [if_neg b,if_neg b]
    by_cases a:k-8<j
    ·rw [if_pos a,if_pos (by omega)]
    ·rw [if_neg a,if_neg (by omega)]
theorem putF_all (x y:Nat):rowF 16 (putF x y 8)=byV (leB 8 x++leB 8 y):=by
 simp [rowF,byV,leB,putF,List.range,List.range.loop]
theorem Z3J (x y:Nat)(w:World) :
  Calls prog 250 #[.int .u64 x,.int .u64 y] w fun e w'=>e= .returned (.agg (byV (leB 8 x++leB 8 y)).toArray)∧Below w.heap.size w w':=by
 go_enter func250,ntmps250
 have D:Hid (∀ o1 o2,Below w.heap.size w ((w.alloc o1).alloc o2)):=fun o1 o2=>((Below.refl _ _).alloc (Nat.le_refl _) _).alloc (by simp) _
 go_wp2_with fail
 go_loopw [7] (fun i wr=> ∃ j:Nat,j≤8∧i= .int .i64 j∧Row wr (w.heap.size+1) 345 (rowF 16 (putF x y j))∧Row wr w.heap.size 345 (byV (List.replicate 16 0))∧Below w.heap.size w wr) (fun i _=>8-(intOf i).toNat)
 case atStart=>exact⟨0,Nat.zero_le _,rfl,heap_alloc2_new w _ _,heap_alloc2_old w _ _,D.out _ _⟩
 case round =>
  obtain⟨j,M,rfl,g,q,h⟩:=hrel
  by_cases t:j<8
  ·have J:=g.cellF j (by omega)
   have G:=g.cellF (8+j) (by omega)
   have K:∀ i,wr.frozen? ⟨w.heap.size+1,i,none⟩=false:=fun i=>g.frozen i
   have E:IntKind.i64.wrap (8*(j:Int))=8*j:=by rw [IntKind.wrap_i64];omega
   have N:IntKind.i64.wrap (8+(j:Int))=8+j:=by rw [IntKind.wrap_i64];omega
   have O:(8*(j:Int)).toNat=8*j:=by omega
   have H:(8+(j:Int)).toNat=8+j:=by omega
   have F:(j:Int)<16:=by omega
   have I:(8:Int)+(j:Int)<16:=by omega
   have L:(0:Int)≤8+(j:Int):=by omega
   have Q:(0:Int)≤8*(j:Int):=by omega
   have C:=(g.setF j (.int .u8 ((x:Int)/2 ^ (8*j)%256))).setF (8+j) (.int .u8 ((y:Int)/2 ^ (8*j)%256))
   have l:=Z10 fun k hk=>putF_step x y j t k hk
   have B:Row ((wr.setCell ⟨w.heap.size+1,j,none⟩ (.int .u8 ((x:Int)/2 ^ (8*j)%256))).setCell ⟨w.heap.size+1,8+j,none⟩ (.int .u8 ((y:Int)/2 ^ (8*j)%256))) (w.heap.size+1) 345 (rowF 16 (putF x y (j+1))):=by
    rw [← l];exact C
   have c:Row ((wr.setCell ⟨w.heap.size+1,j,none⟩ (.int .u8 ((x:Int)/2 ^ (8*j)%256))).setCell ⟨w.heap.size+1,8+j,none⟩ (.int .u8 ((y:Int)/2 ^ (8*j)%256))) w.heap.size 345 (byV (List.replicate 16 0)):=(Below.heap_setCell _ _ _ _ (by simp)).trans ((Below.heap_setCell _ _ _ _ (by simp)).trans q)
   have f:=(h.setCell (p:=⟨w.heap.size+1,j,none⟩) (by simp) (.int .u8 ((x:Int)/2 ^ (8*j)%256))).setCell (p:=⟨w.heap.size+1,8+j,none⟩) (by simp) (.int .u8 ((y:Int)/2 ^ (8*j)%256))
   have z:Hid (_∧_∧_):=⟨B,c,f⟩
   clear C l B c f g q h
   go_wp2
   go_roundw
   case rel=>exact⟨j+1,by omega,by go_num,z.out.1,z.out.2.1,z.out.2.2⟩
   case measure=>simp [intOf];omega
  ·obtain rfl:j=8:=by omega
   rw [putF_all] at g
   obtain⟨b,d⟩:∃ b,b=(byV (leB 8 x++leB 8 y)).toArray:=⟨_,rfl⟩
   have m:b.size=16:=by rw [d];simp [byV,leB]
   have n:b.all (·.oneCell')=true:=by rw [d];simp [byV,Value.oneCell']
   have o:wr.heap[w.heap.size+1]? = some (.cells b 345 (0,0)):=by rw [d];exact g
   have u:Hid _:=d
   clear d g
   have c:=q
   have r:(byV (List.replicate 16 0)).toArray.size=b.size:=by rw [m];rfl
   have a:(prog.info? 345).map (·.size)=some b.size:=by rw [m];kernel_rfl
   have A:=Z0l h (Nat.le_refl _) b
   have s:=run_loadVar_row (P:=prog) (wr.setRow w.heap.size b) w.heap.size 345 345 b (0,0) _ (setRow_heap _ _ _ _ _ _ c) underlying345 rfl a
   go_wp2_with (first | refine wpList_load_row rfl 345 _ rfl (w.heap.size+1) rfl 345 _ (0,0) _ o underlying345 rfl a ?_ | refine wpList_store_row rfl 345 _ _ rfl w.heap.size b rfl rfl 345 _ c a r n ?_)
   exact bodyPost_ret (v:= .agg b) (by simp [results,Tryz.results250,asAddr,Act.put,s]) rfl ⟨by rw [u.out],A⟩
def clN (l:List Nat)(i j k:Nat):Nat:=if k%4=3∧k<4*i then l.getD k 0%16 else if k%4=0∧0<k∧k≤4*j then l.getD k 0-l.getD k 0%4 else l.getD k 0
theorem clN_3 (l:List Nat)(i k:Nat):(if k=4*i+3 then l.getD (4*i+3) 0%16 else clN l i 0 k)=clN l (i+1) 0 k:=by
 unfold clN
 by_cases h:k=4*i+3
 ·subst h
  rw [if_pos rfl,if_pos (by omega)]
 ·rw [if_neg h]
  have e:(k%4=3∧k<4*(i+1))=(k%4=3∧k<4*i):=propext ⟨fun h=>by omega,fun h=>by omega⟩
  simp only [e]
theorem clN_4 (l:List Nat)(j k:Nat):(if k=4*j+4 then l.getD (4*j+4) 0-l.getD (4*j+4) 0%4 else clN l 4 j k)=clN l 4 (j+1) k:=by
 unfold clN
 by_cases h:k=4*j+4
 ·subst h
  rw [if_pos rfl,if_neg (by omega),if_pos (by omega)]
 ·rw [if_neg h]
  have e:(k%4=0∧0<k∧k≤4*(j+1))=(k%4=0∧0<k∧k≤4*j):=propext ⟨fun h=>by omega,fun h=>by omega⟩
  simp only [e]
theorem clN_all (l:List Nat)(k:Nat)(hk:k<16):clN l 4 3 k=Z36 k (l.getD k 0):=by
 unfold clN Z36
 have b:(k%4=3∧k<4*4)=(k%4=3):=propext ⟨fun h=>by omega,fun h=>by omega⟩
 have a:(k%4=0∧0<k∧k≤4*3)=(k%4=0∧0<k):=propext ⟨fun h=>by omega,fun h=>by omega⟩
 simp only [b,a]
theorem Z2b (l:List Nat):(Z0O l).length=16:=by simp [Z0O]
theorem clampB_lt (i x:Nat)(h:x<256):Z36 i x<256:=by unfold Z36;split <;> (try split) <;> omega
theorem Z3j (l:List Nat)(h:Z03 l):Z03 (Z0O l):=fun x hx=>by
 obtain⟨i,_,rfl⟩:=List.mem_map.1 hx
 exact clampB_lt _ _ (Z0k (by decide) h i)
theorem clF_all (l:List Nat):rowF 16 (fun k=> .int .u8 (clN l 4 3 k:Nat))=byV (Z0O l):=by
 rw [Z10 (f':=fun k=> .int .u8 (Z36 k (l.getD k 0):Nat)) (fun k hk=>by rw [clN_all l k hk])]
 simp [rowF,byV,Z0O]
theorem and15 (x:Nat)(h:x<256):bits .and .u8 (x:Int) 15=((x%16:Nat):Int):=by
 rw [show (15:Int)=((15:Nat):Int) from rfl,u8_and_nat x 15 h (by decide),nat_mask4]
theorem and252 (x:Nat)(h:x<256):bits .and .u8 (x:Int) 252=((x-x%4:Nat):Int):=by
 have b:∀ a:Fin 256,a.val &&& 252=a.val-a.val%4:=by decide +kernel
 rw [show (252:Int)=((252:Nat):Int) from rfl,u8_and_nat x 252 h (by decide)]
 exact congrArg _ (b ⟨x,h⟩)
def tagC (r0 r1 s0 s1 h0 h1 h2:Nat):List Value:= [.int .u64 r0,.int .u64 r1,.int .u64 s0,.int .u64 s1,.int .u64 h0,.int .u64 h1,.int .u64 h2]
set_option maxRecDepth 10000 in
theorem taggerOf_any (key:ByteArray)(hk:key.size=32)(w:World) :
  Calls prog 240 #[.string key] w fun e w'=>e= .returned (.agg (tagC (Z0M (Z0O (Z00 key)) 0) (Z0M (Z0O (Z00 key)) 8) (Z0M ((Z00 key).drop 16) 0) (Z0M ((Z00 key).drop 16) 8) 0 0 0).toArray)∧Below w.heap.size w w':=by
 obtain⟨w0,n⟩:∃ w0,((w.alloc (.cells #[.int .u64 0,.int .u64 0,.int .u64 0,.int .u64 0,.int .u64 0,.int .u64 0,.int .u64 0] 341)).alloc (.cells #[.int .u8 0,.int .u8 0,.int .u8 0,.int .u8 0,.int .u8 0,.int .u8 0,.int .u8 0,.int .u8 0,.int .u8 0,.int .u8 0,.int .u8 0,.int .u8 0,.int .u8 0,.int .u8 0,.int .u8 0,.int .u8 0] 345)).alloc (.cells #[.int .u8 0,.int .u8 0,.int .u8 0,.int .u8 0,.int .u8 0,.int .u8 0,.int .u8 0,.int .u8 0,.int .u8 0,.int .u8 0,.int .u8 0,.int .u8 0,.int .u8 0,.int .u8 0,.int .u8 0,.int .u8 0] 345)=w0:=⟨_,rfl⟩
 have a0:Row w0 w.heap.size 341 (tagC 0 0 0 0 0 0 0):=by rw [← n];exact (Below.heap_alloc _ _ _ (by simp;omega)).trans (heap_alloc2_old w _ _)
 have a1:Row w0 (w.heap.size+1) 345 (byV (List.replicate 16 0)):=by rw [← n];exact (Below.heap_alloc _ _ _ (by simp)).trans (heap_alloc2_new w _ _)
 have a2:Row w0 (w.heap.size+1+1) 345 (byV (List.replicate 16 0)):=by
  rw [← n]
  have:=heap_alloc_new ((w.alloc (.cells #[.int .u64 0,.int .u64 0,.int .u64 0,.int .u64 0,.int .u64 0,.int .u64 0,.int .u64 0] 341)).alloc (.cells #[.int .u8 0,.int .u8 0,.int .u8 0,.int .u8 0,.int .u8 0,.int .u8 0,.int .u8 0,.int .u8 0,.int .u8 0,.int .u8 0,.int .u8 0,.int .u8 0,.int .u8 0,.int .u8 0,.int .u8 0,.int .u8 0] 345)) (.cells #[.int .u8 0,.int .u8 0,.int .u8 0,.int .u8 0,.int .u8 0,.int .u8 0,.int .u8 0,.int .u8 0,.int .u8 0,.int .u8 0,.int .u8 0,.int .u8 0,.int .u8 0,.int .u8 0,.int .u8 0,.int .u8 0] 345)
  simpa [Row,byV] using this
 have ab:Below w.heap.size w w0:=by rw [← n];exact (((Below.refl _ _).alloc (Nat.le_refl _) _).alloc (by simp) _).alloc (by simp;omega) _
 obtain⟨Z,D,b1,U⟩:=Z5E w0 (w.heap.size+1) 345 16 _ rfl a1 key
 have b0:=a0.only U (by omega)
 have b2:=a2.only U (by omega)
 have bb:=ab.trans ((U.below (Nat.le_of_lt a1.lt)).mono (by omega))
 rw [show min key.size 16=16 by omega] at D b1
 obtain⟨u,S⟩:∃ u,u=key.extract 16 key.size:=⟨_,rfl⟩
 have a9:u.size=16:=by rw [S];simp;omega
 have J:Z00 u=(Z00 key).drop 16:=by rw [S,Z0h,List.take_of_length_le (by simp [Z01])]
 obtain⟨w2,B,T,R⟩:=Z5E Z.drew (w.heap.size+1+1) 345 16 _ rfl b2 u
 rw [show min u.size 16=16 by omega] at B T
 have c0:Row w2 w.heap.size 341 (tagC 0 0 0 0 0 0 0):=Row.only (w:=Z.drew) b0 R (by omega)
 have c1:Row w2 (w.heap.size+1) 345 _:=Row.only (w:=Z.drew) b1 R (by omega)
 have cb:Below w.heap.size w w2:=bb.drew.trans ((R.below (Nat.le_of_lt b2.lt)).mono (by omega))
 rw [List.take_of_length_le (by rw [Z01];omega),J] at T
 have V:key.extract 16 32=u:=by rw [S,hk]
 have I:Row w2 (w.heap.size+1) 345 (rowF 16 fun k=> .int .u8 (clN (Z00 key) 0 0 k:Nat)):=by
  refine c1.congr ?_
  have hl:((Z00 key).take 16).length=16:=by simp [Z01];omega
  rw [show List.drop 16 (byV (List.replicate 16 0))= [] from rfl,List.append_nil,byV_rowF,hl]
  refine Z10 fun k hk=> ?_
  rw [List.getD_eq_getElem?_getD,List.getElem?_take,if_pos hk,← List.getD_eq_getElem?_getD]
  unfold clN
  rw [if_neg (by omega),if_neg (by omega)]
 have F:Row w2 (w.heap.size+1+1) 345 (byV ((Z00 key).drop 16)):=T.congr (by rw [show List.drop 16 (byV (List.replicate 16 0))= [] from rfl,List.append_nil])
 have h:∀ k,(Z00 key).getD k 0<256:=fun k=>Z0k (by decide) (Z04 key) k
 have H:=Z04 key
 have L:(Z00 key).length=32:=by rw [Z01,hk]
 obtain⟨N,hN⟩:∃ N,N=Z00 key:=⟨_,rfl⟩
 rw [← hN] at I F h H L
 rw [← hN]
 have Q:Hid (Row w2 (w.heap.size+1) 345 (rowF 16 fun k=> .int .u8 (clN N 0 0 k:Nat))∧Row w2 (w.heap.size+1+1) 345 (byV (N.drop 16))∧Row w2 w.heap.size 341 (tagC 0 0 0 0 0 0 0)∧Below w.heap.size w w2):=⟨I,F,c0,cb⟩
 clear a0 a1 a2 ab b0 b1 b2 bb c0 c1 T cb U R J S a9 hN I F
 have a7:=fun g t w hr=>pair_any (Z0O N) (Z2b N) (Z3j N H) g t w hr
 have a8:=fun g t w hr=>pair_any (N.drop 16) (by simp [L]) (H.drop 16) g t w hr
 generalize Z0M (Z0O N) 0=r0 at *
 generalize Z0M (Z0O N) 8=r1 at *
 generalize Z0M (N.drop 16) 0=s0 at *
 generalize Z0M (N.drop 16) 8=K at *
 go_enter func240,ntmps240
 go_wp2_with fail
 go_region_held3 (fun _=>True) (simp [go_sem, *]) (fail)
 clear D B n V
 go_wp2_with fail
 go_loopw [14] (fun i wr=> ∃ j:Nat,j≤4∧i= .int .i64 j∧Row wr (w.heap.size+1) 345 (rowF 16 fun k=> .int .u8 (clN N j 0 k:Nat))∧Row wr (w.heap.size+1+1) 345 (byV (N.drop 16))∧Row wr w.heap.size 341 (tagC 0 0 0 0 0 0 0)∧Below w.heap.size w wr) (fun i _=>4-(intOf i).toNat)
 case atStart=>exact⟨0,Nat.zero_le _,rfl,Q.out⟩
 case round =>
  clear Q
  obtain⟨j,hj,rfl,d,l,z,a⟩:=hrel
  by_cases a5:j<4
  ·have Y:=d.cellF (4*j+3) (by omega)
   rw [show clN N j 0 (4*j+3)=N.getD (4*j+3) 0 by unfold clN;rw [if_neg (by omega),if_neg (by omega)]] at Y
   have hx:=h (4*j+3)
   have G:=d.setF (4*j+3) (.int .u8 ((N.getD (4*j+3) 0%16:Nat):Int))
   have m:(rowF 16 fun k=>if k=4*j+3 then Value.int .u8 ((N.getD (4*j+3) 0%16:Nat):Int) else Value.int .u8 (clN N j 0 k:Nat))=rowF 16 fun k=> .int .u8 (clN N (j+1) 0 k:Nat):=Z10 fun k _=>by rw [← clN_3 N j k];split <;> rfl
   rw [m] at G
   clear m
   have q:Row (wr.setCell ⟨w.heap.size+1,4*j+3,none⟩ (.int .u8 ((N.getD (4*j+3) 0%16:Nat):Int))) (w.heap.size+1+1) 345 (byV (N.drop 16)):=(Below.heap_setCell _ _ _ _ (by simp)).trans l
   have c:Row (wr.setCell ⟨w.heap.size+1,4*j+3,none⟩ (.int .u8 ((N.getD (4*j+3) 0%16:Nat):Int))) w.heap.size 341 (tagC 0 0 0 0 0 0 0):=(Below.heap_setCell _ _ _ _ (by simp)).trans z
   have b:=a.setCell (p:=⟨w.heap.size+1,4*j+3,none⟩) (by simp) (.int .u8 ((N.getD (4*j+3) 0%16:Nat):Int))
   have v1:=and15 _ hx
   have d3:∀ i,wr.frozen? ⟨w.heap.size+1,i,none⟩=false:=fun i=>d.frozen i
   generalize N.getD (4*j+3) 0=x at *
   generalize hy:x%16=y at *
   have q0:IntKind.i64.wrap (4*(j:Int))=4*j:=by rw [IntKind.wrap_i64];omega
   have q1:IntKind.i64.wrap (4*(j:Int)+3)=4*j+3:=by rw [IntKind.wrap_i64];omega
   have t1:(4*(j:Int)+3).toNat=4*j+3:=by omega
   have K:4*(j:Int)+3<16:=by omega
   have s2:(0:Int)≤4*(j:Int)+3:=by omega
   have W:Hid (Row (wr.setCell ⟨w.heap.size+1,4*j+3,none⟩ (.int .u8 (y:Int))) (w.heap.size+1) 345 (rowF 16 fun k=> .int .u8 (clN N (j+1) 0 k:Nat))∧Row (wr.setCell ⟨w.heap.size+1,4*j+3,none⟩ (.int .u8 (y:Int))) (w.heap.size+1+1) 345 (byV (N.drop 16))∧Row (wr.setCell ⟨w.heap.size+1,4*j+3,none⟩ (.int .u8 (y:Int))) w.heap.size 341 (tagC 0 0 0 0 0 0 0)∧Below w.heap.size w (wr.setCell ⟨w.heap.size+1,4*j+3,none⟩ (.int .u8 (y:Int)))):=⟨G,q,c,b⟩
   clear G q c b d l z a h hy
   go_wp2
   go_roundw
   case rel=>exact⟨j+1,by omega,by go_num,W.out⟩
   case measure=>simp [intOf];omega
  ·obtain rfl:j=4:=by omega
   have Q:Hid (Row wr (w.heap.size+1) 345 (rowF 16 fun k=> .int .u8 (clN N 4 0 k:Nat))∧Row wr (w.heap.size+1+1) 345 (byV (N.drop 16))∧Row wr w.heap.size 341 (tagC 0 0 0 0 0 0 0)∧Below w.heap.size w wr):=⟨d,l,z,a⟩
   clear d l z a
   go_wp2_with fail
   go_loopw [25] (fun i wr=> ∃ j:Nat,j≤3∧i= .int .i64 j∧Row wr (w.heap.size+1) 345 (rowF 16 fun k=> .int .u8 (clN N 4 j k:Nat))∧Row wr (w.heap.size+1+1) 345 (byV (N.drop 16))∧Row wr w.heap.size 341 (tagC 0 0 0 0 0 0 0)∧Below w.heap.size w wr) (fun i _=>3-(intOf i).toNat)
   case atStart=>exact⟨0,Nat.zero_le _,rfl,Q.out⟩
   case round =>
    clear Q
    obtain⟨j,hj,rfl,d,l,z,a⟩:=hrel
    by_cases a5:j<3
    ·have Y:=d.cellF (4*j+4) (by omega)
     rw [show clN N 4 j (4*j+4)=N.getD (4*j+4) 0 by unfold clN;rw [if_neg (by omega),if_neg (by omega)]] at Y
     have hx:=h (4*j+4)
     have G:=d.setF (4*j+4) (.int .u8 ((N.getD (4*j+4) 0-N.getD (4*j+4) 0%4:Nat):Int))
     have m:(rowF 16 fun k=>if k=4*j+4 then Value.int .u8 ((N.getD (4*j+4) 0-N.getD (4*j+4) 0%4:Nat):Int) else Value.int .u8 (clN N 4 j k:Nat))=rowF 16 fun k=> .int .u8 (clN N 4 (j+1) k:Nat):=Z10 fun k _=>by rw [← clN_4 N j k];split <;> rfl
     rw [m] at G
     clear m
     have q:Row (wr.setCell ⟨w.heap.size+1,4*j+4,none⟩ (.int .u8 ((N.getD (4*j+4) 0-N.getD (4*j+4) 0%4:Nat):Int))) (w.heap.size+1+1) 345 (byV (N.drop 16)):=(Below.heap_setCell _ _ _ _ (by simp)).trans l
     have c:Row (wr.setCell ⟨w.heap.size+1,4*j+4,none⟩ (.int .u8 ((N.getD (4*j+4) 0-N.getD (4*j+4) 0%4:Nat):Int))) w.heap.size 341 (tagC 0 0 0 0 0 0 0):=(Below.heap_setCell _ _ _ _ (by simp)).trans z
     have b:=a.setCell (p:=⟨w.heap.size+1,4*j+4,none⟩) (by simp) (.int .u8 ((N.getD (4*j+4) 0-N.getD (4*j+4) 0%4:Nat):Int))
     have v1:=and252 _ hx
     have d3:∀ i,wr.frozen? ⟨w.heap.size+1,i,none⟩=false:=fun i=>d.frozen i
     generalize N.getD (4*j+4) 0=x at *
     generalize hy:x-x%4=y at *
     have q0:IntKind.i64.wrap (4*(j:Int))=4*j:=by rw [IntKind.wrap_i64];omega
     have q1:IntKind.i64.wrap (4*(j:Int)+4)=4*j+4:=by rw [IntKind.wrap_i64];omega
     have t1:(4*(j:Int)+4).toNat=4*j+4:=by omega
     have K:4*(j:Int)+4<16:=by omega
     have s2:(0:Int)≤4*(j:Int)+4:=by omega
     have W:Hid (Row (wr.setCell ⟨w.heap.size+1,4*j+4,none⟩ (.int .u8 (y:Int))) (w.heap.size+1) 345 (rowF 16 fun k=> .int .u8 (clN N 4 (j+1) k:Nat))∧Row (wr.setCell ⟨w.heap.size+1,4*j+4,none⟩ (.int .u8 (y:Int))) (w.heap.size+1+1) 345 (byV (N.drop 16))∧Row (wr.setCell ⟨w.heap.size+1,4*j+4,none⟩ (.int .u8 (y:Int))) w.heap.size 341 (tagC 0 0 0 0 0 0 0)∧Below w.heap.size w (wr.setCell ⟨w.heap.size+1,4*j+4,none⟩ (.int .u8 (y:Int)))):=⟨G,q,c,b⟩
     clear G q c b d l z a h hy
     go_wp2
     go_roundw
     case rel=>exact⟨j+1,by omega,by go_num,W.out⟩
     case measure=>simp [intOf];omega
    ·obtain rfl:j=3:=by omega
     rw [clF_all] at d
     have ad:=l.lt
     go_wp2_with fail
     refine (a7 (w.heap.size+1) _ _ d).mono ?_
     rintro e w3 ⟨rfl,A⟩
     have m2:=l.below A l.lt
     have X:=z.below A z.lt
     have r:=a.trans (A.mono a.size)
     clear d l z a
     go_wp2_with fail
     refine (a8 (w.heap.size+1+1) _ _ m2).mono ?_
     rintro e w4 ⟨rfl,E⟩
     have n0:=X.below E X.lt
     have C:=r.trans (E.mono r.size)
     clear m2 X r A E
     obtain⟨f,o⟩:∃ f:Array Value,f=(tagC r0 r1 s0 K 0 0 0).toArray:=⟨_,rfl⟩
     have ac:#[Value.int .u64 r0,.int .u64 r1,.int .u64 s0,.int .u64 K,.int .u64 0,.int .u64 0,.int .u64 0]=f:=by rw [o];rfl
     have M:f.size=7:=by rw [o];rfl
     have O:f.all (·.oneCell')=true:=by rw [o];simp [tagC,Value.oneCell']
     have c:w4.heap[w.heap.size]? = some (.cells (tagC 0 0 0 0 0 0 0).toArray 341 (0,0)):=n0
     have a3:(tagC 0 0 0 0 0 0 0).toArray.size=f.size:=by rw [M];rfl
     have s:(prog.info? 341).map (·.size)=some f.size:=by rw [M];kernel_rfl
     have aa:=Z0l C (Nat.le_refl _) f
     have a4:=run_loadVar_row (P:=prog) (w4.setRow w.heap.size f) w.heap.size 341 341 f (0,0) _ (setRow_heap _ _ _ _ _ _ c) underlying341 rfl s
     have a6:Hid (f=(tagC r0 r1 s0 K 0 0 0).toArray):=o
     clear o n0 C
     go_wp2_with (refine wpList_store_row rfl 341 _ _ rfl w.heap.size f rfl rfl 341 _ c s a3 O ?_)
     exact bodyPost_ret (v:= .agg f) (by simp [results,Tryz.results240,asAddr,Act.put,a4]) rfl ⟨by rw [a6.out],aa⟩
end Bx
end Go.Proofs.YtijpgmkdnemmbaaGreatDoor
