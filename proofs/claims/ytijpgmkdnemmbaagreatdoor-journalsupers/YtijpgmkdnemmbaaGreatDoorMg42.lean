/- Part 42. -/
import Derived.Test.YtijpgmkdnemmbaaGreatDoorMg41
import Derived.Lib.LaidTab
set_option maxRecDepth 20000
set_option maxHeartbeats 8000000
open Go.RowKit Go.Proofs.Tryz
namespace Go.Proofs.YtijpgmkdnemmbaaGreatDoor
namespace Sm
set_option maxRecDepth 10000 in
theorem rMac_long (key0 s:ByteArray)(hk0:64<key0.size)(hk1:key0.size<1099511627776)(hs:s.size<549755813888)(w0:World) :
  Calls prog 66 #[.string key0,.string s] w0 fun e w'=>e= .returned (.string (macS key0 s))∧Below w0.heap.size w0 w':=by
 obtain⟨i0,hi,ad,al,ag⟩:=info_parts Z2n
 have b7:(64:Int)<key0.size:=by omega
 go_enter func66,ntmps66
 go_wp2_with fail
 refine (rsum_any key0 hk1 w0).mono ?_
 rintro e w ⟨rfl,aj⟩
 have ap:Hid (macS (shaS (Z00 key0)) s=macS key0 s):=macS_sum key0 s hk0
 have hk:(shaS (Z00 key0)).size≤64:=by rw [← Z01,show Z00 (shaS (Z00 key0))=shaL (Z00 key0) from Z08 _ (Z1n _),Z09];decide
 generalize shaS (Z00 key0)=key at *
 have ai:Hid (Below w0.heap.size w0 w):=aj
 clear aj
 obtain⟨K,hK⟩:∃ K,K=padK (Z00 key):=⟨_,rfl⟩
 have a5:Z03 K:=by rw [hK];exact Z2T (Z04 key)
 have t:K.length=64:=by rw [hK];exact Z2s _ (by rw [Z01];exact hk)
 have HK:Hid (K=padK (Z00 key)):=hK
 clear hK
 go_wp2_with (at_make;refine wpList_make_full _ rfl _ _ 90 rfl w.heap.size 5 i0 (.int .u8 0) 1 underlying90 hi ad al .i64 .i64 _ _ 64 rfl rfl rfl rfl ?c1 ?c2 (Nat.le_refl _) ?_)
 case c1=>rw [ag];decide
 case c2=>unfold maxLen;decide
 intro w1 B q
 have o:Below w.heap.size w w1:=(Below.refl _ _).grown q (Nat.le_refl _) (fun k hk=>by simp at hk)
 have L:=Z2a B
 clear B q
 go_wp2_with (at_make;refine wpList_make_full _ rfl _ _ 90 rfl w1.heap.size 5 i0 (.int .u8 0) 1 underlying90 hi ad al .i64 .i64 _ _ 64 rfl rfl rfl rfl ?d1 ?d2 (Nat.le_refl _) ?_)
 case d1=>rw [ag];decide
 case d2=>unfold maxLen;decide
 intro w2 E r
 have n:Below w1.heap.size w1 w2:=(Below.refl _ _).grown r (Nat.le_refl _) (fun k hk=>by simp at hk)
 have ak:=Z2a E
 have d:=L.below n L.lt
 have b6:w.heap.size<w1.heap.size:=L.lt
 have a0:=o.trans (n.mono o.size)
 have H2:Hid (Row w2 w.heap.size 5 (List.replicate 64 (.int .u8 0))∧Row w2 w1.heap.size 5 (List.replicate 64 (.int .u8 0))∧Below w.heap.size w w2):=⟨d,ak,a0⟩
 clear E r L d ak o n a0
 go_wp2_with fail
 go_loopw [7] (fun i wr=> ∃ j:Nat,j≤64∧i= .int .i64 j∧Row wr w.heap.size 5 (byV (xorL 54 (K.take j))++List.replicate (64-j) (.int .u8 0))∧Row wr w1.heap.size 5 (byV (xorL 92 (K.take j))++List.replicate (64-j) (.int .u8 0))∧Below w.heap.size w wr) (fun i _=>64-(intOf i).toNat)
 case atStart=>exact⟨0,Nat.zero_le _,rfl,H2.out.1,H2.out.2.1,H2.out.2.2⟩
 case round =>
  clear H2
  obtain⟨j,hj,rfl,hx,hy,hb⟩:=hrel
  by_cases v:j<64
  ·have b8:(j:Int)<64:=by omega
   have p:=zeroRow hx v
   have C:=zeroRow hy v
   have F:∀ c,(byV (xorL c (K.take j))).length=j:=fun c=>by simp [byV,Z0a];omega
   have cx:=p.at (F 54).symm
   have cy:=C.at (F 92).symm
   have fx:wr.frozen? ⟨w.heap.size,j,none⟩=false:=hx.frozen j
   have fy:wr.frozen? ⟨w1.heap.size,j,none⟩=false:=hy.frozen j
   by_cases ao:j<key.size
   ·have au:(j:Int)<key.size:=by omega
    obtain⟨b,y⟩:∃ b,b=K.getD j 0:=⟨_,rfl⟩
    have lb:b<256:=by rw [y];exact Z0k (by decide) a5 j
    have b9:key[j].toNat=b:=by rw [y,HK.out];exact padK_in key j ao
    have bx:bits .xor .u8 (b:Int) 54=((b ^^^ 54:Nat):Int):=u8_xor_nat b 54 lb (by decide)
    have ac:bits .xor .u8 (b:Int) 92=((b ^^^ 92:Nat):Int):=u8_xor_nat b 92 lb (by decide)
    obtain⟨b1,o⟩:∃ b1,b1=b ^^^ 54:=⟨_,rfl⟩
    obtain⟨b2,n⟩:∃ b2,b2=b ^^^ 92:=⟨_,rfl⟩
    rw [← o] at bx
    rw [← n] at ac
    have a6:Hid (Value.int .u8 (b1:Nat)= .int .u8 ((K.getD j 0 ^^^ 54:Nat):Int)):=by show _=_;rw [o,y]
    have a1:Hid (Value.int .u8 (b2:Nat)= .int .u8 ((K.getD j 0 ^^^ 92:Nat):Int)):=by show _=_;rw [n,y]
    clear o n y
    have d:=p.set (.int .u8 (b1:Nat)) (F 54).symm
    have g:Only w.heap.size wr (wr.setCell ⟨w.heap.size,j,none⟩ (.int .u8 (b1:Nat))):=(Only.refl _ _).setCell _ _
    obtain⟨w3,a2⟩:∃ w3,wr.setCell ⟨w.heap.size,j,none⟩ (.int .u8 (b1:Nat))=w3:=⟨_,rfl⟩
    rw [a2] at d g
    have a:=C.only g (by omega)
    have aw:=a.at (F 92).symm
    have av:w3.frozen? ⟨w1.heap.size,j,none⟩=false:=a.frozen j
    have l:=a.set (.int .u8 (b2:Nat)) (F 92).symm
    have f:Only w1.heap.size w3 (w3.setCell ⟨w1.heap.size,j,none⟩ (.int .u8 (b2:Nat))):=(Only.refl _ _).setCell _ _
    obtain⟨w4,a7⟩:∃ w4,w3.setCell ⟨w1.heap.size,j,none⟩ (.int .u8 (b2:Nat))=w4:=⟨_,rfl⟩
    rw [a7] at l f
    have m:=d.only f (by omega)
    have z:Below w.heap.size w w4:=(hb.trans ((g.below (Nat.le_of_lt p.lt)))).trans ((f.below (Nat.le_of_lt a.lt)).mono (by omega))
    rw [Z4k K j _ 54 t v a6.out] at m
    rw [Z4k K j _ 92 t v a1.out] at l
    have S:Hid (Row w4 w.heap.size 5 (byV (xorL 54 (K.take (j+1)))++List.replicate (64-(j+1)) (.int .u8 0))∧Row w4 w1.heap.size 5 (byV (xorL 92 (K.take (j+1)))++List.replicate (64-(j+1)) (.int .u8 0))∧Below w.heap.size w w4):=⟨m,l,z⟩
    clear hx hy hb p C d g a l f m z F cy fy
    go_wp2_with fail
    go_roundw
    case rel=>exact⟨j+1,by omega,by go_num,S.out.1,S.out.2.1,S.out.2.2⟩
    case measure=>simp [intOf];omega
   ·have au:¬ (j:Int)<key.size:=by omega
    have aa:K.getD j 0=0:=by rw [HK.out];exact padK_out key j (by omega)
    have a6:Hid (Value.int .u8 54= .int .u8 ((K.getD j 0 ^^^ 54:Nat):Int)):=by show _=_;rw [aa];rfl
    have a1:Hid (Value.int .u8 92= .int .u8 ((K.getD j 0 ^^^ 92:Nat):Int)):=by show _=_;rw [aa];rfl
    have bx:bits .xor .u8 0 54=54:=u8_xor_nat 0 54 (by decide) (by decide)
    have ac:bits .xor .u8 0 92=92:=u8_xor_nat 0 92 (by decide) (by decide)
    clear aa
    have d:=p.set (.int .u8 54) (F 54).symm
    have g:Only w.heap.size wr (wr.setCell ⟨w.heap.size,j,none⟩ (.int .u8 54)):=(Only.refl _ _).setCell _ _
    obtain⟨w3,a2⟩:∃ w3,wr.setCell ⟨w.heap.size,j,none⟩ (.int .u8 54)=w3:=⟨_,rfl⟩
    rw [a2] at d g
    have a:=C.only g (by omega)
    have aw:=a.at (F 92).symm
    have av:w3.frozen? ⟨w1.heap.size,j,none⟩=false:=a.frozen j
    have l:=a.set (.int .u8 92) (F 92).symm
    have f:Only w1.heap.size w3 (w3.setCell ⟨w1.heap.size,j,none⟩ (.int .u8 92)):=(Only.refl _ _).setCell _ _
    obtain⟨w4,a7⟩:∃ w4,w3.setCell ⟨w1.heap.size,j,none⟩ (.int .u8 92)=w4:=⟨_,rfl⟩
    rw [a7] at l f
    have m:=d.only f (by omega)
    have z:Below w.heap.size w w4:=(hb.trans ((g.below (Nat.le_of_lt p.lt)))).trans ((f.below (Nat.le_of_lt a.lt)).mono (by omega))
    rw [Z4k K j _ 54 t v a6.out] at m
    rw [Z4k K j _ 92 t v a1.out] at l
    have S:Hid (Row w4 w.heap.size 5 (byV (xorL 54 (K.take (j+1)))++List.replicate (64-(j+1)) (.int .u8 0))∧Row w4 w1.heap.size 5 (byV (xorL 92 (K.take (j+1)))++List.replicate (64-(j+1)) (.int .u8 0))∧Below w.heap.size w w4):=⟨m,l,z⟩
    clear hx hy hb p C d g a l f m z F cy fy
    go_wp2_with fail
    go_roundw
    case rel=>exact⟨j+1,by omega,by go_num,S.out.1,S.out.2.1,S.out.2.2⟩
    case measure=>simp [intOf];omega
  ·obtain rfl:j=64:=by omega
   rw [List.take_of_length_le (by omega)] at hx hy
   have a9:Row wr w.heap.size 5 (byV (xorL 54 K)):=by simpa using hx
   have a3:Row wr w1.heap.size 5 (byV (xorL 92 K)):=by simpa using hy
   have Y:(xorL 54 K).length=64:=by rw [Z0a];exact t
   have A:(xorL 92 K).length=64:=by rw [Z0a];exact t
   have ah:Z03 (xorL 54 K):=Z1a (by decide) a5
   have ae:Z03 (xorL 92 K):=Z1a (by decide) a5
   have af:Hid (macL K (Z00 s)=shaL (xorL 92 K++shaL (xorL 54 K++Z00 s))∧macS key s=strOfNums ((macL K (Z00 s)).map fun (x:Nat)=>(x:Int))):=⟨rfl,by
    have h1:keyP (Z00 key)=K:=by rw [HK.out,keyP,if_neg (by rw [Z01];omega)]
    rw [macS,h1]⟩
   generalize xorL 54 K=ip at *
   generalize xorL 92 K=op at *
   have a4:=fun W (h:Row W w.heap.size 5 (byV ip))=>Z1A W w.heap.size 5 ip Y h
   have ab:=Z1A wr w1.heap.size 5 op A a3
   obtain⟨J,H⟩:∃ J,J=strOfNums (ip.map fun (x:Nat)=>(x:Int)):=⟨_,rfl⟩
   obtain⟨I,M⟩:∃ I,I=strOfNums (op.map fun (x:Nat)=>(x:Int)):=⟨_,rfl⟩
   have Z:=a4 wr a9
   rw [← H] at Z
   rw [← M] at ab
   have N:Z00 J=ip:=by rw [H];exact Z08 ip ah
   have G:Z00 I=op:=by rw [M];exact Z08 op ae
   have b0:J.size=64:=by rw [← Z01,N,Y]
   have b4:I.size=64:=by rw [← Z01,G,A]
   have X:Hid (Row wr w.heap.size 5 (byV ip)∧Row wr w1.heap.size 5 (byV op)∧Below w.heap.size w wr∧Z00 J=ip∧Z00 I=op):=⟨a9,a3,hb,N,G⟩
   obtain⟨V,T⟩:∃ V,V=J++s:=⟨_,rfl⟩
   have aq:∀ w',(Op.stringOp .add J s).run prog w'= .ok (.string V) w':=fun w'=>by rw [T];exact run_string_add_sum (P:=prog) (w:=w') J s (by omega)
   have az:V.size<1099511627776:=by rw [T,ByteArray.size_append];omega
   obtain⟨X1,a8⟩:∃ X1,X1=shaS (Z00 V):=⟨_,rfl⟩
   have D:Z00 X1=shaL (ip++Z00 s):=by
    rw [a8,show Z00 (shaS (Z00 V))=shaL (Z00 V) from Z08 _ (Z1n _),T,Z1v,N]
   have b3:X1.size=32:=by rw [← Z01,D,Z09]
   obtain⟨m2,Q⟩:∃ m2,m2=I++X1:=⟨_,rfl⟩
   have ar:∀ w',(Op.stringOp .add I X1).run prog w'= .ok (.string m2) w':=fun w'=>by rw [Q];exact run_string_add_sum (P:=prog) (w:=w') I X1 (by omega)
   have b5:m2.size<1099511627776:=by rw [Q,ByteArray.size_append];omega
   have HX:Hid (shaS (Z00 V)=X1∧shaS (Z00 m2)=macS key s):=⟨a8.symm,by
    rw [af.out.2,af.out.1,Q,Z1v,G,D];rfl⟩
   have ax:∀ W,Row W w.heap.size 5 (byV ip)→(convert 90 9 (.slice (some ⟨w.heap.size,0,none⟩) 64 64)).run prog W= .ok (.string J) W:=fun W h=>by rw [H];exact a4 W h
   have ay:∀ W,Row W w1.heap.size 5 (byV op)→(convert 90 9 (.slice (some ⟨w1.heap.size,0,none⟩) 64 64)).run prog W= .ok (.string I) W:=fun W h=>by rw [M];exact Z1A W w1.heap.size 5 op A h
   clear hx hy a9 a3 hb a4 H M N G Z ab T a8 D Q
   go_wp2_with fail
   go_region_held3 (fun w'=>Row w' w.heap.size 5 (byV ip)∧Row w' w1.heap.size 5 (byV op)) (first | exact⟨X.out.1,X.out.2.1⟩ | exact⟨R,U⟩) (first | (go_at_call 107;refine (rsum_any _ (by assumption) _).mono ?_;rintro e wA ⟨rfl,u⟩;(first | rw [HX.out.1] | rw [HX.out.2]);have R:Row wA w.heap.size 5 (byV ip):=(by first | exact R.below u R.lt | exact Row.below (w:=wr.drew) X.out.1 u X.out.1.lt);have U:Row wA w1.heap.size 5 (byV op):=(by first | exact U.below u U.lt | exact Row.below (w:=wr.drew) X.out.2.1 u X.out.2.1.lt);have O:Below w.heap.size w wA:=(by first | exact O.trans (u.mono O.size) | exact X.out.2.2.1.drew.trans (u.mono X.out.2.2.1.size))))
   have S:Hid (Below w.heap.size w wA):=O
   clear O R U
   go_wp2
   go_ret
   exact⟨by rw [ap.out];rfl,ai.out.trans (S.out.mono ai.out.size)⟩
theorem rMac_any (key s:ByteArray)(hk:key.size<1099511627776)(hs:s.size<549755813888)(w:World) :
  Calls prog 66 #[.string key,.string s] w fun e w'=>e= .returned (.string (macS key s))∧Below w.heap.size w w':=by
 by_cases h:64<key.size
 ·exact rMac_long key s h hk hs w
 ·exact rMac_short key s (by omega) hs w
theorem Z6u (a b:List Nat):strOfNums (a.map fun (x:Nat)=>(x:Int))++strOfNums (b.map fun (x:Nat)=>(x:Int))=strOfNums ((a++b).map fun (x:Nat)=>(x:Int)):=by
 have hh:∀ x y:ByteArray,x.data++y.data=(x++y).data:=fun x y=>by simp
 apply ByteArray.ext
 rw [← hh]
 simp [strOfNums]
theorem strOf_take (l:List Nat)(n:Nat):(strOfNums (l.map fun (x:Nat)=>(x:Int))).extract 0 n=strOfNums ((l.take n).map fun (x:Nat)=>(x:Int)):=by
 apply ByteArray.ext
 apply Array.toList_inj.1
 rw [Lib.extract_data]
 simp [strOfNums,List.map_take]
set_option maxRecDepth 10000 in
theorem rExpand_in (key info:ByteArray)(n:Nat)(hn:n≤8160)(hk:key.size<1099511627776)(hi:info.size≤1048576)(w:World) :
  Calls prog 112 #[.string key,.string info,.int .i64 n] w fun e w'=>e= .returned (.tuple #[.string (expS key info n),.int .i64 0])∧Below w.heap.size w w':=by
 have h1:¬ (n:Int)<0:=by omega
 have h2:¬ (8160:Int)<n:=by omega
 obtain⟨m,hm⟩:∃ m,m=(n+31)/32:=⟨_,rfl⟩
 have a2:m≤255:=by omega
 have a6:n≤32*m:=by omega
 have a1:32*m≤n+31:=by omega
 obtain⟨T,r⟩:∃ T:Nat→List Nat,T=expT (keyP (Z00 key)) (Z00 info):=⟨_,rfl⟩
 obtain⟨U,L⟩:∃ U:Nat→ByteArray,U=fun i=>strOfNums ((T i).map fun (x:Nat)=>(x:Int)):=⟨_,rfl⟩
 obtain⟨O,E⟩:∃ O:Nat→ByteArray,O=fun j=>strOfNums ((catD (fun i=>T (i+1)) j).map fun (x:Nat)=>(x:Int)):=⟨_,rfl⟩
 have J:∀ i,(U i).size≤32:=fun i=>by rw [L,r];exact tS_size _ _ i
 have F:∀ j,(O j).size=32*j:=fun j=>by
  rw [E,← Z01]
  show (Z00 (strOfNums _)).length=_
  have B:Z03 (catD (fun i=>T (i+1)) j):=by
   induction j with
   | zero=>intro x R;simp [catD] at R
   | succ j ih=>rw [catD];exact ih.append (by rw [r];exact expT_bytes _ _ _)
  rw [Z08 _ B,Z34 _ (fun i=>by rw [r];exact Z53 _ _ _)]
 have C:∀ j,O j++U (j+1)=O (j+1):=fun j=>by rw [E,L];exact Z6u _ _
 have H:∀ j,j<255→∀ bs:ByteArray,Z00 bs= [j+1]→macS key (U j++info++bs)=U (j+1):=fun j hj bs f=>by
  rw [L,r,macS]
  show strOfNums _=strOfNums _
  rw [Z1v,Z1v,show Z00 (strOfNums _)=_ from tS_nums _ _ j,f]
  show _=strOfNums ((macL _ (_++_ ++ [(j+1)%256])).map _)
  rw [Nat.mod_eq_of_lt (by omega)]
 have Q:Hid ((O m).extract 0 n=expS key info n∧U 0=ByteArray.empty∧O 0=ByteArray.empty):=⟨by
  rw [E,r,hm];exact strOf_take _ n,by rw [L,r];rfl,by rw [E];rfl⟩
 have N:Hid ((∀ j,O j++U (j+1)=O (j+1))∧(∀ j,j<255→∀ bs:ByteArray,Z00 bs= [j+1]→macS key (U j++info++bs)=U (j+1))∧(∀ j,(O j).size=32*j)):=⟨C,H,F⟩
 clear r L E C H F hm
 go_enter func112,ntmps112
 go_wp2_with fail
 go_loopw [8,9,10] (fun out t i wr=> ∃ j:Nat,j≤m∧i= .int .i64 ((j:Int)+1)∧out= .string (O j)∧t= .string (U j)∧Below w.heap.size w wr) (fun _ _ i _=>m+1-(intOf i).toNat)
 case atStart=>exact⟨0,Nat.zero_le _,rfl,by rw [Q.out.2.2];rfl,by rw [Q.out.2.1];rfl,Below.refl _ _⟩
 case round =>
  obtain⟨j,hj,rfl,rfl,rfl,B⟩:=hrel
  have d:=N.out.2.2 j
  by_cases a4:j<m
  ·obtain⟨b,a⟩:∃ b,b=O j:=⟨_,rfl⟩
   obtain⟨z,k⟩:∃ z,z=U j:=⟨_,rfl⟩
   have D:=J j
   rw [← a] at d
   rw [← k] at D
   rw [← a,← k]
   have S:((b.size:Nat):Int)<n:=by omega
   have HJ:Hid (b=O j∧z=U j∧b.size=32*j):=⟨a,k,d⟩
   clear a k d
   have zi:IntKind.u8.wrap ((j:Int)+1)=j+1:=by rw [IntKind.wrap_u8];omega
   have l:=run_convert_bytes_arg (P:=prog) (wr.alloc (.cells #[.int .u8 ((j:Int)+1)] 5)) 90 5 underlying90 underlying5 wr.heap.size 0 1 1 [(j:Int)+1] rfl (fun i hi=>by
    obtain rfl:i=0:=by omega
    exact (cell_of_row _ _ _ _ _ _ (heap_alloc_new wr _))) 9 underlying9
   obtain⟨bs,f⟩:∃ bs,bs=strOfNums [(j:Int)+1]:=⟨_,rfl⟩
   rw [← f] at l
   have p:Z00 bs= [j+1]:=by rw [f];exact Z08 [j+1] (fun x R=>by rw [List.mem_singleton] at R;omega)
   have a3:bs.size=1:=by rw [← Z01,p];rfl
   obtain⟨s,hh⟩:∃ s,s=z++info:=⟨_,rfl⟩
   have u:∀ w',(Op.stringOp .add z info).run prog w'= .ok (.string s) w':=fun w'=>by rw [hh];exact run_string_add_sum (P:=prog) (w:=w') z info (by omega)
   have a0:s.size≤1048608:=by rw [hh,ByteArray.size_append];omega
   obtain⟨y,g⟩:∃ y,y=s++bs:=⟨_,rfl⟩
   have v:∀ w',(Op.stringOp .add s bs).run prog w'= .ok (.string y) w':=fun w'=>by rw [g];exact run_string_add_sum (P:=prog) (w:=w') s bs (by omega)
   have X:y.size≤1048609:=by rw [g,ByteArray.size_append];omega
   have Z:Hid (macS key y=U (j+1)):=by
    show _=_
    rw [g,hh,HJ.out.2.1]
    exact N.out.2.1 j (by omega) bs p
   have q:=B.alloc B.size (.cells #[.int .u8 ((j:Int)+1)] 5)
   clear f p hh g B
   go_wp2_with fail
   first
    | (rw [l];go_wp2_with fail)
    | skip
   refine (rMac_any key y hk (by omega) _).mono ?_
   rintro e w2 ⟨rfl,K⟩
   rw [Z.out]
   have G:=q.trans (K.mono q.size)
   clear q K Z l u v
   obtain⟨A,c⟩:∃ A,A=U (j+1):=⟨_,rfl⟩
   obtain⟨M,o⟩:∃ M,M=O (j+1):=⟨_,rfl⟩
   have Y:A.size≤32:=by rw [c];exact J _
   have V:∀ w',(Op.stringOp .add b A).run prog w'= .ok (.string M) w':=fun w'=>by
    rw [o,← N.out.1 j,c,← HJ.out.1]
    rw [← c]
    exact run_string_add_sum (P:=prog) (w:=w') b A (by omega)
   rw [← c]
   have W:Hid (A=U (j+1)∧M=O (j+1)):=⟨c,o⟩
   clear c o
   go_wp2
   go_roundw
   case rel=>exact⟨j+1,by omega,by go_num,by rw [W.out.2],by rw [W.out.1],G⟩
   case measure=>simp [intOf];omega
  ·obtain rfl:j=m:=by omega
   obtain⟨b,a⟩:∃ b,b=O j:=⟨_,rfl⟩
   rw [← a] at d
   rw [← a]
   have S:¬ ((b.size:Nat):Int)<n:=by omega
   have a5:(n:Int)≤b.size:=by omega
   have I:Hid (b.extract 0 n=expS key info n):=by show _=_;rw [a];exact Q.out.1
   clear a d
   go_wp2
   go_ret2
   exact⟨by first | (rw [I.out];rfl) | (rw [← I.out];rfl),B⟩
def Z2d (w:World)(B:Nat)(l:List Nat):Prop:=(∀ x,x<32→w.cell? ⟨B,x,none⟩=some (.int .u8 (l.getD x 0:Nat)))∧∀ x,x<32→w.frozen? ⟨B,x,none⟩=false
theorem Z2d.kept {w w':World}{B:Nat}{l:List Nat}(h:Z2d w B l)(hb:w'.heap[B]? = w.heap[B]?):Z2d w' B l :=
 ⟨fun x hx=>(World.cell?_of_block (a:=⟨B,x,none⟩) hb).trans (h.1 x hx),fun x hx=>(World.frozen?_of_block (a:=⟨B,x,none⟩) hb).trans (h.2 x hx)⟩
theorem getD_set (l:List Nat)(r v x:Nat)(hl:r<l.length):(l.set r v).getD x 0=if x=r then v else l.getD x 0:=by
 rw [List.getD_eq_getElem?_getD,List.getElem?_set]
 by_cases hh:r=x
 ·subst hh;simp [hl]
 ·rw [if_neg hh,if_neg (fun e=>hh e.symm),List.getD_eq_getElem?_getD]
theorem Z2d.set {w:World}{B:Nat}{l:List Nat}(h:Z2d w B l)(hl:l.length=32)(r v:Nat)(hr:r<32):Z2d (w.setCell ⟨B,r,none⟩ (.int .u8 (v:Nat))) B (l.set r v):=by
 refine⟨fun x hx=> ?_,fun x hx=>by rw [World.frozen?_setCell];exact h.2 x hx⟩
 rw [getD_set l r v x (by omega)]
 by_cases e:x=r
 ·subst e
  rw [if_pos rfl]
  exact World.cell?_setCell_same w _ _ (h.1 x hx)
 ·have a:(⟨B,r,none⟩:Addr)≠⟨B,x,none⟩:=fun q=>by injection q with _ q2 _;exact e q2.symm
  rw [if_neg e,World.cell?_setCell_other w _ _ _ a]
  exact h.1 x hx
def xorP (a u:List Nat)(r:Nat):List Nat:=xorB (a.take r) (u.take r)++a.drop r
theorem xorP_length (a u:List Nat)(r:Nat)(ha:a.length=32)(hu:u.length=32)(hr:r≤32):(xorP a u r).length=32:=by
 simp [xorP,xorB];omega
theorem xorP_at (a u:List Nat)(r:Nat)(ha:a.length=32)(hu:u.length=32)(hr:r<32):(xorP a u r).getD r 0=a.getD r 0:=by
 have b:(xorB (a.take r) (u.take r)).length=r:=by simp [xorB];omega
 rw [xorP,Z2l _ _ _ _ (by omega),b,Nat.sub_self,List.getD_eq_getElem?_getD,List.getElem?_drop,Nat.add_zero,← List.getD_eq_getElem?_getD]
theorem xorP_step (a u:List Nat)(r:Nat)(ha:a.length=32)(hu:u.length=32)(hr:r<32):(xorP a u r).set r (a.getD r 0 ^^^ u.getD r 0)=xorP a u (r+1):=by
 have b:(xorB (a.take r) (u.take r)).length=r:=by simp [xorB];omega
 have e:a.drop r=a.getD r 0 :: a.drop (r+1):=by rw [List.drop_eq_getElem_cons (by omega),Z0b _ _ (by omega)]
 have c:xorB (a.take (r+1)) (u.take (r+1))=xorB (a.take r) (u.take r) ++ [a.getD r 0 ^^^ u.getD r 0]:=by
  rw [List.take_succ_eq_append_getElem (by omega),List.take_succ_eq_append_getElem (by omega),xorB,xorB,List.zipWith_append (by simp;omega),Z0b _ _ (by omega),Z0b _ _ (by omega)]
  rfl
 rw [xorP,xorP,List.set_append_right _ _ (by omega),b,Nat.sub_self,e,c]
 simp
set_option maxRecDepth 10000 in
theorem rStretch_in (pass salt:ByteArray)(rounds n:Nat)(hr1:1≤rounds)(hr2:rounds≤1000)(hn:n≤1024)(hk:pass.size<1099511627776)(hi:salt.size≤1048576)(w:World) :
  Calls prog 26 #[.string pass,.string salt,.int .i64 rounds,.int .i64 n] w fun e w'=>e= .returned (.tuple #[.string (strS pass salt rounds n),.int .i64 0])∧Below w.heap.size w w':=by
 have h1:¬ (n:Int)<0:=by omega
 have h2:¬ (1024:Int)<n:=by omega
 have h3:¬ (rounds:Int)<1:=by omega
 have h4:¬ (1000:Int)<rounds:=by omega
 obtain⟨m,hm⟩:∃ m,m=(n+31)/32:=⟨_,rfl⟩
 have b6:m≤32:=by omega
 have b5:n≤32*m:=by omega
 have b4:32*m≤n+31:=by omega
 obtain⟨D,hD⟩:∃ D:Nat→List Nat,D=fun i=>strB (keyP (Z00 pass)) (Z00 salt) rounds (i+1):=⟨_,rfl⟩
 have f:∀ i,(D i).length=32:=fun i=>by rw [hD];exact Z52 _ _ _ _
 have l:∀ i,Z03 (D i):=fun i=>by rw [hD];exact strB_bytes _ _ _ _
 obtain⟨O,z⟩:∃ O:Nat→ByteArray,O=fun j=>strOfNums ((catD D j).map fun (x:Nat)=>(x:Int)):=⟨_,rfl⟩
 have af:∀ j,(O j).size=32*j:=fun j=>by
  rw [z,← Z01]
  show (Z00 (strOfNums _)).length=_
  have hb:Z03 (catD D j):=by
   induction j with
   | zero=>intro x I;simp [catD] at I
   | succ j ih=>rw [catD];exact ih.append (l j)
  rw [Z08 _ hb,Z34 _ f]
 have a9:∀ j,O j++strOfNums ((D j).map fun (x:Nat)=>(x:Int))=O (j+1):=fun j=>by rw [z];exact Z6u _ _
 have HX:Hid ((O m).extract 0 n=strS pass salt rounds n∧O 0=ByteArray.empty):=⟨by
  rw [z,hD,hm];exact strOf_take _ n,by rw [z];rfl⟩
 have HU:Hid ((∀ j,O j++strOfNums ((D j).map fun (x:Nat)=>(x:Int))=O (j+1))∧(∀ j,(O j).size=32*j)∧(∀ j,D j=aL (keyP (Z00 pass)) (macL (keyP (Z00 pass)) (Z00 salt++be4 (j+1))) (rounds-1))):=⟨a9,af,fun j=>by rw [hD];rfl⟩
 clear hD z a9 af hm f l
 go_enter func26,ntmps26
 go_wp2_with fail
 go_loopw [10,11] (fun out i wr=> ∃ j:Nat,j≤m∧i= .int .i64 ((j:Int)+1)∧out= .string (O j)∧Below w.heap.size w wr) (fun _ i _=>m+1-(intOf i).toNat)
 case atStart=>exact⟨0,Nat.zero_le _,rfl,by rw [HX.out.2];rfl,Below.refl _ _⟩
 case round =>
  obtain⟨j,hj,rfl,rfl,hb⟩:=hrel
  have H:=HU.out.2.1 j
  by_cases b8:j<m
  ·obtain⟨v,d⟩:∃ v,v=O j:=⟨_,rfl⟩
   rw [← d] at H
   rw [← d]
   have aq:((v.size:Nat):Int)<n:=by omega
   have HJ:Hid (v=O j∧v.size=32*j):=⟨d,H⟩
   clear d H
   have d0:((j:Int)+1)/256=0:=by omega
   have d1:bits .and .i64 ((j:Int)+1) 255=(j:Int)+1:=by
    rw [show ((j:Int)+1)=((j+1:Nat):Int) by omega,show (255:Int)=((255:Nat):Int) from rfl,Z0q _ _ (by omega) (by decide),mask8];omega
   have d2:((j:Int)+1)%256=(j:Int)+1:=by omega
   have a5:=run_convert_bytes_arg (P:=prog) (wr.alloc (.cells #[.int .u8 0,.int .u8 0,.int .u8 0,.int .u8 ((j:Int)+1)] 5)) 90 5 underlying90 underlying5 wr.heap.size 0 4 4 [0,0,0,(j:Int)+1] rfl (fun i hi=>by
    rw [cell_of_row _ _ _ _ _ _ (heap_alloc_new wr _),Nat.zero_add]
    match i,hi with
    | 0,_=>rfl
    | 1,_=>rfl
    | 2,_=>rfl
    | 3,_=>rfl) 9 underlying9
   obtain⟨nb,a7⟩:∃ nb,nb=strOfNums [0,0,0,(j:Int)+1]:=⟨_,rfl⟩
   rw [← a7] at a5
   have ah:be4 (j+1)= [0,0,0,j+1]:=by
    have h1:(j+1)/16777216%256=0:=by omega
    have h2:(j+1)/65536%256=0:=by omega
    have h3:(j+1)/256%256=0:=by omega
    have h4:(j+1)%256=j+1:=by omega
    rw [be4,h1,h2,h3,h4]
   have a0:Z00 nb=be4 (j+1):=by
    rw [a7,ah]
    exact Z08 [0,0,0,j+1] (fun x I=>by simp only [List.mem_cons,List.not_mem_nil,or_false] at I;omega)
   have ax:nb.size=4:=by rw [← Z01,a0];rfl
   obtain⟨q1,N⟩:∃ q1,q1=salt++nb:=⟨_,rfl⟩
   have a2:∀ w',(Op.stringOp .add salt nb).run prog w'= .ok (.string q1) w':=fun w'=>by rw [N];exact run_string_add_sum (P:=prog) (w:=w') salt nb (by omega)
   have ay:q1.size≤1048580:=by rw [N,ByteArray.size_append];omega
   obtain⟨K,hK⟩:∃ K,K=keyP (Z00 pass):=⟨_,rfl⟩
   obtain⟨D0,G⟩:∃ D0,D0=macL K (Z00 salt++be4 (j+1)):=⟨_,rfl⟩
   have f:D0.length=32:=by rw [G];exact Z1w _ _
   have l:Z03 D0:=by rw [G];exact Z1O _ _
   have b:Hid (macS pass q1=strOfNums (D0.map fun (x:Nat)=>(x:Int))∧(∀ t:ByteArray,macS pass t=strOfNums ((macL K (Z00 t)).map fun (x:Nat)=>(x:Int)))∧D j=aL K D0 (rounds-1)):=⟨by
    rw [macS,G,hK,N,Z1v,a0],fun t=>by rw [macS,hK],by rw [HU.out.2.2 j,G,hK]⟩
   have hh:=hb.alloc hb.size (.cells #[.int .u8 0,.int .u8 0,.int .u8 0,.int .u8 ((j:Int)+1)] 5)
   clear a7 a0 ah N hb hK G
   go_wp2_with fail
   first
    | (rw [a5];go_wp2_with fail)
    | skip
   refine (rMac_any pass q1 hk (by omega) _).mono ?_
   rintro e a ⟨rfl,ab⟩
   rw [b.out.1]
   have s:=hh.trans (ab.mono hh.size)
   clear hh ab a5 a2
   obtain⟨L,S⟩:∃ L,L=strOfNums (D0.map fun (x:Nat)=>(x:Int)):=⟨_,rfl⟩
   have Q:Z00 L=D0:=by rw [S];exact Z08 _ l
   have C:L.size=32:=by rw [← Z01,Q,f]
   rw [← S]
   have A:=fun w'=>Lib.run_convert_string_bytes (P:=prog) w' 9 90 5 L underlying9 underlying90 underlying5
   rw [C] at A
   have z:=Z2v a 5 L (by rw [C];unfold maxLen;decide)
   rw [numsV,Q] at z
   have ai:=grownCap_ge a L.size 0 5
   rw [C] at ai z
   have a8:=Z20 a 5 L
   have a6:Z2d (Lib.bytesWorld a 5 L) a.heap.size D0:=⟨fun x I=>z.cells x _ (Z0s D0 x (by omega)),fun x I=>z.free x (by omega)⟩
   have R:=z.lt
   obtain⟨cp,ae⟩:∃ cp,cp=grownCap a 32 0 5:=⟨_,rfl⟩
   have M:=A a
   rw [← ae] at M ai
   obtain⟨w3,ac⟩:∃ w3,Lib.bytesWorld a 5 L=w3:=⟨_,rfl⟩
   rw [ac] at M a8 a6 R
   have aa:=s.trans (a8.mono s.size)
   have au:w.heap.size≤a.heap.size:=s.size
   have H3:Hid (Z2d w3 a.heap.size D0∧Below w.heap.size w w3∧L=strOfNums (D0.map fun (x:Nat)=>(x:Int))∧a.heap.size<w3.heap.size):=⟨a6,aa,S,R⟩
   clear A z a8 a6 R ae ac s aa S Q
   go_wp2_with fail
   first
    | (rw [M];go_wp2_with fail)
    | skip
   go_loopw [12,14] (fun u c wz=> ∃ q:Nat,1≤q∧q≤rounds∧c= .int .i64 q∧u= .string (strOfNums ((uL K D0 (q-1)).map fun (x:Nat)=>(x:Int)))∧Z2d wz a.heap.size (aL K D0 (q-1))∧Below w.heap.size w wz∧a.heap.size<wz.heap.size) (fun _ c _=>rounds-(intOf c).toNat)
   case atStart=>exact⟨1,Nat.le_refl _,hr1,rfl,by rw [H3.out.2.2.1];rfl,H3.out.1,H3.out.2.1,H3.out.2.2.2⟩
   case round =>
    clear H3
    obtain⟨q,N,b3,rfl,rfl,hT,U,J⟩:=hrel
    by_cases b9:q<rounds
    ·have ag:(q:Int)<rounds:=by omega
     have ak:=uL_length K f (q-1)
     have ap:=uL_bytes K l (q-1)
     have a1:=Z35 K f (q-1)
     have ao:=Z6X K l (q-1)
     have HN:Hid (uL K D0 (q+1-1)=macL K (uL K D0 (q-1))∧aL K D0 (q+1-1)=xorB (aL K D0 (q-1)) (macL K (uL K D0 (q-1)))):=by
      obtain⟨q',rfl⟩:∃ q',q=q'+1:=⟨q-1,by omega⟩
      exact⟨rfl,rfl⟩
     generalize uL K D0 (q-1)=uj at *
     generalize aL K D0 (q-1)=aj at *
     obtain⟨su,a4⟩:∃ su,su=strOfNums (uj.map fun (x:Nat)=>(x:Int)):=⟨_,rfl⟩
     have g:Z00 su=uj:=by rw [a4];exact Z08 _ ap
     have b2:su.size=32:=by rw [← Z01,g,ak]
     rw [← a4]
     have Z:Hid (Z2d wr a.heap.size aj∧Below w.heap.size w wr∧a.heap.size<wr.heap.size∧Z00 su=uj):=⟨hT,U,J,g⟩
     clear hT U J a4 g
     go_wp2_with fail
     refine (rMac_any pass su hk (by omega) wr).mono ?_
     rintro e w5 ⟨rfl,V⟩
     rw [b.out.2.1 su,Z.out.2.2.2]
     obtain⟨o,E⟩:∃ o,o=macL K uj:=⟨_,rfl⟩
     have p:o.length=32:=by rw [E];exact Z1w _ _
     have Y:Z03 o:=by rw [E];exact Z1O _ _
     rw [← E]
     rw [← E] at HN
     clear E
     obtain⟨F,g⟩:∃ F,F=strOfNums (o.map fun (x:Nat)=>(x:Int)):=⟨_,rfl⟩
     have B:Z00 F=o:=by rw [g];exact Z08 _ Y
     have av:F.size=32:=by rw [← Z01,B,p]
     rw [← g]
     have H6:Hid (Z2d w5 a.heap.size aj∧Below w.heap.size w w5∧a.heap.size<w5.heap.size∧Z00 F=o∧F=strOfNums (o.map fun (x:Nat)=>(x:Int))):=⟨Z.out.1.kept (V.block _ Z.out.2.2.1),Z.out.2.1.trans (V.mono Z.out.2.1.size),Nat.lt_of_lt_of_le Z.out.2.2.1 V.size,B,g⟩
     clear g B V Z
     go_wp2_with fail
     go_loopw [15] (fun c wz=> ∃ r:Nat,r≤32∧c= .int .i64 r∧Z2d wz a.heap.size (xorP aj o r)∧Only a.heap.size w5 wz) (fun c _=>32-(intOf c).toNat)
     case atStart=>exact⟨0,Nat.zero_le _,rfl,H6.out.1,Only.refl _ _⟩
     case round =>
      obtain⟨r,hr,rfl,hz,ho⟩:=hrel
      by_cases k:r<32
      ·obtain⟨x,I⟩:∃ x,x=aj.getD r 0:=⟨_,rfl⟩
       obtain⟨y,hy⟩:∃ y,y=o.getD r 0:=⟨_,rfl⟩
       have lx:x<256:=by rw [I];exact Z0k (by decide) ao r
       have ly:y<256:=by rw [hy];exact Z0k (by decide) Y r
       have cx:wr.cell? ⟨a.heap.size,r,none⟩=some (.int .u8 (x:Nat)):=by
        have h1:=hz.1 r k
        rw [xorP_at aj o r a1 p k,← I] at h1
        exact h1
       have fx:wr.frozen? ⟨a.heap.size,r,none⟩=false:=hz.2 r k
       have al:r<F.size:=by omega
       have b7:F[r].toNat=y:=by
        rw [hy,← H6.out.2.2.2.1]
        have h2:r<(Z00 F).length:=by rw [Z01];exact al
        rw [Z0b _ _ h2]
        simp [Z00]
        rfl
       have bx:bits .xor .u8 (x:Int) (y:Int)=((x ^^^ y:Nat):Int):=u8_xor_nat x y lx ly
       obtain⟨b1,hh⟩:∃ b1,b1=x ^^^ y:=⟨_,rfl⟩
       rw [← hh] at bx
       have T:=hz.set (xorP_length aj o r a1 p hr) r b1 k
       rw [hh,I,hy,xorP_step aj o r a1 p k] at T
       rw [← I,← hy,← hh] at T
       have HZ:Hid (Z2d (wr.setCell ⟨a.heap.size,r,none⟩ (.int .u8 (b1:Nat))) a.heap.size (xorP aj o (r+1))∧Only a.heap.size w5 (wr.setCell ⟨a.heap.size,r,none⟩ (.int .u8 (b1:Nat)))):=⟨T,ho.setCell _ _⟩
       have az:(r:Int)<32:=by omega
       have b0:(r:Int)<F.size:=by omega
       clear hz ho T hh I hy
       go_wp2_with fail
       go_region_with (fail)
       all_goals
        go_wp2
        go_roundw
        case rel=>exact⟨r+1,by omega,by go_num,HZ.out.1,HZ.out.2.drew⟩
        case measure=>simp [intOf];omega
      ·obtain rfl:r=32:=by omega
       have HF:Hid (Z2d wr a.heap.size (aL K D0 (q+1-1))∧Below w.heap.size w wr∧a.heap.size<wr.heap.size∧F=strOfNums ((uL K D0 (q+1-1)).map fun (x:Nat)=>(x:Int))):=by
        refine⟨?_,H6.out.2.1.trans ((ho.below (Nat.le_of_lt H6.out.2.2.1)).mono au),Nat.lt_of_lt_of_le H6.out.2.2.1 ho.size,by rw [HN.out.1];exact H6.out.2.2.2.2⟩
        rw [HN.out.2]
        have h2:=hz
        rw [xorP,List.take_of_length_le (by omega),List.take_of_length_le (by omega),List.drop_eq_nil_of_le (by omega),List.append_nil] at h2
        exact h2
       clear hz ho
       go_wp2
       go_roundw
       case rel=>exact⟨q+1,by omega,by omega,by go_num,by rw [HF.out.2.2.2],HF.out.1,HF.out.2.1,HF.out.2.2.1⟩
       case measure=>simp [intOf];omega
    ·obtain rfl:q=rounds:=by omega
     have ag:¬ (q:Int)<q:=by omega
     have X:=run_convert_bytes_arg (P:=prog) wr 90 5 underlying90 underlying5 a.heap.size 0 32 cp ((D j).map fun (x:Nat)=>(x:Int)) (by rw [b.out.2.2,List.length_map];exact Z35 K f _) (fun i hi=>by
      rw [Nat.zero_add,hT.1 i hi,← b.out.2.2]
      have h1:i<(D j).length:=by rw [b.out.2.2,Z35 K f];exact hi
      rw [List.getD_eq_getElem?_getD,List.getD_eq_getElem?_getD,List.getElem?_map,List.getElem?_eq_getElem h1];rfl) 9 underlying9
     obtain⟨sd,W⟩:∃ sd,sd=strOfNums ((D j).map fun (x:Nat)=>(x:Int)):=⟨_,rfl⟩
     rw [← W] at X
     have aw:sd.size=32:=by
      rw [W,← Z01,Z08 _ (by rw [b.out.2.2];exact Z6X K l _),b.out.2.2,Z35 K f]
     obtain⟨On,a3⟩:∃ On,On=O (j+1):=⟨_,rfl⟩
     have ar:∀ w',(Op.stringOp .add v sd).run prog w'= .ok (.string On) w':=fun w'=>by
      rw [a3,← HU.out.1 j,← W,← HJ.out.1]
      exact run_string_add_sum (P:=prog) (w:=w') v sd (by omega)
     have HF:Hid (On=O (j+1)∧Below w.heap.size w wr):=⟨a3,U⟩
     clear hT U J W a3
     go_wp2_with fail
     first
      | (rw [X];go_wp2_with fail)
      | skip
     go_roundw
     case rel=>exact⟨j+1,by omega,by go_num,by rw [HF.out.1],HF.out.2⟩
     case measure=>simp [intOf];omega
  ·obtain rfl:j=m:=by omega
   obtain⟨v,d⟩:∃ v,v=O j:=⟨_,rfl⟩
   rw [← d] at H
   rw [← d]
   have aq:¬ ((v.size:Nat):Int)<n:=by omega
   have ba:(n:Int)≤v.size:=by omega
   have ad:Hid (v.extract 0 n=strS pass salt rounds n):=by show _=_;rw [d];exact HX.out.1
   clear d H
   go_wp2
   go_ret2
   exact⟨by first | (rw [ad.out];rfl) | (rw [← ad.out];rfl),hb⟩
def firstZ:List Int:= [1779033703,3144134277,1013904242,2773480762,1359893119,2600822924,528734635,1541459225]
def cubesZ:List Int:= [1116352408,1899447441,3049323471,3921009573,961987163,1508970993,2453635748,2870763221,3624381080,310598401,607225278,1426881987,1925078388,2162078206,2614888103,3248222580,3835390401,4022224774,264347078,604807628,770255983,1249150122,1555081692,1996064986,2554220882,2821834349,2952996808,3210313671,3336571891,3584528711,113926993,338241895,666307205,773529912,1294757372,1396182291,1695183700,1986661051,2177026350,2456956037,2730485921,2820302411,3259730800,3345764771,3516065817,3600352804,4094571909,275423344,430227734,506948616,659060556,883997877,958139571,1322822218,1537002063,1747873779,1955562222,2024104815,2227730452,2361852424,2428436474,2756734187,3204031479,3329325298]
theorem firstZ_at (i:Nat)(h:i<8):firstZ.getD i 0=((st0.at i:Nat):Int):=by
 have a:∀ j:Fin 8,firstZ.getD j.val 0=((st0.at j.val:Nat):Int):=by decide
 exact a ⟨i,h⟩
theorem cubesZ_at (i:Nat)(h:i<64):cubesZ.getD i 0=((keyN i:Nat):Int):=by
 have a:∀ j:Fin 64,cubesZ.getD j.val 0=((keyN j.val:Nat):Int):=by decide +kernel
 exact a ⟨i,h⟩
theorem Z5U {w:World}{g i:Nat}{v:Value}(h:w.cell? ⟨g,i,none⟩=some v):g<w.heap.size:=by
 rcases Nat.lt_or_ge g w.heap.size with h' | h'
 ·exact h'
 ·simp [World.cell?,Array.getElem?_eq_none h'] at h
end Sm
end Go.Proofs.YtijpgmkdnemmbaaGreatDoor
