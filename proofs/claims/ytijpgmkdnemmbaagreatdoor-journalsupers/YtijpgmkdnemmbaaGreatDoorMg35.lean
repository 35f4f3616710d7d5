/- Part 35. -/
import Derived.Test.YtijpgmkdnemmbaaGreatDoorMg34
set_option maxRecDepth 20000
set_option maxHeartbeats 8000000
open Go.RowKit Go.Proofs.Tryz
namespace Go.Proofs.YtijpgmkdnemmbaaGreatDoor
namespace Sm
theorem store_mid (w:World)(g t n:Nat)(A M C vs:List Value)(hr:Row w g t (A++M++C))(hn:n=A.length)(hl:vs.length=M.length)(h1:∀ v∈vs,v.oneCell'=true) :
  ((storeCells ⟨g,n,none⟩ vs).run prog w= .ok () (w.setCells g n vs))∧Row (w.setCells g n vs) g t (A++vs++C)∧Only g w (w.setCells g n vs):=by
 refine⟨run_storeCells_cells (P:=prog) g n vs 0 w (fun j hj=> ?_) (fun j _=>hr.frozen _) h1,Row.setCells vs M A w n hl hn hr,Only.setCells _ _ _ (Only.refl _ _)⟩
 rw [hr.cell,List.getElem?_eq_getElem (by simp;omega)];rfl
set_option maxRecDepth 10000 in
theorem finish_large (st:St)(hok:st.ok)(d:List Nat)(hb:Z03 d)(h_ n:Nat)(hl:d.length=h_)(hh1:56≤h_)(hh:h_<63)(r0:Value)(R:List Value)(hR:R.length=63-h_)(hs:n<1099511627776)(w:World)(hq:Z0H w) :
  Calls prog 130 #[.agg (mixV st (byV d++r0 :: R) h_ n).toArray] w fun e w'=>e= .returned (.agg (byV (outL (comp (comp st (d++128 :: List.replicate (63-h_) 0)) (List.replicate 56 0++be8 (8*n))))).toArray)∧Below w.heap.size w w':=by
 have y:(byV d).length=h_:=by simp [byV,hl]
 obtain⟨T,W⟩:∃ T,T=mixV st (byV d++r0 :: R) h_ n:=⟨_,rfl⟩
 have u:Row ((w.alloc (.cells T.toArray 150)).alloc (.cells #[.int .u8 0,.int .u8 0,.int .u8 0,.int .u8 0,.int .u8 0,.int .u8 0,.int .u8 0,.int .u8 0,.int .u8 0,.int .u8 0,.int .u8 0,.int .u8 0,.int .u8 0,.int .u8 0,.int .u8 0,.int .u8 0,.int .u8 0,.int .u8 0,.int .u8 0,.int .u8 0,.int .u8 0,.int .u8 0,.int .u8 0,.int .u8 0,.int .u8 0,.int .u8 0,.int .u8 0,.int .u8 0,.int .u8 0,.int .u8 0,.int .u8 0,.int .u8 0] 156)) w.heap.size 150 (mixA st++byV d ++ [r0]++(R++mixT h_ n)):=by
  have:=heap_alloc2_old w (.cells T.toArray 150) (.cells #[.int .u8 0,.int .u8 0,.int .u8 0,.int .u8 0,.int .u8 0,.int .u8 0,.int .u8 0,.int .u8 0,.int .u8 0,.int .u8 0,.int .u8 0,.int .u8 0,.int .u8 0,.int .u8 0,.int .u8 0,.int .u8 0,.int .u8 0,.int .u8 0,.int .u8 0,.int .u8 0,.int .u8 0,.int .u8 0,.int .u8 0,.int .u8 0,.int .u8 0,.int .u8 0,.int .u8 0,.int .u8 0,.int .u8 0,.int .u8 0,.int .u8 0,.int .u8 0] 156)
  rw [Row,this,W]
  simp [mixV]
 have K:Row ((w.alloc (.cells T.toArray 150)).alloc (.cells #[.int .u8 0,.int .u8 0,.int .u8 0,.int .u8 0,.int .u8 0,.int .u8 0,.int .u8 0,.int .u8 0,.int .u8 0,.int .u8 0,.int .u8 0,.int .u8 0,.int .u8 0,.int .u8 0,.int .u8 0,.int .u8 0,.int .u8 0,.int .u8 0,.int .u8 0,.int .u8 0,.int .u8 0,.int .u8 0,.int .u8 0,.int .u8 0,.int .u8 0,.int .u8 0,.int .u8 0,.int .u8 0,.int .u8 0,.int .u8 0,.int .u8 0,.int .u8 0] 156)) (w.heap.size+1) 156 (digV []):=heap_alloc2_new w _ _
 have U:Below w.heap.size w ((w.alloc (.cells T.toArray 150)).alloc (.cells #[.int .u8 0,.int .u8 0,.int .u8 0,.int .u8 0,.int .u8 0,.int .u8 0,.int .u8 0,.int .u8 0,.int .u8 0,.int .u8 0,.int .u8 0,.int .u8 0,.int .u8 0,.int .u8 0,.int .u8 0,.int .u8 0,.int .u8 0,.int .u8 0,.int .u8 0,.int .u8 0,.int .u8 0,.int .u8 0,.int .u8 0,.int .u8 0,.int .u8 0,.int .u8 0,.int .u8 0,.int .u8 0,.int .u8 0,.int .u8 0,.int .u8 0,.int .u8 0] 156)):=((Below.refl _ _).alloc (Nat.le_refl _) _).alloc (by simp) _
 obtain⟨w0,av⟩:∃ w0,(w.alloc (.cells T.toArray 150)).alloc (.cells #[.int .u8 0,.int .u8 0,.int .u8 0,.int .u8 0,.int .u8 0,.int .u8 0,.int .u8 0,.int .u8 0,.int .u8 0,.int .u8 0,.int .u8 0,.int .u8 0,.int .u8 0,.int .u8 0,.int .u8 0,.int .u8 0,.int .u8 0,.int .u8 0,.int .u8 0,.int .u8 0,.int .u8 0,.int .u8 0,.int .u8 0,.int .u8 0,.int .u8 0,.int .u8 0,.int .u8 0,.int .u8 0,.int .u8 0,.int .u8 0,.int .u8 0,.int .u8 0] 156)=w0:=⟨_,rfl⟩
 rw [av] at u K U
 have c1:w0.cell? ⟨w.heap.size,73,none⟩=some (.int .i64 (h_:Nat)):=by
  rw [u.cell]
  have:(mixA st++byV d ++ [r0]++R).length=73:=by simp [mixA,y];omega
  rw [← List.append_assoc,List.getElem?_append_right (by omega),this]
  rfl
 have c2:w0.cell? ⟨w.heap.size,9+h_,none⟩=some r0:=by
  rw [u.cell]
  have:(mixA st++byV d).length=9+h_:=by simp [mixA,y];omega
  rw [List.append_assoc _ [r0],List.getElem?_append_right (by omega),this,Nat.sub_self]
  rfl
 have c3:∀ i,w0.frozen? ⟨w.heap.size,i,none⟩=false:=fun i=>u.frozen i
 have s:Row (w0.setCell ⟨w.heap.size,9+h_,none⟩ (.int .u8 128)) w.heap.size 150 (mixA st++byV d ++ [.int .u8 128]++(R++mixT h_ n)):=u.set _ (by simp [mixA,y];omega)
 have Z:Row (w0.setCell ⟨w.heap.size,9+h_,none⟩ (.int .u8 128)) (w.heap.size+1) 156 (digV []):=(Below.heap_setCell _ _ _ _ (by simp)).trans K
 have S:=U.setCell (p:=⟨w.heap.size,9+h_,none⟩) (Nat.le_refl _) (.int .u8 128)
 obtain⟨w1,ar⟩:∃ w1,w0.setCell ⟨w.heap.size,9+h_,none⟩ (.int .u8 128)=w1:=⟨_,rfl⟩
 rw [ar] at s Z S
 have c4:w1.cell? ⟨w.heap.size,73,none⟩=some (.int .i64 (h_:Nat)):=by
  rw [s.cell]
  have:(mixA st++byV d ++ [Value.int .u8 128]++R).length=73:=by simp [mixA,y];omega
  rw [← List.append_assoc,List.getElem?_append_right (by omega),this]
  rfl
 clear u K U
 have i1:(h_:Int)<64:=by omega
 have i2:IntKind.i64.wrap ((h_:Int)+1)=h_+1:=by rw [IntKind.wrap_i64];omega
 have i3:(0:Int)≤(h_:Int)+1:=by omega
 have i4:(h_:Int)+1≤64:=by omega
 have i5:((h_:Int)+1).toNat=h_+1:=by omega
 have i6:¬ 64=h_+1:=by omega
 have ae:=Lib.run_clear_slice (P:=prog) w1 90 5 0 (.int .u8 0) underlying90 zero_u8 rfl rfl w.heap.size (9+(h_+1)) (63-h_) (63-h_) (by omega) (fun j hj=>by
  rw [s.cell,List.getElem?_eq_getElem (by simp [mixA,mixT,y];omega)];rfl) (fun j _=>s.frozen _)
 have a0:Row (w1.setCells w.heap.size (9+(h_+1)) (List.replicate (63-h_) (.int .u8 0))) w.heap.size 150 ((mixA st++byV d ++ [.int .u8 128])++List.replicate (63-h_) (.int .u8 0)++mixT h_ n):=Row.setCells _ R _ _ _ (by simp [hR]) (by simp [mixA,y];omega) (by simpa using s)
 have F:Only w.heap.size w1 (w1.setCells w.heap.size (9+(h_+1)) (List.replicate (63-h_) (.int .u8 0))):=Only.setCells _ _ _ (Only.refl _ _)
 obtain⟨w2,ab⟩:∃ w2,w1.setCells w.heap.size (9+(h_+1)) (List.replicate (63-h_) (.int .u8 0))=w2:=⟨_,rfl⟩
 rw [ab] at ae a0 F
 have ac:=Z.only F (by omega)
 have aw:=s.lt
 have O:=S.trans ((F.below (by omega)))
 clear ab s Z S F
 obtain⟨b,m⟩:∃ b,b=d++128 :: List.replicate (63-h_) 0:=⟨_,rfl⟩
 have aq:Z03 b:=by rw [m];exact hb.append (Z03.cons (by decide) (Z03.zeros _))
 have r:b.length=64:=by rw [m];simp [hl];omega
 have k:Row w2 w.heap.size 150 (mixA st++byV b++mixT h_ n):=by
  have e:byV b=byV d ++ [Value.int .u8 128]++List.replicate (63-h_) (Value.int .u8 0):=by
   rw [m,Z05,← Z1l];simp [byV]
  rw [e]
  simpa using a0
 have A:(mixA st++byV b).length=73:=by simp [mixA,byV,r]
 have c5:w2.cell? ⟨w.heap.size,73,none⟩=some (.int .i64 (h_:Nat)):=by
  rw [k.cell,List.getElem?_append_right (by rw [A];decide),A]
  rfl
 have e1:w2.cell? ⟨w.heap.size,1,none⟩=some (.int .u32 (st.a:Nat)):=k.cell 1
 have e2:w2.cell? ⟨w.heap.size,2,none⟩=some (.int .u32 (st.b:Nat)):=k.cell 2
 have e3:w2.cell? ⟨w.heap.size,3,none⟩=some (.int .u32 (st.c:Nat)):=k.cell 3
 have e4:w2.cell? ⟨w.heap.size,4,none⟩=some (.int .u32 (st.d:Nat)):=k.cell 4
 have e5:w2.cell? ⟨w.heap.size,5,none⟩=some (.int .u32 (st.e:Nat)):=k.cell 5
 have e6:w2.cell? ⟨w.heap.size,6,none⟩=some (.int .u32 (st.f:Nat)):=k.cell 6
 have e7:w2.cell? ⟨w.heap.size,7,none⟩=some (.int .u32 (st.g:Nat)):=k.cell 7
 have e8:w2.cell? ⟨w.heap.size,8,none⟩=some (.int .u32 (st.h:Nat)):=k.cell 8
 have HC:Hid (∀ i,i<64→w2.cell? ⟨w.heap.size,9+i,none⟩=some (.int .u8 (b.getD i 0:Nat))):=fun i hi=>by
  rw [k.cell,List.append_assoc,List.getElem?_append_right (by simp [mixA]),show 9+i-(mixA st).length=i by simp [mixA],List.getElem?_append_left (by simp [byV,r];omega),Z0s b i (by omega)]
 have ib:decide ((56:Int)≤(h_:Int))=true:=decide_eq_true (by omega)
 have HR:Hid (Row w2 w.heap.size 150 (mixA st++(byV b++mixT h_ n))):=by
  show Row _ _ _ _
  simpa using k
 have HZ:Hid (Row w2 (w.heap.size+1) 156 (digV [])∧Below w.heap.size w w2∧Z0H w2∧b=d++128 :: List.replicate (63-h_) 0):=⟨ac,O,hq.below O hq.1,m⟩
 obtain⟨N,H⟩:∃ N:Array Value,N=(List.replicate 64 (Value.int .u8 0)).toArray:=⟨_,rfl⟩
 have ax:∀ w,(zeroValue 148).run prog w= .ok (.agg N) w:=by rw [H];exact (zero_of_info (n:=64) (by kernel_rfl)).1
 have ap:N.size=64:=by rw [H];rfl
 have a5:Hid (N=(List.replicate 64 (Value.int .u8 0)).toArray):=H
 rw [← W]
 clear W a0 k ac O m A H
 go_enter func130,ntmps130
 go_wp2_with fail
 refine (Z3S st hok b aq w.heap.size 9 w2 HZ.out.2.2.1 HR.out.lt HC.out).mono ?_
 rintro e w3 ⟨rfl,C⟩
 have HS:=Z51 w3 w.heap.size st (comp st b) _ (HR.out.below C HR.out.lt)
 obtain⟨w4,ag⟩:∃ w4,w3.setCells w.heap.size 1 (stC (comp st b)).toList=w4:=⟨_,rfl⟩
 rw [ag] at HS
 have al:=HS.1
 have H4:Hid _:=HS.2
 clear HS ag e1 e2 e3 e4 e5 e6 e7 e8 HC
 obtain⟨X,hX⟩:∃ X,X=comp st b:=⟨_,rfl⟩
 have HX:Hid (X=comp st b∧X.ok):=⟨hX,by rw [hX];exact Z61 _ _⟩
 rw [← hX] at al H4
 rw [← hX]
 clear hX
 have ao:(byV b).length=64:=by simp [byV,r]
 have HM:=store_mid w4 w.heap.size 150 9 (mixA X) (byV b) (mixT h_ n) N.toList (by have:=H4.out.1;rw [List.append_assoc];exact this) rfl (by rw [ao];simpa using ap) (by rw [a5.out];intro v hv;rw [List.eq_of_mem_replicate hv];rfl)
 obtain⟨w5,ad⟩:∃ w5,w4.setCells w.heap.size 9 N.toList=w5:=⟨_,rfl⟩
 rw [ad] at HM
 have ay:=HM.1
 have q:(mixA X++List.replicate 56 (Value.int .u8 0)).length=65:=by simp [mixA]
 have G:Hid (Row w5 w.heap.size 150 ((mixA X++List.replicate 56 (Value.int .u8 0))++List.replicate 8 (.int .u8 0)++mixT h_ n)):=by
  have h1:=HM.2.1
  rw [a5.out] at h1
  have e:List.replicate 64 (Value.int .u8 0)=List.replicate 56 (Value.int .u8 0)++List.replicate 8 (Value.int .u8 0):=by rw [List.replicate_append_replicate]
  rw [show (List.replicate 64 (Value.int .u8 0)).toArray.toList=List.replicate 64 (Value.int .u8 0) from rfl,e] at h1
  show Row _ _ _ _
  simpa only [List.append_assoc] using h1
 have o:w.heap.size<w3.heap.size:=Nat.lt_of_lt_of_le HR.out.lt C.size
 have J:Below w.heap.size w w3:=HZ.out.2.1.trans (C.mono HZ.out.2.1.size)
 have t:Row w3 (w.heap.size+1) 156 (digV []):=HZ.out.1.below C HZ.out.1.lt
 have a1:Hid (Row w5 (w.heap.size+1) 156 (digV [])∧Below w.heap.size w w5):=by
  have a2:w.heap.size<w4.heap.size:=Nat.lt_of_lt_of_le o H4.out.2.size
  exact⟨(t.only H4.out.2 (by omega)).only HM.2.2 (by omega),(J.trans (H4.out.2.below (Nat.le_of_lt o))).trans (HM.2.2.below (Nat.le_of_lt a2))⟩
 clear HM ad H4 J t C o
 have c6:w5.cell? ⟨w.heap.size,74,none⟩=some (.int .i64 (n:Nat)):=by
  rw [G.out.cell,List.getElem?_append_right (by rw [List.length_append,q];simp),List.length_append,q]
  rfl
 have j1:IntKind.u64.wrap (n:Int)=n:=by rw [IntKind.wrap_u64];omega
 have j2:IntKind.u64.wrap (8*(n:Int))=8*n:=by rw [IntKind.wrap_u64];omega
 go_wp2_with fail
 go_region_held3 (fun w'=>w'.cell? ⟨w.heap.size,74,none⟩=some (.int .i64 (n:Nat))) (simp [go_sem, *]) (first | (go_at_call 105;refine (Z7H w.heap.size 150 65 _ _ _ q.symm 8 8 (8*n) (8*(n:Int)) (by omega) (by decide) List.length_replicate w5.drew G.out).mono ?_;rintro e w6 ⟨rfl,M,L⟩;have c7:=Z7I w6 _ _ _ _ h_ n q M))
 obtain⟨x,m⟩:∃ x,x=List.replicate 56 0++be8 (8*n):=⟨_,rfl⟩
 have l:Row w6 w.heap.size 150 (mixA X++byV x++mixT h_ n):=by
  have e:byV x=List.replicate 56 (Value.int .u8 0)++beV 8 (8*n):=by
   rw [m,Z05,beV8,Z1l]
  rw [e,← List.append_assoc]
  exact M
 have af:Z03 x:=by rw [m];exact (Z03.zeros _).append (Z5y _)
 have a9:x.length=64:=by rw [m];simp [Z2r]
 have ah:Hid (x=List.replicate 56 0++be8 (8*n)):=m
 have e1:w6.cell? ⟨w.heap.size,1,none⟩=some (.int .u32 (X.a:Nat)):=l.cell 1
 have e2:w6.cell? ⟨w.heap.size,2,none⟩=some (.int .u32 (X.b:Nat)):=l.cell 2
 have e3:w6.cell? ⟨w.heap.size,3,none⟩=some (.int .u32 (X.c:Nat)):=l.cell 3
 have e4:w6.cell? ⟨w.heap.size,4,none⟩=some (.int .u32 (X.d:Nat)):=l.cell 4
 have e5:w6.cell? ⟨w.heap.size,5,none⟩=some (.int .u32 (X.e:Nat)):=l.cell 5
 have e6:w6.cell? ⟨w.heap.size,6,none⟩=some (.int .u32 (X.f:Nat)):=l.cell 6
 have e7:w6.cell? ⟨w.heap.size,7,none⟩=some (.int .u32 (X.g:Nat)):=l.cell 7
 have e8:w6.cell? ⟨w.heap.size,8,none⟩=some (.int .u32 (X.h:Nat)):=l.cell 8
 have HC:Hid (∀ i,i<64→w6.cell? ⟨w.heap.size,9+i,none⟩=some (.int .u8 (x.getD i 0:Nat))):=fun i hi=>by
  rw [l.cell,List.append_assoc,List.getElem?_append_right (by simp [mixA]),show 9+i-(mixA X).length=i by simp [mixA],List.getElem?_append_left (by simp [byV,a9];omega),Z0s x i (by omega)]
 have t:Row w6 (w.heap.size+1) 156 (digV []):=Row.only (w:=w5.drew) a1.out.1 L (by omega)
 have I:Below w.heap.size w w6:=a1.out.2.drew.trans (L.below (Nat.le_of_lt G.out.lt))
 have aa:=hq.below I hq.1
 have o:=l.lt
 have a4:Hid (Z0H w6∧w.heap.size<w6.heap.size):=⟨aa,o⟩
 clear M L l m c7 aa o q G a1
 go_wp2_with fail
 refine (Z3S X HX.out.2 x af w.heap.size 9 w6 a4.out.1 a4.out.2 HC.out).mono ?_
 rintro e w7 ⟨rfl,V⟩
 have Y:=t.below V t.lt
 have B:=I.trans (V.mono I.size)
 clear t I V e1 e2 e3 e4 e5 e6 e7 e8 HC
 go_wp2_with fail
 refine (Z1T (comp X x) (Z61 _ _) w7).mono ?_
 rintro e w8 ⟨rfl,Q⟩
 have a7:w8.heap[w.heap.size+1]? = some (.cells (digV []).toArray 156 (0,0)):=Y.below Q Y.lt
 have a6:=B.trans (Q.mono B.size)
 clear Y B Q
 obtain⟨z,E⟩:∃ z,z=(byV (outL (comp X x))).toArray:=⟨_,rfl⟩
 have a3:z.size=32:=by rw [E];simp [byV,Z1u]
 have a8:z.all (·.oneCell')=true:=by rw [E];simp [byV,Value.oneCell']
 have au:Hid (z=(byV (outL (comp X x))).toArray):=E
 rw [← E]
 clear E
 have ai:(digV []).toArray.size=z.size:=by rw [a3];rfl
 have D:(prog.info? 156).map (·.size)=some z.size:=by rw [a3];kernel_rfl
 have ak:=Z0l a6 (show w.heap.size≤w.heap.size+1 by omega) z
 have aj:=run_loadVar_row (P:=prog) (w8.setRow (w.heap.size+1) z) (w.heap.size+1) 156 156 z (0,0) _ (setRow_heap _ _ _ _ _ _ a7) underlying156 rfl D
 go_wp2_with (refine wpList_store_row rfl 156 _ _ rfl (w.heap.size+1) z rfl rfl 156 _ a7 D ai a8 ?_)
 exact bodyPost_ret (v:= .agg z) (by simp [results,Tryz.results130,asAddr,Act.put,aj]) rfl ⟨by rw [← HZ.out.2.2.2,← HX.out.1,← ah.out,← au.out],ak⟩
set_option maxRecDepth 10000 in
theorem finish_full (st:St)(hok:st.ok)(d:List Nat)(hb:Z03 d)(n:Nat)(hl:d.length=63)(r0:Value)(hs:n<1099511627776)(w:World)(hq:Z0H w) :
  Calls prog 130 #[.agg (mixV st (byV d ++ [r0]) 63 n).toArray] w fun e w'=>e= .returned (.agg (byV (outL (comp (comp st (d ++ [128])) (List.replicate 56 0++be8 (8*n))))).toArray)∧Below w.heap.size w w':=by
 have G:(byV d).length=63:=by simp [byV,hl]
 obtain⟨S,V⟩:∃ S,S=mixV st (byV d ++ [r0]) 63 n:=⟨_,rfl⟩
 have s:Row ((w.alloc (.cells S.toArray 150)).alloc (.cells #[.int .u8 0,.int .u8 0,.int .u8 0,.int .u8 0,.int .u8 0,.int .u8 0,.int .u8 0,.int .u8 0,.int .u8 0,.int .u8 0,.int .u8 0,.int .u8 0,.int .u8 0,.int .u8 0,.int .u8 0,.int .u8 0,.int .u8 0,.int .u8 0,.int .u8 0,.int .u8 0,.int .u8 0,.int .u8 0,.int .u8 0,.int .u8 0,.int .u8 0,.int .u8 0,.int .u8 0,.int .u8 0,.int .u8 0,.int .u8 0,.int .u8 0,.int .u8 0] 156)) w.heap.size 150 (mixA st++byV d ++ [r0]++mixT 63 n):=by
  have:=heap_alloc2_old w (.cells S.toArray 150) (.cells #[.int .u8 0,.int .u8 0,.int .u8 0,.int .u8 0,.int .u8 0,.int .u8 0,.int .u8 0,.int .u8 0,.int .u8 0,.int .u8 0,.int .u8 0,.int .u8 0,.int .u8 0,.int .u8 0,.int .u8 0,.int .u8 0,.int .u8 0,.int .u8 0,.int .u8 0,.int .u8 0,.int .u8 0,.int .u8 0,.int .u8 0,.int .u8 0,.int .u8 0,.int .u8 0,.int .u8 0,.int .u8 0,.int .u8 0,.int .u8 0,.int .u8 0,.int .u8 0] 156)
  rw [Row,this,V]
  simp [mixV]
 have K:Row ((w.alloc (.cells S.toArray 150)).alloc (.cells #[.int .u8 0,.int .u8 0,.int .u8 0,.int .u8 0,.int .u8 0,.int .u8 0,.int .u8 0,.int .u8 0,.int .u8 0,.int .u8 0,.int .u8 0,.int .u8 0,.int .u8 0,.int .u8 0,.int .u8 0,.int .u8 0,.int .u8 0,.int .u8 0,.int .u8 0,.int .u8 0,.int .u8 0,.int .u8 0,.int .u8 0,.int .u8 0,.int .u8 0,.int .u8 0,.int .u8 0,.int .u8 0,.int .u8 0,.int .u8 0,.int .u8 0,.int .u8 0] 156)) (w.heap.size+1) 156 (digV []):=heap_alloc2_new w _ _
 have T:Below w.heap.size w ((w.alloc (.cells S.toArray 150)).alloc (.cells #[.int .u8 0,.int .u8 0,.int .u8 0,.int .u8 0,.int .u8 0,.int .u8 0,.int .u8 0,.int .u8 0,.int .u8 0,.int .u8 0,.int .u8 0,.int .u8 0,.int .u8 0,.int .u8 0,.int .u8 0,.int .u8 0,.int .u8 0,.int .u8 0,.int .u8 0,.int .u8 0,.int .u8 0,.int .u8 0,.int .u8 0,.int .u8 0,.int .u8 0,.int .u8 0,.int .u8 0,.int .u8 0,.int .u8 0,.int .u8 0,.int .u8 0,.int .u8 0] 156)):=((Below.refl _ _).alloc (Nat.le_refl _) _).alloc (by simp) _
 obtain⟨w0,ar⟩:∃ w0,(w.alloc (.cells S.toArray 150)).alloc (.cells #[.int .u8 0,.int .u8 0,.int .u8 0,.int .u8 0,.int .u8 0,.int .u8 0,.int .u8 0,.int .u8 0,.int .u8 0,.int .u8 0,.int .u8 0,.int .u8 0,.int .u8 0,.int .u8 0,.int .u8 0,.int .u8 0,.int .u8 0,.int .u8 0,.int .u8 0,.int .u8 0,.int .u8 0,.int .u8 0,.int .u8 0,.int .u8 0,.int .u8 0,.int .u8 0,.int .u8 0,.int .u8 0,.int .u8 0,.int .u8 0,.int .u8 0,.int .u8 0] 156)=w0:=⟨_,rfl⟩
 rw [ar] at s K T
 have c1:w0.cell? ⟨w.heap.size,73,none⟩=some (.int .i64 63):=by
  rw [s.cell]
  have:(mixA st++byV d ++ [r0]).length=73:=by simp [mixA,G]
  rw [List.getElem?_append_right (by omega),this]
  rfl
 have c2:w0.cell? ⟨w.heap.size,72,none⟩=some r0:=by
  rw [s.cell]
  have:(mixA st++byV d).length=72:=by simp [mixA,G]
  rw [List.append_assoc _ [r0],List.getElem?_append_right (by omega),this,Nat.sub_self]
  rfl
 have c3:∀ i,w0.frozen? ⟨w.heap.size,i,none⟩=false:=fun i=>s.frozen i
 have F:Row (w0.setCell ⟨w.heap.size,72,none⟩ (.int .u8 128)) w.heap.size 150 (mixA st++byV d ++ [.int .u8 128]++mixT 63 n):=s.set _ (by simp [mixA,G])
 have Y:Row (w0.setCell ⟨w.heap.size,72,none⟩ (.int .u8 128)) (w.heap.size+1) 156 (digV []):=(Below.heap_setCell _ _ _ _ (by simp)).trans K
 have R:=T.setCell (p:=⟨w.heap.size,72,none⟩) (Nat.le_refl _) (.int .u8 128)
 obtain⟨w1,ae⟩:∃ w1,w0.setCell ⟨w.heap.size,72,none⟩ (.int .u8 128)=w1:=⟨_,rfl⟩
 rw [ae] at F Y R
 have c4:w1.cell? ⟨w.heap.size,73,none⟩=some (.int .i64 63):=by
  rw [F.cell]
  have:(mixA st++byV d ++ [Value.int .u8 128]).length=73:=by simp [mixA,G]
  rw [List.getElem?_append_right (by omega),this]
  rfl
 clear s K T
 have aw:IntKind.i64.wrap 64=64:=by decide
 have ab:(Builtin.clear_ #[90] 0 #[.slice (some ⟨w.heap.size,9,none⟩) 0 0]).run prog w1= .ok (.tuple #[]) w1:=by
  simp [Builtin.clear_,run_underlying underlying90]
 obtain⟨w2,D⟩:∃ w2,w1=w2:=⟨_,rfl⟩
 have af:Row w2 w.heap.size 150 (mixA st++byV d ++ [.int .u8 128]++mixT 63 n):=by rw [← D];exact F
 have a9:Row w2 (w.heap.size+1) 156 (digV []):=by rw [← D];exact Y
 have O:Below w.heap.size w w2:=by rw [← D];exact R
 rw [D] at ab c4 ae
 clear F Y R
 obtain⟨b,l⟩:∃ b,b=d ++ [128]:=⟨_,rfl⟩
 have ap:Z03 b:=by rw [l];exact hb.append (Z03.cons (by decide) (fun x hx=>by simp at hx))
 have q:b.length=64:=by rw [l];simp [hl]
 have j:Row w2 w.heap.size 150 (mixA st++byV b++mixT 63 n):=by
  have e:byV b=byV d ++ [Value.int .u8 128]:=by rw [l,Z05];rfl
  rw [e,← List.append_assoc]
  exact af
 have y:(mixA st++byV b).length=73:=by simp [mixA,byV,q]
 have c5:w2.cell? ⟨w.heap.size,73,none⟩=some (.int .i64 63):=by
  rw [j.cell,List.getElem?_append_right (by rw [y];decide),y]
  rfl
 have e1:w2.cell? ⟨w.heap.size,1,none⟩=some (.int .u32 (st.a:Nat)):=j.cell 1
 have e2:w2.cell? ⟨w.heap.size,2,none⟩=some (.int .u32 (st.b:Nat)):=j.cell 2
 have e3:w2.cell? ⟨w.heap.size,3,none⟩=some (.int .u32 (st.c:Nat)):=j.cell 3
 have e4:w2.cell? ⟨w.heap.size,4,none⟩=some (.int .u32 (st.d:Nat)):=j.cell 4
 have e5:w2.cell? ⟨w.heap.size,5,none⟩=some (.int .u32 (st.e:Nat)):=j.cell 5
 have e6:w2.cell? ⟨w.heap.size,6,none⟩=some (.int .u32 (st.f:Nat)):=j.cell 6
 have e7:w2.cell? ⟨w.heap.size,7,none⟩=some (.int .u32 (st.g:Nat)):=j.cell 7
 have e8:w2.cell? ⟨w.heap.size,8,none⟩=some (.int .u32 (st.h:Nat)):=j.cell 8
 have HC:Hid (∀ i,i<64→w2.cell? ⟨w.heap.size,9+i,none⟩=some (.int .u8 (b.getD i 0:Nat))):=fun i hi=>by
  rw [j.cell,List.append_assoc,List.getElem?_append_right (by simp [mixA]),show 9+i-(mixA st).length=i by simp [mixA],List.getElem?_append_left (by simp [byV,q];omega),Z0s b i (by omega)]
 have HR:Hid (Row w2 w.heap.size 150 (mixA st++(byV b++mixT 63 n))):=by
  show Row _ _ _ _
  simpa using j
 have HZ:Hid (Row w2 (w.heap.size+1) 156 (digV [])∧Below w.heap.size w w2∧Z0H w2∧b=d ++ [128]):=⟨a9,O,hq.below O hq.1,l⟩
 obtain⟨N,H⟩:∃ N:Array Value,N=(List.replicate 64 (Value.int .u8 0)).toArray:=⟨_,rfl⟩
 have au:∀ w,(zeroValue 148).run prog w= .ok (.agg N) w:=by rw [H];exact (zero_of_info (n:=64) (by kernel_rfl)).1
 have ao:N.size=64:=by rw [H];rfl
 have a3:Hid (N=(List.replicate 64 (Value.int .u8 0)).toArray):=H
 rw [← V]
 clear V af j a9 O l y H
 go_enter func130,ntmps130
 go_wp2_with fail
 refine (Z3S st hok b ap w.heap.size 9 w2 HZ.out.2.2.1 HR.out.lt HC.out).mono ?_
 rintro e w3 ⟨rfl,A⟩
 have HS:=Z51 w3 w.heap.size st (comp st b) _ (HR.out.below A HR.out.lt)
 obtain⟨w4,ad⟩:∃ w4,w3.setCells w.heap.size 1 (stC (comp st b)).toList=w4:=⟨_,rfl⟩
 rw [ad] at HS
 have ak:=HS.1
 have H4:Hid _:=HS.2
 clear HS ad e1 e2 e3 e4 e5 e6 e7 e8 HC
 obtain⟨X,hX⟩:∃ X,X=comp st b:=⟨_,rfl⟩
 have HX:Hid (X=comp st b∧X.ok):=⟨hX,by rw [hX];exact Z61 _ _⟩
 rw [← hX] at ak H4
 rw [← hX]
 clear hX
 have al:(byV b).length=64:=by simp [byV,q]
 have HM:=store_mid w4 w.heap.size 150 9 (mixA X) (byV b) (mixT 63 n) N.toList (by have:=H4.out.1;rw [List.append_assoc];exact this) rfl (by rw [al];simpa using ao) (by rw [a3.out];intro v hv;rw [List.eq_of_mem_replicate hv];rfl)
 obtain⟨w5,aa⟩:∃ w5,w4.setCells w.heap.size 9 N.toList=w5:=⟨_,rfl⟩
 rw [aa] at HM
 have av:=HM.1
 have o:(mixA X++List.replicate 56 (Value.int .u8 0)).length=65:=by simp [mixA]
 have E:Hid (Row w5 w.heap.size 150 ((mixA X++List.replicate 56 (Value.int .u8 0))++List.replicate 8 (.int .u8 0)++mixT 63 n)):=by
  have h1:=HM.2.1
  rw [a3.out] at h1
  have e:List.replicate 64 (Value.int .u8 0)=List.replicate 56 (Value.int .u8 0)++List.replicate 8 (Value.int .u8 0):=by rw [List.replicate_append_replicate]
  rw [show (List.replicate 64 (Value.int .u8 0)).toArray.toList=List.replicate 64 (Value.int .u8 0) from rfl,e] at h1
  show Row _ _ _ _
  simpa only [List.append_assoc] using h1
 have m:w.heap.size<w3.heap.size:=Nat.lt_of_lt_of_le HR.out.lt A.size
 have J:Below w.heap.size w w3:=HZ.out.2.1.trans (A.mono HZ.out.2.1.size)
 have r:Row w3 (w.heap.size+1) 156 (digV []):=HZ.out.1.below A HZ.out.1.lt
 have Z:Hid (Row w5 (w.heap.size+1) 156 (digV [])∧Below w.heap.size w w5):=by
  have a0:w.heap.size<w4.heap.size:=Nat.lt_of_lt_of_le m H4.out.2.size
  exact⟨(r.only H4.out.2 (by omega)).only HM.2.2 (by omega),(J.trans (H4.out.2.below (Nat.le_of_lt m))).trans (HM.2.2.below (Nat.le_of_lt a0))⟩
 clear HM aa H4 J r A m
 have c6:w5.cell? ⟨w.heap.size,74,none⟩=some (.int .i64 (n:Nat)):=by
  rw [E.out.cell,List.getElem?_append_right (by rw [List.length_append,o];simp),List.length_append,o]
  rfl
 have j1:IntKind.u64.wrap (n:Int)=n:=by rw [IntKind.wrap_u64];omega
 have j2:IntKind.u64.wrap (8*(n:Int))=8*n:=by rw [IntKind.wrap_u64];omega
 go_wp2_with fail
 go_region_held3 (fun w'=>w'.cell? ⟨w.heap.size,74,none⟩=some (.int .i64 (n:Nat))) (simp [go_sem, *]) (first | (go_at_call 105;refine (Z7H w.heap.size 150 65 _ _ _ o.symm 8 8 (8*n) (8*(n:Int)) (by omega) (by decide) List.length_replicate w5.drew E.out).mono ?_;rintro e w6 ⟨rfl,M,L⟩;have c7:=Z7I w6 _ _ _ _ 63 n o M))
 obtain⟨t,l⟩:∃ t,t=List.replicate 56 0++be8 (8*n):=⟨_,rfl⟩
 have k:Row w6 w.heap.size 150 (mixA X++byV t++mixT 63 n):=by
  have e:byV t=List.replicate 56 (Value.int .u8 0)++beV 8 (8*n):=by
   rw [l,Z05,beV8,Z1l]
  rw [e,← List.append_assoc]
  exact M
 have ac:Z03 t:=by rw [l];exact (Z03.zeros _).append (Z5y _)
 have a7:t.length=64:=by rw [l];simp [Z2r]
 have ag:Hid (t=List.replicate 56 0++be8 (8*n)):=l
 have e1:w6.cell? ⟨w.heap.size,1,none⟩=some (.int .u32 (X.a:Nat)):=k.cell 1
 have e2:w6.cell? ⟨w.heap.size,2,none⟩=some (.int .u32 (X.b:Nat)):=k.cell 2
 have e3:w6.cell? ⟨w.heap.size,3,none⟩=some (.int .u32 (X.c:Nat)):=k.cell 3
 have e4:w6.cell? ⟨w.heap.size,4,none⟩=some (.int .u32 (X.d:Nat)):=k.cell 4
 have e5:w6.cell? ⟨w.heap.size,5,none⟩=some (.int .u32 (X.e:Nat)):=k.cell 5
 have e6:w6.cell? ⟨w.heap.size,6,none⟩=some (.int .u32 (X.f:Nat)):=k.cell 6
 have e7:w6.cell? ⟨w.heap.size,7,none⟩=some (.int .u32 (X.g:Nat)):=k.cell 7
 have e8:w6.cell? ⟨w.heap.size,8,none⟩=some (.int .u32 (X.h:Nat)):=k.cell 8
 have HC:Hid (∀ i,i<64→w6.cell? ⟨w.heap.size,9+i,none⟩=some (.int .u8 (t.getD i 0:Nat))):=fun i hi=>by
  rw [k.cell,List.append_assoc,List.getElem?_append_right (by simp [mixA]),show 9+i-(mixA X).length=i by simp [mixA],List.getElem?_append_left (by simp [byV,a7];omega),Z0s t i (by omega)]
 have r:Row w6 (w.heap.size+1) 156 (digV []):=Row.only (w:=w5.drew) Z.out.1 L (by omega)
 have I:Below w.heap.size w w6:=Z.out.2.drew.trans (L.below (Nat.le_of_lt E.out.lt))
 have a8:=hq.below I hq.1
 have m:=k.lt
 have a2:Hid (Z0H w6∧w.heap.size<w6.heap.size):=⟨a8,m⟩
 clear M L k l c7 a8 m o E Z
 go_wp2_with fail
 refine (Z3S X HX.out.2 t ac w.heap.size 9 w6 a2.out.1 a2.out.2 HC.out).mono ?_
 rintro e w7 ⟨rfl,U⟩
 have W:=r.below U r.lt
 have z:=I.trans (U.mono I.size)
 clear r I U e1 e2 e3 e4 e5 e6 e7 e8 HC
 go_wp2_with fail
 refine (Z1T (comp X t) (Z61 _ _) w7).mono ?_
 rintro e w8 ⟨rfl,Q⟩
 have a5:w8.heap[w.heap.size+1]? = some (.cells (digV []).toArray 156 (0,0)):=W.below Q W.lt
 have a4:=z.trans (Q.mono z.size)
 clear W z Q
 obtain⟨u,C⟩:∃ u,u=(byV (outL (comp X t))).toArray:=⟨_,rfl⟩
 have a1:u.size=32:=by rw [C];simp [byV,Z1u]
 have a6:u.all (·.oneCell')=true:=by rw [C];simp [byV,Value.oneCell']
 have aq:Hid (u=(byV (outL (comp X t))).toArray):=C
 rw [← C]
 clear C
 have ah:(digV []).toArray.size=u.size:=by rw [a1];rfl
 have B:(prog.info? 156).map (·.size)=some u.size:=by rw [a1];kernel_rfl
 have aj:=Z0l a4 (show w.heap.size≤w.heap.size+1 by omega) u
 have ai:=run_loadVar_row (P:=prog) (w8.setRow (w.heap.size+1) u) (w.heap.size+1) 156 156 u (0,0) _ (setRow_heap _ _ _ _ _ _ a5) underlying156 rfl B
 go_wp2_with (refine wpList_store_row rfl 156 _ _ rfl (w.heap.size+1) u rfl rfl 156 _ a5 B ah a6 ?_)
 exact bodyPost_ret (v:= .agg u) (by simp [results,Tryz.results130,asAddr,Act.put,ai]) rfl ⟨by rw [← HZ.out.2.2.2,← HX.out.1,← ag.out,← aq.out],aj⟩
def Z3p (w:World):Prop:=0<w.heap.size∧∀ i,i<8→w.cell? ⟨0,i,none⟩=some (.int .u32 (st0.at i:Nat))
def shaS (l:List Nat):ByteArray:=strOfNums ((shaL l).map fun (x:Nat)=>(x:Int))
def mixZ:List Value:= [Value.bool false]++List.replicate 8 (Value.int .u32 0)++List.replicate 64 (Value.int .u8 0) ++ [Value.int .i64 0,Value.int .i64 0]
theorem mix_zero (w:World):(zeroValue 150).run prog w= .ok (.agg mixZ.toArray) w:=(zero_of_info (n:=75) (by kernel_rfl)).1 w
theorem Z2R:(prog.info? 150).map (·.size)=some 75:=by kernel_rfl
set_option maxRecDepth 10000 in
theorem Z7K (w:World)(hf:Z3p w) :
  Calls prog 103 #[] w fun e w'=>e= .returned (.agg (mixV st0 (List.replicate 64 (.int .u8 0)) 0 0).toArray)∧Below w.heap.size w w':=by
 have z:=hf.1
 have E:w.cell? ⟨0,0,none⟩=some (.int .u32 (st0.a:Nat)):=hf.2 0 (by decide)
 have F:w.cell? ⟨0,1,none⟩=some (.int .u32 (st0.b:Nat)):=hf.2 1 (by decide)
 have D:w.cell? ⟨0,2,none⟩=some (.int .u32 (st0.c:Nat)):=hf.2 2 (by decide)
 have I:w.cell? ⟨0,3,none⟩=some (.int .u32 (st0.d:Nat)):=hf.2 3 (by decide)
 have G:w.cell? ⟨0,4,none⟩=some (.int .u32 (st0.e:Nat)):=hf.2 4 (by decide)
 have B:w.cell? ⟨0,5,none⟩=some (.int .u32 (st0.f:Nat)):=hf.2 5 (by decide)
 have C:w.cell? ⟨0,6,none⟩=some (.int .u32 (st0.g:Nat)):=hf.2 6 (by decide)
 have H:w.cell? ⟨0,7,none⟩=some (.int .u32 (st0.h:Nat)):=hf.2 7 (by decide)
 clear hf
 obtain⟨l,m⟩:∃ l,l=(mixZ).toArray:=⟨_,rfl⟩
 have x:∀ w,(zeroValue 150).run prog w= .ok (.agg l) w:=by rw [m];exact mix_zero
 have n:l.size=75:=by rw [m];rfl
 have y:¬ l=#[]:=fun h=>by rw [h] at n;simp at n
 have A:¬ l.size<9:=by omega
 obtain⟨i,j⟩:∃ i,i=(mixV st0 (List.replicate 64 (.int .u8 0)) 0 0).toArray:=⟨_,rfl⟩
 have t:((((((((l.setIfInBounds 0 (Value.bool true)).setIfInBounds 1 (Value.int .u32 (st0.a:Nat))).setIfInBounds 2 (Value.int .u32 (st0.b:Nat))).setIfInBounds 3 (Value.int .u32 (st0.c:Nat))).setIfInBounds 4 (Value.int .u32 (st0.d:Nat))).setIfInBounds 5 (Value.int .u32 (st0.e:Nat))).setIfInBounds 6 (Value.int .u32 (st0.f:Nat))).setIfInBounds 7 (Value.int .u32 (st0.g:Nat))).setIfInBounds 8 (Value.int .u32 (st0.h:Nat))=i:=by rw [j,m];rfl
 have p:i.size=75:=by rw [j];rfl
 have o:i.all (·.oneCell')=true:=by rw [j];simp [mixV,mixA,mixT,Value.oneCell']
 have u:Hid (i=(mixV st0 (List.replicate 64 (.int .u8 0)) 0 0).toArray):=j
 have k:(prog.info? 150).map (·.size)=some i.size:=by rw [p];exact Z2R
 have q:l.size=i.size:=by rw [n,p]
 have r:=run_loadVar_row (P:=prog) ((w.alloc (.cells l 150)).setRow w.heap.size i) w.heap.size 150 150 i (0,0) _ (setRow_heap _ _ _ _ _ _ (heap_alloc_new w _)) underlying150 rfl k
 have s:=Z0l ((Below.refl _ _).alloc (Nat.le_refl _) (.cells l 150)) (Nat.le_refl w.heap.size) i
 clear m j
 go_enter func103,ntmps103
 go_wp2_with (refine wpList_store_row rfl 150 _ _ rfl w.heap.size i rfl rfl 150 _ (heap_alloc_new w _) k q o ?_)
 exact bodyPost_ret (v:= .agg i) (by simp [results,Tryz.results103,asAddr,Act.put,r]) rfl ⟨by rw [u.out],s⟩
theorem Z3p.below {w w':World}(h:Z3p w){B:Nat}(hb:Below B w w')(hB:0<B):Z3p w':=⟨Nat.lt_of_lt_of_le h.1 hb.size,fun i hi=>(hb.cell (p:=⟨0,i,none⟩) hB).trans (h.2 i hi)⟩
theorem Z3y (l:List Nat)(hb:Z03 l)(R:List Value)(hR:R.length=64-l.length%64)(hs:l.length<1099511627776)(w:World)(hq:Z0H w) :
  Calls prog 130 #[.agg (mixV (Z0e l (l.length/64)) (byV (l.drop (64*(l.length/64)))++R) (l.length%64) l.length).toArray] w fun e w'=>e= .returned (.agg (byV (shaL l)).toArray)∧Below w.heap.size w w':=by
 obtain⟨f,c,rfl⟩:∃ f c,R=f :: c:=by
  cases R with
  | nil=>simp at hR;omega
  | cons a b=>exact⟨a,b,rfl⟩
 have d:c.length=63-l.length%64:=by simp at hR;omega
 have g:(l.drop (64*(l.length/64))).length=l.length%64:=by simp;omega
 by_cases h:l.length%64<56
 ·rw [sha_small l (l.length/64) (l.length%64) (by omega) h]
  exact finish_small _ (Z31 _ _) _ (hb.drop _) _ _ g h f c d hs w hq
 ·rw [sha_large l (l.length/64) (l.length%64) (by omega) (by omega) (by omega)]
  by_cases j:l.length%64<63
  ·exact finish_large _ (Z31 _ _) _ (hb.drop _) _ _ g (by omega) j f c d hs w hq
  ·have i:l.length%64=63:=by omega
   have k:c= []:=List.eq_nil_of_length_eq_zero (by omega)
   subst k
   rw [i]
   exact finish_full _ (Z31 _ _) _ (hb.drop _) _ (by omega) f hs w hq
set_option maxRecDepth 10000 in
theorem told_any (B:Nat)(l:List Nat)(hb:Z03 l)(hs:l.length<1099511627776)(w:World)(hq:Z0H w)(hm:Z1D w B l l.length) :
  Calls prog 128 #[.pointer (some ⟨B,0,none⟩)] w fun e w'=>e= .returned (.string (shaS l))∧Below w.heap.size w w':=by
 obtain⟨R,y,p⟩:=hm
 have z:w.cell? ⟨B,0,none⟩=some (.bool true):=p.cell 0
 obtain⟨m,d⟩:∃ m,m=(mixV (Z0e l (l.length/64)) (byV (l.drop (64*(l.length/64)))++R) (l.length%64) l.length).toArray:=⟨_,rfl⟩
 have q:m.size=75:=by
  have:=Z62 l R y
  rw [d,mixV]
  simp at this ⊢
  rw [mixT];simp;omega
 have u:w.heap[B]? = some (.cells m 150 (0,0)):=by rw [d];exact p
 have a:(prog.info? 150).map (·.size)=some m.size:=by rw [q];exact Z2R
 have o:Hid _:=d
 have b:=Z3y l hb R y hs w hq
 rw [← d] at b
 clear d p o
 go_enter func128,ntmps128
 go_wp2_with (refine wpList_load_row rfl 150 _ rfl B rfl 150 _ (0,0) _ u underlying150 rfl a ?_)
 refine b.mono ?_
 rintro e j ⟨rfl,n⟩
 clear b u z a
 obtain⟨g,f⟩:∃ g,g=(byV (shaL l)).toArray:=⟨_,rfl⟩
 have c:g.size=32:=by rw [f];simp [byV,Z09]
 have h:g.all (·.oneCell')=true:=by rw [f];simp [byV,Value.oneCell']
 have a:(prog.info? 156).map (·.size)=some g.size:=by rw [c];kernel_rfl
 rw [← f]
 have r:Hid _:=f
 clear f
 go_wp2_with (refine wpList_store_row rfl 156 _ _ rfl j.heap.size g rfl rfl 156 _ (heap_alloc_new j _) a (by rw [c];rfl) h ?_)
 rw [World.setRow_alloc_new]
 have v:Row (j.alloc (.cells g 156)) j.heap.size 156 (byV (shaL l)):=by rw [r.out];exact heap_alloc_new j _
 have t:=n.alloc n.size (.cells g 156)
 generalize j.alloc (.cells g 156)=w2 at *
 have k:=run_convert_bytes_arg (P:=prog) w2 90 5 underlying90 underlying5 j.heap.size 0 32 32 ((shaL l).map fun (x:Nat)=>(x:Int)) (by simp [Z09]) (fun i hi=>by
  rw [Nat.zero_add,v.cell,Z0s _ _ (by rw [Z09];exact hi)]
  simp [List.getD,Z09,hi]) 9 underlying9
 have s:Hid (strOfNums ((shaL l).map fun (x:Nat)=>(x:Int))=shaS l):=rfl
 rw [s.out] at k
 clear v h a c
 go_wp2
 rw [k]
 go_wp2
 go_ret
 exact⟨rfl,t⟩
set_option maxRecDepth 10000 in
theorem sum_any (s:ByteArray)(hs:s.size<1099511627776)(w:World)(hf:Z3p w)(hq:Z0H w) :
  Calls prog 102 #[.string s] w fun e w'=>e= .returned (.string (shaS (Z00 s)))∧Below w.heap.size w w':=by
 obtain⟨h,l⟩:∃ h,h=(mixZ).toArray:=⟨_,rfl⟩
 have v:∀ w,(zeroValue 150).run prog w= .ok (.agg h) w:=by rw [l];exact mix_zero
 have q:h.size=75:=by rw [l];rfl
 clear l
 obtain⟨d,b⟩:∃ d,d=(mixV st0 (List.replicate 64 (.int .u8 0)) 0 0).toArray:=⟨_,rfl⟩
 have k:d.size=75:=by rw [b];rfl
 have i:d.all (·.oneCell')=true:=by rw [b];simp [mixV,mixA,mixT,Value.oneCell']
 have z:Hid _:=b
 have j:=Z7K w hf
 rw [← b] at j
 clear b
 have c:(prog.info? 150).map (·.size)=some d.size:=by rw [k];exact Z2R
 have o:h.size=d.size:=by rw [q,k]
 go_enter func102,ntmps102
 go_wp2_with fail
 refine j.mono ?_
 rintro e f ⟨rfl,a⟩
 clear j
 go_wp2_with (refine wpList_store_row rfl 150 _ _ rfl f.heap.size d rfl rfl 150 _ (heap_alloc_new f _) c o i ?_)
 have u:Z1D ((f.alloc (.cells h 150)).setRow f.heap.size d) f.heap.size [] 0:=⟨List.replicate 64 (.int .u8 0),rfl,by rw [World.setRow_alloc_new,z.out];exact heap_alloc_new f _⟩
 have m:=Z0l (a.alloc a.size (.cells h 150)) a.size d
 generalize (f.alloc (.cells h 150)).setRow f.heap.size d=w2 at *
 clear c o i v q k z
 refine (Z5z f.heap.size [] (fun x hx=>by simp at hx) s (by simpa using hs) w2 (hq.below m hq.1) (by have:=hq.1;have:=a.size;omega) u).mono ?_
 rintro e B ⟨rfl,t,p⟩
 rw [List.nil_append] at t
 have r:=a.size
 have g:=m.trans ((p.below (by obtain⟨R,C,A⟩:=u;exact Nat.le_of_lt A.lt)).mono r)
 clear u m p a
 go_wp2_with fail
 refine (told_any f.heap.size (Z00 s) (Z04 s) (by rw [Z01];omega) B (hq.below g hq.1) t).mono ?_
 rintro e D ⟨rfl,n⟩
 have y:=g.trans (n.mono g.size)
 clear g n t
 go_wp2
 go_ret
 exact⟨rfl,y⟩
end Sm
end Go.Proofs.YtijpgmkdnemmbaaGreatDoor
