/- Part 45. -/
import Derived.Test.YtijpgmkdnemmbaaGreatDoorMg44
set_option maxRecDepth 20000
set_option maxHeartbeats 8000000
open Go.RowKit Go.Proofs.Tryz
namespace Go.Proofs.YtijpgmkdnemmbaaGreatDoor
namespace Bx
def dN:List Nat→Nat
 | []=>0
 | x :: l=>x+1024*dN l
def Digs (l:List Nat):Prop:= ∀ x∈l,x<1024
theorem dN_append (a b:List Nat):dN (a++b)=dN a+1024 ^ a.length*dN b:=by
 induction a with
 | nil=>simp [dN]
 | cons x a ih =>
  show x+1024*dN (a++b)=x+1024*dN a+1024 ^ (a.length+1)*dN b
  rw [ih,Nat.mul_add,Nat.pow_succ,Nat.mul_comm (1024 ^ a.length) 1024,Nat.mul_assoc]
  omega
theorem dN_lt (a:List Nat)(h:Digs a):dN a<1024 ^ a.length:=by
 induction a with
 | nil=>simp [dN]
 | cons x a ih =>
  have c:=h x (List.mem_cons_self ..)
  have b:=ih fun y hy=>h y (List.mem_cons_of_mem _ hy)
  show x+1024*dN a<1024 ^ (a.length+1)
  rw [Nat.pow_succ]
  omega
theorem dN_digL (V:Nat):∀ n,dN (digL V n)=V%1024 ^ n
 | 0=>by simp [digL,dN,Nat.mod_one]
 | n+1=>by
  have e:digL V (n+1)=digL V n ++ [V/2 ^ (10*n)%1024]:=by rw [digL,List.range_succ,List.map_append];rfl
  rw [e,dN_append,dN_digL V n,Z15,show dN [V/2 ^ (10*n)%1024]=V/2 ^ (10*n)%1024 from by simp [dN],Nat.pow_succ,Nat.mod_mul,show 2 ^ (10*n)=1024 ^ n by rw [Nat.pow_mul]]
theorem Z3B (V n:Nat):Digs (digL V n):=fun x hx=>by
 obtain⟨i,_,rfl⟩:=List.mem_map.1 hx
 exact Nat.mod_lt _ (by decide)
theorem dN_parts (A:List Nat)(J:Nat)(h:J<A.length):dN A=dN (A.take J)+1024 ^ J*(A.getD J 0+1024*dN (A.drop (J+1))):=by
 have e:A=A.take J++A.getD J 0 :: A.drop (J+1):=by
  rw [Z0b _ _ h,← List.drop_eq_getElem_cons h,List.take_append_drop]
 have a:=congrArg dN e
 rw [dN_append,List.length_take,Nat.min_eq_left (by omega)] at a
 exact a
theorem dN_less (A B:List Nat)(ha:Digs A)(hl:A.length=B.length)(J:Nat)(h:J<A.length)(he:A.drop (J+1)=B.drop (J+1))(hlt:A.getD J 0<B.getD J 0):dN A<dN B:=by
 rw [dN_parts A J h,dN_parts B J (by omega),he]
 have b:dN (A.take J)<1024 ^ J:=by
  have:=dN_lt (A.take J) (fun x hx=>ha x (List.mem_of_mem_take hx))
  rwa [List.length_take,Nat.min_eq_left (by omega)] at this
 have a:1024 ^ J*(A.getD J 0+1024*dN (B.drop (J+1))+1)≤1024 ^ J*(B.getD J 0+1024*dN (B.drop (J+1))):=Nat.mul_le_mul_left _ (by omega)
 rw [Nat.mul_add (1024 ^ J) _ 1,Nat.mul_one] at a
 omega
theorem drop_same (A B:List Nat)(hl:A.length=B.length)(J:Nat)(h:J<A.length)(he:A.drop (J+1)=B.drop (J+1))(hq:A.getD J 0=B.getD J 0):A.drop J=B.drop J:=by
 rw [List.drop_eq_getElem_cons h,List.drop_eq_getElem_cons (show J<B.length by omega),he,← Z0b A 0 h,← Z0b B 0 (show J<B.length by omega),hq]
structure Z0g (w:World) (g n:Nat) (L:List Nat):Prop where
 lt:g<w.heap.size
 cells:∀ i,i<n→w.cell? ⟨g,i,none⟩=some (.int .i64 (L.getD i 0:Nat))
 free:∀ i,i<n→w.frozen? ⟨g,i,none⟩=false
theorem Z0g.below {w w':World}{g B n:Nat}{L:List Nat}(h:Z0g w g n L)(hb:Below B w w')(hg:g<B):Z0g w' g n L :=
 ⟨Nat.lt_of_lt_of_le h.lt hb.size,fun i hi=>(hb.cell (p:=⟨g,i,none⟩) hg).trans (h.cells i hi),fun i hi=>(hb.frozen (p:=⟨g,i,none⟩) hg).trans (h.free i hi)⟩
theorem Z0g.of {w:World}{base g n cap:Nat}{L:List Nat}(h:OwnC w base g n cap (intV L))(hl:L.length=n):Z0g w g n L:=⟨h.lt,fun i hi=>h.cells i _ (intV_at L i (by omega)),fun i hi=>h.free i (by have:=h.room;omega)⟩
theorem drewN_two (w:World)(a b:Nat):(w.drewN a).drewN b=w.drewN (a+b):=by
 simp
theorem Z82 (w:World)(a b c:Nat):((w.drewN a).drewN b).drewN c=w.drewN (a+b+c):=by
 simp
def Z2K:List Nat:=1019 :: List.replicate 12 1023
theorem prime_num:dN Z2K=Z0x:=by decide
set_option maxRecDepth 10000 in
theorem rprime_any (w:World) :
  Calls prog 178 #[] w fun e w'=> ∃ g cap,e= .returned (.slice (some ⟨g,0,none⟩) 13 cap)∧Z0g w' g 13 Z2K∧w.heap.size≤g∧Below w.heap.size w w':=by
 obtain⟨t,z,k,n,m⟩:=info_parts Z1j
 have o:Hid (OwnC (w.alloc (.cells #[.int .i64 1019] 3)) w.heap.size w.heap.size 1 1 (intV (1019 :: List.replicate 0 1023))∧Below w.heap.size w (w.alloc (.cells #[.int .i64 1019] 3))):=⟨OwnC.fresh w 3 (intV (1019 :: List.replicate 0 1023)) 1 rfl (by decide),(Below.refl _ _).alloc (Nat.le_refl _) _⟩
 go_enter func178,ntmps178
 go_wp2_with fail
 go_loopw [1,2] (fun v i wr=> ∃ j g cap:Nat,j≤12∧i= .int .i64 ((j:Int)+1)∧v= .slice (some ⟨g,0,none⟩) (1+j) cap∧OwnC wr w.heap.size g (1+j) cap (intV (1019 :: List.replicate j 1023))∧Below w.heap.size w wr) (fun _ i _=>13-(intOf i).toNat)
 case atStart=>exact⟨0,w.heap.size,1,Nat.zero_le _,rfl,rfl,o.out.1,o.out.2⟩
 case round =>
  clear o
  obtain⟨j,g,cap,B,rfl,rfl,a,d⟩:=hrel
  by_cases A:j<12
  ·have l:Hid (intV (1019 :: List.replicate (j+1) 1023)=intV (1019 :: List.replicate j 1023) ++ [.int .i64 1023]):=by
    show _=_
    rw [List.replicate_succ',← List.cons_append]
    simp [intV]
   have s:(j:Int)+1<13:=by omega
   go_wp2_with (at_builtin;refine Z0C _ rfl _ _ 67 rfl w.heap.size 3 t (.int .i64 0) 8 underlying67 z k n m rfl g (1+j) cap (intV (1019 :: List.replicate j 1023)) rfl (a.alloc _) ⟨wr.heap.size,0,none⟩ 1 1 [.int .i64 1023] rfl rfl (World.news_of_block (heap_alloc_new _ _)) ?c2 ?c3 ?c4 ?c5 ?_)
   case c2=>intro u q;rw [List.mem_singleton] at q;rw [q];rfl
   case c3=>unfold maxLen;omega
   case c4=>omega
   case c5=>have:=d.size;simp;omega
   intro y f w2 c b _
   have h:=a.low
   have p:Below w.heap.size w w2:=(d.alloc d.size _).grown b (by have:=d.size;simp;omega) (fun x hx=>by obtain rfl:g=x:=(by simpa using hx);exact h)
   rw [← l.out] at c
   clear a b d
   go_wp2
   go_roundw
   case rel=>exact⟨j+1,y,f,by omega,by go_num,rfl,c,p⟩
   case measure=>simp [intOf];omega
  ·obtain rfl:j=12:=by omega
   have r:Hid (Z0g wr g 13 Z2K∧w.heap.size≤g∧Below w.heap.size w wr):=⟨Z0g.of a rfl,a.low,d⟩
   clear a d
   rw [show ((12:Nat):Int)+1=13 from rfl]
   go_wp2
   go_ret
   exact⟨g,cap,rfl,r.out⟩
set_option maxRecDepth 10000 in
theorem rless_any (A B:List Nat)(hA:Digs A)(hB:Digs B)(la:A.length=13)(lb:B.length=13)(ga gb ca cb:Nat)(w:World)(ia:Z0g w ga 13 A)(ib:Z0g w gb 13 B) :
  Calls prog 179 #[.slice (some ⟨ga,0,none⟩) 13 ca,.slice (some ⟨gb,0,none⟩) 13 cb] w fun e w'=>e= .returned (.bool (decide (dN A<dN B)))∧∃ n,w'=w.drewN n:=by
 obtain⟨R,p⟩:∃ R,R=decide (dN A<dN B):=⟨_,rfl⟩
 rw [← p]
 have o:Hid (R=decide (dN A<dN B)):=p
 clear p
 go_enter func179,ntmps179
 go_wp2_with fail
 go_loopw [5] (fun i wz=> ∃ J k:Nat,J≤13∧i= .int .i64 ((J:Int)-1)∧A.drop J=B.drop J∧wz=w.drewN k) (fun i _=>(intOf i+1).toNat)
 case atStart=>exact⟨13,0,Nat.le_refl _,rfl,by rw [List.drop_eq_nil_of_le (by omega),List.drop_eq_nil_of_le (by omega)],rfl⟩
 case round =>
  obtain⟨J,k,E,rfl,j,rfl⟩:=hrel
  cases J with
  | zero =>
   obtain rfl:R=false:=by
    rw [o.out,show A=B from j]
    simp
   rw [show ((0:Nat):Int)-1= -1 from rfl]
   clear j
   go_wp2
   go_ret
   exact⟨rfl,_,rfl⟩
  | succ J =>
   rw [show (((J+1:Nat):Int)-1)=(J:Int) by omega]
   have h:=ia.cells J (by omega)
   have l:=ib.cells J (by omega)
   have c:∀ n,(w.drewN n).cell? ⟨ga,J,none⟩=some (.int .i64 (A.getD J 0:Nat)):=fun n=>h
   have d:∀ n,(w.drewN n).cell? ⟨gb,J,none⟩=some (.int .i64 (B.getD J 0:Nat)):=fun n=>l
   have v:(J:Int)<13:=by omega
   have t:Hid (A.drop (J+1)=B.drop (J+1)):=j
   clear j
   obtain⟨x,q⟩:∃ x,x=A.getD J 0:=⟨_,rfl⟩
   obtain⟨y,m⟩:∃ y,y=B.getD J 0:=⟨_,rfl⟩
   rw [← q] at h c
   rw [← m] at l d
   have b:Hid (x=A.getD J 0∧y=B.getD J 0):=⟨q,m⟩
   clear q m
   generalize hwk:w.drewN k=wk at *
   have g:wk.cell? ⟨ga,J,none⟩=some (.int .i64 x):=by rw [← hwk];exact h
   have f:wk.cell? ⟨gb,J,none⟩=some (.int .i64 y):=by rw [← hwk];exact l
   have a:Hid (w.drewN k=wk):=hwk
   clear hwk h l c d
   by_cases C:x=y
   ·subst C
    go_wp2_with fail
    go_quiet (fail)
    go_wp2
    go_roundw
    case rel=>exact⟨J,_,by omega,rfl,drop_same A B (by omega) J (by omega) t.out (b.out.1.symm.trans b.out.2),by rw [← a.out];exact drewN_two _ _ _⟩
    case measure=>simp [intOf]
   ·have u:¬ (x:Int)=y:=by omega
    have D:∀ n,(wk.drewN n).cell? ⟨ga,J,none⟩=some (.int .i64 x):=fun n=>g
    have z:∀ n,(wk.drewN n).cell? ⟨gb,J,none⟩=some (.int .i64 y):=fun n=>f
    by_cases r:x<y
    ·have s:(x:Int)<y:=by omega
     obtain rfl:R=true:=by
      rw [o.out]
      exact decide_eq_true (dN_less A B hA (by omega) J (by omega) t.out (by rw [← b.out.1,← b.out.2];exact r))
     go_wp2_with fail
     go_quiet (fail)
     go_wp2_with fail
     go_quiet (fail)
     go_wp2
     go_ret
     exact⟨rfl,_,by rw [← a.out];exact Z82 _ _ _ _⟩
    ·have s:¬ (x:Int)<y:=by omega
     obtain rfl:R=false:=by
      rw [o.out]
      exact decide_eq_false (Nat.not_lt_of_lt (dN_less B A hB (by omega) J (by omega) t.out.symm (by rw [← b.out.1,← b.out.2];omega)))
     go_wp2_with fail
     go_quiet (fail)
     go_wp2_with fail
     go_quiet (fail)
     go_wp2
     go_ret
     exact⟨rfl,_,by rw [← a.out];exact Z82 _ _ _ _⟩
structure Z0n (w:World) (g n:Nat) (f:Nat→Value):Prop where
 lt:g<w.heap.size
 cells:∀ i,i<n→w.cell? ⟨g,i,none⟩=some (f i)
 free:∀ i,i<n→w.frozen? ⟨g,i,none⟩=false
theorem Z0n.below {w w':World}{g B n:Nat}{f:Nat→Value}(h:Z0n w g n f)(hb:Below B w w')(hg:g<B):Z0n w' g n f :=
 ⟨Nat.lt_of_lt_of_le h.lt hb.size,fun i hi=>(hb.cell (p:=⟨g,i,none⟩) hg).trans (h.cells i hi),fun i hi=>(hb.frozen (p:=⟨g,i,none⟩) hg).trans (h.free i hi)⟩
theorem Z0n.congr {w:World}{g n:Nat}{f f':Nat→Value}(h:Z0n w g n f)(e:∀ i,i<n→f i=f' i):Z0n w g n f':=⟨h.lt,fun i hi=>by rw [h.cells i hi,e i hi],h.free⟩
theorem Z0n.drewN {w:World}{g n:Nat}{f:Nat→Value}(h:Z0n w g n f)(k:Nat):Z0n (w.drewN k) g n f:=⟨h.lt,h.cells,h.free⟩
theorem Z0n.set {w:World}{g n:Nat}{f:Nat→Value}(h:Z0n w g n f)(i:Nat)(v:Value)(hi:i<n):Z0n (w.setCell ⟨g,i,none⟩ v) g n (fun k=>if k=i then v else f k):=by
 refine⟨by have:=h.lt;simp [World.setCell];exact this,fun j hj=> ?_,fun j hj=> ?_⟩
 ·by_cases e:j=i
  ·subst e
   rw [if_pos rfl,World.cell?_setCell_same _ _ _ (h.cells j hj)]
  ·rw [if_neg e,World.cell?_setCell_other _ _ _ _ (by intro a;injection a with _ h2;exact e h2.symm)]
   exact h.cells j hj
 ·rw [World.frozen?_setCell];exact h.free j hj
def cl (l:List Nat)(j k:Nat):Nat:=if k<j then Z36 k (l.getD k 0) else l.getD k 0
theorem cl_step (l:List Nat)(j k:Nat):(if k=j then Value.int .u8 ((Z36 j (l.getD j 0):Nat):Int) else .int .u8 ((cl l j k:Nat):Int))= .int .u8 ((cl l (j+1) k:Nat):Int):=by
 unfold cl
 by_cases e:k=j
 ·subst e
  rw [if_pos rfl,if_pos (by omega)]
 ·rw [if_neg e]
  by_cases h:k<j
  ·rw [if_pos h,if_pos (by omega)]
  ·rw [if_neg h,if_neg (by omega)]
theorem cl_same (l:List Nat)(j k:Nat)(h:Z36 j (l.getD j 0)=l.getD j 0):cl l j k=cl l (j+1) k:=by
 unfold cl
 by_cases e:k=j
 ·subst e
  rw [if_neg (by omega),if_pos (by omega),h]
 ·by_cases h:k<j
  ·rw [if_pos h,if_pos (by omega)]
  ·rw [if_neg h,if_neg (by omega)]
set_option maxRecDepth 10000 in
theorem rclamped_any (key:ByteArray)(hk:key.size=32)(w:World) :
  Calls prog 159 #[.string key] w fun e w'=>e= .returned (.string (strN (Z0O (Z00 key))))∧Below w.heap.size w w':=by
 have g:(key.extract 0 16).size=16:=by simp;omega
 have d:=fun w'=>Lib.run_convert_string_bytes (P:=prog) w' 9 90 5 (key.extract 0 16) underlying9 underlying90 underlying5
 have m:=Z2v w 5 (key.extract 0 16) (by rw [g];decide)
 have z:=Z20 w 5 (key.extract 0 16)
 rw [numsV,Z0h,g] at m
 rw [g] at d
 have H:(Z00 key).length=32:=by rw [Z01];exact hk
 have y:=Z04 key
 obtain⟨R,t⟩:∃ R,R=strN (Z0O (Z00 key)):=⟨_,rfl⟩
 rw [← t]
 have D:Hid (R=strN (Z0O (Z00 key))):=t
 clear t
 generalize Z00 key=l at *
 have a:Z0n (Lib.bytesWorld w 5 (key.extract 0 16)) w.heap.size 16 (fun k=> .int .u8 ((cl l 0 k:Nat):Int)):=by
  refine⟨m.lt,fun i hi=> ?_,fun i hi=>m.free i (by have:=m.room;omega)⟩
  refine m.cells i _ ?_
  rw [Z0s _ _ (by simp;omega)]
  congr 3
  rw [Z0b _ _ (by simp;omega)]
  unfold cl
  rw [if_neg (by omega),Z0b _ _ (by omega)]
  simp
 have A:Hid (Z0n (Lib.bytesWorld w 5 (key.extract 0 16)) w.heap.size 16 (fun k=> .int .u8 ((cl l 0 k:Nat):Int))∧Below w.heap.size w (Lib.bytesWorld w 5 (key.extract 0 16))):=⟨a,z⟩
 clear a z m
 go_enter func159,ntmps159
 go_wp2_with fail
 go_loopw [4] (fun i wr=> ∃ j:Nat,j≤16∧i= .int .i64 j∧Z0n wr w.heap.size 16 (fun k=> .int .u8 ((cl l j k:Nat):Int))∧Below w.heap.size w wr) (fun i _=>16-(intOf i).toNat)
 case atStart=>exact⟨0,Nat.zero_le _,rfl,A.out⟩
 case round =>
  clear A d
  obtain⟨j,L,rfl,a,h⟩:=hrel
  by_cases f:j<16
  ·have C:wr.cell? ⟨w.heap.size,j,none⟩=some (.int .u8 (l.getD j 0:Nat)):=by
    rw [a.cells j f]
    unfold cl
    rw [if_neg (by omega)]
   have K:=a.free j f
   have I:l.getD j 0<256:=Z0k (by decide) y j
   have B:(j:Int)<16:=by omega
   have q:Hid (∀ v,v=Z36 j (l.getD j 0)→∀ n,Z0n ((wr.setCell ⟨w.heap.size,j,none⟩ (.int .u8 (v:Nat))).drewN n) w.heap.size 16 (fun k=> .int .u8 ((cl l (j+1) k:Nat):Int))∧Below w.heap.size w ((wr.setCell ⟨w.heap.size,j,none⟩ (.int .u8 (v:Nat))).drewN n)):=fun v hv n=>by
    subst hv
    exact⟨((a.set j _ f).congr fun k _=>cl_step l j k).drewN n,below_drewN (h.setCell (p:=⟨w.heap.size,j,none⟩) (Nat.le_refl _) _) n⟩
   by_cases s:j%4=3
   ·have c:=q.out (l.getD j 0%16) (by unfold Z36;rw [if_pos s]) 0
    have b:Hid _:=c
    have o:(j:Int)%4=3:=by omega
    clear a h q c
    generalize l.getD j 0=x at *
    have u:((x%16:Nat):Int)=(x:Int)%16:=by omega
    rw [u] at b
    clear u
    go_wp2
    go_roundw
    case rel=>exact⟨j+1,by omega,by go_num,b.out.1,b.out.2⟩
    case measure=>simp [intOf];omega
   ·by_cases r:j%4=0∧0<j
    ·have c:=q.out (l.getD j 0-l.getD j 0%4) (by unfold Z36;rw [if_neg s,if_pos r])
     have b:Hid _:=c
     have o:(j:Int)%4=0:=by omega
     have E:(0:Int)<j:=by omega
     have F:0<j:=r.2
     clear a h q c
     generalize l.getD j 0=x at *
     have u:IntKind.u8.wrap ((x:Int)-(x:Int)%4)=((x-x%4:Nat):Int):=by rw [IntKind.wrap_u8];omega
     go_wp2_with fail
     go_region
     all_goals
      go_wp2
      go_roundw
      case rel=>exact⟨j+1,by omega,by go_num,(b.out 1).1,(b.out 1).2⟩
      case measure=>simp [intOf];omega
    ·have b:Hid (Z0n wr w.heap.size 16 (fun k=> .int .u8 ((cl l (j+1) k:Nat):Int))∧Below w.heap.size w wr):=⟨a.congr fun k _=>by rw [cl_same l j k (by unfold Z36;rw [if_neg s,if_neg r])],h⟩
     have o:¬ (j:Int)%4=3:=by omega
     clear a h q C K I
     by_cases G:j=0
     ·subst G
      go_wp2
      go_roundw
      case rel=>exact⟨1,by omega,rfl,b.out⟩
      case measure=>simp [intOf]
     ·have J:¬ (j:Int)%4=0:=by omega
      clear r
      go_wp2
      go_roundw
      case rel=>exact⟨j+1,by omega,by go_num,b.out⟩
      case measure=>simp [intOf];omega
  ·obtain rfl:j=16:=by omega
   have d:=run_convert_bytes_arg (P:=prog) wr 90 5 underlying90 underlying5 w.heap.size 0 16 (grownCap w 16 0 5) ((Z0O l).map fun (x:Nat)=>(x:Int)) (by simp [Z0O]) (fun i hi=>by
    rw [Nat.zero_add,a.cells i hi]
    unfold cl
    rw [if_pos hi]
    simp [Z0O,List.getD,hi]) 9 underlying9
   rw [show strOfNums ((Z0O l).map fun (x:Nat)=>(x:Int))=strN (Z0O l) from rfl,← D.out] at d
   have b:Hid (Below w.heap.size w wr):=h
   clear a h
   go_wp2
   go_ret
   exact⟨rfl,b.out⟩
def sumF (f:Nat→Nat):Nat→Nat
 | 0=>0
 | n+1=>sumF f n+f n*1024 ^ n
theorem Z12 {f g:Nat→Nat}:∀ n,(∀ i,i<n→f i=g i)→sumF f n=sumF g n
 | 0,_=>rfl
 | n+1,h=>by rw [sumF,sumF,Z12 n fun i hi=>h i (by omega),h n (by omega)]
theorem Z6Z (f g:Nat→Nat)(m:Nat):∀ n,sumF (fun k=>f k+m*g k) n=sumF f n+m*sumF g n
 | 0=>by simp [sumF]
 | n+1=>by
  rw [sumF,sumF,sumF,Z6Z f g m n,Nat.add_mul,Nat.mul_add,Nat.mul_assoc]
  omega
theorem Z68 (f:Nat→Nat)(n:Nat):∀ m,sumF f (n+m)=sumF f n+1024 ^ n*sumF (fun k=>f (n+k)) m
 | 0=>by simp [sumF]
 | m+1=>by
  rw [← Nat.add_assoc,sumF,sumF,Z68 f n m,Nat.mul_add,Nat.pow_add,Nat.mul_left_comm (1024 ^ n)]
  omega
def Z0U (f:Nat→Nat):Nat→Nat
 | 0=>0
 | i+1=>(Z0U f i+f i)/1024
theorem Z83 (f:Nat→Nat):∀ i,Z0U f i=sumF f i/1024 ^ i
 | 0=>by simp [Z0U,sumF]
 | i+1=>by
  rw [Z0U,Z83 f i,sumF,Nat.pow_succ,← Nat.div_div_eq_div_mul,Nat.add_mul_div_right _ _ (Nat.pow_pos (by decide))]
theorem carryD_eq (f:Nat→Nat)(i m:Nat):(Z0U f i+f i)%1024=sumF f (i+1+m)/1024 ^ i%1024:=by
 rw [Z68 f (i+1) m,sumF,Z83,Nat.pow_succ,Nat.mul_assoc,Nat.mul_comm (1024 ^ i) (1024*_),Nat.add_mul_div_right _ _ (Nat.pow_pos (by decide)),Nat.add_mul_div_right _ _ (Nat.pow_pos (by decide)),Nat.add_mul_mod_self_left]
def Z2e (t:List Nat)(n k:Nat):Nat:=(if k<n then t.getD k 0 else 0)+5*(if k+13<n then t.getD (k+13) 0 else 0)
theorem foldF_all (t:List Nat)(k:Nat):Z2e t t.length k=t.getD k 0+5*t.getD (k+13) 0:=by
 unfold Z2e
 have h:∀ i,(if i<t.length then t.getD i 0 else 0)=t.getD i 0:=fun i=>by
  by_cases a:i<t.length
  ·rw [if_pos a]
  ·rw [if_neg a,Z0W _ _ (by omega)]
 rw [h,h]
def bigN (t:List Nat):Nat:=sumF (fun k=>t.getD k 0) 13+1024 ^ 13*sumF (fun k=>t.getD (k+13) 0) 13
def Z2t (t:List Nat):Nat:=sumF (fun k=>t.getD k 0) 13+5*sumF (fun k=>t.getD (k+13) 0) 13
theorem turn_sum (t:List Nat):sumF (Z2e t t.length) 13=Z2t t:=by
 rw [Z12 13 fun i _=>foldF_all t i,Z6Z (fun k=>t.getD k 0) (fun k=>t.getD (k+13) 0) 5 13,Z2t]
theorem turn_mod (t:List Nat):Z2t t%Z0x=bigN t%Z0x:=by
 refine Z65 (bigN t) (Z2t t) (sumF (fun k=>t.getD (k+13) 0) 13) ?_
 unfold Z2t bigN Z0x
 omega
def Z58 (V:Nat):List Nat:=digL V 13 ++ [V/1024 ^ 13%1024,V/1024 ^ 13/1024%1024,V/1024 ^ 13/1048576]
theorem Z4l (V:Nat):(Z58 V).length=16:=by simp [Z58,Z15]
theorem Z4m (V n i:Nat)(h:i<n):(digL V n).getD i 0=V/1024 ^ i%1024:=by
 rw [List.getD_eq_getElem?_getD,digL,List.getElem?_map,List.getElem?_range h,show 1024 ^ i=2 ^ (10*i) by rw [Nat.pow_mul]]
 rfl
theorem Z39 (V:Nat):∀ n,sumF (fun k=>V/1024 ^ k%1024) n=V%1024 ^ n
 | 0=>by simp [sumF,Nat.mod_one]
 | n+1=>by
  rw [sumF,Z39 V n,Nat.pow_succ,Nat.mod_mul,Nat.mul_comm (1024 ^ n)]
theorem turnL_low (V k:Nat)(h:k<13):(Z58 V).getD k 0=V/1024 ^ k%1024:=by
 rw [Z58,Z3s _ _ _ _ (by rw [Z15];exact h),Z4m V 13 k h]
theorem turnL_high (V k:Nat):(Z58 V).getD (k+13) 0= [V/1024 ^ 13%1024,V/1024 ^ 13/1024%1024,V/1024 ^ 13/1048576].getD k 0:=by
 rw [Z58,Z2l _ _ _ _ (by rw [Z15];omega),Z15,show k+13-13=k by omega]
theorem turnL_turn (V:Nat):Z2t (Z58 V)=V%1024 ^ 13+5*(V/1024 ^ 13):=by
 rw [Z2t,Z12 13 fun i hi=>turnL_low V i hi,Z39,Z12 13 fun i _=>turnL_high V i]
 generalize V/1024 ^ 13=c
 have e:sumF (fun k=> [c%1024,c/1024%1024,c/1048576].getD k 0) 13=c:=by
  simp [sumF]
  omega
 rw [e]
def Z2C (V:Nat):Nat→Nat
 | 0=>V
 | k+1=>Z2C V k%1024 ^ 13+5*(Z2C V k/1024 ^ 13)
theorem turnsN_mod (V:Nat):∀ k,Z2C V k%Z0x=V%Z0x
 | 0=>rfl
 | k+1=>by
  rw [← turnsN_mod V k,Z2C]
  refine Z65 (Z2C V k) _ (Z2C V k/1024 ^ 13) ?_
  generalize Z2C V k=x
  unfold Z0x
  omega
theorem Z6v (V:Nat)(h:V<1024 ^ 13*1073741824):∀ k,Z2C V (k+2)<1024 ^ 13
 | 0=>by
  show (V%1024 ^ 13+5*(V/1024 ^ 13))%1024 ^ 13+5*((V%1024 ^ 13+5*(V/1024 ^ 13))/1024 ^ 13)<1024 ^ 13
  omega
 | k+1=>by
  have:=Z6v V h k
  rw [show k+1+2=(k+2)+1 from rfl,Z2C]
  generalize Z2C V (k+2)=x at *
  omega
def Z6F (l:List Nat):Prop:= ∀ x∈l,x<1073741824
theorem Z3C {l:List Nat}(h:Z6F l)(i:Nat):l.getD i 0<1073741824:=Z0k (by decide) h i
def stL (T:List Nat):Nat→List Nat
 | 0=>T
 | k+1=>Z58 (Z2C (Z2t T) k)
theorem stL_turn (T:List Nat):∀ k,Z2t (stL T k)=Z2C (Z2t T) k
 | 0=>rfl
 | k+1=>by rw [stL,turnL_turn];rfl
theorem stL_next (T:List Nat)(k:Nat):Z58 (Z2t (stL T k))=stL T (k+1):=by rw [stL_turn];rfl
set_option maxRecDepth 100000 in
theorem sum_aux (C s t p:Nat)(h:s*1023≤C*(p-1))(ht:t≤C*p)(hp:0<p):(s+t)*1023≤C*(p*1024-1):=by
 rw [Nat.mul_sub,Nat.mul_one] at h
 rw [Nat.mul_sub,Nat.mul_one,← Nat.mul_assoc]
 have b:=Nat.le_mul_of_pos_right C hp
 generalize C*p=a at *
 omega
theorem sumF_lt (f:Nat→Nat)(h:∀ i,f i<1073741824):∀ n,sumF f n*1023≤1073741823*(1024 ^ n-1)
 | 0=>by simp [sumF]
 | n+1=>by
  rw [sumF,Nat.pow_succ]
  exact sum_aux _ _ _ _ (sumF_lt f h n) (Nat.mul_le_mul_right _ (by have:=h n;omega)) (Nat.pow_pos (by decide))
theorem turnN_lt {T:List Nat}(h:Z6F T):Z2t T<1024 ^ 13*1073741824:=by
 have d:=sumF_lt (fun k=>T.getD k 0) (fun i=>Z3C h i) 13
 have c:=sumF_lt (fun k=>T.getD (k+13) 0) (fun i=>Z3C h (i+13)) 13
 unfold Z2t
 generalize sumF (fun k=>T.getD k 0) 13=a at *
 generalize sumF (fun k=>T.getD (k+13) 0) 13=b at *
 omega
theorem turnsN_le (V:Nat)(h:V<1024 ^ 13*1073741824):∀ k,Z2C V k<1024 ^ 13*1073741824
 | 0=>h
 | k+1=>by
  have:=turnsN_le V h k
  rw [Z2C]
  generalize Z2C V k=x at *
  omega
theorem stL_small {T:List Nat}(h:Z6F T):∀ k,Z6F (stL T k)
 | 0=>h
 | k+1=>by
  have hv:=turnsN_le (Z2t T) (turnN_lt h) k
  rw [stL]
  generalize Z2C (Z2t T) k=V at *
  intro x hx
  rw [Z58] at hx
  rcases List.mem_append.1 hx with hx | hx
  ·have:=Z3B V 13 x hx
   omega
  ·simp only [List.mem_cons,List.not_mem_nil,or_false] at hx
   rcases hx with rfl | rfl | rfl
   ·omega
   ·omega
   ·omega
theorem stL_length {T:List Nat}(h:T.length≤26):∀ k,(stL T k).length≤26
 | 0=>h
 | k+1=>by rw [stL,Z4l];decide
theorem foldF_low (L:List Nat)(i k:Nat)(hi:i<13):Z2e L (i+1) k=if k=i then L.getD i 0 else Z2e L i k:=by
 unfold Z2e
 by_cases e:k=i
 ·subst e
  rw [if_pos (by omega),if_neg (by omega),if_pos rfl]
  omega
 ·rw [if_neg e]
  by_cases h:k<i
  ·rw [if_pos h,if_pos (by omega),if_neg (by omega),if_neg (by omega)]
  ·rw [if_neg h,if_neg (by omega),if_neg (by omega),if_neg (by omega)]
theorem foldF_zero (L:List Nat)(i:Nat):Z2e L i i=0:=by
 unfold Z2e
 rw [if_neg (by omega),if_neg (by omega)]
theorem foldF_high (L:List Nat)(i k:Nat)(hi:13≤i)(hk:k<13):Z2e L (i+1) k=if k=i-13 then Z2e L i (i-13)+5*L.getD i 0 else Z2e L i k:=by
 unfold Z2e
 by_cases e:k=i-13
 ·subst e
  rw [if_pos (by omega),if_pos (by omega),if_pos rfl,if_pos (by omega),if_neg (by omega),show i-13+13=i by omega]
  omega
 ·rw [if_neg e]
  by_cases h:k+13<i
  ·have a:k<i+1:=by omega
   have b:k+13<i+1:=by omega
   have c:k<i:=by omega
   rw [if_pos a,if_pos b,if_pos c,if_pos h]
  ·have a:k<i+1:=by omega
   have b:¬ k+13<i+1:=by omega
   have c:k<i:=by omega
   rw [if_pos a,if_neg b,if_pos c,if_neg h]
theorem foldF_lt {L:List Nat}(h:Z6F L)(n k:Nat):Z2e L n k<6442450944:=by
 have b:=Z3C h k
 have a:=Z3C h (k+13)
 unfold Z2e
 split <;> split <;> omega
theorem foldF_init (L:List Nat)(k:Nat):Z2e L 0 k=0:=by
 unfold Z2e
 rw [if_neg (by omega),if_neg (by omega)]
theorem Z84 {f:Nat→Nat}(h:∀ i,f i<6442450944):∀ i,Z0U f i<6442450944
 | 0=>by simp [Z0U]
 | i+1=>by
  have:=Z84 h i
  have:=h i
  rw [Z0U]
  omega
def Z4n (f:Nat→Nat)(i k:Nat):Nat:=if k<i then (Z0U f k+f k)%1024 else f k
theorem carryD_step (f:Nat→Nat)(i k:Nat):Z4n f (i+1) k=if k=i then (Z0U f i+f i)%1024 else Z4n f i k:=by
 unfold Z4n
 by_cases e:k=i
 ·subst e;rw [if_pos (by omega),if_pos rfl]
 ·rw [if_neg e]
  by_cases h:k<i
  ·rw [if_pos h,if_pos (by omega)]
  ·rw [if_neg h,if_neg (by omega)]
theorem carryD_all (L:List Nat)(k:Nat)(hk:k<13):Z4n (Z2e L L.length) 13 k=(digL (Z2t L) 13).getD k 0:=by
 unfold Z4n
 rw [if_pos hk,Z4m _ _ _ hk,← turn_sum,carryD_eq (Z2e L L.length) k (12-k),show k+1+(12-k)=13 by omega]
theorem carry_last (L:List Nat):Z0U (Z2e L L.length) 13=Z2t L/1024 ^ 13:=by rw [Z83,turn_sum]
theorem eight (T:List Nat)(h:Z6F T):∃ X,stL T 8=Z58 X∧X<1024 ^ 13∧X%Z0x=bigN T%Z0x:=by
 refine⟨Z2C (Z2t T) 7,rfl,Z6v (Z2t T) (turnN_lt h) 5,?_⟩
 rw [turnsN_mod,turn_mod]
theorem over (X:Nat)(h1:Z0x≤X)(h2:X<1024 ^ 13):∃ y,X%Z0x=y∧∀ i,i<13→(digL X 13).getD i 0=Z2K.getD i 0+(digL y 13).getD i 0:=by
 obtain⟨y,rfl⟩:∃ y,X=Z0x+y:=⟨X-Z0x,by omega⟩
 have b:y<5:=by unfold Z0x at h2;omega
 refine⟨y,by rw [Nat.add_mod_left,Nat.mod_eq_of_lt (by unfold Z0x;omega)],?_⟩
 have a:∀ y:Fin 5,∀ i:Fin 13,(digL (Z0x+y.val) 13).getD i.val 0=Z2K.getD i.val 0+(digL y.val 13).getD i.val 0:=by decide
 exact fun i hi=>a ⟨y,b⟩ ⟨i,hi⟩
end Bx
end Go.Proofs.YtijpgmkdnemmbaaGreatDoor
