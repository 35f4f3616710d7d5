/- Part 34. -/
import Derived.Test.YtijpgmkdnemmbaaGreatDoorMg33
import Derived.BigRegion
set_option maxRecDepth 20000
set_option maxHeartbeats 8000000
open Go.RowKit Go.Proofs.Tryz
namespace Go.Proofs.YtijpgmkdnemmbaaGreatDoor
namespace Sm
theorem Z0H.only {w w':World}(h:Z0H w){B:Nat}(ho:Only B w w')(hB:2<B):Z0H w':=by
 have a:=ho.2 2 h.1 (by omega)
 refine⟨Nat.lt_of_lt_of_le h.1 ho.size,fun i hi=> ?_⟩
 have b:=h.2 i hi
 simpa [World.cell?,a] using b
theorem Z51 (w:World)(B:Nat)(st X:St)(rest:List Value)(hr:Row w B 150 (mixA st++rest)) :
  ((storeCells ⟨B,1,none⟩ (stC X).toList).run prog w= .ok () (w.setCells B 1 (stC X).toList))∧Row (w.setCells B 1 (stC X).toList) B 150 (mixA X++rest)∧Only B w (w.setCells B 1 (stC X).toList):=by
 have b:(stC X).toList.length=8:=rfl
 refine⟨run_storeCells_cells (P:=prog) B 1 (stC X).toList 0 w (fun j hj=> ?_) (fun j _=>hr.frozen _) (fun v hv=> ?_),?_,Only.setCells _ _ _ (Only.refl _ _)⟩
 ·rw [hr.cell,List.getElem?_append_left (by simp [mixA];omega),List.getElem?_eq_getElem (by simp [mixA];omega)];rfl
 ·simp only [stC,List.mem_cons,List.not_mem_nil,or_false] at hv
  rcases hv with rfl | rfl | rfl | rfl | rfl | rfl | rfl | rfl <;> rfl
 ·have a:Row w B 150 ([Value.bool true]++(stC st).toList++rest):=hr
  exact Row.setCells (stC X).toList (stC st).toList [Value.bool true] w 1 rfl rfl a
theorem mixAt_block (w:World)(B:Nat)(l1 un:List Nat)(h_ N:Nat)(hh:h_=l1.length%64)(hk:un.length=64-h_)
  (hr:Row w B 150 (mixV (comp (Z0e l1 (l1.length/64)) (l1.drop (64*(l1.length/64))++un)) (byV (l1.drop (64*(l1.length/64))++un)) 0 N)):Z1D w B (l1++un) N:=by
 have b:(l1++un).length/64=l1.length/64+1:=by rw [List.length_append];omega
 have a:(l1++un).length%64=0:=by rw [List.length_append];omega
 refine⟨byV (l1.drop (64*(l1.length/64))++un),by rw [a];simp [byV];omega,?_⟩
 rw [b,a,Z32 l1 un _ (by omega) (by omega),List.drop_eq_nil_of_le (show (l1++un).length≤64*(l1.length/64+1) by rw [List.length_append];omega)]
 exact hr
set_option maxRecDepth 10000 in
theorem Z5z (B:Nat)(l:List Nat)(hb:Z03 l)(s:ByteArray)(hs:l.length+s.size<1099511627776)(w:World)(hq:Z0H w)(hB:2<B)(hm:Z1D w B l l.length) :
  Calls prog 104 #[.pointer (some ⟨B,0,none⟩),.string s] w fun e w'=>e= .returned (.tuple #[])∧Z1D w' B (l++Z00 s) (l++Z00 s).length∧Only B w w':=by
 obtain⟨R,V,K⟩:=hm
 have I:(mixA (Z0e l (l.length/64))++(byV (l.drop (64*(l.length/64)))++R)).length=73:=by simp [mixA,byV,V];omega
 have c0:w.cell? ⟨B,0,none⟩=some (.bool true):=K.cell 0
 have c1:w.cell? ⟨B,74,none⟩=some (.int .i64 (l.length:Nat)):=by
  rw [K.cell,mixV,List.getElem?_append_right (by rw [I];decide),I];rfl
 have c2:∀ i,w.frozen? ⟨B,i,none⟩=false:=fun i=>K.frozen i
 have j1:IntKind.i64.wrap ((l.length:Int)+(s.size:Int))=l.length+s.size:=by rw [IntKind.wrap_i64];omega
 go_enter func104,ntmps104
 go_wp2_with fail
 obtain⟨W1,Y⟩:∃ W1,w.setCell ⟨B,74,none⟩ (.int .i64 ((l.length:Int)+(s.size:Int)))=W1:=⟨_,rfl⟩
 have O:Z1D W1 B l (l++Z00 s).length:=by
  refine⟨R,V,?_⟩
  rw [← Y]
  have h1:Row w B 150 ((mixA (Z0e l (l.length/64))++(byV (l.drop (64*(l.length/64)))++R) ++ [.int .i64 ((l.length%64:Nat):Int)]) ++ [.int .i64 (l.length:Nat)] ++ []):=by simpa [mixV,mixT] using K
  have h2:=h1.set (n:=74) (.int .i64 ((l.length:Int)+(s.size:Int))) (by rw [List.length_append,I];rfl)
  have h3:((l++Z00 s).length:Int)=(l.length:Int)+(s.size:Int):=by rw [List.length_append,Z01];omega
  rw [mixV,mixT,h3]
  simpa using h2
 have J:Only B w W1:=by rw [← Y];exact (Only.refl _ _).setCell _ _
 rw [Y]
 clear c0 c1 c2 I V K Y
 go_loopw [1] (fun v wr=> ∃ p:Nat,p≤s.size∧v= .string (s.extract p s.size)∧Z1D wr B (l++(Z00 s).take p) (l++Z00 s).length∧Only B w wr) (fun v _=>Z2m v)
 case atStart=>exact⟨0,Nat.zero_le _,by simp,by simpa using O,J⟩
 case round =>
  clear O J
  obtain⟨p,hp,rfl,O,J⟩:=hrel
  by_cases ap:p<s.size
  case neg =>
   obtain rfl:p=s.size:=by omega
   have hx:(s.extract s.size s.size).size=0:=by simp
   obtain⟨u,Q⟩:∃ u,u=s.extract s.size s.size:=⟨_,rfl⟩
   rw [← Q] at hx
   rw [← Q]
   clear Q
   go_wp2
   go_end0
   rw [List.take_of_length_le (by rw [Z01];exact Nat.le_refl _)] at O
   exact⟨rfl,O,J⟩
  obtain⟨F,C⟩:∃ F,F=l++(Z00 s).take p:=⟨_,rfl⟩
  obtain⟨N,hN⟩:∃ N,N=(l++Z00 s).length:=⟨_,rfl⟩
  rw [← C,← hN] at O
  obtain⟨R,V,K⟩:=O
  obtain⟨k,Z⟩:∃ k,k=F.length%64:=⟨_,rfl⟩
  have ao:k<64:=by omega
  have I:=Z62 F R V
  have M:(byV (F.drop (64*(F.length/64)))).length=k:=by simp [byV];omega
  rw [← Z] at K V
  obtain⟨u,Q⟩:∃ u,u=s.extract p s.size:=⟨_,rfl⟩
  have U:u.size=s.size-p:=by rw [Q];simp
  have H:Z00 u=(Z00 s).drop p:=by
   rw [Q,Z0h,List.take_of_length_le (by rw [List.length_drop,Z01];omega)]
  have c1:wr.cell? ⟨B,73,none⟩=some (.int .i64 (k:Nat)):=by
   rw [K.cell,mixV,List.getElem?_append_right (by rw [I];decide),I];rfl
  have i0:(0:Int)<(u.size:Int):=by omega
  have i1:(0:Int)≤(k:Int):=by omega
  have i2:(k:Int)≤64:=by omega
  have i3:¬ 64=k:=by omega
  obtain⟨D,W⟩:∃ D,D=F.drop (64*(F.length/64)):=⟨_,rfl⟩
  obtain⟨r,E⟩:∃ r,r=Z0e F (F.length/64):=⟨_,rfl⟩
  rw [← W,← E] at K
  rw [← W] at M
  have ac:(byV (Z00 u)).length=u.size:=by simp [byV,Z01]
  rw [← Q]
  have HH:Hid (F=l++(Z00 s).take p∧N=(l++Z00 s).length∧k=F.length%64∧u=s.extract p s.size∧u.size=s.size-p∧Z00 u=(Z00 s).drop p∧D=F.drop (64*(F.length/64))∧r=Z0e F (F.length/64)):=⟨C,hN,Z,Q,U,H,W,E⟩
  clear I C hN Z Q U H W E hp hs
  by_cases ak:u.size<64-k
  ·have y:∀ j,j<u.size→(wr.drew.cell? ⟨B,9+k+j,none⟩).isSome=true:=fun j hj=>by
    show (wr.cell? ⟨B,9+k+j,none⟩).isSome=true
    rw [K.cell,List.getElem?_eq_getElem (by simp [mixV,mixA,mixT,M,V];omega)];rfl
   have X:=run_copy_string (P:=prog) wr.drew 90 9 3 5 B (9+k) (64-k) (64-k) u underlying90 Z2W (by omega) y (fun j _=>K.frozen _)
   have hv:(u.data.toList.map fun x=>Value.int .u8 (x.toNat:Int))=byV (Z00 u):=by simp [byV,Z00]
   rw [hv] at X
   have z:Row (wr.drew.setCells B (9+k) (byV (Z00 u))) B 150 ((mixA r++byV D)++byV (Z00 u)++(R.drop u.size++mixT k N)):=Row.setCells _ (R.take u.size) _ _ _ (by rw [ac,List.length_take,V];omega) (by simp [mixA,M];omega) (by
    have e:mixV r (byV D++(R.take u.size++R.drop u.size)) k N=(mixA r++byV D)++R.take u.size++(R.drop u.size++mixT k N):=by simp only [mixV,List.append_assoc]
    rw [← e,List.take_append_drop]
    exact K)
   have L:Only B w (wr.drew.setCells B (9+k) (byV (Z00 u))):=Only.setCells _ _ _ J.drew
   obtain⟨w2,a5⟩:∃ w2,wr.drew.setCells B (9+k) (byV (Z00 u))=w2:=⟨_,rfl⟩
   rw [a5] at X z L
   have m:(mixA r++byV D++byV (Z00 u)++R.drop u.size).length=73:=by simp [mixA,M,ac,V];omega
   have c2:w2.cell? ⟨B,73,none⟩=some (.int .i64 (k:Nat)):=by
    rw [z.cell,← List.append_assoc,List.getElem?_append_right (by rw [m];decide),m];rfl
   have c3:∀ i,w2.frozen? ⟨B,i,none⟩=false:=fun i=>z.frozen i
   have j2:IntKind.i64.wrap ((k:Int)+(u.size:Int))=k+u.size:=by rw [IntKind.wrap_i64];omega
   have o:Row (w2.setCell ⟨B,73,none⟩ (.int .i64 ((k:Int)+(u.size:Int)))) B 150 ((mixA r++byV D++byV (Z00 u)++R.drop u.size) ++ [.int .i64 ((k:Int)+(u.size:Int))] ++ [.int .i64 (N:Nat)]):=Row.set (q:= .int .i64 (k:Nat)) (by simpa [mixT] using z) _ m.symm
   have A:=L.setCell 73 (.int .i64 ((k:Int)+(u.size:Int)))
   obtain⟨w3,a3⟩:∃ w3,w2.setCell ⟨B,73,none⟩ (.int .i64 ((k:Int)+(u.size:Int)))=w3:=⟨_,rfl⟩
   rw [a3] at o A
   have c4:w3.cell? ⟨B,73,none⟩=some (.int .i64 ((k:Int)+(u.size:Int))):=by
    rw [o.cell,List.append_assoc,List.getElem?_append_right (by rw [m];decide),m];rfl
   have ib:(((k:Int)+(u.size:Int))==64)=false:=by simp;omega
   have k1:(u.size:Int)≤u.size:=by omega
   have HF:Hid (Z1D w3 B (l++(Z00 s).take s.size) N∧Only B w w3):=by
    obtain⟨C,hN,Z,Q,U,H,W,E⟩:=HH.out
    have e:l++(Z00 s).take s.size=F++Z00 u:=by
     rw [C,H,List.append_assoc,List.take_append_drop,List.take_of_length_le (by rw [Z01];exact Nat.le_refl _)]
    rw [e]
    refine⟨mixAt_part w3 B F (Z00 u) (R.drop u.size) k u.size N _ ?_ Z (Z01 u) (by omega) (by rw [List.length_drop,V];omega) (by rw [← E,← W];exact o),A⟩
    omega
   clear K z o J L A y hv
   go_wp2_with fail
   go_region_held3 (fun w'=>w'.cell? ⟨B,73,none⟩=some (.int .i64 (k:Nat))) (simp [go_sem, *]) (fail)
   go_wp2_with fail
   refine⟨⟨s.size,Nat.le_refl _,by simp,?_,HF.out.2⟩,by simp [Z2m];omega⟩
   have:=HF.out.1
   rw [HH.out.2.1] at this
   exact this
  ·have y:∀ j,j<64-k→(wr.drew.cell? ⟨B,9+k+j,none⟩).isSome=true:=fun j hj=>by
    show (wr.cell? ⟨B,9+k+j,none⟩).isSome=true
    rw [K.cell,List.getElem?_eq_getElem (by simp [mixV,mixA,mixT,M,V];omega)];rfl
   have X:=Z2M (P:=prog) wr.drew 90 9 3 5 B (9+k) (64-k) (64-k) u underlying90 Z2W (by omega) y (fun j _=>K.frozen _)
   obtain⟨t,G⟩:∃ t,t=(Z00 u).take (64-k):=⟨_,rfl⟩
   have hv:((u.data.toList.take (64-k)).map fun x=>Value.int .u8 (x.toNat:Int))=byV t:=by rw [G,byV,Z00,List.map_take,List.map_take,List.map_map];rfl
   have S:t.length=64-k:=by rw [G,List.length_take,Z01];omega
   have ag:Z03 t:=by rw [G];exact (Z04 u).take _
   have HU:Hid (t=(Z00 u).take (64-k)):=G
   clear G
   rw [hv] at X
   have z:Row (wr.drew.setCells B (9+k) (byV t)) B 150 ((mixA r++byV D)++byV t++mixT k N):=Row.setCells _ R _ _ _ (by simp [byV,S,V]) (by simp [mixA,M];omega) (by
    have e:mixV r (byV D++R) k N=(mixA r++byV D)++R++mixT k N:=by simp only [mixV,List.append_assoc]
    rw [← e]
    exact K)
   have L:Only B w (wr.drew.setCells B (9+k) (byV t)):=Only.setCells _ _ _ J.drew
   obtain⟨w2,a5⟩:∃ w2,wr.drew.setCells B (9+k) (byV t)=w2:=⟨_,rfl⟩
   rw [a5] at X z L
   have m:(mixA r++byV D++byV t).length=73:=by
    have:(byV t).length=64-k:=by simp [byV,S]
    simp [mixA,M,this];omega
   have c2:w2.cell? ⟨B,73,none⟩=some (.int .i64 (k:Nat)):=by
    rw [z.cell,List.getElem?_append_right (by rw [m];decide),m];rfl
   have c3:∀ i,w2.frozen? ⟨B,i,none⟩=false:=fun i=>z.frozen i
   have j2:IntKind.i64.wrap ((k:Int)+((64-k:Nat):Int))=64:=by rw [IntKind.wrap_i64];omega
   have o:Row (w2.setCell ⟨B,73,none⟩ (.int .i64 64)) B 150 ((mixA r++byV D++byV t) ++ [.int .i64 64] ++ [.int .i64 (N:Nat)]):=Row.set (q:= .int .i64 (k:Nat)) (by simpa [mixT] using z) _ m.symm
   have A:=L.setCell 73 (.int .i64 64)
   obtain⟨w3,a3⟩:∃ w3,w2.setCell ⟨B,73,none⟩ (.int .i64 64)=w3:=⟨_,rfl⟩
   rw [a3] at o A
   have c4:w3.cell? ⟨B,73,none⟩=some (.int .i64 64):=by
    rw [o.cell,List.append_assoc,List.getElem?_append_right (by rw [m];decide),m];rfl
   have k1:((64-k:Nat):Int)≤u.size:=by omega
   have k2:(0:Int)≤((64-k:Nat):Int):=by omega
   have e1:w3.cell? ⟨B,1,none⟩=some (.int .u32 (r.a:Nat)):=o.cell 1
   have e2:w3.cell? ⟨B,2,none⟩=some (.int .u32 (r.b:Nat)):=o.cell 2
   have e3:w3.cell? ⟨B,3,none⟩=some (.int .u32 (r.c:Nat)):=o.cell 3
   have e4:w3.cell? ⟨B,4,none⟩=some (.int .u32 (r.d:Nat)):=o.cell 4
   have e5:w3.cell? ⟨B,5,none⟩=some (.int .u32 (r.e:Nat)):=o.cell 5
   have e6:w3.cell? ⟨B,6,none⟩=some (.int .u32 (r.f:Nat)):=o.cell 6
   have e7:w3.cell? ⟨B,7,none⟩=some (.int .u32 (r.g:Nat)):=o.cell 7
   have e8:w3.cell? ⟨B,8,none⟩=some (.int .u32 (r.h:Nat)):=o.cell 8
   have a2:Hid (Row w3 B 150 ((mixA r++byV D++byV t) ++ [.int .i64 64] ++ [.int .i64 (N:Nat)])∧Only B w w3∧(mixA r++byV D++byV t).length=73):=⟨o,A,m⟩
   clear K z o J L A y hv m
   go_wp2_with fail
   go_region_held3 (fun w'=>w'.cell? ⟨B,73,none⟩=some (.int .i64 (k:Nat))) (simp [go_sem, *]) (fail)
   go_wp2_with fail
   obtain⟨o,A,m⟩:=a2.out
   obtain⟨C,hN,Z,Q,U,H,W,E⟩:=HH.out
   have a1:Z03 F:=by rw [C];exact hb.append ((Z04 s).take _)
   have ab:Z03 (D++t):=by rw [W];exact (a1.drop _).append ag
   have a8:r.ok:=by rw [E];exact Z31 _ _
   have a9:(D++t).length=64:=by
    have h1:D.length=k:=by rw [W,List.length_drop];omega
    rw [List.length_append,h1,S];omega
   have HC:Hid (∀ i,i<64→w3.cell? ⟨B,9+i,none⟩=some (.int .u8 ((D++t).getD i 0:Nat))):=fun i hi=>by
    have ah:Row w3 B 150 (mixA r++byV (D++t)++([.int .i64 64] ++ [.int .i64 (N:Nat)])):=by
     rw [Z05];simpa using o
    rw [ah.cell,List.append_assoc,List.getElem?_append_right (by simp [mixA]),show 9+i-(mixA r).length=i by simp [mixA],List.getElem?_append_left (by rw [byV,List.length_map,a9];exact hi),Z0s _ i (by omega)]
   have aa:Z0H w3:=hq.only A hB
   have HQ:Hid (Z0H w3∧Z03 (D++t)∧r.ok∧B<w3.heap.size):=⟨aa,ab,a8,o.lt⟩
   have aj:Hid (Row w3 B 150 (mixA r++(byV D++byV t++([.int .i64 64] ++ [.int .i64 (N:Nat)])))):=by
    show Row _ _ _ _
    simpa using o
   clear o A m C hN Z Q U H W E a1 ab a8 a9 aa
   go_region_with (first | (go_at_call 129;refine (Z3S r HQ.out.2.2.1 (D++t) HQ.out.2.1 B 9 w3.drew HQ.out.1 HQ.out.2.2.2 HC.out).mono ?_;rintro e w4 ⟨rfl,a4⟩;have HS:=Z51 w4 B r (comp r (D++t)) _ (Row.below (w:=w3.drew) aj.out a4 HQ.out.2.2.2);obtain⟨w5,ad⟩:∃ w5,w4.setCells B 1 (stC (comp r (D++t))).toList=w5:=⟨_,rfl⟩;rw [ad] at HS;have ai:=HS.1;have H5:Hid _:=HS.2;clear HS ad))
   obtain⟨af,ae⟩:=H5.out
   have a0:(mixA (comp r (D++t))++(byV D++byV t)).length=73:=by
    have:=a2.out.2.2
    simp [mixA] at this ⊢;omega
   have T:Row w5 B 150 ((mixA (comp r (D++t))++(byV D++byV t)) ++ [.int .i64 64] ++ [.int .i64 (N:Nat)]):=by simpa using af
   have c5:w5.cell? ⟨B,73,none⟩=some (.int .i64 64):=by
    rw [T.cell,List.append_assoc,List.getElem?_append_right (by rw [a0];decide),a0];rfl
   have c6:w5.frozen? ⟨B,73,none⟩=false:=T.frozen _
   have a6:Row (w5.setCell ⟨B,73,none⟩ (.int .i64 0)) B 150 (mixV (comp r (D++t)) (byV (D++t)) 0 N):=by
    have h1:=T.set (.int .i64 0) a0.symm
    rw [mixV,Z05,mixT]
    simpa using h1
   have a7:Only B w (w5.setCell ⟨B,73,none⟩ (.int .i64 0)):=(((a2.out.2.1.drew).trans (Only.of_below a4)).trans ae).setCell _ _
   obtain⟨w6,al⟩:∃ w6,w5.setCell ⟨B,73,none⟩ (.int .i64 0)=w6:=⟨_,rfl⟩
   rw [al] at a6 a7
   have HF:Hid (Z1D w6 B (l++(Z00 s).take (p+(64-k))) N∧Only B w w6∧u.extract (64-k) u.size=s.extract (p+(64-k)) s.size∧p+(64-k)≤s.size∧N=(l++Z00 s).length):=by
    obtain⟨C,hN,Z,Q,U,H,W,E⟩:=HH.out
    have e:l++(Z00 s).take (p+(64-k))=F++t:=by
     rw [C,HU.out,H,List.append_assoc,List.take_add]
    refine⟨?_,a7,?_,by omega,hN⟩
    ·rw [e]
     exact mixAt_block w6 B F t k N Z S (by rw [← E,← W];exact a6)
    ·rw [Q,ByteArray.extract_extract]
     congr 1
     simp
     omega
   clear af ae T a6 a7 a4 ai H5 a0
   go_wp2_with fail
   refine⟨⟨p+(64-k),HF.out.2.2.2.1,by rw [HF.out.2.2.1],?_,HF.out.2.1⟩,?_⟩
   ·rw [← HF.out.2.2.2.2];exact HF.out.1
   ·simp [Z2m];omega
def Z4i (w:World)(B:Nat)(t:TypeId)(A C:List Value)(l:List Nat)(n:Nat):Prop:= ∃ R:List Value,R.length=64-l.length%64∧(∀ v∈R,v.oneCell'=true)∧Row w B t (A++mixV (Z0e l (l.length/64)) (byV (l.drop (64*(l.length/64)))++R) (l.length%64) n++C)
theorem byV_one (l:List Nat):∀ v∈byV l,v.oneCell'=true:=fun v hv=>by
 obtain⟨x,_,rfl⟩:=List.mem_map.1 hv
 rfl
theorem Row.at {w:World}{g n:Nat}{t:TypeId}{X Y:List Value}{v:Value}(h:Row w g t (X ++ [v]++Y))(hn:n=X.length):w.cell? ⟨g,n,none⟩=some v:=by
 rw [h.cell,List.append_assoc,List.getElem?_append_right (by omega),hn,Nat.sub_self]
 rfl
theorem Z7J (st:St):(mixA st).length=9:=rfl
theorem store_stateM (w:World)(B o:Nat)(t:TypeId)(A:List Value)(ho:o=A.length)(st X:St)(rest:List Value)(hr:Row w B t (A++mixA st++rest)) :
  ((storeCells ⟨B,o+1,none⟩ (stC X).toList).run prog w= .ok () (w.setCells B (o+1) (stC X).toList))∧Row (w.setCells B (o+1) (stC X).toList) B t (A++mixA X++rest)∧Only B w (w.setCells B (o+1) (stC X).toList):=by
 refine⟨run_storeCells_cells (P:=prog) B (o+1) (stC X).toList 0 w (fun j hj=> ?_) (fun j _=>hr.frozen _) (fun v hv=> ?_),?_,Only.setCells _ _ _ (Only.refl _ _)⟩
 ·have d:(stC X).toList.length=8:=rfl
  have c:(mixA st).length=9:=rfl
  rw [hr.cell,List.getElem?_eq_getElem (by simp only [List.length_append];omega)];rfl
 ·simp only [stC,List.mem_cons,List.not_mem_nil,or_false] at hv
  rcases hv with rfl | rfl | rfl | rfl | rfl | rfl | rfl | rfl <;> rfl
 ·have b:Row w B t ((A ++ [Value.bool true])++(stC st).toList++rest):=by
   have e:A++mixA st++rest=(A ++ [Value.bool true])++(stC st).toList++rest:=by simp [mixA,stC]
   rw [← e];exact hr
  have a:=Row.setCells (stC X).toList (stC st).toList (A ++ [Value.bool true]) w (o+1) rfl (by simp [ho]) b
  have e:A++mixA X++rest=(A ++ [Value.bool true])++(stC X).toList++rest:=by simp [mixA,stC]
  rw [e];exact a
theorem Z2B {w:World}{B o:Nat}{t:TypeId}{A X Y Z V:List Value}{st:St}(hr:Row w B t (A++mixA st++X++Y++Z++V))(ho:o=A.length)(n:Nat)(v:Value)(hn:n<9)(hv:(mixA st)[n]? = some v):w.cell? ⟨B,o+n,none⟩=some v:=by
 rw [hr.cell,List.append_assoc,List.append_assoc,List.append_assoc,List.append_assoc,List.getElem?_append_right (by omega),ho,Nat.add_sub_cancel_left,List.getElem?_append_left (by rw [Z7J];exact hn),hv]
theorem mixIn_part (w:World)(B:Nat)(t:TypeId)(A C:List Value)(l1 un:List Nat)(R:List Value)(h_ k N:Nat)(z:Int)(hz:z=((h_+k:Nat):Int))(hh:h_=l1.length%64)(hk:un.length=k)(hlt:h_+k<64)(hR:R.length=64-(h_+k))(hRo:∀ v∈R,v.oneCell'=true)
  (hr:Row w B t ((A++mixA (Z0e l1 (l1.length/64))++byV (l1.drop (64*(l1.length/64)))++byV un++R) ++ [.int .i64 z]++([.int .i64 (N:Nat)]++C))):Z4i w B t A C (l1++un) N:=by
 have b:(l1++un).length/64=l1.length/64:=by rw [List.length_append];omega
 have a:(l1++un).length%64=h_+k:=by rw [List.length_append];omega
 refine⟨R,by rw [a];exact hR,hRo,?_⟩
 rw [b,a,Z2Q _ _ _ (by omega),List.drop_append_of_le_length (by omega),Z05,mixV,mixT,← hz]
 simpa using hr
theorem mixIn_block (w:World)(B:Nat)(t:TypeId)(A C:List Value)(l1 un:List Nat)(h_ N:Nat)(hh:h_=l1.length%64)(hk:un.length=64-h_)
  (hr:Row w B t (A++mixV (comp (Z0e l1 (l1.length/64)) (l1.drop (64*(l1.length/64))++un)) (byV (l1.drop (64*(l1.length/64))++un)) 0 N++C)):Z4i w B t A C (l1++un) N:=by
 have b:(l1++un).length/64=l1.length/64+1:=by rw [List.length_append];omega
 have a:(l1++un).length%64=0:=by rw [List.length_append];omega
 refine⟨byV (l1.drop (64*(l1.length/64))++un),by rw [a];simp [byV];omega,byV_one _,?_⟩
 rw [b,a,Z32 l1 un _ (by omega) (by omega),List.drop_eq_nil_of_le (show (l1++un).length≤64*(l1.length/64+1) by rw [List.length_append];omega)]
 exact hr
set_option maxRecDepth 10000 in
theorem Z6U (B o:Nat)(t:TypeId)(A C:List Value)(ho0:o=A.length)(l:List Nat)(hb:Z03 l)(s:ByteArray)(hs:l.length+s.size<1099511627776)(w:World)(hq:Z0H w)(hB:2<B)(hm:Z4i w B t A C l l.length) :
  Calls prog 104 #[.pointer (some ⟨B,o,none⟩),.string s] w fun e w'=>e= .returned (.tuple #[])∧Z4i w' B t A C (l++Z00 s) (l++Z00 s).length∧Only B w w':=by
 have q:Hid (o=A.length):=ho0
 clear ho0
 obtain⟨R,hR,a1,Q⟩:=hm
 have Y:(A++mixA (Z0e l (l.length/64))++(byV (l.drop (64*(l.length/64)))++R)).length=o+73:=by have h0:=q.out;simp [mixA,byV,hR];omega
 have ab:Row w B t ((A++mixA (Z0e l (l.length/64))++(byV (l.drop (64*(l.length/64)))++R) ++ [.int .i64 ((l.length%64:Nat):Int)]) ++ [.int .i64 (l.length:Nat)]++C):=by simpa [mixV,mixT] using Q
 have c0:w.cell? ⟨B,o,none⟩=some (.bool true):=by
  rw [Q.cell,List.append_assoc,List.getElem?_append_right (by have:=q.out;omega),q.out,Nat.sub_self];rfl
 have c1:w.cell? ⟨B,o+74,none⟩=some (.int .i64 (l.length:Nat)):=ab.at (by rw [List.length_append,Y];rfl)
 have c2:∀ i,w.frozen? ⟨B,i,none⟩=false:=fun i=>Q.frozen i
 have j1:IntKind.i64.wrap ((l.length:Int)+(s.size:Int))=l.length+s.size:=by rw [IntKind.wrap_i64];omega
 go_enter func104,ntmps104
 go_wp2_with fail
 obtain⟨W1,a2⟩:∃ W1,w.setCell ⟨B,o+74,none⟩ (.int .i64 ((l.length:Int)+(s.size:Int)))=W1:=⟨_,rfl⟩
 have U:Z4i W1 B t A C l (l++Z00 s).length:=by
  refine⟨R,hR,a1,?_⟩
  rw [← a2]
  have h2:=ab.set (n:=o+74) (.int .i64 ((l.length:Int)+(s.size:Int))) (by rw [List.length_append,Y];rfl)
  have h3:((l++Z00 s).length:Int)=(l.length:Int)+(s.size:Int):=by rw [List.length_append,Z01];omega
  rw [mixV,mixT,h3]
  simpa using h2
 have O:Only B w W1:=by rw [← a2];exact (Only.refl _ _).setCell _ _
 rw [a2]
 clear c0 c1 c2 Y hR a1 Q ab a2
 go_loopw [1] (fun v wr=> ∃ p:Nat,p≤s.size∧v= .string (s.extract p s.size)∧Z4i wr B t A C (l++(Z00 s).take p) (l++Z00 s).length∧Only B w wr) (fun v _=>Z2m v)
 case atStart=>exact⟨0,Nat.zero_le _,by simp,by simpa using U,O⟩
 case round =>
  clear U O
  obtain⟨p,hp,rfl,U,O⟩:=hrel
  by_cases ax:p<s.size
  case neg =>
   obtain rfl:p=s.size:=by omega
   have hx:(s.extract s.size s.size).size=0:=by simp
   obtain⟨u,V⟩:∃ u,u=s.extract s.size s.size:=⟨_,rfl⟩
   rw [← V] at hx
   rw [← V]
   clear V
   go_wp2
   go_end0
   rw [List.take_of_length_le (by rw [Z01];exact Nat.le_refl _)] at U
   exact⟨rfl,U,O⟩
  obtain⟨F,I⟩:∃ F,F=l++(Z00 s).take p:=⟨_,rfl⟩
  obtain⟨N,hN⟩:∃ N,N=(l++Z00 s).length:=⟨_,rfl⟩
  rw [← I,← hN] at U
  obtain⟨R,hR,a1,Q⟩:=U
  have al:Hid (∀ v∈R,v.oneCell'=true):=a1
  clear a1
  obtain⟨k,hh⟩:∃ k,k=F.length%64:=⟨_,rfl⟩
  have aw:k<64:=by omega
  have Y:(A++mixA (Z0e F (F.length/64))++(byV (F.drop (64*(F.length/64)))++R)).length=o+73:=by have h0:=q.out;simp [mixA,byV,hR];omega
  have T:(byV (F.drop (64*(F.length/64)))).length=k:=by simp [byV];omega
  rw [← hh] at Q hR
  obtain⟨u,V⟩:∃ u,u=s.extract p s.size:=⟨_,rfl⟩
  have Z:u.size=s.size-p:=by rw [V];simp
  have M:Z00 u=(Z00 s).drop p:=by
   rw [V,Z0h,List.take_of_length_le (by rw [List.length_drop,Z01];omega)]
  have c1:wr.cell? ⟨B,o+73,none⟩=some (.int .i64 (k:Nat)):=by
   have h1:Row wr B t ((A++mixA (Z0e F (F.length/64))++(byV (F.drop (64*(F.length/64)))++R)) ++ [.int .i64 (k:Nat)]++([.int .i64 (N:Nat)]++C)):=by simpa [mixV,mixT] using Q
   exact h1.at Y.symm
  have i0:(0:Int)<(u.size:Int):=by omega
  have i1:(0:Int)≤(k:Int):=by omega
  have i2:(k:Int)≤64:=by omega
  have i3:¬ 64=k:=by omega
  obtain⟨D,hD⟩:∃ D,D=F.drop (64*(F.length/64)):=⟨_,rfl⟩
  obtain⟨r,J⟩:∃ r,r=Z0e F (F.length/64):=⟨_,rfl⟩
  rw [← hD,← J] at Q
  rw [← hD] at T
  have ag:(byV (Z00 u)).length=u.size:=by simp [byV,Z01]
  rw [← V]
  have HH:Hid (F=l++(Z00 s).take p∧N=(l++Z00 s).length∧k=F.length%64∧u=s.extract p s.size∧u.size=s.size-p∧Z00 u=(Z00 s).drop p∧D=F.drop (64*(F.length/64))∧r=Z0e F (F.length/64)):=⟨I,hN,hh,V,Z,M,hD,J⟩
  clear Y I hN hh V Z M hD J hp hs
  by_cases au:u.size<64-k
  ·have E:∀ j,j<u.size→(wr.drew.cell? ⟨B,o+9+k+j,none⟩).isSome=true:=fun j hj=>by
    show (wr.cell? ⟨B,o+9+k+j,none⟩).isSome=true
    rw [Q.cell,List.getElem?_eq_getElem (by have h0:=q.out;simp [mixV,mixA,mixT,T,hR];omega)];rfl
   have a0:=run_copy_string (P:=prog) wr.drew 90 9 3 5 B (o+9+k) (64-k) (64-k) u underlying90 Z2W (by omega) E (fun j _=>Q.frozen _)
   have hv:(u.data.toList.map fun x=>Value.int .u8 (x.toNat:Int))=byV (Z00 u):=by simp [byV,Z00]
   rw [hv] at a0
   have K:Row (wr.drew.setCells B (o+9+k) (byV (Z00 u))) B t ((A++mixA r++byV D)++byV (Z00 u)++(R.drop u.size++(mixT k N++C))):=Row.setCells _ (R.take u.size) _ _ _ (by rw [ag,List.length_take,hR];omega) (by have h0:=q.out;simp [mixA,T];omega) (by
    have e:A++mixV r (byV D++(R.take u.size++R.drop u.size)) k N++C=(A++mixA r++byV D)++R.take u.size++(R.drop u.size++(mixT k N++C)):=by simp only [mixV,List.append_assoc]
    rw [← e,List.take_append_drop]
    exact Q)
   have S:Only B w (wr.drew.setCells B (o+9+k) (byV (Z00 u))):=Only.setCells _ _ _ O.drew
   obtain⟨w2,a7⟩:∃ w2,wr.drew.setCells B (o+9+k) (byV (Z00 u))=w2:=⟨_,rfl⟩
   rw [a7] at a0 K S
   have y:(A++mixA r++byV D++byV (Z00 u)++R.drop u.size).length=o+73:=by have h0:=q.out;simp [mixA,T,ag,hR];omega
   have G:Row w2 B t ((A++mixA r++byV D++byV (Z00 u)++R.drop u.size) ++ [.int .i64 (k:Nat)]++([.int .i64 (N:Nat)]++C)):=by simpa [mixT] using K
   have c2:w2.cell? ⟨B,o+73,none⟩=some (.int .i64 (k:Nat)):=G.at y.symm
   have c3:∀ i,w2.frozen? ⟨B,i,none⟩=false:=fun i=>K.frozen i
   have j2:IntKind.i64.wrap ((k:Int)+(u.size:Int))=k+u.size:=by rw [IntKind.wrap_i64];omega
   have m:Row (w2.setCell ⟨B,o+73,none⟩ (.int .i64 ((k:Int)+(u.size:Int)))) B t ((A++mixA r++byV D++byV (Z00 u)++R.drop u.size) ++ [.int .i64 ((k:Int)+(u.size:Int))]++([.int .i64 (N:Nat)]++C)):=G.set _ y.symm
   have H:=S.setCell (o+73) (.int .i64 ((k:Int)+(u.size:Int)))
   obtain⟨w3,a5⟩:∃ w3,w2.setCell ⟨B,o+73,none⟩ (.int .i64 ((k:Int)+(u.size:Int)))=w3:=⟨_,rfl⟩
   rw [a5] at m H
   have c4:w3.cell? ⟨B,o+73,none⟩=some (.int .i64 ((k:Int)+(u.size:Int))):=m.at y.symm
   have ib:(((k:Int)+(u.size:Int))==64)=false:=by simp;omega
   have k1:(u.size:Int)≤u.size:=by omega
   have HF:Hid (Z4i w3 B t A C (l++(Z00 s).take s.size) N∧Only B w w3):=by
    obtain⟨I,hN,hh,V,Z,M,hD,J⟩:=HH.out
    have e:l++(Z00 s).take s.size=F++Z00 u:=by
     rw [I,M,List.append_assoc,List.take_append_drop,List.take_of_length_le (by rw [Z01];exact Nat.le_refl _)]
    rw [e]
    refine⟨mixIn_part w3 B t A C F (Z00 u) (R.drop u.size) k u.size N _ ?_ hh (Z01 u) (by omega) (by rw [List.length_drop,hR];omega) (fun v hv=>al.out v (List.mem_of_mem_drop hv)) (by rw [← J,← hD];exact m),H⟩
    omega
   clear Q K G m O S H E hv
   go_wp2_with fail
   go_region_held3 (fun w'=>w'.cell? ⟨B,o+73,none⟩=some (.int .i64 (k:Nat))) (simp [go_sem, *]) (fail)
   go_wp2_with fail
   refine⟨⟨s.size,Nat.le_refl _,by simp,?_,HF.out.2⟩,by simp [Z2m];omega⟩
   have:=HF.out.1
   rw [HH.out.2.1] at this
   exact this
  ·have E:∀ j,j<64-k→(wr.drew.cell? ⟨B,o+9+k+j,none⟩).isSome=true:=fun j hj=>by
    show (wr.cell? ⟨B,o+9+k+j,none⟩).isSome=true
    rw [Q.cell,List.getElem?_eq_getElem (by have h0:=q.out;simp [mixV,mixA,mixT,T,hR];omega)];rfl
   have a0:=Z2M (P:=prog) wr.drew 90 9 3 5 B (o+9+k) (64-k) (64-k) u underlying90 Z2W (by omega) E (fun j _=>Q.frozen _)
   obtain⟨z,L⟩:∃ z,z=(Z00 u).take (64-k):=⟨_,rfl⟩
   have hv:((u.data.toList.take (64-k)).map fun x=>Value.int .u8 (x.toNat:Int))=byV z:=by rw [L,byV,Z00,List.map_take,List.map_take,List.map_map];rfl
   have W:z.length=64-k:=by rw [L,List.length_take,Z01];omega
   have ak:Z03 z:=by rw [L];exact (Z04 u).take _
   have HU:Hid (z=(Z00 u).take (64-k)):=L
   clear L
   rw [hv] at a0
   have K:Row (wr.drew.setCells B (o+9+k) (byV z)) B t ((A++mixA r++byV D)++byV z++(mixT k N++C)):=Row.setCells _ R _ _ _ (by simp [byV,W,hR]) (by have h0:=q.out;simp [mixA,T];omega) (by
    have e:A++mixV r (byV D++R) k N++C=(A++mixA r++byV D)++R++(mixT k N++C):=by simp only [mixV,List.append_assoc]
    rw [← e]
    exact Q)
   have S:Only B w (wr.drew.setCells B (o+9+k) (byV z)):=Only.setCells _ _ _ O.drew
   obtain⟨w2,a7⟩:∃ w2,wr.drew.setCells B (o+9+k) (byV z)=w2:=⟨_,rfl⟩
   rw [a7] at a0 K S
   have y:(A++mixA r++byV D++byV z).length=o+73:=by
    have:(byV z).length=64-k:=by simp [byV,W]
    have h0:=q.out
    simp [mixA,T,this];omega
   have G:Row w2 B t ((A++mixA r++byV D++byV z) ++ [.int .i64 (k:Nat)]++([.int .i64 (N:Nat)]++C)):=by simpa [mixT] using K
   have c2:w2.cell? ⟨B,o+73,none⟩=some (.int .i64 (k:Nat)):=G.at y.symm
   have c3:∀ i,w2.frozen? ⟨B,i,none⟩=false:=fun i=>K.frozen i
   have j2:IntKind.i64.wrap ((k:Int)+((64-k:Nat):Int))=64:=by rw [IntKind.wrap_i64];omega
   have m:Row (w2.setCell ⟨B,o+73,none⟩ (.int .i64 64)) B t ((A++mixA r++byV D++byV z) ++ [.int .i64 64]++([.int .i64 (N:Nat)]++C)):=G.set _ y.symm
   have H:=S.setCell (o+73) (.int .i64 64)
   obtain⟨w3,a5⟩:∃ w3,w2.setCell ⟨B,o+73,none⟩ (.int .i64 64)=w3:=⟨_,rfl⟩
   rw [a5] at m H
   have c4:w3.cell? ⟨B,o+73,none⟩=some (.int .i64 64):=m.at y.symm
   have k1:((64-k:Nat):Int)≤u.size:=by omega
   have k2:(0:Int)≤((64-k:Nat):Int):=by omega
   have e1:w3.cell? ⟨B,o+1,none⟩=some (.int .u32 (r.a:Nat)):=Z2B m q.out 1 _ (by decide) rfl
   have e2:w3.cell? ⟨B,o+2,none⟩=some (.int .u32 (r.b:Nat)):=Z2B m q.out 2 _ (by decide) rfl
   have e3:w3.cell? ⟨B,o+3,none⟩=some (.int .u32 (r.c:Nat)):=Z2B m q.out 3 _ (by decide) rfl
   have e4:w3.cell? ⟨B,o+4,none⟩=some (.int .u32 (r.d:Nat)):=Z2B m q.out 4 _ (by decide) rfl
   have e5:w3.cell? ⟨B,o+5,none⟩=some (.int .u32 (r.e:Nat)):=Z2B m q.out 5 _ (by decide) rfl
   have e6:w3.cell? ⟨B,o+6,none⟩=some (.int .u32 (r.f:Nat)):=Z2B m q.out 6 _ (by decide) rfl
   have e7:w3.cell? ⟨B,o+7,none⟩=some (.int .u32 (r.g:Nat)):=Z2B m q.out 7 _ (by decide) rfl
   have e8:w3.cell? ⟨B,o+8,none⟩=some (.int .u32 (r.h:Nat)):=Z2B m q.out 8 _ (by decide) rfl
   have a4:Hid (Row w3 B t ((A++mixA r++byV D++byV z) ++ [.int .i64 64]++([.int .i64 (N:Nat)]++C))∧Only B w w3∧(A++mixA r++byV D++byV z).length=o+73):=⟨m,H,y⟩
   clear Q K G m O S H E hv y
   go_wp2_with fail
   go_region_held3 (fun w'=>w'.cell? ⟨B,o+73,none⟩=some (.int .i64 (k:Nat))) (simp [go_sem, *]) (fail)
   go_wp2_with fail
   obtain⟨m,H,y⟩:=a4.out
   obtain⟨I,hN,hh,V,Z,M,hD,J⟩:=HH.out
   have a3:Z03 F:=by rw [I];exact hb.append ((Z04 s).take _)
   have af:Z03 (D++z):=by rw [hD];exact (a3.drop _).append ak
   have ac:r.ok:=by rw [J];exact Z31 _ _
   have ad:(D++z).length=64:=by
    have h1:D.length=k:=by rw [hD,List.length_drop];omega
    rw [List.length_append,h1,W];omega
   have HC:Hid (∀ i,i<64→w3.cell? ⟨B,o+9+i,none⟩=some (.int .u8 ((D++z).getD i 0:Nat))):=fun i hi=>by
    have ao:Row w3 B t (A++mixA r++byV (D++z)++([.int .i64 64] ++ [.int .i64 (N:Nat)]++C)):=by
     rw [Z05];simpa using m
    have ar:(A++mixA r).length=o+9:=by have h0:=q.out;simp [mixA];omega
    rw [ao.cell,List.append_assoc,List.getElem?_append_right (by omega),ar,show o+9+i-(o+9)=i by omega,List.getElem?_append_left (by rw [byV,List.length_map,ad];exact hi),Z0s _ i (by omega)]
   have ae:Z0H w3:=hq.only H hB
   have HQ:Hid (Z0H w3∧Z03 (D++z)∧r.ok∧B<w3.heap.size):=⟨ae,af,ac,m.lt⟩
   have aq:Hid (Row w3 B t (A++mixA r++(byV D++byV z++([.int .i64 64] ++ [.int .i64 (N:Nat)]++C)))):=by
    show Row _ _ _ _
    simpa using m
   clear m H y I hN hh V Z M hD J a3 af ac ad ae
   go_region_with (first | (go_at_call 129;refine (Z3S r HQ.out.2.2.1 (D++z) HQ.out.2.1 B (o+9) w3.drew HQ.out.1 HQ.out.2.2.2 HC.out).mono ?_;rintro e w4 ⟨rfl,a6⟩;have HS:=store_stateM w4 B o t A q.out r (comp r (D++z)) _ (Row.below (w:=w3.drew) aq.out a6 HQ.out.2.2.2);obtain⟨w5,ah⟩:∃ w5,w4.setCells B (o+1) (stC (comp r (D++z))).toList=w5:=⟨_,rfl⟩;rw [ah] at HS;have ap:=HS.1;have H5:Hid _:=HS.2;clear HS ah))
   obtain⟨aj,ai⟩:=H5.out
   have aa:(A++mixA (comp r (D++z))++(byV D++byV z)).length=o+73:=by
    have:=a4.out.2.2
    have h0:=q.out
    simp only [List.length_append,Z7J] at this ⊢;omega
   have X:Row w5 B t ((A++mixA (comp r (D++z))++(byV D++byV z)) ++ [.int .i64 64]++([.int .i64 (N:Nat)]++C)):=by simpa using aj
   have c5:w5.cell? ⟨B,o+73,none⟩=some (.int .i64 64):=X.at aa.symm
   have c6:w5.frozen? ⟨B,o+73,none⟩=false:=X.frozen _
   have a8:Row (w5.setCell ⟨B,o+73,none⟩ (.int .i64 0)) B t (A++mixV (comp r (D++z)) (byV (D++z)) 0 N++C):=by
    have h1:=X.set (.int .i64 0) aa.symm
    rw [mixV,Z05,mixT]
    simpa using h1
   have a9:Only B w (w5.setCell ⟨B,o+73,none⟩ (.int .i64 0)):=(((a4.out.2.1.drew).trans (Only.of_below a6)).trans ai).setCell _ _
   obtain⟨w6,av⟩:∃ w6,w5.setCell ⟨B,o+73,none⟩ (.int .i64 0)=w6:=⟨_,rfl⟩
   rw [av] at a8 a9
   have HF:Hid (Z4i w6 B t A C (l++(Z00 s).take (p+(64-k))) N∧Only B w w6∧u.extract (64-k) u.size=s.extract (p+(64-k)) s.size∧p+(64-k)≤s.size∧N=(l++Z00 s).length):=by
    obtain⟨I,hN,hh,V,Z,M,hD,J⟩:=HH.out
    have e:l++(Z00 s).take (p+(64-k))=F++z:=by
     rw [I,HU.out,M,List.append_assoc,List.take_add]
    refine⟨?_,a9,?_,by omega,hN⟩
    ·rw [e]
     exact mixIn_block w6 B t A C F z k N hh W (by rw [← J,← hD];exact a8)
    ·rw [V,ByteArray.extract_extract]
     congr 1
     simp
     omega
   clear aj ai X a8 a9 a6 ap H5 aa
   go_wp2_with fail
   refine⟨⟨p+(64-k),HF.out.2.2.2.1,by rw [HF.out.2.2.1],?_,HF.out.2.1⟩,?_⟩
   ·rw [← HF.out.2.2.2.2];exact HF.out.1
   ·simp [Z2m];omega
end Sm
end Go.Proofs.YtijpgmkdnemmbaaGreatDoor
