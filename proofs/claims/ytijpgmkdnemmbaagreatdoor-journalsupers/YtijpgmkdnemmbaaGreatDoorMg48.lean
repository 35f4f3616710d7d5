/- Part 48. -/
import Derived.Test.YtijpgmkdnemmbaaGreatDoorMg47
set_option maxRecDepth 20000
set_option maxHeartbeats 8000000
open Go.RowKit Go.Proofs.Tryz
namespace Go.Proofs.YtijpgmkdnemmbaaGreatDoor
namespace Bx
structure Z0A (w:World) (g:Nat) (L:List Nat):Prop where
 lt:g<w.heap.size
 cells:∀ i,i<16→w.cell? ⟨g,i,none⟩=some (.int .i64 (L.getD i 0:Nat))
 free:∀ i,i<16→w.frozen? ⟨g,i,none⟩=false
theorem Z0A.below {w w':World}{g B:Nat}{L:List Nat}(h:Z0A w g L)(hb:Below B w w')(hg:g<B):Z0A w' g L :=
 ⟨Nat.lt_of_lt_of_le h.lt hb.size,fun i hi=>(hb.cell (p:=⟨g,i,none⟩) hg).trans (h.cells i hi),fun i hi=>(hb.frozen (p:=⟨g,i,none⟩) hg).trans (h.free i hi)⟩
theorem getD_set (L:List Nat)(i j v:Nat)(h:i<L.length):(L.set i v).getD j 0=if j=i then v else L.getD j 0:=by
 rw [List.getD_eq_getElem?_getD,List.getElem?_set]
 by_cases e:i=j
 ·subst e
  rw [if_pos rfl,if_pos h,if_pos rfl];rfl
 ·rw [if_neg e,if_neg (Ne.symm e),List.getD_eq_getElem?_getD]
theorem Z0A.set {w:World}{g:Nat}{L:List Nat}(h:Z0A w g L)(hl:L.length=16)(i v:Nat)(hi:i<16):Z0A (w.setCell ⟨g,i,none⟩ (.int .i64 v)) g (L.set i v):=by
 refine⟨by have:=h.lt;simp [World.setCell];exact this,fun j hj=> ?_,fun j hj=> ?_⟩
 ·rw [getD_set L i j v (by omega)]
  by_cases e:j=i
  ·subst e
   rw [if_pos rfl,World.cell?_setCell_same _ _ _ (h.cells j hj)]
  ·rw [if_neg e,World.cell?_setCell_other _ _ _ _ (by intro a;injection a with _ h2;exact e h2.symm)]
   exact h.cells j hj
 ·rw [World.frozen?_setCell];exact h.free j hj
def rq1 (L:List Nat)(a b:Nat):List Nat:=L.set a ((L.getD a 0+L.getD b 0)%4294967296)
def rq2 (n:Nat)(L:List Nat)(d a:Nat):List Nat:=L.set d (rotl (L.getD d 0 ^^^ L.getD a 0) n)
def rq (L:List Nat)(a b c d:Nat):List Nat:=rq2 7 (rq1 (rq2 8 (rq1 (rq2 12 (rq1 (rq2 16 (rq1 L a b) d a) c d) b c) a b) d a) c d) b c
theorem Z3D (L:List Nat)(a b:Nat):(rq1 L a b).length=L.length:=by simp [rq1]
theorem Z3E (n:Nat)(L:List Nat)(a b:Nat):(rq2 n L a b).length=L.length:=by simp [rq2]
theorem Z2D (L:List Nat)(a b c d:Nat):(rq L a b c d).length=L.length:=by simp [rq,Z3D,Z3E]
def Z1K (L:List Nat):Prop:= ∀ x∈L,x<4294967296
theorem Z1K.get {L:List Nat}(h:Z1K L)(i:Nat):L.getD i 0<4294967296:=Z0k (by decide) h i
theorem Z1K.set {L:List Nat}(h:Z1K L)(i v:Nat)(hv:v<4294967296):Z1K (L.set i v):=fun x hx=>by
 rcases List.mem_or_eq_of_mem_set hx with h1 | h1
 ·exact h x h1
 ·omega
theorem Z1K.rq1 {L:List Nat}(h:Z1K L)(a b:Nat):Z1K (rq1 L a b):=h.set _ _ (Nat.mod_lt _ (by decide))
theorem Z1K.rq2 {L:List Nat}(h:Z1K L)(n a b:Nat):Z1K (rq2 n L a b):=h.set _ _ (Z7N _ _)
def ended (A:Act)(W:World):Exit→Act→World→Prop
 | .normal,a,w=>a=A∧w=W
 | _,_,_=>False
theorem Z2E {A:Act}{W:World}{e:Exit}{a:Act}{w:World}(h:ended A W e a w):e= .normal∧a=A∧w=W:=by
 cases e <;> first | exact⟨rfl,h⟩ | exact (h:False).elim
set_option maxRecDepth 10000 in
theorem Z1r (L:List Nat)(hl:L.length=16)(hw:Z1K L)(a b c d:Nat)(ha:a<16)(hb:b<16)(hc:c<16)(hd:d<16)(gx capx:Nat)(w:World)(hx:Z0A w gx L) :
  Calls prog 156 #[.slice (some ⟨gx,0,none⟩) 16 capx,.int .i64 a,.int .i64 b,.int .i64 c,.int .i64 d] w fun e w'=> ∃ g cap,e= .returned (.slice (some ⟨g,0,none⟩) 16 cap)∧Z0A w' g (rq L a b c d)∧w.heap.size≤g∧Below w.heap.size w w':=by
 obtain⟨i0,hi,ay,b0,az⟩:=info_parts Z1j
 have hE:OwnC (w.alloc (.cells #[] 3)) w.heap.size w.heap.size 0 0 []:=⟨rfl,Nat.le_refl _,by simp,Nat.le_refl _,by decide,fun i hi=>absurd hi (Nat.not_lt_zero _),fun i hi=>absurd hi (Nat.not_lt_zero _),fun i u h=>by simp at h⟩
 have aq:Below w.heap.size w (w.alloc (.cells #[] 3)):=(Below.refl _ _).alloc (Nat.le_refl _) _
 have aw:=hx.below aq hx.lt
 have a0:∀ j u,(L.map fun (x:Nat)=>Value.int .i64 (x:Int))[j]? = some u→(w.alloc (.cells #[] 3)).cell? ((⟨gx,0,none⟩:Addr).add j)=some u:=fun j u hj=>by
  have av:=(List.getElem?_eq_some_iff.1 hj).1
  rw [List.length_map] at av
  have ax:(⟨gx,0,none⟩:Addr).add j=⟨gx,j,none⟩:=by unfold Addr.add;split <;> simp_all
  rw [ax,aw.cells j (by omega),← hj,List.getElem?_map,List.getElem?_eq_getElem av,Z0b _ _ av]
  rfl
 clear hx aw
 go_enter func156,ntmps156
 go_wp2_with (at_builtin;refine Z0C _ rfl _ _ 67 rfl w.heap.size 3 i0 (.int .i64 0) 8 underlying67 hi ay b0 az rfl w.heap.size 0 0 [] rfl hE ⟨gx,0,none⟩ 16 capx (L.map fun (x:Nat)=>Value.int .i64 (x:Int)) rfl (by simp [hl]) a0 ?c2 ?c3 ?c4 ?c5 ?_)
 case c2 =>
  intro u hu
  obtain⟨x,_,rfl⟩:=List.mem_map.1 hu
  rfl
 case c3=>unfold maxLen;omega
 case c4=>omega
 case c5=>simp
 intro g cap w0 t a6 _
 have ah:=aq.grown a6 (by simp) (fun k hk=>by obtain rfl:w.heap.size=k:=(by simpa using hk);exact Nat.le_refl _)
 have n:=t.low
 have h0:Z0A w0 g L:=⟨t.lt,fun i hi=>t.cells i _ (by rw [List.getElem?_map,List.getElem?_eq_getElem (by omega),Z0b _ _ (by omega)];rfl),fun i hi=>t.free i (by have:=t.room;omega)⟩
 clear t a6 hE aq a0
 have ia:(a:Int)<16:=by omega
 have ib:(b:Int)<16:=by omega
 have ic:(c:Int)<16:=by omega
 have b3:(d:Int)<16:=by omega
 obtain⟨o,Z⟩:∃ o,o=L:=⟨_,rfl⟩
 rw [← Z] at h0
 have ai:o.length=16:=by rw [Z];exact hl
 have ag:Z1K o:=by rw [Z];exact hw
 have H0:Hid _:=Z
 clear Z hw hl
 go_wp2_with fail
 have R:=h0.cells a ha
 have P:=h0.cells b hb
 have T:=h0.free a ha
 have z:=ag.get a
 have D:=ag.get b
 obtain⟨I,l⟩:∃ v,v=(o.getD a 0+o.getD b 0)%4294967296:=⟨_,rfl⟩
 have m:IntKind.i64.wrap ((o.getD a 0:Nat)+(o.getD b 0:Nat):Int)=((o.getD a 0+o.getD b 0:Nat):Int):=by rw [IntKind.wrap_i64];omega
 have f:=fun w=>rlow_z ((o.getD a 0+o.getD b 0:Nat):Int) (o.getD a 0+o.getD b 0) rfl (by omega) I l w
 have h1:Z0A ((w0.setCell ⟨g,a,none⟩ (.int .i64 I)).drew) g (rq1 o a b):=by
  have:=h0.set ai a I ha
  rw [l] at this ⊢
  exact⟨this.lt,this.cells,this.free⟩
 have E:Below w.heap.size w ((w0.setCell ⟨g,a,none⟩ (.int .i64 I)).drew):=(ah.setCell (p:=⟨g,a,none⟩) n (.int .i64 I)).drew
 obtain⟨y,Y⟩:∃ L',L'=rq1 o a b:=⟨_,rfl⟩
 rw [← Y] at h1
 have ak:y.length=16:=by rw [Y,Z3D];exact ai
 have ae:Z1K y:=by rw [Y];exact ag.rq1 _ _
 have H1:Hid (y=rq1 o a b):=Y
 have G1:Hid (Z0A ((w0.setCell ⟨g,a,none⟩ (.int .i64 I)).drew) g y∧Below w.heap.size w ((w0.setCell ⟨g,a,none⟩ (.int .i64 I)).drew)):=⟨h1,E⟩
 clear l Y h1 E h0 ah ai ag
 generalize o.getD a 0+o.getD b 0=z0 at *
 generalize o.getD a 0=X0 at *
 generalize o.getD b 0=Z0 at *
 refine Code.wp_mono (Q:=ended { tmps:=#[.slice (some ⟨gx,0,none⟩) 16 capx,.int .i64 a,.int .i64 b,.int .i64 c,.int .i64 d,undef,undef,undef,undef,undef,.slice none 0 0,.slice (some ⟨g,0,none⟩) 16 cap,.slice (some ⟨w.heap.size,0,none⟩) 0 0,.slice (some ⟨gx,0,none⟩) 16 capx,.slice (some ⟨g,0,none⟩) 16 cap,.slice (some ⟨g,0,none⟩) 16 cap,.int .i64 a,.slice (some ⟨g,0,none⟩) 16 cap,.int .i64 a,.pointer (some ⟨g,a,none⟩),.int .i64 X0,.slice (some ⟨g,0,none⟩) 16 cap,.int .i64 b,.pointer (some ⟨g,b,none⟩),.int .i64 Z0,.int .i64 (z0:Nat),.int .i64 I,.pointer (some ⟨g,a,none⟩),undef,undef,undef,undef,undef,undef,undef,undef,undef,undef,undef,undef,undef,undef,undef,undef,undef,undef,undef,undef,undef,undef,undef,undef,undef,undef,undef,undef,undef,undef,undef,undef,undef,undef,undef,undef,undef,undef,undef,undef,undef,undef,undef,undef,undef,undef,undef,undef,undef,undef,undef,undef,undef,undef,undef,undef,undef,undef,undef,undef,undef,undef,undef,undef,undef,undef,undef,undef,undef,undef,undef,undef,undef,undef,undef,undef,undef,undef,undef,undef,undef,undef,undef,undef,undef,undef,undef,undef,undef,undef,undef,undef],defers:= []} ((w0.setCell ⟨g,a,none⟩ (.int .i64 I)).drew)) (fun e a' w' hh=> ?_) ?_
 rotate_left
 ·go_region_with (first | (go_at_call 157;refine (f _).mono ?_;rintro e U ⟨rfl,rfl⟩))
  all_goals exact⟨rfl,rfl⟩
 obtain⟨rfl,rfl,rfl⟩:=Z2E hh
 obtain⟨h1,E⟩:=G1.out
 clear R P T z D f m G1
 generalize (w0.setCell ⟨g,a,none⟩ (.int .i64 I)).drew=U at *
 go_wp2_with fail
 have R:=h1.cells d hd
 have P:=h1.cells a ha
 have T:=h1.free d hd
 have z:=ae.get d
 have D:=ae.get a
 obtain⟨O,l⟩:∃ v,v=rotl (y.getD d 0 ^^^ y.getD a 0) 16:=⟨_,rfl⟩
 have m:=Z0t (y.getD d 0) (y.getD a 0) (by omega) (by omega)
 have f:∀ w,Calls prog 177 #[.int .i64 (y.getD d 0 ^^^ y.getD a 0:Nat),.int .i64 16] w fun e w'=>e= .returned (.int .i64 O)∧w'=w.drew:=fun w=>by rw [l];exact Z5K (y.getD d 0 ^^^ y.getD a 0) 16 (Z17 z D) (by decide) (by decide) w
 have h2:Z0A ((U.setCell ⟨g,d,none⟩ (.int .i64 O)).drew.drew) g (rq2 16 y d a):=by
  have:=h1.set ak d O hd
  rw [l] at this ⊢
  exact⟨this.lt,this.cells,this.free⟩
 have J:Below w.heap.size w ((U.setCell ⟨g,d,none⟩ (.int .i64 O)).drew.drew):=(E.setCell (p:=⟨g,d,none⟩) n (.int .i64 O)).drew.drew
 obtain⟨s,a4⟩:∃ L',L'=rq2 16 y d a:=⟨_,rfl⟩
 rw [← a4] at h2
 have ar:s.length=16:=by rw [a4,Z3E];exact ak
 have aa:Z1K s:=by rw [a4];exact ae.rq2 _ _ _
 have H2:Hid (s=rq2 16 y d a):=a4
 have G2:Hid (Z0A ((U.setCell ⟨g,d,none⟩ (.int .i64 O)).drew.drew) g s∧Below w.heap.size w ((U.setCell ⟨g,d,none⟩ (.int .i64 O)).drew.drew)):=⟨h2,J⟩
 clear l a4 h2 J h1 E ak ae
 generalize y.getD d 0 ^^^ y.getD a 0=z1 at *
 generalize y.getD d 0=X1 at *
 generalize y.getD a 0=Z1 at *
 refine Code.wp_mono (Q:=ended { tmps:=#[.slice (some ⟨gx,0,none⟩) 16 capx,.int .i64 a,.int .i64 b,.int .i64 c,.int .i64 d,undef,undef,undef,undef,undef,.slice none 0 0,.slice (some ⟨g,0,none⟩) 16 cap,.slice (some ⟨w.heap.size,0,none⟩) 0 0,.slice (some ⟨gx,0,none⟩) 16 capx,.slice (some ⟨g,0,none⟩) 16 cap,.slice (some ⟨g,0,none⟩) 16 cap,.int .i64 a,.slice (some ⟨g,0,none⟩) 16 cap,.int .i64 a,.pointer (some ⟨g,a,none⟩),.int .i64 X0,.slice (some ⟨g,0,none⟩) 16 cap,.int .i64 b,.pointer (some ⟨g,b,none⟩),.int .i64 Z0,.int .i64 (z0:Nat),.int .i64 I,.pointer (some ⟨g,a,none⟩),.slice (some ⟨g,0,none⟩) 16 cap,.int .i64 d,.slice (some ⟨g,0,none⟩) 16 cap,.int .i64 d,.pointer (some ⟨g,d,none⟩),.int .i64 X1,.slice (some ⟨g,0,none⟩) 16 cap,.int .i64 a,.pointer (some ⟨g,a,none⟩),.int .i64 Z1,.int .i64 (z1:Nat),.int .i64 O,.pointer (some ⟨g,d,none⟩),undef,undef,undef,undef,undef,undef,undef,undef,undef,undef,undef,undef,undef,undef,undef,undef,undef,undef,undef,undef,undef,undef,undef,undef,undef,undef,undef,undef,undef,undef,undef,undef,undef,undef,undef,undef,undef,undef,undef,undef,undef,undef,undef,undef,undef,undef,undef,undef,undef,undef,undef,undef,undef,undef,undef,undef,undef,undef,undef,undef,undef,undef,undef,undef,undef,undef,undef,undef,undef,undef,undef,undef,undef,undef,undef,undef,undef,undef,undef],defers:= []} ((U.setCell ⟨g,d,none⟩ (.int .i64 O)).drew.drew)) (fun e a' w' hh=> ?_) ?_
 rotate_left
 ·go_region_with (first | (go_at_call 177;refine (f _).mono ?_;rintro e U ⟨rfl,rfl⟩))
  all_goals exact⟨rfl,rfl⟩
 obtain⟨rfl,rfl,rfl⟩:=Z2E hh
 obtain⟨h2,J⟩:=G2.out
 clear R P T z D f m G2
 generalize (U.setCell ⟨g,d,none⟩ (.int .i64 O)).drew.drew=w2 at *
 go_wp2_with fail
 have R:=h2.cells c hc
 have P:=h2.cells d hd
 have T:=h2.free c hc
 have z:=aa.get c
 have D:=aa.get d
 obtain⟨S,l⟩:∃ v,v=(s.getD c 0+s.getD d 0)%4294967296:=⟨_,rfl⟩
 have m:IntKind.i64.wrap ((s.getD c 0:Nat)+(s.getD d 0:Nat):Int)=((s.getD c 0+s.getD d 0:Nat):Int):=by rw [IntKind.wrap_i64];omega
 have f:=fun w=>rlow_z ((s.getD c 0+s.getD d 0:Nat):Int) (s.getD c 0+s.getD d 0) rfl (by omega) S l w
 have h3:Z0A ((w2.setCell ⟨g,c,none⟩ (.int .i64 S)).drew) g (rq1 s c d):=by
  have:=h2.set ar c S hc
  rw [l] at this ⊢
  exact⟨this.lt,this.cells,this.free⟩
 have N:Below w.heap.size w ((w2.setCell ⟨g,c,none⟩ (.int .i64 S)).drew):=(J.setCell (p:=⟨g,c,none⟩) n (.int .i64 S)).drew
 obtain⟨C,a7⟩:∃ L',L'=rq1 s c d:=⟨_,rfl⟩
 rw [← a7] at h3
 have al:C.length=16:=by rw [a7,Z3D];exact ar
 have a9:Z1K C:=by rw [a7];exact aa.rq1 _ _
 have H3:Hid (C=rq1 s c d):=a7
 have G3:Hid (Z0A ((w2.setCell ⟨g,c,none⟩ (.int .i64 S)).drew) g C∧Below w.heap.size w ((w2.setCell ⟨g,c,none⟩ (.int .i64 S)).drew)):=⟨h3,N⟩
 clear l a7 h3 N h2 J ar aa
 generalize s.getD c 0+s.getD d 0=z2 at *
 generalize s.getD c 0=X2 at *
 generalize s.getD d 0=Z2 at *
 refine Code.wp_mono (Q:=ended { tmps:=#[.slice (some ⟨gx,0,none⟩) 16 capx,.int .i64 a,.int .i64 b,.int .i64 c,.int .i64 d,undef,undef,undef,undef,undef,.slice none 0 0,.slice (some ⟨g,0,none⟩) 16 cap,.slice (some ⟨w.heap.size,0,none⟩) 0 0,.slice (some ⟨gx,0,none⟩) 16 capx,.slice (some ⟨g,0,none⟩) 16 cap,.slice (some ⟨g,0,none⟩) 16 cap,.int .i64 a,.slice (some ⟨g,0,none⟩) 16 cap,.int .i64 a,.pointer (some ⟨g,a,none⟩),.int .i64 X0,.slice (some ⟨g,0,none⟩) 16 cap,.int .i64 b,.pointer (some ⟨g,b,none⟩),.int .i64 Z0,.int .i64 (z0:Nat),.int .i64 I,.pointer (some ⟨g,a,none⟩),.slice (some ⟨g,0,none⟩) 16 cap,.int .i64 d,.slice (some ⟨g,0,none⟩) 16 cap,.int .i64 d,.pointer (some ⟨g,d,none⟩),.int .i64 X1,.slice (some ⟨g,0,none⟩) 16 cap,.int .i64 a,.pointer (some ⟨g,a,none⟩),.int .i64 Z1,.int .i64 (z1:Nat),.int .i64 O,.pointer (some ⟨g,d,none⟩),.slice (some ⟨g,0,none⟩) 16 cap,.int .i64 c,.slice (some ⟨g,0,none⟩) 16 cap,.int .i64 c,.pointer (some ⟨g,c,none⟩),.int .i64 X2,.slice (some ⟨g,0,none⟩) 16 cap,.int .i64 d,.pointer (some ⟨g,d,none⟩),.int .i64 Z2,.int .i64 (z2:Nat),.int .i64 S,.pointer (some ⟨g,c,none⟩),undef,undef,undef,undef,undef,undef,undef,undef,undef,undef,undef,undef,undef,undef,undef,undef,undef,undef,undef,undef,undef,undef,undef,undef,undef,undef,undef,undef,undef,undef,undef,undef,undef,undef,undef,undef,undef,undef,undef,undef,undef,undef,undef,undef,undef,undef,undef,undef,undef,undef,undef,undef,undef,undef,undef,undef,undef,undef,undef,undef,undef,undef,undef,undef,undef,undef],defers:= []} ((w2.setCell ⟨g,c,none⟩ (.int .i64 S)).drew)) (fun e a' w' hh=> ?_) ?_
 rotate_left
 ·go_region_with (first | (go_at_call 157;refine (f _).mono ?_;rintro e U ⟨rfl,rfl⟩))
  all_goals exact⟨rfl,rfl⟩
 obtain⟨rfl,rfl,rfl⟩:=Z2E hh
 obtain⟨h3,N⟩:=G3.out
 clear R P T z D f m G3
 generalize (w2.setCell ⟨g,c,none⟩ (.int .i64 S)).drew=w3 at *
 go_wp2_with fail
 have R:=h3.cells b hb
 have P:=h3.cells c hc
 have T:=h3.free b hb
 have z:=a9.get b
 have D:=a9.get c
 obtain⟨V,l⟩:∃ v,v=rotl (C.getD b 0 ^^^ C.getD c 0) 12:=⟨_,rfl⟩
 have m:=Z0t (C.getD b 0) (C.getD c 0) (by omega) (by omega)
 have f:∀ w,Calls prog 177 #[.int .i64 (C.getD b 0 ^^^ C.getD c 0:Nat),.int .i64 12] w fun e w'=>e= .returned (.int .i64 V)∧w'=w.drew:=fun w=>by rw [l];exact Z5K (C.getD b 0 ^^^ C.getD c 0) 12 (Z17 z D) (by decide) (by decide) w
 have h4:Z0A ((w3.setCell ⟨g,b,none⟩ (.int .i64 V)).drew.drew) g (rq2 12 C b c):=by
  have:=h3.set al b V hb
  rw [l] at this ⊢
  exact⟨this.lt,this.cells,this.free⟩
 have K:Below w.heap.size w ((w3.setCell ⟨g,b,none⟩ (.int .i64 V)).drew.drew):=(N.setCell (p:=⟨g,b,none⟩) n (.int .i64 V)).drew.drew
 obtain⟨q,a5⟩:∃ L',L'=rq2 12 C b c:=⟨_,rfl⟩
 rw [← a5] at h4
 have ap:q.length=16:=by rw [a5,Z3E];exact al
 have ac:Z1K q:=by rw [a5];exact a9.rq2 _ _ _
 have H4:Hid (q=rq2 12 C b c):=a5
 have G4:Hid (Z0A ((w3.setCell ⟨g,b,none⟩ (.int .i64 V)).drew.drew) g q∧Below w.heap.size w ((w3.setCell ⟨g,b,none⟩ (.int .i64 V)).drew.drew)):=⟨h4,K⟩
 clear l a5 h4 K h3 N al a9
 generalize C.getD b 0 ^^^ C.getD c 0=z3 at *
 generalize C.getD b 0=X3 at *
 generalize C.getD c 0=Z3 at *
 refine Code.wp_mono (Q:=ended { tmps:=#[.slice (some ⟨gx,0,none⟩) 16 capx,.int .i64 a,.int .i64 b,.int .i64 c,.int .i64 d,undef,undef,undef,undef,undef,.slice none 0 0,.slice (some ⟨g,0,none⟩) 16 cap,.slice (some ⟨w.heap.size,0,none⟩) 0 0,.slice (some ⟨gx,0,none⟩) 16 capx,.slice (some ⟨g,0,none⟩) 16 cap,.slice (some ⟨g,0,none⟩) 16 cap,.int .i64 a,.slice (some ⟨g,0,none⟩) 16 cap,.int .i64 a,.pointer (some ⟨g,a,none⟩),.int .i64 X0,.slice (some ⟨g,0,none⟩) 16 cap,.int .i64 b,.pointer (some ⟨g,b,none⟩),.int .i64 Z0,.int .i64 (z0:Nat),.int .i64 I,.pointer (some ⟨g,a,none⟩),.slice (some ⟨g,0,none⟩) 16 cap,.int .i64 d,.slice (some ⟨g,0,none⟩) 16 cap,.int .i64 d,.pointer (some ⟨g,d,none⟩),.int .i64 X1,.slice (some ⟨g,0,none⟩) 16 cap,.int .i64 a,.pointer (some ⟨g,a,none⟩),.int .i64 Z1,.int .i64 (z1:Nat),.int .i64 O,.pointer (some ⟨g,d,none⟩),.slice (some ⟨g,0,none⟩) 16 cap,.int .i64 c,.slice (some ⟨g,0,none⟩) 16 cap,.int .i64 c,.pointer (some ⟨g,c,none⟩),.int .i64 X2,.slice (some ⟨g,0,none⟩) 16 cap,.int .i64 d,.pointer (some ⟨g,d,none⟩),.int .i64 Z2,.int .i64 (z2:Nat),.int .i64 S,.pointer (some ⟨g,c,none⟩),.slice (some ⟨g,0,none⟩) 16 cap,.int .i64 b,.slice (some ⟨g,0,none⟩) 16 cap,.int .i64 b,.pointer (some ⟨g,b,none⟩),.int .i64 X3,.slice (some ⟨g,0,none⟩) 16 cap,.int .i64 c,.pointer (some ⟨g,c,none⟩),.int .i64 Z3,.int .i64 (z3:Nat),.int .i64 V,.pointer (some ⟨g,b,none⟩),undef,undef,undef,undef,undef,undef,undef,undef,undef,undef,undef,undef,undef,undef,undef,undef,undef,undef,undef,undef,undef,undef,undef,undef,undef,undef,undef,undef,undef,undef,undef,undef,undef,undef,undef,undef,undef,undef,undef,undef,undef,undef,undef,undef,undef,undef,undef,undef,undef,undef,undef,undef,undef],defers:= []} ((w3.setCell ⟨g,b,none⟩ (.int .i64 V)).drew.drew)) (fun e a' w' hh=> ?_) ?_
 rotate_left
 ·go_region_with (first | (go_at_call 177;refine (f _).mono ?_;rintro e U ⟨rfl,rfl⟩))
  all_goals exact⟨rfl,rfl⟩
 obtain⟨rfl,rfl,rfl⟩:=Z2E hh
 obtain⟨h4,K⟩:=G4.out
 clear R P T z D f m G4
 generalize (w3.setCell ⟨g,b,none⟩ (.int .i64 V)).drew.drew=w4 at *
 go_wp2_with fail
 have R:=h4.cells a ha
 have P:=h4.cells b hb
 have T:=h4.free a ha
 have z:=ac.get a
 have D:=ac.get b
 obtain⟨W,l⟩:∃ v,v=(q.getD a 0+q.getD b 0)%4294967296:=⟨_,rfl⟩
 have m:IntKind.i64.wrap ((q.getD a 0:Nat)+(q.getD b 0:Nat):Int)=((q.getD a 0+q.getD b 0:Nat):Int):=by rw [IntKind.wrap_i64];omega
 have f:=fun w=>rlow_z ((q.getD a 0+q.getD b 0:Nat):Int) (q.getD a 0+q.getD b 0) rfl (by omega) W l w
 have h5:Z0A ((w4.setCell ⟨g,a,none⟩ (.int .i64 W)).drew) g (rq1 q a b):=by
  have:=h4.set ap a W ha
  rw [l] at this ⊢
  exact⟨this.lt,this.cells,this.free⟩
 have H:Below w.heap.size w ((w4.setCell ⟨g,a,none⟩ (.int .i64 W)).drew):=(K.setCell (p:=⟨g,a,none⟩) n (.int .i64 W)).drew
 obtain⟨A,a3⟩:∃ L',L'=rq1 q a b:=⟨_,rfl⟩
 rw [← a3] at h5
 have au:A.length=16:=by rw [a3,Z3D];exact ap
 have ab:Z1K A:=by rw [a3];exact ac.rq1 _ _
 have H5:Hid (A=rq1 q a b):=a3
 have G5:Hid (Z0A ((w4.setCell ⟨g,a,none⟩ (.int .i64 W)).drew) g A∧Below w.heap.size w ((w4.setCell ⟨g,a,none⟩ (.int .i64 W)).drew)):=⟨h5,H⟩
 clear l a3 h5 H h4 K ap ac
 generalize q.getD a 0+q.getD b 0=z4 at *
 generalize q.getD a 0=X4 at *
 generalize q.getD b 0=Z4 at *
 refine Code.wp_mono (Q:=ended { tmps:=#[.slice (some ⟨gx,0,none⟩) 16 capx,.int .i64 a,.int .i64 b,.int .i64 c,.int .i64 d,undef,undef,undef,undef,undef,.slice none 0 0,.slice (some ⟨g,0,none⟩) 16 cap,.slice (some ⟨w.heap.size,0,none⟩) 0 0,.slice (some ⟨gx,0,none⟩) 16 capx,.slice (some ⟨g,0,none⟩) 16 cap,.slice (some ⟨g,0,none⟩) 16 cap,.int .i64 a,.slice (some ⟨g,0,none⟩) 16 cap,.int .i64 a,.pointer (some ⟨g,a,none⟩),.int .i64 X0,.slice (some ⟨g,0,none⟩) 16 cap,.int .i64 b,.pointer (some ⟨g,b,none⟩),.int .i64 Z0,.int .i64 (z0:Nat),.int .i64 I,.pointer (some ⟨g,a,none⟩),.slice (some ⟨g,0,none⟩) 16 cap,.int .i64 d,.slice (some ⟨g,0,none⟩) 16 cap,.int .i64 d,.pointer (some ⟨g,d,none⟩),.int .i64 X1,.slice (some ⟨g,0,none⟩) 16 cap,.int .i64 a,.pointer (some ⟨g,a,none⟩),.int .i64 Z1,.int .i64 (z1:Nat),.int .i64 O,.pointer (some ⟨g,d,none⟩),.slice (some ⟨g,0,none⟩) 16 cap,.int .i64 c,.slice (some ⟨g,0,none⟩) 16 cap,.int .i64 c,.pointer (some ⟨g,c,none⟩),.int .i64 X2,.slice (some ⟨g,0,none⟩) 16 cap,.int .i64 d,.pointer (some ⟨g,d,none⟩),.int .i64 Z2,.int .i64 (z2:Nat),.int .i64 S,.pointer (some ⟨g,c,none⟩),.slice (some ⟨g,0,none⟩) 16 cap,.int .i64 b,.slice (some ⟨g,0,none⟩) 16 cap,.int .i64 b,.pointer (some ⟨g,b,none⟩),.int .i64 X3,.slice (some ⟨g,0,none⟩) 16 cap,.int .i64 c,.pointer (some ⟨g,c,none⟩),.int .i64 Z3,.int .i64 (z3:Nat),.int .i64 V,.pointer (some ⟨g,b,none⟩),.slice (some ⟨g,0,none⟩) 16 cap,.int .i64 a,.slice (some ⟨g,0,none⟩) 16 cap,.int .i64 a,.pointer (some ⟨g,a,none⟩),.int .i64 X4,.slice (some ⟨g,0,none⟩) 16 cap,.int .i64 b,.pointer (some ⟨g,b,none⟩),.int .i64 Z4,.int .i64 (z4:Nat),.int .i64 W,.pointer (some ⟨g,a,none⟩),undef,undef,undef,undef,undef,undef,undef,undef,undef,undef,undef,undef,undef,undef,undef,undef,undef,undef,undef,undef,undef,undef,undef,undef,undef,undef,undef,undef,undef,undef,undef,undef,undef,undef,undef,undef,undef,undef,undef,undef],defers:= []} ((w4.setCell ⟨g,a,none⟩ (.int .i64 W)).drew)) (fun e a' w' hh=> ?_) ?_
 rotate_left
 ·go_region_with (first | (go_at_call 157;refine (f _).mono ?_;rintro e U ⟨rfl,rfl⟩))
  all_goals exact⟨rfl,rfl⟩
 obtain⟨rfl,rfl,rfl⟩:=Z2E hh
 obtain⟨h5,H⟩:=G5.out
 clear R P T z D f m G5
 generalize (w4.setCell ⟨g,a,none⟩ (.int .i64 W)).drew=w5 at *
 go_wp2_with fail
 have R:=h5.cells d hd
 have P:=h5.cells a ha
 have T:=h5.free d hd
 have z:=ab.get d
 have D:=ab.get a
 obtain⟨X,l⟩:∃ v,v=rotl (A.getD d 0 ^^^ A.getD a 0) 8:=⟨_,rfl⟩
 have m:=Z0t (A.getD d 0) (A.getD a 0) (by omega) (by omega)
 have f:∀ w,Calls prog 177 #[.int .i64 (A.getD d 0 ^^^ A.getD a 0:Nat),.int .i64 8] w fun e w'=>e= .returned (.int .i64 X)∧w'=w.drew:=fun w=>by rw [l];exact Z5K (A.getD d 0 ^^^ A.getD a 0) 8 (Z17 z D) (by decide) (by decide) w
 have h6:Z0A ((w5.setCell ⟨g,d,none⟩ (.int .i64 X)).drew.drew) g (rq2 8 A d a):=by
  have:=h5.set au d X hd
  rw [l] at this ⊢
  exact⟨this.lt,this.cells,this.free⟩
 have G:Below w.heap.size w ((w5.setCell ⟨g,d,none⟩ (.int .i64 X)).drew.drew):=(H.setCell (p:=⟨g,d,none⟩) n (.int .i64 X)).drew.drew
 obtain⟨r,a2⟩:∃ L',L'=rq2 8 A d a:=⟨_,rfl⟩
 rw [← a2] at h6
 have ao:r.length=16:=by rw [a2,Z3E];exact au
 have af:Z1K r:=by rw [a2];exact ab.rq2 _ _ _
 have H6:Hid (r=rq2 8 A d a):=a2
 have G6:Hid (Z0A ((w5.setCell ⟨g,d,none⟩ (.int .i64 X)).drew.drew) g r∧Below w.heap.size w ((w5.setCell ⟨g,d,none⟩ (.int .i64 X)).drew.drew)):=⟨h6,G⟩
 clear l a2 h6 G h5 H au ab
 generalize A.getD d 0 ^^^ A.getD a 0=z5 at *
 generalize A.getD d 0=X5 at *
 generalize A.getD a 0=Z5 at *
 refine Code.wp_mono (Q:=ended { tmps:=#[.slice (some ⟨gx,0,none⟩) 16 capx,.int .i64 a,.int .i64 b,.int .i64 c,.int .i64 d,undef,undef,undef,undef,undef,.slice none 0 0,.slice (some ⟨g,0,none⟩) 16 cap,.slice (some ⟨w.heap.size,0,none⟩) 0 0,.slice (some ⟨gx,0,none⟩) 16 capx,.slice (some ⟨g,0,none⟩) 16 cap,.slice (some ⟨g,0,none⟩) 16 cap,.int .i64 a,.slice (some ⟨g,0,none⟩) 16 cap,.int .i64 a,.pointer (some ⟨g,a,none⟩),.int .i64 X0,.slice (some ⟨g,0,none⟩) 16 cap,.int .i64 b,.pointer (some ⟨g,b,none⟩),.int .i64 Z0,.int .i64 (z0:Nat),.int .i64 I,.pointer (some ⟨g,a,none⟩),.slice (some ⟨g,0,none⟩) 16 cap,.int .i64 d,.slice (some ⟨g,0,none⟩) 16 cap,.int .i64 d,.pointer (some ⟨g,d,none⟩),.int .i64 X1,.slice (some ⟨g,0,none⟩) 16 cap,.int .i64 a,.pointer (some ⟨g,a,none⟩),.int .i64 Z1,.int .i64 (z1:Nat),.int .i64 O,.pointer (some ⟨g,d,none⟩),.slice (some ⟨g,0,none⟩) 16 cap,.int .i64 c,.slice (some ⟨g,0,none⟩) 16 cap,.int .i64 c,.pointer (some ⟨g,c,none⟩),.int .i64 X2,.slice (some ⟨g,0,none⟩) 16 cap,.int .i64 d,.pointer (some ⟨g,d,none⟩),.int .i64 Z2,.int .i64 (z2:Nat),.int .i64 S,.pointer (some ⟨g,c,none⟩),.slice (some ⟨g,0,none⟩) 16 cap,.int .i64 b,.slice (some ⟨g,0,none⟩) 16 cap,.int .i64 b,.pointer (some ⟨g,b,none⟩),.int .i64 X3,.slice (some ⟨g,0,none⟩) 16 cap,.int .i64 c,.pointer (some ⟨g,c,none⟩),.int .i64 Z3,.int .i64 (z3:Nat),.int .i64 V,.pointer (some ⟨g,b,none⟩),.slice (some ⟨g,0,none⟩) 16 cap,.int .i64 a,.slice (some ⟨g,0,none⟩) 16 cap,.int .i64 a,.pointer (some ⟨g,a,none⟩),.int .i64 X4,.slice (some ⟨g,0,none⟩) 16 cap,.int .i64 b,.pointer (some ⟨g,b,none⟩),.int .i64 Z4,.int .i64 (z4:Nat),.int .i64 W,.pointer (some ⟨g,a,none⟩),.slice (some ⟨g,0,none⟩) 16 cap,.int .i64 d,.slice (some ⟨g,0,none⟩) 16 cap,.int .i64 d,.pointer (some ⟨g,d,none⟩),.int .i64 X5,.slice (some ⟨g,0,none⟩) 16 cap,.int .i64 a,.pointer (some ⟨g,a,none⟩),.int .i64 Z5,.int .i64 (z5:Nat),.int .i64 X,.pointer (some ⟨g,d,none⟩),undef,undef,undef,undef,undef,undef,undef,undef,undef,undef,undef,undef,undef,undef,undef,undef,undef,undef,undef,undef,undef,undef,undef,undef,undef,undef,undef],defers:= []} ((w5.setCell ⟨g,d,none⟩ (.int .i64 X)).drew.drew)) (fun e a' w' hh=> ?_) ?_
 rotate_left
 ·go_region_with (first | (go_at_call 177;refine (f _).mono ?_;rintro e U ⟨rfl,rfl⟩))
  all_goals exact⟨rfl,rfl⟩
 obtain⟨rfl,rfl,rfl⟩:=Z2E hh
 obtain⟨h6,G⟩:=G6.out
 clear R P T z D f m G6
 generalize (w5.setCell ⟨g,d,none⟩ (.int .i64 X)).drew.drew=w6 at *
 go_wp2_with fail
 have R:=h6.cells c hc
 have P:=h6.cells d hd
 have T:=h6.free c hc
 have z:=af.get c
 have D:=af.get d
 obtain⟨v6,l⟩:∃ v,v=(r.getD c 0+r.getD d 0)%4294967296:=⟨_,rfl⟩
 have m:IntKind.i64.wrap ((r.getD c 0:Nat)+(r.getD d 0:Nat):Int)=((r.getD c 0+r.getD d 0:Nat):Int):=by rw [IntKind.wrap_i64];omega
 have f:=fun w=>rlow_z ((r.getD c 0+r.getD d 0:Nat):Int) (r.getD c 0+r.getD d 0) rfl (by omega) v6 l w
 have h7:Z0A ((w6.setCell ⟨g,c,none⟩ (.int .i64 v6)).drew) g (rq1 r c d):=by
  have:=h6.set ao c v6 hc
  rw [l] at this ⊢
  exact⟨this.lt,this.cells,this.free⟩
 have F:Below w.heap.size w ((w6.setCell ⟨g,c,none⟩ (.int .i64 v6)).drew):=(G.setCell (p:=⟨g,c,none⟩) n (.int .i64 v6)).drew
 obtain⟨B,a8⟩:∃ L',L'=rq1 r c d:=⟨_,rfl⟩
 rw [← a8] at h7
 have aj:B.length=16:=by rw [a8,Z3D];exact ao
 have ad:Z1K B:=by rw [a8];exact af.rq1 _ _
 have H7:Hid (B=rq1 r c d):=a8
 have G7:Hid (Z0A ((w6.setCell ⟨g,c,none⟩ (.int .i64 v6)).drew) g B∧Below w.heap.size w ((w6.setCell ⟨g,c,none⟩ (.int .i64 v6)).drew)):=⟨h7,F⟩
 clear l a8 h7 F h6 G ao af
 generalize r.getD c 0+r.getD d 0=z6 at *
 generalize r.getD c 0=X6 at *
 generalize r.getD d 0=Z6 at *
 refine Code.wp_mono (Q:=ended { tmps:=#[.slice (some ⟨gx,0,none⟩) 16 capx,.int .i64 a,.int .i64 b,.int .i64 c,.int .i64 d,undef,undef,undef,undef,undef,.slice none 0 0,.slice (some ⟨g,0,none⟩) 16 cap,.slice (some ⟨w.heap.size,0,none⟩) 0 0,.slice (some ⟨gx,0,none⟩) 16 capx,.slice (some ⟨g,0,none⟩) 16 cap,.slice (some ⟨g,0,none⟩) 16 cap,.int .i64 a,.slice (some ⟨g,0,none⟩) 16 cap,.int .i64 a,.pointer (some ⟨g,a,none⟩),.int .i64 X0,.slice (some ⟨g,0,none⟩) 16 cap,.int .i64 b,.pointer (some ⟨g,b,none⟩),.int .i64 Z0,.int .i64 (z0:Nat),.int .i64 I,.pointer (some ⟨g,a,none⟩),.slice (some ⟨g,0,none⟩) 16 cap,.int .i64 d,.slice (some ⟨g,0,none⟩) 16 cap,.int .i64 d,.pointer (some ⟨g,d,none⟩),.int .i64 X1,.slice (some ⟨g,0,none⟩) 16 cap,.int .i64 a,.pointer (some ⟨g,a,none⟩),.int .i64 Z1,.int .i64 (z1:Nat),.int .i64 O,.pointer (some ⟨g,d,none⟩),.slice (some ⟨g,0,none⟩) 16 cap,.int .i64 c,.slice (some ⟨g,0,none⟩) 16 cap,.int .i64 c,.pointer (some ⟨g,c,none⟩),.int .i64 X2,.slice (some ⟨g,0,none⟩) 16 cap,.int .i64 d,.pointer (some ⟨g,d,none⟩),.int .i64 Z2,.int .i64 (z2:Nat),.int .i64 S,.pointer (some ⟨g,c,none⟩),.slice (some ⟨g,0,none⟩) 16 cap,.int .i64 b,.slice (some ⟨g,0,none⟩) 16 cap,.int .i64 b,.pointer (some ⟨g,b,none⟩),.int .i64 X3,.slice (some ⟨g,0,none⟩) 16 cap,.int .i64 c,.pointer (some ⟨g,c,none⟩),.int .i64 Z3,.int .i64 (z3:Nat),.int .i64 V,.pointer (some ⟨g,b,none⟩),.slice (some ⟨g,0,none⟩) 16 cap,.int .i64 a,.slice (some ⟨g,0,none⟩) 16 cap,.int .i64 a,.pointer (some ⟨g,a,none⟩),.int .i64 X4,.slice (some ⟨g,0,none⟩) 16 cap,.int .i64 b,.pointer (some ⟨g,b,none⟩),.int .i64 Z4,.int .i64 (z4:Nat),.int .i64 W,.pointer (some ⟨g,a,none⟩),.slice (some ⟨g,0,none⟩) 16 cap,.int .i64 d,.slice (some ⟨g,0,none⟩) 16 cap,.int .i64 d,.pointer (some ⟨g,d,none⟩),.int .i64 X5,.slice (some ⟨g,0,none⟩) 16 cap,.int .i64 a,.pointer (some ⟨g,a,none⟩),.int .i64 Z5,.int .i64 (z5:Nat),.int .i64 X,.pointer (some ⟨g,d,none⟩),.slice (some ⟨g,0,none⟩) 16 cap,.int .i64 c,.slice (some ⟨g,0,none⟩) 16 cap,.int .i64 c,.pointer (some ⟨g,c,none⟩),.int .i64 X6,.slice (some ⟨g,0,none⟩) 16 cap,.int .i64 d,.pointer (some ⟨g,d,none⟩),.int .i64 Z6,.int .i64 (z6:Nat),.int .i64 v6,.pointer (some ⟨g,c,none⟩),undef,undef,undef,undef,undef,undef,undef,undef,undef,undef,undef,undef,undef,undef],defers:= []} ((w6.setCell ⟨g,c,none⟩ (.int .i64 v6)).drew)) (fun e a' w' hh=> ?_) ?_
 rotate_left
 ·go_region_with (first | (go_at_call 157;refine (f _).mono ?_;rintro e U ⟨rfl,rfl⟩))
  all_goals exact⟨rfl,rfl⟩
 obtain⟨rfl,rfl,rfl⟩:=Z2E hh
 obtain⟨h7,F⟩:=G7.out
 clear R P T z D f m G7
 generalize (w6.setCell ⟨g,c,none⟩ (.int .i64 v6)).drew=w7 at *
 go_wp2_with fail
 have R:=h7.cells b hb
 have P:=h7.cells c hc
 have T:=h7.free b hb
 have z:=ad.get b
 have D:=ad.get c
 obtain⟨v7,l⟩:∃ v,v=rotl (B.getD b 0 ^^^ B.getD c 0) 7:=⟨_,rfl⟩
 have m:=Z0t (B.getD b 0) (B.getD c 0) (by omega) (by omega)
 have f:∀ w,Calls prog 177 #[.int .i64 (B.getD b 0 ^^^ B.getD c 0:Nat),.int .i64 7] w fun e w'=>e= .returned (.int .i64 v7)∧w'=w.drew:=fun w=>by rw [l];exact Z5K (B.getD b 0 ^^^ B.getD c 0) 7 (Z17 z D) (by decide) (by decide) w
 have h8:Z0A ((w7.setCell ⟨g,b,none⟩ (.int .i64 v7)).drew.drew) g (rq2 7 B b c):=by
  have:=h7.set aj b v7 hb
  rw [l] at this ⊢
  exact⟨this.lt,this.cells,this.free⟩
 have M:Below w.heap.size w ((w7.setCell ⟨g,b,none⟩ (.int .i64 v7)).drew.drew):=(F.setCell (p:=⟨g,b,none⟩) n (.int .i64 v7)).drew.drew
 obtain⟨L8,a1⟩:∃ L',L'=rq2 7 B b c:=⟨_,rfl⟩
 rw [← a1] at h8
 have b2:L8.length=16:=by rw [a1,Z3E];exact aj
 have b1:Z1K L8:=by rw [a1];exact ad.rq2 _ _ _
 have H8:Hid (L8=rq2 7 B b c):=a1
 have G8:Hid (Z0A ((w7.setCell ⟨g,b,none⟩ (.int .i64 v7)).drew.drew) g L8∧Below w.heap.size w ((w7.setCell ⟨g,b,none⟩ (.int .i64 v7)).drew.drew)):=⟨h8,M⟩
 clear l a1 h8 M h7 F aj ad
 generalize B.getD b 0 ^^^ B.getD c 0=z7 at *
 generalize B.getD b 0=X7 at *
 generalize B.getD c 0=Z7 at *
 refine Code.wp_mono (Q:=ended { tmps:=#[.slice (some ⟨gx,0,none⟩) 16 capx,.int .i64 a,.int .i64 b,.int .i64 c,.int .i64 d,undef,undef,undef,undef,undef,.slice none 0 0,.slice (some ⟨g,0,none⟩) 16 cap,.slice (some ⟨w.heap.size,0,none⟩) 0 0,.slice (some ⟨gx,0,none⟩) 16 capx,.slice (some ⟨g,0,none⟩) 16 cap,.slice (some ⟨g,0,none⟩) 16 cap,.int .i64 a,.slice (some ⟨g,0,none⟩) 16 cap,.int .i64 a,.pointer (some ⟨g,a,none⟩),.int .i64 X0,.slice (some ⟨g,0,none⟩) 16 cap,.int .i64 b,.pointer (some ⟨g,b,none⟩),.int .i64 Z0,.int .i64 (z0:Nat),.int .i64 I,.pointer (some ⟨g,a,none⟩),.slice (some ⟨g,0,none⟩) 16 cap,.int .i64 d,.slice (some ⟨g,0,none⟩) 16 cap,.int .i64 d,.pointer (some ⟨g,d,none⟩),.int .i64 X1,.slice (some ⟨g,0,none⟩) 16 cap,.int .i64 a,.pointer (some ⟨g,a,none⟩),.int .i64 Z1,.int .i64 (z1:Nat),.int .i64 O,.pointer (some ⟨g,d,none⟩),.slice (some ⟨g,0,none⟩) 16 cap,.int .i64 c,.slice (some ⟨g,0,none⟩) 16 cap,.int .i64 c,.pointer (some ⟨g,c,none⟩),.int .i64 X2,.slice (some ⟨g,0,none⟩) 16 cap,.int .i64 d,.pointer (some ⟨g,d,none⟩),.int .i64 Z2,.int .i64 (z2:Nat),.int .i64 S,.pointer (some ⟨g,c,none⟩),.slice (some ⟨g,0,none⟩) 16 cap,.int .i64 b,.slice (some ⟨g,0,none⟩) 16 cap,.int .i64 b,.pointer (some ⟨g,b,none⟩),.int .i64 X3,.slice (some ⟨g,0,none⟩) 16 cap,.int .i64 c,.pointer (some ⟨g,c,none⟩),.int .i64 Z3,.int .i64 (z3:Nat),.int .i64 V,.pointer (some ⟨g,b,none⟩),.slice (some ⟨g,0,none⟩) 16 cap,.int .i64 a,.slice (some ⟨g,0,none⟩) 16 cap,.int .i64 a,.pointer (some ⟨g,a,none⟩),.int .i64 X4,.slice (some ⟨g,0,none⟩) 16 cap,.int .i64 b,.pointer (some ⟨g,b,none⟩),.int .i64 Z4,.int .i64 (z4:Nat),.int .i64 W,.pointer (some ⟨g,a,none⟩),.slice (some ⟨g,0,none⟩) 16 cap,.int .i64 d,.slice (some ⟨g,0,none⟩) 16 cap,.int .i64 d,.pointer (some ⟨g,d,none⟩),.int .i64 X5,.slice (some ⟨g,0,none⟩) 16 cap,.int .i64 a,.pointer (some ⟨g,a,none⟩),.int .i64 Z5,.int .i64 (z5:Nat),.int .i64 X,.pointer (some ⟨g,d,none⟩),.slice (some ⟨g,0,none⟩) 16 cap,.int .i64 c,.slice (some ⟨g,0,none⟩) 16 cap,.int .i64 c,.pointer (some ⟨g,c,none⟩),.int .i64 X6,.slice (some ⟨g,0,none⟩) 16 cap,.int .i64 d,.pointer (some ⟨g,d,none⟩),.int .i64 Z6,.int .i64 (z6:Nat),.int .i64 v6,.pointer (some ⟨g,c,none⟩),.slice (some ⟨g,0,none⟩) 16 cap,.int .i64 b,.slice (some ⟨g,0,none⟩) 16 cap,.int .i64 b,.pointer (some ⟨g,b,none⟩),.int .i64 X7,.slice (some ⟨g,0,none⟩) 16 cap,.int .i64 c,.pointer (some ⟨g,c,none⟩),.int .i64 Z7,.int .i64 (z7:Nat),.int .i64 v7,.pointer (some ⟨g,b,none⟩),undef],defers:= []} ((w7.setCell ⟨g,b,none⟩ (.int .i64 v7)).drew.drew)) (fun e a' w' hh=> ?_) ?_
 rotate_left
 ·go_region_with (first | (go_at_call 177;refine (f _).mono ?_;rintro e U ⟨rfl,rfl⟩))
  all_goals exact⟨rfl,rfl⟩
 obtain⟨rfl,rfl,rfl⟩:=Z2E hh
 obtain⟨h8,M⟩:=G8.out
 clear R P T z D f m G8
 generalize (w7.setCell ⟨g,b,none⟩ (.int .i64 v7)).drew.drew=w8 at *
 have HF:Hid (Z0A w8 g (rq L a b c d)∧Below w.heap.size w w8):=by
  refine⟨?_,M⟩
  rw [rq,← H0.out,← H1.out,← H2.out,← H3.out,← H4.out,← H5.out,← H6.out,← H7.out,← H8.out]
  exact h8
 clear h8 M
 go_wp2
 exact bodyPost_ret (v:= .slice (some ⟨g,0,none⟩) 16 cap) (by simp [results,Tryz.results156]) rfl (by first | exact⟨g,cap,rfl,HF.out.1,n,HF.out.2⟩ | exact⟨g,⟨cap,rfl⟩,HF.out.1,n,HF.out.2⟩)
end Bx
end Go.Proofs.YtijpgmkdnemmbaaGreatDoor
