/- Part 21. -/
import Derived.Test.YtijpgmkdnemmbaaGreatDoorMg20
set_option maxRecDepth 20000
set_option maxHeartbeats 8000000
open Go.RowKit Go.Proofs.Tryz
namespace Go.Proofs.YtijpgmkdnemmbaaGreatDoor
theorem flatW_at:∀ (l:List Wt) (i:Nat) (x:Wt),l[i]? = some x→∀ c,c<2→(l.flatMap Wt.cells)[i*2+c]? = x.cells[c]?
 | [],i,x,h,_,_=>by simp at h
 | y :: l,0,x,h,c,hc=>by
  obtain rfl:y=x:=by simpa using h
  rw [List.flatMap_cons,List.getElem?_append_left (by show 0*2+c<2;omega),Nat.zero_mul,Nat.zero_add]
 | y :: l,i+1,x,h,c,hc=>by
  have a:y.cells.length=2:=rfl
  rw [List.flatMap_cons,List.getElem?_append_right (by rw [a];omega),a,show (i+1)*2+c-2=i*2+c by omega]
  exact flatW_at l i x (by simpa using h) c hc
def WZ (w:World)(base:Nat)(v:Value)(l:List Wt):Prop:=w.ownsRow base 27 2 v l.length (l.flatMap Wt.cells)
theorem WZ.nil (w:World)(base:Nat):WZ w base (.slice none 0 0) []:=World.ownsRow_nil _ _ _ _
theorem WZ.mono {w:World}{base b2:Nat}{v:Value}{l:List Wt}(h:WZ w base v l)(hb:b2≤base):WZ w b2 v l:=by
 refine⟨h.1,?_⟩
 rcases h.2 with h0 | ⟨g,cap,cur,e,h0,r⟩
 ·exact .inl h0
 ·exact .inr ⟨g,cap,cur,e,Nat.le_trans hb h0,r⟩
theorem WZ.form {w:World}{base:Nat}{v:Value}{l:List Wt}(h:WZ w base v l):∃ oa cap,v= .slice oa l.length cap:=by
 rcases h.2 with ⟨e,h0⟩ | ⟨g,cap,cur,e,_⟩
 ·exact⟨none,0,by rw [e,h0]⟩
 ·exact⟨_,_,e⟩
theorem WZ.below {w w':World}{base:Nat}{v:Value}{l:List Wt}(h:WZ w base v l)(hb:Below w.heap.size w w'):WZ w' base v l:=by
 refine⟨h.1,?_⟩
 rcases h.2 with h0 | ⟨g,cap,cur,e,h0,hg,h1,h2,h3,h4⟩
 ·exact .inl h0
 ·exact .inr ⟨g,cap,cur,e,h0,(hb.block g (lt_of_block hg)).trans hg,h1,h2,h3,h4⟩
theorem WZ.wts {w:World}{base:Nat}{v:Value}{l:List Wt}(h:WZ w base v l):Wts w v l∧∀ g o len cap,v= .slice (some ⟨g,o,none⟩) len cap→base≤g∧g<w.heap.size:=by
 have a:=h
 unfold WZ at a
 rcases h.2 with ⟨e,h0⟩ | ⟨g,cap,cur,e,h0,hg,h1,h2,h3,h4⟩
 ·exact⟨.inl ⟨none,0,e,List.eq_nil_of_length_eq_zero h0⟩,fun g o len cap e'=>by rw [e] at e';cases e'⟩
 ·subst e
  refine⟨.inr ⟨g,0,cap,rfl,lt_of_block hg,fun i x hx=> ?_⟩,fun g' o len cap' e'=> ?_⟩
  ·have b:=(List.getElem?_eq_some_iff.1 hx).1
   have k:∀ c,c<2→w.cell? ⟨g,0+i*2+c,none⟩=x.cells[c]? :=fun c hc=>by
    have:=a.cellAt (i*2+c) (by omega)
    rw [Nat.zero_add,this,flatW_at l i x hx c hc]
   exact⟨k 0 (by omega),k 1 (by omega)⟩
  ·simp only [Value.slice.injEq,Option.some.injEq,Addr.mk.injEq] at e'
   obtain⟨⟨rfl,_⟩,_⟩:=e'
   exact⟨h0,lt_of_block hg⟩
theorem Z6b:(prog.info? 27).map (fun i=>(i.zero,i.size,i.bytes))=some (some (.agg #[.int .i64 0,.string ⟨#[]⟩]),2,24):=by kernel_rfl
structure JoR (w:World) (l:List Wt) (j:Nat) (wr:World):Prop where
 bl:Bl w.heap.size w.heap.size (Z0z (l.take j)).data.toList wr
 below:Below w.heap.size w wr
theorem joinB_size (l:List Wt):(Z0z l).data.toList.length=(Z0z l).size:=by simp
theorem joinB_snoc (l:List Wt)(x:Wt):(Z0z (l ++ [x])).data.toList=(Z0z l).data.toList++x.raw.data.toList:=by
 induction l with
 | nil=>simp [Z0z]
 | cons y l ih=>simp [Z0z,ih]
theorem Z70:∀ l:List Wt,(∀ x∈l,x.raw.size≤512)→(Z0z l).data.toList.length≤512*l.length
 | [],_=>by simp [Z0z]
 | x :: l,h=>by
  have h1:=Z70 l fun y hy=>h y (List.mem_cons_of_mem _ hy)
  have h2:=h x (List.mem_cons_self ..)
  have h3:(Z0z (x :: l)).data.toList=x.raw.data.toList++(Z0z l).data.toList:=by simp [Z0z]
  rw [h3,List.length_append,List.length_cons]
  have a:x.raw.data.toList.length=x.raw.size:=by simp
  omega
theorem joined_any (v:Value)(l:List Wt)(w:World)(hv:Wts w v l)(hll:l.length≤1000)(hsz:∀ x∈l,x.raw.size≤512) :
  Calls prog 88 #[v] w fun e w'=>e= .returned (.string (Z0z l))∧Below w.heap.size w w':=by
 obtain⟨F,M,rfl⟩:=hv.form
 have s:Hid (Wts w (.slice F l.length M) l∧∀ x∈l,x.raw.size≤512):=⟨hv,hsz⟩
 have i:Hid (Bl w.heap.size w.heap.size [] (w.alloc (.cells #[.pointer none,.slice none 0 0] 139))) :=
  (show Lib.IsBuilder 139 5 w.heap.size w.heap.size (Lib.byteCells []) (w.alloc (.cells #[.pointer none,.slice none 0 0] 139)) from .inl ⟨Nat.le_refl _,_,heap_alloc_new w _,World.ownsRow_nil _ _ _ _,fun h=>by cases h⟩)
 clear hv hsz
 go_enter func88,ntmps88
 go_wp2_with fail
 go_loopw [8] (fun iv wr=> ∃ (j:Nat),j≤l.length∧iv= .int .i64 (j:Int)∧Hid (JoR w l j wr)) (fun iv _=>l.length-(intOf iv).toNat)
 case atStart=>exact⟨0,Nat.zero_le _,rfl,i.out,(Below.refl _ _).alloc (Nat.le_refl _) _⟩
 case round =>
  clear i
  obtain⟨j,N,rfl,b⟩:=hrel
  by_cases d:j<l.length
  ·have I:(j:Int)<l.length:=by omega
   obtain⟨g,o,rfl,y,B⟩:=s.out.1.at d
   have L:=Nat.lt_of_lt_of_le y b.out.below.size
   obtain⟨G,J⟩:=B.keep (b.out.below.block g y)
   have A:l.take (j+1)=l.take j ++ [l[j]]:=by rw [List.take_add_one,List.getElem?_eq_getElem d];rfl
   have z:Hid ((Z0z (l.take (j+1))).data.toList=(Z0z (l.take j)).data.toList++l[j].raw.data.toList):=by
    show _=_
    rw [A,joinB_snoc]
   have u:=s.out.2 _ (List.getElem_mem d)
   have E:(Z0z (l.take j)).data.toList.length≤512*j:=by
    have:=Z70 (l.take j) fun x hx=>s.out.2 x (List.mem_of_mem_take hx)
    rw [List.length_take] at this
    have:min j l.length≤j:=Nat.min_le_left _ _
    omega
   clear B A
   generalize l[j]=x at *
   obtain⟨a,r⟩:=x
   simp only at G J u z
   have c:Below wr.heap.size wr (wr.alloc (.cells #[.int .i64 a,.string r] 27)):=(Below.refl _ _).alloc (Nat.le_refl _) _
   have m:=ptWrite_any w.heap.size w.heap.size _ r _ (Bl_keep b.out.bl c) (by omega) (Nat.le_trans b.out.below.size c.size)
   have q:Hid (Below w.heap.size w (wr.alloc (.cells #[.int .i64 a,.string r] 27))):=b.out.below.trans (c.mono b.out.below.size)
   clear c
   go_wp2_with fail
   refine m.mono ?_
   rintro e K ⟨rfl,f,k⟩
   have C:Hid (JoR w l (j+1) K):=⟨by rw [z.out];exact f,q.out.trans k⟩
   clear m f k
   go_wp2
   go_roundw
   case rel=>exact⟨j+1,by omega,by go_num,C⟩
   case measure=>simp [intOf];omega
  ·obtain rfl:j=l.length:=by omega
   have I:¬ ((l.length:Nat):Int)<l.length:=by omega
   have p:=ctString_any w.heap.size w.heap.size _ wr b.out.bl b.out.below.size
   rw [List.take_length] at p
   have D:Hid ((⟨(Z0z l).data.toList.toArray⟩:ByteArray)=Z0z l):=by show _=_;simp
   rw [D.out] at p
   go_wp2_with fail
   refine p.mono ?_
   rintro e H ⟨rfl,n⟩
   have t:Hid (Below w.heap.size w H):=b.out.below.trans n
   clear p n
   go_wp2
   go_ret
   exact⟨rfl,t.out⟩
theorem Z4o (log:Int):∀ (l:List Wt) (i:Nat),(Z1S log i l).length=l.length
 | [],_=>rfl
 | x :: l,i=>by simp [Z1S,Z4o log l (i+1)]
theorem recsL_snoc (log:Int)(x:Wt):∀ (l:List Wt) (i:Nat),Z1S log i (l ++ [x])=Z1S log i l ++ [⟨log+((i+l.length:Nat):Int),x.raw⟩]
 | [],i=>rfl
 | y :: l,i=>by
  rw [List.cons_append,Z1S,recsL_snoc log x l (i+1),Z1S,List.length_cons,show i+1+l.length=i+(l.length+1) by omega]
  rfl
theorem records_any (n q s2 t:Nat)(v:Value)(l:List Wt)(w:World)(hv:Wts w v l)(hll:l.length≤1000) :
  Calls prog 51 #[.agg (layA n q s2 t),v] w fun e w'=> ∃ v',e= .returned v'∧WZ w' w.heap.size v' (Z1S 3 0 l)∧Below w.heap.size w w':=by
 obtain⟨Y,ca,rfl⟩:=hv.form
 obtain⟨Z,J,L,P,O⟩:=info_parts Z6b
 have W:Hid (Wts w (.slice Y l.length ca) l):=hv
 have z:(w.alloc (.cells (layA n q s2 t) 103)).heap[w.heap.size]? = some (.cells (layA n q s2 t) 103 (0,0)):=heap_alloc_new w _
 obtain⟨A,I⟩:∃ A,A=layA n q s2 t:=⟨_,rfl⟩
 have E:A[2]? = some (.int .i64 3):=by rw [I];rfl
 rw [← I] at z ⊢
 clear I hv
 have H:Hid ((w.alloc (.cells A 103)).heap[w.heap.size]? = some (.cells A 103 (0,0))∧Below w.heap.size w (w.alloc (.cells A 103))∧A[2]? = some (.int .i64 3)):=⟨z,(Below.refl _ _).alloc (Nat.le_refl _) _,E⟩
 clear z E
 go_enter func51,ntmps51
 go_wp2_with fail
 go_loopw [5,10] (fun sv iv wr=> ∃ (j:Nat),j≤l.length∧iv= .int .i64 (j:Int)∧WZ wr (w.heap.size+1) sv (Z1S 3 0 (l.take j))∧Hid (Below w.heap.size w wr∧wr.heap[w.heap.size]? = some (.cells A 103 (0,0)))) (fun _ iv _=>l.length-(intOf iv).toNat)
 case atStart=>exact⟨0,Nat.zero_le _,rfl,WZ.nil _ _,H.out.2.1,H.out.1⟩
 case round =>
  obtain⟨j,hj,rfl,b,f⟩:=hrel
  have F:(Z1S 3 0 (l.take j)).length=j:=by rw [Z4o,List.length_take];omega
  obtain⟨K,y,rfl⟩:=b.form
  rw [F] at b ⊢
  by_cases G:j<l.length
  ·have j1:(j:Int)<l.length:=by omega
   obtain⟨g,o,rfl,R,V⟩:=W.out.at G
   have a0:=Nat.lt_of_lt_of_le R f.out.1.size
   obtain⟨T,U⟩:=V.keep (f.out.1.block g R)
   have Q:Hid (Z1S 3 0 (l.take (j+1))=Z1S 3 0 (l.take j) ++ [⟨3+(j:Int),l[j].raw⟩]):=by
    show _=_
    rw [List.take_add_one,List.getElem?_eq_getElem G]
    show Z1S 3 0 (l.take j ++ [l[j]])=_
    rw [recsL_snoc,Nat.zero_add,List.length_take,Nat.min_eq_left (by omega)]
   clear V
   generalize l[j]=x at *
   obtain⟨a,r⟩:=x
   simp only at T U Q
   generalize Z1S 3 0 (l.take j)=d at *
   subst F
   have e2:(wr.alloc (.cells #[.int .i64 a,.string r] 27)).cell? ⟨w.heap.size,2,none⟩=some (.int .i64 3):=by
    have N:=lt_of_block f.out.2
    have hx:=(Below.heap_alloc wr (.cells #[.int .i64 a,.string r] 27) _ N).trans f.out.2
    simp [World.cell?,hx,H.out.2.2]
   have N:=lt_of_block f.out.2
   have B:Below w.heap.size w (wr.alloc (.cells #[.int .i64 a,.string r] 27)):=f.out.1.alloc f.out.1.size _
   have h:=World.ownsRow.alloc b (.cells #[.int .i64 a,.string r] 27)
   have m:=World.ownsRow.alloc h (.cells #[.int .i64 (3+(d.length:Int)),.string r] 27)
   have p:((wr.alloc (.cells #[.int .i64 a,.string r] 27)).alloc (.cells #[.int .i64 (3+(d.length:Int)),.string r] 27)).heap[wr.heap.size+1]? = some (.cells #[.int .i64 (3+(d.length:Int)),.string r] 27 (0,0)):=heap_alloc2_new wr _ _
   have s:∀ u∈([.int .i64 (3+(d.length:Int)),.string r]:List Value),u.oneCell'=true:=by intro u S;simp at S;rcases S with rfl | rfl <;> rfl
   have M:Hid (WZ wr (w.heap.size+1) (.slice K d.length y) d∧Below w.heap.size w ((wr.alloc (.cells #[.int .i64 a,.string r] 27)).alloc (.cells #[.int .i64 (3+(d.length:Int)),.string r] 27))∧((wr.alloc (.cells #[.int .i64 a,.string r] 27)).alloc (.cells #[.int .i64 (3+(d.length:Int)),.string r] 27)).heap[w.heap.size]? = some (.cells A 103 (0,0))):=⟨b,B.alloc B.size _,(Below.heap_alloc _ _ _ (by simp;omega)).trans ((Below.heap_alloc _ _ _ N).trans f.out.2)⟩
   have X:=f.out.1.size
   clear b h B f H
   go_wp2_with (first | (at_builtin;(refine wpList_append_own _ rfl _ _ 116 rfl (w.heap.size+1) 27 Z _ 2 24 underlying116 J L P O rfl (by decide) (.slice K d.length y) d.length (d.flatMap Wt.cells) rfl m ⟨wr.heap.size+1,0,none⟩ 1 1 [.int .i64 (3+(d.length:Int)),.string r] rfl rfl (World.news_of_block p) s (by unfold maxLen;omega) (by omega) (by simp;omega) ?_)))
   intro v1 wB i c _
   have C:Below (w.heap.size+1) ((wr.alloc (.cells #[.int .i64 a,.string r] 27)).alloc (.cells #[.int .i64 (3+(d.length:Int)),.string r] 27)) wB:=(Below.refl _ _).grown c (by simp;omega) fun k hk=>(World.ownsRow.lt M.out.1 k hk).1
   have D:Hid (WZ wB (w.heap.size+1) v1 (Z1S 3 0 (l.take (d.length+1)))∧Below w.heap.size w wB∧wB.heap[w.heap.size]? = some (.cells A 103 (0,0))):=by
    refine⟨?_,M.out.2.1.trans (C.mono (by omega)),(C.block w.heap.size (by omega)).trans M.out.2.2⟩
    unfold WZ
    rw [Q.out,List.length_append,List.length_singleton,List.flatMap_append,List.flatMap_singleton]
    exact i
   clear m p i c C s T U e2
   go_wp2
   go_roundw
   case rel=>exact⟨d.length+1,by omega,by go_num,D.out.1,D.out.2.1,D.out.2.2⟩
   case measure=>simp [intOf];omega
  ·obtain rfl:j=l.length:=by omega
   have j1:¬ ((l.length:Nat):Int)<l.length:=by omega
   have D:Hid (WZ wr w.heap.size (.slice K l.length y) (Z1S 3 0 l)∧Below w.heap.size w wr):=by
    rw [List.take_length] at b
    refine⟨?_,f.out.1⟩
    exact WZ.mono b (Nat.le_succ _)
   clear b f
   go_wp2
   go_ret
   exact⟨_,rfl,D.out.1,D.out.2⟩
theorem Z1o (w:World)(o:Obj):Below w.heap.size w (w.alloc o):=(Below.refl _ _).alloc (Nat.le_refl _) _
theorem wts_new1 (w:World)(g:Nat)(a:Int)(r:ByteArray)(t cap:Nat)(hg:g=w.heap.size):Wts (w.alloc (.cells #[.int .i64 a,.string r] t)) (.slice (some ⟨g,0,none⟩) 1 cap) [⟨a,r⟩]:=by
 subst hg
 refine .inr ⟨w.heap.size,0,cap,rfl,by simp,fun i x hx=> ?_⟩
 have b:i=0:=by have:=(List.getElem?_eq_some_iff.1 hx).1;simp at this;omega
 subst b
 cases hx
 have g:=heap_alloc_new w (.cells #[.int .i64 a,.string r] t)
 exact⟨cell_of_row _ _ 0 _ _ _ g,cell_of_row _ _ 1 _ _ _ g⟩
theorem wts_new2 (w:World)(g:Nat)(a b:Int)(r s:ByteArray)(t cap:Nat)(hg:g=w.heap.size):Wts (w.alloc (.cells #[.int .i64 a,.string r,.int .i64 b,.string s] t)) (.slice (some ⟨g,0,none⟩) 2 cap) [⟨a,r⟩,⟨b,s⟩]:=by
 subst hg
 refine .inr ⟨w.heap.size,0,cap,rfl,by simp,fun i x hx=> ?_⟩
 have c:i=0∨i=1:=by have:=(List.getElem?_eq_some_iff.1 hx).1;simp at this;omega
 have g:=heap_alloc_new w (.cells #[.int .i64 a,.string r,.int .i64 b,.string s] t)
 rcases c with rfl | rfl
 ·cases hx
  exact⟨cell_of_row _ _ 0 _ _ _ g,cell_of_row _ _ 1 _ _ _ g⟩
 ·cases hx
  exact⟨cell_of_row _ _ 2 _ _ _ g,cell_of_row _ _ 3 _ _ _ g⟩
def WtO (F:Nat→Prop)(w:World)(v:Value)(l:List Wt):Prop:=Wts w v l∧(l≠[]→Wts.Out v F)
theorem WtO.below {F:Nat→Prop}{w w':World}{v:Value}{l:List Wt}(h:WtO F w v l)(hb:Below w.heap.size w w'):WtO F w' v l:=⟨h.1.below hb,h.2⟩
theorem out_of {F:Nat→Prop}{g o len cap:Nat}(h:¬ F g):Wts.Out (.slice (some ⟨g,o,none⟩) len cap) F:=fun g' _ _ _ e=>by
 simp only [Value.slice.injEq,Option.some.injEq,Addr.mk.injEq] at e
 obtain⟨⟨rfl,_⟩,_⟩:=e
 exact h
theorem ba {a w:World}{o:Obj}(h:Below a.heap.size a w):Below a.heap.size a (w.alloc o):=h.alloc h.size o
theorem bd {a w:World}{B:Nat}(h:Below B a w):Below B a w.drew:=h.drew
theorem Wts.drew {w:World}{v:Value}{l:List Wt}(h:Wts w v l):Wts w.drew v l:=by
 rcases h with h | ⟨g,o,cap,e,hg,hx⟩
 ·exact .inl h
 ·exact .inr ⟨g,o,cap,e,hg,fun i x hi=>⟨(hx i x hi).c0,(hx i x hi).c1⟩⟩
theorem Wts.al {w:World}{o:Obj}{v:Value}{l:List Wt}(h:Wts w v l):Wts (w.alloc o) v l:=h.below (Z1o w o)
theorem ErrT.bel {w w':World}(h:ErrT w)(hb:Below w.heap.size w w'):ErrT w':=h.below hb (Z0E h)
theorem duo_fin {K:VK}{F:Nat→Prop}{B:Nat}{P:PS}{S:K.σ}{w w3 Wc wF:World}(hT:Z02 F w w3)(hlt:∀ k,F k→k<w.heap.size)(hb:Below w3.heap.size w3 Wc)(hd:Duo K wF (grow F Wc wF) B P S)(ht:Z02 F Wc wF):Duo K wF (grow F w wF) B P S∧Z02 F w wF:=by
 have b:Z02 F w Wc:=hT.trans (Z02.of_below hb)
 have a:Z02 F w wF:=b.trans (ht.mono fun _ h=> .inl h)
 refine⟨hd.mono (fun k hk=> ?_) (fun k hk=> ?_),a⟩
 ·rcases hk with hk | hk
  ·exact .inl hk
  ·exact .inr ⟨Nat.le_trans b.size hk.1,hk.2⟩
 ·rcases hk with hk | hk
  ·exact Nat.lt_of_lt_of_le (hlt k hk) a.size
  ·exact hk.2
theorem duo_step {K:VK}(HK:VKOk K){F:Nat→Prop}{B:Nat}{P:PS}{S:K.σ}{w wF wG:World}(h:Duo K wF (grow F w wF) B P S∧Z02 F w wF)(hb:Below wF.heap.size wF wG):Duo K wG (grow F w wG) B P S∧Z02 F w wG:=by
 have a:Z02 F w wG:=h.2.trans (Z02.of_below hb)
 refine⟨(h.1.below HK hb).mono (fun k hk=> ?_) (fun k hk=> ?_),a⟩
 ·rcases hk with hk | hk
  ·exact .inl hk
  ·exact .inr ⟨hk.1,Nat.lt_of_lt_of_le hk.2 hb.size⟩
 ·rcases hk with hk | hk
  ·have:=h.1.lt k (.inl hk);have:=hb.size;omega
  ·exact hk.2
theorem Z6c {W3 Wc wF:World}{F:Nat→Prop}{g:Nat}(hb:Below W3.heap.size W3 Wc)(ht:Z02 F Wc wF)(hg:g<W3.heap.size)(hF:¬ F g):wF.heap[g]? = W3.heap[g]? :=(ht.2 g (Nat.lt_of_lt_of_le hg hb.size) hF).trans (hb.block g hg)
theorem keep_cells {W3 Wc wF:World}{F:Nat→Prop}{g:Nat}(hb:Below W3.heap.size W3 Wc)(ht:Z02 F Wc wF)(hg:g<W3.heap.size)(hF:¬ F g)(i:Nat)(v:Value)(h:Wc.cell? ⟨g,i,none⟩=some v):wF.cell? ⟨g,i,none⟩=some v :=
 (World.cell?_of_block (a:=⟨g,i,none⟩) (ht.2 g (Nat.lt_of_lt_of_le hg hb.size) hF)).trans h
theorem follow_2 (K:VK)(HK:VKOk K)(F:Nat→Prop)(B:Nat)(P:PS)(S:K.σ)(W:World)(v1 v2:Value)(l1 l2:List Wt)(g:Nat)(t cap:Nat)(hgW:g=W.heap.size)(h:Duo K W F B P S)(hw:P.wait.length+8*Z86 [l1,l2]≤900000)(hg:ErrT W)(hF:¬ F 3)(h1:WtO F W v1 l1)(h2:WtO F W v2 l2) :
  Calls prog 44 #[.pointer (some ⟨B,0,none⟩),.slice (some ⟨g,0,none⟩) 2 cap] (W.alloc (.cells #[v1,v2] t)) fun e w'=>(∃ v,e= .returned v∧RetV (folE [l1,l2] P) v)∧Duo K w' (grow F (W.alloc (.cells #[v1,v2] t)) w') B (folP [l1,l2] P) S∧Z02 F (W.alloc (.cells #[v1,v2] t)) w':=by
 subst hgW
 have a:=Z1o W (.cells #[v1,v2] t)
 refine (h.below HK a).plateC HK (E:=fun e=> ∃ v,e= .returned v∧RetV (folE [l1,l2] P) v) fun F1 hp hin=> ?_
 refine follow_any W.heap.size 0 cap [l1,l2] B F1 P _ ⟨by simp,fun hk=>by have:=h.lt _ (hin _ hk);omega,fun i l hl=> ?_⟩ (by simp) hp hw (hg.touch (Z02.of_below a (F:=F)) hF) (fun hk=>hF (hin _ hk))
 have b:i=0∨i=1:=by have:=(List.getElem?_eq_some_iff.1 hl).1;simp at this;omega
 rcases b with rfl | rfl
 ·cases hl
  exact⟨v1,cell_of_row _ _ 0 _ _ _ (heap_alloc_new W _),(h1.below a).1,fun hn g o len cap e hk=>h1.2 hn g o len cap e (hin g hk)⟩
 ·cases hl
  exact⟨v2,cell_of_row _ _ 1 _ _ _ (heap_alloc_new W _),(h2.below a).1,fun hn g o len cap e hk=>h2.2 hn g o len cap e (hin g hk)⟩
theorem follow_4 (K:VK)(HK:VKOk K)(F:Nat→Prop)(B:Nat)(P:PS)(S:K.σ)(W:World)(v1 v2 v3 v4:Value)(l1 l2 l3 l4:List Wt)(g:Nat)(t cap:Nat)(hgW:g=W.heap.size)(h:Duo K W F B P S)(hw:P.wait.length+8*Z86 [l1,l2,l3,l4]≤900000)(hg:ErrT W)(hF:¬ F 3)(h1:WtO F W v1 l1)(h2:WtO F W v2 l2)(h3:WtO F W v3 l3)(h4:WtO F W v4 l4) :
  Calls prog 44 #[.pointer (some ⟨B,0,none⟩),.slice (some ⟨g,0,none⟩) 4 cap] (W.alloc (.cells #[v1,v2,v3,v4] t)) fun e w'=>(∃ v,e= .returned v∧RetV (folE [l1,l2,l3,l4] P) v)∧Duo K w' (grow F (W.alloc (.cells #[v1,v2,v3,v4] t)) w') B (folP [l1,l2,l3,l4] P) S∧Z02 F (W.alloc (.cells #[v1,v2,v3,v4] t)) w':=by
 subst hgW
 have a:=Z1o W (.cells #[v1,v2,v3,v4] t)
 refine (h.below HK a).plateC HK (E:=fun e=> ∃ v,e= .returned v∧RetV (folE [l1,l2,l3,l4] P) v) fun F1 hp hin=> ?_
 refine follow_any W.heap.size 0 cap [l1,l2,l3,l4] B F1 P _ ⟨by simp,fun hk=>by have:=h.lt _ (hin _ hk);omega,fun i l hl=> ?_⟩ (by simp) hp hw (hg.touch (Z02.of_below a (F:=F)) hF) (fun hk=>hF (hin _ hk))
 have b:i=0∨i=1∨i=2∨i=3:=by have:=(List.getElem?_eq_some_iff.1 hl).1;simp at this;omega
 rcases b with rfl | rfl | rfl | rfl
 ·cases hl
  exact⟨v1,cell_of_row _ _ 0 _ _ _ (heap_alloc_new W _),(h1.below a).1,fun hn g o len cap e hk=>h1.2 hn g o len cap e (hin g hk)⟩
 ·cases hl
  exact⟨v2,cell_of_row _ _ 1 _ _ _ (heap_alloc_new W _),(h2.below a).1,fun hn g o len cap e hk=>h2.2 hn g o len cap e (hin g hk)⟩
 ·cases hl
  exact⟨v3,cell_of_row _ _ 2 _ _ _ (heap_alloc_new W _),(h3.below a).1,fun hn g o len cap e hk=>h3.2 hn g o len cap e (hin g hk)⟩
 ·cases hl
  exact⟨v4,cell_of_row _ _ 3 _ _ _ (heap_alloc_new W _),(h4.below a).1,fun hn g o len cap e hk=>h4.2 hn g o len cap e (hin g hk)⟩
theorem Z4D (tmps:Array Value)(g:Nat)(w':World)(c:Int)(cs:Array Value)(b:Bool)(R:Ending→World→Prop)(h0:tmps.getD 4 undef= .int .i64 c)(h1:tmps.getD 5 undef= .pointer (some ⟨g,0,none⟩))(h2:tmps.getD 6 undef= .bool b)(hg:w'.heap[g]? = some (.cells cs 23 (0,0)))(hs:cs.size=5)(hR:R (.returned (.tuple #[.int .i64 c,.agg cs,.bool b])) w') :
  bodyPost prog Tryz.f93 R .ret { tmps:=tmps,defers:= []} w':=by
 have a:=run_loadVar_row (P:=prog) w' g 23 23 cs (0,0) _ hg underlying23 rfl (by rw [hs];kernel_rfl)
 simp at h0 h1 h2
 exact bodyPost_ret (v:= .tuple #[.int .i64 c,.agg cs,.bool b]) (by simp [results,Tryz.results93,asAddr,a,h0,h1,h2]) rfl hR
theorem set5 {w:World}{b t:Nat}{z0 z1 z2 z3 z4:Value}(h:w.heap[b]? = some (.cells #[z0,z1,z2,z3,z4] t (0,0)))(v0 v1 v2 v3 v4:Value) :
  (((((w.setCell ⟨b,0,none⟩ v0).setCell ⟨b,1,none⟩ v1).setCell ⟨b,2,none⟩ v2).setCell ⟨b,3,none⟩ v3).setCell ⟨b,4,none⟩ v4).heap[b]? = some (.cells #[v0,v1,v2,v3,v4] t (0,0)):=by
 have d:=heap_setCell_same w b 0 _ _ v0 h
 have e:=heap_setCell_same _ b 1 _ _ v1 d
 have c:=heap_setCell_same _ b 2 _ _ v2 e
 have a:=heap_setCell_same _ b 3 _ _ v3 c
 exact heap_setCell_same _ b 4 _ _ v4 a
theorem piT_pad (r:Rg)(h:r.body.size=448):padE (r.body.extract 34 448) 448=0:=by
 have:(r.body.extract 34 448).size=414:=by simp [h]
 unfold padE
 rw [this]
 rfl
theorem jpri_in (ok:Bool)(h:Hd)(s T:ByteArray)(N:Int)(c:Sp)(y:Int)(live:Int)(w:World)(hs:ok=true→s.size=448)
  (hg:ok=true→∀ w,Calls prog 125 #[.string s,.int .i64 0,.int .i64 2] w fun e w'=>e= .returned (.tuple #[.int .i64 N,.int .i64 0])∧w'=w)
  (hp:ok=true→∀ w,Calls prog 68 #[.string (s.extract 34 448),.int .i64 448] w fun e w'=>e= .returned (.tuple #[.string T,.int .i64 0])∧Below w.heap.size w w')
  (ho:∀ w,Calls prog 119 #[.string T] w fun e w'=>e= .returned (.tuple #[.agg c.arr,.int .i64 y])∧Below w.heap.size w w')
  (P1:Int)(P2:Array Value)(P3:Bool)(hyes:(ok=true∧h.v2=2∧N≤24∧y=0∧c.lv=live)→P1=N∧P2=c.arr∧P3=true)(hno:¬ (ok=true∧h.v2=2∧N≤24∧y=0∧c.lv=live)→P1=0∧P2=Sp.zero.arr∧P3=false) :
  Calls prog 93 #[.agg #[.bool ok,.int .i64 h.v0,.int .i64 h.v1,.int .i64 h.v2,.int .i64 h.v3,.int .i64 h.v4,.int .i64 h.v5,.int .i64 h.v6,.int .i64 h.v7,.string s],.int .i64 live] w fun e w'=>e= .returned (.tuple #[.int .i64 P1,.agg P2,.bool P3])∧Below w.heap.size w w':=by
 obtain⟨m,n,l,b,r⟩:=c
 unfold Sp.arr at ho
 have HY:Hid ((ok=true∧h.v2=2∧N≤24∧y=0∧b=live)→P1=N∧P2=#[.int .i64 m,.int .i64 n,.int .i64 l,.int .i64 b,.string r]∧P3=true):=hyes
 have M:Hid (¬ (ok=true∧h.v2=2∧N≤24∧y=0∧b=live)→P1=0∧P2=#[.int .i64 0,.int .i64 0,.int .i64 0,.int .i64 0,.string ⟨#[]⟩]∧P3=false):=hno
 clear hyes hno
 have k:Below w.heap.size w ((w.alloc (.cells #[.bool ok,.int .i64 h.v0,.int .i64 h.v1,.int .i64 h.v2,.int .i64 h.v3,.int .i64 h.v4,.int .i64 h.v5,.int .i64 h.v6,.int .i64 h.v7,.string s] 125)).alloc (.cells #[.int .i64 0,.int .i64 0,.int .i64 0,.int .i64 0,.string ⟨#[]⟩] 23)):=((Below.refl _ _).alloc (Nat.le_refl _) _).alloc (by simp) _
 by_cases K:ok=true∧h.v2=2
 case neg =>
  have d:Hid _:=M.out (fun h=>K ⟨h.1,h.2.1⟩)
  have H:Hid _:=k
  clear ho k hg hp hs
  cases ok with
  | false =>
   go_enter func93,ntmps93
   go_wp2
   exact Z4D _ (w.heap.size+1) _ 0 #[.int .i64 0,.int .i64 0,.int .i64 0,.int .i64 0,.string ⟨#[]⟩] false _ rfl rfl rfl (heap_alloc2_new w _ _) rfl ⟨by rw [d.out.1,d.out.2.1,d.out.2.2],H.out⟩
  | true =>
   have k2:(h.v2 != 2)=true:=by simp;exact fun e=>K ⟨rfl,e⟩
   clear K
   go_enter func93,ntmps93
   go_wp2
   exact Z4D _ (w.heap.size+1) _ 0 #[.int .i64 0,.int .i64 0,.int .i64 0,.int .i64 0,.string ⟨#[]⟩] false _ rfl rfl rfl (heap_alloc2_new w _ _) rfl ⟨by rw [d.out.1,d.out.2.1,d.out.2.2],H.out⟩
 obtain⟨rfl,I⟩:=K
 have k2:(h.v2 != 2)=false:=by simp [I]
 have t:=hg rfl
 have x:=hp rfl
 have P:=hs rfl
 clear hg hp hs
 have v:(34:Int)≤s.size:=by omega
 have q:s.extract 34 s.size=s.extract 34 448:=by rw [P]
 by_cases J:N≤24
 case neg =>
  have d:Hid _:=M.out (fun h=>J h.2.2.1)
  have k3:decide (N > 24)=true:=by simp;omega
  have k4:decide (24<N)=true:=by simp;omega
  have H:Hid _:=k
  clear ho k x I J q v
  go_enter func93,ntmps93
  go_wp2_with fail
  refine (t _).mono ?_
  rintro e U ⟨rfl,rfl⟩
  clear t
  go_wp2
  exact Z4D _ (w.heap.size+1) _ 0 #[.int .i64 0,.int .i64 0,.int .i64 0,.int .i64 0,.string ⟨#[]⟩] false _ rfl rfl rfl (heap_alloc2_new w _ _) rfl ⟨by rw [d.out.1,d.out.2.1,d.out.2.2],H.out⟩
 have k4:decide (24<N)=false:=by simp;omega
 have V:Hid (h.v2=2∧N≤24):=⟨I,J⟩
 clear I J
 go_enter func93,ntmps93
 go_wp2_with fail
 refine (t _).mono ?_
 rintro e U ⟨rfl,rfl⟩
 clear t
 go_wp2_with fail
 try rw [q]
 refine (x _).mono ?_
 rintro e U ⟨rfl,z⟩
 have o:=k.trans (z.mono k.size)
 have O:=(z.block (w.heap.size+1) (by simp)).trans (heap_alloc2_new w _ _)
 clear x k z q v
 go_wp2_with fail
 refine (ho _).mono ?_
 rintro e a ⟨rfl,B⟩
 have u:=lt_of_block O
 have g:=o.trans (B.mono o.size)
 have j:=(B.block (w.heap.size+1) u).trans O
 have E:=lt_of_block j
 have D:(a.alloc (.cells #[.int .i64 m,.int .i64 n,.int .i64 l,.int .i64 b,.string r] 23)).heap[w.heap.size+1]? = some (.cells #[.int .i64 0,.int .i64 0,.int .i64 0,.int .i64 0,.string ⟨#[]⟩] 23 (0,0)):=(Below.heap_alloc _ _ _ E).trans j
 have S:(a.alloc (.cells #[.int .i64 m,.int .i64 n,.int .i64 l,.int .i64 b,.string r] 23)).heap[a.heap.size]? = some (.cells #[.int .i64 m,.int .i64 n,.int .i64 l,.int .i64 b,.string r] 23 (0,0)):=heap_alloc_new a _
 have A:Below w.heap.size w (a.alloc (.cells #[.int .i64 m,.int .i64 n,.int .i64 l,.int .i64 b,.string r] 23)):=g.alloc (by omega) _
 clear ho B o O u
 by_cases G:y=0∧b=live
 ·obtain⟨rfl,Q⟩:=G
  have R:(b != live)=false:=by simp [Q]
  have i:true=true∧h.v2=2∧N≤24∧(0:Int)=0∧b=live:=⟨rfl,V.out.1,V.out.2,rfl,Q⟩
  have d:Hid _:=HY.out ⟨trivial,i.2⟩
  clear Q i
  have W:a.cell? ⟨w.heap.size+1,0,none⟩=some (.int .i64 0):=cell_of_row _ _ 0 _ _ _ j
  have q1:a.cell? ⟨w.heap.size+1,1,none⟩=some (.int .i64 0):=cell_of_row _ _ 1 _ _ _ j
  have q2:a.cell? ⟨w.heap.size+1,2,none⟩=some (.int .i64 0):=cell_of_row _ _ 2 _ _ _ j
  have q3:a.cell? ⟨w.heap.size+1,3,none⟩=some (.int .i64 0):=cell_of_row _ _ 3 _ _ _ j
  have q4:a.cell? ⟨w.heap.size+1,4,none⟩=some (.string ⟨#[]⟩):=cell_of_row _ _ 4 _ _ _ j
  have f0:=frozen_of_row a (w.heap.size+1) 0 _ _ j
  have X:=frozen_of_row a (w.heap.size+1) 1 _ _ j
  have Y:=frozen_of_row a (w.heap.size+1) 2 _ _ j
  have Z:=frozen_of_row a (w.heap.size+1) 3 _ _ j
  have f4:=frozen_of_row a (w.heap.size+1) 4 _ _ j
  have HG:Hid (a.heap[w.heap.size+1]? = some (.cells #[.int .i64 0,.int .i64 0,.int .i64 0,.int .i64 0,.string ⟨#[]⟩] 23 (0,0))∧Below w.heap.size w a):=⟨j,g⟩
  have f:Hid ((((((a.setCell ⟨w.heap.size+1,0,none⟩ (.int .i64 m)).setCell ⟨w.heap.size+1,1,none⟩ (.int .i64 n)).setCell ⟨w.heap.size+1,2,none⟩ (.int .i64 l)).setCell ⟨w.heap.size+1,3,none⟩ (.int .i64 b)).setCell ⟨w.heap.size+1,4,none⟩ (.string r)).heap[w.heap.size+1]? = some (.cells #[.int .i64 m,.int .i64 n,.int .i64 l,.int .i64 b,.string r] 23 (0,0))∧Below w.heap.size w (((((a.setCell ⟨w.heap.size+1,0,none⟩ (.int .i64 m)).setCell ⟨w.heap.size+1,1,none⟩ (.int .i64 n)).setCell ⟨w.heap.size+1,2,none⟩ (.int .i64 l)).setCell ⟨w.heap.size+1,3,none⟩ (.int .i64 b)).setCell ⟨w.heap.size+1,4,none⟩ (.string r))):=⟨set5 j _ _ _ _ _,((((g.setCell (p:=⟨w.heap.size+1,0,none⟩) (by simp) _).setCell (p:=⟨w.heap.size+1,1,none⟩) (by simp) _).setCell (p:=⟨w.heap.size+1,2,none⟩) (by simp) _).setCell (p:=⟨w.heap.size+1,3,none⟩) (by simp) _).setCell (p:=⟨w.heap.size+1,4,none⟩) (by simp) _⟩
  have F:Hid (((((((a.setCell ⟨w.heap.size+1,0,none⟩ (.int .i64 m)).setCell ⟨w.heap.size+1,1,none⟩ (.int .i64 n)).setCell ⟨w.heap.size+1,2,none⟩ (.int .i64 l)).setCell ⟨w.heap.size+1,3,none⟩ (.int .i64 b)).setCell ⟨w.heap.size+1,4,none⟩ (.string r)).alloc (.cells #[.int .i64 m,.int .i64 n,.int .i64 l,.int .i64 b,.string r] 23)).drew.heap[w.heap.size+1]? = some (.cells #[.int .i64 m,.int .i64 n,.int .i64 l,.int .i64 b,.string r] 23 (0,0))∧Below w.heap.size w ((((((a.setCell ⟨w.heap.size+1,0,none⟩ (.int .i64 m)).setCell ⟨w.heap.size+1,1,none⟩ (.int .i64 n)).setCell ⟨w.heap.size+1,2,none⟩ (.int .i64 l)).setCell ⟨w.heap.size+1,3,none⟩ (.int .i64 b)).setCell ⟨w.heap.size+1,4,none⟩ (.string r)).alloc (.cells #[.int .i64 m,.int .i64 n,.int .i64 l,.int .i64 b,.string r] 23)).drew):=⟨(Below.heap_alloc (((((a.setCell ⟨w.heap.size+1,0,none⟩ (.int .i64 m)).setCell ⟨w.heap.size+1,1,none⟩ (.int .i64 n)).setCell ⟨w.heap.size+1,2,none⟩ (.int .i64 l)).setCell ⟨w.heap.size+1,3,none⟩ (.int .i64 b)).setCell ⟨w.heap.size+1,4,none⟩ (.string r)) _ _ (lt_of_block f.out.1)).trans f.out.1,(f.out.2.alloc f.out.2.size _).drew⟩
  clear D S A j g HG f
  go_wp2_with fail
  go_region
  clear W q1 q2 q3 q4 f0 X Y Z f4
  go_wp2_with fail
  refine Z4D _ (w.heap.size+1) _ N #[.int .i64 m,.int .i64 n,.int .i64 l,.int .i64 b,.string r] true _ rfl rfl rfl ?_ rfl ⟨?_,?_⟩
  ·exact F.out.1
  ·rw [d.out.1,d.out.2.1,d.out.2.2]
  ·exact F.out.2
 ·have C:(y != 0)=true∨((y != 0)=false∧(b != live)=true):=by
   by_cases L:y=0
   ·exact .inr ⟨by simp [L],by simp;exact fun e3=>G ⟨L,e3⟩⟩
   ·exact .inl (by simpa using L)
  have i:¬ (true=true∧h.v2=2∧N≤24∧y=0∧b=live):=fun h=>G h.2.2.2
  have d:Hid _:=M.out (fun h=>i ⟨rfl,h.2⟩)
  clear G S i g j
  rcases C with R | ⟨R,k6⟩
  ·go_wp2_with (refine wpList_store_row rfl 23 _ _ rfl (w.heap.size+1) #[.int .i64 0,.int .i64 0,.int .i64 0,.int .i64 0,.string ⟨#[]⟩] rfl rfl 23 _ D (by kernel_rfl) rfl (by simp [Value.oneCell']) ?_)
   exact Z4D _ (w.heap.size+1) _ 0 #[.int .i64 0,.int .i64 0,.int .i64 0,.int .i64 0,.string ⟨#[]⟩] false _ rfl rfl rfl (setRow_heap _ _ _ _ _ _ D) rfl ⟨by rw [d.out.1,d.out.2.1,d.out.2.2],Z0j A (by omega) _⟩
  ·go_wp2_with (refine wpList_store_row rfl 23 _ _ rfl (w.heap.size+1) #[.int .i64 0,.int .i64 0,.int .i64 0,.int .i64 0,.string ⟨#[]⟩] rfl rfl 23 _ D (by kernel_rfl) rfl (by simp [Value.oneCell']) ?_)
   exact Z4D _ (w.heap.size+1) _ 0 #[.int .i64 0,.int .i64 0,.int .i64 0,.int .i64 0,.string ⟨#[]⟩] false _ rfl rfl rfl (setRow_heap _ _ _ _ _ _ D) rfl ⟨by rw [d.out.1,d.out.2.1,d.out.2.2],Z0j A (by omega) _⟩
theorem jpri_any (r:Rg)(live:Int)(w:World)(hs:r.ok=true→r.body.size=448) :
  Calls prog 93 #[.agg r.arr,.int .i64 live] w fun e w'=>e= .returned (.tuple #[.int .i64 (piN r live),.agg (piS r live).arr,.bool (piB r live)])∧Below w.heap.size w w':=by
 have h:=jpri_in r.ok r.h r.body (piT r) (getN r.body 0 2) (spOf (piT r)) (Z0J (piT r)) live w hs (fun a w=>by
  have f:=get_any r.body 0 2 (by rw [hs a];decide) w
  have e:getE r.body 0 2=0:=by
   have j:=hs a
   unfold getE
   rw [if_neg (by decide),if_neg (by omega)]
  rw [e] at f
  exact f) (fun a w=>by
  have g:=Z7h (r.body.extract 34 448) 448 w
  rw [piT_pad r (hs a)] at g
  exact g) fun w=>by
  have a:=Z7z (piT r) w
  rw [superOC_arr] at a
  exact a
 have i:(r.ok=true∧r.h.v2=2∧getN r.body 0 2≤24∧Z0J (piT r)=0∧(spOf (piT r)).lv=live) ↔ piB r live=true:=by
  unfold piB
  exact decide_eq_true_iff.symm
 refine h (piN r live) (piS r live).arr (piB r live) (fun hy=> ?_) (fun hn=> ?_)
 ·have b:=i.1 hy
  have c:piN r live=getN r.body 0 2:=if_pos b
  have d:piS r live=spOf (piT r):=if_pos b
  exact⟨c,congrArg Sp.arr d,b⟩
 ·have b:¬ piB r live=true:=fun e=>hn (i.2 e)
  have c:piN r live=0:=if_neg b
  have d:piS r live=Sp.zero:=if_neg b
  exact⟨c,congrArg Sp.arr d,Bool.eq_false_iff.2 b⟩
end Go.Proofs.YtijpgmkdnemmbaaGreatDoor
