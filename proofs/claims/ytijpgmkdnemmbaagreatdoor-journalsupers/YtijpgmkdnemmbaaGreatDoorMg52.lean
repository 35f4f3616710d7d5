/- Part 52. -/
import Derived.Test.YtijpgmkdnemmbaaGreatDoorMg31
import Derived.Test.YtijpgmkdnemmbaaGreatDoorMg51
import Derived.Test.YtijpgmkdnemmbaaGreatDoorMg29
set_option maxRecDepth 20000
set_option maxHeartbeats 8000000
open Go.RowKit Go.Proofs.Tryz
namespace Go.Proofs.YtijpgmkdnemmbaaGreatDoor
structure LaidW (w0 w:World) (X:ByteArray) (S:PS) (G B1 B2 B3 B4:Nat):Prop where
 row:w.heap[G]? = some (.cells #[.pointer (some ⟨B1,0,none⟩),.pointer (some ⟨B2,0,none⟩),.pointer (some ⟨B3,0,none⟩),.pointer (some ⟨B4,0,none⟩)] 36 (0,0))
 own:w0.heap.size≤G
 dev:∃ m,w0.heap.size≤m∧m≤G∧Z0d w (fun k=>w0.heap.size≤k∧k<m) B1 S∧∃ m2,m≤m2∧m2≤G∧RefP w (fun k=>m≤k∧k<m2) B2 S
 real:RealV w B3 X
 ref:RefR w B4 X
theorem laid_any (n:Nat)(hn:n≤32768):∃ X:ByteArray,X.size=32∧∀ w,TabR w→Calls prog 4 #[.int .i64 n] w fun e w'=> ∃ G B1 B2 B3 B4,e= .returned (.pointer (some ⟨G,0,none⟩))∧LaidW w w' X (newP n) G B1 B2 B3 B4∧Below w.heap.size w w':=by
 obtain⟨X,J,F,B⟩:=stretch6 ⟨#[112]⟩ (by decide)
 refine⟨X,J,fun w ht=> ?_⟩
 have K:Hid (∀ W,Below w.heap.size w W→TabR W):=fun W b=>prims6.tab ht b
 have H:=new_any n hn w
 have C:=fun W=>rnew_any n hn W
 have u:=fun W (b:Below w.heap.size w W)=>real_yes W (F W (K.out W b))
 have E:=fun W=>rreal_yes W (B W)
 clear F B ht
 go_enter func4,ntmps4
 go_wp2_with fail
 refine H.mono ?_
 rintro e L ⟨B1,rfl,j,hh⟩
 have a:Hid (_∧_):=⟨j,hh⟩
 clear H j hh
 go_wp2_with fail
 refine (C _).mono ?_
 rintro e M ⟨B2,rfl,m,r⟩
 have l:Hid (_∧_):=⟨m,r⟩
 clear C m r
 go_wp2_with fail
 refine (u _ (a.out.2.trans (l.out.2.mono a.out.2.size))).mono ?_
 rintro e P ⟨B3,rfl,p,i⟩
 have t:Hid (_∧_):=⟨p,i⟩
 clear u p i
 go_wp2_with fail
 refine (E _).mono ?_
 rintro e s ⟨B4,rfl,g,d⟩
 have q:Hid (_∧_):=⟨g,d⟩
 clear E g d
 have v:Hid (∃ W,W=s.alloc (.cells #[.pointer (some ⟨B1,0,none⟩),.pointer (some ⟨B2,0,none⟩),.pointer (some ⟨B3,0,none⟩),.pointer (some ⟨B4,0,none⟩)] 36)∧LaidW w W X (newP n) s.heap.size B1 B2 B3 B4∧Below w.heap.size w W):=by
  have D:=a.out.2.size
  have A:=l.out.2.size
  have N:=t.out.2.size
  have O:=q.out.2.size
  have c:=Z1o s (.cells #[.pointer (some ⟨B1,0,none⟩),.pointer (some ⟨B2,0,none⟩),.pointer (some ⟨B3,0,none⟩),.pointer (some ⟨B4,0,none⟩)] 36)
  have o:=t.out.2.trans (q.out.2.mono N)
  have f:=l.out.2.trans (o.mono A)
  refine⟨_,rfl,⟨heap_alloc_new s _,by omega,⟨L.heap.size,D,by omega,(a.out.1.below f).below c,M.heap.size,A,by omega,(l.out.1.keep fun k hk _=>o.block k hk).keep fun k hk _=>c.block k hk⟩,(t.out.1.below q.out.2).below c,q.out.1.keep c⟩,?_⟩
  exact (a.out.2.trans (f.mono D)).trans (c.mono (by omega))
 clear a l t q
 obtain⟨W,b,x,y⟩:=v.out
 have z:Hid (_∧_):=⟨x,y⟩
 have I:=b.symm
 clear v x y b
 go_wp2
 go_ret
 exact⟨_,_,_,_,_,rfl,z.out.1,z.out.2⟩
theorem jset2 {W:World}{g:Nat}{t:TypeId}{x y:Value}(h:W.heap[g]? = some (.cells #[x,y] t (0,0)))(a b:Value):((W.setCell ⟨g,0,none⟩ a).setCell ⟨g,1,none⟩ b).heap[g]? = some (.cells #[a,b] t (0,0)):=by
 have c:=heap_setCell_same W g 0 _ t a h
 exact heap_setCell_same _ g 1 _ t b c
theorem Z5N {B g:Nat}{w W:World}(h:Below B w W)(hB:B≤g)(a b:Value):Below B w ((W.setCell ⟨g,0,none⟩ a).setCell ⟨g,1,none⟩ b):=(h.setCell (p:=⟨g,0,none⟩) hB a).setCell (p:=⟨g,1,none⟩) hB b
theorem Z5O (s:Sp)(hi:Z2g s.vol∧Z2g s.ep∧Z2g s.nx∧Z2g s.lv∧s.root.size≤maxLen)(w:World)(ht:TabR w)(hg:ErrT w) :
  Calls prog 3 #[.agg s.arr] w fun e w'=>e= .returned (.bool true)∧Below w.heap.size w w':=by
 have V:s.Ok:=⟨hi.1,hi.2.1,hi.2.2.1,hi.2.2.2.1⟩
 clear hi
 obtain⟨X,M,g⟩:=laid_any 0 (by decide)
 have d:=Z1o w (.cells s.arr 23)
 have J:=heap_alloc_new w (.cells s.arr 23)
 obtain⟨w0,v⟩:∃ w0,w.alloc (.cells s.arr 23)=w0:=⟨_,rfl⟩
 rw [v] at d J
 have hh:Hid (w.alloc (.cells s.arr 23)=w0∧Below w.heap.size w w0∧w0.heap[w.heap.size]? = some (.cells s.arr 23 (0,0))∧TabR w0∧ErrT w0∧w.heap.size<w0.heap.size):=⟨v,d,J,prims6.tab ht d,hg.bel d,lt_of_block J⟩
 have h1:=g w0 (prims6.tab ht d)
 have N:Hid (∀ W B,TabR W→RealV W B X→Calls prog 5 #[.pointer (some ⟨B,0,none⟩),.agg s.arr] W fun e w'=>e= .returned (.tuple #[.agg #[.int .i64 (supA s),.string (Z60 realF X s)],.int .i64 (supE s)])∧Below W.heap.size W w'):=fun W B h2 x=>jsuper_real prims6 backs6 B X M s W h2 x
 have P:Hid (∀ W B,RefR W B X→Calls prog 6 #[.pointer (some ⟨B,0,none⟩),.agg s.arr] W fun e w'=>e= .returned (.tuple #[.agg #[.int .i64 (supA s),.string (Z60 realF X s)],.int .i64 (supE s)])∧Below W.heap.size W w'):=fun W B x=>rjsuper_real rprims6 backs6 B X M s V W x
 clear d J v g ht hg V M
 generalize supA s=A at *
 generalize Z60 realF X s=R at *
 generalize supE s=E at *
 obtain⟨r,o,n,u,k⟩:=s
 simp only [Sp.arr] at hh N P ⊢
 go_enter func3,ntmps3
 go_wp2_with fail
 rw [hh.out.1]
 refine h1.mono ?_
 rintro e b ⟨G,B1,B2,m,p,rfl,T,F⟩
 have j:Hid (LaidW w0 b X (newP 0) G B1 B2 m p∧Below w0.heap.size w0 b):=⟨T,F⟩
 clear h1 T F
 have C:=lt_of_block j.out.1.row
 have S:Hid (∀ W,Below b.heap.size b W→W.cell? ⟨G,2,none⟩=some (.pointer (some ⟨m,0,none⟩))∧W.cell? ⟨G,3,none⟩=some (.pointer (some ⟨p,0,none⟩))∧W.cell? ⟨w.heap.size,0,none⟩=some (.int .i64 r)∧W.cell? ⟨w.heap.size,1,none⟩=some (.int .i64 o)∧W.cell? ⟨w.heap.size,2,none⟩=some (.int .i64 n)∧W.cell? ⟨w.heap.size,3,none⟩=some (.int .i64 u)∧W.cell? ⟨w.heap.size,4,none⟩=some (.string k)):=fun W hW=>by
  have gA:=(hW.block G C).trans j.out.1.row
  have I:=((j.out.2.trans (hW.mono j.out.2.size)).block w.heap.size hh.out.2.2.2.2.2).trans hh.out.2.2.1
  exact⟨cell_of_row _ _ 2 _ _ _ gA,cell_of_row _ _ 3 _ _ _ gA,cell_of_row _ _ 0 _ _ _ I,cell_of_row _ _ 1 _ _ _ I,cell_of_row _ _ 2 _ _ _ I,cell_of_row _ _ 3 _ _ _ I,cell_of_row _ _ 4 _ _ _ I⟩
 have y:Hid (∀ W,Below b.heap.size b W→TabR W∧RealV W m X∧RefR W p X∧ErrT W∧Below w.heap.size w W):=fun W hW=>by
  have q:=j.out.2.trans (hW.mono j.out.2.size)
  exact⟨prims6.tab hh.out.2.2.2.1 q,j.out.1.real.below hW,j.out.1.ref.keep hW,hh.out.2.2.2.2.1.bel q,hh.out.2.1.trans (q.mono hh.out.2.1.size)⟩
 clear C
 clear hh j
 go_wp2_with fail
 have l:Hid (∀ W,Below b.heap.size b W→W.cell? ⟨G,2,none⟩=some (.pointer (some ⟨m,0,none⟩))∧W.cell? ⟨w.heap.size,0,none⟩=some (.int .i64 r)∧W.cell? ⟨w.heap.size,1,none⟩=some (.int .i64 o)∧W.cell? ⟨w.heap.size,2,none⟩=some (.int .i64 n)∧W.cell? ⟨w.heap.size,3,none⟩=some (.int .i64 u)∧W.cell? ⟨w.heap.size,4,none⟩=some (.string k)):=fun W hW=>by have q:=S.out W (hW);exact⟨q.1,q.2.2⟩
 have H:Hid (∀ W,Below b.heap.size b W→Calls prog 5 #[.pointer (some ⟨m,0,none⟩),.agg #[.int .i64 r,.int .i64 o,.int .i64 n,.int .i64 u,.string k]] W fun e w'=>e= .returned (.tuple #[.agg #[.int .i64 A,.string R],.int .i64 E])∧Below W.heap.size W w'):=fun W hW=>N.out W m (y.out W hW).1 (y.out W hW).2.1
 go_cut [4,5] from 8 (fun s4 s5 wc=> ∃ Y,s4= .pointer (some ⟨Y,0,none⟩)∧s5= .int .i64 E∧Hid (wc.heap[Y]? = some (.cells #[.int .i64 A,.string R] 27 (0,0))∧Below b.heap.size b wc))
 case first =>
  go_region_held3 (fun w'=>w'.cell? ⟨G,2,none⟩=some (.pointer (some ⟨m,0,none⟩))∧w'.cell? ⟨w.heap.size,0,none⟩=some (.int .i64 r)∧w'.cell? ⟨w.heap.size,1,none⟩=some (.int .i64 o)∧w'.cell? ⟨w.heap.size,2,none⟩=some (.int .i64 n)∧w'.cell? ⟨w.heap.size,3,none⟩=some (.int .i64 u)∧w'.cell? ⟨w.heap.size,4,none⟩=some (.string k)) (first | exact l.out _ (Z5N c (Nat.le_refl _) _ _) | (refine l.out _ ?_;(repeat (first | exact c | exact Below.refl _ _ | refine bd ?_ | refine ba ?_));done)) (first
   | (go_at_call 5;(with_reducible refine (H.out _ ?_).mono ?_);(focus ((repeat (first | exact Below.refl _ _ | refine bd ?_ | refine ba ?_));done));rintro e wA ⟨rfl,a⟩;have c:Below b.heap.size b wA:=(by first | exact (bd (Below.refl b.heap.size b)).trans a | exact (bd (ba (Below.refl b.heap.size b))).trans (a.mono (by simp)) | exact (ba (bd (Below.refl b.heap.size b))).trans (a.mono (by simp)));(first | (have f:wA.heap[b.heap.size]? = some (.cells #[.int .i64 0,.string ⟨#[]⟩] 27 (0,0)):=(a.block b.heap.size (by simp)).trans (heap_alloc_new b _)) | skip);(try (have q0:=cell_of_row wA _ 0 _ _ _ f;have Q:=frozen_of_row wA _ 0 _ _ f;have q1:=cell_of_row wA _ 1 _ _ _ f;have O:=frozen_of_row wA _ 1 _ _ f));clear a))
  all_goals
   go_wp2_with fail
   go_meet
   first
    | exact⟨_,rfl,rfl,jset2 f _ _,Z5N c (Nat.le_refl _) _ _⟩
    | exact⟨_,rfl,rfl,heap_alloc_new wA _,ba c⟩
 case rest =>
  obtain⟨Y,rfl,rfl,i⟩:=hcut
  generalize wc=x2 at *
  clear l H
  go_wp2_with fail
  have t:Hid (∀ W,Below x2.heap.size x2 W→W.cell? ⟨G,3,none⟩=some (.pointer (some ⟨p,0,none⟩))∧W.cell? ⟨w.heap.size,0,none⟩=some (.int .i64 r)∧W.cell? ⟨w.heap.size,1,none⟩=some (.int .i64 o)∧W.cell? ⟨w.heap.size,2,none⟩=some (.int .i64 n)∧W.cell? ⟨w.heap.size,3,none⟩=some (.int .i64 u)∧W.cell? ⟨w.heap.size,4,none⟩=some (.string k)):=fun W hW=>by have q:=S.out W (i.out.2.trans (hW.mono i.out.2.size));exact⟨q.2.1,q.2.2⟩
  have D:Hid (∀ W,Below x2.heap.size x2 W→Calls prog 6 #[.pointer (some ⟨p,0,none⟩),.agg #[.int .i64 r,.int .i64 o,.int .i64 n,.int .i64 u,.string k]] W fun e w'=>e= .returned (.tuple #[.agg #[.int .i64 A,.string R],.int .i64 E])∧Below W.heap.size W w'):=fun W hW=>P.out W p (y.out W (i.out.2.trans (hW.mono i.out.2.size))).2.2.1
  go_cut [6,7] from 8 (fun s4 s5 wc=> ∃ Y,s4= .pointer (some ⟨Y,0,none⟩)∧s5= .int .i64 E∧Hid (wc.heap[Y]? = some (.cells #[.int .i64 A,.string R] 27 (0,0))∧Below x2.heap.size x2 wc))
  case first =>
   go_region_held3 (fun w'=>w'.cell? ⟨G,3,none⟩=some (.pointer (some ⟨p,0,none⟩))∧w'.cell? ⟨w.heap.size,0,none⟩=some (.int .i64 r)∧w'.cell? ⟨w.heap.size,1,none⟩=some (.int .i64 o)∧w'.cell? ⟨w.heap.size,2,none⟩=some (.int .i64 n)∧w'.cell? ⟨w.heap.size,3,none⟩=some (.int .i64 u)∧w'.cell? ⟨w.heap.size,4,none⟩=some (.string k)) (first | exact t.out _ (Z5N c (Nat.le_refl _) _ _) | (refine t.out _ ?_;(repeat (first | exact c | exact Below.refl _ _ | refine bd ?_ | refine ba ?_));done)) (first
    | (go_at_call 6;(with_reducible refine (D.out _ ?_).mono ?_);(focus ((repeat (first | exact Below.refl _ _ | refine bd ?_ | refine ba ?_));done));rintro e wA ⟨rfl,a⟩;have c:Below x2.heap.size x2 wA:=(by first | exact (bd (Below.refl x2.heap.size x2)).trans a | exact (bd (ba (Below.refl x2.heap.size x2))).trans (a.mono (by simp)) | exact (ba (bd (Below.refl x2.heap.size x2))).trans (a.mono (by simp)));(first | (have f:wA.heap[x2.heap.size]? = some (.cells #[.int .i64 0,.string ⟨#[]⟩] 27 (0,0)):=(a.block x2.heap.size (by simp)).trans (heap_alloc_new x2 _)) | skip);(try (have q0:=cell_of_row wA _ 0 _ _ _ f;have Q:=frozen_of_row wA _ 0 _ _ f;have q1:=cell_of_row wA _ 1 _ _ _ f;have O:=frozen_of_row wA _ 1 _ _ f));clear a))
   all_goals
    go_wp2_with fail
    go_meet
    first
     | exact⟨_,rfl,rfl,jset2 f _ _,Z5N c (Nat.le_refl _) _ _⟩
     | exact⟨_,rfl,rfl,heap_alloc_new wA _,ba c⟩
  case rest =>
   obtain⟨Z,rfl,rfl,K⟩:=hcut
   generalize wc=x3 at *
   have gY:x3.heap[Y]? = some (.cells #[.int .i64 A,.string R] 27 (0,0)):=(K.out.2.block Y (lt_of_block i.out.1)).trans i.out.1
   have U:=K.out.1
   have L:Hid (ErrT x3∧Below w.heap.size w x3):=by
    have q:=y.out x3 (i.out.2.trans (K.out.2.mono i.out.2.size))
    exact⟨q.2.2.2.1,q.2.2.2.2⟩
   have x:=jawake_any x3 L.out.1
   have a4:(E==E)=true:=by simp
   clear t D i K y S N P
   go_wp2_with (first | refine wpList_load_row rfl 27 _ rfl Y rfl 27 _ (0,0) _ gY underlying27 rfl (by kernel_rfl) ?_ | refine wpList_load_row rfl 27 _ rfl Z rfl 27 _ (0,0) _ U underlying27 rfl (by kernel_rfl) ?_)
   refine x.mono ?_
   rintro e wz ⟨rfl,z⟩
   have HF:Hid (Below w.heap.size w wz):=L.out.2.trans (z.mono L.out.2.size)
   clear x z gY U L
   go_wp2
   go_ret
   exact⟨by simp,HF.out⟩
end Go.Proofs.YtijpgmkdnemmbaaGreatDoor
