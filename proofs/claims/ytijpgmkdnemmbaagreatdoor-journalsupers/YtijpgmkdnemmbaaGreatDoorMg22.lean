/- Part 22. -/
import Derived.Test.YtijpgmkdnemmbaaGreatDoorMg21
import Derived.Laws.Small
set_option maxRecDepth 20000
set_option maxHeartbeats 8000000
open Go.RowKit Go.Proofs.Tryz
namespace Go.Proofs.YtijpgmkdnemmbaaGreatDoor
theorem atS_size (raws:List ByteArray)(masks:List Int)(a:Int):(atS raws masks a).size=512:=by
 unfold atS
 split
 ·next h =>
  unfold atB at h
  exact (of_decide_eq_true h).2.2.2
 ·exact Z0T 0 512
theorem rcdB_no {raws:List ByteArray}{masks:List Int}{log:Int}{n j:Nat}(hj:j<n)(h:¬ atM raws masks (log+(j:Int))=0):rcdB raws masks log n=false:=by
 unfold rcdB
 rw [List.all_eq_false]
 exact⟨j,List.mem_range.2 hj,by simpa using h⟩
theorem rcdB_yes {raws:List ByteArray}{masks:List Int}{log:Int}{n:Nat}(h:∀ j,j<n→atM raws masks (log+(j:Int))=0):rcdB raws masks log n=true:=by
 unfold rcdB
 rw [List.all_eq_true]
 exact fun j hj=>by simpa using h j (List.mem_range.1 hj)
theorem rcdL_succ (raws:List ByteArray)(masks:List Int)(log:Int)(n:Nat):rcdL raws masks log (n+1)=rcdL raws masks log n ++ [rcdW raws masks log n]:=by simp [rcdL,List.range_succ]
theorem Z88 (raws:List ByteArray)(masks:List Int)(log:Int)(n:Nat):(rcdL raws masks log n).length=n:=by simp [rcdL]
structure RdR (w:World) (oa ob:Option Addr) (ca cb:Nat) (raws:List ByteArray) (masks:List Int) (A:Array Value) (j:Nat) (wr:World):Prop where
 ok:∀ i,i<j→atM raws masks (3+(i:Int))=0
 below:Below w.heap.size w wr
 lay:wr.heap[w.heap.size]? = some (.cells A 103 (0,0))
 img:wr.heap[w.heap.size+1]? = some (.cells #[.slice oa raws.length ca,.slice ob masks.length cb] 131 (0,0))
theorem recorded_any (n q s2 t:Nat)(oa ob:Option Addr)(ca cb:Nat)(raws:List ByteArray)(masks:List Int)(m:Nat)(hm:m≤1000)(w:World)(h1:Z27 Value.string w (.slice oa raws.length ca) raws)(h2:Z27 (Value.int .i64) w (.slice ob masks.length cb) masks) :
  Calls prog 94 #[.agg (layA n q s2 t),.agg #[.slice oa raws.length ca,.slice ob masks.length cb],.int .i64 (m:Int)] w fun e w'=> ∃ v',e= .returned (.tuple #[v',.bool (rcdB raws masks 3 m)])∧(rcdB raws masks 3 m=true→WZ w' w.heap.size v' (rcdL raws masks 3 m))∧(rcdB raws masks 3 m=false→v'= .slice none 0 0)∧Below w.heap.size w w':=by
 obtain⟨i0,W,X,a3,a2⟩:=info_parts Z6b
 have O:Hid (Z27 Value.string w (.slice oa raws.length ca) raws∧Z27 (Value.int .i64) w (.slice ob masks.length cb) masks):=⟨h1,h2⟩
 obtain⟨A,V⟩:∃ A,A=layA n q s2 t:=⟨_,rfl⟩
 have L:A[2]? = some (.int .i64 3):=by rw [V];rfl
 rw [← V]
 clear V h1 h2
 have HI:Hid (RdR w oa ob ca cb raws masks A 0 ((w.alloc (.cells A 103)).alloc (.cells #[.slice oa raws.length ca,.slice ob masks.length cb] 131))∧A[2]? = some (.int .i64 3)):=⟨⟨fun i hi=>absurd hi (Nat.not_lt_zero _),((Below.refl _ _).alloc (Nat.le_refl _) _).alloc (by simp) _,heap_alloc2_old w _ _,heap_alloc2_new w _ _⟩,L⟩
 clear L
 obtain⟨T,p⟩:∃ T,T=raws.length:=⟨_,rfl⟩
 obtain⟨R,I⟩:∃ R,R=masks.length:=⟨_,rfl⟩
 rw [← p,← I]
 have J:Hid (T=raws.length∧R=masks.length):=⟨p,I⟩
 obtain⟨Y,U⟩:∃ Y,Y=rcdB raws masks 3 m:=⟨_,rfl⟩
 rw [← U]
 have HY:Hid (Y=rcdB raws masks 3 m):=U
 clear p I U
 go_enter func94,ntmps94
 go_wp2_with fail
 go_loopw [8,15] (fun sv iv wr=> ∃ (j:Nat),j≤m∧iv= .int .i64 (j:Int)∧WZ wr (w.heap.size+2) sv (rcdL raws masks 3 j)∧Hid (RdR w oa ob ca cb raws masks A j wr)) (fun _ iv _=>m-(intOf iv).toNat)
 case atStart=>exact⟨0,Nat.zero_le _,rfl,WZ.nil _ _,by have:=HI.out.1;rw [← J.out.1,← J.out.2] at this;exact this⟩
 case round =>
  obtain⟨j,hj,rfl,a,b⟩:=hrel
  have p:=Z88 raws masks 3 j
  obtain⟨S,C,rfl⟩:=a.form
  rw [p] at a ⊢
  have hz:=lt_of_block b.out.img
  by_cases a0:j<m
  ·have j1:(j:Int)<m:=by omega
   have d0:wr.cell? ⟨w.heap.size,2,none⟩=some (.int .i64 3):=by simp [World.cell?,b.out.lay,HI.out.2]
   have d1:wr.cell? ⟨w.heap.size+1,0,none⟩=some (.slice oa T ca):=by rw [J.out.1];exact cell_of_row _ _ 0 _ _ _ b.out.img
   have d2:wr.cell? ⟨w.heap.size+1,1,none⟩=some (.slice ob R cb):=by rw [J.out.2];exact cell_of_row _ _ 1 _ _ _ b.out.img
   have s:=at_any wr oa ob ca cb raws masks (3+(j:Int)) (O.out.1.below b.out.below) (O.out.2.below b.out.below)
   rw [← J.out.1,← J.out.2] at s
   have Z:=atS_size raws masks (3+(j:Int))
   have HN:Hid (rcdL raws masks 3 (j+1)=rcdL raws masks 3 j ++ [⟨(hdOf ((atS raws masks (3+(j:Int))).extract 0 48)).v1,atS raws masks (3+(j:Int))⟩]):=rcdL_succ raws masks 3 j
   have hh:=fun w=>Z3O ((atS raws masks (3+(j:Int))).extract 0 48) w
   generalize hx:(atS raws masks (3+(j:Int))).extract 0 48=x at *
   generalize atS raws masks (3+(j:Int))=r at *
   generalize hdOf x=h at *
   generalize Z1s x=E at *
   have a6:(48:Int)≤r.size:=by omega
   clear Z
   by_cases K:atM raws masks (3+(j:Int))=0
   ·have HM:Hid (∀ i,i<j+1→atM raws masks (3+(i:Int))=0):=fun i hi=>by
     by_cases e:i=j
     ·subst e;exact K
     ·exact b.out.ok i (by omega)
    rw [K] at s
    generalize rcdL raws masks 3 j=d at *
    subst p
    go_wp2_with fail
    refine s.mono ?_
    rintro e G ⟨rfl,c⟩
    have f:Hid (Below w.heap.size w G∧G.heap[w.heap.size]? = some (.cells A 103 (0,0))∧G.heap[w.heap.size+1]? = some (.cells #[.slice oa raws.length ca,.slice ob masks.length cb] 131 (0,0))∧WZ G (w.heap.size+2) (.slice S d.length C) d):=⟨b.out.below.trans (c.mono b.out.below.size),(c.block _ (by omega)).trans b.out.lay,(c.block _ hz).trans b.out.img,a.below c⟩
    clear s c d0 d1 d2 a b
    go_wp2_with fail
    try rw [hx]
    refine (hh _).mono ?_
    rintro e w2 ⟨rfl,v⟩
    have a1:w.heap.size+1<G.heap.size:=lt_of_block f.out.2.2.1
    have a4:=v.size
    have g:=f.out.2.2.2.below v
    have o:Below w.heap.size w w2:=f.out.1.trans (v.mono f.out.1.size)
    have N:=(v.block _ (show w.heap.size<G.heap.size by omega)).trans f.out.2.1
    have P:=(v.block _ a1).trans f.out.2.2.1
    have y:=World.ownsRow.alloc (World.ownsRow.alloc g (.cells #[.int .i64 h.v0,.int .i64 h.v1,.int .i64 h.v2,.int .i64 h.v3,.int .i64 h.v4,.int .i64 h.v5,.int .i64 h.v6,.int .i64 h.v7] 51)) (.cells #[.int .i64 h.v1,.string r] 27)
    have F:((w2.alloc (.cells #[.int .i64 h.v0,.int .i64 h.v1,.int .i64 h.v2,.int .i64 h.v3,.int .i64 h.v4,.int .i64 h.v5,.int .i64 h.v6,.int .i64 h.v7] 51)).alloc (.cells #[.int .i64 h.v1,.string r] 27)).heap[w2.heap.size+1]? = some (.cells #[.int .i64 h.v1,.string r] 27 (0,0)):=heap_alloc2_new w2 _ _
    have H:∀ u∈([.int .i64 h.v1,.string r]:List Value),u.oneCell'=true:=by intro u hu;simp at hu;rcases hu with rfl | rfl <;> rfl
    have Q:Hid (WZ w2 (w.heap.size+2) (.slice S d.length C) d∧Below w.heap.size w ((w2.alloc (.cells #[.int .i64 h.v0,.int .i64 h.v1,.int .i64 h.v2,.int .i64 h.v3,.int .i64 h.v4,.int .i64 h.v5,.int .i64 h.v6,.int .i64 h.v7] 51)).alloc (.cells #[.int .i64 h.v1,.string r] 27))∧((w2.alloc (.cells #[.int .i64 h.v0,.int .i64 h.v1,.int .i64 h.v2,.int .i64 h.v3,.int .i64 h.v4,.int .i64 h.v5,.int .i64 h.v6,.int .i64 h.v7] 51)).alloc (.cells #[.int .i64 h.v1,.string r] 27)).heap[w.heap.size]? = some (.cells A 103 (0,0))∧((w2.alloc (.cells #[.int .i64 h.v0,.int .i64 h.v1,.int .i64 h.v2,.int .i64 h.v3,.int .i64 h.v4,.int .i64 h.v5,.int .i64 h.v6,.int .i64 h.v7] 51)).alloc (.cells #[.int .i64 h.v1,.string r] 27)).heap[w.heap.size+1]? = some (.cells #[.slice oa raws.length ca,.slice ob masks.length cb] 131 (0,0))) :=
     ⟨g,(o.alloc o.size _).alloc (by have:=o.size;simp;omega) _,(Below.heap_alloc _ _ _ (by simp;omega)).trans ((Below.heap_alloc _ _ _ (by omega)).trans N),(Below.heap_alloc _ _ _ (by simp;omega)).trans ((Below.heap_alloc _ _ _ (by omega)).trans P)⟩
    clear hh v g o N P f hx K
    go_wp2_with (first | (at_builtin;(refine wpList_append_own _ rfl _ _ 59 rfl (w.heap.size+2) 27 i0 _ 2 24 underlying59 W X a3 a2 rfl (by decide) (.slice S d.length C) d.length (d.flatMap Wt.cells) rfl y ⟨w2.heap.size+1,0,none⟩ 1 1 [.int .i64 h.v1,.string r] rfl rfl (World.news_of_block F) H (by unfold maxLen;omega) (by omega) (by simp;omega) ?_)))
    intro v1 wB z l _
    have D:Below (w.heap.size+2) ((w2.alloc (.cells #[.int .i64 h.v0,.int .i64 h.v1,.int .i64 h.v2,.int .i64 h.v3,.int .i64 h.v4,.int .i64 h.v5,.int .i64 h.v6,.int .i64 h.v7] 51)).alloc (.cells #[.int .i64 h.v1,.string r] 27)) wB:=(Below.refl _ _).grown l (by simp;omega) fun k hk=>(World.ownsRow.lt Q.out.1 k hk).1
    have B:Hid (WZ wB (w.heap.size+2) v1 (rcdL raws masks 3 (d.length+1))∧RdR w oa ob ca cb raws masks A (d.length+1) wB):=by
     refine⟨?_,HM.out,Q.out.2.1.trans (D.mono (by omega)),(D.block w.heap.size (by omega)).trans Q.out.2.2.1,(D.block (w.heap.size+1) (by omega)).trans Q.out.2.2.2⟩
     unfold WZ
     rw [HN.out,List.length_append,List.length_singleton,List.flatMap_append,List.flatMap_singleton]
     exact z
    clear y F z l D H
    go_wp2
    go_roundw
    case rel=>exact⟨d.length+1,by omega,by go_num,B.out.1,B.out.2⟩
    case measure=>simp [intOf];omega
   ·have B:Hid (Y=false):=by show Y=false;rw [HY.out];exact rcdB_no a0 K
    generalize atM raws masks (3+(j:Int))=M at *
    have a5:(M != 0)=true:=by simpa using K
    clear a hh K
    go_wp2_with fail
    refine s.mono ?_
    rintro e G ⟨rfl,c⟩
    have HB:Hid (Below w.heap.size w G):=b.out.below.trans (c.mono b.out.below.size)
    clear s c d0 d1 d2
    go_wp2
    go_ret2
    exact⟨_,by rw [B.out];rfl,(fun h=>by rw [B.out] at h;cases h),fun _=>rfl,HB.out⟩
  ·obtain rfl:j=m:=by omega
   have j1:¬ (j:Int)<j:=by omega
   have B:Hid (Y=true∧WZ wr w.heap.size (.slice S j C) (rcdL raws masks 3 j)∧Below w.heap.size w wr):=⟨HY.out.trans (rcdB_yes b.out.ok),WZ.mono a (by omega),b.out.below⟩
   clear a b
   go_wp2
   go_ret2
   exact⟨_,by rw [B.out.1];rfl,fun _=>B.out.2.1,(fun h=>by rw [B.out.1] at h;cases h),B.out.2.2⟩
theorem headed_any (a:Int)(r:ByteArray)(w:World) :
  Calls prog 86 #[.agg #[.int .i64 a,.string r]] w fun e w'=>e= .returned (.bool (hdB ⟨a,r⟩))∧Below w.heap.size w w':=by
 have b:Below w.heap.size w (w.alloc (.cells #[.int .i64 a,.string r] 27)):=(Below.refl _ _).alloc (Nat.le_refl _) _
 by_cases k:r.size=512
 case neg =>
  have t:((r.size:Int) != 512)=true:=by simp;omega
  have o:hdB ⟨a,r⟩=false:=by simp [hdB,k]
  rw [o]
  have g:Hid _:=b
  clear b k o
  go_enter func86,ntmps86
  go_wp2
  go_ret
  exact⟨rfl,g.out⟩
 have t:((r.size:Int) != 512)=false:=by simp;omega
 have s:(48:Int)≤r.size:=by omega
 have q:=fun w=>Z3O (r.extract 0 48) w
 have d:Hid (hdB ⟨a,r⟩=decide (Z1s (r.extract 0 48)=0∧(hdOf (r.extract 0 48)).v1=a)):=by
  show hdB ⟨a,r⟩=_
  simp [hdB,k]
 generalize hdB ⟨a,r⟩=D at *
 generalize hx:r.extract 0 48=x at *
 generalize hdOf x=h at *
 generalize Z1s x=E at *
 clear k
 go_enter func86,ntmps86
 go_wp2_with fail
 try rw [hx]
 refine (q _).mono ?_
 rintro e w2 ⟨rfl,c⟩
 have n:=(c.block w.heap.size (by simp)).trans (heap_alloc_new w _)
 have i:Below w.heap.size w w2:=b.trans (c.mono b.size)
 have l:=lt_of_block n
 have u:(w2.alloc (.cells #[.int .i64 h.v0,.int .i64 h.v1,.int .i64 h.v2,.int .i64 h.v3,.int .i64 h.v4,.int .i64 h.v5,.int .i64 h.v6,.int .i64 h.v7] 51)).cell? ⟨w.heap.size,0,none⟩=some (.int .i64 a):=cell_of_row _ _ 0 _ _ _ ((Below.heap_alloc _ _ _ l).trans n)
 have g:Hid (Below w.heap.size w (w2.alloc (.cells #[.int .i64 h.v0,.int .i64 h.v1,.int .i64 h.v2,.int .i64 h.v3,.int .i64 h.v4,.int .i64 h.v5,.int .i64 h.v6,.int .i64 h.v7] 51))):=i.alloc (by omega) _
 clear q c n i b
 by_cases m:E=0
 ·subst m
  by_cases f:h.v1=a
  ·have p:(h.v1==a)=true:=by simp [f]
   have j:Hid (D=true):=by show D=true;rw [d.out];simp [f]
   clear d f
   go_wp2
   go_ret
   exact⟨by rw [j.out];rfl,g.out⟩
  ·have p:(h.v1==a)=false:=by simp [f]
   have j:Hid (D=false):=by show D=false;rw [d.out];simp [f]
   clear d f
   go_wp2
   go_ret
   exact⟨by rw [j.out];rfl,g.out⟩
 ·have p:(E==0)=false:=by simp [m]
  have j:Hid (D=false):=by show D=false;rw [d.out];simp [m]
  clear d
  go_wp2
  go_ret
  exact⟨by rw [j.out];rfl,g.out⟩
structure TgR (w:World) (n q s2 t:Nat) (l:List Wt) (j:Nat) (least:Int) (wr:World):Prop where
 b:togB 27 (n:Int) l=togB least (n:Int) (l.drop j)
 lo:27≤least∧least≤100000
 below:Below w.heap.size w wr
 row:wr.heap[w.heap.size]? = some (.cells (layA n q s2 t) 103 (0,0))
theorem Z6x (n q s2 t:Nat)(v:Value)(l:List Wt)(w:World)(hv:Wts w v l)(hll:l.length≤1000)(hn:n≤1024) :
  Calls prog 48 #[.agg (layA n q s2 t),v] w fun e w'=>e= .returned (.bool (togB 27 (n:Int) l))∧Below w.heap.size w w':=by
 obtain⟨S,ca,rfl⟩:=hv.form
 have R:Hid (Wts w (.slice S l.length ca) l):=hv
 have J:Hid (TgR w n q s2 t l 0 27 (w.alloc (.cells (layA n q s2 t) 103))):=⟨rfl,by omega,(Below.refl _ _).alloc (Nat.le_refl _) _,heap_alloc_new w _⟩
 have O:(w.alloc (.cells (layA n q s2 t) 103)).cell? ⟨w.heap.size,3,none⟩=some (.int .i64 27):=cell_of_row _ _ 3 _ _ _ (heap_alloc_new w _)
 obtain⟨X,H⟩:∃ X,X=togB 27 (n:Int) l:=⟨_,rfl⟩
 have N:Hid (X=togB 27 (n:Int) l):=H
 rw [← H]
 clear hv H
 obtain⟨A,D⟩:∃ A,A=layA n q s2 t:=⟨_,rfl⟩
 rw [← D] at O ⊢
 have Q:Hid (A=layA n q s2 t):=D
 rw [← D] at J
 clear D
 go_enter func48,ntmps48
 go_wp2_with fail
 clear O
 go_loopw [5,12] (fun lv iv wr=> ∃ (j:Nat) (c:Int),j≤l.length∧iv= .int .i64 (j:Int)∧lv= .int .i64 c∧Hid (TgR w n q s2 t l j c wr)) (fun _ iv _=>l.length-(intOf iv).toNat)
 case atStart=>exact⟨0,27,Nat.zero_le _,rfl,rfl,J⟩
 case round =>
  clear J Q
  obtain⟨j,c,hj,rfl,rfl,h⟩:=hrel
  by_cases u:j<l.length
  ·have U:(j:Int)<l.length:=by omega
   obtain⟨g,o,rfl,I,P⟩:=R.out.at u
   have a0:=Nat.lt_of_lt_of_le I h.out.below.size
   obtain⟨V,W⟩:=P.keep (h.out.below.block g I)
   have C:l.drop j=l[j] :: l.drop (j+1):=List.drop_eq_getElem_cons u
   have p:Hid (X=(decide (c≤l[j].at_∧l[j].at_<(n:Int))&&hdB l[j]&&togB (l[j].at_+1) (n:Int) (l.drop (j+1)))∧togB 27 (n:Int) l=(decide (c≤l[j].at_∧l[j].at_<(n:Int))&&hdB l[j]&&togB (l[j].at_+1) (n:Int) (l.drop (j+1)))):=by
    have:=h.out.b
    rw [C] at this
    exact⟨N.out.trans this,this⟩
   clear P C
   generalize l[j]=x at *
   obtain⟨a,r⟩:=x
   simp only at V W p
   have T:=h.out.lo
   have M:=lt_of_block h.out.row
   have z:=fun w=>headed_any a r w
   have d:Hid ((wr.alloc (.cells #[.int .i64 a,.string r] 27)).heap[w.heap.size]? = some (.cells (layA n q s2 t) 103 (0,0))∧Below w.heap.size w (wr.alloc (.cells #[.int .i64 a,.string r] 27))):=⟨(Below.heap_alloc _ _ _ M).trans h.out.row,h.out.below.alloc h.out.below.size _⟩
   have L:(wr.alloc (.cells #[.int .i64 a,.string r] 27)).cell? ⟨w.heap.size,0,none⟩=some (.int .i64 (n:Int)):=cell_of_row _ _ 0 _ _ _ d.out.1
   clear h I
   by_cases F:a<c
   ·have k:Hid (X=false):=by
     show X=false
     rw [p.out.1,decide_eq_false (by omega)]
     rfl
    have G:decide (a<c)=true:=by simpa using F
    clear p z L
    go_wp2
    go_ret
    exact⟨by rw [k.out];rfl,d.out.2⟩
   ·have G:decide (a<c)=false:=by simpa using F
    by_cases K:(n:Int)≤a
    ·have k:Hid (X=false):=by
      show X=false
      rw [p.out.1,decide_eq_false (by omega)]
      rfl
     have Z:decide (a ≥ (n:Int))=true:=by simpa using K
     have s:decide ((n:Int)≤a)=true:=by simpa using K
     clear p z F
     go_wp2
     go_ret
     exact⟨by rw [k.out];rfl,d.out.2⟩
    ·have s:decide ((n:Int)≤a)=false:=by simpa using K
     have m:Hid (X=(hdB ⟨a,r⟩&&togB (a+1) (n:Int) (l.drop (j+1)))∧togB 27 (n:Int) l=(hdB ⟨a,r⟩&&togB (a+1) (n:Int) (l.drop (j+1)))):=by
      have:=p.out
      rw [decide_eq_true (show c≤a∧a<(n:Int) by omega)] at this
      show _∧_
      simpa using this
     have kk:27≤a∧a≤1024:=by omega
     clear p F
     generalize hdB ⟨a,r⟩=B at *
     go_wp2_with fail
     refine (z _).mono ?_
     rintro e E ⟨rfl,f⟩
     have Y:wr.heap.size<E.heap.size:=by have:=f.size;simp at this;omega
     have i:=(f.block w.heap.size (by simp;omega)).trans d.out.1
     have f0:E.cell? ⟨wr.heap.size,0,none⟩=some (.int .i64 a):=cell_of_row _ _ 0 _ _ _ ((f.block wr.heap.size (by simp)).trans (heap_alloc_new wr _))
     have y:Hid (Below w.heap.size w E):=d.out.2.trans (f.mono d.out.2.size)
     cases B with
     | false =>
      have k:Hid (X=false):=m.out.1
      clear m z f L
      go_wp2
      go_ret
      exact⟨by rw [k.out];rfl,y.out⟩
     | true =>
      have k:Hid (TgR w n q s2 t l (j+1) (a+1) E):=⟨by rw [m.out.2];rfl,by omega,y.out,i⟩
      clear m z f L i
      go_wp2
      go_roundw
      case rel=>exact⟨j+1,a+1,by omega,by go_num,by go_num,k⟩
      case measure=>simp [intOf];omega
  ·have U:¬ (j:Int)<l.length:=by omega
   have C:l.drop j= []:=List.drop_eq_nil_of_le (by omega)
   have k:Hid (X=true∧Below w.heap.size w wr):=by
    refine⟨?_,h.out.below⟩
    have:=h.out.b
    rw [C] at this
    exact N.out.trans this
   clear C h
   go_wp2
   go_ret
   exact⟨by rw [k.out.1];rfl,k.out.2⟩
def fnB (K:VK)(T:K.σ)(raws:List ByteArray)(masks:List Int)(n:Int):Bool:=piB (Z1m K T raws masks 2) n&&rcdB raws masks 3 (piN (Z1m K T raws masks 2) n).toNat&&togB 27 n (rcdL raws masks 3 (piN (Z1m K T raws masks 2) n).toNat)
def fnW (K:VK)(T:K.σ)(raws:List ByteArray)(masks:List Int)(n:Int):List Wt:=rcdL raws masks 3 (piN (Z1m K T raws masks 2) n).toNat
def fnOk (K:VK)(T:K.σ)(raws:List ByteArray)(masks:List Int)(n:Int):Bool:=fnB K T raws masks n&&decide (K.hS T (Z0z (fnW K T raws masks n))=(Z1m K T raws masks 2).body.extract 2 34)
def fnP (K:VK)(T:K.σ)(raws:List ByteArray)(masks:List Int)(n:Int):K.σ:=if fnB K T raws masks n then K.hP T (Z0z (fnW K T raws masks n)) else T
theorem jfnd_ret (tmps:Array Value)(g:Nat)(w':World)(v:Value)(cs:Array Value)(b:Bool)(R:Ending→World→Prop)(h0:tmps.getD 6 undef=v)(h1:tmps.getD 7 undef= .pointer (some ⟨g,0,none⟩))(h2:tmps.getD 8 undef= .bool b)(hg:w'.heap[g]? = some (.cells cs 23 (0,0)))(hs:cs.size=5)(hR:R (.returned (.tuple #[v,.agg cs,.bool b])) w') :
  bodyPost prog Tryz.f54 R .ret { tmps:=tmps,defers:= []} w':=by
 have a:=run_loadVar_row (P:=prog) w' g 23 23 cs (0,0) _ hg underlying23 rfl (by rw [hs];kernel_rfl)
 simp at h0 h1 h2
 exact bodyPost_ret (v:= .tuple #[v,.agg cs,.bool b]) (by simp [results,Tryz.results54,asAddr,a,h0,h1,h2]) rfl hR
end Go.Proofs.YtijpgmkdnemmbaaGreatDoor
