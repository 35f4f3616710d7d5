/- Part 20. -/
import Derived.Test.YtijpgmkdnemmbaaGreatDoorMg19
import Derived.Test.YtijpgmkdnemmbaaGreatDoorMg17
import Derived.Test.YtijpgmkdnemmbaaGreatDoorMg08
set_option maxRecDepth 20000
set_option maxHeartbeats 8000000
open Go.RowKit Go.Proofs.Tryz
namespace Go.Proofs.YtijpgmkdnemmbaaGreatDoor
def totI (n:Nat):Int:=(n:Int)+1+(layT n:Int)+(n:Int)
def lvGo (s:Int):Nat→Nat→Option Nat
 | 0,_=>none
 | f+1,k=>if totI k*8=s then some k else lvGo s f (k+1)
def liveO (s:Int):Option Nat:=lvGo s 977 48
theorem totI_lt {a b:Nat}(h:a<b):totI a<totI b:=by
 have:layT a≤layT b:=Nat.div_le_div_right (by omega)
 unfold totI;omega
theorem totI_inj {a b:Nat}(h:totI a=totI b):a=b:=by
 rcases Nat.lt_trichotomy a b with h1 | h1 | h1
 ·have:=totI_lt h1;omega
 ·exact h1
 ·have:=totI_lt h1;omega
theorem lvGo_hit {n:Nat}:∀ {f k:Nat},k≤n→n<k+f→lvGo (totI n*8) f k=some n
 | 0,k,h1,h2=>by omega
 | f+1,k,h1,h2=>by
  unfold lvGo
  by_cases e:k=n
  ·subst e;rw [if_pos rfl]
  ·rw [if_neg (fun h=>e (totI_inj (by omega)))]
   exact lvGo_hit (by omega) (by omega)
theorem liveO_of {n:Nat}(h1:48≤n)(h2:n≤1024):liveO (totI n*8)=some n:=lvGo_hit h1 (by omega)
theorem totI_bound {n:Nat}(h:n≤1024):0≤totI n∧totI n≤2100:=by
 have:layT n≤17:=by unfold layT;omega
 unfold totI;omega
def loA (s:Int):Array Value:=match liveO s with | some n=>layA n (layQ n) (layS n) (layT n) | none=>layZ
def loE (s:Int):Int:=match liveO s with | some _=>0 | none=>30
def loN (s:Int):Int:=match liveO s with | some n=>(n:Int) | none=>0
theorem loA_one (n q s t:Nat):(layA n q s t).all (·.oneCell')=true:=by simp [layA,Value.oneCell']
theorem Z0j {B g:Nat}{w w':World}(h:Below B w w')(hg:B≤g)(cs:Array Value):Below B w (w'.setRow g cs):=h.trans ⟨rfl,rfl,rfl,by simp [World.setRow],fun k hk=>setRow_other _ _ _ _ (by omega)⟩
theorem lo_ret (tmps:Array Value)(g:Nat)(w':World)(y:Int)(cs:Array Value)(R:Ending→World→Prop)(h1:tmps.getD 2 undef= .pointer (some ⟨g,0,none⟩))(h3:tmps.getD 3 undef= .int .i64 y)(hg:w'.heap[g]? = some (.cells cs 103 (0,0)))(hs:cs.size=16)(hR:R (.returned (.tuple #[.agg cs,.int .i64 y])) w') :
  bodyPost prog Tryz.f47 R .ret { tmps:=tmps,defers:= []} w':=by
 have a:=run_loadVar_row (P:=prog) w' g 103 103 cs (0,0) _ hg underlying103 rfl (by rw [hs];kernel_rfl)
 simp at h1 h3
 exact bodyPost_ret (v:= .tuple #[.agg cs,.int .i64 y]) (by simp [results,Tryz.results47,asAddr,a,h1,h3]) rfl hR
structure LoR (w:World) (s:Int) (k:Nat) (wr:World):Prop where
 lo:48≤k
 hi:k≤1025
 go:liveO s=lvGo s (1025-k) k
 below:Below w.heap.size w wr
 res:wr.heap[w.heap.size]? = some (.cells layZ 103 (0,0))
theorem Z4h (p:Value)(s:Int)(w:World)(hS:∀ W,Below w.heap.size w W→Calls prog 85 #[p] W fun e W'=>e= .returned (.int .i64 s)∧W'=W) :
  Calls prog 47 #[p] w fun e w'=>e= .returned (.tuple #[.agg (loA s),.int .i64 (loE s)])∧Below w.heap.size w w':=by
 obtain⟨X,G⟩:∃ X,X=loA s:=⟨_,rfl⟩
 obtain⟨Y,F⟩:∃ Y,Y=loE s:=⟨_,rfl⟩
 rw [← G,← F]
 have E:Hid (X=loA s∧Y=loE s):=⟨G,F⟩
 have N:Hid (∀ W,Below w.heap.size w W→Calls prog 85 #[p] W fun e W'=>e= .returned (.int .i64 s)∧W'=W):=hS
 have H:Hid (LoR w s 48 (w.alloc (.cells layZ 103))):=⟨Nat.le_refl _,by omega,rfl,(Below.refl _ _).alloc (Nat.le_refl _) _,heap_alloc_new w _⟩
 clear G F hS
 unfold layZ at H
 go_enter func47,ntmps47
 go_wp2_with fail
 go_loopw [4] (fun iv wr=> ∃ k:Nat,iv= .int .i64 (k:Int)∧Hid (LoR w s k wr)) (fun iv _=>1025-(intOf iv).toNat)
 case atStart=>exact⟨48,rfl,H⟩
 case round =>
  clear H
  obtain⟨k,rfl,c⟩:=hrel
  have Q:=c.out.lo
  by_cases x:k≤1024
  ·have T:(k:Int)≤1024:=by omega
   have M:=layout_any k Q x
   have U:=totI_bound x
   have u:Hid ((totI k*8=s→X=layA k (layQ k) (layS k) (layT k)∧Y=0)∧(¬ totI k*8=s→liveO s=lvGo s (1025-(k+1)) (k+1))):=by
    have e:liveO s=if totI k*8=s then some k else lvGo s (1025-(k+1)) (k+1):=by rw [c.out.go,show 1025-k=(1025-(k+1))+1 by omega];rfl
    refine⟨fun h=> ?_,fun h=>by rw [e,if_neg h]⟩
    rw [if_pos h] at e
    rw [E.out.1,E.out.2,loA,loE,e]
    exact⟨rfl,rfl⟩
   have B:=loA_one k (layQ k) (layS k) (layT k)
   unfold totI at U u
   generalize layQ k=q at *
   generalize layS k=s2 at *
   generalize layT k=tt at *
   obtain⟨A,v⟩:∃ A,A=layA k q s2 tt:=⟨_,rfl⟩
   rw [← v] at u B
   unfold layA at M v
   generalize (k:Int)+1+(tt:Int)+(k:Int)=t at *
   have j:A.size=16:=by rw [v];rfl
   go_wp2_with fail
   refine (M _).mono ?_
   rintro e w1 ⟨rfl,m⟩
   clear M
   have b:Below w.heap.size w w1:=c.out.below.trans (m.mono c.out.below.size)
   have i:w1.heap[w.heap.size]? = some (.cells layZ 103 (0,0)):=(m.block _ (lt_of_block c.out.res)).trans c.out.res
   have r:Hid (Below w.heap.size w w1∧w1.heap[w.heap.size]? = some (.cells layZ 103 (0,0))):=⟨b,i⟩
   clear m b i
   have I:Hid (A=#[.int .i64 (k:Int),.int .i64 2,.int .i64 3,.int .i64 27,.int .i64 28,.int .i64 29,.int .i64 (q:Int),.int .i64 (29+(q:Int)),.int .i64 (s2:Int),.int .i64 (29+(q:Int)+(s2:Int)),.int .i64 (29+(q:Int)+(s2:Int)+1),.int .i64 (k:Int),.int .i64 ((k:Int)+1),.int .i64 (tt:Int),.int .i64 ((k:Int)+1+(tt:Int)),.int .i64 t]):=v
   clear v
   go_wp2_with fail
   obtain⟨a,f⟩:∃ a,a=w1.alloc (.cells #[.int .i64 (k:Int),.int .i64 2,.int .i64 3,.int .i64 27,.int .i64 28,.int .i64 29,.int .i64 (q:Int),.int .i64 (29+(q:Int)),.int .i64 (s2:Int),.int .i64 (29+(q:Int)+(s2:Int)),.int .i64 (29+(q:Int)+(s2:Int)+1),.int .i64 (k:Int),.int .i64 ((k:Int)+1),.int .i64 (tt:Int),.int .i64 ((k:Int)+1+(tt:Int)),.int .i64 t] 103):=⟨_,rfl⟩
   have b:Below w.heap.size w a:=by rw [f];exact r.out.1.alloc r.out.1.size _
   have i:a.heap[w.heap.size]? = some (.cells layZ 103 (0,0)):=by rw [f];exact (Below.heap_alloc w1 _ _ (lt_of_block r.out.2)).trans r.out.2
   have l:a.heap[w1.heap.size]? = some (.cells A 103 (0,0)):=by rw [f,I.out];exact heap_alloc_new w1 _
   have S:w1.heap.size≠w.heap.size:=by have:=lt_of_block r.out.2;omega
   rw [← f]
   have z:a.cell? ⟨w1.heap.size,15,none⟩=some (.int .i64 t):=by rw [cell_of_row _ _ 15 _ _ _ l,I.out];rfl
   clear f I
   generalize w1.heap.size=g at *
   have D:Hid (∀ n,Calls prog 85 #[p] (a.drewN n) fun e W'=>e= .returned (.int .i64 s)∧W'=a.drewN n):=fun n=>N.out _ (b.trans ⟨rfl,rfl,rfl,Nat.le_refl _,fun _ _=>rfl⟩)
   have o:Hid (Below w.heap.size w a∧a.heap[w.heap.size]? = some (.cells layZ 103 (0,0))∧a.heap[g]? = some (.cells A 103 (0,0))):=⟨b,i,l⟩
   clear r b i l N c
   by_cases y:t*8=s
   ·have L:decide (t*8=s)=true:=by simp [y]
    subst y
    have C:Hid (X=A∧Y=0):=u.out.1 rfl
    clear u
    go_quiet (first | (go_at_call 85;exact Calls.quiet_of_same (D.out _)))
    have J:Below w.heap.size w (a.drewN nq):=o.out.1.trans ⟨rfl,rfl,rfl,Nat.le_refl _,fun _ _=>rfl⟩
    have d:(a.drewN nq).heap[w.heap.size]? = some (.cells layZ 103 (0,0)):=o.out.2.1
    have K:(a.drewN nq).heap[g]? = some (.cells A 103 (0,0)):=o.out.2.2
    clear z D o
    generalize a.drewN nq=w3 at *
    go_wp2_with (first | refine wpList_load_row rfl 103 _ rfl g rfl 103 A (0,0) _ K underlying103 rfl (by rw [j];kernel_rfl) ?_ | refine wpList_store_row rfl 103 _ _ rfl w.heap.size A rfl rfl 103 _ d (by rw [j];kernel_rfl) (by rw [j];rfl) B ?_)
    rw [C.out.1,C.out.2]
    exact lo_ret _ w.heap.size _ 0 A _ rfl rfl (setRow_heap _ _ _ _ _ _ d) j ⟨rfl,Z0j J (Nat.le_refl _) _⟩
   ·have L:(t*8==s)=false:=by simp [y]
    have R:decide (t*8=s)=false:=by simp [y]
    go_quiet (first | (go_at_call 85;exact Calls.quiet_of_same (D.out _)))
    have P:Hid (LoR w s (k+1) (a.drewN nq)):=⟨by omega,by omega,u.out.2 y,o.out.1.trans ⟨rfl,rfl,rfl,Nat.le_refl _,fun _ _=>rfl⟩,o.out.2.1⟩
    clear z D o u
    go_wp2
    go_roundw
    case rel=>exact⟨k+1,by go_num,P⟩
    case measure=>simp [intOf];omega
  ·have T:¬ (k:Int)≤1024:=by omega
   have V:=c.out.hi
   have O:Hid (X=layZ∧Y=30):=by
    have e:liveO s=none:=by rw [c.out.go,show 1025-k=0 by omega];rfl
    rw [E.out.1,E.out.2,loA,loE,e]
    exact⟨rfl,rfl⟩
   have d:=c.out.res
   go_wp2_with (refine wpList_store_row rfl 103 _ _ rfl w.heap.size layZ rfl rfl 103 _ d (by kernel_rfl) rfl (by simp [layZ,Value.oneCell']) ?_)
   rw [O.out.1,O.out.2]
   exact lo_ret _ w.heap.size _ 30 layZ _ rfl rfl (setRow_heap _ _ _ _ _ _ d) rfl ⟨rfl,Z0j c.out.below (Nat.le_refl _) _⟩
theorem live_any (p:Value)(s:Int)(w:World)(hS:∀ W,Below w.heap.size w W→Calls prog 85 #[p] W fun e W'=>e= .returned (.int .i64 s)∧W'=W) :
  Calls prog 79 #[p] w fun e w'=>e= .returned (.tuple #[.int .i64 (loN s),.int .i64 (loE s)])∧Below w.heap.size w w':=by
 have b:=Z4h p s w hS
 clear hS
 unfold loA loE at b
 unfold loN loE
 cases hq:liveO s with
 | none =>
  rw [hq] at b
  simp only [layZ] at b
  go_enter func79,ntmps79
  go_wp2_with fail
  refine b.mono ?_
  rintro e d ⟨rfl,a⟩
  have c:Hid (Below w.heap.size w d):=a
  clear a b
  go_wp2
  go_ret2
  exact⟨rfl,c.out.alloc c.out.size _⟩
 | some n =>
  rw [hq] at b
  simp only [layA] at b
  generalize layQ n=q at *
  generalize layS n=s2 at *
  generalize layT n=tt at *
  go_enter func79,ntmps79
  go_wp2_with fail
  refine b.mono ?_
  rintro e d ⟨rfl,a⟩
  have c:Hid (Below w.heap.size w d):=a
  clear a b
  go_wp2
  go_ret2
  exact⟨rfl,c.out.alloc c.out.size _⟩
structure Sp where
 vol:Int
 ep:Int
 nx:Int
 lv:Int
 root:ByteArray
def Sp.arr (s:Sp):Array Value:=#[.int .i64 s.vol,.int .i64 s.ep,.int .i64 s.nx,.int .i64 s.lv,.string s.root]
def Sp.zero:Sp:=⟨0,0,0,0,⟨#[]⟩⟩
def Sp.txt (s:Sp):ByteArray:=Z1P s.vol s.ep s.nx s.lv s.root
def Sp.err (s:Sp):Int:=Z18 s.vol s.ep s.nx s.lv s.root
theorem Z5Z {s:Sp}(h:s.err=0):s.txt.size=448:=by
 unfold Sp.err Z18 at h
 split at h
 ·next hr =>
  have a:=Z7e h
  unfold Sp.txt Z1P
  rw [if_pos ⟨hr,a⟩]
  have c:=Z1p (Z0D s.vol s.ep s.nx s.lv) a
  have b:s.root.data.toList.length=32:=by rw [← hr];simp
  show ((Z0N (Z0D s.vol s.ep s.nx s.lv)++s.root.data.toList)++List.replicate 394 0).toArray.size=448
  rw [List.size_toArray,List.length_append,List.length_append,c,b,List.length_replicate]
  rfl
 ·cases h
def spOf (t:ByteArray):Sp:=⟨Z13 t 0 6,Z13 t 6 6,Z13 t 12 6,Z13 t 18 4,Z4g t⟩
theorem superOC_arr (t:ByteArray):Z2p t=(spOf t).arr:=rfl
def Sp.hd (s:Sp):Hd:=⟨s.vol,s.ep.tmod 2,1,0,0,0,s.ep,s.ep⟩
def supE (s:Sp):Int:=if s.err=0 then Z0p s.hd s.txt else s.err
def supA (s:Sp):Int:=if supE s=0 then s.ep.tmod 2 else 0
def supR (K:VK)(S:K.σ)(s:Sp):ByteArray:=if supE s=0 then K.sS S s.hd s.txt else ⟨#[]⟩
def supP (K:VK)(S:K.σ)(s:Sp):K.σ:=if s.err=0 then K.sP S s.hd s.txt else S
structure Rg where
 ok:Bool
 h:Hd
 body:ByteArray
def Rg.arr (r:Rg):Array Value:=Z4d r.ok r.h r.body
def Rg.zero:Rg:=⟨false,Hd.zero,⟨#[]⟩⟩
def toldR (K:VK)(S:K.σ)(r:ByteArray)(a:Int):Rg:=if K.oE S r=0∧(K.oH S r).v1=a then ⟨true,K.oH S r,K.oS S r⟩ else Rg.zero
theorem toldR_arr (K:VK)(S:K.σ)(r:ByteArray)(a:Int):toldK K S r a=(toldR K S r a).arr:=by
 unfold toldK toldR
 split <;> rfl
def loadR (K:VK)(S:PS)(T:K.σ)(a:Int):Rg:=if (bget S a).1.2.2=0∧(bget S a).1.2.1=0 then toldR K T (bget S a).1.1 a else Rg.zero
def Z1m (K:VK)(T:K.σ)(raws:List ByteArray)(masks:List Int)(a:Int):Rg:=if atM raws masks a=0 then toldR K T (atS raws masks a) a else Rg.zero
theorem lookR_arr (K:VK)(T:K.σ)(raws:List ByteArray)(masks:List Int)(a:Int):lookK K T raws masks a=(Z1m K T raws masks a).arr:=by
 unfold lookK Z1m
 split
 ·exact toldR_arr K T _ a
 ·rfl
def sinB (r:Rg)(slot live:Int):Bool:=decide (r.ok=true∧r.h.v2=1∧Z0J r.body=0∧(spOf r.body).ep.tmod 2=slot∧(spOf r.body).lv=live)
def sinS (r:Rg)(slot live:Int):Sp:=if sinB r slot live then spOf r.body else Sp.zero
def chN (l:List Rg)(live:Int):Nat→Option Sp
 | 0=>none
 | j+1=>match l[j]? with
  | some r=>if sinB r j live=true∧(∀ b,chN l live j=some b→b.ep<(spOf r.body).ep) then some (spOf r.body) else chN l live j
  | none=>chN l live j
def chO (l:List Rg)(live:Int):Option Sp:=chN l live (min 2 l.length)
def osp (o:Option Sp):Sp:=o.getD Sp.zero
def hdB (x:Wt):Bool:=decide (x.raw.size=512∧Z1s (x.raw.extract 0 48)=0∧(hdOf (x.raw.extract 0 48)).v1=x.at_)
def togB (least live:Int):List Wt→Bool
 | []=>true
 | x :: l=>decide (least≤x.at_∧x.at_<live)&&hdB x&&togB (x.at_+1) live l
def Z1S (log:Int):Nat→List Wt→List Wt
 | _,[]=> []
 | i,x :: l=>⟨log+(i:Int),x.raw⟩ :: Z1S log (i+1) l
def Z0z:List Wt→ByteArray
 | []=>⟨#[]⟩
 | x :: l=>x.raw++Z0z l
def Sp.hdC (s:Sp):Hd:=⟨s.vol,2,2,0,0,0,s.ep,s.ep⟩
def proT (K:VK)(S:K.σ)(ws:List Wt)(s:Sp):ByteArray:=padS (putS (ws.length:Int) 2++K.hS S (Z0z ws)++s.txt.extract 0 54) 448
def proE (K:VK)(S:K.σ)(ws:List Wt)(s:Sp):Int:=if s.err=0 then Z0p s.hdC (proT K S ws s) else s.err
def proA (K:VK)(S:K.σ)(ws:List Wt)(s:Sp):Int:=if proE K S ws s=0 then 2 else 0
def proR (K:VK)(S:K.σ)(ws:List Wt)(s:Sp):ByteArray:=if proE K S ws s=0 then K.sS (K.hP S (Z0z ws)) s.hdC (proT K S ws s) else ⟨#[]⟩
def proP (K:VK)(S:K.σ)(ws:List Wt)(s:Sp):K.σ:=if s.err=0 then K.sP (K.hP S (Z0z ws)) s.hdC (proT K S ws s) else S
def piT (r:Rg):ByteArray:=padS (r.body.extract 34 448) 448
def piB (r:Rg)(live:Int):Bool:=decide (r.ok=true∧r.h.v2=2∧getN r.body 0 2≤24∧Z0J (piT r)=0∧(spOf (piT r)).lv=live)
def piN (r:Rg)(live:Int):Int:=if piB r live then getN r.body 0 2 else 0
def piS (r:Rg)(live:Int):Sp:=if piB r live then spOf (piT r) else Sp.zero
def rcdW (raws:List ByteArray)(masks:List Int)(log:Int)(i:Nat):Wt:=⟨(hdOf ((atS raws masks (log+(i:Int))).extract 0 48)).v1,atS raws masks (log+(i:Int))⟩
def rcdL (raws:List ByteArray)(masks:List Int)(log:Int)(n:Nat):List Wt:=(List.range n).map (rcdW raws masks log)
def rcdB (raws:List ByteArray)(masks:List Int)(log:Int)(n:Nat):Bool:=(List.range n).all fun i=>decide (atM raws masks (log+(i:Int))=0)
theorem jsup_ret (tmps:Array Value)(g:Nat)(w':World)(a:Int)(r:ByteArray)(y:Int)(R:Ending→World→Prop)(h1:tmps.getD 4 undef= .pointer (some ⟨g,0,none⟩))(h2:tmps.getD 5 undef= .int .i64 y)(hg:w'.heap[g]? = some (.cells #[.int .i64 a,.string r] 27 (0,0)))(hR:R (.returned (.tuple #[.agg #[.int .i64 a,.string r],.int .i64 y])) w') :
  bodyPost prog Tryz.f5 R .ret { tmps:=tmps,defers:= []} w':=by
 have b:=run_loadVar_row (P:=prog) w' g 27 27 #[.int .i64 a,.string r] (0,0) _ hg underlying27 rfl (by kernel_rfl)
 simp at h1 h2
 exact bodyPost_ret (v:= .tuple #[.agg #[.int .i64 a,.string r],.int .i64 y]) (by simp [results,Tryz.results5,asAddr,b,h1,h2]) rfl hR
theorem jsup_no (v:Value)(a0 a1 a2 a3:Int)(r T:ByteArray)(E:Int)(w:World)(hE:¬ E=0)
  (hp:∀ w,Calls prog 12 #[.agg #[.int .i64 a0,.int .i64 a1,.int .i64 a2,.int .i64 a3,.string r]] w fun e w'=>e= .returned (.tuple #[.string T,.int .i64 E])∧Below w.heap.size w w') :
  Calls prog 5 #[v,.agg #[.int .i64 a0,.int .i64 a1,.int .i64 a2,.int .i64 a3,.string r]] w fun e w'=>e= .returned (.tuple #[.agg #[.int .i64 0,.string ⟨#[]⟩],.int .i64 E])∧Below w.heap.size w w':=by
 have d:(E != 0)=true:=by simpa using hE
 clear hE
 go_enter func5,ntmps5
 go_wp2_with fail
 refine (hp _).mono ?_
 rintro e f ⟨rfl,a⟩
 have c:=(a.block (w.heap.size+1) (by simp)).trans (heap_alloc2_new w _ _)
 have b:=(((Below.refl _ _).alloc (Nat.le_refl _) _).alloc (by simp) _).trans (a.mono (by simp;omega))
 clear hp a
 go_wp2_with (refine wpList_store_row rfl 27 _ _ rfl (w.heap.size+1) #[.int .i64 0,.string ⟨#[]⟩] rfl rfl 27 _ c (by kernel_rfl) rfl (by simp [Value.oneCell']) ?_)
 exact jsup_ret _ (w.heap.size+1) _ 0 ⟨#[]⟩ E _ rfl rfl (setRow_heap _ _ _ _ _ _ c) ⟨rfl,Z0j b (by omega) _⟩
theorem jsup_yes (v:Value)(a0 a1 a2 a3:Int)(r T X:ByteArray)(E:Int)(P:World→Prop)(w:World)(hP:Stb w.heap.size P)
  (hp:∀ w,Calls prog 12 #[.agg #[.int .i64 a0,.int .i64 a1,.int .i64 a2,.int .i64 a3,.string r]] w fun e w'=>e= .returned (.tuple #[.string T,.int .i64 0])∧Below w.heap.size w w')
  (hs:∀ w',Below w.heap.size w w'→Calls prog 13 #[v,.agg #[.int .i64 a0,.int .i64 (a1.tmod 2),.int .i64 1,.int .i64 0,.int .i64 0,.int .i64 0,.int .i64 a1,.int .i64 a1],.string T] w' fun e w''=>e= .returned (.tuple #[.string X,.int .i64 E])∧P w''∧Kept w.heap.size w' w''∧w'.heap.size≤w''.heap.size) :
  Calls prog 5 #[v,.agg #[.int .i64 a0,.int .i64 a1,.int .i64 a2,.int .i64 a3,.string r]] w fun e w'=>e= .returned (.tuple #[.agg #[.int .i64 (if E=0 then a1.tmod 2 else 0),.string (if E=0 then X else ⟨#[]⟩)],.int .i64 E])∧P w':=by
 go_enter func5,ntmps5
 go_wp2_with fail
 refine (hp _).mono ?_
 rintro e f ⟨rfl,a⟩
 have l:=(a.block (w.heap.size+1) (by simp)).trans (heap_alloc2_new w _ _)
 have j:=(a.block w.heap.size (by simp;omega)).trans (heap_alloc2_old w _ _)
 have c:=(((Below.refl _ _).alloc (Nat.le_refl _) _).alloc (by simp) _).trans (a.mono (by simp;omega))
 have m:=lt_of_block l
 have s:f.cell? ⟨w.heap.size,0,none⟩=some (.int .i64 a0):=cell_of_row _ _ 0 _ _ _ j
 have t:f.cell? ⟨w.heap.size,1,none⟩=some (.int .i64 a1):=cell_of_row _ _ 1 _ _ _ j
 have d:=hs (f.alloc (.cells #[.int .i64 a0,.int .i64 (a1.tmod 2),.int .i64 1,.int .i64 0,.int .i64 0,.int .i64 0,.int .i64 a1,.int .i64 a1] 51)) (c.alloc (by omega) _)
 clear hp a hs
 go_wp2_with fail
 refine d.mono ?_
 rintro e p ⟨rfl,g,b,k⟩
 have i:=(b _ (by omega) (by simp;omega)).trans ((Below.heap_alloc _ _ _ m).trans l)
 have n:=(b _ (by omega) (by simp)).trans (heap_alloc_new f _)
 have x:p.cell? ⟨f.heap.size,1,none⟩=some (.int .i64 (a1.tmod 2)):=cell_of_row _ _ 1 _ _ _ n
 have hh:Hid (∀ cs,P (p.setRow (w.heap.size+1) cs)):=fun cs=>hP _ _ g (Z0j (Below.refl _ _) (by omega) _)
 clear d j s t n g b k l c
 by_cases o:E=0
 ·subst o
  generalize hq:a1.tmod 2=q at *
  go_wp2_with (refine wpList_store_row rfl 27 _ _ rfl (w.heap.size+1) #[.int .i64 q,.string X] rfl rfl 27 _ i (by kernel_rfl) rfl (by simp [Value.oneCell']) ?_)
  exact jsup_ret _ (w.heap.size+1) _ q X 0 _ rfl rfl (setRow_heap _ _ _ _ _ _ i) ⟨by simp,hh.out _⟩
 ·have u:(E != 0)=true:=by simpa using o
  go_wp2_with (refine wpList_store_row rfl 27 _ _ rfl (w.heap.size+1) #[.int .i64 0,.string ⟨#[]⟩] rfl rfl 27 _ i (by kernel_rfl) rfl (by simp [Value.oneCell']) ?_)
  exact jsup_ret _ (w.heap.size+1) _ 0 ⟨#[]⟩ E _ rfl rfl (setRow_heap _ _ _ _ _ _ i) ⟨by simp,hh.out _⟩
theorem jsuper_any (K:VK)(HK:VKOk K)(F:Nat→Prop)(S:K.σ)(s:Sp){w w':World}(hr:K.room S 1)(hl:VOut K F w S w')(hw:w.heap.size≤w'.heap.size) :
  Calls prog 5 #[K.v,.agg s.arr] w' fun e w''=>e= .returned (.tuple #[.agg #[.int .i64 (supA s),.string (supR K S s)],.int .i64 (supE s)])∧VOut K F w (supP K S s) w''∧Kept w.heap.size w' w''∧w'.heap.size≤w''.heap.size:=by
 have g:=fun w=>Z5v s.vol s.ep s.nx s.lv s.root w
 by_cases c:s.err=0
 ·have a:Z18 s.vol s.ep s.nx s.lv s.root=0:=c
  rw [a] at g
  have b:supE s=Z0p s.hd s.txt:=if_pos c
  have j:supP K S s=K.sP S s.hd s.txt:=if_pos c
  have f:supA s=if Z0p s.hd s.txt=0 then s.ep.tmod 2 else 0:=by unfold supA;rw [b]
  have d:supR K S s=if Z0p s.hd s.txt=0 then K.sS S s.hd s.txt else ⟨#[]⟩:=by unfold supR;rw [b]
  rw [b,j,f,d]
  exact jsup_yes K.v s.vol s.ep s.nx s.lv s.root s.txt (K.sS S s.hd s.txt) (Z0p s.hd s.txt) (fun w''=>VOut K F w (K.sP S s.hd s.txt) w''∧Kept w.heap.size w' w''∧w'.heap.size≤w''.heap.size) w' (fun w1 w2 h hb=>⟨VOut.stb HK _ _ h.1 (hb.mono hw),fun k hk hk2=>(hb.block k hk2).trans (h.2.1 k hk hk2),Nat.le_trans h.2.2 hb.size⟩) g fun w1 hb=>by
   have i:=VOut.seal_ HK s.hd s.txt hr (VOut.stb HK _ _ hl (hb.mono hw))
   refine i.mono fun e w'' ⟨h2,h3,h4,h5⟩=>⟨h2,⟨h3,fun k hk hk2=>(h4 k hk (Nat.lt_of_lt_of_le hk2 hb.size)).trans (hb.block k hk2),Nat.le_trans hb.size h5⟩,fun k hk hk2=>h4 k (Nat.le_trans hw hk) hk2,h5⟩
 ·have a:=c
  have b:supE s=Z18 s.vol s.ep s.nx s.lv s.root:=if_neg c
  have j:supP K S s=S:=if_neg c
  have f:supA s=0:=by unfold supA;rw [b];exact if_neg a
  have d:supR K S s=⟨#[]⟩:=by unfold supR;rw [b];exact if_neg a
  rw [b,j,f,d]
  exact (jsup_no K.v s.vol s.ep s.nx s.lv s.root (Z1P s.vol s.ep s.nx s.lv s.root) _ w' a g).mono fun e w'' ⟨i,h2⟩=>⟨i,VOut.stb HK _ _ hl (h2.mono hw),fun k _ hk=>h2.block k hk,h2.size⟩
set_option maxRecDepth 100000 in
theorem blank12_eq:(⟨(Lib.repeatL (⟨#[0]⟩:ByteArray).data.toList 12).toArray⟩:ByteArray)=Z0c 0 12:=by rfl
theorem jzeros_any (n:Nat)(hn:n=12∨n=512)(w:World):Calls prog 81 #[.int .i64 (n:Int)] w fun e w'=>e= .returned (.string (Z0c 0 n))∧Below w.heap.size w w':=by
 have a:∀ w:World,Calls prog 23 #[.string ⟨#[0]⟩,.int .i64 (n:Int)] w fun e w'=>e= .returned (.string (Z0c 0 n))∧Below w.heap.size w w':=fun w=>by
  rcases hn with rfl | rfl
  ·have h:=Any.strings_Repeat Z4y Z1i ⟨#[0]⟩ 12 w (by decide) (by decide)
   rw [blank12_eq] at h
   exact h
  ·have h:=Any.strings_Repeat Z4y Z1i ⟨#[0]⟩ 512 w (by decide) (by decide)
   rw [Z7v] at h
   exact h
 generalize Z0c 0 n=z at *
 clear hn
 go_enter func81,ntmps81
 go_wp2_with fail
 refine (a _).mono ?_
 rintro e d ⟨rfl,b⟩
 have c:Hid _:=b
 clear b a
 go_wp2
 go_ret
 exact⟨rfl,c.out⟩
theorem blank_ret (tmps:Array Value)(g:Nat)(w':World)(cs:Array Value)(R:Ending→World→Prop)(h1:tmps.getD 2 undef= .pointer (some ⟨g,0,none⟩))(hg:w'.heap[g]? = some (.cells cs 27 (0,0)))(hs:cs.size=2)(hR:R (.returned (.agg cs)) w') :
  bodyPost prog Tryz.f45 R .ret { tmps:=tmps,defers:= []} w' :=
 bodyPost_ret (v:= .agg cs) (results_cell_row Tryz.results45 tmps w' g 27 cs (0,0) _ h1 hg underlying27 rfl (by rw [hs];kernel_rfl)) rfl hR
theorem jblank_any (a:Int)(w:World):Calls prog 45 #[.int .i64 a] w fun e w'=>e= .returned (.agg #[.int .i64 a,.string (Z0c 0 512)])∧Below w.heap.size w w':=by
 have d:=fun w=>jzeros_any 512 (.inr rfl) w
 generalize Z0c 0 512=z at *
 go_enter func45,ntmps45
 go_wp2_with fail
 refine (d _).mono ?_
 rintro e g ⟨rfl,b⟩
 have f:=(b.block w.heap.size (by simp)).trans (heap_alloc_new w _)
 have c:=(Z1b w _).trans (b.mono (by simp))
 clear b d
 go_wp2_with (refine wpList_store_row rfl 27 _ _ rfl w.heap.size #[.int .i64 a,.string z] rfl rfl 27 _ f (by kernel_rfl) rfl (by simp [Value.oneCell']) ?_)
 exact blank_ret _ w.heap.size _ #[.int .i64 a,.string z] _ rfl (setRow_heap _ _ _ _ _ _ f) rfl ⟨rfl,c.trans ⟨rfl,rfl,rfl,by simp [World.setRow],fun k hk=>setRow_other _ _ _ _ (by omega)⟩⟩
theorem isOf_any (p:Value)(sc:Int)(s:Sp)(w:World)(hS:∀ W,Below w.heap.size w W→Calls prog 85 #[p] W fun e W'=>e= .returned (.int .i64 sc)∧W'=W) :
  Calls prog 40 #[p,.agg s.arr] w fun e w'=>e= .returned (.bool (decide (loE sc=0∧loN sc=s.lv)))∧Below w.heap.size w w':=by
 obtain⟨f,i,g,b,r⟩:=s
 simp only [Sp.arr]
 have a:Below w.heap.size w (w.alloc (.cells #[.int .i64 f,.int .i64 i,.int .i64 g,.int .i64 b,.string r] 23)):=(Below.refl _ _).alloc (Nat.le_refl _) _
 have n:=live_any p sc (w.alloc (.cells #[.int .i64 f,.int .i64 i,.int .i64 g,.int .i64 b,.string r] 23)) fun W hW=>hS W (a.trans (hW.mono a.size))
 have l:=heap_alloc_new w (.cells #[.int .i64 f,.int .i64 i,.int .i64 g,.int .i64 b,.string r] 23)
 generalize loE sc=E at *
 generalize loN sc=N at *
 clear hS
 go_enter func40,ntmps40
 go_wp2_with fail
 refine n.mono ?_
 rintro e o ⟨rfl,c⟩
 have m:=(c.block w.heap.size (by simp)).trans l
 have q:o.cell? ⟨w.heap.size,3,none⟩=some (.int .i64 b):=by simp [World.cell?,m]
 have d:Hid _:=a.trans (c.mono a.size)
 clear n a c l m
 by_cases h:E=0
 ·subst h
  by_cases k:N=b
  ·have j:(N==b)=true:=by simp [k]
   go_wp2
   go_ret
   exact⟨by simp,d.out⟩
  ·have j:(N==b)=false:=by simp [k]
   go_wp2
   go_ret
   exact⟨by simp,d.out⟩
 ·have j:(E==0)=false:=by simp [h]
  go_wp2
  go_ret
  exact⟨by simp [h],d.out⟩
theorem unseal_any (K:VK)(HK:VKOk K)(F:Nat→Prop)(S:K.σ)(s:Sp)(w:World)(hr:K.room S 0)(hl:K.lies w F S) :
  Calls prog 41 #[K.v,.agg s.arr] w fun e w'=>e= .returned (.int .i64 s.err)∧Below w.heap.size w w':=by
 have g:=fun w=>Z5v s.vol s.ep s.nx s.lv s.root w
 have i:=fun w=>jzeros_any 12 (.inl rfl) w
 have j:=fun (w':World) (hb:Below w.heap.size w w')=>HK.probe F S w' hr (HK.below hl hb)
 have p:s.err=Z18 s.vol s.ep s.nx s.lv s.root:=rfl
 rw [p]
 obtain⟨n,m,l,o,r⟩:=s
 simp only [Sp.arr] at *
 generalize Z18 n m l o r=E at *
 generalize Z1P n m l o r=T at *
 generalize Z0c 0 12=Z at *
 generalize K.v=v at *
 clear hr hl p
 by_cases k:E=0
 ·subst k
  go_enter func41,ntmps41
  go_wp2_with fail
  refine (g _).mono ?_
  rintro e q ⟨rfl,a⟩
  have c:=(Z1b w _).trans (a.mono (by simp))
  clear a g
  go_wp2_with fail
  refine (i _).mono ?_
  rintro e u ⟨rfl,f⟩
  have b:=c.trans (f.mono c.size)
  clear f i c
  go_wp2_with fail
  refine (j _ b).mono ?_
  rintro e x ⟨rfl,d⟩
  have h:Hid _:=b.trans (d.mono b.size)
  clear d b j
  go_wp2
  go_ret
  exact⟨rfl,h.out⟩
 ·have t:(E != 0)=true:=by simpa using k
  go_enter func41,ntmps41
  go_wp2_with fail
  refine (g _).mono ?_
  rintro e q ⟨rfl,a⟩
  have h:Hid _:=(Z1b w _).trans (a.mono (by simp))
  clear a g i j k
  go_wp2
  go_ret
  exact⟨rfl,h.out⟩
theorem json_ret (tmps:Array Value)(g:Nat)(w':World)(a:Int)(r:ByteArray)(y:Int)(R:Ending→World→Prop)(h1:tmps.getD 6 undef= .pointer (some ⟨g,0,none⟩))(h2:tmps.getD 7 undef= .int .i64 y)(hg:w'.heap[g]? = some (.cells #[.int .i64 a,.string r] 27 (0,0)))(hR:R (.returned (.tuple #[.agg #[.int .i64 a,.string r],.int .i64 y])) w') :
  bodyPost prog Tryz.f42 R .ret { tmps:=tmps,defers:= []} w':=by
 have b:=run_loadVar_row (P:=prog) w' g 27 27 #[.int .i64 a,.string r] (0,0) _ hg underlying27 rfl (by kernel_rfl)
 simp at h1 h2
 exact bodyPost_ret (v:= .tuple #[.agg #[.int .i64 a,.string r],.int .i64 y]) (by simp [results,Tryz.results42,asAddr,b,h1,h2]) rfl hR
theorem superOn_in (p v:Value)(u:Bool)(a0 a1 a2 a3:Int)(r R:ByteArray)(A E A' E':Int)(R':ByteArray)(P:World→Prop)(w:World)(hP:Stb w.heap.size P)
  (hup:∀ W,Below w.heap.size w W→Calls prog 49 #[p] W fun e W'=>e= .returned (.bool u)∧W'=W)
  (hno:u=false→(∀ W,Below w.heap.size w W→P W)∧A'=0∧R'=⟨#[]⟩∧E'=20)
  (hyes:u=true→A'=A∧R'=R∧E'=E∧∀ W,Below w.heap.size w W→Calls prog 5 #[v,.agg #[.int .i64 a0,.int .i64 a1,.int .i64 a2,.int .i64 a3,.string r]] W fun e w''=>e= .returned (.tuple #[.agg #[.int .i64 A,.string R],.int .i64 E])∧P w''∧Kept w.heap.size W w''∧W.heap.size≤w''.heap.size) :
  Calls prog 42 #[p,v,.agg #[.int .i64 a0,.int .i64 a1,.int .i64 a2,.int .i64 a3,.string r]] w fun e w'=>e= .returned (.tuple #[.agg #[.int .i64 A',.string R'],.int .i64 E'])∧P w':=by
 have a:Below w.heap.size w ((w.alloc (.cells #[.int .i64 a0,.int .i64 a1,.int .i64 a2,.int .i64 a3,.string r] 23)).alloc (.cells #[.int .i64 0,.string ⟨#[]⟩] 27)):=((Below.refl _ _).alloc (Nat.le_refl _) _).alloc (by simp) _
 have f:=hup _ a
 cases u with
 | false =>
  obtain⟨b,rfl,rfl,rfl⟩:=hno rfl
  have l:Hid _:=b _ a
  clear hyes hno hup b hP a
  go_enter func42,ntmps42
  go_wp2_with fail
  refine f.mono ?_
  rintro e m ⟨rfl,rfl⟩
  clear f
  go_wp2
  exact json_ret _ (w.heap.size+1) _ 0 ⟨#[]⟩ 20 _ rfl rfl (heap_alloc2_new w _ _) ⟨rfl,l.out⟩
 | true =>
  obtain⟨rfl,rfl,rfl,b⟩:=hyes rfl
  have i:=b _ a
  clear hyes hno hup b
  go_enter func42,ntmps42
  go_wp2_with fail
  refine f.mono ?_
  rintro e m ⟨rfl,rfl⟩
  clear f
  go_wp2_with fail
  refine i.mono ?_
  rintro e k ⟨rfl,d,c,g⟩
  have j:=(c _ (by omega) (by simp)).trans (heap_alloc2_new w _ _)
  have h:Hid (∀ cs,P (k.setRow (w.heap.size+1) cs)):=fun cs=>hP _ _ d (Z0j (Below.refl _ _) (by omega) _)
  clear i d c g a
  go_wp2_with (refine wpList_store_row rfl 27 _ _ rfl (w.heap.size+1) #[.int .i64 A',.string R'] rfl rfl 27 _ j (by kernel_rfl) rfl (by simp [Value.oneCell']) ?_)
  exact json_ret _ (w.heap.size+1) _ A' R' E' _ rfl rfl (setRow_heap _ _ _ _ _ _ j) ⟨rfl,h.out _⟩
def sonE (P:PS)(s:Sp):Int:=if P.up then supE s else 20
def sonA (P:PS)(s:Sp):Int:=if P.up then supA s else 0
def sonR (K:VK)(P:PS)(S:K.σ)(s:Sp):ByteArray:=if P.up then supR K S s else ⟨#[]⟩
def sonS (K:VK)(P:PS)(S:K.σ)(s:Sp):K.σ:=if P.up then supP K S s else S
theorem superOn_any (K:VK)(HK:VKOk K)(F:Nat→Prop)(B:Nat)(P:PS)(S:K.σ)(s:Sp)(w:World)(h:Duo K w F B P S)(hr:K.room S 1) :
  Calls prog 42 #[.pointer (some ⟨B,0,none⟩),K.v,.agg s.arr] w fun e w'=>e= .returned (.tuple #[.agg #[.int .i64 (sonA P s),.string (sonR K P S s)],.int .i64 (sonE P s)])∧Duo K w' F B P (sonS K P S s)∧Z02 F w w':=by
 refine h.vaultC (E:=fun e=>e= .returned (.tuple #[.agg #[.int .i64 (sonA P s),.string (sonR K P S s)],.int .i64 (sonE P s)])) fun F2 hl _=> ?_
 refine (superOn_in (.pointer (some ⟨B,0,none⟩)) K.v P.up s.vol s.ep s.nx s.lv s.root (supR K S s) (supA s) (supE s) (sonA P s) (sonE P s) (sonR K P S s) (VOut K F2 w (sonS K P S s)) w (VOut.stb HK) (fun W hb=>(h.below HK hb).up) (fun hu=> ?_) (fun hu=> ?_)).mono fun e w' ⟨h1,h2⟩=>⟨h1,h2.lies HK,h2.2⟩
 ·unfold sonS sonA sonR sonE
  rw [hu]
  exact⟨fun W hb=>VOut.start HK hl hb,rfl,rfl,rfl⟩
 ·unfold sonS sonA sonR sonE
  rw [hu]
  refine⟨rfl,rfl,rfl,fun W hb=> ?_⟩
  exact jsuper_any K HK F2 S s hr (VOut.start HK hl hb) hb.size
theorem isOf_duo (K:VK)(HK:VKOk K)(F:Nat→Prop)(B:Nat)(P:PS)(S:K.σ)(s:Sp)(w:World)(h:Duo K w F B P S) :
  Calls prog 40 #[.pointer (some ⟨B,0,none⟩),.agg s.arr] w fun e w'=>e= .returned (.bool (decide (loE (P.kept.length:Nat)=0∧loN (P.kept.length:Nat)=s.lv)))∧Below w.heap.size w w' :=
 isOf_any _ _ s w fun _ hb=>(h.below HK hb).sectors
theorem unseal_duo (K:VK)(HK:VKOk K)(F:Nat→Prop)(B:Nat)(P:PS)(S:K.σ)(s:Sp)(w:World)(h:Duo K w F B P S)(hr:K.room S 0) :
  Calls prog 41 #[K.v,.agg s.arr] w fun e w'=>e= .returned (.int .i64 s.err)∧Below w.heap.size w w' :=
 h.lookC fun F2 hl=>unseal_any K HK F2 S s w hr hl
section
open Go.RowKit Go.Shelf
def Bl (B b:Nat)(l:List UInt8)(w:World):Prop:=Lib.IsBuilder 139 5 B b (Lib.byteCells l) w
theorem ptWrite_any (B b:Nat)(l:List UInt8)(s:ByteArray)(w:World)(h:Bl B b l w)(hlen:l.length+s.size≤140737488355328)(hBw:B≤w.heap.size) :
  Calls prog 59 #[.pointer (some ⟨b,0,none⟩),.string s] w fun e w'=>e= .returned (.tuple #[.int .i64 s.size,.nilIface])∧Bl B b (l++s.data.toList) w'∧Below B w w':=by
 refine (Any.Builder_WriteString ct166 ct166_extra B b (Lib.byteCells l) s w h (by rw [Lib.byteCells_length];exact hlen) hBw).mono fun e w' ⟨he,hB,hb⟩=>⟨by rw [he],.inr ?_,hb⟩
 have e:Lib.byteCells l++Lib.strCells s=Lib.byteCells (l++s.data.toList):=by simp [Lib.byteCells,Lib.strCells]
 rw [← e]
 exact hB
theorem pt_owns {w w':World}{base:Nat}{e:TypeId}{size:Nat}{v:Value}{n:Nat}{xs:List Value}(h:w.ownsRow base e size v n xs)(hk:∀ k,k<w.heap.size→w'.heap[k]? = w.heap[k]?):w'.ownsRow base e size v n xs:=by
 refine⟨h.1,?_⟩
 rcases h.2 with h0 | ⟨g,cap,cur,e,h0,hg,h1,h2,h3,h4⟩
 ·exact .inl h0
 ·exact .inr ⟨g,cap,cur,e,h0,(hk g (lt_of_block hg)).trans hg,h1,h2,h3,h4⟩
theorem Bl_keep {B b:Nat}{l:List UInt8}{w w':World}(h:Bl B b l w)(hb:Below w.heap.size w w'):Bl B b l w':=by
 have a:∀ k,k<w.heap.size→w'.heap[k]? = w.heap[k]? :=fun k a=>hb.block k a
 rcases h with ⟨h1,v,h2,h3,h4⟩ | ⟨h1,v,h2,h3,h4⟩
 ·exact .inl ⟨h1,v,(a _ (lt_of_block h2)).trans h2,pt_owns h3 a,h4⟩
 ·exact .inr ⟨h1,v,(a _ (lt_of_block h2)).trans h2,pt_owns h3 a,h4⟩
theorem below_drewN {B:Nat}{w wr:World}(h:Below B w wr):∀ m,Below B w (wr.drewN m)
 | 0=>h
 | m+1=>(below_drewN h m).drew
end
end Go.Proofs.YtijpgmkdnemmbaaGreatDoor
