/- Part 15. -/
import Derived.Test.YtijpgmkdnemmbaaGreatDoorMg11
import Derived.Test.YtijpgmkdnemmbaaGreatDoorMg12
set_option maxRecDepth 20000
set_option maxHeartbeats 8000000
open Go.RowKit Go.Proofs.Tryz
namespace Go.Proofs.YtijpgmkdnemmbaaGreatDoor
def Z5q (S:PS)(at_:Int):Bool:=decide (0≤at_∧at_<((S.kept.length/8:Nat):Int))
theorem blocks_any (B:Nat)(F:Nat→Prop)(S:PS)(w:World)(hp:Z0d w F B S):Calls prog 95 #[.pointer (some ⟨B,0,none⟩)] w fun e w'=>e= .returned (.int .i64 ((S.kept.length/8:Nat):Int))∧w'=w:=by
 have d:=Z7r B F S w hp
 have i:S.kept.length≤32768:=by obtain⟨K,N,k,h⟩:=hp;exact h.most
 have b:Hid (((S.kept.length:Nat):Int).tdiv 8=((S.kept.length/8:Nat):Int)):=by
  show _=_
  rw [Int.tdiv_eq_ediv_of_nonneg (by omega)]
  omega
 generalize S.kept.length=n at *
 obtain⟨q,a⟩:∃ q:Int,q=((n/8:Nat):Int):=⟨_,rfl⟩
 have c:IntKind.i64.wrap (((n:Nat):Int).tdiv 8)=q:=by rw [b.out,IntKind.wrap_i64,a];omega
 have f:((n:Nat):Int).tdiv 8=q:=by rw [b.out,a]
 have g:((n:Nat):Int)/8=q:=by omega
 rw [← a]
 clear a b hp
 go_enter func95,ntmps95
 go_wp2_with fail
 refine d.mono ?_
 rintro e j ⟨rfl,rfl⟩
 go_wp2
 go_ret
 exact⟨rfl,rfl⟩
theorem bhas_any (B:Nat)(F:Nat→Prop)(S:PS)(at_:Int)(w:World)(hp:Z0d w F B S):Calls prog 120 #[.pointer (some ⟨B,0,none⟩),.int .i64 at_] w fun e w'=>e= .returned (.bool (Z5q S at_))∧w'=w:=by
 have c:=blocks_any B F S w hp
 have a:Hid (Z5q S at_=decide (0≤at_∧at_<((S.kept.length/8:Nat):Int))):=rfl
 generalize Z5q S at_=r at *
 generalize ((S.kept.length/8:Nat):Int)=q at *
 clear hp
 by_cases d:0≤at_
 ·by_cases b:at_<q
  ·obtain rfl:r=true:=by rw [a.out];exact decide_eq_true ⟨d,b⟩
   clear a
   go_enter func120,ntmps120
   go_wp2_with fail
   refine c.mono ?_
   rintro e f ⟨rfl,rfl⟩
   go_wp2
   go_ret
   exact⟨rfl,rfl⟩
  ·obtain rfl:r=false:=by rw [a.out];exact decide_eq_false fun h=>b h.2
   clear a
   have g:decide (at_<q)=false:=decide_eq_false b
   clear b
   go_enter func120,ntmps120
   go_wp2_with fail
   refine c.mono ?_
   rintro e f ⟨rfl,rfl⟩
   go_wp2
   go_ret
   exact⟨rfl,rfl⟩
 ·obtain rfl:r=false:=by rw [a.out];exact decide_eq_false fun h=>d h.1
  clear a c
  go_enter func120,ntmps120
  go_wp2
  go_ret
  exact⟨rfl,rfl⟩
theorem Z7s (B:Nat)(F:Nat→Prop)(S:PS)(x:Int)(s:ByteArray)(w:World)(hp:Z0d w F B S)(hw:S.wait.length≤1000000) :
  Calls prog 141 #[.pointer (some ⟨B,0,none⟩),.int .i64 x,.string s] w fun e w'=>e= .returned (Z2Z x (Z1V S x s))∧Z0d w' (grow F w w') B (Z1d S x s)∧Z02 F w w':=by
 have d:=write_any B F S x s w hp hw
 generalize Z1V S x s=y at *
 generalize Z1d S x s=S' at *
 clear hp
 go_enter func141,ntmps141
 go_wp2_with fail
 refine d.mono ?_
 rintro e i ⟨rfl,c,b⟩
 have g:Hid _:=And.intro c b
 clear c b d
 go_wp2_with fail
 refine (Z7o x y _).mono ?_
 rintro e h ⟨rfl,rfl⟩
 obtain⟨z,a⟩:∃ z,z=Z2Z x y:=⟨_,rfl⟩
 rw [← a]
 have f:Hid (z=Z2Z x y):=a
 clear a
 go_wp2
 go_ret
 exact⟨by rw [← f.out];rfl,g.out⟩
theorem readSector_any (B:Nat)(F:Nat→Prop)(S:PS)(x:Int)(w:World)(hp:Z0d w F B S)(hw:S.wait.length≤1000000) :
  Calls prog 121 #[.pointer (some ⟨B,0,none⟩),.int .i64 x] w fun e w'=>e= .returned (.tuple #[.string (Z2N S x),Z2Z x (Z2G S x)])∧Z0d w' F B (Z2z S x)∧Z02 F w w':=by
 have d:=read_any B F S x w hp hw
 generalize Z2G S x=y at *
 generalize Z2N S x=s at *
 generalize Z2z S x=S' at *
 clear hp
 go_enter func121,ntmps121
 go_wp2_with fail
 refine d.mono ?_
 rintro e i ⟨rfl,c,b⟩
 have g:Hid _:=And.intro c b
 clear c b d
 go_wp2_with fail
 refine (Z7o x y _).mono ?_
 rintro e h ⟨rfl,rfl⟩
 obtain⟨z,a⟩:∃ z,z=Z2Z x y:=⟨_,rfl⟩
 rw [← a]
 have f:Hid (z=Z2Z x y):=a
 clear a
 go_wp2
 go_ret2
 exact⟨by rw [← f.out];rfl,g.out⟩
def secS (r:ByteArray)(j:Nat):ByteArray:=r.extract (64*j) (64*j+64)
def Z4f (r:ByteArray)(a:Nat):Nat→Nat→PS→Int × PS
 | 0,_,S=>(0,S)
 | n+1,j,S=>if Z1V S ((8*a+j:Nat):Int) (secS r j)=0 then Z4f r a n (j+1) (Z1d S ((8*a+j:Nat):Int) (secS r j)) else (Z1V S ((8*a+j:Nat):Int) (secS r j),Z1d S ((8*a+j:Nat):Int) (secS r j))
def Z4H (S:PS)(at_:Int)(r:ByteArray):Int:=if r.size=512 then (if Z5q S at_ then (Z4f r at_.toNat 8 0 S).1 else 2) else 1
def Z3e (S:PS)(at_:Int)(r:ByteArray):PS:=if r.size=512 then (if Z5q S at_ then (Z4f r at_.toNat 8 0 S).2 else S) else S
theorem writeP_len (S:PS)(x:Int)(s:ByteArray):(Z1d S x s).kept.length=S.kept.length∧(Z1d S x s).wait.length≤S.wait.length+1:=by
 unfold Z1d
 split
 ·split
  ·split
   ·split
    ·exact⟨rfl,Nat.le_succ _⟩
    ·exact⟨rfl,by simp⟩
   ·exact⟨rfl,Nat.le_succ _⟩
  ·exact⟨rfl,Nat.le_succ _⟩
 ·exact⟨rfl,Nat.le_succ _⟩
theorem Z7t {w w':World}{b:Nat}(h:w'.heap[b]? = w.heap[b]?){i:Nat}:w'.cell? ⟨b,i,none⟩=w.cell? ⟨b,i,none⟩:=World.cell?_of_block (a:=⟨b,i,none⟩) h
theorem grow_grow {F:Nat→Prop}{w w1 w2:World}(h1:w.heap.size≤w1.heap.size)(h2:w1.heap.size≤w2.heap.size)(k:Nat)(h:grow (grow F w w1) w1 w2 k):grow F w w2 k :=
 h.elim (fun a=>a.elim .inl fun b=> .inr ⟨b.1,Nat.lt_of_lt_of_le b.2 h2⟩) fun a=> .inr ⟨Nat.le_trans h1 a.1,a.2⟩
theorem bput_any (B:Nat)(F:Nat→Prop)(S:PS)(at_:Int)(r:ByteArray)(w:World)(hp:Z0d w F B S)(hw:S.wait.length≤900000)(hg:ErrT w)(hF:¬ F 3) :
  Calls prog 115 #[.pointer (some ⟨B,0,none⟩),.int .i64 at_,.string r] w fun e w'=>e= .returned (.int .i64 (Z4H S at_ r))∧Z0d w' (grow F w w') B (Z3e S at_ r)∧Z02 F w w':=by
 have l:=fun w=>Z4c r w
 by_cases E:r.size=512
 case neg =>
  have c:Hid (Z4H S at_ r=1∧Z0d w (grow F w w) B (Z3e S at_ r)):=⟨by simp [Z4H,E],by simp only [Z3e,E,if_false];exact hp.mono fun k _ h=> .inl h⟩
  rw [decide_eq_false E] at l
  rw [c.out.1]
  clear hp
  go_enter func115,ntmps115
  go_wp2_with fail
  refine (l _).mono ?_
  rintro e V ⟨rfl,rfl⟩
  go_wp2
  go_ret
  exact⟨rfl,c.out.2,Z02.refl _ _⟩
 rw [decide_eq_true E] at l
 have o:=bhas_any B F S at_ w hp
 cases hb:Z5q S at_
 ·have c:Hid (Z4H S at_ r=2∧Z0d w (grow F w w) B (Z3e S at_ r)):=⟨by simp [Z4H,E,hb],by simp [Z3e,hb];exact hp.mono fun k _ h=> .inl h⟩
  rw [hb] at o
  rw [c.out.1]
  clear hp
  go_enter func115,ntmps115
  go_wp2_with fail
  refine (l _).mono ?_
  rintro e V ⟨rfl,rfl⟩
  go_wp2_with fail
  refine o.mono ?_
  rintro e i ⟨rfl,rfl⟩
  go_wp2
  go_ret
  exact⟨rfl,c.out.2,Z02.refl _ _⟩
 rw [hb] at o
 have T:0≤at_∧at_<((S.kept.length/8:Nat):Int):=by simpa [Z5q] using hb
 have hm:S.kept.length≤32768:=by obtain⟨K,N,wv,h⟩:=hp;exact h.most
 obtain⟨a,rfl⟩:∃ a:Nat,at_=a:=⟨at_.toNat,by omega⟩
 have P:Hid (Z4H S (a:Nat) r=(Z4f r a 8 0 S).1∧Z3e S (a:Nat) r=(Z4f r a 8 0 S).2):=⟨by simp [Z4H,E,hb],by simp [Z3e,E,hb]⟩
 rw [P.out.1,P.out.2]
 have ha:a<4096:=by omega
 have O:Hid (Z0d w (grow F w w) B S∧ErrT w):=⟨hp.mono fun k _ h=> .inl h,hg⟩
 have R:=Z0E hg
 obtain⟨G,U⟩:∃ G,Z4f r a 8 0 S=G:=⟨_,rfl⟩
 rw [U]
 have Z:Hid (Z4f r a 8 0 S=G):=U
 clear hp hg hb P T U
 go_enter func115,ntmps115
 go_wp2_with fail
 refine (l _).mono ?_
 rintro e V ⟨rfl,rfl⟩
 clear l
 go_wp2_with fail
 refine o.mono ?_
 rintro e i ⟨rfl,rfl⟩
 clear o
 go_wp2_with fail
 go_loopw [21] (fun v wr=> ∃ (j:Nat) (g:PS),j≤8∧v= .int .i64 j∧Z4f r a (8-j) j g=G∧Z0d wr (grow F i wr) B g∧Z02 F i wr∧g.wait.length≤900000+j∧ErrT wr) (fun v _=>8-(intOf v).toNat)
 case atStart=>exact⟨0,S,by omega,rfl,Z.out,O.out.1,Z02.refl _ _,by omega,O.out.2⟩
 case round =>
  clear O Z
  obtain⟨j,g,hj,rfl,b,D,n,a1,I⟩:=hrel
  by_cases a0:j<8
  ·have j1:(j:Int)<8:=by omega
   obtain⟨p,hp⟩:∃ p:Nat,p=64*j:=⟨_,rfl⟩
   obtain⟨q,hq⟩:∃ q:Nat,q=64*j+64:=⟨_,rfl⟩
   obtain⟨x,Y⟩:∃ x:Int,x=((8*a+j:Nat):Int):=⟨_,rfl⟩
   have W:Hid (secS r j=r.extract p q):=by rw [hp,hq];rfl
   have f:Hid (Z4f r a (8-j) j g=if Z1V g x (secS r j)=0 then Z4f r a (8-(j+1)) (j+1) (Z1d g x (secS r j)) else (Z1V g x (secS r j),Z1d g x (secS r j))):=by
    show _=_
    rw [show 8-j=(8-(j+1))+1 by omega,Y]
    rfl
   have m:=Z7s B (grow F i wr) g x (r.extract p q) wr D (by omega)
   have HL:Hid ((Z1d g x (r.extract p q)).wait.length≤900000+(j+1)):=by
    have:=(writeP_len g x (r.extract p q)).2
    show _≤_
    omega
   have m1:IntKind.i64.wrap (64*(j:Int))=(p:Nat):=by rw [IntKind.wrap_i64];omega
   have m2:IntKind.i64.wrap ((j:Int)+1)=(j:Int)+1:=by rw [IntKind.wrap_i64];omega
   have m3:IntKind.i64.wrap (64*((j:Int)+1))=(q:Nat):=by rw [IntKind.wrap_i64];omega
   have m4:IntKind.i64.wrap (8*(a:Int))=8*(a:Int):=by rw [IntKind.wrap_i64];omega
   have m5:IntKind.i64.wrap (8*(a:Int)+(j:Int))=x:=by rw [IntKind.wrap_i64];omega
   have n0:(0:Int)≤(p:Nat):=by omega
   have n1:((p:Nat):Int)≤(q:Nat):=by omega
   have n2:((q:Nat):Int)≤r.size:=by omega
   rw [f.out,W.out] at b
   have M:Hid (∀ w',Z02 (grow F i wr) wr w'→Z02 F i w'∧ErrT w'):=fun w' h=>⟨n.trans h,(Z7t (h.2 3 (Nat.lt_of_lt_of_le R n.size) (fun hh=>hh.elim hF fun y=>absurd y.1 (by omega)))).trans I⟩
   have X:=n.size
   clear f W D n I hp hq Y
   generalize Z1V g x (r.extract p q)=y at *
   generalize Z1d g x (r.extract p q)=Sk at *
   by_cases L:y=0
   ·have he:Z2Z x y= .nilIface:=if_pos L
    rw [he] at m
    rw [if_pos L] at b
    have f:Hid (Z4f r a (8-(j+1)) (j+1) Sk=G):=b
    clear b he
    go_wp2_with fail
    refine m.mono ?_
    rintro e u ⟨rfl,t,d⟩
    obtain⟨s,C⟩:=M.out u d
    have c:Hid (Z0d u (grow F i u) B Sk∧Z02 F i u∧ErrT u):=⟨t.mono fun k _ hk=>grow_grow X d.size k hk,s,C⟩
    clear m t d s C M
    go_wp2
    go_roundw
    case rel=>exact⟨j+1,Sk,by omega,by go_num,f.out,c.out.1,c.out.2.1,HL.out,c.out.2.2⟩
    case measure=>simp [intOf];omega
   ·have HE:Hid (Z2Z x y= .iface 281 (.agg #[.int .i64 x,.int .i64 y])):=if_neg L
    rw [if_neg L] at b
    have f:Hid (y=G.1∧Sk=G.2):=by rw [← b];exact⟨rfl,rfl⟩
    have H:=fun w h=>Z6m x y w h
    rw [HE.out] at m
    simp only [HE.out] at H
    clear b
    go_wp2_with fail
    refine m.mono ?_
    rintro e u ⟨rfl,t,d⟩
    obtain⟨s,C⟩:=M.out u d
    have c:Hid (Z0d u (grow F i u) B Sk∧Z02 F i u):=⟨t.mono fun k _ hk=>grow_grow X d.size k hk,s⟩
    clear m t d s M
    go_wp2_with fail
    refine (H _ C).mono ?_
    rintro e Q ⟨rfl,A⟩
    have J:Hid (Z0d Q (grow F i Q) B Sk∧Z02 F i Q):=⟨(c.out.1.below A).mono fun k _ hk=>hk.imp id fun z=>⟨z.1,Nat.lt_of_lt_of_le z.2 A.size⟩,c.out.2.trans (Z02.of_below A)⟩
    clear H A c
    go_wp2
    go_ret
    exact⟨by rw [← f.out.1];rfl,by rw [← f.out.2];exact J.out.1,J.out.2⟩
  ·obtain rfl:j=8:=by omega
   have c:Hid ((0:Int)=G.1∧Z0d wr (grow F i wr) B G.2∧Z02 F i wr):=by
    rw [← b]
    exact⟨rfl,D,n⟩
   clear b D n I
   go_wp2
   go_ret
   exact⟨by rw [← c.out.1];rfl,c.out.2⟩
theorem Z7u:∀ n:Nat,Lib.repeatL ([0]:List UInt8) n=List.replicate n 0
 | 0=>rfl
 | n+1=>by
  rw [List.replicate_succ,← Z7u n]
  rfl
theorem Z7v:(⟨(Lib.repeatL (⟨#[0]⟩:ByteArray).data.toList 512).toArray⟩:ByteArray)=Z0c 0 512:=by
 rw [show (⟨#[0]⟩:ByteArray).data.toList=([0]:List UInt8) from rfl,Z7u]
 unfold Z0c strOfNums
 rw [List.map_replicate,List.map_replicate]
 rfl
theorem Z6n (w:World):Calls prog 96 #[.int .i64 512] w fun e w'=>e= .returned (.string (Z0c 0 512))∧Below w.heap.size w w':=by
 have a:∀ w,Calls prog 23 #[.string ⟨#[0]⟩,.int .i64 512] w fun e w'=>e= .returned (.string (Z0c 0 512))∧Below w.heap.size w w':=fun w=>by
  have h:=Any.strings_Repeat Z4y Z1i ⟨#[0]⟩ 512 w (by decide) (by decide)
  rw [Z7v] at h
  exact h
 generalize Z0c 0 512=z at *
 go_enter func96,ntmps96
 go_wp2_with fail
 refine (a _).mono ?_
 rintro e d ⟨rfl,b⟩
 have c:Hid _:=b
 clear b a
 go_wp2
 go_ret
 exact⟨rfl,c.out⟩
def atB (raws:List ByteArray)(masks:List Int)(a:Int):Bool:=decide (0≤a∧a<(raws.length:Nat)∧a<(masks.length:Nat)∧(raws.getD a.toNat ⟨#[]⟩).size=512)
def atS (raws:List ByteArray)(masks:List Int)(a:Int):ByteArray:=if atB raws masks a then raws.getD a.toNat ⟨#[]⟩ else Z0c 0 512
def atM (raws:List ByteArray)(masks:List Int)(a:Int):Int:=if atB raws masks a then masks.getD a.toNat 0 else 255
theorem at_any (w:World)(oa ob:Option Addr)(ca cb:Nat)(raws:List ByteArray)(masks:List Int)(a:Int)(h1:Z27 Value.string w (.slice oa raws.length ca) raws)(h2:Z27 (Value.int .i64) w (.slice ob masks.length cb) masks) :
  Calls prog 124 #[.agg #[.slice oa raws.length ca,.slice ob masks.length cb],.int .i64 a] w fun e w'=>e= .returned (.tuple #[.string (atS raws masks a),.int .i64 (atM raws masks a)])∧Below w.heap.size w w':=by
 have p:Below w.heap.size w (w.alloc (.cells #[.slice oa raws.length ca,.slice ob masks.length cb] 131)):=(Below.refl _ _).alloc (Nat.le_refl _) _
 have f:Row (w.alloc (.cells #[.slice oa raws.length ca,.slice ob masks.length cb] 131)) w.heap.size 131 [.slice oa raws.length ca,.slice ob masks.length cb]:=heap_alloc_new w _
 obtain⟨r,l⟩:∃ r,r=raws.length:=⟨_,rfl⟩
 obtain⟨t,n⟩:∃ t,t=masks.length:=⟨_,rfl⟩
 have HL:Hid (r=raws.length∧t=masks.length):=⟨l,n⟩
 have A:Hid (Z27 Value.string w (.slice oa raws.length ca) raws∧Z27 (Value.int .i64) w (.slice ob masks.length cb) masks):=⟨h1,h2⟩
 rw [← l,← n] at p f ⊢
 have v:=fun w=>Z6n w
 obtain⟨z,H⟩:∃ z,z=Z0c 0 512:=⟨_,rfl⟩
 have Y:Hid (z=Z0c 0 512):=H
 rw [← H] at v
 clear H h1 h2
 obtain⟨w1,D⟩:∃ w1,w.alloc (.cells #[.slice oa r ca,.slice ob t cb] 131)=w1:=⟨_,rfl⟩
 rw [D] at p f
 have U:w1.cell? ⟨w.heap.size,0,none⟩=some (.slice oa r ca):=f.cell 0
 have X:w1.cell? ⟨w.heap.size,1,none⟩=some (.slice ob t cb):=f.cell 1
 have b:Hid (Below w.heap.size w w1):=p
 by_cases c:0≤a∧a<(r:Nat)∧a<(t:Nat)
 ·obtain⟨i,rfl⟩:∃ i:Nat,a=i:=⟨a.toNat,by omega⟩
  obtain⟨x,O⟩:∃ x,raws[i]? = some x:=⟨_,List.getElem?_eq_getElem (by omega)⟩
  obtain⟨y,N⟩:∃ y,masks[i]? = some y:=⟨_,List.getElem?_eq_getElem (by omega)⟩
  obtain⟨g,o,rfl,Z,I⟩:=A.out.1.get (i:=i) (by omega)
  obtain⟨F,K,rfl,Q,J⟩:=A.out.2.get (i:=i) (by omega)
  have V:w1.cell? ⟨g,o+i,none⟩=some (.string x):=(Z22 (b.out.block g Z) _).trans (I i x O)
  have T:w1.cell? ⟨F,K+i,none⟩=some (.int .i64 y):=(Z22 (b.out.block F Q) _).trans (J i y N)
  have i1:(i:Int)<(r:Nat):=c.2.1
  have i2:(i:Int)<(t:Nat):=c.2.2
  have n1:decide (r≤i)=false:=decide_eq_false (by omega)
  have n2:decide (t≤i)=false:=decide_eq_false (by omega)
  have q:=fun w=>Z4c x w
  have u:raws.getD i ⟨#[]⟩=x:=by rw [List.getD_eq_getElem?_getD,O];rfl
  have C:masks.getD i 0=y:=by rw [List.getD_eq_getElem?_getD,N];rfl
  by_cases d:x.size=512
  ·have s:atB raws masks (i:Int)=true:=decide_eq_true ⟨by omega,by rw [← l];exact c.2.1,by rw [← n];exact c.2.2,by rw [Int.toNat_natCast,u];exact d⟩
   have B:Hid (atS raws masks (i:Int)=x∧atM raws masks (i:Int)=y):=⟨by unfold atS;rw [s,Int.toNat_natCast,u];rfl,by unfold atM;rw [s,Int.toNat_natCast,C];rfl⟩
   rw [B.out.1,B.out.2]
   rw [decide_eq_true d] at q
   have P:=fun w=>Z7g x w (by omega)
   have S:Hid (∀ w',Below w1.heap.size w1 w'→w'.cell? ⟨w.heap.size,0,none⟩=some (.slice (some ⟨g,o,none⟩) r ca)∧w'.cell? ⟨w.heap.size,1,none⟩=some (.slice (some ⟨F,K,none⟩) t cb)∧w'.cell? ⟨g,o+i,none⟩=some (.string x)∧w'.cell? ⟨F,K+i,none⟩=some (.int .i64 y)):=fun w' hb=>by
    have a0:=b.out.size
    exact⟨(Z22 (hb.block _ f.lt) _).trans U,(Z22 (hb.block _ f.lt) _).trans X,(Z22 (hb.block g (by omega)) _).trans V,(Z22 (hb.block F (by omega)) _).trans T⟩
   clear l n p f c O N I J u C s d v A
   go_enter func124,ntmps124
   go_wp2_with fail
   refine (q _).mono ?_
   rintro e G ⟨rfl,rfl⟩
   clear q
   go_wp2_with fail
   go_region_held3 (fun w'=>w'.cell? ⟨w.heap.size,0,none⟩=some (.slice (some ⟨g,o,none⟩) r ca)∧w'.cell? ⟨w.heap.size,1,none⟩=some (.slice (some ⟨F,K,none⟩) t cb)∧w'.cell? ⟨g,o+i,none⟩=some (.string x)∧w'.cell? ⟨F,K+i,none⟩=some (.int .i64 y)) (first | exact L | exact⟨U,X,V,T⟩ | simp [go_sem, *]) (first | (go_at_call 151;refine (P _).mono ?_;rintro e W ⟨rfl,E⟩;have L:=S.out W ((Below.refl _ _).drew.trans E)))
   have j:Hid (Below w.heap.size w W):=b.out.drew.trans (E.mono b.out.size)
   clear E L S D
   go_wp2
   go_ret2
   exact⟨rfl,j.out⟩
  ·have m:atB raws masks (i:Int)=false:=decide_eq_false fun h=>d (by have:=h.2.2.2;rwa [Int.toNat_natCast,u] at this)
   have B:Hid (atS raws masks (i:Int)=z∧atM raws masks (i:Int)=255):=⟨by unfold atS;rw [m,Y.out];rfl,by unfold atM;rw [m];rfl⟩
   rw [B.out.1,B.out.2]
   rw [decide_eq_false d] at q
   clear l n p f c O N I J u C m d A
   go_enter func124,ntmps124
   go_wp2_with fail
   refine (q _).mono ?_
   rintro e G ⟨rfl,rfl⟩
   clear q
   go_wp2_with fail
   refine (v _).mono ?_
   rintro e w3 ⟨rfl,M⟩
   have j:Hid (Below w.heap.size w w3):=b.out.trans (M.mono b.out.size)
   clear M v D
   go_wp2
   go_ret2
   exact⟨rfl,j.out⟩
 ·have m:atB raws masks a=false:=by
   refine decide_eq_false fun h=>c ⟨h.1,?_,?_⟩
   ·rw [l];exact h.2.1
   ·rw [n];exact h.2.2.1
  have B:Hid (atS raws masks a=z∧atM raws masks a=255):=⟨by unfold atS;rw [m,Y.out];rfl,by unfold atM;rw [m];rfl⟩
  rw [B.out.1,B.out.2]
  clear l n m p f
  by_cases R:a<0
  ·clear c
   go_enter func124,ntmps124
   go_wp2_with fail
   refine (v _).mono ?_
   rintro e G ⟨rfl,k⟩
   have j:Hid (Below w.heap.size w G):=b.out.trans (k.mono b.out.size)
   clear k v
   go_wp2
   go_ret2
   exact⟨rfl,j.out⟩
  ·have n0:decide (a<0)=false:=decide_eq_false R
   by_cases hr:(r:Int)≤a
   ·clear c
    go_enter func124,ntmps124
    go_wp2_with fail
    refine (v _).mono ?_
    rintro e G ⟨rfl,k⟩
    have j:Hid (Below w.heap.size w G):=b.out.trans (k.mono b.out.size)
    clear k v
    go_wp2
    go_ret2
    exact⟨rfl,j.out⟩
   ·have n1:decide ((r:Int)≤a)=false:=decide_eq_false hr
    have n2:(t:Int)≤a:=by omega
    clear c
    go_enter func124,ntmps124
    go_wp2_with fail
    refine (v _).mono ?_
    rintro e G ⟨rfl,k⟩
    have j:Hid (Below w.heap.size w G):=b.out.trans (k.mono b.out.size)
    clear k v
    go_wp2
    go_ret2
    exact⟨rfl,j.out⟩
theorem textR_mem {i:Nat}{s:ByteArray}:∀ {r:List (Nat × ByteArray)},Z3P r i=some s→(i,s)∈r
 | [],h=>by simp [Z3P] at h
 | (a,u) :: t,h=>by
  simp only [Z3P] at h
  split at h
  ·rename_i e
   cases h
   rw [e]
   exact List.mem_cons_self
  ·exact List.mem_cons_of_mem _ (textR_mem h)
theorem readS_size {w:World}{F:Nat→Prop}{B:Nat}{S:PS}(hp:Z0d w F B S)(x:Int):(Z2N S x).size≤64:=by
 obtain⟨K,N,e,h⟩:=hp
 have b:(keptS S x).size≤64:=by
  unfold keptS
  rw [List.getD_eq_getElem?_getD]
  by_cases a:x.toNat<S.kept.length
  ·rw [List.getElem?_eq_getElem a]
   have:=h.texts _ (List.getElem_mem a)
   simp
   omega
  ·rw [List.getElem?_eq_none (by omega)]
   decide
 have c:(Z5p S x).size≤64:=by
  unfold Z5p
  split
  ·exact b
  ·decide
 unfold Z2N
 split
 ·split
  ·cases ht:Z1q S.wait x.toNat with
   | none=>exact c
   | some u =>
    have d:u.size=64:=(h.ats _ (List.mem_reverse.1 (textR_mem ht))).2
    simp only [Option.getD_some]
    omega
  ·decide
 ·decide
theorem Z5X {w w':World}{b:Nat}{e:TypeId}{z n:Nat}{v:Value}{xs:List Value}(h:w.ownsRow b e z v n xs)(hb:∀ g,b≤g→g<w.heap.size→w'.heap[g]? = w.heap[g]?):w'.ownsRow b e z v n xs:=by
 refine⟨h.1,?_⟩
 rcases h.2 with hn | ⟨g,cap,cur,rfl,h0,hg,hr⟩
 ·exact .inl hn
 ·exact .inr ⟨g,cap,cur,rfl,h0,(hb g h0 (lt_of_block hg)).trans hg,hr⟩
theorem Z6o (t s:ByteArray):Lib.strCells t++Lib.strCells s=Lib.strCells (t++s):=by
 rw [Z28,Z28,Z28,Z40]
 simp
theorem zeros64_any (w:World):Calls prog 96 #[.int .i64 64] w fun e w'=>e= .returned (.string (Z0c 0 64))∧Below w.heap.size w w':=by
 have a:=fun w=>Z6k w
 generalize Z0c 0 64=z at *
 go_enter func96,ntmps96
 go_wp2_with fail
 refine (a _).mono ?_
 rintro e d ⟨rfl,b⟩
 have c:Hid _:=b
 clear b a
 go_wp2
 go_ret
 exact⟨rfl,c.out⟩
def Z43 (a:Nat):Nat→Nat→PS→ByteArray→Nat→(ByteArray × Nat × Int) × PS
 | 0,_,S,t,m=>((t,m,0),S)
 | n+1,j,S,t,m =>
  if Z2G S ((8*a+j:Nat):Int)=0 then Z43 a n (j+1) (Z2z S ((8*a+j:Nat):Int)) (t++Z2N S ((8*a+j:Nat):Int)) m
  else if Z2G S ((8*a+j:Nat):Int)=21 then Z43 a n (j+1) (Z2z S ((8*a+j:Nat):Int)) (t++Z0c 0 64) (m+2 ^ j)
  else ((⟨#[]⟩,0,Z2G S ((8*a+j:Nat):Int)),Z2z S ((8*a+j:Nat):Int))
def bget (S:PS)(at_:Int):(ByteArray × Nat × Int) × PS:=if Z5q S at_ then Z43 at_.toNat 8 0 S ⟨#[]⟩ 0 else ((⟨#[]⟩,0,2),S)
theorem readP_len (S:PS)(x:Int):(Z2z S x).kept.length=S.kept.length∧(Z2z S x).wait=S.wait:=by
 unfold Z2z
 split
 ·split
  ·exact⟨rfl,rfl⟩
  ·exact⟨rfl,rfl⟩
 ·exact⟨rfl,rfl⟩
theorem or_bit (m j:Nat)(h:m<2 ^ j)(hj:j<8):bits .or .i64 (m:Int) ((2 ^ j:Nat):Int)=((m+2 ^ j:Nat):Int):=by
 have b:(2:Nat) ^ j≤2 ^ 7:=Nat.pow_le_pow_right (by decide) (by omega)
 rw [Z4t m (2 ^ j) (by omega) (by omega)]
 have a:=Nat.two_pow_add_eq_or_of_lt h 1
 rw [Nat.mul_one] at a
 rw [Nat.or_comm,← a,Nat.add_comm]
theorem wrap_two (j:Nat)(hj:j<8):wrap64 (2 ^ j)=((2 ^ j:Nat):Int):=by
 have h:j=0∨j=1∨j=2∨j=3∨j=4∨j=5∨j=6∨j=7:=by omega
 rcases h with rfl | rfl | rfl | rfl | rfl | rfl | rfl | rfl <;> (unfold wrap64;decide)
theorem get_ret (tmps:Array Value)(w:World)(t:ByteArray)(m y:Int)(R:Ending→World→Prop)(h1:tmps.getD 4 undef= .string t)(h2:tmps.getD 5 undef= .int .i64 m)(h3:tmps.getD 6 undef= .int .i64 y)(hR:R (.returned (.tuple #[.string t,.int .i64 m,.int .i64 y])) w) :
  bodyPost prog Tryz.f90 R .ret { tmps:=tmps,defers:= []} w:=by
 simp at h1 h2 h3
 exact bodyPost_ret (v:= .tuple #[.string t,.int .i64 m,.int .i64 y]) (by simp [results,Tryz.results90,h1,h2,h3]) rfl hR
theorem bget_any (B:Nat)(F:Nat→Prop)(S:PS)(at_:Int)(w:World)(hp:Z0d w F B S)(hw:S.wait.length≤1000000)(hg:ErrT w)(hF:¬ F 3) :
  Calls prog 90 #[.pointer (some ⟨B,0,none⟩),.int .i64 at_] w fun e w'=>e= .returned (.tuple #[.string (bget S at_).1.1,.int .i64 ((bget S at_).1.2.1:Nat),.int .i64 (bget S at_).1.2.2])∧Z0d w' F B (bget S at_).2∧Z02 F w w':=by
 have J:=bhas_any B F S at_ w hp
 cases hb:Z5q S at_
 ·have o:Hid (bget S at_=((⟨#[]⟩,0,2),S)∧Z0d w F B S):=⟨by simp [bget,hb],hp⟩
  rw [hb] at J
  rw [o.out.1]
  clear hp
  go_enter func90,ntmps90
  go_wp2_with fail
  refine J.mono ?_
  rintro e b ⟨rfl,rfl⟩
  go_wp2_with fail
  exact get_ret _ _ ⟨#[]⟩ 0 2 _ rfl rfl rfl ⟨rfl,o.out.2,Z02.refl _ _⟩
 rw [hb] at J
 have H:0≤at_∧at_<((S.kept.length/8:Nat):Int):=by simpa [Z5q] using hb
 have hm:S.kept.length≤32768:=by obtain⟨K,N,wv,h⟩:=hp;exact h.most
 obtain⟨a,rfl⟩:∃ a:Nat,at_=a:=⟨at_.toNat,by omega⟩
 have HR:Hid (bget S (a:Nat)=Z43 a 8 0 S ⟨#[]⟩ 0):=by show _=_;simp [bget,hb]
 rw [HR.out]
 have ha:a<4096:=by omega
 have Q:=Z0E hg
 obtain⟨G,hG⟩:∃ G,Z43 a 8 0 S ⟨#[]⟩ 0=G:=⟨_,rfl⟩
 rw [hG]
 have HG:Hid (Z43 a 8 0 S ⟨#[]⟩ 0=G):=hG
 have HP:Hid (Z0d w (fun k=>F k∧k<w.heap.size) B S∧ErrT w):=⟨hp.mono fun k hk h=>⟨h,hk⟩,hg⟩
 obtain⟨i0,hi,U,Y,X⟩:=info_parts Z2n
 clear hp hg hb HR H hG
 go_enter func90,ntmps90
 go_wp2_with fail
 refine J.mono ?_
 rintro e b ⟨rfl,rfl⟩
 clear J
 go_wp2_with (first | (at_make;refine wpList_make_own _ rfl _ _ 90 rfl b.heap.size 5 i0 (.int .u8 0) 1 underlying90 hi U Y .i64 .i64 512 512 rfl rfl rfl (by rw [X];decide) (by decide) (Nat.le_refl _) ?_))
 intro w2 M C
 have H:Below b.heap.size b w2:=(Below.refl _ _).grown C (Nat.le_refl _) (fun k hk=>by simp at hk)
 have HI:Hid (Z0d w2 (fun k=>F k∧k<b.heap.size) B S∧Z02 (fun k=>F k∧k<b.heap.size) b w2∧ErrT w2∧w2.ownsRow b.heap.size 5 1 (.slice (some ⟨b.heap.size,0,none⟩) 0 512) 0 []):=⟨HP.out.1.below H,Z02.of_below H,HP.out.2.below H Q,M⟩
 clear M C H HP
 go_wp2_with fail
 go_loopw [7,8,20] (fun v mv i wr=> ∃ (j:Nat) (n:PS) (t:ByteArray) (m:Nat),j≤8∧i= .int .i64 j∧mv= .int .i64 (m:Nat)∧m<2 ^ j∧t.size≤64*j∧Z43 a (8-j) j n t m=G∧Z0d wr (fun k=>F k∧k<b.heap.size) B n∧Z02 (fun k=>F k∧k<b.heap.size) b wr∧ErrT wr∧wr.ownsRow b.heap.size 5 1 v t.size (Lib.strCells t)∧n.wait.length≤1000000) (fun _ _ i _=>8-(intOf i).toNat)
 case atStart=>exact⟨0,S,⟨#[]⟩,0,by omega,rfl,rfl,by decide,by decide,HG.out,HI.out.1,HI.out.2.1,HI.out.2.2.1,HI.out.2.2.2,hw⟩
 case round =>
  clear HI HG
  obtain⟨j,n,t,m,hj,rfl,rfl,ab,af,c,P,O,Z,D,aa⟩:=hrel
  by_cases T:j<8
  ·have j1:(j:Int)<8:=by omega
   obtain⟨x,hx⟩:∃ x:Int,x=((8*a+j:Nat):Int):=⟨_,rfl⟩
   have E:Hid (Z43 a (8-j) j n t m=if Z2G n x=0 then Z43 a (8-(j+1)) (j+1) (Z2z n x) (t++Z2N n x) m else if Z2G n x=21 then Z43 a (8-(j+1)) (j+1) (Z2z n x) (t++Z0c 0 64) (m+2 ^ j) else ((⟨#[]⟩,0,Z2G n x),Z2z n x)):=by
    show _=_
    rw [show 8-j=(8-(j+1))+1 by omega,hx]
    rfl
   rw [E.out] at c
   have a3:=readSector_any B _ n x wr P aa
   have ag:=readS_size P x
   have HL:Hid ((Z2z n x).wait.length≤1000000):=by show _≤_;rw [(readP_len n x).2];exact aa
   have m4:IntKind.i64.wrap (8*(a:Int))=8*(a:Int):=by rw [IntKind.wrap_i64];omega
   have m5:IntKind.i64.wrap (8*(a:Int)+(j:Int))=x:=by rw [IntKind.wrap_i64];omega
   have HW:Hid (∀ w',Z02 (fun k=>F k∧k<b.heap.size) wr w'→Z02 (fun k=>F k∧k<b.heap.size) b w'∧ErrT w'∧w'.ownsRow b.heap.size 5 1 u7 t.size (Lib.strCells t)):=fun w' h=>⟨O.trans (h.mono fun k hk=> .inl hk),(Z7t (h.2 3 (Nat.lt_of_lt_of_le Q O.size) (fun hh=>hF hh.1))).trans Z,Z5X D fun g h0 hg=>h.2 g hg fun hh=>by omega⟩
   clear E P O Z D hx
   generalize Z2G n x=y at *
   generalize Z2N n x=s at *
   generalize Z2z n x=Sk at *
   have a2:=fun w h=>Z6m x y w h
   generalize Z2Z x y=z at *
   have ai:(2:Nat) ^ j≤128:=Nat.le_trans (Nat.pow_le_pow_right (by decide) (show j≤7 by omega)) (by decide)
   go_wp2_with fail
   refine a3.mono ?_
   rintro e w3 ⟨rfl,a6,a0⟩
   obtain⟨a1,R,a8⟩:=HW.out w3 a0
   clear a3 a0 HW
   go_wp2_with fail
   refine (a2 _ R).mono ?_
   rintro e w4 ⟨rfl,I⟩
   have a7:=a6.below I
   have W:=a1.trans (Z02.of_below (F:=grow (fun k=>F k∧k<b.heap.size) b w3) I)
   have a4:ErrT w4:=R.below I (Z0E R)
   have p:w4.ownsRow b.heap.size 5 1 u7 t.size (Lib.strCells t):=Z5X a8 fun g _ hg=>I.block g hg
   have u:Hid (Z0d w4 (fun k=>F k∧k<b.heap.size) B Sk):=a7
   have f:Hid (Z02 (fun k=>F k∧k<b.heap.size) b w4):=W
   have A:Hid (ErrT w4):=a4
   have hz5:=W.size
   clear a6 a1 R a8 I a2 a7 W a4
   by_cases hy:y=0
   ·subst hy
    rw [if_pos rfl] at c
    have E:Hid _:=c
    clear c
    go_wp2_with (at_builtin;refine Lib.wpList_append_own_string _ rfl _ _ 90 9 rfl b.heap.size 5 i0 underlying90 underlying9 hi U Y X _ _ _ rfl p s rfl ?c1 ?c2 ?c3 ?_)
    case c1=>unfold maxLen;omega
    case c2=>omega
    case c3=>omega
    intro v6 w6 r q _
    have d:Below b.heap.size w4 w6:=(Below.refl _ _).grown q hz5 (fun k hk=>by
     rcases p.2 with ⟨rfl,_⟩ | ⟨g',cap,cur,rfl,hg',_⟩
     ·simp [Value.ownBlock] at hk
     ·simp [Value.ownBlock] at hk;omega)
    rw [Z6o,← ByteArray.size_append] at r
    have o:Hid (Z0d w6 (fun k=>F k∧k<b.heap.size) B Sk∧Z02 (fun k=>F k∧k<b.heap.size) b w6∧ErrT w6∧w6.ownsRow b.heap.size 5 1 v6 (t++s).size (Lib.strCells (t++s))):=⟨u.out.keep fun k _ hk=>d.block k hk.2,⟨f.out.1.trans (d.mono (Nat.zero_le _)),fun k hk hn=>(d.block k hk).trans (f.out.2 k hk hn)⟩,A.out.below d Q,r⟩
    clear d r q p u f A
    go_wp2
    go_roundw
    case rel=>exact⟨j+1,Sk,t++s,m,by omega,by go_num,rfl,by rw [Nat.pow_succ];omega,by rw [ByteArray.size_append];omega,E.out,o.out.1,o.out.2.1,o.out.2.2.1,o.out.2.2.2,HL.out⟩
    case measure=>simp [intOf];omega
   ·have ad:(y==0)=false:=beq_false_of_ne hy
    rw [if_neg hy] at c
    by_cases V:y=21
    ·subst V
     rw [if_pos rfl] at c
     have E:Hid _:=c
     have ah:=Z0T 0 64
     clear c
     go_wp2_with fail
     refine (zeros64_any _).mono ?_
     rintro e w5 ⟨rfl,L⟩
     replace u:Hid (Z0d w5 (fun k=>F k∧k<b.heap.size) B Sk):=u.out.below L
     replace A:Hid (ErrT w5):=A.out.below L (Z0E A.out)
     replace f:Hid (Z02 (fun k=>F k∧k<b.heap.size) b w5):=f.out.trans (Z02.of_below L)
     replace p:w5.ownsRow b.heap.size 5 1 u7 t.size (Lib.strCells t):=Z5X p fun g _ hg=>L.block g hg
     replace hz5:=f.out.size
     clear L
     have a5:=or_bit m j ab T
     go_wp2_with (at_builtin;refine Lib.wpList_append_own_string _ rfl _ _ 90 9 rfl b.heap.size 5 i0 underlying90 underlying9 hi U Y X _ _ _ rfl p (Z0c 0 64) rfl ?c1 ?c2 ?c3 ?_)
     case c1=>unfold maxLen;omega
     case c2=>omega
     case c3=>omega
     intro v6 w6 r q _
     have d:Below b.heap.size w5 w6:=(Below.refl _ _).grown q hz5 (fun k hk=>by
      rcases p.2 with ⟨rfl,_⟩ | ⟨g',cap,cur,rfl,hg',_⟩
      ·simp [Value.ownBlock] at hk
      ·simp [Value.ownBlock] at hk;omega)
     have a9:t.size+64=(t++Z0c 0 64).size:=by rw [ByteArray.size_append,Z0T]
     rw [Z6o,a9] at r
     clear a9
     have o:Hid (Z0d w6 (fun k=>F k∧k<b.heap.size) B Sk∧Z02 (fun k=>F k∧k<b.heap.size) b w6∧ErrT w6∧w6.ownsRow b.heap.size 5 1 v6 (t++Z0c 0 64).size (Lib.strCells (t++Z0c 0 64))):=⟨u.out.keep fun k _ hk=>d.block k hk.2,⟨f.out.1.trans (d.mono (Nat.zero_le _)),fun k hk hn=>(d.block k hk).trans (f.out.2 k hk hn)⟩,A.out.below d Q,r⟩
     clear d r q p u f A
     have HM:Hid (bits BinOp.or IntKind.i64 (m:Nat) (wrap64 (2 ^ j))=((m+2 ^ j:Nat):Int)):=by
      show _=_
      rw [wrap_two j T]
      exact a5
     clear a5
     go_wp2
     go_roundw
     case rel=>exact⟨j+1,Sk,t++Z0c 0 64,m+2 ^ j,by omega,by go_num,by rw [HM.out],by rw [Nat.pow_succ];omega,by rw [ByteArray.size_append,Z0T];omega,E.out,o.out.1,o.out.2.1,o.out.2.2.1,o.out.2.2.2,HL.out⟩
     case measure=>simp [intOf];omega
    ·have ac:(y==21)=false:=beq_false_of_ne V
     rw [if_neg V] at c
     subst c
     go_wp2_with fail
     exact get_ret _ _ ⟨#[]⟩ 0 y _ rfl rfl rfl ⟨rfl,u.out.mono fun k _ h=>h.1,f.out.mono fun k h=>h.1⟩
  ·obtain rfl:j=8:=by omega
   have o:Hid (G=((t,m,0),n)∧Z0d wr F B n∧Z02 F b wr):=⟨c.symm,P.mono fun k _ h=>h.1,O.mono fun k h=>h.1⟩
   have ae:(convert 90 9 u7).run prog wr= .ok (.string t) wr:=by
    have:=Z3v (w:=wr) (base:=b.heap.size) (v:=u7) (l:=t.data.toList) (by rw [Z2x,← Z28];exact D)
    rw [this]
   clear c P O Z D
   go_wp2_with fail
   exact get_ret _ _ t m 0 _ rfl rfl rfl ⟨by rw [o.out.1],by rw [o.out.1];exact o.out.2.1,o.out.2.2⟩
end Go.Proofs.YtijpgmkdnemmbaaGreatDoor
