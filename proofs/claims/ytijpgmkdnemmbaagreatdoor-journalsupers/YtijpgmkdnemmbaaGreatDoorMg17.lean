/- Part 17. -/
import Derived.Test.YtijpgmkdnemmbaaGreatDoorMg14
import Derived.Test.YtijpgmkdnemmbaaGreatDoorMg16
import Derived.Lib.IfaceEq
set_option maxRecDepth 20000
set_option maxHeartbeats 8000000
open Go.RowKit Go.Proofs.Tryz
namespace Go.Proofs.YtijpgmkdnemmbaaGreatDoor
theorem apart_cell {w:World}{e:TypeId}{n g cap i:Nat}{xs:List Value}{u:Value}(h:w.ownsRow 0 e 1 (.slice (some ⟨g,0,none⟩) n cap) n xs)(hi:xs[i]? = some u):w.cell? ⟨g,i,none⟩=some u:=by
 obtain⟨d,a,b,_,c⟩:=Z1E h (by have:=(List.getElem?_eq_some_iff.1 hi).1;have:=h.1;omega)
 cases b
 exact c i u hi
theorem Z5u {α:Type}{f:α→Value}{w:World}{e:TypeId}{v:Value}{l:List α}(h:w.ownsRow 0 e 1 v l.length (l.map f)):Z27 f w v l:=by
 rcases h.2 with ⟨rfl,hn⟩ | ⟨g,cap,cur,rfl,_,hg,_⟩
 ·exact .inl ⟨none,0,rfl,List.length_eq_zero_iff.1 hn⟩
 ·exact .inr ⟨g,0,cap,rfl,lt_of_block hg,fun i x hx=>by rw [Nat.zero_add];exact (apart_cell h (by rw [List.getElem?_map,hx];rfl))⟩
theorem Z27.below {α:Type}{f:α→Value}{W W':World}{v:Value}{l:List α}(h:Z27 f W v l)(hb:Below W.heap.size W W'):Z27 f W' v l:=by
 rcases h with h | ⟨g,o,cap,e,hg,hx⟩
 ·exact .inl h
 ·exact .inr ⟨g,o,cap,e,Nat.lt_of_lt_of_le hg hb.size,fun i x hi=>(World.cell?_of_block (a:=⟨g,o+i,none⟩) (hb.block g hg)).trans (hx i x hi)⟩
def lookK (K:VK)(T:K.σ)(raws:List ByteArray)(masks:List Int)(a:Int):Array Value:=if atM raws masks a=0 then toldK K T (atS raws masks a) a else Z5W
theorem look_ret (tmps:Array Value)(g:Nat)(w':World)(cs:Array Value)(R:Ending→World→Prop)(h1:tmps.getD 6 undef= .pointer (some ⟨g,0,none⟩))(hg:w'.heap[g]? = some (.cells cs 125 (0,0)))(hs:cs.size=10)(hR:R (.returned (.agg cs)) w') :
  bodyPost prog Tryz.f92 R .ret { tmps:=tmps,defers:= []} w' :=
 bodyPost_ret (v:= .agg cs) (results_cell_row Tryz.results92 tmps w' g 125 cs (0,0) _ h1 hg underlying125 rfl (by rw [hs];kernel_rfl)) rfl hR
theorem klook_any (K:VK)(HK:VKOk K)(F:Nat→Prop)(T:K.σ)(hl:K.room T 0)(oa ob:Option Addr)(ca cb:Nat)(raws:List ByteArray)(masks:List Int)(a:Int)(w:World)(hp:K.lies w F T)(h1:Z27 Value.string w (.slice oa raws.length ca) raws)(h2:Z27 (Value.int .i64) w (.slice ob masks.length cb) masks) :
  Calls prog 92 #[K.v,.agg #[.slice oa raws.length ca,.slice ob masks.length cb],.int .i64 a] w fun e w'=>e= .returned (.agg (lookK K T raws masks a))∧Below w.heap.size w w':=by
 obtain⟨w0,f⟩:∃ w0,(w.alloc (.cells #[.slice oa raws.length ca,.slice ob masks.length cb] 131)).alloc (.cells #[.bool false,.int .i64 0,.int .i64 0,.int .i64 0,.int .i64 0,.int .i64 0,.int .i64 0,.int .i64 0,.int .i64 0,.string ⟨#[]⟩] 125)=w0:=⟨_,rfl⟩
 have s:(w.alloc (.cells #[.slice oa raws.length ca,.slice ob masks.length cb] 131)).heap.size=w.heap.size+1:=by simp
 have l:w0.heap[w.heap.size+1]? = some (.cells #[.bool false,.int .i64 0,.int .i64 0,.int .i64 0,.int .i64 0,.int .i64 0,.int .i64 0,.int .i64 0,.int .i64 0,.string ⟨#[]⟩] 125 (0,0)):=by rw [← f,← s];exact heap_alloc_new _ _
 have B:Row w0 w.heap.size 131 [.slice oa raws.length ca,.slice ob masks.length cb]:=by rw [← f];exact (Below.heap_alloc _ _ _ (by rw [s];omega)).trans (heap_alloc_new w _)
 have d:Below w.heap.size w w0:=by rw [← f];exact ((Below.refl _ _).alloc (Nat.le_refl _) _).alloc (by rw [s];omega) _
 have i:=at_any w0 oa ob ca cb raws masks a (h1.below d) (h2.below d)
 have H:=B.cell 0
 have I:=B.cell 1
 have n:Hid (lookK K T raws masks a=if atM raws masks a=0 then toldK K T (atS raws masks a) a else Z5W):=rfl
 have q:Hid (_∧_):=⟨d,HK.below hp d⟩
 have g:Hid _:=f
 have t:Hid (∀ w' cs,Below w.heap.size w w'→Below w.heap.size w (w'.setRow (w.heap.size+1) cs)):=fun w' cs h=>h.trans ⟨rfl,rfl,rfl,by simp [World.setRow],fun k hk=>setRow_other _ _ _ _ (by omega)⟩
 generalize atS raws masks a=r at *
 generalize atM raws masks a=m at *
 generalize lookK K T raws masks a=A at *
 generalize raws.length=rl at *
 generalize masks.length=ml at *
 clear h1 h2 hp d B s f
 by_cases u:m=0
 ·rw [Hid,if_pos u] at n
  subst u
  have b:=fun w h=>HK.told F T r a w hl h
  simp only [toldK] at b
  have p:=toldK_ok K T r a
  rw [← n] at p
  have D:Hid ((if K.oE T r=0∧(K.oH T r).v1=a then Z4d true (K.oH T r) (K.oS T r) else Z5W)=A):=n.symm
  simp only [D.out] at b
  obtain⟨y,C⟩:=p
  clear n D
  go_enter func92,ntmps92
  go_wp2_with fail
  try rw [g.out]
  refine i.mono ?_
  rintro e E ⟨rfl,c⟩
  have o:=(c.block _ (lt_of_block l)).trans l
  have z:Hid (_∧_):=⟨q.out.1.trans (c.mono q.out.1.size),HK.below q.out.2 c⟩
  clear i c l H I g
  go_wp2_with fail
  refine (b _ z.out.2).mono ?_
  rintro e L ⟨rfl,j⟩
  have G:=(j.block _ (lt_of_block o)).trans o
  have x:Hid _:=t.out L A (z.out.1.trans (j.mono z.out.1.size))
  clear b j o t
  go_wp2_with (refine wpList_store_row rfl 125 _ _ rfl (w.heap.size+1) A rfl rfl 125 _ G (by rw [y];kernel_rfl) (by rw [y];rfl) C ?_)
  exact look_ret _ (w.heap.size+1) _ A _ rfl (setRow_heap _ _ _ _ _ _ G) y ⟨rfl,x.out⟩
 ·rw [Hid,if_neg u] at n
  subst n
  simp only [Z5W,Z4d,Hd.zero]
  have J:(m != 0)=true:=bne_iff_ne.2 u
  go_enter func92,ntmps92
  go_wp2_with fail
  try rw [g.out]
  refine i.mono ?_
  rintro e E ⟨rfl,c⟩
  have o:=(c.block _ (lt_of_block l)).trans l
  have x:Hid _:=t.out E #[.bool false,.int .i64 0,.int .i64 0,.int .i64 0,.int .i64 0,.int .i64 0,.int .i64 0,.int .i64 0,.int .i64 0,.string ⟨#[]⟩] (q.out.1.trans (c.mono q.out.1.size))
  clear i c l H I g t
  go_wp2_with (refine wpList_store_row rfl 125 _ _ rfl (w.heap.size+1) #[.bool false,.int .i64 0,.int .i64 0,.int .i64 0,.int .i64 0,.int .i64 0,.int .i64 0,.int .i64 0,.int .i64 0,.string ⟨#[]⟩] rfl rfl 125 _ o (by kernel_rfl) rfl (by simp [Value.oneCell']) ?_)
  exact look_ret _ (w.heap.size+1) _ _ _ rfl (setRow_heap _ _ _ _ _ _ o) rfl ⟨rfl,x.out⟩
def Z3w:List Wt→PS→Int
 | [],S=>Z5s S
 | x :: l,S=>if Z4H S x.at_ x.raw=0 then Z3w l (Z3e S x.at_ x.raw) else Z4H S x.at_ x.raw
def Z2P:List Wt→PS→PS
 | [],S=>Z1X S
 | x :: l,S=>if Z4H S x.at_ x.raw=0 then Z2P l (Z3e S x.at_ x.raw) else Z3e S x.at_ x.raw
theorem putGo_wait (r:ByteArray)(a:Nat):∀ (n j:Nat) (S:PS),(Z4f r a n j S).2.wait.length≤S.wait.length+n∧(Z4f r a n j S).2.kept.length=S.kept.length
 | 0,_,S=>⟨Nat.le_refl _,rfl⟩
 | n+1,j,S=>by
  have h:=writeP_len S ((8*a+j:Nat):Int) (secS r j)
  unfold Z4f
  split
  ·have:=putGo_wait r a n (j+1) (Z1d S ((8*a+j:Nat):Int) (secS r j));omega
  ·simp only;omega
theorem bput_wait (S:PS)(a:Int)(r:ByteArray):(Z3e S a r).wait.length≤S.wait.length+8∧(Z3e S a r).kept.length=S.kept.length:=by
 unfold Z3e
 split
 ·split
  ·exact putGo_wait _ _ _ _ _
  ·exact⟨by omega,rfl⟩
 ·exact⟨by omega,rfl⟩
structure StR (w:World) (F:Nat→Prop) (B:Nat) (l:List Wt) (S:PS) (j:Nat) (wr:World) (T:PS):Prop where
 e:Z3w l S=Z3w (l.drop j) T
 p:Z2P l S=Z2P (l.drop j) T
 plate:Z0d wr (grow F w wr) B T
 touch:Z02 F w wr
 wait:T.wait.length≤S.wait.length+8*j
 err:ErrT wr
theorem ErrT.lt {w:World}(h:ErrT w):3<w.heap.size:=Z0E h
theorem ErrT.touch {w w':World}{F:Nat→Prop}(h:ErrT w)(ht:Z02 F w w')(hF:¬ F 3):ErrT w':=(World.cell?_of_block (a:=⟨3,0,none⟩) (ht.2 _ h.lt hF)).trans h
theorem take_any (v:Value)(l:List Wt)(B:Nat)(F:Nat→Prop)(S:PS)(w:World)(hv:Wts w v l)(ho:l≠[]→Wts.Out v F)(hp:Z0d w F B S)(hw:S.wait.length+8*l.length≤900000)(hg:ErrT w)(hF:¬ F 3) :
  Calls prog 83 #[v,.pointer (some ⟨B,0,none⟩)] w fun e w'=>e= .returned (.int .i64 (Z3w l S))∧Z0d w' (grow F w w') B (Z2P l S)∧Z02 F w w':=by
 obtain⟨oa,ca,rfl⟩:=hv.form
 obtain⟨X,K⟩:∃ X,X=Z3w l S:=⟨_,rfl⟩
 obtain⟨Y,I⟩:∃ Y,Y=Z2P l S:=⟨_,rfl⟩
 rw [← K,← I]
 have H:Hid (_∧_):=⟨K,I⟩
 have g:Hid (_∧_∧_∧_∧_):=⟨hv,ho,hg,hF,hw⟩
 have L:Hid (StR w F B l S 0 w S):=⟨rfl,rfl,hp.mono fun k _ h=> .inl h,Z02.refl _ _,by omega,hg⟩
 have O:l.length≤900000:=by omega
 clear K I hv ho hp hg hF hw
 go_enter func83,ntmps83
 go_wp2_with fail
 go_loopw [10] (fun iv wr=> ∃ (j:Nat) (T:PS),j≤l.length∧iv= .int .i64 (j:Int)∧Hid (StR w F B l S j wr T)) (fun iv _=>l.length-(intOf iv).toNat)
 case atStart=>exact⟨0,S,Nat.zero_le _,rfl,L⟩
 case round =>
  clear L
  obtain⟨j,T,hj,rfl,b⟩:=hrel
  by_cases n:j<l.length
  ·have Q:(j:Int)<l.length:=by omega
   obtain⟨U,o,rfl,D,N⟩:=g.out.1.at (i:=j) n
   have J:=g.out.2.1 (fun h=>by rw [h] at n;simp at n) _ _ _ _ rfl
   obtain⟨P,R⟩:=N.keep (b.out.touch.2 U D J)
   have W:=Nat.lt_of_lt_of_le D b.out.touch.size
   have C:=List.drop_eq_getElem_cons n
   have u:Hid (X=Z3w (l[j] :: l.drop (j+1)) T∧Y=Z2P (l[j] :: l.drop (j+1)) T):=by rw [← C,H.out.1,H.out.2];exact⟨b.out.e,b.out.p⟩
   have m:Hid (Z3w l S=Z3w (l[j] :: l.drop (j+1)) T∧Z2P l S=Z2P (l[j] :: l.drop (j+1)) T):=by rw [← C];exact⟨b.out.e,b.out.p⟩
   clear N C
   generalize l[j]=x at *
   obtain⟨a,r⟩:=x
   simp only at P R
   have d:Below wr.heap.size wr (wr.alloc (.cells #[.int .i64 a,.string r] 27)):=(Below.refl _ _).alloc (Nat.le_refl _) _
   have q:=bput_any B (grow F w wr) T a r _ (b.out.plate.below d) (by have:=b.out.wait;have:=g.out.2.2.2.2;omega) (b.out.err.touch (Z02.of_below d (F:=F)) g.out.2.2.2.1) (fun h=>by
    rcases h with h | h
    ·exact g.out.2.2.2.1 h
    ·have:=g.out.2.2.1.lt;omega)
   have Z:=bput_wait T a r
   go_wp2_with fail
   refine q.mono ?_
   rintro e t ⟨rfl,f,c⟩
   clear q
   have E:=b.out.touch.trans (Z02.trans (Z02.of_below d) (c.mono fun k h=> .inl h))
   have G:Z0d t (grow F w t) B (Z3e T a r):=f.mono fun k hk h=>by
    rcases h with h | h
    ·rcases h with h | h
     ·exact .inl h
     ·exact .inr ⟨h.1,by have:=d.size;have:=c.size;omega⟩
    ·exact .inr ⟨by have:=b.out.touch.size;have:=d.size;omega,hk⟩
   have A:Hid (_∧_):=⟨E,G⟩
   clear f c E G d
   by_cases z:Z4H T a r=0
   ·have s:Hid (StR w F B l S (j+1) t (Z3e T a r)):=⟨by rw [m.out.1,Z3w,if_pos z],by rw [m.out.2,Z2P,if_pos z],A.out.2,A.out.1,by have:=b.out.wait;omega,g.out.2.2.1.touch A.out.1 g.out.2.2.2.1⟩
    rw [z]
    clear u m A
    go_wp2
    go_roundw
    case rel=>exact⟨j+1,_,by omega,by go_num,s⟩
    case measure=>simp [intOf];omega
   ·have s:Hid (X=Z4H T a r∧Y=Z3e T a r):=by rw [u.out.1,u.out.2,Z3w,Z2P,if_neg z,if_neg z];exact⟨rfl,rfl⟩
    have V:(Z4H T a r != 0)=true:=by simpa using z
    clear u m
    generalize Z4H T a r=y at *
    go_wp2
    go_ret
    exact⟨by rw [s.out.1];rfl,by rw [s.out.2];exact A.out.2,A.out.1⟩
  ·have Q:¬ (j:Int)<l.length:=by omega
   have C:l.drop j= []:=List.drop_eq_nil_of_le (by omega)
   have u:Hid (X=Z5s T∧Y=Z1X T):=by
    have e:=b.out.e
    have p:=b.out.p
    rw [C] at e p
    rw [H.out.1,H.out.2,e,p]
    exact⟨rfl,rfl⟩
   have M:=flush_any B (grow F w wr) T wr b.out.plate (by have:=b.out.wait;have:=g.out.2.2.2.2;omega)
   clear C
   go_wp2_with fail
   refine M.mono ?_
   rintro e t ⟨rfl,f,c⟩
   have s:Hid (Z0d t (grow F w t) B Y∧Z02 F w t):=⟨by
    rw [u.out.2]
    exact f.mono fun k hk h=>by
     rcases h with h | h
     ·exact .inl h
     ·exact .inr ⟨h.1,hk⟩,b.out.touch.trans c⟩
   rw [← u.out.1]
   clear M f c
   go_wp2
   go_ret
   exact⟨rfl,s.out.1,s.out.2⟩
def Stb (base:Nat)(P:World→Prop):Prop:= ∀ w1 w2,P w1→Below base w1 w2→P w2
def VOut (K:VK)(F:Nat→Prop)(w:World)(S:K.σ)(w':World):Prop:=K.lies w' (fun k=>F k∧k<w.heap.size) S∧Z02 F w w'
theorem VOut.stb {K:VK}(HK:VKOk K){F:Nat→Prop}{w:World}{S:K.σ}:Stb w.heap.size (VOut K F w S):=fun _ _ h hb=>⟨HK.keep h.1 fun k _ hF=>hb.block k hF.2,h.2.1.trans (hb.mono (Nat.zero_le _)),fun k hk hn=>(hb.block k hk).trans (h.2.2 k hk hn)⟩
theorem VOut.lies {K:VK}(HK:VKOk K){F:Nat→Prop}{w w':World}{S:K.σ}(h:VOut K F w S w'):K.lies w' F S:=HK.mono h.1 fun _ _ hF=>hF.1
theorem VOut.start {K:VK}(HK:VKOk K){F:Nat→Prop}{w w':World}{S:K.σ}(h:K.lies w F S)(hb:Below w.heap.size w w'):VOut K F w S w':=⟨HK.below (HK.mono h fun _ hk hF=>⟨hF,hk⟩) hb,Z02.of_below hb⟩
def Kept (base:Nat)(w' w'':World):Prop:= ∀ k,base≤k→k<w'.heap.size→w''.heap[k]? = w'.heap[k]?
theorem VOut.seal_ {K:VK}(HK:VKOk K){F:Nat→Prop}{S:K.σ}(h:Hd)(s:ByteArray){w w':World}(hr:K.room S 1)(hl:VOut K F w S w') :
  Calls prog 13 #[K.v,.agg h.arr,.string s] w' fun e w''=>e= .returned (.tuple #[.string (K.sS S h s),.int .i64 (Z0p h s)])∧VOut K F w (K.sP S h s) w''∧Kept w.heap.size w' w''∧w'.heap.size≤w''.heap.size :=
 (HK.seal_ _ S h s w' hr hl.1).mono fun e w'' ⟨he,hl2,ht⟩=>⟨he,⟨hl2,hl.2.1.trans ht.1,fun k hk hn=>(ht.2 k (Nat.lt_of_lt_of_le hk hl.2.size) fun hF=>hn hF.1).trans (hl.2.2 k hk hn)⟩,fun k hk hk2=>ht.2 k hk2 fun hF=>by omega,ht.size⟩
theorem VOut.hash {K:VK}(HK:VKOk K){F:Nat→Prop}{S:K.σ}(s:ByteArray){w w':World}(hs:s.size≤1000000)(hr:K.room S 1)(hl:VOut K F w S w') :
  Calls prog 87 #[K.v,.string s] w' fun e w''=>e= .returned (.string (K.hS S s))∧VOut K F w (K.hP S s) w''∧Kept w.heap.size w' w''∧w'.heap.size≤w''.heap.size :=
 (HK.hash _ S s w' hs hr hl.1).mono fun e w'' ⟨he,hl2,ht⟩=>⟨he,⟨hl2,hl.2.1.trans ht.1,fun k hk hn=>(ht.2 k (Nat.lt_of_lt_of_le hk hl.2.size) fun hF=>hn hF.1).trans (hl.2.2 k hk hn)⟩,fun k hk hk2=>ht.2 k hk2 fun hF=>by omega,ht.size⟩
structure DuoAt (K:VK) (w:World) (F F1 F2:Nat→Prop) (B:Nat) (P:PS) (S:K.σ):Prop where
 plate:Z0d w F1 B P
 vault:K.lies w F2 S
 apart:∀ k,F1 k→¬ F2 k
 in1:∀ k,F1 k→F k
 in2:∀ k,F2 k→F k
 lt:∀ k,F k→k<w.heap.size
def Duo (K:VK)(w:World)(F:Nat→Prop)(B:Nat)(P:PS)(S:K.σ):Prop:= ∃ F1 F2,DuoAt K w F F1 F2 B P S
theorem Duo.lt {K:VK}{w:World}{F:Nat→Prop}{B:Nat}{P:PS}{S:K.σ}(h:Duo K w F B P S):∀ k,F k→k<w.heap.size:=by
 obtain⟨a,b,h⟩:=h
 exact h.lt
theorem Duo.keep {K:VK}(HK:VKOk K){w w':World}{F:Nat→Prop}{B:Nat}{P:PS}{S:K.σ}(h:Duo K w F B P S)(hs:w.heap.size≤w'.heap.size)(hk:∀ k,k<w.heap.size→F k→w'.heap[k]? = w.heap[k]?):Duo K w' F B P S:=by
 obtain⟨a,b,h⟩:=h
 exact⟨a,b,h.plate.keep fun k hk1 hF=>hk k hk1 (h.in1 k hF),HK.keep h.vault fun k hk1 hF=>hk k hk1 (h.in2 k hF),h.apart,h.in1,h.in2,fun k hF=>Nat.lt_of_lt_of_le (h.lt k hF) hs⟩
theorem Duo.below {K:VK}(HK:VKOk K){w w':World}{F:Nat→Prop}{B:Nat}{P:PS}{S:K.σ}(h:Duo K w F B P S)(hb:Below w.heap.size w w'):Duo K w' F B P S:=h.keep HK hb.size fun k hk _=>hb.block k hk
theorem Duo.mono {K:VK}{w:World}{F F':Nat→Prop}{B:Nat}{P:PS}{S:K.σ}(h:Duo K w F B P S)(hF:∀ k,F k→F' k)(hl:∀ k,F' k→k<w.heap.size):Duo K w F' B P S:=by
 obtain⟨a,b,h⟩:=h
 exact⟨a,b,h.plate,h.vault,h.apart,fun k hk=>hF k (h.in1 k hk),fun k hk=>hF k (h.in2 k hk),hl⟩
theorem Duo.up {K:VK}{w:World}{F:Nat→Prop}{B:Nat}{P:PS}{S:K.σ}(h:Duo K w F B P S):Calls prog 49 #[.pointer (some ⟨B,0,none⟩)] w fun e w'=>e= .returned (.bool P.up)∧w'=w:=by
 obtain⟨a,b,h⟩:=h
 exact up_any B a P w h.plate
theorem Duo.sectors {K:VK}{w:World}{F:Nat→Prop}{B:Nat}{P:PS}{S:K.σ}(h:Duo K w F B P S):Calls prog 85 #[.pointer (some ⟨B,0,none⟩)] w fun e w'=>e= .returned (.int .i64 (P.kept.length:Nat))∧w'=w:=by
 obtain⟨a,b,h⟩:=h
 exact Z7r B a P w h.plate
theorem Duo.plateC {K:VK}(HK:VKOk K){w:World}{F:Nat→Prop}{B:Nat}{P:PS}{S:K.σ}(h:Duo K w F B P S){f:FuncId}{args:Array Value}{E:Ending→Prop}{P':PS}
  (hc:∀ F1,Z0d w F1 B P→(∀ k,F1 k→F k)→Calls prog f args w fun e w'=>E e∧Z0d w' (grow F1 w w') B P'∧Z02 F1 w w') :
  Calls prog f args w fun e w'=>E e∧Duo K w' (grow F w w') B P' S∧Z02 F w w':=by
 obtain⟨F1,a,h⟩:=h
 refine (hc F1 h.plate h.in1).mono fun e w' ⟨he,hp,ht⟩=>⟨he,⟨grow F1 w w',a,hp,HK.keep h.vault fun k hk hF=>ht.2 k hk fun h1=>h.apart k h1 hF,fun k h1 h2=> ?_,fun k h1=> ?_,fun k h2=> .inl (h.in2 k h2),fun k hF=> ?_⟩,ht.mono h.in1⟩
 ·rcases h1 with h1 | h1
  ·exact h.apart k h1 h2
  ·have:=h.lt k (h.in2 k h2);omega
 ·rcases h1 with h1 | h1
  ·exact .inl (h.in1 k h1)
  ·exact .inr h1
 ·rcases hF with hF | hF
  ·exact Nat.lt_of_lt_of_le (h.lt k hF) ht.size
  ·exact hF.2
theorem Duo.vaultC {K:VK}{w:World}{F:Nat→Prop}{B:Nat}{P:PS}{S:K.σ}(h:Duo K w F B P S){f:FuncId}{args:Array Value}{E:Ending→Prop}{S':K.σ}
  (hc:∀ F2,K.lies w F2 S→(∀ k,F2 k→F k)→Calls prog f args w fun e w'=>E e∧K.lies w' F2 S'∧Z02 F2 w w') :
  Calls prog f args w fun e w'=>E e∧Duo K w' F B P S'∧Z02 F w w':=by
 obtain⟨a,F2,h⟩:=h
 exact (hc F2 h.vault h.in2).mono fun e w' ⟨he,hp,ht⟩=>⟨he,⟨a,F2,h.plate.keep fun k hk hF=>ht.2 k hk (h.apart k hF),hp,h.apart,h.in1,h.in2,fun k hF=>Nat.lt_of_lt_of_le (h.lt k hF) ht.size⟩,ht.mono h.in2⟩
theorem Duo.lookC {K:VK}{w:World}{F:Nat→Prop}{B:Nat}{P:PS}{S:K.σ}(h:Duo K w F B P S){Q:Prop}(hc:∀ F2,K.lies w F2 S→Q):Q:=by
 obtain⟨a,F2,h⟩:=h
 exact hc F2 h.vault
def folE:List (List Wt)→PS→Int
 | [],_=>0
 | l :: r,S=>if Z3w l S=0 then folE r (Z2P l S) else Z3w l S
def folP:List (List Wt)→PS→PS
 | [],S=>S
 | l :: r,S=>if Z3w l S=0 then folP r (Z2P l S) else Z2P l S
def stopV (k:Int)(y:Int):Value:= .iface 182 (.agg #[.int .i64 k,.int .i64 y])
def Z86 (ls:List (List Wt)):Nat:=(ls.map List.length).sum
theorem flush_wait (S:PS):(Z1X S).wait.length≤S.wait.length:=by
 unfold Z1X
 split
 ·simp [Z3m]
 ·exact Nat.le_refl _
theorem take_wait:∀ (l:List Wt) (S:PS),(Z2P l S).wait.length≤S.wait.length+8*l.length
 | [],S=>by have:=flush_wait S;unfold Z2P;simpa using this
 | x :: l,S=>by
  have h:=(bput_wait S x.at_ x.raw).1
  unfold Z2P
  split
  ·have:=take_wait l (Z3e S x.at_ x.raw);rw [List.length_cons];omega
  ·rw [List.length_cons];omega
theorem Wts.touch2 {w w':World}{v:Value}{l:List Wt}{F:Nat→Prop}(h:Wts w v l)(ht:Z02 F w w')(ho:l≠[]→Wts.Out v F):Wts w' v l:=by
 by_cases b:l= []
 ·obtain⟨c,a,rfl⟩:=h.form
  subst b
  exact .inl ⟨c,a,rfl,rfl⟩
 ·exact h.touch ht (ho b)
structure Steps (w:World) (F:Nat→Prop) (g o:Nat) (ls:List (List Wt)):Prop where
 lt:g<w.heap.size
 out:¬ F g
 el:∀ i l,ls[i]? = some l→∃ u,w.cell? ⟨g,o+i,none⟩=some u∧Wts w u l∧(l≠[]→Wts.Out u F)
theorem Steps.touch {w w':World}{F:Nat→Prop}{g o:Nat}{ls:List (List Wt)}(h:Steps w F g o ls)(ht:Z02 F w w'):Steps w' F g o ls :=
 ⟨Nat.lt_of_lt_of_le h.lt ht.size,h.out,fun i l hl=>by
  obtain⟨u,h1,h2,h3⟩:=h.el i l hl
  exact⟨u,(World.cell?_of_block (a:=⟨g,o+i,none⟩) (ht.2 g h.lt h.out)).trans h1,h2.touch2 ht h3,h3⟩⟩
theorem Wts.out_grow {w w':World}{v:Value}{l:List Wt}{F:Nat→Prop}(h:Wts w v l)(ho:l≠[]→Wts.Out v F)(hl:l≠[]):Wts.Out v (grow F w w'):=by
 rcases h with ⟨_,_,_,h⟩ | ⟨g,o,cap,e,hg,hx⟩
 ·exact absurd h hl
 ·intro j i d c a b
  have f:=a
  rw [e] at a
  simp only [Value.slice.injEq,Option.some.injEq,Addr.mk.injEq] at a
  obtain⟨⟨rfl,_⟩,_⟩:=a
  rcases b with b | b
  ·exact ho hl _ _ _ _ e b
  ·omega
def RetV (X:Int)(v:Value):Prop:=(v= .nilIface∧X=0)∨∃ k,¬ X=0∧v=stopV k X
structure FoR (w:World) (F:Nat→Prop) (B:Nat) (ls:List (List Wt)) (S:PS) (j:Nat) (wr:World) (T:PS):Prop where
 e:folE ls S=folE (ls.drop j) T
 p:folP ls S=folP (ls.drop j) T
 plate:Z0d wr (grow F w wr) B T
 touch:Z02 F w wr
 wait:T.wait.length+8*Z86 (ls.drop j)≤900000
theorem total_drop {ls:List (List Wt)}{j:Nat}(h:j<ls.length):Z86 (ls.drop j)=ls[j].length+Z86 (ls.drop (j+1)):=by
 unfold Z86
 rw [List.drop_eq_getElem_cons h,List.map_cons,List.sum_cons]
theorem follow_any (g o cap:Nat)(ls:List (List Wt))(B:Nat)(F:Nat→Prop)(S:PS)(w:World)(hv:Steps w F g o ls)(hls:ls.length≤1000)(hp:Z0d w F B S)(hw:S.wait.length+8*Z86 ls≤900000)(hg:ErrT w)(hF:¬ F 3) :
  Calls prog 44 #[.pointer (some ⟨B,0,none⟩),.slice (some ⟨g,o,none⟩) ls.length cap] w fun e w'=>(∃ v,e= .returned v∧RetV (folE ls S) v)∧Z0d w' (grow F w w') B (folP ls S)∧Z02 F w w':=by
 obtain⟨X,J⟩:∃ X,X=folE ls S:=⟨_,rfl⟩
 obtain⟨Y,H⟩:∃ Y,Y=folP ls S:=⟨_,rfl⟩
 rw [← J,← H]
 have E:Hid (X=folE ls S∧Y=folP ls S):=⟨J,H⟩
 have d:Hid (Steps w F g o ls∧ErrT w∧¬ F 3):=⟨hv,hg,hF⟩
 have N:Hid (FoR w F B ls S 0 w S):=⟨rfl,rfl,hp.mono fun k _ h=> .inl h,Z02.refl _ _,hw⟩
 clear J H hv hp hg hF hw
 go_enter func44,ntmps44
 go_wp2_with fail
 go_loopw [10] (fun iv wr=> ∃ (j:Nat) (T:PS),j≤ls.length∧iv= .int .i64 (j:Int)∧Hid (FoR w F B ls S j wr T)) (fun iv _=>ls.length-(intOf iv).toNat)
 case atStart=>exact⟨0,S,Nat.zero_le _,rfl,N⟩
 case round =>
  clear N
  obtain⟨j,T,W,rfl,b⟩:=hrel
  by_cases f:j<ls.length
  ·have Q:(j:Int)<ls.length:=by omega
   obtain⟨u,P,O,K⟩:=(d.out.1.touch b.out.touch).el j _ (List.getElem?_eq_getElem f)
   have V:=(d.out.1.touch b.out.touch).lt
   have z:ls.drop j=ls[j] :: ls.drop (j+1):=List.drop_eq_getElem_cons f
   have x:=total_drop f
   have i:Hid ((X=folE (ls[j] :: ls.drop (j+1)) T∧Y=folP (ls[j] :: ls.drop (j+1)) T)∧folE ls S=folE (ls[j] :: ls.drop (j+1)) T∧folP ls S=folP (ls[j] :: ls.drop (j+1)) T):=by rw [← z,E.out.1,E.out.2];exact⟨⟨b.out.e,b.out.p⟩,b.out.e,b.out.p⟩
   have M:Hid (T.wait.length+8*(ls[j].length+Z86 (ls.drop (j+1)))≤900000):=by rw [← x];exact b.out.wait
   clear z x
   obtain⟨L,r,C,m⟩:=d.out.1.el j _ (List.getElem?_eq_getElem f)
   have I:L=u:=by
    have:=(World.cell?_of_block (a:=⟨g,o+j,none⟩) (b.out.touch.2 g d.out.1.lt d.out.1.out)).trans r
    rw [P] at this
    exact (Option.some.inj this).symm
   subst I
   have D:¬ grow F w wr 3:=fun h=>by
    rcases h with h | h
    ·exact d.out.2.2 h
    ·have:=d.out.2.1.lt;omega
   have c:Calls prog 83 #[L,.pointer (some ⟨B,0,none⟩)] wr fun e w'=>e= .returned (.int .i64 (Z3w ls[j] T))∧Z0d w' (grow (grow F w wr) wr w') B (Z2P ls[j] T)∧Z02 (grow F w wr) wr w':=by
    exact take_any L _ B _ T wr O (fun hl=>C.out_grow m hl) b.out.plate (by have:=M.out;omega) (d.out.2.1.touch b.out.touch d.out.2.2) D
   clear O K r C m D
   have R:=take_wait ls[j] T
   generalize ls[j]=l at *
   go_wp2_with fail
   refine c.mono ?_
   rintro e G ⟨rfl,A,s⟩
   clear c
   have t:Hid (Z02 F w G∧Z0d G (grow F w G) B (Z2P l T)):=⟨b.out.touch.trans s,A.mono fun k hk h=>by
    rcases h with h | h
    ·rcases h with h | h
     ·exact .inl h
     ·exact .inr ⟨h.1,hk⟩
    ·exact .inr ⟨by have:=b.out.touch.size;omega,hk⟩⟩
   clear A s
   by_cases n:Z3w l T=0
   ·have q:Hid (FoR w F B ls S (j+1) G (Z2P l T)):=⟨by rw [i.out.2.1,folE,if_pos n],by rw [i.out.2.2,folP,if_pos n],t.out.2,t.out.1,by have:=M.out;omega⟩
    rw [n]
    clear i t
    go_wp2
    go_roundw
    case rel=>exact⟨j+1,_,by omega,by go_num,q⟩
    case measure=>simp [intOf];omega
   ·have q:Hid (X=Z3w l T∧Y=Z2P l T∧¬ X=0):=by rw [i.out.1.1,i.out.1.2,folE,folP,if_neg n,if_neg n];exact⟨rfl,rfl,n⟩
    have U:(Z3w l T != 0)=true:=by simpa using n
    clear i
    generalize Z3w l T=y at *
    go_wp2
    go_ret
    exact⟨⟨_,rfl,.inr ⟨(j:Int),q.out.2.2,by rw [q.out.1];rfl⟩⟩,by rw [q.out.2.1];exact t.out.2,t.out.1⟩
  ·have Q:¬ (j:Int)<ls.length:=by omega
   have z:ls.drop j= []:=List.drop_eq_nil_of_le (by omega)
   have i:Hid (X=0∧Y=T):=by
    have e:=b.out.e
    have p:=b.out.p
    rw [z] at e p
    rw [E.out.1,E.out.2,e,p]
    exact⟨rfl,rfl⟩
   clear z
   go_wp2
   go_ret
   exact⟨⟨_,rfl,.inl ⟨rfl,i.out.1⟩⟩,by rw [i.out.2];exact b.out.plate,b.out.touch⟩
section
open Go.RowKit Go.Extern.Stop Go.Stop Go.Extern
theorem is_typeOf (v:Value)(w:World):(ReflectliteType.typeOf #[.iface 28 v]).run prog w= .ok (.iface 241 (.agg #[.pointer (some ⟨6,28,none⟩)])) w:=by kernel_rfl
theorem is_comparable (w:World):((ReflectliteType.method fun t=>do Rtype.noPackHeld "Comparable" t;pure (.bool (← typeInfo t).comparable)) #[.agg #[.pointer (some ⟨6,28,none⟩)]]).run prog w= .ok (.bool true) w:=by kernel_rfl
theorem Z6a (w:World):(callFunc 273 #[.agg #[.pointer (some ⟨6,28,none⟩)]]).run prog w= .ok (.value (.bool true)) w:=by
 rw [@run_callFunc_extern prog 273 _ (ReflectliteType.method fun t=>do Rtype.noPackHeld "Comparable" t;pure (.bool (← typeInfo t).comparable)) func273 (by kernel_rfl) (by kernel_rfl) (by kernel_rfl) (by kernel_rfl),is_comparable]
 rfl
theorem is_method (v:Value)(w:World):(Go.method 489 241 v "Comparable").run prog w= .ok (273,v) w:=by kernel_rfl
theorem is_comp:(prog.info? 28).map (·.comparable)=some true:=by kernel_rfl
theorem is_noIsS (v:Value)(xT:TypeId)(w:World):(Instr.typeAssert (.iface 182 v) xT 243 true).run prog w= .ok (.tuple #[.nilIface,.bool false]) w:=run_typeAssert_lacksB underlying243 (by kernel_rfl) (by kernel_rfl) v xT w
theorem is_hasS (v:Value)(xT:TypeId)(w:World):(Instr.typeAssert (.iface 182 v) xT 246 true).run prog w= .ok (.tuple #[.iface 182 v,.bool true]) w:=run_typeAssert_hasB underlying246 (by kernel_rfl) v xT w
theorem is_noIsE (v:Value)(xT:TypeId)(w:World):(Instr.typeAssert (.iface 28 v) xT 243 true).run prog w= .ok (.tuple #[.nilIface,.bool false]) w:=run_typeAssert_lacksB underlying243 (by kernel_rfl) (by kernel_rfl) v xT w
theorem is_noUnE (v:Value)(xT:TypeId)(w:World):(Instr.typeAssert (.iface 28 v) xT 246 true).run prog w= .ok (.tuple #[.nilIface,.bool false]) w:=run_typeAssert_lacksB underlying246 (by kernel_rfl) (by kernel_rfl) v xT w
theorem is_noUnsE (v:Value)(xT:TypeId)(w:World):(Instr.typeAssert (.iface 28 v) xT 248 true).run prog w= .ok (.tuple #[.nilIface,.bool false]) w:=run_typeAssert_lacksB underlying248 (by kernel_rfl) (by kernel_rfl) v xT w
theorem Z87 (x y:Int)(w:World):(Go.method 489 182 (.agg #[.int .i64 x,.int .i64 y]) "Unwrap").run prog w= .ok (270,.agg #[.int .i64 x,.int .i64 y]) w:=by kernel_rfl
theorem junwrap_any (x y:Int)(w:World):Calls prog 270 #[.agg #[.int .i64 x,.int .i64 y]] w fun e w'=>e= .returned (.iface 28 (.int .i64 y))∧w'=w.alloc (.cells #[.int .i64 x,.int .i64 y] 182):=by
 go_enter func270,ntmps270
 go_wp2
 go_ret
 exact⟨rfl,rfl⟩
theorem is_in (x y:Int)(w:World) :
  Calls prog 114 #[.iface 182 (.agg #[.int .i64 x,.int .i64 y]),.iface 28 (.int .i64 20),.bool true] w fun e w'=>e= .returned (.bool (y==20))∧w'=w.alloc (.cells #[.int .i64 x,.int .i64 y] 182):=by
 have h:=is_noIsS
 have i:=is_hasS
 have j:=is_noIsE
 have g:=is_noUnE
 have c:=is_noUnsE
 have f:=Z87
 have a:=run_eql_iface_types (P:=prog) 182 28 (.agg #[.int .i64 x,.int .i64 y]) (.int .i64 20) underlying113 (by decide)
 have b:=fun W:World=>Go.Lib.run_eql_iface_int (P:=prog) W (k:= .i64) y 20 underlying113 is_comp underlying28
 go_enter func114,ntmps114
 go_wp2_with fail
 refine wp_loop_rounds 2 ?_
 rw [rounds_succ]
 go_wp2_with fail
 refine (junwrap_any x y _).mono ?_
 rintro e d ⟨rfl,rfl⟩
 cases hy:(y==20) with
 | true =>
  go_wp2_with fail
  rw [rounds_succ]
  go_wp2
  go_ret
  exact⟨by rw [hy];rfl,rfl⟩
 | false =>
  go_wp2_with fail
  rw [rounds_succ]
  go_wp2
  go_ret
  exact⟨by rw [hy];rfl,rfl⟩
theorem is_any (x y:Int)(w:World) :
  Calls prog 82 #[.iface 182 (.agg #[.int .i64 x,.int .i64 y]),.iface 28 (.int .i64 20)] w fun e w'=>e= .returned (.bool (y==20))∧w'=w.alloc (.cells #[.int .i64 x,.int .i64 y] 182):=by
 have d:= @run_callFunc_extern prog 113 _ ReflectliteType.typeOf func113 (by kernel_rfl) (by kernel_rfl) (by kernel_rfl) (by kernel_rfl)
 have b:=Z6a
 have g:=is_typeOf
 have f:=is_method
 have a:=is_in x y
 generalize (y==20)=q at *
 go_enter func82,ntmps82
 go_wp2_with fail
 refine (a _).mono ?_
 rintro e c ⟨rfl,rfl⟩
 go_wp2
 go_ret
 exact⟨rfl,rfl⟩
def ansE (y:Int):Int:=if y=0 then 0 else if y=20 then 20 else 1
theorem answer_any (X:Int)(v:Value)(hv:RetV X v)(w:World) :
  Calls prog 43 #[v] w fun e w'=>e= .returned (.int .i64 (ansE X))∧Below w.heap.size w w':=by
 unfold ansE
 rcases hv with ⟨rfl,rfl⟩ | ⟨k,hX,rfl⟩
 ·rw [if_pos rfl]
  go_enter func43,ntmps43
  go_wp2
  go_ret
  exact⟨rfl,Below.refl _ _⟩
 ·rw [if_neg hX]
  have b:=is_any k X
  unfold stopV
  by_cases a:X=20
  ·rw [if_pos a]
   rw [show (X==20)=true by simp [a]] at b
   clear hX a
   go_enter func43,ntmps43
   go_wp2_with fail
   refine (b _).mono ?_
   rintro e c ⟨rfl,rfl⟩
   go_wp2
   go_ret
   exact⟨rfl,(Below.refl _ _).alloc (Nat.le_refl _) _⟩
  ·rw [if_neg a]
   rw [show (X==20)=false by simp [a]] at b
   clear hX a
   go_enter func43,ntmps43
   go_wp2_with fail
   refine (b _).mono ?_
   rintro e c ⟨rfl,rfl⟩
   go_wp2
   go_ret
   exact⟨rfl,(Below.refl _ _).alloc (Nat.le_refl _) _⟩
end
structure Fine (S:PS) (n:Nat):Prop where
 up:S.up=true
 fuse:S.fuse= -1
 len:S.kept.length=n
structure Seen (S:PS) (a:Nat) (r:ByteArray):Prop where
 lt:8*a+8≤S.kept.length
 sec:∀ i,i<8→(Z1q S.wait (8*a+i)).or S.kept[8*a+i]? = some (secS r i)
theorem Fine.alike {S S':PS}{n:Nat}(h:Fine S n)(k:Z4L S S'):Fine S' n:=⟨k.1.trans h.up,k.2.2.2.trans h.fuse,by rw [k.2.1];exact h.len⟩
theorem Seen.alike {S S':PS}{a:Nat}{r:ByteArray}(h:Seen S a r)(k:Z4L S S'):Seen S' a r:=⟨by rw [k.2.1];exact h.lt,fun i hi=>by rw [k.2.2.1,k.2.1];exact h.sec i hi⟩
theorem Z6y (r:ByteArray)(a b:Nat)(h:a≠b):∀ (n j i:Nat),j+n≤8→i<8→Z1q (Z6d r b j n) (8*a+i)=none
 | 0,j,i,_,_=>rfl
 | n+1,j,i,hj,hi=>by
  rw [show Z6d r b j (n+1)= [(8*b+j,secS r j)]++Z6d r b (j+1) n from rfl,Z2S,Z6y r a b h n (j+1) i (by omega) hi]
  simp [Z1q,Z3P]
  omega
theorem put_fine {S:PS}{n:Nat}{r:ByteArray}{a:Nat}(h:Fine S n)(hr:r.size=512)(ha:8*a+8≤n) :
  Z4H S (a:Int) r=0∧Fine (Z3e S (a:Int) r) n∧Seen (Z3e S (a:Int) r) a r∧∀ b x,b≠a→Seen S b x→Seen (Z3e S (a:Int) r) b x:=by
 have j:=h.len
 have f:Z5q S (a:Int)=true:=by simp [Z5q,j];omega
 obtain⟨k,e⟩:=putGo_all r a hr 8 0 S (by omega) h.up h.fuse (by omega)
 have c:Z3e S (a:Int) r= { S with writes:=k,wait:=S.wait++Z6d r a 0 8 }:=by
  unfold Z3e
  rw [if_pos hr,if_pos f,Int.toNat_natCast,e]
 refine⟨?_,?_,?_,?_⟩
 ·unfold Z4H
  rw [if_pos hr,if_pos f,Int.toNat_natCast,e]
 ·rw [c]
  exact⟨h.up,h.fuse,h.len⟩
 ·rw [c]
  refine⟨by show 8*a+8≤S.kept.length;omega,fun i hi=> ?_⟩
  show (Z1q (S.wait++Z6d r a 0 8) (8*a+i)).or S.kept[8*a+i]? = _
  rw [Z2S,Z89,if_pos (by omega)]
  rfl
 ·intro b x g d
  rw [c]
  refine⟨d.lt,fun i hi=> ?_⟩
  show (Z1q (S.wait++Z6d r a 0 8) (8*b+i)).or S.kept[8*b+i]? = _
  rw [Z2S,Z6y r b a g 8 0 i (by omega) hi]
  exact d.sec i hi
theorem flush_fine {S:PS}{n:Nat}(h:Fine S n):Z5s S=0∧Fine (Z1X S) n∧(Z1X S).wait= []∧∀ b x,Seen S b x→Seen (Z1X S) b x:=by
 have e:Z1X S=Z3m (fun _=>true) S:=by unfold Z1X;rw [if_pos h.up]
 refine⟨by unfold Z5s;rw [if_pos h.up],?_,by rw [e];rfl,fun b x hx=> ?_⟩
 ·rw [e]
  exact⟨h.up,h.fuse,(Z1e _ _ _ _).trans h.len⟩
 ·have g:(Z1X S).kept.length=S.kept.length:=by rw [e];exact Z1e _ _ _ _
  refine⟨by rw [g];exact hx.lt,fun i hi=> ?_⟩
  have a:8*b+i<S.kept.length:=by have:=hx.lt;omega
  obtain⟨f,_,d,_⟩:=flush_kept S h.up (8*b+i) a
  have c:=hx.sec i hi
  rw [d,f]
  show some _=_
  rw [List.getElem?_eq_getElem a] at c
  cases ht:Z1q S.wait (8*b+i) with
  | none=>rw [ht] at c;exact c
  | some t=>rw [ht] at c;exact c
def Z4p:List Wt→Int→Option ByteArray
 | [],_=>none
 | x :: l,b=>(Z4p l b).or (if x.at_=b then some x.raw else none)
theorem lastW_append (l m:List Wt)(b:Int):Z4p (l++m) b=(Z4p m b).or (Z4p l b):=by
 induction l with
 | nil=>simp [Z4p]
 | cons x l ih =>
  rw [List.cons_append,Z4p,ih,Z4p]
  cases Z4p m b <;> rfl
def SeenL (l:List Wt)(S:PS)(b:Nat)(x:ByteArray):Prop:=match Z4p l b with | some r=>r=x | none=>Seen S b x
structure FitW (n:Nat) (x:Wt):Prop where
 ad:∃ a:Nat,x.at_=(a:Int)∧8*a+8≤n
 size:x.raw.size=512
theorem take_fine:∀ (l:List Wt) {S:PS} {n:Nat},Fine S n→(∀ x∈l,FitW n x)→Z3w l S=0∧Fine (Z2P l S) n∧(Z2P l S).wait= []∧∀ b x,SeenL l S b x→Seen (Z2P l S) b x
 | [],S,n,h,_=>by
  obtain⟨h1,h2,h3,h4⟩:=flush_fine h
  exact⟨h1,h2,h3,fun b x hx=>h4 b x hx⟩
 | y :: l,S,n,h,hf=>by
  obtain⟨⟨a,ea,ha⟩,hr⟩:=hf y (List.mem_cons_self ..)
  obtain⟨p1,p2,p3,p4⟩:=put_fine (r:=y.raw) h hr ha
  obtain⟨q1,q2,q3,q4⟩:=take_fine l p2 fun x hx=>hf x (List.mem_cons_of_mem _ hx)
  unfold Z3w Z2P
  rw [ea,if_pos p1,if_pos p1]
  refine⟨q1,q2,q3,fun b x hx=>q4 b x ?_⟩
  unfold SeenL at hx ⊢
  rw [Z4p,ea] at hx
  cases hl:Z4p l (b:Int) with
  | some r=>rw [hl] at hx;exact hx
  | none =>
   rw [hl] at hx
   show Seen _ b x
   by_cases e:(a:Int)=(b:Int)
   ·rw [if_pos e] at hx
    have hx:y.raw=x:=hx
    have e':a=b:=by omega
    subst e'
    rw [← hx]
    exact p3
   ·rw [if_neg e] at hx
    exact p4 b x (fun h=>e (by rw [h])) hx
theorem Z71:∀ (ls:List (List Wt)) {S:PS} {n:Nat},Fine S n→S.wait= []→(∀ l∈ls,∀ x∈l,FitW n x)→folE ls S=0∧Fine (folP ls S) n∧(folP ls S).wait= []∧∀ b x,SeenL ls.flatten S b x→Seen (folP ls S) b x
 | [],S,n,h,hw,_=>⟨rfl,h,hw,fun b x hx=>hx⟩
 | l :: ls,S,n,h,hw,hf=>by
  obtain⟨p1,p2,p3,p4⟩:=take_fine l h (hf l (List.mem_cons_self ..))
  obtain⟨q1,q2,q3,q4⟩:=Z71 ls p2 p3 fun l' hl=>hf l' (List.mem_cons_of_mem _ hl)
  unfold folE folP
  rw [if_pos p1,if_pos p1]
  refine⟨q1,q2,q3,fun b x hx=>q4 b x ?_⟩
  unfold SeenL at hx ⊢
  rw [List.flatten_cons,lastW_append] at hx
  cases hl:Z4p ls.flatten (b:Int) with
  | some r=>rw [hl] at hx;exact hx
  | none =>
   rw [hl] at hx
   exact p4 b x hx
theorem seen_get {S:PS}{n a:Nat}{r:ByteArray}(h:Fine S n)(hs:Seen S a r)(hr:r.size=512):(bget S (a:Int)).1=(r,0,0):=by
 have g:Z5q S (a:Int)=true:=by have:=hs.lt;simp [Z5q];omega
 unfold bget
 rw [if_pos g,Int.toNat_natCast,getGo_all a r 8 0 S ⟨#[]⟩ 0 fun i _ hi=>by
  have d:8*a+i<S.kept.length:=by have:=hs.lt;omega
  have c:hasB S ((8*a+i:Nat):Int)=true:=by simp [hasB];omega
  have b:=hs.sec i (by omega)
  have e:(secS r i).size=64:=by simp [secS,hr];omega
  unfold Z2G Z2N Z6C Z5p
  rw [if_pos h.up,if_pos c,if_pos h.up,if_pos c]
  simp only [Int.toNat_natCast,c,if_true]
  rcases Option.eq_none_or_eq_some (Z1q S.wait (8*a+i)) with ht | ⟨t,ht⟩
  ·rw [ht] at b
   have b:S.kept[8*a+i]? = some (secS r i):=b
   have f:keptS S ((8*a+i:Nat):Int)=secS r i:=by
    unfold keptS
    rw [Int.toNat_natCast,List.getD_eq_getElem?_getD,b]
    rfl
   simp only [ht,f,e]
   exact⟨rfl,rfl⟩
  ·rw [ht] at b
   have b:some t=some (secS r i):=b
   simp [ht]
   exact Option.some.inj b]
 show ((⟨#[]⟩:ByteArray)++r.extract 0 512,_,_)=_
 rw [← hr,ByteArray.extract_zero_size]
 exact congrArg (fun x=>(x,0,0)) ByteArray.empty_append
theorem Z3b (S:PS)(at_:Int):Z4L S (bget S at_).2:=by
 unfold bget
 split
 ·exact Z59 _ _ _ _ _ _
 ·exact⟨rfl,rfl,rfl,rfl⟩
theorem Z8b (S:PS):∀ j,Z4L S (stA S j)
 | 0=>⟨rfl,rfl,rfl,rfl⟩
 | j+1=>(Z8b S j).trans (Z3b _ _)
theorem seen_at {S:PS}{n a:Nat}{r:ByteArray}(h:Fine S n)(hs:Seen S a r)(hr:r.size=512):atS (Z1C S (S.kept.length/8)) (Z0Z S (S.kept.length/8)) (a:Int)=r∧atM (Z1C S (S.kept.length/8)) (Z0Z S (S.kept.length/8)) (a:Int)=0:=by
 have b:a<S.kept.length/8:=by have:=hs.lt;omega
 have c:=seen_get (h.alike (Z8b S a)) (hs.alike (Z8b S a)) hr
 have f:rawA S a=r:=by unfold rawA;rw [c,if_pos rfl]
 have g:maskA S a=0:=by unfold maskA;rw [c,if_pos rfl];rfl
 have d:(Z1C S (S.kept.length/8)).getD ((a:Int).toNat) ⟨#[]⟩=r:=by
  simp [Z1C,List.getD_eq_getElem?_getD,b,f]
 have i:(Z0Z S (S.kept.length/8)).getD ((a:Int).toNat) 0=0:=by
  simp [Z0Z,List.getD_eq_getElem?_getD,b,g]
 have e:atB (Z1C S (S.kept.length/8)) (Z0Z S (S.kept.length/8)) (a:Int)=true:=by
  unfold atB
  rw [d,Z3Q,Z3o]
  simp [hr]
  omega
 unfold atS atM
 rw [if_pos e,if_pos e]
 exact⟨d,i⟩
end Go.Proofs.YtijpgmkdnemmbaaGreatDoor
