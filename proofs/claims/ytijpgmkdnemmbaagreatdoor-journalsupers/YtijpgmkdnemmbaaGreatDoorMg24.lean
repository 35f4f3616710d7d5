/- Part 24. -/
import Derived.Test.YtijpgmkdnemmbaaGreatDoorMg21
import Derived.Laws.Small
import Derived.BigFrame
set_option maxRecDepth 20000
set_option maxHeartbeats 8000000
open Go.RowKit Go.Proofs.Tryz
namespace Go.Proofs.YtijpgmkdnemmbaaGreatDoor
theorem jpro_ret (tmps:Array Value)(g:Nat)(w':World)(a:Int)(r:ByteArray)(y:Int)(R:Ending→World→Prop)(h1:tmps.getD 6 undef= .pointer (some ⟨g,0,none⟩))(h2:tmps.getD 7 undef= .int .i64 y)(hg:w'.heap[g]? = some (.cells #[.int .i64 a,.string r] 27 (0,0)))(hR:R (.returned (.tuple #[.agg #[.int .i64 a,.string r],.int .i64 y])) w') :
  bodyPost prog Tryz.f50 R .ret { tmps:=tmps,defers:= []} w':=by
 have b:=run_loadVar_row (P:=prog) w' g 27 27 #[.int .i64 a,.string r] (0,0) _ hg underlying27 rfl (by kernel_rfl)
 simp at h1 h2
 exact bodyPost_ret (v:= .tuple #[.agg #[.int .i64 a,.string r],.int .i64 y]) (by simp [results,Tryz.results50,asAddr,b,h1,h2]) rfl hR
theorem jpro_yes (v:Value)(l:List Wt)(oa:Option Addr)(ca:Nat)(a0 a1 a2 a3:Int)(r T C J H B X:ByteArray)(E:Int)(P Q:World→Prop)(w:World)(hP:Stb w.heap.size P)(hQ:Stb w.heap.size Q)(hT:T.size=448)(hC:C.size=2)(hH:H.size=32)
  (hp:∀ w,Calls prog 12 #[.agg #[.int .i64 a0,.int .i64 a1,.int .i64 a2,.int .i64 a3,.string r]] w fun e w'=>e= .returned (.tuple #[.string T,.int .i64 0])∧Below w.heap.size w w')
  (hput:∀ w,Calls prog 67 #[.int .i64 (l.length:Int),.int .i64 2] w fun e w'=>e= .returned (.tuple #[.string C,.int .i64 0])∧Below w.heap.size w w')
  (hj:∀ w',Below w.heap.size w w'→Calls prog 88 #[.slice oa l.length ca] w' fun e w''=>e= .returned (.string J)∧Below w'.heap.size w' w'')
  (hh:∀ w',Below w.heap.size w w'→Calls prog 87 #[v,.string J] w' fun e w''=>e= .returned (.string H)∧Q w''∧Kept w.heap.size w' w''∧w'.heap.size≤w''.heap.size)
  (hpad:∀ w,Calls prog 68 #[.string (C++H++T.extract 0 54),.int .i64 448] w fun e w'=>e= .returned (.tuple #[.string B,.int .i64 0])∧Below w.heap.size w w')
  (hs:∀ w',Q w'→Calls prog 13 #[v,.agg #[.int .i64 a0,.int .i64 2,.int .i64 2,.int .i64 0,.int .i64 0,.int .i64 0,.int .i64 a1,.int .i64 a1],.string B] w' fun e w''=>e= .returned (.tuple #[.string X,.int .i64 E])∧P w''∧Kept w.heap.size w' w''∧w'.heap.size≤w''.heap.size) :
  Calls prog 50 #[v,.slice oa l.length ca,.agg #[.int .i64 a0,.int .i64 a1,.int .i64 a2,.int .i64 a3,.string r]] w fun e w'=>e= .returned (.tuple #[.agg #[.int .i64 (if E=0 then 2 else 0),.string (if E=0 then X else ⟨#[]⟩)],.int .i64 E])∧P w':=by
 have O:(54:Int)≤T.size:=by omega
 have W:(T.extract 0 54).size=54:=by simp [hT]
 go_enter func50,ntmps50
 go_wp2_with fail
 refine (hp _).mono ?_
 rintro e w1 ⟨rfl,hh⟩
 have A:=(hh.block (w.heap.size+1) (by simp)).trans (heap_alloc2_new w _ _)
 have z:=(hh.block w.heap.size (by simp;omega)).trans (heap_alloc2_old w _ _)
 have k:Below w.heap.size w w1:=(((Below.refl _ _).alloc (Nat.le_refl _) _).alloc (by simp) _).trans (hh.mono (by simp;omega))
 clear hp hh
 go_wp2_with fail
 refine (hput _).mono ?_
 rintro e F ⟨rfl,j⟩
 have a:Hid (Below w.heap.size w F∧F.heap[w.heap.size+1]? = some (.cells #[.int .i64 0,.string ⟨#[]⟩] 27 (0,0))∧F.heap[w.heap.size]? = some (.cells #[.int .i64 a0,.int .i64 a1,.int .i64 a2,.int .i64 a3,.string r] 23 (0,0))):=⟨k.trans (j.mono k.size),(j.block _ (lt_of_block A)).trans A,(j.block _ (lt_of_block z)).trans z⟩
 clear hput j z A k
 go_wp2_with fail
 go_region_held3 (fun _=>True) (exact True.intro) (first
  | (go_at_call 88;refine (hj _ a.out.1.drew).mono ?_;rintro e I ⟨rfl,i⟩;have f:Hid (Below w.heap.size w I∧I.heap[w.heap.size+1]? = some (.cells #[.int .i64 0,.string ⟨#[]⟩] 27 (0,0))∧I.heap[w.heap.size]? = some (.cells #[.int .i64 a0,.int .i64 a1,.int .i64 a2,.int .i64 a3,.string r] 23 (0,0))):=⟨a.out.1.drew.trans (i.mono a.out.1.size),(i.block _ (lt_of_block a.out.2.1)).trans a.out.2.1,(i.block _ (lt_of_block a.out.2.2)).trans a.out.2.2⟩;clear i)
  | (go_at_call 87;refine (hh _ f.out.1).mono ?_;rintro e D ⟨rfl,u,m,G⟩;have b:Hid (Q D∧D.heap[w.heap.size+1]? = some (.cells #[.int .i64 0,.string ⟨#[]⟩] 27 (0,0))∧D.heap[w.heap.size]? = some (.cells #[.int .i64 a0,.int .i64 a1,.int .i64 a2,.int .i64 a3,.string r] 23 (0,0))):=⟨u,(m _ (by omega) (lt_of_block f.out.2.1)).trans f.out.2.1,(m _ (by omega) (lt_of_block f.out.2.2)).trans f.out.2.2⟩;clear u m G)
  | (go_at_call 68;refine (hpad _).mono ?_;rintro e d ⟨rfl,g⟩;have c:Hid (Q d∧d.heap[w.heap.size+1]? = some (.cells #[.int .i64 0,.string ⟨#[]⟩] 27 (0,0))∧d.heap[w.heap.size]? = some (.cells #[.int .i64 a0,.int .i64 a1,.int .i64 a2,.int .i64 a3,.string r] 23 (0,0))):=⟨hQ _ _ b.out.1 (g.mono (by have:=lt_of_block b.out.2.1;omega)),(g.block _ (lt_of_block b.out.2.1)).trans b.out.2.1,(g.block _ (lt_of_block b.out.2.2)).trans b.out.2.2⟩;clear g))
 have o:=lt_of_block c.out.2.1
 have R:d.cell? ⟨w.heap.size,0,none⟩=some (.int .i64 a0):=cell_of_row _ _ 0 _ _ _ c.out.2.2
 have S:d.cell? ⟨w.heap.size,1,none⟩=some (.int .i64 a1):=cell_of_row _ _ 1 _ _ _ c.out.2.2
 have q:Below d.heap.size d (d.alloc (.cells #[.int .i64 a0,.int .i64 2,.int .i64 2,.int .i64 0,.int .i64 0,.int .i64 0,.int .i64 a1,.int .i64 a1] 51)):=(Below.refl _ _).alloc (Nat.le_refl _) _
 have s:=hs (d.alloc (.cells #[.int .i64 a0,.int .i64 2,.int .i64 2,.int .i64 0,.int .i64 0,.int .i64 0,.int .i64 a1,.int .i64 a1] 51)) (hQ _ _ c.out.1 (q.mono (by omega)))
 have L:(d.alloc (.cells #[.int .i64 a0,.int .i64 2,.int .i64 2,.int .i64 0,.int .i64 0,.int .i64 0,.int .i64 a1,.int .i64 a1] 51)).heap[w.heap.size+1]? = some (.cells #[.int .i64 0,.string ⟨#[]⟩] 27 (0,0)):=(Below.heap_alloc _ _ _ o).trans c.out.2.1
 clear hj hh hpad hs q a f b
 go_wp2_with fail
 refine s.mono ?_
 rintro e y ⟨rfl,t,n,K⟩
 have x:y.heap[w.heap.size+1]? = some (.cells #[.int .i64 0,.string ⟨#[]⟩] 27 (0,0)):=(n _ (by omega) (by simp;omega)).trans L
 have M:y.heap[d.heap.size]? = _:=(n _ (by omega) (by simp)).trans (heap_alloc_new d _)
 have V:y.cell? ⟨d.heap.size,1,none⟩=some (.int .i64 2):=cell_of_row _ _ 1 _ _ _ M
 have p:Hid (∀ cs,P (y.setRow (w.heap.size+1) cs)):=fun cs=>hP _ _ t (Z0j (Below.refl _ _) (by omega) _)
 clear s R S M t n K L c
 by_cases N:E=0
 ·subst N
  go_wp2_with (refine wpList_store_row rfl 27 _ _ rfl (w.heap.size+1) #[.int .i64 2,.string X] rfl rfl 27 _ x (by kernel_rfl) rfl (by simp [Value.oneCell']) ?_)
  exact jpro_ret _ (w.heap.size+1) _ 2 X 0 _ rfl rfl (setRow_heap _ _ _ _ _ _ x) ⟨by simp,p.out _⟩
 ·have U:(E != 0)=true:=by simpa using N
  go_wp2_with (refine wpList_store_row rfl 27 _ _ rfl (w.heap.size+1) #[.int .i64 0,.string ⟨#[]⟩] rfl rfl 27 _ x (by kernel_rfl) rfl (by simp [Value.oneCell']) ?_)
  exact jpro_ret _ (w.heap.size+1) _ 0 ⟨#[]⟩ E _ rfl rfl (setRow_heap _ _ _ _ _ _ x) ⟨by simp,p.out _⟩
theorem jpro_no (v u:Value)(a0 a1 a2 a3:Int)(r T:ByteArray)(E:Int)(w:World)(hE:¬ E=0)
  (hp:∀ w,Calls prog 12 #[.agg #[.int .i64 a0,.int .i64 a1,.int .i64 a2,.int .i64 a3,.string r]] w fun e w'=>e= .returned (.tuple #[.string T,.int .i64 E])∧Below w.heap.size w w') :
  Calls prog 50 #[v,u,.agg #[.int .i64 a0,.int .i64 a1,.int .i64 a2,.int .i64 a3,.string r]] w fun e w'=>e= .returned (.tuple #[.agg #[.int .i64 0,.string ⟨#[]⟩],.int .i64 E])∧Below w.heap.size w w':=by
 have d:(E != 0)=true:=by simpa using hE
 clear hE
 go_enter func50,ntmps50
 go_wp2_with fail
 refine (hp _).mono ?_
 rintro e w1 ⟨rfl,a⟩
 have c:=(a.block (w.heap.size+1) (by simp)).trans (heap_alloc2_new w _ _)
 have b:Below w.heap.size w w1:=(((Below.refl _ _).alloc (Nat.le_refl _) _).alloc (by simp) _).trans (a.mono (by simp;omega))
 clear hp a
 go_wp2_with (refine wpList_store_row rfl 27 _ _ rfl (w.heap.size+1) #[.int .i64 0,.string ⟨#[]⟩] rfl rfl 27 _ c (by kernel_rfl) rfl (by simp [Value.oneCell']) ?_)
 exact jpro_ret _ (w.heap.size+1) _ 0 ⟨#[]⟩ E _ rfl rfl (setRow_heap _ _ _ _ _ _ c) ⟨rfl,Z0j b (by omega) _⟩
theorem Z4q {K:VK}(HK:VKOk K){S:K.σ}{l:List Wt}{s:Sp}(hr:K.room S 1)(hll:l.length≤24)(he:s.err=0):putE (l.length:Int) 2=0∧(putS (l.length:Int) 2).size=2∧(K.hS S (Z0z l)).size=32∧padE (putS (l.length:Int) 2++K.hS S (Z0z l)++s.txt.extract 0 54) 448=0∧(proT K S l s).size=448:=by
 have c:putE (l.length:Int) 2=0:=by
  unfold putE
  rw [if_neg (by decide),if_neg (by have:(256:Int) ^ (2:Int).toNat=65536:=(by decide);omega)]
 have b:(putS (l.length:Int) 2).size=2:=Z5h c
 have d:=HK.hSize S (Z0z l) hr
 have a:(putS (l.length:Int) 2++K.hS S (Z0z l)++s.txt.extract 0 54).size=88:=by
  rw [ByteArray.size_append,ByteArray.size_append,b,d,ByteArray.size_extract,Z5Z he]
  rfl
 refine⟨c,b,d,?_,?_⟩
 ·unfold padE
  rw [if_neg (by decide),a]
  rfl
 ·unfold proT
  unfold padS
  rw [if_pos (by rw [a];decide)]
  generalize putS (l.length:Int) 2++K.hS S (Z0z l)++s.txt.extract 0 54=x at *
  show (x.data.toList++List.replicate ((448:Int).toNat-x.size) 0).toArray.size=448
  rw [List.size_toArray,List.length_append,List.length_replicate,← Lib.size_eq,a]
  rfl
theorem jpro_any (K:VK)(HK:VKOk K)(F:Nat→Prop)(S:K.σ)(s:Sp)(oa:Option Addr)(ca:Nat)(l:List Wt){w w':World}(hr:K.room S 2)(hl:VOut K F w S w')(hw:w.heap.size≤w'.heap.size)(hv:Wts w' (.slice oa l.length ca) l)(hll:l.length≤24)(hsz:∀ x∈l,x.raw.size≤512) :
  Calls prog 50 #[K.v,.slice oa l.length ca,.agg s.arr] w' fun e w''=>e= .returned (.tuple #[.agg #[.int .i64 (proA K S l s),.string (proR K S l s)],.int .i64 (proE K S l s)])∧VOut K F w (proP K S l s) w''∧Kept w.heap.size w' w''∧w'.heap.size≤w''.heap.size:=by
 have n:=fun w=>Z5v s.vol s.ep s.nx s.lv s.root w
 by_cases d:s.err=0
 ·have a:Z18 s.vol s.ep s.nx s.lv s.root=0:=d
  obtain⟨o,r,p,q,u⟩:=Z4q HK (HK.less hr (by omega)) hll d
  have t:(Z0z l).size≤1000000:=by
   have:=Z70 l hsz
   rw [joinB_size] at this
   omega
  have f:proE K S l s=Z0p s.hdC (proT K S l s):=if_pos d
  have m:proP K S l s=K.sP (K.hP S (Z0z l)) s.hdC (proT K S l s):=if_pos d
  have j:proA K S l s=if Z0p s.hdC (proT K S l s)=0 then 2 else 0:=by unfold proA;rw [f]
  have i:proR K S l s=if Z0p s.hdC (proT K S l s)=0 then K.sS (K.hP S (Z0z l)) s.hdC (proT K S l s) else ⟨#[]⟩:=by unfold proR;rw [f]
  rw [f,m,j,i]
  have g:∀ S',Stb w'.heap.size (fun w''=>VOut K F w S' w''∧Kept w.heap.size w' w''∧w'.heap.size≤w''.heap.size):=fun S' b w2 h c=>⟨VOut.stb HK _ _ h.1 (c.mono hw),fun k hk hk2=>(c.block k hk2).trans (h.2.1 k hk hk2),Nat.le_trans h.2.2 c.size⟩
  refine jpro_yes K.v l oa ca s.vol s.ep s.nx s.lv s.root s.txt (putS (l.length:Int) 2) (Z0z l) (K.hS S (Z0z l)) (proT K S l s) (K.sS (K.hP S (Z0z l)) s.hdC (proT K S l s)) (Z0p s.hdC (proT K S l s)) (fun w''=>VOut K F w (K.sP (K.hP S (Z0z l)) s.hdC (proT K S l s)) w''∧Kept w.heap.size w' w''∧w'.heap.size≤w''.heap.size) (fun w''=>VOut K F w (K.hP S (Z0z l)) w''∧Kept w.heap.size w' w''∧w'.heap.size≤w''.heap.size) w' (g _) (g _) (Z5Z d) r p ?_ ?_ ?_ ?_ ?_ ?_
  ·intro b
   have:=n b
   rw [a] at this
   exact this
  ·intro b
   have:=Z3J (l.length:Int) 2 b
   rw [o] at this
   exact this
  ·intro b c
   exact joined_any _ l b (hv.below c) (by omega) hsz
  ·intro b c
   refine (VOut.hash HK (Z0z l) t (HK.less hr (by omega)) (VOut.stb HK _ _ hl (c.mono hw))).mono fun e w'' ⟨h2,h3,h4,h5⟩=>⟨h2,⟨h3,fun k hk hk2=>(h4 k hk (Nat.lt_of_lt_of_le hk2 c.size)).trans (c.block k hk2),Nat.le_trans c.size h5⟩,fun k hk hk2=>h4 k (Nat.le_trans hw hk) hk2,h5⟩
  ·intro b
   have:=Z7h (putS (l.length:Int) 2++K.hS S (Z0z l)++s.txt.extract 0 54) 448 b
   rw [q] at this
   exact this
  ·intro b h
   refine (VOut.seal_ HK s.hdC (proT K S l s) (HK.hRoom hr) h.1).mono fun e w'' ⟨h2,h3,h4,h5⟩=>⟨h2,⟨h3,fun k hk hk2=>(h4 k hk (Nat.lt_of_lt_of_le hk2 h.2.2)).trans (h.2.1 k hk hk2),Nat.le_trans h.2.2 h5⟩,fun k hk hk2=>h4 k (Nat.le_trans hw hk) hk2,h5⟩
 ·have a:¬ Z18 s.vol s.ep s.nx s.lv s.root=0:=d
  have f:proE K S l s=Z18 s.vol s.ep s.nx s.lv s.root:=if_neg d
  have m:proP K S l s=S:=if_neg d
  have j:proA K S l s=0:=by unfold proA;rw [f];exact if_neg a
  have i:proR K S l s=⟨#[]⟩:=by unfold proR;rw [f];exact if_neg a
  rw [f,m,j,i]
  exact (jpro_no K.v _ s.vol s.ep s.nx s.lv s.root (Z1P s.vol s.ep s.nx s.lv s.root) _ w' a n).mono fun e w'' ⟨h1,h2⟩=>⟨h1,VOut.stb HK _ _ hl (h2.mono hw),fun k _ hk=>h2.block k hk,h2.size⟩
theorem Z72 (tmps:Array Value)(g:Nat)(w':World)(cs:Array Value)(b:Bool)(R:Ending→World→Prop)(h1:tmps.getD 6 undef= .pointer (some ⟨g,0,none⟩))(h2:tmps.getD 7 undef= .bool b)(hg:w'.heap[g]? = some (.cells cs 23 (0,0)))(hs:cs.size=5)(hR:R (.returned (.tuple #[.agg cs,.bool b])) w') :
  bodyPost prog Tryz.f89 R .ret { tmps:=tmps,defers:= []} w':=by
 have a:=run_loadVar_row (P:=prog) w' g 23 23 cs (0,0) _ hg underlying23 rfl (by rw [hs];kernel_rfl)
 simp at h1 h2
 exact bodyPost_ret (v:= .tuple #[.agg cs,.bool b]) (by simp [results,Tryz.results89,asAddr,a,h1,h2]) rfl hR
theorem jsin_in (ok:Bool)(h:Hd)(s:ByteArray)(c:Sp)(y:Int)(slot live:Int)(w:World)
  (ho:∀ w,Calls prog 119 #[.string s] w fun e w'=>e= .returned (.tuple #[.agg c.arr,.int .i64 y])∧Below w.heap.size w w') :
  Calls prog 89 #[.agg #[.bool ok,.int .i64 h.v0,.int .i64 h.v1,.int .i64 h.v2,.int .i64 h.v3,.int .i64 h.v4,.int .i64 h.v5,.int .i64 h.v6,.int .i64 h.v7,.string s],.int .i64 slot,.int .i64 live] w fun e w'=>e= .returned (.tuple #[.agg (if ok=true∧h.v2=1∧y=0∧c.ep.tmod 2=slot∧c.lv=live then c else Sp.zero).arr,.bool (decide (ok=true∧h.v2=1∧y=0∧c.ep.tmod 2=slot∧c.lv=live))])∧Below w.heap.size w w':=by
 obtain⟨i,b,g,d,r⟩:=c
 simp only [Sp.arr,Sp.zero] at *
 by_cases u:ok=true∧h.v2=1
 ·obtain⟨rfl,m⟩:=u
  by_cases n:y=0∧b.tmod 2=slot∧d=live
  ·obtain⟨rfl,z,v⟩:=n
   rw [if_pos ⟨rfl,m,rfl,z,v⟩,decide_eq_true (p:=_∧_) ⟨rfl,m,rfl,z,v⟩]
   have D:(h.v2 != 1)=false:=by simp [m]
   have E:(b.tmod 2 != slot)=false:=by simp [z]
   have F:(d != live)=false:=by simp [v]
   clear m z v
   go_enter func89,ntmps89
   go_wp2_with fail
   refine (ho _).mono ?_
   rintro e w1 ⟨rfl,a⟩
   have j:=(a.block (w.heap.size+1) (by simp)).trans (heap_alloc2_new w _ _)
   have f:Below w.heap.size w w1:=(((Below.refl _ _).alloc (Nat.le_refl _) _).alloc (by simp) _).trans (a.mono (by simp;omega))
   have k:=lt_of_block j
   have t:(w1.alloc (.cells #[.int .i64 i,.int .i64 b,.int .i64 g,.int .i64 d,.string r] 23)).heap[w.heap.size+1]? = some (.cells #[.int .i64 0,.int .i64 0,.int .i64 0,.int .i64 0,.string ⟨#[]⟩] 23 (0,0)):=(Below.heap_alloc _ _ _ k).trans j
   have B:(w1.alloc (.cells #[.int .i64 i,.int .i64 b,.int .i64 g,.int .i64 d,.string r] 23)).heap[w1.heap.size]? = some (.cells #[.int .i64 i,.int .i64 b,.int .i64 g,.int .i64 d,.string r] 23 (0,0)):=heap_alloc_new w1 _
   have l:Below w.heap.size w (w1.alloc (.cells #[.int .i64 i,.int .i64 b,.int .i64 g,.int .i64 d,.string r] 23)):=f.alloc (by omega) _
   clear ho a j f
   go_wp2_with (first | refine wpList_load_row rfl 23 _ rfl w1.heap.size rfl 23 _ (0,0) _ B underlying23 rfl (by kernel_rfl) ?_ | refine wpList_store_row rfl 23 _ _ rfl (w.heap.size+1) #[.int .i64 i,.int .i64 b,.int .i64 g,.int .i64 d,.string r] rfl rfl 23 _ t (by kernel_rfl) rfl (by simp [Value.oneCell']) ?_)
   exact Z72 _ (w.heap.size+1) _ #[.int .i64 i,.int .i64 b,.int .i64 g,.int .i64 d,.string r] true _ rfl rfl (setRow_heap _ _ _ _ _ _ t) rfl ⟨rfl,Z0j l (by omega) _⟩
  ·rw [if_neg (fun h=>n h.2.2),decide_eq_false (p:=_∧_) (fun h=>n h.2.2)]
   have D:(h.v2 != 1)=false:=by simp [m]
   have q:(y != 0)=true∨((y != 0)=false∧(b.tmod 2 != slot)=true)∨((y != 0)=false∧(b.tmod 2 != slot)=false∧(d != live)=true):=by
    by_cases x:y=0
    ·by_cases A:b.tmod 2=slot
     ·exact .inr (.inr ⟨by simp [x],by simp [A],by simp;exact fun e3=>n ⟨x,A,e3⟩⟩)
     ·exact .inr (.inl ⟨by simp [x],by simpa using A⟩)
    ·exact .inl (by simpa using x)
   clear m n
   rcases q with k3 | ⟨k3,E⟩ | ⟨k3,E,F⟩
   all_goals
    go_enter func89,ntmps89
    go_wp2_with fail
    refine (ho _).mono ?_
    rintro e w1 ⟨rfl,a⟩
    have j:=(a.block (w.heap.size+1) (by simp)).trans (heap_alloc2_new w _ _)
    have f:Below w.heap.size w w1:=(((Below.refl _ _).alloc (Nat.le_refl _) _).alloc (by simp) _).trans (a.mono (by simp;omega))
    have k:=lt_of_block j
    have t:(w1.alloc (.cells #[.int .i64 i,.int .i64 b,.int .i64 g,.int .i64 d,.string r] 23)).heap[w.heap.size+1]? = some (.cells #[.int .i64 0,.int .i64 0,.int .i64 0,.int .i64 0,.string ⟨#[]⟩] 23 (0,0)):=(Below.heap_alloc _ _ _ k).trans j
    have B:(w1.alloc (.cells #[.int .i64 i,.int .i64 b,.int .i64 g,.int .i64 d,.string r] 23)).heap[w1.heap.size]? = some (.cells #[.int .i64 i,.int .i64 b,.int .i64 g,.int .i64 d,.string r] 23 (0,0)):=heap_alloc_new w1 _
    have l:Below w.heap.size w (w1.alloc (.cells #[.int .i64 i,.int .i64 b,.int .i64 g,.int .i64 d,.string r] 23)):=f.alloc (by omega) _
    clear ho a j f
    go_wp2_with (refine wpList_store_row rfl 23 _ _ rfl (w.heap.size+1) #[.int .i64 0,.int .i64 0,.int .i64 0,.int .i64 0,.string ⟨#[]⟩] rfl rfl 23 _ t (by kernel_rfl) rfl (by simp [Value.oneCell']) ?_)
    exact Z72 _ (w.heap.size+1) _ #[.int .i64 0,.int .i64 0,.int .i64 0,.int .i64 0,.string ⟨#[]⟩] false _ rfl rfl (setRow_heap _ _ _ _ _ _ t) rfl ⟨rfl,Z0j l (by omega) _⟩
 ·rw [if_neg (fun h=>u ⟨h.1,h.2.1⟩),decide_eq_false (p:=_∧_) (fun h=>u ⟨h.1,h.2.1⟩)]
  have o:Below w.heap.size w ((w.alloc (.cells #[.bool ok,.int .i64 h.v0,.int .i64 h.v1,.int .i64 h.v2,.int .i64 h.v3,.int .i64 h.v4,.int .i64 h.v5,.int .i64 h.v6,.int .i64 h.v7,.string s] 125)).alloc (.cells #[.int .i64 0,.int .i64 0,.int .i64 0,.int .i64 0,.string ⟨#[]⟩] 23)):=((Below.refl _ _).alloc (Nat.le_refl _) _).alloc (by simp) _
  have C:Hid _:=o
  clear ho o
  cases ok with
  | false =>
   go_enter func89,ntmps89
   go_wp2
   exact Z72 _ (w.heap.size+1) _ #[.int .i64 0,.int .i64 0,.int .i64 0,.int .i64 0,.string ⟨#[]⟩] false _ rfl rfl (heap_alloc2_new w _ _) rfl ⟨rfl,C.out⟩
  | true =>
   have D:(h.v2 != 1)=true:=by simp;exact fun e=>u ⟨rfl,e⟩
   clear u
   go_enter func89,ntmps89
   go_wp2
   exact Z72 _ (w.heap.size+1) _ #[.int .i64 0,.int .i64 0,.int .i64 0,.int .i64 0,.string ⟨#[]⟩] false _ rfl rfl (heap_alloc2_new w _ _) rfl ⟨rfl,C.out⟩
theorem jsin_any (r:Rg)(slot live:Int)(w:World) :
  Calls prog 89 #[.agg r.arr,.int .i64 slot,.int .i64 live] w fun e w'=>e= .returned (.tuple #[.agg (sinS r slot live).arr,.bool (sinB r slot live)])∧Below w.heap.size w w':=by
 have hh:=jsin_in r.ok r.h r.body (spOf r.body) (Z0J r.body) slot live w fun w=>Z7z r.body w
 have e:sinS r slot live=if r.ok=true∧r.h.v2=1∧Z0J r.body=0∧(spOf r.body).ep.tmod 2=slot∧(spOf r.body).lv=live then spOf r.body else Sp.zero:=by
  unfold sinS sinB
  by_cases a:r.ok=true∧r.h.v2=1∧Z0J r.body=0∧(spOf r.body).ep.tmod 2=slot∧(spOf r.body).lv=live
  ·rw [if_pos a,if_pos (decide_eq_true a)]
  ·rw [if_neg a,if_neg (by simpa using a)]
 rw [e]
 exact hh
def RgAt (W:World)(g o:Nat)(r:Rg):Prop:=W.cell? ⟨g,o,none⟩=some (.bool r.ok)∧W.cell? ⟨g,o+1,none⟩=some (.int .i64 r.h.v0)∧W.cell? ⟨g,o+2,none⟩=some (.int .i64 r.h.v1)∧W.cell? ⟨g,o+3,none⟩=some (.int .i64 r.h.v2)∧W.cell? ⟨g,o+4,none⟩=some (.int .i64 r.h.v3)∧W.cell? ⟨g,o+5,none⟩=some (.int .i64 r.h.v4)∧W.cell? ⟨g,o+6,none⟩=some (.int .i64 r.h.v5)∧W.cell? ⟨g,o+7,none⟩=some (.int .i64 r.h.v6)∧W.cell? ⟨g,o+8,none⟩=some (.int .i64 r.h.v7)∧W.cell? ⟨g,o+9,none⟩=some (.string r.body)
def Rgs (W:World)(v:Value)(l:List Rg):Prop:=(∃ oa cap,v= .slice oa 0 cap∧l= [])∨∃ g o cap,v= .slice (some ⟨g,o,none⟩) l.length cap∧g<W.heap.size∧∀ i r,l[i]? = some r→RgAt W g (o+i*10) r
theorem RgAt.keep {W W':World}{g o:Nat}{r:Rg}(h:RgAt W g o r)(k:W'.heap[g]? = W.heap[g]?):RgAt W' g o r:=by
 obtain⟨f,n,c,b,m,j,l,q,p,d⟩:=h
 have e:=fun i=>World.cell?_of_block (w:=W) (w':=W') (a:=⟨g,i,none⟩) k
 exact⟨(e _).trans f,(e _).trans n,(e _).trans c,(e _).trans b,(e _).trans m,(e _).trans j,(e _).trans l,(e _).trans q,(e _).trans p,(e _).trans d⟩
theorem Rgs.form {W:World}{v:Value}{l:List Rg}(h:Rgs W v l):∃ oa cap,v= .slice oa l.length cap:=by
 rcases h with ⟨oa,cap,rfl,rfl⟩ | ⟨g,o,cap,rfl,_⟩
 ·exact⟨oa,cap,rfl⟩
 ·exact⟨_,cap,rfl⟩
theorem Rgs.at {W:World}{oa:Option Addr}{cap:Nat}{l:List Rg}(h:Rgs W (.slice oa l.length cap) l){i:Nat}(hi:i<l.length):∃ g o,oa=some ⟨g,o,none⟩∧g<W.heap.size∧RgAt W g (o+i*10) l[i]:=by
 rcases h with ⟨_,_,_,rfl⟩ | ⟨g,o,cap',e,hg,hx⟩
 ·simp at hi
 ·simp only [Value.slice.injEq] at e
  exact⟨g,o,e.1,hg,hx i _ (List.getElem?_eq_getElem hi)⟩
structure ChR (w:World) (l:List Rg) (live:Int) (j:Nat) (wr:World) (fnd:Bool) (bs:Sp):Prop where
 fndE:fnd=(chN l live j).isSome
 bsE:bs=osp (chN l live j)
 below:Below w.heap.size w wr
 res:wr.heap[w.heap.size]? = some (.cells #[.int .i64 0,.int .i64 0,.int .i64 0,.int .i64 0,.string ⟨#[]⟩] 23 (0,0))
 best:wr.heap[w.heap.size+1]? = some (.cells bs.arr 23 (0,0))
theorem chN_yes {l:List Rg}{live:Int}{j:Nat}{r:Rg}(h:l[j]? = some r)(h1:sinB r j live=true)(h2:(chN l live j).isSome=false∨(osp (chN l live j)).ep<(spOf r.body).ep):chN l live (j+1)=some (spOf r.body):=by
 unfold chN
 rw [h]
 show (if _ then _ else _)=_
 rw [if_pos]
 refine⟨h1,fun b hb=> ?_⟩
 rw [hb] at h2
 rcases h2 with h2 | h2
 ·cases h2
 ·exact h2
theorem chN_no {l:List Rg}{live:Int}{j:Nat}{r:Rg}(h:l[j]? = some r)(h1:sinB r j live=false∨((chN l live j).isSome=true∧¬ (osp (chN l live j)).ep<(spOf r.body).ep)):chN l live (j+1)=chN l live j:=by
 rw [chN,h]
 show (if _ then _ else _)=_
 rw [if_neg]
 rintro⟨a,d⟩
 rcases h1 with h1 | ⟨h1,h4⟩
 ·rw [h1] at a;cases a
 ·obtain⟨b,c⟩:=Option.isSome_iff_exists.1 h1
  rw [c] at h4
  exact h4 (d b c)
theorem jcho_ret (tmps:Array Value)(g:Nat)(w':World)(cs:Array Value)(b:Bool)(R:Ending→World→Prop)(h1:tmps.getD 4 undef= .pointer (some ⟨g,0,none⟩))(h2:tmps.getD 5 undef= .bool b)(hg:w'.heap[g]? = some (.cells cs 23 (0,0)))(hs:cs.size=5)(hR:R (.returned (.tuple #[.agg cs,.bool b])) w') :
  bodyPost prog Tryz.f52 R .ret { tmps:=tmps,defers:= []} w':=by
 have a:=run_loadVar_row (P:=prog) w' g 23 23 cs (0,0) _ hg underlying23 rfl (by rw [hs];kernel_rfl)
 simp at h1 h2
 exact bodyPost_ret (v:= .tuple #[.agg cs,.bool b]) (by simp [results,Tryz.results52,asAddr,a,h1,h2]) rfl hR
theorem jcho_any (v:Value)(l:List Rg)(live:Int)(w:World)(hv:Rgs w v l) :
  Calls prog 52 #[v,.int .i64 live] w fun e w'=>e= .returned (.tuple #[.agg (osp (chO l live)).arr,.bool (chO l live).isSome])∧Below w.heap.size w w':=by
 obtain⟨oa,ca,rfl⟩:=hv.form
 have HV:Hid (Rgs w (.slice oa l.length ca) l):=hv
 obtain⟨m,hm⟩:∃ m:Nat,m=min 2 l.length:=⟨_,rfl⟩
 have HM:Hid (m≤l.length∧chO l live=chN l live m):=⟨by omega,by rw [hm];rfl⟩
 have a2:m≤2:=by omega
 have a0:∀ (ts:Array TypeId) (t:TypeId) (w:World),(Builtin.min_ ts t #[.int .i64 2,.int .i64 (l.length:Int)]).run prog w= .ok (.int .i64 (m:Int)) w:=fun ts t w=>by
  rw [run_min_int2]
  congr 2
  split <;> omega
 rw [HM.out.2]
 clear hv hm
 have HI:Hid (ChR w l live 0 ((w.alloc (.cells #[.int .i64 0,.int .i64 0,.int .i64 0,.int .i64 0,.string ⟨#[]⟩] 23)).alloc (.cells #[.int .i64 0,.int .i64 0,.int .i64 0,.int .i64 0,.string ⟨#[]⟩] 23)) false Sp.zero):=⟨rfl,rfl,((Below.refl _ _).alloc (Nat.le_refl _) _).alloc (by simp) _,heap_alloc2_old w _ _,heap_alloc2_new w _ _⟩
 obtain⟨X,V⟩:∃ X,X=osp (chN l live m):=⟨_,rfl⟩
 obtain⟨Y,U⟩:∃ Y,Y=(chN l live m).isSome:=⟨_,rfl⟩
 rw [← V,← U]
 have HX:Hid (X=osp (chN l live m)∧Y=(chN l live m).isSome):=⟨V,U⟩
 clear V U
 go_enter func52,ntmps52
 go_wp2_with fail
 go_loopw [7,14] (fun fv iv wr=> ∃ (j:Nat) (b:Bool) (E:Sp),j≤m∧iv= .int .i64 (j:Int)∧fv= .bool b∧Hid (ChR w l live j wr b E)) (fun _ iv _=>m-(intOf iv).toNat)
 case atStart=>exact⟨0,false,Sp.zero,Nat.zero_le _,rfl,rfl,HI⟩
 case round =>
  clear HI a0
  obtain⟨j,b,E,hj,rfl,rfl,i⟩:=hrel
  by_cases a1:j<m
  ·have j1:(j:Int)<m:=by omega
   have R:j<l.length:=by have:=HM.out.1;omega
   have j2:(j:Int)<l.length:=by omega
   obtain⟨g,o,rfl,hg,Q⟩:=HV.out.at R
   have a3:=Nat.lt_of_lt_of_le hg i.out.below.size
   obtain⟨d0,d1,d2,d3,d4,d5,d6,d7,d8,d9⟩:=Q.keep (i.out.below.block g hg)
   have Z:=jsin_any l[j] (j:Int) live
   have S:Hid (l[j]? = some l[j]):=List.getElem?_eq_getElem R
   generalize l[j]=r at *
   unfold Rg.arr Z4d at Z
   go_wp2_with fail
   refine (Z _).mono ?_
   rintro e w2 ⟨rfl,C⟩
   have D:Below w.heap.size w w2:=i.out.below.trans (C.mono i.out.below.size)
   have k:=(C.block _ (lt_of_block i.out.res)).trans i.out.res
   have a:=(C.block _ (lt_of_block i.out.best)).trans i.out.best
   have hF:=i.out.fndE
   have W:=i.out.bsE
   have B:Hid ((sinB r (j:Int) live=true→sinS r (j:Int) live=spOf r.body)∧(sinB r (j:Int) live=false→chN l live (j+1)=chN l live j)∧(sinB r (j:Int) live=true→b=false∨E.ep<(spOf r.body).ep→chN l live (j+1)=some (spOf r.body))∧(b=true→¬ E.ep<(spOf r.body).ep→chN l live (j+1)=chN l live j)):=by
    rw [hF,W]
    exact⟨fun hh=>if_pos hh,fun hh=>chN_no S.out (.inl hh),fun hh h2=>chN_yes S.out hh h2,fun hh h2=>chN_no S.out (.inr ⟨hh,h2⟩)⟩
   have N:Hid (b=(chN l live j).isSome∧E=osp (chN l live j)):=⟨hF,W⟩
   clear Z C d0 d1 d2 d3 d4 d5 d6 d7 d8 d9 Q i hF W S
   generalize sinB r (j:Int) live=q at *
   generalize sinS r (j:Int) live=c at *
   generalize spOf r.body=sp at *
   obtain⟨s,d,p,u,n⟩:=c
   obtain⟨K,z,I,G,F⟩:=E
   unfold Sp.arr at a
   simp only [Sp.arr]
   have P:=lt_of_block a
   have T:(w2.alloc (.cells #[.int .i64 s,.int .i64 d,.int .i64 p,.int .i64 u,.string n] 23)).heap[w2.heap.size]? = some (.cells #[.int .i64 s,.int .i64 d,.int .i64 p,.int .i64 u,.string n] 23 (0,0)):=heap_alloc_new w2 _
   have J:Below w.heap.size w (w2.alloc (.cells #[.int .i64 s,.int .i64 d,.int .i64 p,.int .i64 u,.string n] 23)):=D.alloc (by omega) _
   have H:(w2.alloc (.cells #[.int .i64 s,.int .i64 d,.int .i64 p,.int .i64 u,.string n] 23)).heap[w.heap.size]? = some (.cells #[.int .i64 0,.int .i64 0,.int .i64 0,.int .i64 0,.string ⟨#[]⟩] 23 (0,0)):=(Below.heap_alloc _ _ _ (by omega)).trans k
   have x:(w2.alloc (.cells #[.int .i64 s,.int .i64 d,.int .i64 p,.int .i64 u,.string n] 23)).heap[w.heap.size+1]? = some (.cells #[.int .i64 K,.int .i64 z,.int .i64 I,.int .i64 G,.string F] 23 (0,0)):=(Below.heap_alloc _ _ _ P).trans a
   have e1:(w2.alloc (.cells #[.int .i64 s,.int .i64 d,.int .i64 p,.int .i64 u,.string n] 23)).cell? ⟨w.heap.size+1,1,none⟩=some (.int .i64 z):=cell_of_row _ _ 1 _ _ _ x
   have L:Hid (chN l live (j+1)=chN l live j→ChR w l live (j+1) (w2.alloc (.cells #[.int .i64 s,.int .i64 d,.int .i64 p,.int .i64 u,.string n] 23)) b ⟨K,z,I,G,F⟩):=fun hh=>⟨by rw [hh];exact N.out.1,by rw [hh];exact N.out.2,J,H,x⟩
   have O:Hid (chN l live (j+1)=some ⟨s,d,p,u,n⟩→ChR w l live (j+1) ((w2.alloc (.cells #[.int .i64 s,.int .i64 d,.int .i64 p,.int .i64 u,.string n] 23)).setRow (w.heap.size+1) #[.int .i64 s,.int .i64 d,.int .i64 p,.int .i64 u,.string n]) true ⟨s,d,p,u,n⟩):=fun hh=>⟨by rw [hh];rfl,by rw [hh];rfl,Z0j J (by omega) _,(setRow_other _ _ _ _ (by omega)).trans H,setRow_heap _ _ _ _ _ _ x⟩
   clear D k a J H HV
   cases q with
   | false =>
    have y:=L.out (B.out.2.1 rfl)
    have y:Hid _:=y
    clear L O B N T x
    go_wp2
    go_roundw
    case rel=>exact⟨j+1,b,⟨K,z,I,G,F⟩,by omega,by go_num,rfl,y⟩
    case measure=>simp [intOf];omega
   | true =>
    have M:Sp.mk s d p u n=sp:=B.out.1 rfl
    have A:sp.ep=d:=by rw [← M]
    cases b with
    | false =>
     have y:Hid _:=O.out (by rw [M];exact B.out.2.2.1 rfl (.inl rfl))
     clear L O B N M A e1
     go_wp2_with (first | refine wpList_load_row rfl 23 _ rfl w2.heap.size rfl 23 _ (0,0) _ T underlying23 rfl (by kernel_rfl) ?_ | refine wpList_store_row rfl 23 _ _ rfl (w.heap.size+1) #[.int .i64 s,.int .i64 d,.int .i64 p,.int .i64 u,.string n] rfl rfl 23 _ x (by kernel_rfl) rfl (by simp [Value.oneCell']) ?_)
     go_roundw
     case rel=>exact⟨j+1,true,⟨s,d,p,u,n⟩,by omega,by go_num,rfl,y⟩
     case measure=>simp [intOf];omega
    | true =>
     by_cases f:z<d
     ·have y:Hid _:=O.out (by rw [M];exact B.out.2.2.1 rfl (.inr (by rw [A];exact f)))
      have k1:decide (z<d)=true:=by simpa using f
      clear L O B N M A f
      go_wp2_with (first | refine wpList_load_row rfl 23 _ rfl w2.heap.size rfl 23 _ (0,0) _ T underlying23 rfl (by kernel_rfl) ?_ | refine wpList_store_row rfl 23 _ _ rfl (w.heap.size+1) #[.int .i64 s,.int .i64 d,.int .i64 p,.int .i64 u,.string n] rfl rfl 23 _ x (by kernel_rfl) rfl (by simp [Value.oneCell']) ?_)
      go_roundw
      case rel=>exact⟨j+1,true,⟨s,d,p,u,n⟩,by omega,by go_num,rfl,y⟩
      case measure=>simp [intOf];omega
     ·have y:Hid _:=L.out (B.out.2.2.2 rfl (by rw [A];exact f))
      have k1:decide (z<d)=false:=by simpa using f
      clear L O B N M A f T x
      go_wp2
      go_roundw
      case rel=>exact⟨j+1,true,⟨K,z,I,G,F⟩,by omega,by go_num,rfl,y⟩
      case measure=>simp [intOf];omega
  ·have j1:¬ (j:Int)<m:=by omega
   obtain rfl:j=m:=by omega
   have k:=i.out.res
   have a:=i.out.best
   have y:Hid (Below w.heap.size w wr∧E=X∧b=Y):=⟨i.out.below,by rw [HX.out.1];exact i.out.bsE,by rw [HX.out.2];exact i.out.fndE⟩
   clear i
   obtain⟨K,z,I,G,F⟩:=E
   unfold Sp.arr at a
   go_wp2_with (first | refine wpList_load_row rfl 23 _ rfl (w.heap.size+1) rfl 23 _ (0,0) _ a underlying23 rfl (by kernel_rfl) ?_ | refine wpList_store_row rfl 23 _ _ rfl w.heap.size #[.int .i64 K,.int .i64 z,.int .i64 I,.int .i64 G,.string F] rfl rfl 23 _ k (by kernel_rfl) rfl (by simp [Value.oneCell']) ?_)
   exact jcho_ret _ w.heap.size _ #[.int .i64 K,.int .i64 z,.int .i64 I,.int .i64 G,.string F] b _ rfl rfl (setRow_heap _ _ _ _ _ _ k) rfl ⟨by rw [← y.out.2.1,← y.out.2.2];rfl,Z0j y.out.1 (Nat.le_refl _) _⟩
end Go.Proofs.YtijpgmkdnemmbaaGreatDoor
