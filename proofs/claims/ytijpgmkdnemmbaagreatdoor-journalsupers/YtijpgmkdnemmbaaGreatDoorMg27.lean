/- Part 27. -/
import Derived.Test.YtijpgmkdnemmbaaGreatDoorMg26
set_option maxRecDepth 20000
set_option maxHeartbeats 8000000
open Go.RowKit Go.Proofs.Tryz
namespace Go.Proofs.YtijpgmkdnemmbaaGreatDoor
theorem promise_duo (K:VK)(HK:VKOk K)(F:Nat→Prop)(B:Nat)(P:PS)(S:K.σ)(s:Sp)(oa:Option Addr)(ca:Nat)(l:List Wt)(w:World)(h:Duo K w F B P S)(hr:K.room S 2)(hv:Wts w (.slice oa l.length ca) l)(hll:l.length≤24)(hsz:∀ x∈l,x.raw.size≤512) :
  Calls prog 50 #[K.v,.slice oa l.length ca,.agg s.arr] w fun e w'=>e= .returned (.tuple #[.agg #[.int .i64 (proA K S l s),.string (proR K S l s)],.int .i64 (proE K S l s)])∧Duo K w' F B P (proP K S l s)∧Z02 F w w':=by
 refine h.vaultC (E:=fun e=>e= .returned (.tuple #[.agg #[.int .i64 (proA K S l s),.string (proR K S l s)],.int .i64 (proE K S l s)])) fun F2 hl _=> ?_
 exact (jpro_any K HK F2 S s oa ca l hr (VOut.start HK hl (Below.refl _ _)) (Nat.le_refl _) hv hll hsz).mono fun e w' ⟨h1,h2,_⟩=>⟨h1,h2.lies HK,h2.2⟩
theorem super_duo (K:VK)(HK:VKOk K)(F:Nat→Prop)(B:Nat)(P:PS)(S:K.σ)(s:Sp)(w:World)(h:Duo K w F B P S)(hr:K.room S 1) :
  Calls prog 5 #[K.v,.agg s.arr] w fun e w'=>e= .returned (.tuple #[.agg #[.int .i64 (supA s),.string (supR K S s)],.int .i64 (supE s)])∧Duo K w' F B P (supP K S s)∧Z02 F w w':=by
 refine h.vaultC (E:=fun e=>e= .returned (.tuple #[.agg #[.int .i64 (supA s),.string (supR K S s)],.int .i64 (supE s)])) fun F2 hl _=> ?_
 exact (jsuper_any K HK F2 S s hr (VOut.start HK hl (Below.refl _ _)) (Nat.le_refl _)).mono fun e w' ⟨h1,h2,_⟩=>⟨h1,h2.lies HK,h2.2⟩
theorem commit_in (K:VK)(HK:VKOk K)(F:Nat→Prop)(B:Nat)(P:PS)(S:K.σ)(a0 a1 a2:Int)(r:ByteArray)(n q s2 t:Nat)(oa:Option Addr)(ca:Nat)(l:List Wt)(w:World)(A1 A2:Int)(R1 R2:ByteArray)(S1 S2:K.σ)(h:Duo K w F B P S)(hw:P.wait.length≤100000)(hg:ErrT w)(hF:¬ F 3)
  (hv:WtO F w (.slice oa l.length ca) l)(hll:l.length≤24)(hn:n≤1024)(hup:P.up=true)(htg:togB 27 (n:Int) l=true)
  (hlay:∀ W,Below w.heap.size w W→Calls prog 47 #[.pointer (some ⟨B,0,none⟩)] W fun e W'=>e= .returned (.tuple #[.agg (layA n q s2 t),.int .i64 0])∧Below W.heap.size W W')
  (huns:∀ W,Below w.heap.size w W→Calls prog 41 #[K.v,.agg #[.int .i64 a0,.int .i64 a1,.int .i64 a2,.int .i64 (n:Int),.string r]] W fun e W'=>e= .returned (.int .i64 0)∧Below W.heap.size W W')
  (hpro:∀ W,Duo K W F B P S→Wts W (.slice oa l.length ca) l→Calls prog 50 #[K.v,.slice oa l.length ca,.agg #[.int .i64 a0,.int .i64 a1,.int .i64 a2,.int .i64 (n:Int),.string r]] W fun e W'=>e= .returned (.tuple #[.agg #[.int .i64 A1,.string R1],.int .i64 0])∧Duo K W' F B P S1∧Z02 F W W')
  (hsup:∀ W,Duo K W F B P S1→Calls prog 5 #[K.v,.agg #[.int .i64 a0,.int .i64 a1,.int .i64 a2,.int .i64 (n:Int),.string r]] W fun e W'=>e= .returned (.tuple #[.agg #[.int .i64 A2,.string R2],.int .i64 0])∧Duo K W' F B P S2∧Z02 F W W') :
  Calls prog 20 #[.pointer (some ⟨B,0,none⟩),K.v,.slice oa l.length ca,.agg #[.int .i64 a0,.int .i64 a1,.int .i64 a2,.int .i64 (n:Int),.string r]] w fun e w'=>e= .returned (.int .i64 (ansE (folE [Z1S 3 0 l,[⟨A1,R1⟩],l,[⟨A2,R2⟩]] P)))∧Duo K w' (grow F w w') B (folP [Z1S 3 0 l,[⟨A1,R1⟩],l,[⟨A2,R2⟩]] P) S2∧Z02 F w w':=by
 have Q:=Z1o w (.cells #[.int .i64 a0,.int .i64 a1,.int .i64 a2,.int .i64 (n:Int),.string r] 23)
 have g0:=heap_alloc_new w (.cells #[.int .i64 a0,.int .i64 a1,.int .i64 a2,.int .i64 (n:Int),.string r] 23)
 have h1:=hlay _ Q
 have T:=answer_any (folE [Z1S 3 0 l,[⟨A1,R1⟩],l,[⟨A2,R2⟩]] P)
 have af:Hid (P.wait.length+8*Z86 [Z1S 3 0 l,[⟨A1,R1⟩],l,[⟨A2,R2⟩]]≤900000):=by
  have e:Z86 [Z1S 3 0 l,[⟨A1,R1⟩],l,[⟨A2,R2⟩]]=l.length+(1+(l.length+(1+0))):=by show (Z1S 3 0 l).length+_=_;rw [Z4o];rfl
  show _≤_
  rw [e]
  omega
 have z:Hid (_∧_∧_∧_∧_∧_∧_∧_):=⟨trivial,hg,hF,h.lt,h,hv,htg,hup⟩
 have ao:¬ (24:Int)<(l.length:Int):=by omega
 have G:=fun W (hW:Wts W (.slice oa l.length ca) l)=>Z6x n q s2 t _ l W hW (by omega) hn
 rw [htg] at G
 unfold layA at h1 G
 clear h hw hg hF hv hup htg hlay
 go_enter func20,ntmps20
 go_wp2_with fail
 refine h1.mono ?_
 rintro e a ⟨rfl,Z⟩
 have I:=Q.trans (Z.mono Q.size)
 have g1:=(Z.block w.heap.size (by simp)).trans g0
 have a5:=lt_of_block g1
 have gA:(a.alloc (.cells #[.int .i64 (n:Int),.int .i64 2,.int .i64 3,.int .i64 27,.int .i64 28,.int .i64 29,.int .i64 (q:Int),.int .i64 (29+(q:Int)),.int .i64 (s2:Int),.int .i64 (29+(q:Int)+(s2:Int)),.int .i64 (29+(q:Int)+(s2:Int)+1),.int .i64 (n:Int),.int .i64 ((n:Int)+1),.int .i64 (t:Int),.int .i64 ((n:Int)+1+(t:Int)),.int .i64 ((n:Int)+1+(t:Int)+(n:Int))] 103)).heap[a.heap.size]? = some (.cells #[.int .i64 (n:Int),.int .i64 2,.int .i64 3,.int .i64 27,.int .i64 28,.int .i64 29,.int .i64 (q:Int),.int .i64 (29+(q:Int)),.int .i64 (s2:Int),.int .i64 (29+(q:Int)+(s2:Int)),.int .i64 (29+(q:Int)+(s2:Int)+1),.int .i64 (n:Int),.int .i64 ((n:Int)+1),.int .i64 (t:Int),.int .i64 ((n:Int)+1+(t:Int)),.int .i64 ((n:Int)+1+(t:Int)+(n:Int))] 103 (0,0)):=heap_alloc_new a _
 have gS:(a.alloc (.cells #[.int .i64 (n:Int),.int .i64 2,.int .i64 3,.int .i64 27,.int .i64 28,.int .i64 29,.int .i64 (q:Int),.int .i64 (29+(q:Int)),.int .i64 (s2:Int),.int .i64 (29+(q:Int)+(s2:Int)),.int .i64 (29+(q:Int)+(s2:Int)+1),.int .i64 (n:Int),.int .i64 ((n:Int)+1),.int .i64 (t:Int),.int .i64 ((n:Int)+1+(t:Int)),.int .i64 ((n:Int)+1+(t:Int)+(n:Int))] 103)).heap[w.heap.size]? = some (.cells #[.int .i64 a0,.int .i64 a1,.int .i64 a2,.int .i64 (n:Int),.string r] 23 (0,0)):=(Below.heap_alloc _ _ _ a5).trans g1
 have c3:=cell_of_row _ _ 3 _ _ _ gS
 have E:Below w.heap.size w (a.alloc (.cells #[.int .i64 (n:Int),.int .i64 2,.int .i64 3,.int .i64 27,.int .i64 28,.int .i64 29,.int .i64 (q:Int),.int .i64 (29+(q:Int)),.int .i64 (s2:Int),.int .i64 (29+(q:Int)+(s2:Int)),.int .i64 (29+(q:Int)+(s2:Int)+1),.int .i64 (n:Int),.int .i64 ((n:Int)+1),.int .i64 (t:Int),.int .i64 ((n:Int)+1+(t:Int)),.int .i64 ((n:Int)+1+(t:Int)+(n:Int))] 103)):=I.alloc I.size _
 have h2:=G _ (z.out.2.2.2.2.2.1.1.below E)
 clear h1 Q g0 Z g1 I G
 go_wp2_with fail
 refine h2.mono ?_
 rintro e w2 ⟨rfl,N⟩
 have C:=(N.block w.heap.size (lt_of_block gS)).trans gS
 have a6:=(N.block a.heap.size (lt_of_block gA)).trans gA
 have j:Below w.heap.size w w2:=E.trans (N.mono E.size)
 have h3:=huns _ j
 have s0:w2.cell? ⟨w.heap.size,0,none⟩=some (.int .i64 a0):=cell_of_row _ _ 0 _ _ _ C
 have s1:w2.cell? ⟨w.heap.size,1,none⟩=some (.int .i64 a1):=cell_of_row _ _ 1 _ _ _ C
 have ae:w2.cell? ⟨w.heap.size,2,none⟩=some (.int .i64 a2):=cell_of_row _ _ 2 _ _ _ C
 have s3:w2.cell? ⟨w.heap.size,3,none⟩=some (.int .i64 (n:Int)):=cell_of_row _ _ 3 _ _ _ C
 have s4:w2.cell? ⟨w.heap.size,4,none⟩=some (.string r):=cell_of_row _ _ 4 _ _ _ C
 have y:Hid (Below w.heap.size w w2∧w2.heap[w.heap.size]? = some (.cells #[.int .i64 a0,.int .i64 a1,.int .i64 a2,.int .i64 (n:Int),.string r] 23 (0,0))∧w2.heap[a.heap.size]? = some (.cells #[.int .i64 (n:Int),.int .i64 2,.int .i64 3,.int .i64 27,.int .i64 28,.int .i64 29,.int .i64 (q:Int),.int .i64 (29+(q:Int)),.int .i64 (s2:Int),.int .i64 (29+(q:Int)+(s2:Int)),.int .i64 (29+(q:Int)+(s2:Int)+1),.int .i64 (n:Int),.int .i64 ((n:Int)+1),.int .i64 (t:Int),.int .i64 ((n:Int)+1+(t:Int)),.int .i64 ((n:Int)+1+(t:Int)+(n:Int))] 103 (0,0))∧w.heap.size≤a.heap.size):=⟨j,C,a6,by omega⟩
 clear h2 N gA gS C a6 E j huns c3
 go_wp2_with fail
 refine h3.mono ?_
 rintro e w3 ⟨rfl,M⟩
 have j:Below w.heap.size w w3:=y.out.1.trans (M.mono y.out.1.size)
 have d:Hid (Below w.heap.size w w3∧w3.heap[w.heap.size]? = some (.cells #[.int .i64 a0,.int .i64 a1,.int .i64 a2,.int .i64 (n:Int),.string r] 23 (0,0))∧w3.heap[a.heap.size]? = some (.cells #[.int .i64 (n:Int),.int .i64 2,.int .i64 3,.int .i64 27,.int .i64 28,.int .i64 29,.int .i64 (q:Int),.int .i64 (29+(q:Int)),.int .i64 (s2:Int),.int .i64 (29+(q:Int)+(s2:Int)),.int .i64 (29+(q:Int)+(s2:Int)+1),.int .i64 (n:Int),.int .i64 ((n:Int)+1),.int .i64 (t:Int),.int .i64 ((n:Int)+1+(t:Int)),.int .i64 ((n:Int)+1+(t:Int)+(n:Int))] 103 (0,0))∧w.heap.size≤a.heap.size∧Duo K w3 F B P S∧WtO F w3 (.slice oa l.length ca) l∧ErrT w3):=⟨j,(M.block _ (lt_of_block y.out.2.1)).trans y.out.2.1,(M.block _ (lt_of_block y.out.2.2.1)).trans y.out.2.2.1,y.out.2.2.2,z.out.2.2.2.2.1.below HK j,z.out.2.2.2.2.2.1.below j,z.out.2.1.bel j⟩
 have h4:=d.out.2.2.2.2.1.up
 rw [z.out.2.2.2.2.2.2.2] at h4
 clear h3 M j y s0 s1 ae s3 s4
 go_wp2_with fail
 refine h4.mono ?_
 rintro e w4 ⟨rfl,rfl⟩
 have h5:=hpro _ d.out.2.2.2.2.1 d.out.2.2.2.2.2.1.1
 have u0:w4.cell? ⟨w.heap.size,0,none⟩=some (.int .i64 a0):=cell_of_row _ _ 0 _ _ _ d.out.2.1
 have u1:w4.cell? ⟨w.heap.size,1,none⟩=some (.int .i64 a1):=cell_of_row _ _ 1 _ _ _ d.out.2.1
 have u2:w4.cell? ⟨w.heap.size,2,none⟩=some (.int .i64 a2):=cell_of_row _ _ 2 _ _ _ d.out.2.1
 have u3:w4.cell? ⟨w.heap.size,3,none⟩=some (.int .i64 (n:Int)):=cell_of_row _ _ 3 _ _ _ d.out.2.1
 have u4:w4.cell? ⟨w.heap.size,4,none⟩=some (.string r):=cell_of_row _ _ 4 _ _ _ d.out.2.1
 clear h4 hpro
 go_wp2_with fail
 refine h5.mono ?_
 rintro e f ⟨rfl,ab,H⟩
 have A:∀ k,w.heap.size≤k→¬ F k:=fun k hk hF=>by have:=z.out.2.2.2.1 k hF;omega
 have p:Hid (Z02 F w f∧f.heap[w.heap.size]? = some (.cells #[.int .i64 a0,.int .i64 a1,.int .i64 a2,.int .i64 (n:Int),.string r] 23 (0,0))∧f.heap[a.heap.size]? = some (.cells #[.int .i64 (n:Int),.int .i64 2,.int .i64 3,.int .i64 27,.int .i64 28,.int .i64 29,.int .i64 (q:Int),.int .i64 (29+(q:Int)),.int .i64 (s2:Int),.int .i64 (29+(q:Int)+(s2:Int)),.int .i64 (29+(q:Int)+(s2:Int)+1),.int .i64 (n:Int),.int .i64 ((n:Int)+1),.int .i64 (t:Int),.int .i64 ((n:Int)+1+(t:Int)),.int .i64 ((n:Int)+1+(t:Int)+(n:Int))] 103 (0,0))∧w.heap.size≤a.heap.size∧Duo K f F B P S1∧WtO F f (.slice oa l.length ca) l∧ErrT f):=⟨(Z02.of_below d.out.1).trans (H.mono fun _ h=> .inl h),(H.2 _ (lt_of_block d.out.2.1) (A _ (Nat.le_refl _))).trans d.out.2.1,(H.2 _ (lt_of_block d.out.2.2.1) (A _ d.out.2.2.2.1)).trans d.out.2.2.1,d.out.2.2.2.1,ab,⟨d.out.2.2.2.2.2.1.1.touch2 H d.out.2.2.2.2.2.1.2,d.out.2.2.2.2.2.1.2⟩,d.out.2.2.2.2.2.2.touch H z.out.2.2.1⟩
 have i:Below f.heap.size f (f.alloc (.cells #[.int .i64 A1,.string R1] 27)):=Z1o _ _
 have c:Hid (Z02 F w (f.alloc (.cells #[.int .i64 A1,.string R1] 27))∧(f.alloc (.cells #[.int .i64 A1,.string R1] 27)).heap[w.heap.size]? = some (.cells #[.int .i64 a0,.int .i64 a1,.int .i64 a2,.int .i64 (n:Int),.string r] 23 (0,0))∧(f.alloc (.cells #[.int .i64 A1,.string R1] 27)).heap[a.heap.size]? = some (.cells #[.int .i64 (n:Int),.int .i64 2,.int .i64 3,.int .i64 27,.int .i64 28,.int .i64 29,.int .i64 (q:Int),.int .i64 (29+(q:Int)),.int .i64 (s2:Int),.int .i64 (29+(q:Int)+(s2:Int)),.int .i64 (29+(q:Int)+(s2:Int)+1),.int .i64 (n:Int),.int .i64 ((n:Int)+1),.int .i64 (t:Int),.int .i64 ((n:Int)+1+(t:Int)),.int .i64 ((n:Int)+1+(t:Int)+(n:Int))] 103 (0,0))∧w.heap.size≤a.heap.size∧Duo K (f.alloc (.cells #[.int .i64 A1,.string R1] 27)) F B P S1∧WtO F (f.alloc (.cells #[.int .i64 A1,.string R1] 27)) (.slice oa l.length ca) l∧ErrT (f.alloc (.cells #[.int .i64 A1,.string R1] 27))∧(f.alloc (.cells #[.int .i64 A1,.string R1] 27)).heap[f.heap.size]? = some (.cells #[.int .i64 A1,.string R1] 27 (0,0))∧a.heap.size<f.heap.size):=⟨p.out.1.trans (Z02.of_below i),(i.block _ (lt_of_block p.out.2.1)).trans p.out.2.1,(i.block _ (lt_of_block p.out.2.2.1)).trans p.out.2.2.1,p.out.2.2.2.1,p.out.2.2.2.2.1.below HK i,p.out.2.2.2.2.2.1.below i,p.out.2.2.2.2.2.2.bel i,heap_alloc_new _ _,lt_of_block p.out.2.2.1⟩
 have h6:=hsup _ c.out.2.2.2.2.1
 have v0:(f.alloc (.cells #[.int .i64 A1,.string R1] 27)).cell? ⟨w.heap.size,0,none⟩=some (.int .i64 a0):=cell_of_row _ _ 0 _ _ _ c.out.2.1
 have v1:(f.alloc (.cells #[.int .i64 A1,.string R1] 27)).cell? ⟨w.heap.size,1,none⟩=some (.int .i64 a1):=cell_of_row _ _ 1 _ _ _ c.out.2.1
 have v2:(f.alloc (.cells #[.int .i64 A1,.string R1] 27)).cell? ⟨w.heap.size,2,none⟩=some (.int .i64 a2):=cell_of_row _ _ 2 _ _ _ c.out.2.1
 have v3:(f.alloc (.cells #[.int .i64 A1,.string R1] 27)).cell? ⟨w.heap.size,3,none⟩=some (.int .i64 (n:Int)):=cell_of_row _ _ 3 _ _ _ c.out.2.1
 have v4:(f.alloc (.cells #[.int .i64 A1,.string R1] 27)).cell? ⟨w.heap.size,4,none⟩=some (.string r):=cell_of_row _ _ 4 _ _ _ c.out.2.1
 clear h5 ab H A i hsup u0 u1 u2 u3 u4 d p
 go_wp2_with fail
 refine h6.mono ?_
 rintro e b ⟨rfl,a4,D⟩
 have A:∀ k,w.heap.size≤k→¬ F k:=fun k hk hF=>by have:=z.out.2.2.2.1 k hF;omega
 have aj:f.heap.size<b.heap.size:=by have:=D.size;simp at this;omega
 have u:Hid (Z02 F w b∧b.heap[a.heap.size]? = some (.cells #[.int .i64 (n:Int),.int .i64 2,.int .i64 3,.int .i64 27,.int .i64 28,.int .i64 29,.int .i64 (q:Int),.int .i64 (29+(q:Int)),.int .i64 (s2:Int),.int .i64 (29+(q:Int)+(s2:Int)),.int .i64 (29+(q:Int)+(s2:Int)+1),.int .i64 (n:Int),.int .i64 ((n:Int)+1),.int .i64 (t:Int),.int .i64 ((n:Int)+1+(t:Int)),.int .i64 ((n:Int)+1+(t:Int)+(n:Int))] 103 (0,0))∧Duo K b F B P S2∧WtO F b (.slice oa l.length ca) l∧ErrT b∧b.heap[f.heap.size]? = some (.cells #[.int .i64 A1,.string R1] 27 (0,0))):=⟨c.out.1.trans (D.mono fun _ h=> .inl h),(D.2 _ (lt_of_block c.out.2.2.1) (A _ c.out.2.2.2.1)).trans c.out.2.2.1,a4,⟨c.out.2.2.2.2.2.1.1.touch2 D c.out.2.2.2.2.2.1.2,c.out.2.2.2.2.2.1.2⟩,c.out.2.2.2.2.2.2.1.touch D z.out.2.2.1,(D.2 _ (lt_of_block c.out.2.2.2.2.2.2.2.1) (A _ (by have:=c.out.2.2.2.1;have:=c.out.2.2.2.2.2.2.2.2;omega))).trans c.out.2.2.2.2.2.2.2.1⟩
 have ap:w.heap.size≤a.heap.size∧a.heap.size<f.heap.size:=⟨c.out.2.2.2.1,c.out.2.2.2.2.2.2.2.2⟩
 clear h6 a4 D A v0 v1 v2 v3 v4 c
 go_wp2_with fail
 have Y:Hid (∀ W:World,W.heap[a.heap.size]? = some (.cells #[.int .i64 (n:Int),.int .i64 2,.int .i64 3,.int .i64 27,.int .i64 28,.int .i64 29,.int .i64 (q:Int),.int .i64 (29+(q:Int)),.int .i64 (s2:Int),.int .i64 (29+(q:Int)+(s2:Int)),.int .i64 (29+(q:Int)+(s2:Int)+1),.int .i64 (n:Int),.int .i64 ((n:Int)+1),.int .i64 (t:Int),.int .i64 ((n:Int)+1+(t:Int)),.int .i64 ((n:Int)+1+(t:Int)+(n:Int))] 103 (0,0))→W.heap[f.heap.size]? = some (.cells #[.int .i64 A1,.string R1] 27 (0,0))→W.heap[b.heap.size]? = some (.cells #[.int .i64 A2,.string R2] 27 (0,0))→W.cell? ⟨a.heap.size,0,none⟩=some (.int .i64 (n:Int))∧W.cell? ⟨a.heap.size,1,none⟩=some (.int .i64 2)∧W.cell? ⟨a.heap.size,2,none⟩=some (.int .i64 3)∧W.cell? ⟨a.heap.size,3,none⟩=some (.int .i64 27)∧W.cell? ⟨a.heap.size,4,none⟩=some (.int .i64 28)∧W.cell? ⟨a.heap.size,5,none⟩=some (.int .i64 29)∧W.cell? ⟨a.heap.size,6,none⟩=some (.int .i64 (q:Int))∧W.cell? ⟨a.heap.size,7,none⟩=some (.int .i64 (29+(q:Int)))∧W.cell? ⟨a.heap.size,8,none⟩=some (.int .i64 (s2:Int))∧W.cell? ⟨a.heap.size,9,none⟩=some (.int .i64 (29+(q:Int)+(s2:Int)))∧W.cell? ⟨a.heap.size,10,none⟩=some (.int .i64 (29+(q:Int)+(s2:Int)+1))∧W.cell? ⟨a.heap.size,11,none⟩=some (.int .i64 (n:Int))∧W.cell? ⟨a.heap.size,12,none⟩=some (.int .i64 ((n:Int)+1))∧W.cell? ⟨a.heap.size,13,none⟩=some (.int .i64 (t:Int))∧W.cell? ⟨a.heap.size,14,none⟩=some (.int .i64 ((n:Int)+1+(t:Int)))∧W.cell? ⟨a.heap.size,15,none⟩=some (.int .i64 ((n:Int)+1+(t:Int)+(n:Int)))∧W.cell? ⟨f.heap.size,0,none⟩=some (.int .i64 A1)∧W.cell? ⟨f.heap.size,1,none⟩=some (.string R1)∧W.cell? ⟨b.heap.size,0,none⟩=some (.int .i64 A2)∧W.cell? ⟨b.heap.size,1,none⟩=some (.string R2)):=fun W e1 e2 e3=>⟨cell_of_row _ _ 0 _ _ _ e1,cell_of_row _ _ 1 _ _ _ e1,cell_of_row _ _ 2 _ _ _ e1,cell_of_row _ _ 3 _ _ _ e1,cell_of_row _ _ 4 _ _ _ e1,cell_of_row _ _ 5 _ _ _ e1,cell_of_row _ _ 6 _ _ _ e1,cell_of_row _ _ 7 _ _ _ e1,cell_of_row _ _ 8 _ _ _ e1,cell_of_row _ _ 9 _ _ _ e1,cell_of_row _ _ 10 _ _ _ e1,cell_of_row _ _ 11 _ _ _ e1,cell_of_row _ _ 12 _ _ _ e1,cell_of_row _ _ 13 _ _ _ e1,cell_of_row _ _ 14 _ _ _ e1,cell_of_row _ _ 15 _ _ _ e1,cell_of_row _ _ 0 _ _ _ e2,cell_of_row _ _ 1 _ _ _ e2,cell_of_row _ _ 0 _ _ _ e3,cell_of_row _ _ 1 _ _ _ e3⟩
 have i:Below b.heap.size b (b.alloc (.cells #[.int .i64 A2,.string R2] 27)):=Z1o _ _
 have x:Hid ((b.alloc (.cells #[.int .i64 A2,.string R2] 27)).heap[a.heap.size]? = some (.cells #[.int .i64 (n:Int),.int .i64 2,.int .i64 3,.int .i64 27,.int .i64 28,.int .i64 29,.int .i64 (q:Int),.int .i64 (29+(q:Int)),.int .i64 (s2:Int),.int .i64 (29+(q:Int)+(s2:Int)),.int .i64 (29+(q:Int)+(s2:Int)+1),.int .i64 (n:Int),.int .i64 ((n:Int)+1),.int .i64 (t:Int),.int .i64 ((n:Int)+1+(t:Int)),.int .i64 ((n:Int)+1+(t:Int)+(n:Int))] 103 (0,0))∧(b.alloc (.cells #[.int .i64 A2,.string R2] 27)).heap[f.heap.size]? = some (.cells #[.int .i64 A1,.string R1] 27 (0,0))∧(b.alloc (.cells #[.int .i64 A2,.string R2] 27)).heap[b.heap.size]? = some (.cells #[.int .i64 A2,.string R2] 27 (0,0))):=⟨(i.block _ (lt_of_block u.out.2.1)).trans u.out.2.1,(i.block _ (lt_of_block u.out.2.2.2.2.2)).trans u.out.2.2.2.2.2,heap_alloc_new _ _⟩
 have ac:Hid (∀ W:World,Below (b.alloc (.cells #[.int .i64 A2,.string R2] 27)).heap.size (b.alloc (.cells #[.int .i64 A2,.string R2] 27)) W→W.cell? ⟨a.heap.size,0,none⟩=some (.int .i64 (n:Int))∧W.cell? ⟨a.heap.size,1,none⟩=some (.int .i64 2)∧W.cell? ⟨a.heap.size,2,none⟩=some (.int .i64 3)∧W.cell? ⟨a.heap.size,3,none⟩=some (.int .i64 27)∧W.cell? ⟨a.heap.size,4,none⟩=some (.int .i64 28)∧W.cell? ⟨a.heap.size,5,none⟩=some (.int .i64 29)∧W.cell? ⟨a.heap.size,6,none⟩=some (.int .i64 (q:Int))∧W.cell? ⟨a.heap.size,7,none⟩=some (.int .i64 (29+(q:Int)))∧W.cell? ⟨a.heap.size,8,none⟩=some (.int .i64 (s2:Int))∧W.cell? ⟨a.heap.size,9,none⟩=some (.int .i64 (29+(q:Int)+(s2:Int)))∧W.cell? ⟨a.heap.size,10,none⟩=some (.int .i64 (29+(q:Int)+(s2:Int)+1))∧W.cell? ⟨a.heap.size,11,none⟩=some (.int .i64 (n:Int))∧W.cell? ⟨a.heap.size,12,none⟩=some (.int .i64 ((n:Int)+1))∧W.cell? ⟨a.heap.size,13,none⟩=some (.int .i64 (t:Int))∧W.cell? ⟨a.heap.size,14,none⟩=some (.int .i64 ((n:Int)+1+(t:Int)))∧W.cell? ⟨a.heap.size,15,none⟩=some (.int .i64 ((n:Int)+1+(t:Int)+(n:Int)))∧W.cell? ⟨f.heap.size,0,none⟩=some (.int .i64 A1)∧W.cell? ⟨f.heap.size,1,none⟩=some (.string R1)∧W.cell? ⟨b.heap.size,0,none⟩=some (.int .i64 A2)∧W.cell? ⟨b.heap.size,1,none⟩=some (.string R2)):=fun W hW=>Y.out W ((hW.block _ (lt_of_block x.out.1)).trans x.out.1) ((hW.block _ (lt_of_block x.out.2.1)).trans x.out.2.1) ((hW.block _ (lt_of_block x.out.2.2)).trans x.out.2.2)
 have m:Hid (True∧Below (b.alloc (.cells #[.int .i64 A2,.string R2] 27)).heap.size (b.alloc (.cells #[.int .i64 A2,.string R2] 27)) (b.alloc (.cells #[.int .i64 A2,.string R2] 27))):=⟨trivial,Below.refl _ _⟩
 have ag:Hid (Z02 F w (b.alloc (.cells #[.int .i64 A2,.string R2] 27))):=u.out.1.trans (Z02.of_below i)
 have ah:Hid (Duo K (b.alloc (.cells #[.int .i64 A2,.string R2] 27)) F B P S2):=u.out.2.2.1.below HK i
 have ad:Hid (ErrT (b.alloc (.cells #[.int .i64 A2,.string R2] 27))):=u.out.2.2.2.2.1.bel i
 have X:Hid (WtO F (b.alloc (.cells #[.int .i64 A2,.string R2] 27)) (.slice oa l.length ca) l):=u.out.2.2.2.1.below i
 have J:=fun (W:World) (hW:Below (b.alloc (.cells #[.int .i64 A2,.string R2] 27)).heap.size (b.alloc (.cells #[.int .i64 A2,.string R2] 27)) W)=>records_any n q s2 t (.slice oa l.length ca) l W (X.out.1.below hW) (by omega)
 unfold layA at J
 clear i u
 go_region_held3 (fun w'=>w'.cell? ⟨a.heap.size,0,none⟩=some (.int .i64 (n:Int))∧w'.cell? ⟨a.heap.size,1,none⟩=some (.int .i64 2)∧w'.cell? ⟨a.heap.size,2,none⟩=some (.int .i64 3)∧w'.cell? ⟨a.heap.size,3,none⟩=some (.int .i64 27)∧w'.cell? ⟨a.heap.size,4,none⟩=some (.int .i64 28)∧w'.cell? ⟨a.heap.size,5,none⟩=some (.int .i64 29)∧w'.cell? ⟨a.heap.size,6,none⟩=some (.int .i64 (q:Int))∧w'.cell? ⟨a.heap.size,7,none⟩=some (.int .i64 (29+(q:Int)))∧w'.cell? ⟨a.heap.size,8,none⟩=some (.int .i64 (s2:Int))∧w'.cell? ⟨a.heap.size,9,none⟩=some (.int .i64 (29+(q:Int)+(s2:Int)))∧w'.cell? ⟨a.heap.size,10,none⟩=some (.int .i64 (29+(q:Int)+(s2:Int)+1))∧w'.cell? ⟨a.heap.size,11,none⟩=some (.int .i64 (n:Int))∧w'.cell? ⟨a.heap.size,12,none⟩=some (.int .i64 ((n:Int)+1))∧w'.cell? ⟨a.heap.size,13,none⟩=some (.int .i64 (t:Int))∧w'.cell? ⟨a.heap.size,14,none⟩=some (.int .i64 ((n:Int)+1+(t:Int)))∧w'.cell? ⟨a.heap.size,15,none⟩=some (.int .i64 ((n:Int)+1+(t:Int)+(n:Int)))∧w'.cell? ⟨f.heap.size,0,none⟩=some (.int .i64 A1)∧w'.cell? ⟨f.heap.size,1,none⟩=some (.string R1)∧w'.cell? ⟨b.heap.size,0,none⟩=some (.int .i64 A2)∧w'.cell? ⟨b.heap.size,1,none⟩=some (.string R2)) (first | exact a7 | exact aa | exact ac.out _ (by (repeat (first | exact m.out.2 | refine bd ?_ | refine ba ?_)))) (first
  | (go_at_call 51;refine (J _ (by (repeat (first | exact m.out.2 | refine bd ?_ | refine ba ?_)))).mono ?_;rintro e wN ⟨rv,rfl,O,ai⟩;obtain⟨oz,cz,rfl⟩:=O.form;have a3:Hid (Below (b.alloc (.cells #[.int .i64 A2,.string R2] 27)).heap.size (b.alloc (.cells #[.int .i64 A2,.string R2] 27)) wN):=(show Below (b.alloc (.cells #[.int .i64 A2,.string R2] 27)).heap.size (b.alloc (.cells #[.int .i64 A2,.string R2] 27)) _ from (by (repeat (first | exact m.out.2 | refine bd ?_ | refine ba ?_)))).trans (ai.mono (show (b.alloc (.cells #[.int .i64 A2,.string R2] 27)).heap.size≤_ from (show Below (b.alloc (.cells #[.int .i64 A2,.string R2] 27)).heap.size (b.alloc (.cells #[.int .i64 A2,.string R2] 27)) _ from (by (repeat (first | exact m.out.2 | refine bd ?_ | refine ba ?_)))).size));have ak:b.heap.size+1≤wN.heap.size:=(by have q:=a3.out.size;simpa using q);have R:Wts wN (.slice oz (Z1S 3 0 l).length cz) (Z1S 3 0 l)∧Wts.Out (.slice oz (Z1S 3 0 l).length cz) F:=⟨O.wts.1,fun g o len cap e hk=>by have q1:=(O.wts.2 g o len cap e).1;have q2:=z.out.2.2.2.1 _ hk;have q3:=(show Below (b.alloc (.cells #[.int .i64 A2,.string R2] 27)).heap.size (b.alloc (.cells #[.int .i64 A2,.string R2] 27)) _ from (by (repeat (first | exact m.out.2 | refine bd ?_ | refine ba ?_)))).size;simp at q1 q3;omega⟩;have m:Hid (True∧Below (b.alloc (.cells #[.int .i64 A2,.string R2] 27)).heap.size (b.alloc (.cells #[.int .i64 A2,.string R2] 27)) wN):=⟨trivial,a3.out⟩;clear a3 O)
  | (go_at_call 44;refine (follow_4 K HK F B P S2 _ _ _ _ _ (Z1S 3 0 l) [⟨A1,R1⟩] l [⟨A2,R2⟩] _ _ 4 ?_ ?_ af.out ?_ z.out.2.2.1 ⟨?_,fun _=> ?_⟩ ⟨?_,fun _=> ?_⟩ ⟨?_,fun _=> ?_⟩ ⟨?_,fun _=> ?_⟩).mono ?_;(focus (simp;done));(focus (exact ah.out.below HK (by (repeat (first | exact m.out.2 | refine bd ?_ | refine ba ?_)));done));(focus (exact ad.out.bel (by (repeat (first | exact m.out.2 | refine bd ?_ | refine ba ?_)));done));(focus ((repeat (first | exact R.1 | refine Wts.drew ?_ | refine Wts.al ?_));done));(focus (exact R.2;done));(focus ((repeat (first | exact wts_new1 _ _ _ _ _ _ (by simp) | refine Wts.drew ?_ | refine Wts.al ?_ | refine Wts.below ?_ (by assumption)));done));(focus ((exact out_of (fun hk=>by have q:=z.out.2.2.2.1 _ hk;omega));done));(focus (exact X.out.1.below (by (repeat (first | exact m.out.2 | refine bd ?_ | refine ba ?_)));done));(focus (exact X.out.2 (by assumption);done));(focus ((repeat (first | exact wts_new1 _ _ _ _ _ _ (by simp) | refine Wts.drew ?_ | refine Wts.al ?_ | refine Wts.below ?_ (by assumption)));done));(focus ((exact out_of (fun hk=>by have q:=z.out.2.2.2.1 _ hk;omega));done));rintro e wF ⟨⟨fv,rfl,a9⟩,a8,L⟩;have V:Hid _:=duo_fin ag.out z.out.2.2.2.1 (by (repeat (first | exact m.out.2 | refine bd ?_ | refine ba ?_))) a8 L;have s:Hid (wF.heap[a.heap.size]? = some (.cells #[.int .i64 (n:Int),.int .i64 2,.int .i64 3,.int .i64 27,.int .i64 28,.int .i64 29,.int .i64 (q:Int),.int .i64 (29+(q:Int)),.int .i64 (s2:Int),.int .i64 (29+(q:Int)+(s2:Int)),.int .i64 (29+(q:Int)+(s2:Int)+1),.int .i64 (n:Int),.int .i64 ((n:Int)+1),.int .i64 (t:Int),.int .i64 ((n:Int)+1+(t:Int)),.int .i64 ((n:Int)+1+(t:Int)+(n:Int))] 103 (0,0))∧wF.heap[f.heap.size]? = some (.cells #[.int .i64 A1,.string R1] 27 (0,0))∧wF.heap[b.heap.size]? = some (.cells #[.int .i64 A2,.string R2] 27 (0,0))):=⟨(Z6c (W3:=(b.alloc (.cells #[.int .i64 A2,.string R2] 27))) (by (repeat (first | exact m.out.2 | refine bd ?_ | refine ba ?_))) L (by first | (simp;done) | (simp;omega)) (fun hk=>by have q:=z.out.2.2.2.1 _ hk;omega)).trans x.out.1,(Z6c (W3:=(b.alloc (.cells #[.int .i64 A2,.string R2] 27))) (by (repeat (first | exact m.out.2 | refine bd ?_ | refine ba ?_))) L (by first | (simp;done) | (simp;omega)) (fun hk=>by have q:=z.out.2.2.2.1 _ hk;omega)).trans x.out.2.1,(Z6c (W3:=(b.alloc (.cells #[.int .i64 A2,.string R2] 27))) (by (repeat (first | exact m.out.2 | refine bd ?_ | refine ba ?_))) L (by first | (simp;done) | (simp;omega)) (fun hk=>by have q:=z.out.2.2.2.1 _ hk;omega)).trans x.out.2.2⟩;have aa:=Y.out wF s.out.1 s.out.2.1 s.out.2.2;clear a8 L)
  | (go_at_call 43;refine (T _ a9 _).mono ?_;rintro e wG ⟨rfl,hG⟩;have U:Hid _:=duo_step HK V.out hG;have a7:=Y.out wG ((hG.block _ (lt_of_block s.out.1)).trans s.out.1) ((hG.block _ (lt_of_block s.out.2.1)).trans s.out.2.1) ((hG.block _ (lt_of_block s.out.2.2)).trans s.out.2.2);clear hG))
 all_goals
  have HZ:Hid _:=U.out
  clear U V aa a7 a9 T J
  go_wp2
  go_ret
  exact⟨rfl,HZ.out⟩
theorem jrcv_ret (tmps:Array Value)(g:Nat)(w':World)(cs:Array Value)(m y:Int)(R:Ending→World→Prop)(h0:tmps.getD 4 undef= .pointer (some ⟨g,0,none⟩))(h1:tmps.getD 5 undef= .int .i64 m)(h2:tmps.getD 6 undef= .int .i64 y)(hg:w'.heap[g]? = some (.cells cs 23 (0,0)))(hs:cs.size=5)(hR:R (.returned (.tuple #[.agg cs,.int .i64 m,.int .i64 y])) w') :
  bodyPost prog Tryz.f22 R .ret { tmps:=tmps,defers:= []} w':=by
 have a:=run_loadVar_row (P:=prog) w' g 23 23 cs (0,0) _ hg underlying23 rfl (by rw [hs];kernel_rfl)
 simp at h0 h1 h2
 exact bodyPost_ret (v:= .tuple #[.agg cs,.int .i64 m,.int .i64 y]) (by simp [results,Tryz.results22,asAddr,a,h0,h1,h2]) rfl hR
end Go.Proofs.YtijpgmkdnemmbaaGreatDoor
