/- Part 28. -/
import Derived.Test.YtijpgmkdnemmbaaGreatDoorMg27
import Derived.Test.YtijpgmkdnemmbaaGreatDoorMg18
set_option maxRecDepth 20000
set_option maxHeartbeats 8000000
open Go.RowKit Go.Proofs.Tryz
namespace Go.Proofs.YtijpgmkdnemmbaaGreatDoor
theorem Z0B {t:Nat}{cs:Array Value}{W:World}{g:Nat}(h:W.heap[g]? = some (.cells cs t (0,0)))(i:Nat)(v:Value)(hv:cs[i]? = some v):W.cell? ⟨g,i,none⟩=some v:=by
 simp [World.cell?,h,hv]
theorem rgs_two (w:World)(g:Nat)(ok0 ok1:Bool)(h0 h1:Hd)(b0 b1:ByteArray)(t cap:Nat)(hg:g=w.heap.size):Rgs (w.alloc (.cells #[.bool ok0,.int .i64 h0.v0,.int .i64 h0.v1,.int .i64 h0.v2,.int .i64 h0.v3,.int .i64 h0.v4,.int .i64 h0.v5,.int .i64 h0.v6,.int .i64 h0.v7,.string b0,.bool ok1,.int .i64 h1.v0,.int .i64 h1.v1,.int .i64 h1.v2,.int .i64 h1.v3,.int .i64 h1.v4,.int .i64 h1.v5,.int .i64 h1.v6,.int .i64 h1.v7,.string b1] t)) (.slice (some ⟨g,0,none⟩) 2 cap) [⟨ok0,h0,b0⟩,⟨ok1,h1,b1⟩]:=by
 subst hg
 have g:=heap_alloc_new w (.cells #[.bool ok0,.int .i64 h0.v0,.int .i64 h0.v1,.int .i64 h0.v2,.int .i64 h0.v3,.int .i64 h0.v4,.int .i64 h0.v5,.int .i64 h0.v6,.int .i64 h0.v7,.string b0,.bool ok1,.int .i64 h1.v0,.int .i64 h1.v1,.int .i64 h1.v2,.int .i64 h1.v3,.int .i64 h1.v4,.int .i64 h1.v5,.int .i64 h1.v6,.int .i64 h1.v7,.string b1] t)
 have c:=fun i v (h:(#[.bool ok0,.int .i64 h0.v0,.int .i64 h0.v1,.int .i64 h0.v2,.int .i64 h0.v3,.int .i64 h0.v4,.int .i64 h0.v5,.int .i64 h0.v6,.int .i64 h0.v7,.string b0,.bool ok1,.int .i64 h1.v0,.int .i64 h1.v1,.int .i64 h1.v2,.int .i64 h1.v3,.int .i64 h1.v4,.int .i64 h1.v5,.int .i64 h1.v6,.int .i64 h1.v7,.string b1]:Array Value)[i]? = some v)=>Z0B g i v h
 refine .inr ⟨w.heap.size,0,cap,rfl,by simp,fun i r hr=> ?_⟩
 have a:i=0∨i=1:=by have:=(List.getElem?_eq_some_iff.1 hr).1;simp at this;omega
 rcases a with rfl | rfl
 ·cases hr
  exact⟨c 0 _ rfl,c 1 _ rfl,c 2 _ rfl,c 3 _ rfl,c 4 _ rfl,c 5 _ rfl,c 6 _ rfl,c 7 _ rfl,c 8 _ rfl,c 9 _ rfl⟩
 ·cases hr
  exact⟨c 10 _ rfl,c 11 _ rfl,c 12 _ rfl,c 13 _ rfl,c 14 _ rfl,c 15 _ rfl,c 16 _ rfl,c 17 _ rfl,c 18 _ rfl,c 19 _ rfl⟩
theorem Z2L {W:World}{g:Nat}{o:Obj}(h:W.heap[g]? = some o):g<W.heap.size:=by
 by_cases a:g<W.heap.size
 ·exact a
 ·rw [Array.getElem?_eq_none (by omega)] at h;cases h
theorem Z1k {base g:Nat}{W W':World}{o:Obj}(hk:Kept base W W')(hb:base≤g)(h:W.heap[g]? = some o):W'.heap[g]? = some o:=(hk g hb (Z2L h)).trans h
theorem Z4r {g:Nat}{W W':World}{o:Obj}(hk:Below W.heap.size W W')(h:W.heap[g]? = some o):W'.heap[g]? = some o:=(hk.block g (Z2L h)).trans h
theorem Z2f {g:Nat}{W:World}{o x:Obj}(h:W.heap[g]? = some o):(W.alloc x).heap[g]? = some o:=(Below.heap_alloc W x g (Z2L h)).trans h
theorem Z3d {g:Nat}{W:World}{o:Obj}(h:W.heap[g]? = some o):W.drew.heap[g]? = some o:=h
theorem Z0F (w:World)(o:Obj):(w.alloc o).heap[w.heap.size]? = some o:=(MapKept.heap_alloc w o).1
theorem row_new_dr (w:World)(o:Obj):(w.drew.alloc o).heap[w.heap.size]? = some o:=Z0F w.drew o
theorem row_new2 (w:World)(x o:Obj):((w.alloc x).alloc o).heap[w.heap.size+1]? = some o:=by
 have hh:=Z0F (w.alloc x) o
 simpa using hh
theorem rle_al {n:Nat}{w:World}{o:Obj}(h:n≤w.heap.size):n≤(w.alloc o).heap.size:=by simp;omega
theorem stb_two {B:Nat}{Q:World→Prop}{a W c:World}(h:Stb B Q)(hq:Q a)(h1:Below B a W)(hle:B≤W.heap.size)(h2:Below W.heap.size W c):Q c:=h _ _ hq (h1.trans (h2.mono hle))
theorem Z4s {w:World}{a:Addr}{v:Value}{o:Obj}(h:w.cell? a=some v):(w.alloc o).cell? a=some v:=(World.cell?_alloc_lt _ _ _ (World.block_lt_of_cell? w a h)).trans h
theorem set5_cell {w:World}{g b i:Nat}{v:Value}(h:w.cell? ⟨b,i,none⟩=some v)(hne:b≠g)(v0 v1 v2 v3 v4:Value):(((((w.setCell ⟨g,0,none⟩ v0).setCell ⟨g,1,none⟩ v1).setCell ⟨g,2,none⟩ v2).setCell ⟨g,3,none⟩ v3).setCell ⟨g,4,none⟩ v4).cell? ⟨b,i,none⟩=some v:=(World.cell?_of_block (a:=⟨b,i,none⟩) (Z3X w g b hne v0 v1 v2 v3 v4)).trans h
theorem cell_dr {w:World}{a:Addr}{v:Value}(h:w.cell? a=some v):w.drew.cell? a=some v:=h
theorem rle_dr {n:Nat}{w:World}(h:n≤w.heap.size):n≤w.drew.heap.size:=h
theorem row5 {w:World}{g b:Nat}{o:Obj}(h:w.heap[b]? = some o)(hne:b≠g)(v0 v1 v2 v3 v4:Value):(((((w.setCell ⟨g,0,none⟩ v0).setCell ⟨g,1,none⟩ v1).setCell ⟨g,2,none⟩ v2).setCell ⟨g,3,none⟩ v3).setCell ⟨g,4,none⟩ v4).heap[b]? = some o:=(Z3X w g b hne v0 v1 v2 v3 v4).trans h
theorem bal {B:Nat}{a w:World}{o:Obj}(h:Below B a w)(hB:B≤a.heap.size):Below B a (w.alloc o):=h.alloc (Nat.le_trans hB h.size) o
theorem rgs_al {W:World}{v:Value}{l:List Rg}{o:Obj}(h:Rgs W v l):Rgs (W.alloc o) v l:=by
 rcases h with h | ⟨g,o',cap,e,hg,hx⟩
 ·exact .inl h
 ·exact .inr ⟨g,o',cap,e,by simp;omega,fun i r hr=>(hx i r hr).keep (Below.heap_alloc W _ g hg)⟩
structure RcF (b l:Nat) (ZZ LL CC:Array Value) (Q:World→Prop) (G:Nat) (X:World):Prop where
 res:X.heap[b]? = some (.cells ZZ 23 (0,0))
 lay:X.heap[l]? = some (.cells LL 103 (0,0))
 cho:X.heap[G]? = some (.cells CC 23 (0,0))
 q:Q X
 lt:l<G
theorem rcf_set {b l G:Nat}{z0 z1 z2 z3 z4:Value}{LL:Array Value}{Q:World→Prop}{W:World}(hb:b<l)(hS:Stb b Q)(h1:W.heap[b]? = some (.cells #[z0,z1,z2,z3,z4] 23 (0,0)))(h2:W.heap[l]? = some (.cells LL 103 (0,0)))(h3:Q W)(h4:W.heap[G]? = some (.cells #[z0,z1,z2,z3,z4] 23 (0,0)))(h5:l<G)(v0 v1 v2 v3 v4:Value):RcF b l #[z0,z1,z2,z3,z4] LL #[v0,v1,v2,v3,v4] Q G (((((W.setCell ⟨G,0,none⟩ v0).setCell ⟨G,1,none⟩ v1).setCell ⟨G,2,none⟩ v2).setCell ⟨G,3,none⟩ v3).setCell ⟨G,4,none⟩ v4) :=
 ⟨(Z3X _ _ _ (by omega) _ _ _ _ _).trans h1,(Z3X _ _ _ (by omega) _ _ _ _ _).trans h2,set5 h4 _ _ _ _ _,hS _ _ h3 (((((((Below.refl b W).setCell (p:=⟨G,0,none⟩) (by show b≤G;omega) _).setCell (p:=⟨G,1,none⟩) (by show b≤G;omega) _).setCell (p:=⟨G,2,none⟩) (by show b≤G;omega) _).setCell (p:=⟨G,3,none⟩) (by show b≤G;omega) _).setCell (p:=⟨G,4,none⟩) (by show b≤G;omega) _)),h5⟩
theorem rcf_new {b l:Nat}{ZZ LL CC:Array Value}{Q:World→Prop}{W:World}(hS:Stb b Q)(h1:W.heap[b]? = some (.cells ZZ 23 (0,0)))(h2:W.heap[l]? = some (.cells LL 103 (0,0)))(h3:Q W):RcF b l ZZ LL CC Q W.heap.size (W.alloc (.cells CC 23)) :=
 ⟨Z2f h1,Z2f h2,Z0F W _,hS _ _ h3 ((Below.refl b W).alloc (by have:=Z2L h1;omega) _),Z2L h2⟩
structure RcG (b G:Nat) (ZZ CC FF:Array Value) (Q:World→Prop) (H:Nat) (X:World):Prop where
 res:X.heap[b]? = some (.cells ZZ 23 (0,0))
 cho:X.heap[G]? = some (.cells CC 23 (0,0))
 fnd:X.heap[H]? = some (.cells FF 23 (0,0))
 q:Q X
 lt:b<G
theorem rcg_set {b G H:Nat}{z0 z1 z2 z3 z4:Value}{CC ZZ:Array Value}{Q:World→Prop}{W:World}(hb:b<G)(hH:G<H)(hS:Stb b Q)(h1:W.heap[b]? = some (.cells ZZ 23 (0,0)))(h2:W.heap[G]? = some (.cells CC 23 (0,0)))(h3:Q W)(h4:W.heap[H]? = some (.cells #[z0,z1,z2,z3,z4] 23 (0,0)))(v0 v1 v2 v3 v4:Value):RcG b G ZZ CC #[v0,v1,v2,v3,v4] Q H (((((W.setCell ⟨H,0,none⟩ v0).setCell ⟨H,1,none⟩ v1).setCell ⟨H,2,none⟩ v2).setCell ⟨H,3,none⟩ v3).setCell ⟨H,4,none⟩ v4) :=
 ⟨(Z3X _ _ _ (by omega) _ _ _ _ _).trans h1,(Z3X _ _ _ (by omega) _ _ _ _ _).trans h2,set5 h4 _ _ _ _ _,hS _ _ h3 (((((((Below.refl b W).setCell (p:=⟨H,0,none⟩) (by show b≤H;omega) _).setCell (p:=⟨H,1,none⟩) (by show b≤H;omega) _).setCell (p:=⟨H,2,none⟩) (by show b≤H;omega) _).setCell (p:=⟨H,3,none⟩) (by show b≤H;omega) _).setCell (p:=⟨H,4,none⟩) (by show b≤H;omega) _)),hb⟩
theorem rcg_new {b G:Nat}{ZZ CC FF:Array Value}{Q:World→Prop}{W:World}(hb:b<G)(hS:Stb b Q)(h1:W.heap[b]? = some (.cells ZZ 23 (0,0)))(h2:W.heap[G]? = some (.cells CC 23 (0,0)))(h3:Q W):RcG b G ZZ CC FF Q W.heap.size (W.alloc (.cells FF 23)) :=
 ⟨Z2f h1,Z2f h2,Z0F W _,hS _ _ h3 ((Below.refl b W).alloc (by have:=Z2L h1;omega) _),hb⟩
theorem recover_kept (p v:Value)(n q s2 t:Nat)(r0 r1:Rg)(c f:Sp)(fo:Bool)(raws:List ByteArray)(masks:List Int)(w:World)(Q1 Q2 Q3 Q4:World→Prop)(h1s:Stb w.heap.size Q1)(h2s:Stb w.heap.size Q2)(h3s:Stb w.heap.size Q3)(h4s:Stb w.heap.size Q4)
  (hup:∀ W,Below w.heap.size w W→Calls prog 49 #[p] W fun e W'=>e= .returned (.bool true)∧W'=W)
  (hlay:∀ W,Below w.heap.size w W→Calls prog 47 #[p] W fun e W'=>e= .returned (.tuple #[.agg (layA n q s2 t),.int .i64 0])∧Below W.heap.size W W')
  (hl0:∀ W,Below w.heap.size w W→Calls prog 53 #[p,v,.int .i64 0] W fun e W'=>e= .returned (.agg r0.arr)∧Q1 W'∧Kept w.heap.size W W'∧W.heap.size≤W'.heap.size)
  (hl1:∀ W,Q1 W→w.heap.size≤W.heap.size→Calls prog 53 #[p,v,.int .i64 1] W fun e W'=>e= .returned (.agg r1.arr)∧Q2 W'∧Kept w.heap.size W W'∧W.heap.size≤W'.heap.size)
  (hcho:∀ v' W,Rgs W v' [r0,r1]→Calls prog 52 #[v',.int .i64 (n:Int)] W fun e W'=>e= .returned (.tuple #[.agg c.arr,.bool true])∧Below W.heap.size W W')
  (hall:∀ W,Q2 W→w.heap.size≤W.heap.size→Calls prog 55 #[p] W fun e W'=> ∃ oa ca ob cb,e= .returned (.agg #[.slice oa raws.length ca,.slice ob masks.length cb])∧Z27 Value.string W' (.slice oa raws.length ca) raws∧Z27 (Value.int .i64) W' (.slice ob masks.length cb) masks∧Q3 W'∧Kept w.heap.size W W'∧W.heap.size≤W'.heap.size)
  (hfnd:∀ oa ca ob cb W,Q3 W→w.heap.size≤W.heap.size→Z27 Value.string W (.slice oa raws.length ca) raws→Z27 (Value.int .i64) W (.slice ob masks.length cb) masks→Calls prog 54 #[v,.agg (layA n q s2 t),.agg #[.slice oa raws.length ca,.slice ob masks.length cb]] W fun e W'=> ∃ v',e= .returned (.tuple #[v',.agg f.arr,.bool fo])∧Q4 W'∧Kept w.heap.size W W'∧W.heap.size≤W'.heap.size)
  (hno:fo=true→¬ f.ep=wrap64 (c.ep+1)) :
  Calls prog 22 #[p,v] w fun e w'=>e= .returned (.tuple #[.agg c.arr,.int .i64 0,.int .i64 0])∧Q4 w':=by
 have O:=Z1o w (.cells #[.int .i64 0,.int .i64 0,.int .i64 0,.int .i64 0,.string ⟨#[]⟩] 23)
 have g0:=heap_alloc_new w (.cells #[.int .i64 0,.int .i64 0,.int .i64 0,.int .i64 0,.string ⟨#[]⟩] 23)
 have hu:=hup _ O
 have V:=hlay _ O
 unfold layA at V hfnd
 clear hup hlay
 go_enter func22,ntmps22
 go_wp2_with fail
 refine hu.mono ?_
 rintro e w1 ⟨rfl,rfl⟩
 clear hu
 go_wp2_with fail
 refine V.mono ?_
 rintro e a ⟨rfl,z⟩
 clear V
 have N:=heap_alloc_new a (.cells #[.int .i64 (n:Int),.int .i64 2,.int .i64 3,.int .i64 27,.int .i64 28,.int .i64 29,.int .i64 (q:Int),.int .i64 (29+(q:Int)),.int .i64 (s2:Int),.int .i64 (29+(q:Int)+(s2:Int)),.int .i64 (29+(q:Int)+(s2:Int)+1),.int .i64 (n:Int),.int .i64 ((n:Int)+1),.int .i64 (t:Int),.int .i64 ((n:Int)+1+(t:Int)),.int .i64 ((n:Int)+1+(t:Int)+(n:Int))] 103)
 have a8:(a.alloc (.cells #[.int .i64 (n:Int),.int .i64 2,.int .i64 3,.int .i64 27,.int .i64 28,.int .i64 29,.int .i64 (q:Int),.int .i64 (29+(q:Int)),.int .i64 (s2:Int),.int .i64 (29+(q:Int)+(s2:Int)),.int .i64 (29+(q:Int)+(s2:Int)+1),.int .i64 (n:Int),.int .i64 ((n:Int)+1),.int .i64 (t:Int),.int .i64 ((n:Int)+1+(t:Int)),.int .i64 ((n:Int)+1+(t:Int)+(n:Int))] 103)).heap[w.heap.size]? = some (.cells #[.int .i64 0,.int .i64 0,.int .i64 0,.int .i64 0,.string ⟨#[]⟩] 23 (0,0)):=(Below.heap_alloc _ _ _ (by have q:=z.size;simp at q;omega)).trans ((z.block w.heap.size (by simp)).trans g0)
 have g:w.heap.size<a.heap.size:=by have q:=z.size;simp at q;omega
 have af:Below w.heap.size w (a.alloc (.cells #[.int .i64 (n:Int),.int .i64 2,.int .i64 3,.int .i64 27,.int .i64 28,.int .i64 29,.int .i64 (q:Int),.int .i64 (29+(q:Int)),.int .i64 (s2:Int),.int .i64 (29+(q:Int)+(s2:Int)),.int .i64 (29+(q:Int)+(s2:Int)+1),.int .i64 (n:Int),.int .i64 ((n:Int)+1),.int .i64 (t:Int),.int .i64 ((n:Int)+1+(t:Int)),.int .i64 ((n:Int)+1+(t:Int)+(n:Int))] 103)):=(O.trans (z.mono (by simp))).alloc (by omega) _
 obtain⟨b7,h0,b0⟩:=r0
 obtain⟨b8,h1,b1⟩:=r1
 obtain⟨c0,P,c2,c3,cr⟩:=c
 obtain⟨f0,f1,f2,f3,fr⟩:=f
 simp only [Rg.arr,Z4d,Sp.arr] at hl0 hl1 hcho hfnd hno ⊢
 have S:Hid _:=hall
 have R:Hid _:=hfnd
 have ac:Hid _:=hno
 have r:Hid (∀ W:World,W.heap[a.heap.size]? = some (.cells #[.int .i64 (n:Int),.int .i64 2,.int .i64 3,.int .i64 27,.int .i64 28,.int .i64 29,.int .i64 (q:Int),.int .i64 (29+(q:Int)),.int .i64 (s2:Int),.int .i64 (29+(q:Int)+(s2:Int)),.int .i64 (29+(q:Int)+(s2:Int)+1),.int .i64 (n:Int),.int .i64 ((n:Int)+1),.int .i64 (t:Int),.int .i64 ((n:Int)+1+(t:Int)),.int .i64 ((n:Int)+1+(t:Int)+(n:Int))] 103 (0,0))→W.cell? ⟨a.heap.size,0,none⟩=some (.int .i64 (n:Int))):=fun W hW=>cell_of_row _ _ 0 _ _ _ hW
 have d:Hid (_∧_∧_∧_):=⟨h1s,h2s,h3s,h4s⟩
 have gX:(a.alloc (.cells #[.int .i64 (n:Int),.int .i64 2,.int .i64 3,.int .i64 27,.int .i64 28,.int .i64 29,.int .i64 (q:Int),.int .i64 (29+(q:Int)),.int .i64 (s2:Int),.int .i64 (29+(q:Int)+(s2:Int)),.int .i64 (29+(q:Int)+(s2:Int)+1),.int .i64 (n:Int),.int .i64 ((n:Int)+1),.int .i64 (t:Int),.int .i64 ((n:Int)+1+(t:Int)),.int .i64 ((n:Int)+1+(t:Int)+(n:Int))] 103)).heap.size=a.heap.size+1:=by simp
 clear h1s h2s h3s h4s O g0 z hall hfnd hno
 go_wp2_with fail
 generalize (a.alloc (.cells #[.int .i64 (n:Int),.int .i64 2,.int .i64 3,.int .i64 27,.int .i64 28,.int .i64 29,.int .i64 (q:Int),.int .i64 (29+(q:Int)),.int .i64 (s2:Int),.int .i64 (29+(q:Int)+(s2:Int)),.int .i64 (29+(q:Int)+(s2:Int)+1),.int .i64 (n:Int),.int .i64 ((n:Int)+1),.int .i64 (t:Int),.int .i64 ((n:Int)+1+(t:Int)),.int .i64 ((n:Int)+1+(t:Int)+(n:Int))] 103))=X0 at *
 have K:Hid (_∧_∧_):=⟨af,a8,N⟩
 have C:=r.out _ N
 have X:X0.drew.cell? ⟨a.heap.size,0,none⟩=some (.int .i64 (n:Int)):=r.out _ N
 have Q:w.heap.size≤X0.heap.size:=by omega
 have b6:a.heap.size<X0.heap.size:=by omega
 clear N a8 af gX
 go_cut [9,10] from 15 (fun s o wc=> ∃ G,s= .pointer (some ⟨G,0,none⟩)∧o= .bool true∧Hid (RcF w.heap.size a.heap.size #[.int .i64 0,.int .i64 0,.int .i64 0,.int .i64 0,.string ⟨#[]⟩] #[.int .i64 (n:Int),.int .i64 2,.int .i64 3,.int .i64 27,.int .i64 28,.int .i64 29,.int .i64 (q:Int),.int .i64 (29+(q:Int)),.int .i64 (s2:Int),.int .i64 (29+(q:Int)+(s2:Int)),.int .i64 (29+(q:Int)+(s2:Int)+1),.int .i64 (n:Int),.int .i64 ((n:Int)+1),.int .i64 (t:Int),.int .i64 ((n:Int)+1+(t:Int)),.int .i64 ((n:Int)+1+(t:Int)+(n:Int))] #[.int .i64 c0,.int .i64 P,.int .i64 c2,.int .i64 c3,.string cr] Q2 G wc))
 case first =>
  go_region_held3 (fun w'=>w'.cell? ⟨a.heap.size,0,none⟩=some (.int .i64 (n:Int))) (first | with_reducible exact Y | with_reducible exact a0 | with_reducible exact ab | with_reducible exact X | with_reducible exact Z4s Y | with_reducible exact Z4s a0 | with_reducible exact Z4s ab | with_reducible exact Z4s X | with_reducible exact Z4s (Z4s a0) | with_reducible exact cell_dr (Z4s C) | with_reducible exact Z4s C | (with_reducible refine set5_cell Y ?_ _ _ _ _ _;omega)) (first
   | (go_at_call 53;(with_reducible refine (hl0 _ ?_).mono ?_);(focus ((repeat (first | with_reducible exact K.out.1 | with_reducible refine bd ?_ | with_reducible refine ba ?_));done));rintro e T ⟨rfl,a2,M,az⟩;have RA:Hid (T.heap[w.heap.size]? = some (.cells #[.int .i64 0,.int .i64 0,.int .i64 0,.int .i64 0,.string ⟨#[]⟩] 23 (0,0))∧T.heap[a.heap.size]? = some (.cells #[.int .i64 (n:Int),.int .i64 2,.int .i64 3,.int .i64 27,.int .i64 28,.int .i64 29,.int .i64 (q:Int),.int .i64 (29+(q:Int)),.int .i64 (s2:Int),.int .i64 (29+(q:Int)+(s2:Int)),.int .i64 (29+(q:Int)+(s2:Int)+1),.int .i64 (n:Int),.int .i64 ((n:Int)+1),.int .i64 (t:Int),.int .i64 ((n:Int)+1+(t:Int)),.int .i64 ((n:Int)+1+(t:Int)+(n:Int))] 103 (0,0))):=⟨Z1k M (Nat.le_refl _) (by (repeat (first | with_reducible exact K.out.2.1 | with_reducible refine Z3d ?_ | with_reducible refine Z2f ?_))),Z1k M (Nat.le_of_lt g) (by (repeat (first | with_reducible exact K.out.2.2 | with_reducible refine Z3d ?_ | with_reducible refine Z2f ?_)))⟩;(try have i:T.heap[X0.heap.size]? = some (.cells #[.int .i64 0,.int .i64 0,.int .i64 0,.int .i64 0,.string ⟨#[]⟩] 23 (0,0)):=Z1k M Q (by first | with_reducible exact row_new_dr X0 _ | with_reducible exact Z3d (Z0F X0 _) | with_reducible exact Z0F X0 _));have ab:=r.out _ RA.out.2;have aq:Hid (Q1 T):=a2;have k:w.heap.size<T.heap.size:=Z2L RA.out.1;have b3:a.heap.size<T.heap.size:=Z2L RA.out.2;clear a2 M az)
   | (go_at_call 53;(with_reducible refine (hl1 _ ?_ ?_).mono ?_);(focus (refine d.out.1 _ _ aq.out ?_;(repeat (first | with_reducible exact Below.refl _ _ | with_reducible refine bd ?_ | with_reducible refine bal ?_ (Nat.le_of_lt k)));done));(focus ((first | with_reducible exact Nat.le_of_lt k | with_reducible exact rle_al (Nat.le_of_lt k));done));rintro e E ⟨rfl,a3,D,ai⟩;have RB:Hid (E.heap[w.heap.size]? = some (.cells #[.int .i64 0,.int .i64 0,.int .i64 0,.int .i64 0,.string ⟨#[]⟩] 23 (0,0))∧E.heap[a.heap.size]? = some (.cells #[.int .i64 (n:Int),.int .i64 2,.int .i64 3,.int .i64 27,.int .i64 28,.int .i64 29,.int .i64 (q:Int),.int .i64 (29+(q:Int)),.int .i64 (s2:Int),.int .i64 (29+(q:Int)+(s2:Int)),.int .i64 (29+(q:Int)+(s2:Int)+1),.int .i64 (n:Int),.int .i64 ((n:Int)+1),.int .i64 (t:Int),.int .i64 ((n:Int)+1+(t:Int)),.int .i64 ((n:Int)+1+(t:Int)+(n:Int))] 103 (0,0))):=⟨Z1k D (Nat.le_refl _) (by (repeat (first | with_reducible exact RA.out.1 | with_reducible refine Z3d ?_ | with_reducible refine Z2f ?_))),Z1k D (Nat.le_of_lt g) (by (repeat (first | with_reducible exact RA.out.2 | with_reducible refine Z3d ?_ | with_reducible refine Z2f ?_)))⟩;(first | (have i:=Z1k D Q i) | (have i:E.heap[T.heap.size]? = some (.cells #[.int .i64 0,.int .i64 0,.int .i64 0,.int .i64 0,.string ⟨#[]⟩] 23 (0,0)):=Z1k D (Nat.le_of_lt k) (by with_reducible exact heap_alloc_new T _)) | skip);have a0:=r.out _ RB.out.2;have ap:Hid (Q2 E):=a3;have U:w.heap.size<E.heap.size:=Z2L RB.out.1;have b2:a.heap.size<E.heap.size:=Z2L RB.out.2;clear a3 D ai)
   | (go_at_call 52;(with_reducible refine (hcho _ _ ?_).mono ?_);(focus ((repeat (first | exact rgs_two _ _ _ _ _ _ _ _ _ _ (by simp) | refine rgs_al ?_));done));rintro e x ⟨rfl,j⟩;have RC:Hid (x.heap[w.heap.size]? = some (.cells #[.int .i64 0,.int .i64 0,.int .i64 0,.int .i64 0,.string ⟨#[]⟩] 23 (0,0))∧x.heap[a.heap.size]? = some (.cells #[.int .i64 (n:Int),.int .i64 2,.int .i64 3,.int .i64 27,.int .i64 28,.int .i64 29,.int .i64 (q:Int),.int .i64 (29+(q:Int)),.int .i64 (s2:Int),.int .i64 (29+(q:Int)+(s2:Int)),.int .i64 (29+(q:Int)+(s2:Int)+1),.int .i64 (n:Int),.int .i64 ((n:Int)+1),.int .i64 (t:Int),.int .i64 ((n:Int)+1+(t:Int)),.int .i64 ((n:Int)+1+(t:Int)+(n:Int))] 103 (0,0))):=⟨Z4r j (by (repeat (first | with_reducible exact RB.out.1 | with_reducible refine Z3d ?_ | with_reducible refine Z2f ?_))),Z4r j (by (repeat (first | with_reducible exact RB.out.2 | with_reducible refine Z3d ?_ | with_reducible refine Z2f ?_)))⟩;(first | (have i:=Z4r j (Z2f i)) | (have i:x.heap[E.heap.size]? = some (.cells #[.int .i64 0,.int .i64 0,.int .i64 0,.int .i64 0,.string ⟨#[]⟩] 23 (0,0)):=Z4r j (by with_reducible exact Z2f (heap_alloc_new E _))) | (have i:x.heap[E.heap.size+1]? = some (.cells #[.int .i64 0,.int .i64 0,.int .i64 0,.int .i64 0,.string ⟨#[]⟩] 23 (0,0)):=Z4r j (by with_reducible exact row_new2 E _ _)) | skip);(try (have q0:=Z0B i 0 _ rfl;have au:=frozen_of_row x _ 0 _ _ i;have q1:=Z0B i 1 _ rfl;have ar:=frozen_of_row x _ 1 _ _ i;have q2:=Z0B i 2 _ rfl;have av:=frozen_of_row x _ 2 _ _ i;have q3:=Z0B i 3 _ rfl;have al:=frozen_of_row x _ 3 _ _ i;have q4:=Z0B i 4 _ rfl;have ay:=frozen_of_row x _ 4 _ _ i));have Y:=r.out _ RC.out.2;have ae:Hid (Q2 x):=stb_two d.out.2.1 ap.out (by (repeat (first | with_reducible exact Below.refl _ _ | with_reducible refine bd ?_ | with_reducible refine bal ?_ (Nat.le_of_lt U)))) (by repeat (first | with_reducible exact Nat.le_of_lt U | with_reducible refine rle_al ?_)) j;have b5:w.heap.size<x.heap.size:=Z2L RC.out.1;have b4:a.heap.size<x.heap.size:=Z2L RC.out.2;clear j))
  all_goals
   go_wp2_with fail
   go_meet
   exact⟨_,rfl,rfl,by first | exact rcf_set g d.out.2.1 RC.out.1 RC.out.2 ae.out i (by omega) _ _ _ _ _ | exact rcf_new d.out.2.1 RC.out.1 RC.out.2 ae.out⟩
 case rest =>
  obtain⟨G,rfl,rfl,b⟩:=hcut
  clear hl0 hl1 hcho r K X C
  generalize wc=X6 at *
  go_wp2_with fail
  have A:Hid (∀ W:World,W.heap[a.heap.size]? = some (.cells #[.int .i64 (n:Int),.int .i64 2,.int .i64 3,.int .i64 27,.int .i64 28,.int .i64 29,.int .i64 (q:Int),.int .i64 (29+(q:Int)),.int .i64 (s2:Int),.int .i64 (29+(q:Int)+(s2:Int)),.int .i64 (29+(q:Int)+(s2:Int)+1),.int .i64 (n:Int),.int .i64 ((n:Int)+1),.int .i64 (t:Int),.int .i64 ((n:Int)+1+(t:Int)),.int .i64 ((n:Int)+1+(t:Int)+(n:Int))] 103 (0,0))→(W.cell? ⟨a.heap.size,0,none⟩=some (.int .i64 (n:Int))∧W.cell? ⟨a.heap.size,1,none⟩=some (.int .i64 2)∧W.cell? ⟨a.heap.size,2,none⟩=some (.int .i64 3)∧W.cell? ⟨a.heap.size,3,none⟩=some (.int .i64 27)∧W.cell? ⟨a.heap.size,4,none⟩=some (.int .i64 28)∧W.cell? ⟨a.heap.size,5,none⟩=some (.int .i64 29)∧W.cell? ⟨a.heap.size,6,none⟩=some (.int .i64 (q:Int))∧W.cell? ⟨a.heap.size,7,none⟩=some (.int .i64 (29+(q:Int)))∧W.cell? ⟨a.heap.size,8,none⟩=some (.int .i64 (s2:Int))∧W.cell? ⟨a.heap.size,9,none⟩=some (.int .i64 (29+(q:Int)+(s2:Int)))∧W.cell? ⟨a.heap.size,10,none⟩=some (.int .i64 (29+(q:Int)+(s2:Int)+1))∧W.cell? ⟨a.heap.size,11,none⟩=some (.int .i64 (n:Int))∧W.cell? ⟨a.heap.size,12,none⟩=some (.int .i64 ((n:Int)+1))∧W.cell? ⟨a.heap.size,13,none⟩=some (.int .i64 (t:Int))∧W.cell? ⟨a.heap.size,14,none⟩=some (.int .i64 ((n:Int)+1+(t:Int)))∧W.cell? ⟨a.heap.size,15,none⟩=some (.int .i64 ((n:Int)+1+(t:Int)+(n:Int))))):=fun W hW=>⟨cell_of_row _ _ 0 _ _ _ hW,cell_of_row _ _ 1 _ _ _ hW,cell_of_row _ _ 2 _ _ _ hW,cell_of_row _ _ 3 _ _ _ hW,cell_of_row _ _ 4 _ _ _ hW,cell_of_row _ _ 5 _ _ _ hW,cell_of_row _ _ 6 _ _ _ hW,cell_of_row _ _ 7 _ _ _ hW,cell_of_row _ _ 8 _ _ _ hW,cell_of_row _ _ 9 _ _ _ hW,cell_of_row _ _ 10 _ _ _ hW,cell_of_row _ _ 11 _ _ _ hW,cell_of_row _ _ 12 _ _ _ hW,cell_of_row _ _ 13 _ _ _ hW,cell_of_row _ _ 14 _ _ _ hW,cell_of_row _ _ 15 _ _ _ hW⟩
  have a9:=A.out X6.drew b.out.lay
  have J:w.heap.size<X6.heap.size:=Z2L b.out.res
  have ao:=Z2L b.out.cho
  have L:=b.out.lt
  go_cut [10,11,12] from 15 (fun o vs s wc=> ∃ H,s= .pointer (some ⟨H,0,none⟩)∧o= .bool fo∧Hid (RcG w.heap.size G #[.int .i64 0,.int .i64 0,.int .i64 0,.int .i64 0,.string ⟨#[]⟩] #[.int .i64 c0,.int .i64 P,.int .i64 c2,.int .i64 c3,.string cr] #[.int .i64 f0,.int .i64 f1,.int .i64 f2,.int .i64 f3,.string fr] Q4 H wc))
  case first =>
   go_region_held3 (fun w'=>w'.cell? ⟨a.heap.size,0,none⟩=some (.int .i64 (n:Int))∧w'.cell? ⟨a.heap.size,1,none⟩=some (.int .i64 2)∧w'.cell? ⟨a.heap.size,2,none⟩=some (.int .i64 3)∧w'.cell? ⟨a.heap.size,3,none⟩=some (.int .i64 27)∧w'.cell? ⟨a.heap.size,4,none⟩=some (.int .i64 28)∧w'.cell? ⟨a.heap.size,5,none⟩=some (.int .i64 29)∧w'.cell? ⟨a.heap.size,6,none⟩=some (.int .i64 (q:Int))∧w'.cell? ⟨a.heap.size,7,none⟩=some (.int .i64 (29+(q:Int)))∧w'.cell? ⟨a.heap.size,8,none⟩=some (.int .i64 (s2:Int))∧w'.cell? ⟨a.heap.size,9,none⟩=some (.int .i64 (29+(q:Int)+(s2:Int)))∧w'.cell? ⟨a.heap.size,10,none⟩=some (.int .i64 (29+(q:Int)+(s2:Int)+1))∧w'.cell? ⟨a.heap.size,11,none⟩=some (.int .i64 (n:Int))∧w'.cell? ⟨a.heap.size,12,none⟩=some (.int .i64 ((n:Int)+1))∧w'.cell? ⟨a.heap.size,13,none⟩=some (.int .i64 (t:Int))∧w'.cell? ⟨a.heap.size,14,none⟩=some (.int .i64 ((n:Int)+1+(t:Int)))∧w'.cell? ⟨a.heap.size,15,none⟩=some (.int .i64 ((n:Int)+1+(t:Int)+(n:Int)))) (first | with_reducible exact aj | with_reducible exact ax | with_reducible exact a9 | (with_reducible refine A.out _ ?_;(repeat (first | with_reducible exact RE.out.2.1 | with_reducible exact Z.out.2.1 | with_reducible exact b.out.lay | with_reducible refine Z3d ?_ | with_reducible refine Z2f ?_ | with_reducible exact row5 RE.out.2.1 (by omega) _ _ _ _ _));done)) (first
    | (go_at_call 55;(with_reducible refine (S.out _ ?_ ?_).mono ?_);(focus (refine d.out.2.1 _ _ b.out.q ?_;(repeat (first | with_reducible exact Below.refl _ _ | with_reducible refine bd ?_ | with_reducible refine bal ?_ (Nat.le_of_lt J)));done));(focus ((repeat (first | with_reducible exact Nat.le_of_lt J | with_reducible refine rle_dr ?_ | with_reducible refine rle_al ?_));done));rintro e F ⟨oa,ca,ob,cb,rfl,aa,a7,ad,y,ah⟩;have Z:Hid (F.heap[w.heap.size]? = some (.cells #[.int .i64 0,.int .i64 0,.int .i64 0,.int .i64 0,.string ⟨#[]⟩] 23 (0,0))∧F.heap[a.heap.size]? = some (.cells #[.int .i64 (n:Int),.int .i64 2,.int .i64 3,.int .i64 27,.int .i64 28,.int .i64 29,.int .i64 (q:Int),.int .i64 (29+(q:Int)),.int .i64 (s2:Int),.int .i64 (29+(q:Int)+(s2:Int)),.int .i64 (29+(q:Int)+(s2:Int)+1),.int .i64 (n:Int),.int .i64 ((n:Int)+1),.int .i64 (t:Int),.int .i64 ((n:Int)+1+(t:Int)),.int .i64 ((n:Int)+1+(t:Int)+(n:Int))] 103 (0,0))∧F.heap[(_:Nat)]? = some (.cells #[.int .i64 c0,.int .i64 P,.int .i64 c2,.int .i64 c3,.string cr] 23 (0,0))):=⟨Z1k y (Nat.le_refl _) (by (repeat (first | with_reducible exact b.out.res | with_reducible refine Z3d ?_ | with_reducible refine Z2f ?_))),Z1k y (Nat.le_of_lt g) (by (repeat (first | with_reducible exact b.out.lay | with_reducible refine Z3d ?_ | with_reducible refine Z2f ?_))),Z1k y (Nat.le_of_lt (Nat.lt_trans g L)) (by (repeat (first | with_reducible exact b.out.cho | with_reducible refine Z3d ?_ | with_reducible refine Z2f ?_)))⟩;(try have l:F.heap[X6.heap.size]? = some (.cells #[.int .i64 0,.int .i64 0,.int .i64 0,.int .i64 0,.string ⟨#[]⟩] 23 (0,0)):=Z1k y (Nat.le_of_lt J) (by first | with_reducible exact row_new_dr X6 _ | with_reducible exact Z3d (Z0F X6 _) | with_reducible exact Z0F X6 _));have ax:=A.out _ Z.out.2.1;have ag:Hid (Q3 F):=ad;have a5:Hid (Z27 Value.string F (.slice oa raws.length ca) raws∧Z27 (Value.int .i64) F (.slice ob masks.length cb) masks):=⟨aa,a7⟩;have B:w.heap.size<F.heap.size:=Z2L Z.out.1;have ak:=Z2L Z.out.2.2;clear ad y ah aa a7)
    | (go_at_call 54;(with_reducible refine (R.out oa ca ob cb _ ?_ ?_ ?_ ?_).mono ?_);(focus (refine d.out.2.2.1 _ _ ag.out ?_;(repeat (first | with_reducible exact Below.refl _ _ | with_reducible refine bd ?_ | with_reducible refine bal ?_ (Nat.le_of_lt B)));done));(focus ((repeat (first | with_reducible exact Nat.le_of_lt B | with_reducible refine rle_al ?_));done));(focus (refine Z27.below a5.out.1 ?_;(repeat (first | with_reducible exact Below.refl _ _ | with_reducible refine bd ?_ | with_reducible refine ba ?_));done));(focus (refine Z27.below a5.out.2 ?_;(repeat (first | with_reducible exact Below.refl _ _ | with_reducible refine bd ?_ | with_reducible refine ba ?_));done));rintro e I ⟨vv,rfl,a4,m,aw⟩;have RE:Hid (I.heap[w.heap.size]? = some (.cells #[.int .i64 0,.int .i64 0,.int .i64 0,.int .i64 0,.string ⟨#[]⟩] 23 (0,0))∧I.heap[a.heap.size]? = some (.cells #[.int .i64 (n:Int),.int .i64 2,.int .i64 3,.int .i64 27,.int .i64 28,.int .i64 29,.int .i64 (q:Int),.int .i64 (29+(q:Int)),.int .i64 (s2:Int),.int .i64 (29+(q:Int)+(s2:Int)),.int .i64 (29+(q:Int)+(s2:Int)+1),.int .i64 (n:Int),.int .i64 ((n:Int)+1),.int .i64 (t:Int),.int .i64 ((n:Int)+1+(t:Int)),.int .i64 ((n:Int)+1+(t:Int)+(n:Int))] 103 (0,0))∧I.heap[(_:Nat)]? = some (.cells #[.int .i64 c0,.int .i64 P,.int .i64 c2,.int .i64 c3,.string cr] 23 (0,0))):=⟨Z1k m (Nat.le_refl _) (by (repeat (first | with_reducible exact Z.out.1 | with_reducible refine Z3d ?_ | with_reducible refine Z2f ?_))),Z1k m (Nat.le_of_lt g) (by (repeat (first | with_reducible exact Z.out.2.1 | with_reducible refine Z3d ?_ | with_reducible refine Z2f ?_))),Z1k m (Nat.le_of_lt (Nat.lt_trans g L)) (by (repeat (first | with_reducible exact Z.out.2.2 | with_reducible refine Z3d ?_ | with_reducible refine Z2f ?_)))⟩;(first | (have l:=Z1k m (Nat.le_of_lt J) l;have a6:=ao) | (have l:I.heap[F.heap.size]? = some (.cells #[.int .i64 0,.int .i64 0,.int .i64 0,.int .i64 0,.string ⟨#[]⟩] 23 (0,0)):=Z1k m (Nat.le_of_lt B) (by with_reducible exact Z0F F _);have a6:=ak) | skip);(try (have q0:=Z0B l 0 _ rfl;have au:=frozen_of_row I _ 0 _ _ l;have q1:=Z0B l 1 _ rfl;have ar:=frozen_of_row I _ 1 _ _ l;have q2:=Z0B l 2 _ rfl;have av:=frozen_of_row I _ 2 _ _ l;have q3:=Z0B l 3 _ rfl;have al:=frozen_of_row I _ 3 _ _ l;have q4:=Z0B l 4 _ rfl;have ay:=frozen_of_row I _ 4 _ _ l));have aj:=A.out _ RE.out.2.1;have a1:Hid (Q4 I):=a4;clear a4 m aw))
   all_goals
    go_wp2_with fail
    go_meet
    exact⟨_,rfl,rfl,by first | exact rcg_set (Nat.lt_trans g L) a6 d.out.2.2.2 RE.out.1 RE.out.2.2 a1.out l _ _ _ _ _ | exact rcg_new (Nat.lt_trans g L) d.out.2.2.2 RE.out.1 RE.out.2.2 a1.out⟩
  case rest =>
   obtain⟨H,rfl,rfl,u⟩:=hcut
   generalize wc=X9 at *
   have p1:X9.cell? ⟨H,1,none⟩=some (.int .i64 f1):=Z0B u.out.fnd 1 _ rfl
   have p2:X9.cell? ⟨G,1,none⟩=some (.int .i64 P):=Z0B u.out.cho 1 _ rfl
   have p3:fo=true→(f1 != wrap64 (P+1))=true:=fun h=>bne_iff_ne.2 (ac.out h)
   have gR:=u.out.res
   have gC:=u.out.cho
   have HQ:Hid (Q4 X9∧Stb w.heap.size Q4):=⟨u.out.q,d.out.2.2.2⟩
   clear S R ac d b u A a9
   cases fo
   case' true=>have p4:=p3 rfl
   all_goals
    clear p3
    go_wp2_with (first | refine wpList_load_row rfl 23 _ rfl G rfl 23 _ (0,0) _ gC underlying23 rfl (by kernel_rfl) ?_ | refine wpList_store_row rfl 23 _ _ rfl w.heap.size #[.int .i64 c0,.int .i64 P,.int .i64 c2,.int .i64 c3,.string cr] rfl rfl 23 _ gR (by kernel_rfl) rfl (by simp [Value.oneCell']) ?_)
    exact jrcv_ret _ w.heap.size _ #[.int .i64 c0,.int .i64 P,.int .i64 c2,.int .i64 c3,.string cr] 0 0 _ rfl rfl rfl (setRow_heap _ _ _ _ _ _ gR) rfl ⟨rfl,HQ.out.2 _ _ HQ.out.1 (Z0j (Below.refl _ _) (Nat.le_refl _) _)⟩
theorem jviews {base:Nat}{w:World}{M n:Nat}{oa ob:Option Addr}{ca cb:Nat}{raws:List ByteArray}{masks:List Int}(h:Z1y base w M (.slice oa n ca) (.slice ob n cb) raws masks):Z27 Value.string w (.slice oa n ca) raws∧Z27 (Value.int .i64) w (.slice ob n cb) masks:=⟨Z5u h.raws,Z5u h.masks⟩
theorem Z4F {F:Nat→Prop}{b:Nat}{W W':World}(ht:Z02 F W W')(hF:∀ k,F k→k<b):Kept b W W':=fun k h1 h2=>ht.2 k h2 fun h=>by have:=hF k h;omega
theorem duo_stb {K:VK}(HK:VKOk K){F:Nat→Prop}{B:Nat}{P:PS}{S:K.σ}{w:World}(hF:∀ k,F k→k<w.heap.size):Stb w.heap.size (fun W=>Duo K W F B P S∧Z02 F w W):=fun _ _ h hb=>⟨h.1.keep HK hb.size fun k _ hk=>hb.block k (hF k hk),⟨h.2.1.trans (hb.mono (Nat.zero_le _)),fun k hk hn=>(hb.block k hk).trans (h.2.2 k hk hn)⟩⟩
theorem found_onl (K:VK)(HK:VKOk K)(F:Nat→Prop)(T:K.σ)(hr:K.room T 1)(hO:∀ r,K.oE T r=0→(K.oS T r).size=448)(n q s2 t:Nat)(hn:n≤1024)(oa ob:Option Addr)(ca cb:Nat)(raws:List ByteArray)(masks:List Int)(w:World)(hl:K.lies w F T)(h1:Z27 Value.string w (.slice oa raws.length ca) raws)(h2:Z27 (Value.int .i64) w (.slice ob masks.length cb) masks)
  (hall:piB (Z1m K T raws masks 2) (n:Int)=true∧rcdB raws masks 3 (piN (Z1m K T raws masks 2) (n:Int)).toNat=true∧togB 27 (n:Int) (fnW K T raws masks (n:Int))=true) :
  Calls prog 54 #[K.v,.agg (layA n q s2 t),.agg #[.slice oa raws.length ca,.slice ob masks.length cb]] w fun e w'=>FnE K w T raws masks n e w'∧K.lies w' F (fnP K T raws masks (n:Int))∧Z02 F w w':=by
 have b:=fun W (hW:Below w.heap.size w W)=>klook_any K HK F T (HK.less hr (Nat.zero_le _)) oa ob ca cb raws masks 2 W (HK.below hl hW) (h1.below hW) (h2.below hW)
 rw [lookR_arr] at b
 have D:=fun W=>jpri_any (Z1m K T raws masks 2) (n:Int) W (lookR_size hO)
 have A:=lookR_size hO (a:=2) (raws:=raws) (masks:=masks)
 obtain⟨z,d,C⟩:=hall
 obtain⟨m,G⟩:=getN_nat (Z1m K T raws masks 2).body 0 2
 have c:piN (Z1m K T raws masks 2) (n:Int)=(m:Int):=by rw [← G];exact if_pos z
 have o:(Z1m K T raws masks 2).ok=true∧(m:Int)≤24:=by
  have:=of_decide_eq_true z
  exact⟨this.1,G ▸ this.2.2.1⟩
 have H:m≤24:=by omega
 have p:=fun W (hW:Below w.heap.size w W)=>recorded_any n q s2 t oa ob ca cb raws masks m (by omega) W (h1.below hW) (h2.below hW)
 have y:fnW K T raws masks (n:Int)=rcdL raws masks 3 m:=by unfold fnW;rw [c,Int.toNat_natCast]
 rw [c,Int.toNat_natCast] at d
 rw [y] at C
 have l:fnB K T raws masks (n:Int)=true:=by
  unfold fnB
  rw [c,Int.toNat_natCast,z,d,C]
  rfl
 have M:fnP K T raws masks (n:Int)=K.hP T (Z0z (rcdL raws masks 3 m)):=by unfold fnP;rw [if_pos l,y]
 have E:fnOk K T raws masks (n:Int)=decide (K.hS T (Z0z (rcdL raws masks 3 m))=(Z1m K T raws masks 2).body.extract 2 34):=by
  unfold fnOk
  rw [l,y]
  rfl
 have J:=Z88 raws masks 3 m
 have s:=rcdL_sizes raws masks 3 m
 have O:=Z70 _ s
 have L:=joinB_size (rcdL raws masks 3 m)
 have i:=A o.1
 have f:=fun (u:Option Addr) (k:Nat) W (hW:Wts W (.slice u (rcdL raws masks 3 m).length k) (rcdL raws masks 3 m))=>Z6x n q s2 t _ _ W hW (by omega) hn
 rw [C] at f
 have g:=fun (u:Option Addr) (k:Nat) W (hW:Wts W (.slice u (rcdL raws masks 3 m).length k) (rcdL raws masks 3 m))=>joined_any _ _ W hW (by omega) s
 have B:∀ W,Below w.heap.size w W→VOut K F w T W:=fun W hW=>VOut.start HK hl hW
 have j:=fun W (hW:Below w.heap.size w W)=>VOut.hash HK (Z0z (rcdL raws masks 3 m)) (by omega) hr (B W hW)
 have x:fnS K T raws masks (n:Int)=if K.hS T (Z0z (rcdL raws masks 3 m))=(Z1m K T raws masks 2).body.extract 2 34 then piS (Z1m K T raws masks 2) (n:Int) else Sp.zero:=by
  unfold fnS
  rw [E]
  by_cases hh:K.hS T (Z0z (rcdL raws masks 3 m))=(Z1m K T raws masks 2).body.extract 2 34
  ·rw [if_pos hh,if_pos (decide_eq_true hh)]
  ·rw [if_neg hh,if_neg (by simpa using hh)]
 have N:=found_yes K.v n q s2 t oa ob ca cb raws masks (Z1m K T raws masks 2).ok (Z1m K T raws masks 2).h (Z1m K T raws masks 2).body m (piS (Z1m K T raws masks 2) (n:Int)).vol (piS (Z1m K T raws masks 2) (n:Int)).ep (piS (Z1m K T raws masks 2) (n:Int)).nx (piS (Z1m K T raws masks 2) (n:Int)).lv (piS (Z1m K T raws masks 2) (n:Int)).root w b (fun W=>by
   have:=D W
   rw [c,z] at this
   exact this) (rcdL raws masks 3 m) (Z0z (rcdL raws masks 3 m)) (K.hS T (Z0z (rcdL raws masks 3 m))) ((Z1m K T raws masks 2).body.extract 2 34) (fnS K T raws masks (n:Int)).arr (fnOk K T raws masks (n:Int)) rfl (fun hh=>⟨by rw [x,if_pos hh];rfl,by rw [E];exact decide_eq_true hh⟩) (fun hh=>⟨by rw [x,if_neg hh];rfl,by rw [E];exact decide_eq_false hh⟩) (VOut K F w (K.hP T (Z0z (rcdL raws masks 3 m)))) (VOut.stb HK) i (fun W hW=>(p W hW).mono fun e w' ⟨v',he,hy,_,hbb⟩=>by
   have I:=hy d
   obtain⟨u,k,rfl⟩:=I.form
   exact⟨u,k,by rw [he,d],I,hbb⟩) f g j
 refine N.mono fun e w' ⟨v',he,hp,hw⟩=>⟨⟨v',he,fun hh=>by rw [y];exact hw hh⟩,?_,hp.2⟩
 rw [M]
 exact hp.lies HK
theorem found_one (K:VK)(HK:VKOk K)(F:Nat→Prop)(B:Nat)(P:PS)(T:K.σ)(hr:K.room T 1)(hO:∀ r,K.oE T r=0→(K.oS T r).size=448)(n q s2 t:Nat)(hn:n≤1024)(oa ob:Option Addr)(ca cb:Nat)(raws:List ByteArray)(masks:List Int)(w:World)(h:Duo K w F B P T)(h1:Z27 Value.string w (.slice oa raws.length ca) raws)(h2:Z27 (Value.int .i64) w (.slice ob masks.length cb) masks)
  (hall:piB (Z1m K T raws masks 2) (n:Int)=true∧rcdB raws masks 3 (piN (Z1m K T raws masks 2) (n:Int)).toNat=true∧togB 27 (n:Int) (fnW K T raws masks (n:Int))=true) :
  Calls prog 54 #[K.v,.agg (layA n q s2 t),.agg #[.slice oa raws.length ca,.slice ob masks.length cb]] w fun e w'=>FnE K w T raws masks n e w'∧Duo K w' F B P (fnP K T raws masks (n:Int))∧Z02 F w w' :=
 h.vaultW (E:=FnE K w T raws masks n) fun F2 hl _=>found_onl K HK F2 T hr hO n q s2 t hn oa ob ca cb raws masks w hl h1 h2 hall
end Go.Proofs.YtijpgmkdnemmbaaGreatDoor
