/- Part 23. -/
import Derived.Test.YtijpgmkdnemmbaaGreatDoorMg22
set_option maxRecDepth 20000
set_option maxHeartbeats 8000000
open Go.RowKit Go.Proofs.Tryz
namespace Go.Proofs.YtijpgmkdnemmbaaGreatDoor
theorem wts_blk {w X:World}{v:Value}{l:List Wt}(h:Wts w v l)(hz:w.heap.size≤X.heap.size)(hk:∀ g o len cap,v= .slice (some ⟨g,o,none⟩) len cap→X.heap[g]? = w.heap[g]?):Wts X v l:=by
 rcases h with h | ⟨g,o,cap,e,hg,hx⟩
 ·exact .inl h
 ·exact .inr ⟨g,o,cap,e,Nat.lt_of_lt_of_le hg hz,fun i x hi=>(hx i x hi).keep (hk _ _ _ _ e)⟩
theorem Z3X (w:World)(b g:Nat)(hne:g≠b)(v0 v1 v2 v3 v4:Value):(((((w.setCell ⟨b,0,none⟩ v0).setCell ⟨b,1,none⟩ v1).setCell ⟨b,2,none⟩ v2).setCell ⟨b,3,none⟩ v3).setCell ⟨b,4,none⟩ v4).heap[g]? = w.heap[g]? :=by
 have e:=fun W=>Below.heap_setCell W ⟨b,4,none⟩ v4 g hne
 have a:=fun W=>Below.heap_setCell W ⟨b,3,none⟩ v3 g hne
 have c:=fun W=>Below.heap_setCell W ⟨b,2,none⟩ v2 g hne
 have f:=fun W=>Below.heap_setCell W ⟨b,1,none⟩ v1 g hne
 have d:=fun W=>Below.heap_setCell W ⟨b,0,none⟩ v0 g hne
 rw [e,a,c,f,d]
theorem heap_drew_ (w:World):w.drew.heap=w.heap:=rfl
theorem wts_set5 {w:World}{b:Nat}{v:Value}{l:List Wt}(h:Wts w v l)(hb:∀ g o len cap,v= .slice (some ⟨g,o,none⟩) len cap→g≠b)(v0 v1 v2 v3 v4:Value):Wts (((((w.setCell ⟨b,0,none⟩ v0).setCell ⟨b,1,none⟩ v1).setCell ⟨b,2,none⟩ v2).setCell ⟨b,3,none⟩ v3).setCell ⟨b,4,none⟩ v4).drew v l :=
 wts_blk h (by simp) fun g o len cap e=>by
  rw [heap_drew_]
  exact Z3X w b g (hb g o len cap e) v0 v1 v2 v3 v4
theorem wts_kept {w w5 w6:World}{v:Value}{l:List Wt}(h:Wts w5 v l)(hk:Kept w.heap.size w5 w6)(hz:w5.heap.size≤w6.heap.size)(hb:∀ g o len cap,v= .slice (some ⟨g,o,none⟩) len cap→w.heap.size≤g):Wts w6 v l:=by
 rcases h with h | ⟨g,o,cap,e,hg,hx⟩
 ·exact .inl h
 ·exact .inr ⟨g,o,cap,e,Nat.lt_of_lt_of_le hg hz,fun i x hi=>(hx i x hi).keep (hk g (hb _ _ _ _ e) hg)⟩
theorem found_yes (v:Value)(n q s2 t:Nat)(oa ob:Option Addr)(ca cb:Nat)(raws:List ByteArray)(masks:List Int)(ok:Bool)(h:Hd)(body:ByteArray)(m:Nat)(s0 s1 s3 s4:Int)(r:ByteArray)(w:World)
  (hlook:∀ W,Below w.heap.size w W→Calls prog 92 #[v,.agg #[.slice oa raws.length ca,.slice ob masks.length cb],.int .i64 2] W fun e W'=>e= .returned (.agg #[.bool ok,.int .i64 h.v0,.int .i64 h.v1,.int .i64 h.v2,.int .i64 h.v3,.int .i64 h.v4,.int .i64 h.v5,.int .i64 h.v6,.int .i64 h.v7,.string body])∧Below W.heap.size W W')
  (hpi:∀ W,Calls prog 93 #[.agg #[.bool ok,.int .i64 h.v0,.int .i64 h.v1,.int .i64 h.v2,.int .i64 h.v3,.int .i64 h.v4,.int .i64 h.v5,.int .i64 h.v6,.int .i64 h.v7,.string body],.int .i64 (n:Int)] W fun e W'=>e= .returned (.tuple #[.int .i64 (m:Int),.agg #[.int .i64 s0,.int .i64 s1,.int .i64 s3,.int .i64 s4,.string r],.bool true])∧Below W.heap.size W W')
  (l:List Wt)(J H U:ByteArray)(P2:Array Value)(P3:Bool)(hU:body.extract 2 34=U)(hyes:H=U→P2=#[.int .i64 s0,.int .i64 s1,.int .i64 s3,.int .i64 s4,.string r]∧P3=true)(hno:¬ H=U→P2=#[.int .i64 0,.int .i64 0,.int .i64 0,.int .i64 0,.string ⟨#[]⟩]∧P3=false)(P:World→Prop)(hP:Stb w.heap.size P)(hbs:body.size=448)
  (hrcd:∀ W,Below w.heap.size w W→Calls prog 94 #[.agg (layA n q s2 t),.agg #[.slice oa raws.length ca,.slice ob masks.length cb],.int .i64 (m:Int)] W fun e W'=> ∃ oz cz,e= .returned (.tuple #[.slice oz l.length cz,.bool true])∧WZ W' W.heap.size (.slice oz l.length cz) l∧Below W.heap.size W W')
  (htog:∀ oz cz W,Wts W (.slice oz l.length cz) l→Calls prog 48 #[.agg #[.int .i64 (n:Int),.int .i64 2,.int .i64 3,.int .i64 27,.int .i64 28,.int .i64 29,.int .i64 (q:Int),.int .i64 (29+(q:Int)),.int .i64 (s2:Int),.int .i64 (29+(q:Int)+(s2:Int)),.int .i64 (29+(q:Int)+(s2:Int)+1),.int .i64 (n:Int),.int .i64 ((n:Int)+1),.int .i64 (t:Int),.int .i64 ((n:Int)+1+(t:Int)),.int .i64 ((n:Int)+1+(t:Int)+(n:Int))],.slice oz l.length cz] W fun e W'=>e= .returned (.bool true)∧Below W.heap.size W W')
  (hjoin:∀ oz cz W,Wts W (.slice oz l.length cz) l→Calls prog 88 #[.slice oz l.length cz] W fun e W'=>e= .returned (.string J)∧Below W.heap.size W W')
  (hhash:∀ W,Below w.heap.size w W→Calls prog 87 #[v,.string J] W fun e W'=>e= .returned (.string H)∧P W'∧Kept w.heap.size W W'∧W.heap.size≤W'.heap.size) :
  Calls prog 54 #[v,.agg (layA n q s2 t),.agg #[.slice oa raws.length ca,.slice ob masks.length cb]] w fun e w'=> ∃ v',e= .returned (.tuple #[v',.agg P2,.bool P3])∧P w'∧(P3=true→Wts w' v' l∧∀ g o len cap,v'= .slice (some ⟨g,o,none⟩) len cap→w.heap.size≤g∧g<w'.heap.size):=by
 have K:Below w.heap.size w (((w.alloc (.cells (layA n q s2 t) 103)).alloc (.cells #[.slice oa raws.length ca,.slice ob masks.length cb] 131)).alloc (.cells #[.int .i64 0,.int .i64 0,.int .i64 0,.int .i64 0,.string ⟨#[]⟩] 23)):=(((Below.refl _ _).alloc (Nat.le_refl _) _).alloc (by simp) _).alloc (by simp;omega) _
 have h1:=hlook _ K
 have gL:(((w.alloc (.cells (layA n q s2 t) 103)).alloc (.cells #[.slice oa raws.length ca,.slice ob masks.length cb] 131)).alloc (.cells #[.int .i64 0,.int .i64 0,.int .i64 0,.int .i64 0,.string ⟨#[]⟩] 23)).heap[w.heap.size]? = some (.cells (layA n q s2 t) 103 (0,0)):=(Below.heap_alloc _ _ _ (by simp;omega)).trans (heap_alloc2_old w _ _)
 have gI:(((w.alloc (.cells (layA n q s2 t) 103)).alloc (.cells #[.slice oa raws.length ca,.slice ob masks.length cb] 131)).alloc (.cells #[.int .i64 0,.int .i64 0,.int .i64 0,.int .i64 0,.string ⟨#[]⟩] 23)).heap[w.heap.size+1]? = some (.cells #[.slice oa raws.length ca,.slice ob masks.length cb] 131 (0,0)):=(Below.heap_alloc _ _ _ (by simp)).trans (heap_alloc2_new w _ _)
 have gR:(((w.alloc (.cells (layA n q s2 t) 103)).alloc (.cells #[.slice oa raws.length ca,.slice ob masks.length cb] 131)).alloc (.cells #[.int .i64 0,.int .i64 0,.int .i64 0,.int .i64 0,.string ⟨#[]⟩] 23)).heap[w.heap.size+1+1]? = some (.cells #[.int .i64 0,.int .i64 0,.int .i64 0,.int .i64 0,.string ⟨#[]⟩] 23 (0,0)):=by
  have:=heap_alloc_new ((w.alloc (.cells (layA n q s2 t) 103)).alloc (.cells #[.slice oa raws.length ca,.slice ob masks.length cb] 131)) (.cells #[.int .i64 0,.int .i64 0,.int .i64 0,.int .i64 0,.string ⟨#[]⟩] 23)
  simpa using this
 unfold layA at h1 gL gI gR K hrcd ⊢
 clear hlook
 go_enter func54,ntmps54
 go_wp2_with fail
 refine h1.mono ?_
 rintro e i ⟨rfl,D⟩
 have Z:=(D.block _ (lt_of_block gL)).trans gL
 have a1:=(D.block _ (lt_of_block gI)).trans gI
 have V:=(D.block _ (lt_of_block gR)).trans gR
 have a5:=lt_of_block V
 have u:Below i.heap.size i (i.alloc (.cells #[.bool ok,.int .i64 h.v0,.int .i64 h.v1,.int .i64 h.v2,.int .i64 h.v3,.int .i64 h.v4,.int .i64 h.v5,.int .i64 h.v6,.int .i64 h.v7,.string body] 125)):=(Below.refl _ _).alloc (Nat.le_refl _) _
 have n1:=cell_of_row _ _ 0 _ _ _ ((u.block _ (by omega)).trans Z)
 have f:Hid (Below w.heap.size w (i.alloc (.cells #[.bool ok,.int .i64 h.v0,.int .i64 h.v1,.int .i64 h.v2,.int .i64 h.v3,.int .i64 h.v4,.int .i64 h.v5,.int .i64 h.v6,.int .i64 h.v7,.string body] 125))∧(i.alloc (.cells #[.bool ok,.int .i64 h.v0,.int .i64 h.v1,.int .i64 h.v2,.int .i64 h.v3,.int .i64 h.v4,.int .i64 h.v5,.int .i64 h.v6,.int .i64 h.v7,.string body] 125)).heap[w.heap.size]? = some (.cells #[.int .i64 (n:Int),.int .i64 2,.int .i64 3,.int .i64 27,.int .i64 28,.int .i64 29,.int .i64 (q:Int),.int .i64 (29+(q:Int)),.int .i64 (s2:Int),.int .i64 (29+(q:Int)+(s2:Int)),.int .i64 (29+(q:Int)+(s2:Int)+1),.int .i64 (n:Int),.int .i64 ((n:Int)+1),.int .i64 (t:Int),.int .i64 ((n:Int)+1+(t:Int)),.int .i64 ((n:Int)+1+(t:Int)+(n:Int))] 103 (0,0))∧(i.alloc (.cells #[.bool ok,.int .i64 h.v0,.int .i64 h.v1,.int .i64 h.v2,.int .i64 h.v3,.int .i64 h.v4,.int .i64 h.v5,.int .i64 h.v6,.int .i64 h.v7,.string body] 125)).heap[w.heap.size+1]? = some (.cells #[.slice oa raws.length ca,.slice ob masks.length cb] 131 (0,0))∧(i.alloc (.cells #[.bool ok,.int .i64 h.v0,.int .i64 h.v1,.int .i64 h.v2,.int .i64 h.v3,.int .i64 h.v4,.int .i64 h.v5,.int .i64 h.v6,.int .i64 h.v7,.string body] 125)).heap[w.heap.size+1+1]? = some (.cells #[.int .i64 0,.int .i64 0,.int .i64 0,.int .i64 0,.string ⟨#[]⟩] 23 (0,0))∧(i.alloc (.cells #[.bool ok,.int .i64 h.v0,.int .i64 h.v1,.int .i64 h.v2,.int .i64 h.v3,.int .i64 h.v4,.int .i64 h.v5,.int .i64 h.v6,.int .i64 h.v7,.string body] 125)).heap[i.heap.size]? = some (.cells #[.bool ok,.int .i64 h.v0,.int .i64 h.v1,.int .i64 h.v2,.int .i64 h.v3,.int .i64 h.v4,.int .i64 h.v5,.int .i64 h.v6,.int .i64 h.v7,.string body] 125 (0,0))∧w.heap.size+1+1<i.heap.size):=⟨(K.trans (D.mono K.size)).trans (u.mono (by omega)),(u.block _ (by omega)).trans Z,(u.block _ (by omega)).trans a1,(u.block _ (by omega)).trans V,heap_alloc_new i _,a5⟩
 clear h1 K gL gI gR D Z a1 V u
 go_wp2_with fail
 refine (hpi _).mono ?_
 rintro e b ⟨rfl,Q⟩
 have aj:i.heap.size<b.heap.size:=by have:=Q.size;simp at this;omega
 have u:Below b.heap.size b (b.alloc (.cells #[.int .i64 s0,.int .i64 s1,.int .i64 s3,.int .i64 s4,.string r] 23)):=(Below.refl _ _).alloc (Nat.le_refl _) _
 have x:=Q.trans (u.mono Q.size)
 have a:Hid (Below w.heap.size w (b.alloc (.cells #[.int .i64 s0,.int .i64 s1,.int .i64 s3,.int .i64 s4,.string r] 23))∧(b.alloc (.cells #[.int .i64 s0,.int .i64 s1,.int .i64 s3,.int .i64 s4,.string r] 23)).heap[w.heap.size]? = some (.cells #[.int .i64 (n:Int),.int .i64 2,.int .i64 3,.int .i64 27,.int .i64 28,.int .i64 29,.int .i64 (q:Int),.int .i64 (29+(q:Int)),.int .i64 (s2:Int),.int .i64 (29+(q:Int)+(s2:Int)),.int .i64 (29+(q:Int)+(s2:Int)+1),.int .i64 (n:Int),.int .i64 ((n:Int)+1),.int .i64 (t:Int),.int .i64 ((n:Int)+1+(t:Int)),.int .i64 ((n:Int)+1+(t:Int)+(n:Int))] 103 (0,0))∧(b.alloc (.cells #[.int .i64 s0,.int .i64 s1,.int .i64 s3,.int .i64 s4,.string r] 23)).heap[w.heap.size+1]? = some (.cells #[.slice oa raws.length ca,.slice ob masks.length cb] 131 (0,0))∧(b.alloc (.cells #[.int .i64 s0,.int .i64 s1,.int .i64 s3,.int .i64 s4,.string r] 23)).heap[w.heap.size+1+1]? = some (.cells #[.int .i64 0,.int .i64 0,.int .i64 0,.int .i64 0,.string ⟨#[]⟩] 23 (0,0))∧(b.alloc (.cells #[.int .i64 s0,.int .i64 s1,.int .i64 s3,.int .i64 s4,.string r] 23)).heap[i.heap.size]? = some (.cells #[.bool ok,.int .i64 h.v0,.int .i64 h.v1,.int .i64 h.v2,.int .i64 h.v3,.int .i64 h.v4,.int .i64 h.v5,.int .i64 h.v6,.int .i64 h.v7,.string body] 125 (0,0))∧(b.alloc (.cells #[.int .i64 s0,.int .i64 s1,.int .i64 s3,.int .i64 s4,.string r] 23)).heap[b.heap.size]? = some (.cells #[.int .i64 s0,.int .i64 s1,.int .i64 s3,.int .i64 s4,.string r] 23 (0,0))∧w.heap.size+1+1<i.heap.size):=⟨f.out.1.trans (x.mono f.out.1.size),(x.block _ (lt_of_block f.out.2.1)).trans f.out.2.1,(x.block _ (lt_of_block f.out.2.2.1)).trans f.out.2.2.1,(x.block _ (lt_of_block f.out.2.2.2.1)).trans f.out.2.2.2.1,(x.block _ (lt_of_block f.out.2.2.2.2.1)).trans f.out.2.2.2.2.1,heap_alloc_new b _,f.out.2.2.2.2.2⟩
 have h3:=hrcd _ a.out.1
 have i0:(b.alloc (.cells #[.int .i64 s0,.int .i64 s1,.int .i64 s3,.int .i64 s4,.string r] 23)).cell? ⟨w.heap.size+1,0,none⟩=some (.slice oa raws.length ca):=cell_of_row _ _ 0 _ _ _ a.out.2.2.1
 have i1:(b.alloc (.cells #[.int .i64 s0,.int .i64 s1,.int .i64 s3,.int .i64 s4,.string r] 23)).cell? ⟨w.heap.size+1,1,none⟩=some (.slice ob masks.length cb):=cell_of_row _ _ 1 _ _ _ a.out.2.2.1
 have y0:(b.alloc (.cells #[.int .i64 s0,.int .i64 s1,.int .i64 s3,.int .i64 s4,.string r] 23)).cell? ⟨w.heap.size,0,none⟩=some (.int .i64 (n:Int)):=cell_of_row _ _ 0 _ _ _ a.out.2.1
 have y1:(b.alloc (.cells #[.int .i64 s0,.int .i64 s1,.int .i64 s3,.int .i64 s4,.string r] 23)).cell? ⟨w.heap.size,1,none⟩=some (.int .i64 2):=cell_of_row _ _ 1 _ _ _ a.out.2.1
 have y2:(b.alloc (.cells #[.int .i64 s0,.int .i64 s1,.int .i64 s3,.int .i64 s4,.string r] 23)).cell? ⟨w.heap.size,2,none⟩=some (.int .i64 3):=cell_of_row _ _ 2 _ _ _ a.out.2.1
 have y3:(b.alloc (.cells #[.int .i64 s0,.int .i64 s1,.int .i64 s3,.int .i64 s4,.string r] 23)).cell? ⟨w.heap.size,3,none⟩=some (.int .i64 27):=cell_of_row _ _ 3 _ _ _ a.out.2.1
 have y4:(b.alloc (.cells #[.int .i64 s0,.int .i64 s1,.int .i64 s3,.int .i64 s4,.string r] 23)).cell? ⟨w.heap.size,4,none⟩=some (.int .i64 28):=cell_of_row _ _ 4 _ _ _ a.out.2.1
 have y5:(b.alloc (.cells #[.int .i64 s0,.int .i64 s1,.int .i64 s3,.int .i64 s4,.string r] 23)).cell? ⟨w.heap.size,5,none⟩=some (.int .i64 29):=cell_of_row _ _ 5 _ _ _ a.out.2.1
 have y6:(b.alloc (.cells #[.int .i64 s0,.int .i64 s1,.int .i64 s3,.int .i64 s4,.string r] 23)).cell? ⟨w.heap.size,6,none⟩=some (.int .i64 (q:Int)):=cell_of_row _ _ 6 _ _ _ a.out.2.1
 have y7:(b.alloc (.cells #[.int .i64 s0,.int .i64 s1,.int .i64 s3,.int .i64 s4,.string r] 23)).cell? ⟨w.heap.size,7,none⟩=some (.int .i64 (29+(q:Int))):=cell_of_row _ _ 7 _ _ _ a.out.2.1
 have y8:(b.alloc (.cells #[.int .i64 s0,.int .i64 s1,.int .i64 s3,.int .i64 s4,.string r] 23)).cell? ⟨w.heap.size,8,none⟩=some (.int .i64 (s2:Int)):=cell_of_row _ _ 8 _ _ _ a.out.2.1
 have y9:(b.alloc (.cells #[.int .i64 s0,.int .i64 s1,.int .i64 s3,.int .i64 s4,.string r] 23)).cell? ⟨w.heap.size,9,none⟩=some (.int .i64 (29+(q:Int)+(s2:Int))):=cell_of_row _ _ 9 _ _ _ a.out.2.1
 have ac:(b.alloc (.cells #[.int .i64 s0,.int .i64 s1,.int .i64 s3,.int .i64 s4,.string r] 23)).cell? ⟨w.heap.size,10,none⟩=some (.int .i64 (29+(q:Int)+(s2:Int)+1)):=cell_of_row _ _ 10 _ _ _ a.out.2.1
 have ad:(b.alloc (.cells #[.int .i64 s0,.int .i64 s1,.int .i64 s3,.int .i64 s4,.string r] 23)).cell? ⟨w.heap.size,11,none⟩=some (.int .i64 (n:Int)):=cell_of_row _ _ 11 _ _ _ a.out.2.1
 have ai:(b.alloc (.cells #[.int .i64 s0,.int .i64 s1,.int .i64 s3,.int .i64 s4,.string r] 23)).cell? ⟨w.heap.size,12,none⟩=some (.int .i64 ((n:Int)+1)):=cell_of_row _ _ 12 _ _ _ a.out.2.1
 have af:(b.alloc (.cells #[.int .i64 s0,.int .i64 s1,.int .i64 s3,.int .i64 s4,.string r] 23)).cell? ⟨w.heap.size,13,none⟩=some (.int .i64 (t:Int)):=cell_of_row _ _ 13 _ _ _ a.out.2.1
 have ah:(b.alloc (.cells #[.int .i64 s0,.int .i64 s1,.int .i64 s3,.int .i64 s4,.string r] 23)).cell? ⟨w.heap.size,14,none⟩=some (.int .i64 ((n:Int)+1+(t:Int))):=cell_of_row _ _ 14 _ _ _ a.out.2.1
 have ag:(b.alloc (.cells #[.int .i64 s0,.int .i64 s1,.int .i64 s3,.int .i64 s4,.string r] 23)).cell? ⟨w.heap.size,15,none⟩=some (.int .i64 ((n:Int)+1+(t:Int)+(n:Int))):=cell_of_row _ _ 15 _ _ _ a.out.2.1
 clear hpi Q n1 f u x hrcd
 go_wp2_with fail
 refine h3.mono ?_
 rintro e s ⟨oz,cz,rfl,Y,T⟩
 have C:Hid (∀ W:World,(W.heap[w.heap.size]? = some (.cells #[.int .i64 (n:Int),.int .i64 2,.int .i64 3,.int .i64 27,.int .i64 28,.int .i64 29,.int .i64 (q:Int),.int .i64 (29+(q:Int)),.int .i64 (s2:Int),.int .i64 (29+(q:Int)+(s2:Int)),.int .i64 (29+(q:Int)+(s2:Int)+1),.int .i64 (n:Int),.int .i64 ((n:Int)+1),.int .i64 (t:Int),.int .i64 ((n:Int)+1+(t:Int)),.int .i64 ((n:Int)+1+(t:Int)+(n:Int))] 103 (0,0))∧W.heap[w.heap.size+1+1]? = some (.cells #[.int .i64 0,.int .i64 0,.int .i64 0,.int .i64 0,.string ⟨#[]⟩] 23 (0,0))∧W.heap[i.heap.size]? = some (.cells #[.bool ok,.int .i64 h.v0,.int .i64 h.v1,.int .i64 h.v2,.int .i64 h.v3,.int .i64 h.v4,.int .i64 h.v5,.int .i64 h.v6,.int .i64 h.v7,.string body] 125 (0,0))∧W.heap[b.heap.size]? = some (.cells #[.int .i64 s0,.int .i64 s1,.int .i64 s3,.int .i64 s4,.string r] 23 (0,0)))→(W.cell? ⟨w.heap.size,0,none⟩=some (.int .i64 (n:Int))∧W.cell? ⟨w.heap.size,1,none⟩=some (.int .i64 2)∧W.cell? ⟨w.heap.size,2,none⟩=some (.int .i64 3)∧W.cell? ⟨w.heap.size,3,none⟩=some (.int .i64 27)∧W.cell? ⟨w.heap.size,4,none⟩=some (.int .i64 28)∧W.cell? ⟨w.heap.size,5,none⟩=some (.int .i64 29)∧W.cell? ⟨w.heap.size,6,none⟩=some (.int .i64 (q:Int))∧W.cell? ⟨w.heap.size,7,none⟩=some (.int .i64 (29+(q:Int)))∧W.cell? ⟨w.heap.size,8,none⟩=some (.int .i64 (s2:Int))∧W.cell? ⟨w.heap.size,9,none⟩=some (.int .i64 (29+(q:Int)+(s2:Int)))∧W.cell? ⟨w.heap.size,10,none⟩=some (.int .i64 (29+(q:Int)+(s2:Int)+1))∧W.cell? ⟨w.heap.size,11,none⟩=some (.int .i64 (n:Int))∧W.cell? ⟨w.heap.size,12,none⟩=some (.int .i64 ((n:Int)+1))∧W.cell? ⟨w.heap.size,13,none⟩=some (.int .i64 (t:Int))∧W.cell? ⟨w.heap.size,14,none⟩=some (.int .i64 ((n:Int)+1+(t:Int)))∧W.cell? ⟨w.heap.size,15,none⟩=some (.int .i64 ((n:Int)+1+(t:Int)+(n:Int)))∧W.cell? ⟨i.heap.size,9,none⟩=some (.string body))):=fun W hW=>⟨cell_of_row _ _ 0 _ _ _ hW.1,cell_of_row _ _ 1 _ _ _ hW.1,cell_of_row _ _ 2 _ _ _ hW.1,cell_of_row _ _ 3 _ _ _ hW.1,cell_of_row _ _ 4 _ _ _ hW.1,cell_of_row _ _ 5 _ _ _ hW.1,cell_of_row _ _ 6 _ _ _ hW.1,cell_of_row _ _ 7 _ _ _ hW.1,cell_of_row _ _ 8 _ _ _ hW.1,cell_of_row _ _ 9 _ _ _ hW.1,cell_of_row _ _ 10 _ _ _ hW.1,cell_of_row _ _ 11 _ _ _ hW.1,cell_of_row _ _ 12 _ _ _ hW.1,cell_of_row _ _ 13 _ _ _ hW.1,cell_of_row _ _ 14 _ _ _ hW.1,cell_of_row _ _ 15 _ _ _ hW.1,cell_of_row _ _ 9 _ _ _ hW.2.2.1⟩
 have ak:w.heap.size+1+1<i.heap.size:=a.out.2.2.2.2.2.2
 have R:Hid (∀ W W':World,(∀ k o,W.heap[k]? = some o→W'.heap[k]? = W.heap[k]? )→(W.heap[w.heap.size]? = some (.cells #[.int .i64 (n:Int),.int .i64 2,.int .i64 3,.int .i64 27,.int .i64 28,.int .i64 29,.int .i64 (q:Int),.int .i64 (29+(q:Int)),.int .i64 (s2:Int),.int .i64 (29+(q:Int)+(s2:Int)),.int .i64 (29+(q:Int)+(s2:Int)+1),.int .i64 (n:Int),.int .i64 ((n:Int)+1),.int .i64 (t:Int),.int .i64 ((n:Int)+1+(t:Int)),.int .i64 ((n:Int)+1+(t:Int)+(n:Int))] 103 (0,0))∧W.heap[w.heap.size+1+1]? = some (.cells #[.int .i64 0,.int .i64 0,.int .i64 0,.int .i64 0,.string ⟨#[]⟩] 23 (0,0))∧W.heap[i.heap.size]? = some (.cells #[.bool ok,.int .i64 h.v0,.int .i64 h.v1,.int .i64 h.v2,.int .i64 h.v3,.int .i64 h.v4,.int .i64 h.v5,.int .i64 h.v6,.int .i64 h.v7,.string body] 125 (0,0))∧W.heap[b.heap.size]? = some (.cells #[.int .i64 s0,.int .i64 s1,.int .i64 s3,.int .i64 s4,.string r] 23 (0,0)))→(W'.heap[w.heap.size]? = some (.cells #[.int .i64 (n:Int),.int .i64 2,.int .i64 3,.int .i64 27,.int .i64 28,.int .i64 29,.int .i64 (q:Int),.int .i64 (29+(q:Int)),.int .i64 (s2:Int),.int .i64 (29+(q:Int)+(s2:Int)),.int .i64 (29+(q:Int)+(s2:Int)+1),.int .i64 (n:Int),.int .i64 ((n:Int)+1),.int .i64 (t:Int),.int .i64 ((n:Int)+1+(t:Int)),.int .i64 ((n:Int)+1+(t:Int)+(n:Int))] 103 (0,0))∧W'.heap[w.heap.size+1+1]? = some (.cells #[.int .i64 0,.int .i64 0,.int .i64 0,.int .i64 0,.string ⟨#[]⟩] 23 (0,0))∧W'.heap[i.heap.size]? = some (.cells #[.bool ok,.int .i64 h.v0,.int .i64 h.v1,.int .i64 h.v2,.int .i64 h.v3,.int .i64 h.v4,.int .i64 h.v5,.int .i64 h.v6,.int .i64 h.v7,.string body] 125 (0,0))∧W'.heap[b.heap.size]? = some (.cells #[.int .i64 s0,.int .i64 s1,.int .i64 s3,.int .i64 s4,.string r] 23 (0,0)))):=fun W W' hk hW=>⟨(hk _ _ hW.1).trans hW.1,(hk _ _ hW.2.1).trans hW.2.1,(hk _ _ hW.2.2.1).trans hW.2.2.1,(hk _ _ hW.2.2.2).trans hW.2.2.2⟩
 have S:Hid (s.heap[w.heap.size]? = some (.cells #[.int .i64 (n:Int),.int .i64 2,.int .i64 3,.int .i64 27,.int .i64 28,.int .i64 29,.int .i64 (q:Int),.int .i64 (29+(q:Int)),.int .i64 (s2:Int),.int .i64 (29+(q:Int)+(s2:Int)),.int .i64 (29+(q:Int)+(s2:Int)+1),.int .i64 (n:Int),.int .i64 ((n:Int)+1),.int .i64 (t:Int),.int .i64 ((n:Int)+1+(t:Int)),.int .i64 ((n:Int)+1+(t:Int)+(n:Int))] 103 (0,0))∧s.heap[w.heap.size+1+1]? = some (.cells #[.int .i64 0,.int .i64 0,.int .i64 0,.int .i64 0,.string ⟨#[]⟩] 23 (0,0))∧s.heap[i.heap.size]? = some (.cells #[.bool ok,.int .i64 h.v0,.int .i64 h.v1,.int .i64 h.v2,.int .i64 h.v3,.int .i64 h.v4,.int .i64 h.v5,.int .i64 h.v6,.int .i64 h.v7,.string body] 125 (0,0))∧s.heap[b.heap.size]? = some (.cells #[.int .i64 s0,.int .i64 s1,.int .i64 s3,.int .i64 s4,.string r] 23 (0,0))):=R.out _ _ (fun k o hk=>T.block k (lt_of_block hk)) ⟨a.out.2.1,a.out.2.2.2.1,a.out.2.2.2.2.1,a.out.2.2.2.2.2.1⟩
 have a7:Hid (Below w.heap.size w s):=a.out.1.trans (T.mono a.out.1.size)
 have A:Hid (Wts s (.slice oz l.length cz) l∧∀ g o len cap,(.slice oz l.length cz:Value)= .slice (some ⟨g,o,none⟩) len cap→b.heap.size<g∧g<s.heap.size):=⟨Y.wts.1,fun g o len cap e=>by have q:=Y.wts.2 g o len cap e;simp at q;omega⟩
 have a9:=C.out s S.out
 have ae:(34:Int)≤body.size:=by omega
 clear h3 T Y a i0 i1 y0 y1 y2 y3 y4 y5 y6 y7 y8 y9 ac ad ai af ah ag
 have O:Hid ((H=U→P2=#[.int .i64 s0,.int .i64 s1,.int .i64 s3,.int .i64 s4,.string r]∧P3=true)∧(¬ H=U→P2=#[.int .i64 0,.int .i64 0,.int .i64 0,.int .i64 0,.string ⟨#[]⟩]∧P3=false)∧Stb w.heap.size P):=⟨hyes,hno,hP⟩
 clear hyes hno hP
 go_wp2_with fail
 go_region_held3 (fun w'=>w'.cell? ⟨w.heap.size,0,none⟩=some (.int .i64 (n:Int))∧w'.cell? ⟨w.heap.size,1,none⟩=some (.int .i64 2)∧w'.cell? ⟨w.heap.size,2,none⟩=some (.int .i64 3)∧w'.cell? ⟨w.heap.size,3,none⟩=some (.int .i64 27)∧w'.cell? ⟨w.heap.size,4,none⟩=some (.int .i64 28)∧w'.cell? ⟨w.heap.size,5,none⟩=some (.int .i64 29)∧w'.cell? ⟨w.heap.size,6,none⟩=some (.int .i64 (q:Int))∧w'.cell? ⟨w.heap.size,7,none⟩=some (.int .i64 (29+(q:Int)))∧w'.cell? ⟨w.heap.size,8,none⟩=some (.int .i64 (s2:Int))∧w'.cell? ⟨w.heap.size,9,none⟩=some (.int .i64 (29+(q:Int)+(s2:Int)))∧w'.cell? ⟨w.heap.size,10,none⟩=some (.int .i64 (29+(q:Int)+(s2:Int)+1))∧w'.cell? ⟨w.heap.size,11,none⟩=some (.int .i64 (n:Int))∧w'.cell? ⟨w.heap.size,12,none⟩=some (.int .i64 ((n:Int)+1))∧w'.cell? ⟨w.heap.size,13,none⟩=some (.int .i64 (t:Int))∧w'.cell? ⟨w.heap.size,14,none⟩=some (.int .i64 ((n:Int)+1+(t:Int)))∧w'.cell? ⟨w.heap.size,15,none⟩=some (.int .i64 ((n:Int)+1+(t:Int)+(n:Int)))∧w'.cell? ⟨i.heap.size,9,none⟩=some (.string body)) (first | exact a8 | exact aa | exact a2 | exact a9) (first
  | (go_at_call 48;refine (htog oz cz s.drew (A.out.1.below (Below.refl s.heap.size s).drew)).mono ?_;rintro e w4 ⟨rfl,a6⟩;have F:Below s.heap.size s w4:=(Below.refl s.heap.size s).drew.trans a6;have a0:Hid (w4.heap[w.heap.size]? = some (.cells #[.int .i64 (n:Int),.int .i64 2,.int .i64 3,.int .i64 27,.int .i64 28,.int .i64 29,.int .i64 (q:Int),.int .i64 (29+(q:Int)),.int .i64 (s2:Int),.int .i64 (29+(q:Int)+(s2:Int)),.int .i64 (29+(q:Int)+(s2:Int)+1),.int .i64 (n:Int),.int .i64 ((n:Int)+1),.int .i64 (t:Int),.int .i64 ((n:Int)+1+(t:Int)),.int .i64 ((n:Int)+1+(t:Int)+(n:Int))] 103 (0,0))∧w4.heap[w.heap.size+1+1]? = some (.cells #[.int .i64 0,.int .i64 0,.int .i64 0,.int .i64 0,.string ⟨#[]⟩] 23 (0,0))∧w4.heap[i.heap.size]? = some (.cells #[.bool ok,.int .i64 h.v0,.int .i64 h.v1,.int .i64 h.v2,.int .i64 h.v3,.int .i64 h.v4,.int .i64 h.v5,.int .i64 h.v6,.int .i64 h.v7,.string body] 125 (0,0))∧w4.heap[b.heap.size]? = some (.cells #[.int .i64 s0,.int .i64 s1,.int .i64 s3,.int .i64 s4,.string r] 23 (0,0))):=R.out _ _ (fun k o hk=>F.block k (lt_of_block hk)) S.out;have a2:=C.out w4 a0.out;have B:Hid (Wts w4 (.slice oz l.length cz) l∧Below w.heap.size w w4):=⟨A.out.1.below F,a7.out.trans (F.mono a7.out.size)⟩;have E:Hid (s.heap.size≤w4.heap.size):=F.size;clear a6 F)
  | (go_at_call 88;refine (hjoin oz cz _ B.out.1).mono ?_;rintro e M ⟨rfl,G⟩;have j:Hid (M.heap[w.heap.size]? = some (.cells #[.int .i64 (n:Int),.int .i64 2,.int .i64 3,.int .i64 27,.int .i64 28,.int .i64 29,.int .i64 (q:Int),.int .i64 (29+(q:Int)),.int .i64 (s2:Int),.int .i64 (29+(q:Int)+(s2:Int)),.int .i64 (29+(q:Int)+(s2:Int)+1),.int .i64 (n:Int),.int .i64 ((n:Int)+1),.int .i64 (t:Int),.int .i64 ((n:Int)+1+(t:Int)),.int .i64 ((n:Int)+1+(t:Int)+(n:Int))] 103 (0,0))∧M.heap[w.heap.size+1+1]? = some (.cells #[.int .i64 0,.int .i64 0,.int .i64 0,.int .i64 0,.string ⟨#[]⟩] 23 (0,0))∧M.heap[i.heap.size]? = some (.cells #[.bool ok,.int .i64 h.v0,.int .i64 h.v1,.int .i64 h.v2,.int .i64 h.v3,.int .i64 h.v4,.int .i64 h.v5,.int .i64 h.v6,.int .i64 h.v7,.string body] 125 (0,0))∧M.heap[b.heap.size]? = some (.cells #[.int .i64 s0,.int .i64 s1,.int .i64 s3,.int .i64 s4,.string r] 23 (0,0))):=R.out _ _ (fun k o hk=>G.block k (lt_of_block hk)) a0.out;have aa:=C.out M j.out;have N:Hid (Wts M (.slice oz l.length cz) l∧Below w.heap.size w M):=⟨B.out.1.below G,B.out.2.trans (G.mono B.out.2.size)⟩;have E:Hid (s.heap.size≤M.heap.size):=Nat.le_trans E.out G.size;clear G)
  | (go_at_call 87;refine (hhash _ N.out.2).mono ?_;rintro e d ⟨rfl,a3,z,a4⟩;have c:Hid (d.heap[w.heap.size]? = some (.cells #[.int .i64 (n:Int),.int .i64 2,.int .i64 3,.int .i64 27,.int .i64 28,.int .i64 29,.int .i64 (q:Int),.int .i64 (29+(q:Int)),.int .i64 (s2:Int),.int .i64 (29+(q:Int)+(s2:Int)),.int .i64 (29+(q:Int)+(s2:Int)+1),.int .i64 (n:Int),.int .i64 ((n:Int)+1),.int .i64 (t:Int),.int .i64 ((n:Int)+1+(t:Int)),.int .i64 ((n:Int)+1+(t:Int)+(n:Int))] 103 (0,0))∧d.heap[w.heap.size+1+1]? = some (.cells #[.int .i64 0,.int .i64 0,.int .i64 0,.int .i64 0,.string ⟨#[]⟩] 23 (0,0))∧d.heap[i.heap.size]? = some (.cells #[.bool ok,.int .i64 h.v0,.int .i64 h.v1,.int .i64 h.v2,.int .i64 h.v3,.int .i64 h.v4,.int .i64 h.v5,.int .i64 h.v6,.int .i64 h.v7,.string body] 125 (0,0))∧d.heap[b.heap.size]? = some (.cells #[.int .i64 s0,.int .i64 s1,.int .i64 s3,.int .i64 s4,.string r] 23 (0,0))):=⟨(z _ (Nat.le_refl _) (lt_of_block j.out.1)).trans j.out.1,(z _ (by omega) (lt_of_block j.out.2.1)).trans j.out.2.1,(z _ (by omega) (lt_of_block j.out.2.2.1)).trans j.out.2.2.1,(z _ (by omega) (lt_of_block j.out.2.2.2)).trans j.out.2.2.2⟩;have a8:=C.out d c.out;have L:Hid (P d∧Kept w.heap.size M d∧M.heap.size≤d.heap.size):=⟨a3,z,a4⟩;clear a3 z a4))
 clear a9 a2 aa a8 htog hjoin hhash C R S a0 j ae hU
 obtain⟨bq,y⟩:∃ bq,(!(H.toList==U.toList))=bq:=⟨_,rfl⟩
 rw [y]
 have HQ:Hid ((bq=false→H=U)∧(bq=true→¬ H=U)):=by
  refine⟨fun h=> ?_,fun h e=> ?_⟩
  ·rw [h] at y
   have q:H.toList=U.toList:=by simpa using y
   rw [ByteArray.toList_eq,ByteArray.toList_eq] at q
   exact ByteArray.ext (Array.ext' q)
  ·rw [h,e] at y
   simp at y
 clear y
 cases bq with
 | false =>
  have I:=HQ.out.1 rfl
  have HE:Hid _:=O.out.1 I
  clear I
  have q0:d.cell? ⟨w.heap.size+1+1,0,none⟩=some (.int .i64 0):=cell_of_row _ _ 0 _ _ _ c.out.2.1
  have q1:d.cell? ⟨w.heap.size+1+1,1,none⟩=some (.int .i64 0):=cell_of_row _ _ 1 _ _ _ c.out.2.1
  have q2:d.cell? ⟨w.heap.size+1+1,2,none⟩=some (.int .i64 0):=cell_of_row _ _ 2 _ _ _ c.out.2.1
  have q3:d.cell? ⟨w.heap.size+1+1,3,none⟩=some (.int .i64 0):=cell_of_row _ _ 3 _ _ _ c.out.2.1
  have q4:d.cell? ⟨w.heap.size+1+1,4,none⟩=some (.string ⟨#[]⟩):=cell_of_row _ _ 4 _ _ _ c.out.2.1
  have f0:=frozen_of_row d (w.heap.size+1+1) 0 _ _ c.out.2.1
  have f1:=frozen_of_row d (w.heap.size+1+1) 1 _ _ c.out.2.1
  have f2:=frozen_of_row d (w.heap.size+1+1) 2 _ _ c.out.2.1
  have f3:=frozen_of_row d (w.heap.size+1+1) 3 _ _ c.out.2.1
  have f4:=frozen_of_row d (w.heap.size+1+1) 4 _ _ c.out.2.1
  have p0:d.cell? ⟨b.heap.size,0,none⟩=some (.int .i64 s0):=cell_of_row _ _ 0 _ _ _ c.out.2.2.2
  have p1:d.cell? ⟨b.heap.size,1,none⟩=some (.int .i64 s1):=cell_of_row _ _ 1 _ _ _ c.out.2.2.2
  have p2:d.cell? ⟨b.heap.size,2,none⟩=some (.int .i64 s3):=cell_of_row _ _ 2 _ _ _ c.out.2.2.2
  have p3:d.cell? ⟨b.heap.size,3,none⟩=some (.int .i64 s4):=cell_of_row _ _ 3 _ _ _ c.out.2.2.2
  have p4:d.cell? ⟨b.heap.size,4,none⟩=some (.string r):=cell_of_row _ _ 4 _ _ _ c.out.2.2.2
  have HX:Hid ((((((d.setCell ⟨w.heap.size+1+1,0,none⟩ (.int .i64 s0)).setCell ⟨w.heap.size+1+1,1,none⟩ (.int .i64 s1)).setCell ⟨w.heap.size+1+1,2,none⟩ (.int .i64 s3)).setCell ⟨w.heap.size+1+1,3,none⟩ (.int .i64 s4)).setCell ⟨w.heap.size+1+1,4,none⟩ (.string r)).drew.heap[w.heap.size+1+1]? = some (.cells #[.int .i64 s0,.int .i64 s1,.int .i64 s3,.int .i64 s4,.string r] 23 (0,0))∧Below w.heap.size d (((((d.setCell ⟨w.heap.size+1+1,0,none⟩ (.int .i64 s0)).setCell ⟨w.heap.size+1+1,1,none⟩ (.int .i64 s1)).setCell ⟨w.heap.size+1+1,2,none⟩ (.int .i64 s3)).setCell ⟨w.heap.size+1+1,3,none⟩ (.int .i64 s4)).setCell ⟨w.heap.size+1+1,4,none⟩ (.string r)).drew):=⟨set5 c.out.2.1 _ _ _ _ _,((((((Below.refl w.heap.size d).setCell (p:=⟨w.heap.size+1+1,0,none⟩) (by show w.heap.size≤w.heap.size+1+1;omega) _).setCell (p:=⟨w.heap.size+1+1,1,none⟩) (by show w.heap.size≤w.heap.size+1+1;omega) _).setCell (p:=⟨w.heap.size+1+1,2,none⟩) (by show w.heap.size≤w.heap.size+1+1;omega) _).setCell (p:=⟨w.heap.size+1+1,3,none⟩) (by show w.heap.size≤w.heap.size+1+1;omega) _).setCell (p:=⟨w.heap.size+1+1,4,none⟩) (by show w.heap.size≤w.heap.size+1+1;omega) _).drew⟩
  have X:Hid (Wts d (.slice oz l.length cz) l∧∀ g o len cap,(.slice oz l.length cz:Value)= .slice (some ⟨g,o,none⟩) len cap→b.heap.size<g∧g<s.heap.size):=⟨wts_kept N.out.1 L.out.2.1 L.out.2.2 (fun g o len cap e=>by have q:=(A.out.2 g o len cap e).1;omega),A.out.2⟩
  have ab:Hid (Wts (((((d.setCell ⟨w.heap.size+1+1,0,none⟩ (.int .i64 s0)).setCell ⟨w.heap.size+1+1,1,none⟩ (.int .i64 s1)).setCell ⟨w.heap.size+1+1,2,none⟩ (.int .i64 s3)).setCell ⟨w.heap.size+1+1,3,none⟩ (.int .i64 s4)).setCell ⟨w.heap.size+1+1,4,none⟩ (.string r)).drew (.slice oz l.length cz) l∧s.heap.size≤d.heap.size):=⟨wts_set5 X.out.1 (fun g o len cap e=>by have q:=(X.out.2 g o len cap e).1;omega) _ _ _ _ _,by have q1:=L.out.2.2;have q2:=E.out;omega⟩
  clear c B A N
  go_wp2_with fail
  go_region
  go_wp2_with fail
  refine jfnd_ret _ (w.heap.size+1+1) _ (.slice oz l.length cz) #[.int .i64 s0,.int .i64 s1,.int .i64 s3,.int .i64 s4,.string r] true _ rfl rfl rfl ?_ rfl ⟨.slice oz l.length cz,?_,?_,?_⟩
  ·exact HX.out.1
  ·rw [HE.out.1,HE.out.2]
  ·exact O.out.2.2 _ _ L.out.1 HX.out.2
  ·exact fun _=>⟨ab.out.1,fun g o len cap e=>by have q:=X.out.2 g o len cap e;have q2:=ab.out.2;have q3:=HX.out.2.size;omega⟩
 | true =>
  have I:=HQ.out.2 rfl
  have HE:Hid _:=O.out.2.1 I
  have g6:=c.out.2.1
  clear I c A B N
  go_wp2_with (refine wpList_store_row rfl 23 _ _ rfl (w.heap.size+1+1) #[.int .i64 0,.int .i64 0,.int .i64 0,.int .i64 0,.string ⟨#[]⟩] rfl rfl 23 _ g6 (by kernel_rfl) rfl (by simp [Value.oneCell']) ?_)
  refine jfnd_ret _ (w.heap.size+1+1) _ (.slice none 0 0) #[.int .i64 0,.int .i64 0,.int .i64 0,.int .i64 0,.string ⟨#[]⟩] false _ rfl rfl rfl (setRow_heap _ _ _ _ _ _ g6) rfl ⟨.slice none 0 0,by rw [HE.out.1,HE.out.2],O.out.2.2 _ _ L.out.1 (Z0j (Below.refl _ _) (by omega) _),fun h=>by rw [HE.out.2] at h;cases h⟩
theorem ideal_oSize (B:Nat)(S:VS)(hl:S.seals.length≤1000000)(r:ByteArray)(h:(Z07 B).oE S r=0):((Z07 B).oS S r).size=448:=by
 obtain⟨d,s,e,a,c,rfl⟩:=(bopen_iff S r hl).1 h
 obtain⟨_,_,b⟩:=bopen_blk S d s hl e a c
 show (Z2X S _).size=448
 rw [b]
 exact a
theorem lookR_size {K:VK}{S:K.σ}{raws:List ByteArray}{masks:List Int}{a:Int}(hO:∀ r,K.oE S r=0→(K.oS S r).size=448)(h:(Z1m K S raws masks a).ok=true):(Z1m K S raws masks a).body.size=448:=by
 unfold Z1m at h ⊢
 split at h
 ·next hm =>
  rw [if_pos hm]
  unfold toldR at h ⊢
  split at h
  ·next hc =>
   rw [if_pos hc]
   exact hO _ hc.1
  ·cases h
 ·cases h
theorem Duo.vaultW {K:VK}{w:World}{F:Nat→Prop}{B:Nat}{P:PS}{S:K.σ}(h:Duo K w F B P S){f:FuncId}{args:Array Value}{E:Ending→World→Prop}{S':K.σ}
  (hc:∀ F2,K.lies w F2 S→(∀ k,F2 k→F k)→Calls prog f args w fun e w'=>E e w'∧K.lies w' F2 S'∧Z02 F2 w w') :
  Calls prog f args w fun e w'=>E e w'∧Duo K w' F B P S'∧Z02 F w w':=by
 obtain⟨a,F2,h⟩:=h
 exact (hc F2 h.vault h.in2).mono fun e w' ⟨he,hp,ht⟩=>⟨he,⟨a,F2,h.plate.keep fun k hk hF=>ht.2 k hk (h.apart k hF),hp,h.apart,h.in1,h.in2,fun k hF=>Nat.lt_of_lt_of_le (h.lt k hF) ht.size⟩,ht.mono h.in2⟩
def fnS (K:VK)(T:K.σ)(raws:List ByteArray)(masks:List Int)(n:Int):Sp:=if fnOk K T raws masks n then piS (Z1m K T raws masks 2) n else Sp.zero
theorem getN_nat (s:ByteArray)(a k:Int):∃ m:Nat,getN s a k=(m:Int):=by
 unfold getN
 split
 ·exact⟨_,(Int.toNat_of_nonneg (Z3f _)).symm⟩
 ·exact⟨0,rfl⟩
theorem rcdL_sizes (raws:List ByteArray)(masks:List Int)(log:Int)(n:Nat):∀ x∈rcdL raws masks log n,x.raw.size≤512:=by
 intro x a
 unfold rcdL at a
 obtain⟨i,_,rfl⟩:=List.mem_map.1 a
 exact Nat.le_of_eq (atS_size _ _ _)
def FnE (K:VK)(w:World)(T:K.σ)(raws:List ByteArray)(masks:List Int)(n:Nat)(e:Ending)(w':World):Prop:= ∃ v',e= .returned (.tuple #[v',.agg (fnS K T raws masks (n:Int)).arr,.bool (fnOk K T raws masks (n:Int))])∧(fnOk K T raws masks (n:Int)=true→Wts w' v' (fnW K T raws masks (n:Int))∧∀ g o len cap,v'= .slice (some ⟨g,o,none⟩) len cap→w.heap.size≤g∧g<w'.heap.size)
end Go.Proofs.YtijpgmkdnemmbaaGreatDoor
