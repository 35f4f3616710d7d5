/- Part 16. -/
import Derived.Test.YtijpgmkdnemmbaaGreatDoorMg15
import Derived.Test.YtijpgmkdnemmbaaGreatDoorMg13
set_option maxRecDepth 20000
set_option maxHeartbeats 8000000
open Go.RowKit Go.Proofs.Tryz
namespace Go.Proofs.YtijpgmkdnemmbaaGreatDoor
theorem Z4X (a:Nat):∀ (n j:Nat) (S:PS) (t:ByteArray) (m:Nat),(Z43 a n j S t m).2.wait=S.wait∧(Z43 a n j S t m).2.kept.length=S.kept.length
 | 0,_,_,_,_=>⟨rfl,rfl⟩
 | n+1,j,S,t,m=>by
  have hr:=readP_len S ((8*a+j:Nat):Int)
  unfold Z43
  split
  ·have:=Z4X a n (j+1) (Z2z S ((8*a+j:Nat):Int)) (t++Z2N S ((8*a+j:Nat):Int)) m
   exact⟨this.1.trans hr.2,this.2.trans hr.1⟩
  ·split
   ·have:=Z4X a n (j+1) (Z2z S ((8*a+j:Nat):Int)) (t++Z0c 0 64) (m+2 ^ j)
    exact⟨this.1.trans hr.2,this.2.trans hr.1⟩
   ·exact⟨hr.2,hr.1⟩
theorem bget_keeps (S:PS)(a:Int):(bget S a).2.wait=S.wait∧(bget S a).2.kept.length=S.kept.length:=by
 unfold bget
 split
 ·exact Z4X _ _ _ _ _ _
 ·exact⟨rfl,rfl⟩
def stA (S:PS):Nat→PS
 | 0=>S
 | j+1=>(bget (stA S j) ((j:Nat):Int)).2
def rawA (S:PS)(j:Nat):ByteArray:=if (bget (stA S j) ((j:Nat):Int)).1.2.2=0 then (bget (stA S j) ((j:Nat):Int)).1.1 else Z0c 0 512
def maskA (S:PS)(j:Nat):Int:=if (bget (stA S j) ((j:Nat):Int)).1.2.2=0 then (((bget (stA S j) ((j:Nat):Int)).1.2.1:Nat):Int) else 255
theorem stA_keeps (S:PS):∀ j,(stA S j).wait=S.wait∧(stA S j).kept.length=S.kept.length
 | 0=>⟨rfl,rfl⟩
 | j+1=>by
  have h1:=bget_keeps (stA S j) ((j:Nat):Int)
  have h2:=stA_keeps S j
  exact⟨h1.1.trans h2.1,h1.2.trans h2.2⟩
def Z1C (S:PS)(j:Nat):List ByteArray:=(List.range j).map (rawA S)
def Z0Z (S:PS)(j:Nat):List Int:=(List.range j).map (maskA S)
theorem rawsTo_succ (S:PS)(j:Nat):Z1C S (j+1)=Z1C S j ++ [rawA S j]:=by simp [Z1C,List.range_succ]
theorem masksTo_succ (S:PS)(j:Nat):Z0Z S (j+1)=Z0Z S j ++ [maskA S j]:=by simp [Z0Z,List.range_succ]
theorem Z3Q (S:PS)(j:Nat):(Z1C S j).length=j:=by simp [Z1C]
theorem Z3o (S:PS)(j:Nat):(Z0Z S j).length=j:=by simp [Z0Z]
structure Z1y (base:Nat) (w:World) (M:Nat) (rv mv:Value) (raws:List ByteArray) (masks:List Int):Prop where
 row:Row w M 131 [rv,mv]
 raws:w.ownsRow 0 9 1 rv raws.length (raws.map Value.string)
 masks:w.ownsRow 0 3 1 mv masks.length (masks.map (Value.int .i64))
 low:base≤M
 fR:∀ g,rv.ownBlock=some g→base≤g
 fM:∀ g,mv.ownBlock=some g→base≤g
 rM:Z2O rv M
 mM:Z2O mv M
 rm:Z5t rv mv
theorem Z1y.keep {base:Nat}{w w':World}{M:Nat}{rv mv:Value}{raws:List ByteArray}{masks:List Int}(h:Z1y base w M rv mv raws masks)(hb:∀ k,base≤k→k<w.heap.size→w'.heap[k]? = w.heap[k]?):Z1y base w' M rv mv raws masks :=
 { h with row:=(hb M h.low h.row.lt).trans h.row,raws:=Z0L h.raws fun g hg=>hb g (h.fR g hg) (Z0Y h.raws g hg),masks:=Z0L h.masks fun g hg=>hb g (h.fM g hg) (Z0Y h.masks g hg)}
theorem Z1y.low_mono {base b2:Nat}{w:World}{M:Nat}{rv mv:Value}{raws:List ByteArray}{masks:List Int}(h:Z1y base w M rv mv raws masks)(hb:b2≤base):Z1y b2 w M rv mv raws masks :=
 { h with low:=Nat.le_trans hb h.low,fR:=fun g hg=>Nat.le_trans hb (h.fR g hg),fM:=fun g hg=>Nat.le_trans hb (h.fM g hg)}
theorem Z1y.growR {base:Nat}{w w':World}{M:Nat}{rv mv v':Value}{raws:List ByteArray}{masks:List Int}{x:ByteArray}(h:Z1y base w M rv mv raws masks)(hbase:base≤w.heap.size)(hown:w'.ownsRow 0 9 1 v' (raws.length+1) (raws.map Value.string ++ [.string x]))(hg:w.grownBy w' rv.ownBlock)(hat:v'.ownBlock=rv.ownBlock∨v'.ownBlock=some w.heap.size) :
  w'.cell? ⟨M,0,none⟩=some rv∧w'.frozen? ⟨M,0,none⟩=false∧Z1y base (w'.setCell ⟨M,0,none⟩ v') M v' mv (raws ++ [x]) masks:=by
 have i:=h.row.lt
 have b:Row w' M _ _:=(hg.block M h.row.lt (fun e=>h.rM e.symm)).trans h.row
 have f:=Z0L (w':=w') h.masks fun g hg'=>hg.block g (Z0Y h.masks g hg') (fun e=>h.rm g e.symm hg')
 have c:Z2O v' M:=by
  rcases hat with e | e
  ·unfold Z2O;rw [e];exact h.rM
  ·unfold Z2O;rw [e];intro a;cases a;omega
 have d:Z5t v' mv:=fun g hg' a=>by
  rcases hat with e | e
  ·exact h.rm g (by rw [← e];exact hg') a
  ·rw [e] at hg';cases hg';have:=Z0Y h.masks _ a;omega
 refine⟨b.cell 0,b.frozen 0,b.setL 0 v',?_,Z1c f h.mM _ _,h.low,fun g hg'=> ?_,h.fM,c,h.mM,d⟩
 ·have:=Z1c hown c 0 v'
  rw [List.length_append,List.map_append]
  exact this
 ·rcases hat with e | e
  ·exact h.fR g (by rw [← e];exact hg')
  ·rw [e] at hg';cases hg';exact hbase
theorem Z1y.growM {base:Nat}{w w':World}{M:Nat}{rv mv v':Value}{raws:List ByteArray}{masks:List Int}{x:Int}(h:Z1y base w M rv mv raws masks)(hbase:base≤w.heap.size)(hown:w'.ownsRow 0 3 1 v' (masks.length+1) (masks.map (Value.int .i64) ++ [.int .i64 x]))(hg:w.grownBy w' mv.ownBlock)(hat:v'.ownBlock=mv.ownBlock∨v'.ownBlock=some w.heap.size) :
  w'.cell? ⟨M,1,none⟩=some mv∧w'.frozen? ⟨M,1,none⟩=false∧Z1y base (w'.setCell ⟨M,1,none⟩ v') M rv v' raws (masks ++ [x]):=by
 have i:=h.row.lt
 have b:Row w' M _ _:=(hg.block M h.row.lt (fun e=>h.mM e.symm)).trans h.row
 have f:=Z0L (w':=w') h.raws fun g hg'=>hg.block g (Z0Y h.raws g hg') (fun e=>h.rm g hg' e.symm)
 have c:Z2O v' M:=by
  rcases hat with e | e
  ·unfold Z2O;rw [e];exact h.mM
  ·unfold Z2O;rw [e];intro a;cases a;omega
 have d:Z5t rv v':=fun g hg' a=>by
  rcases hat with e | e
  ·exact h.rm g hg' (by rw [← e];exact a)
  ·rw [e] at a;cases a;have:=Z0Y h.raws _ hg';omega
 refine⟨b.cell 1,b.frozen 1,b.setL 1 v',Z1c f h.rM _ _,?_,h.low,h.fR,fun g hg'=> ?_,h.rM,c,d⟩
 ·have:=Z1c hown c 1 v'
  rw [List.length_append,List.map_append]
  exact this
 ·rcases hat with e | e
  ·exact h.fM g (by rw [← e];exact hg')
  ·rw [e] at hg';cases hg';exact hbase
theorem zero_image (w:World):(zeroValue 131).run prog w= .ok (.agg #[.slice none 0 0,.slice none 0 0]) w:=(zero_of_info (n:=2) (by kernel_rfl)).1 w
theorem all_any (B:Nat)(F:Nat→Prop)(S:PS)(w:World)(hp:Z0d w F B S)(hw:S.wait.length≤1000000)(hg:ErrT w)(hF:¬ F 3)(hlt:∀ k,F k→k<w.heap.size) :
  Calls prog 55 #[.pointer (some ⟨B,0,none⟩)] w fun e w'=> ∃ oa ca ob cb,e= .returned (.agg #[.slice oa (S.kept.length/8) ca,.slice ob (S.kept.length/8) cb])∧(∃ M,Z1y w.heap.size w' M (.slice oa (S.kept.length/8) ca) (.slice ob (S.kept.length/8) cb) (Z1C S (S.kept.length/8)) (Z0Z S (S.kept.length/8)))∧Z0d w' F B (stA S (S.kept.length/8))∧Z02 F w w':=by
 obtain⟨nb,a8⟩:∃ nb,nb=S.kept.length/8:=⟨_,rfl⟩
 have hm:S.kept.length≤32768:=by obtain⟨K,N,wv,h⟩:=hp;exact h.most
 have ar:nb≤4096:=by omega
 have HP:Hid (_∧_):=⟨hp,hg⟩
 have ac:=Z0E hg
 rw [← a8]
 have ao:Hid _:=a8
 have hz:=zero_image
 clear hp hg hm a8
 go_enter func55,ntmps55
 go_wp2_with fail
 obtain⟨w1,X⟩:∃ w1,(w.alloc (.cells #[.slice none 0 0,.slice none 0 0] 131)).alloc (.cells #[.slice none 0 0,.slice none 0 0] 131)=w1:=⟨_,rfl⟩
 have HI:Hid (Z1y (w.heap.size+1) w1 (w.heap.size+1) (.slice none 0 0) (.slice none 0 0) (Z1C S 0) (Z0Z S 0)∧Row w1 w.heap.size 131 [.slice none 0 0,.slice none 0 0]∧Z0d w1 F B (stA S 0)∧Z02 F w w1):=by
  have e1:(w.alloc (.cells #[.slice none 0 0,.slice none 0 0] 131)).heap.size=w.heap.size+1:=by simp
  have L:Below w.heap.size w w1:=by rw [← X];exact ((Below.refl _ _).alloc (Nat.le_refl _) _).alloc (by rw [e1];omega) _
  refine⟨⟨?_,World.ownsRow_nil _ _ _ _,World.ownsRow_nil _ _ _ _,Nat.le_refl _,fun g hg=>(by cases hg),fun g hg=>(by cases hg),by simp [Z2O,Value.ownBlock],by simp [Z2O,Value.ownBlock],fun g hg=>(by cases hg)⟩,?_,HP.out.1.keep fun k hk _=>L.block k hk,Z02.of_below L⟩
  ·rw [← X,← e1];exact heap_alloc_new _ _
  ·rw [← X];exact (Below.heap_alloc _ _ _ (by rw [e1];omega)).trans (heap_alloc_new w _)
 rw [X]
 have a9:=blocks_any B F S w1 HI.out.2.2.1
 rw [← ao.out] at a9
 obtain⟨i0,ai,ab,ak,af⟩:=info_parts Z4W
 obtain⟨q0,ag,ad,aa,aj⟩:=info_parts Z1j
 clear X
 refine a9.mono ?_
 rintro e w2 ⟨rfl,rfl⟩
 clear a9
 go_wp2_with fail
 go_loopw [10] (fun jv wr=> ∃ (j:Nat) (oa:Option Addr) (ca:Nat) (ob:Option Addr) (cb:Nat),j≤nb∧jv= .int .i64 (j:Int)∧Z1y (w.heap.size+1) wr (w.heap.size+1) (.slice oa j ca) (.slice ob j cb) (Z1C S j) (Z0Z S j)∧Row wr w.heap.size 131 [.slice none 0 0,.slice none 0 0]∧Z0d wr F B (stA S j)∧Z02 F w wr) (fun jv _=>nb-(intOf jv).toNat)
 case atStart=>exact⟨0,none,0,none,0,Nat.zero_le _,rfl,HI.out⟩
 case round =>
  clear HI
  obtain⟨j,oa,ca,ob,cb,hj,rfl,Q,x,a6,Y⟩:=hrel
  by_cases au:j<nb
  ·have j1:(j:Int)<(nb:Nat):=by omega
   have ah:=(Z22 (Y.2 _ ac hF) _).trans HP.out.2
   have a5:=bget_any B F (stA S j) ((j:Nat):Int) wr a6 (by rw [(stA_keeps S j).1];exact hw) ah hF
   have a0:=Z3Q S j
   have a4:=Z3o S j
   have a2:=rawsTo_succ S j
   have a3:=masksTo_succ S j
   have a1:stA S (j+1)=(bget (stA S j) ((j:Nat):Int)).2:=rfl
   have T:rawA S j=if (bget (stA S j) ((j:Nat):Int)).1.2.2=0 then (bget (stA S j) ((j:Nat):Int)).1.1 else Z0c 0 512:=rfl
   have O:maskA S j=if (bget (stA S j) ((j:Nat):Int)).1.2.2=0 then (((bget (stA S j) ((j:Nat):Int)).1.2.1:Nat):Int) else 255:=rfl
   generalize (bget (stA S j) ((j:Nat):Int)).1.1=t at *
   generalize (bget (stA S j) ((j:Nat):Int)).1.2.1=mk at *
   generalize (bget (stA S j) ((j:Nat):Int)).1.2.2=er at *
   generalize (bget (stA S j) ((j:Nat):Int)).2=Sk at *
   generalize Z1C S j=raws at *
   generalize Z0Z S j=masks at *
   have Z:Hid (_∧_∧_):=⟨Q,x,Y⟩
   clear Q x a6 Y ah
   by_cases he:er=0
   ·rw [if_pos he] at T O
    have I:Hid (_∧_∧Z1C S (j+1)=raws ++ [t]∧Z0Z S (j+1)=masks ++ [(mk:Int)]∧_):=⟨a0,a4,by rw [a2,T],by rw [a3,O],a1⟩
    subst he
    clear a0 a4 a2 a3 a1 T O
    go_wp2_with fail
    refine a5.mono ?_
    rintro e w4 ⟨rfl,p4,t3⟩
    have h4:=Z.out.1.keep (w':=w4) fun k hk o=>t3.2 k o fun hf=>by have:=hlt k hf;omega
    have r4:Row w4 w.heap.size 131 [.slice none 0 0,.slice none 0 0]:=(t3.2 _ Z.out.2.1.lt fun hf=>by have:=hlt _ hf;omega).trans Z.out.2.1
    have t4:=Z.out.2.2.trans (t3.mono fun _ h=> .inl h)
    have aq:=h4.row.lt
    clear a5 t3 Z
    have H:=h4.keep (w':=w4.alloc (.cells #[.string t] 9)) fun k _ hk=>Below.heap_alloc w4 _ k hk
    have l:(w4.alloc (.cells #[.string t] 9)).heap[w4.heap.size]? = some (.cells #[.string t] 9 (0,0)):=heap_alloc_new w4 _
    have m:∀ u∈([.string t]:List Value),u.oneCell'=true:=by intro u W;simp at W;rw [W];rfl
    have s:=H.raws
    have c0:=h4.row.cell 0
    rw [I.out.1] at s
    have z:w.heap.size+1≤(w4.alloc (.cells #[.string t] 9)).heap.size:=by simp;omega
    have n:Hid (Z1y (w.heap.size+1) (w4.alloc (.cells #[.string t] 9)) (w.heap.size+1) (.slice oa j ca) (.slice ob j cb) raws masks∧Row (w4.alloc (.cells #[.string t] 9)) w.heap.size 131 [.slice none 0 0,.slice none 0 0]∧Z0d (w4.alloc (.cells #[.string t] 9)) F B Sk∧Z02 F w (w4.alloc (.cells #[.string t] 9))):=⟨H,(Below.heap_alloc w4 _ _ r4.lt).trans r4,p4.keep fun k hk _=>Below.heap_alloc w4 _ k hk,t4.trans (Z02.of_below ((Below.refl _ _).alloc (Nat.le_refl _) _))⟩
    clear h4 H r4 p4 t4
    go_wp2_with (first | (at_builtin;(refine wpList_append_own_at _ rfl _ _ 66 rfl 0 9 i0 (.string ⟨#[]⟩) 1 16 underlying66 ai ab ak af rfl (by decide) (.slice oa j ca) j (raws.map Value.string) rfl s ⟨w4.heap.size,0,none⟩ 1 1 [.string t] rfl rfl (World.news_of_block l) m (by unfold maxLen;omega) (by omega) (Nat.zero_le _) ?_)))
    intro v1 J p c _ A
    obtain⟨D,b,rfl,_,_⟩:=Z1E p (by omega)
    obtain⟨e1,e2,U⟩:=n.out.1.growR z (by rw [I.out.1];exact p) c (by first | exact A | simpa using A)
    have f:=n.out.1.fR
    have a:∀ k,k≤w.heap.size→k<(w4.alloc (.cells #[.string t] 9)).heap.size→J.heap[k]? = (w4.alloc (.cells #[.string t] 9)).heap[k]? :=fun k hk o=>c.block k o (fun e=>by have:=f k e.symm;omega)
    have r5:Row (J.setCell ⟨w.heap.size+1,0,none⟩ (.slice (some ⟨D,0,none⟩) (j+1) b)) w.heap.size 131 [.slice none 0 0,.slice none 0 0]:=Row.off ((a _ (Nat.le_refl _) n.out.2.1.lt).trans n.out.2.1) (by omega) _ _
    have p5:Z0d (J.setCell ⟨w.heap.size+1,0,none⟩ (.slice (some ⟨D,0,none⟩) (j+1) b)) F B Sk:=n.out.2.2.1.keep fun k hk hf=>(Below.heap_setCell J ⟨w.heap.size+1,0,none⟩ _ k (by have:=hlt k hf;show k≠w.heap.size+1;omega)).trans (a k (by have:=hlt k hf;omega) hk)
    have t5:Z02 F w (J.setCell ⟨w.heap.size+1,0,none⟩ (.slice (some ⟨D,0,none⟩) (j+1) b)):=by
     have L:=(Below.refl (w.heap.size+1) (w4.alloc (.cells #[.string t] 9))).grown c z fun k hk=>f k hk
     refine Z02.setCell ⟨n.out.2.2.2.1.trans (L.mono (Nat.zero_le _)),fun k hk hn=>(L.block k (by omega)).trans (n.out.2.2.2.2 k hk hn)⟩ _ _ _ (.inr (by omega))
    obtain⟨w5,G⟩:∃ w5,J.setCell ⟨w.heap.size+1,0,none⟩ (.slice (some ⟨D,0,none⟩) (j+1) b)=w5:=⟨_,rfl⟩
    rw [G] at U r5 p5 t5
    have al:=U.row.lt
    clear n s l m p c A f a c0 z
    have E:=U.keep (w':=w5.alloc (.cells #[.int .i64 (mk:Int)] 3)) fun k _ hk=>Below.heap_alloc w5 _ k hk
    have l:(w5.alloc (.cells #[.int .i64 (mk:Int)] 3)).heap[w5.heap.size]? = some (.cells #[.int .i64 (mk:Int)] 3 (0,0)):=heap_alloc_new w5 _
    have m:∀ u∈([.int .i64 (mk:Int)]:List Value),u.oneCell'=true:=by intro u W;simp at W;rw [W];rfl
    have q:=E.masks
    have c1:=U.row.cell 1
    rw [I.out.2.1] at q
    have C:w.heap.size+1≤(w5.alloc (.cells #[.int .i64 (mk:Int)] 3)).heap.size:=by simp;omega
    have n:Hid (Z1y (w.heap.size+1) (w5.alloc (.cells #[.int .i64 (mk:Int)] 3)) (w.heap.size+1) (.slice (some ⟨D,0,none⟩) (j+1) b) (.slice ob j cb) (raws ++ [t]) masks∧Row (w5.alloc (.cells #[.int .i64 (mk:Int)] 3)) w.heap.size 131 [.slice none 0 0,.slice none 0 0]∧Z0d (w5.alloc (.cells #[.int .i64 (mk:Int)] 3)) F B Sk∧Z02 F w (w5.alloc (.cells #[.int .i64 (mk:Int)] 3))):=⟨E,(Below.heap_alloc w5 _ _ r5.lt).trans r5,p5.keep fun k hk _=>Below.heap_alloc w5 _ k hk,t5.trans (Z02.of_below ((Below.refl _ _).alloc (Nat.le_refl _) _))⟩
    have a7:Hid _:=G
    clear U E r5 p5 t5
    go_wp2_with (first | (at_builtin;(refine wpList_append_own_at _ rfl _ _ 67 rfl 0 3 q0 (.int .i64 0) 1 8 underlying67 ag ad aa aj rfl (by decide) (.slice ob j cb) j (masks.map (Value.int .i64)) rfl q ⟨w5.heap.size,0,none⟩ 1 1 [.int .i64 (mk:Int)] rfl rfl (World.news_of_block l) m (by unfold maxLen;omega) (by omega) (Nat.zero_le _) ?_)))
    intro v2 P r d _ y
    obtain⟨R,i,rfl,_,_⟩:=Z1E r (by omega)
    obtain⟨f1,f2,h6⟩:=n.out.1.growM C (by rw [I.out.2.1];exact r) d (by first | exact y | simpa using y)
    have f:=n.out.1.fM
    have a:∀ k,k≤w.heap.size→k<(w5.alloc (.cells #[.int .i64 (mk:Int)] 3)).heap.size→P.heap[k]? = (w5.alloc (.cells #[.int .i64 (mk:Int)] 3)).heap[k]? :=fun k hk o=>d.block k o (fun e=>by have:=f k e.symm;omega)
    have HF:Hid (Z1y (w.heap.size+1) (P.setCell ⟨w.heap.size+1,1,none⟩ (.slice (some ⟨R,0,none⟩) (j+1) i)) (w.heap.size+1) (.slice (some ⟨D,0,none⟩) (j+1) b) (.slice (some ⟨R,0,none⟩) (j+1) i) (Z1C S (j+1)) (Z0Z S (j+1))∧Row (P.setCell ⟨w.heap.size+1,1,none⟩ (.slice (some ⟨R,0,none⟩) (j+1) i)) w.heap.size 131 [.slice none 0 0,.slice none 0 0]∧Z0d (P.setCell ⟨w.heap.size+1,1,none⟩ (.slice (some ⟨R,0,none⟩) (j+1) i)) F B (stA S (j+1))∧Z02 F w (P.setCell ⟨w.heap.size+1,1,none⟩ (.slice (some ⟨R,0,none⟩) (j+1) i))):=by
     have L:=(Below.refl (w.heap.size+1) (w5.alloc (.cells #[.int .i64 (mk:Int)] 3))).grown d C fun k hk=>f k hk
     refine⟨?_,Row.off ((a _ (Nat.le_refl _) n.out.2.1.lt).trans n.out.2.1) (by omega) _ _,?_,Z02.setCell ⟨n.out.2.2.2.1.trans (L.mono (Nat.zero_le _)),fun k hk hn=>(L.block k (by omega)).trans (n.out.2.2.2.2 k hk hn)⟩ _ _ _ (.inr (by omega))⟩
     ·rw [I.out.2.2.1,I.out.2.2.2.1]
      exact h6
     ·rw [I.out.2.2.2.2]
      exact n.out.2.2.1.keep fun k hk hf=>(Below.heap_setCell P ⟨w.heap.size+1,1,none⟩ _ k (by have:=hlt k hf;show k≠w.heap.size+1;omega)).trans (a k (by have:=hlt k hf;omega) hk)
    clear n q l m r d y f a c1 C h6 G a7
    go_wp2
    go_roundw
    case rel=>exact⟨j+1,some ⟨D,0,none⟩,b,some ⟨R,0,none⟩,i,by omega,by go_num,HF.out⟩
    case measure=>simp [intOf];omega
   ·rw [if_neg he] at T O
    have ap:(er==0)=false:=by simp [he]
    have ae:=fun w=>Z6n w
    have I:Hid (_∧_∧Z1C S (j+1)=raws ++ [Z0c 0 512]∧Z0Z S (j+1)=masks ++ [255]∧_):=⟨a0,a4,by rw [a2,T],by rw [a3,O],a1⟩
    generalize Z0c 0 512=zz at *
    clear a0 a4 a2 a3 a1 T O
    go_wp2_with fail
    refine a5.mono ?_
    rintro e w3 ⟨rfl,p3,t3⟩
    have h3:=Z.out.1.keep (w':=w3) fun k hk o=>t3.2 k o fun hf=>by have:=hlt k hf;omega
    have r3:=(t3.2 _ Z.out.2.1.lt fun hf=>by have:=hlt _ hf;omega).trans Z.out.2.1
    have H3:Hid (Z1y (w.heap.size+1) w3 (w.heap.size+1) (.slice oa j ca) (.slice ob j cb) raws masks∧Row w3 w.heap.size 131 [.slice none 0 0,.slice none 0 0]∧Z0d w3 F B Sk∧Z02 F w w3):=⟨h3,r3,p3,Z.out.2.2.trans (t3.mono fun _ h=> .inl h)⟩
    clear a5 t3 Z h3 r3 p3
    go_wp2_with fail
    refine (ae _).mono ?_
    rintro e w4 ⟨rfl,V⟩
    have h4:=H3.out.1.keep (w':=w4) fun k _ hk=>V.block k hk
    have r4:Row w4 w.heap.size 131 [.slice none 0 0,.slice none 0 0]:=(V.block _ H3.out.2.1.lt).trans H3.out.2.1
    have p4:Z0d w4 F B Sk:=H3.out.2.2.1.keep fun k hk _=>V.block k hk
    have t4:Z02 F w w4:=H3.out.2.2.2.trans (Z02.of_below V)
    have aq:w.heap.size+1<w4.heap.size:=h4.row.lt
    clear ae V H3 he ap
    have H:=h4.keep (w':=w4.alloc (.cells #[.string zz] 9)) fun k _ hk=>Below.heap_alloc w4 _ k hk
    have l:(w4.alloc (.cells #[.string zz] 9)).heap[w4.heap.size]? = some (.cells #[.string zz] 9 (0,0)):=heap_alloc_new w4 _
    have m:∀ u∈([.string zz]:List Value),u.oneCell'=true:=by intro u W;simp at W;rw [W];rfl
    have s:=H.raws
    have c0:w4.cell? ⟨w.heap.size+1,0,none⟩=some (.slice oa j ca):=h4.row.cell 0
    rw [I.out.1] at s
    have z:w.heap.size+1≤(w4.alloc (.cells #[.string zz] 9)).heap.size:=by simp;omega
    have n:Hid (Z1y (w.heap.size+1) (w4.alloc (.cells #[.string zz] 9)) (w.heap.size+1) (.slice oa j ca) (.slice ob j cb) raws masks∧Row (w4.alloc (.cells #[.string zz] 9)) w.heap.size 131 [.slice none 0 0,.slice none 0 0]∧Z0d (w4.alloc (.cells #[.string zz] 9)) F B Sk∧Z02 F w (w4.alloc (.cells #[.string zz] 9))):=⟨H,(Below.heap_alloc w4 _ _ r4.lt).trans r4,p4.keep fun k hk _=>Below.heap_alloc w4 _ k hk,t4.trans (Z02.of_below ((Below.refl _ _).alloc (Nat.le_refl _) _))⟩
    clear h4 H r4 p4 t4
    go_wp2_with (first | (at_builtin;(refine wpList_append_own_at _ rfl _ _ 66 rfl 0 9 i0 (.string ⟨#[]⟩) 1 16 underlying66 ai ab ak af rfl (by decide) (.slice oa j ca) j (raws.map Value.string) rfl s ⟨w4.heap.size,0,none⟩ 1 1 [.string zz] rfl rfl (World.news_of_block l) m (by unfold maxLen;omega) (by omega) (Nat.zero_le _) ?_)))
    intro v1 J p c _ A
    obtain⟨D,b,rfl,_,_⟩:=Z1E p (by omega)
    obtain⟨e1,e2,U⟩:=n.out.1.growR z (by rw [I.out.1];exact p) c (by first | exact A | simpa using A)
    have f:∀ k,(Value.slice oa j ca).ownBlock=some k→w.heap.size+1≤k:=n.out.1.fR
    have a:∀ k,k≤w.heap.size→k<(w4.alloc (.cells #[.string zz] 9)).heap.size→J.heap[k]? = (w4.alloc (.cells #[.string zz] 9)).heap[k]? :=fun k hk o=>c.block k o (fun e=>by have:=f k e.symm;omega)
    have r5:Row (J.setCell ⟨w.heap.size+1,0,none⟩ (.slice (some ⟨D,0,none⟩) (j+1) b)) w.heap.size 131 [.slice none 0 0,.slice none 0 0]:=Row.off ((a _ (Nat.le_refl _) n.out.2.1.lt).trans n.out.2.1) (by omega) _ _
    have p5:Z0d (J.setCell ⟨w.heap.size+1,0,none⟩ (.slice (some ⟨D,0,none⟩) (j+1) b)) F B Sk:=n.out.2.2.1.keep fun k hk hf=>(Below.heap_setCell J ⟨w.heap.size+1,0,none⟩ _ k (by have:=hlt k hf;show k≠w.heap.size+1;omega)).trans (a k (by have:=hlt k hf;omega) hk)
    have t5:Z02 F w (J.setCell ⟨w.heap.size+1,0,none⟩ (.slice (some ⟨D,0,none⟩) (j+1) b)):=by
     have L:=(Below.refl (w.heap.size+1) (w4.alloc (.cells #[.string zz] 9))).grown c z fun k hk=>f k hk
     refine Z02.setCell ⟨n.out.2.2.2.1.trans (L.mono (Nat.zero_le _)),fun k hk hn=>(L.block k (by omega)).trans (n.out.2.2.2.2 k hk hn)⟩ _ _ _ (.inr (by omega))
    obtain⟨w5,G⟩:∃ w5,J.setCell ⟨w.heap.size+1,0,none⟩ (.slice (some ⟨D,0,none⟩) (j+1) b)=w5:=⟨_,rfl⟩
    rw [G] at U r5 p5 t5
    have al:w.heap.size+1<w5.heap.size:=U.row.lt
    clear n s l m p c A f a c0 z
    have E:=U.keep (w':=w5.alloc (.cells #[.int .i64 255] 3)) fun k _ hk=>Below.heap_alloc w5 _ k hk
    have l:(w5.alloc (.cells #[.int .i64 255] 3)).heap[w5.heap.size]? = some (.cells #[.int .i64 255] 3 (0,0)):=heap_alloc_new w5 _
    have m:∀ u∈([.int .i64 255]:List Value),u.oneCell'=true:=by intro u W;simp at W;rw [W];rfl
    have q:=E.masks
    have c1:w5.cell? ⟨w.heap.size+1,1,none⟩=some (.slice ob j cb):=U.row.cell 1
    rw [I.out.2.1] at q
    have C:w.heap.size+1≤(w5.alloc (.cells #[.int .i64 255] 3)).heap.size:=by simp;omega
    have n:Hid (Z1y (w.heap.size+1) (w5.alloc (.cells #[.int .i64 255] 3)) (w.heap.size+1) (.slice (some ⟨D,0,none⟩) (j+1) b) (.slice ob j cb) (raws ++ [zz]) masks∧Row (w5.alloc (.cells #[.int .i64 255] 3)) w.heap.size 131 [.slice none 0 0,.slice none 0 0]∧Z0d (w5.alloc (.cells #[.int .i64 255] 3)) F B Sk∧Z02 F w (w5.alloc (.cells #[.int .i64 255] 3))):=⟨E,(Below.heap_alloc w5 _ _ r5.lt).trans r5,p5.keep fun k hk _=>Below.heap_alloc w5 _ k hk,t5.trans (Z02.of_below ((Below.refl _ _).alloc (Nat.le_refl _) _))⟩
    have a7:Hid (J.setCell ⟨w.heap.size+1,0,none⟩ (.slice (some ⟨D,0,none⟩) (j+1) b)=w5):=G
    clear U E r5 p5 t5
    go_wp2_with (first | (at_builtin;(refine wpList_append_own_at _ rfl _ _ 67 rfl 0 3 q0 (.int .i64 0) 1 8 underlying67 ag ad aa aj rfl (by decide) (.slice ob j cb) j (masks.map (Value.int .i64)) rfl q ⟨w5.heap.size,0,none⟩ 1 1 [.int .i64 255] rfl rfl (World.news_of_block l) m (by unfold maxLen;omega) (by omega) (Nat.zero_le _) ?_)))
    intro v2 P r d _ y
    obtain⟨R,i,rfl,_,_⟩:=Z1E r (by omega)
    obtain⟨f1,f2,h6⟩:=n.out.1.growM C (by rw [I.out.2.1];exact r) d (by first | exact y | simpa using y)
    have f:∀ k,(Value.slice ob j cb).ownBlock=some k→w.heap.size+1≤k:=n.out.1.fM
    have a:∀ k,k≤w.heap.size→k<(w5.alloc (.cells #[.int .i64 255] 3)).heap.size→P.heap[k]? = (w5.alloc (.cells #[.int .i64 255] 3)).heap[k]? :=fun k hk o=>d.block k o (fun e=>by have:=f k e.symm;omega)
    have HF:Hid (Z1y (w.heap.size+1) (P.setCell ⟨w.heap.size+1,1,none⟩ (.slice (some ⟨R,0,none⟩) (j+1) i)) (w.heap.size+1) (.slice (some ⟨D,0,none⟩) (j+1) b) (.slice (some ⟨R,0,none⟩) (j+1) i) (Z1C S (j+1)) (Z0Z S (j+1))∧Row (P.setCell ⟨w.heap.size+1,1,none⟩ (.slice (some ⟨R,0,none⟩) (j+1) i)) w.heap.size 131 [.slice none 0 0,.slice none 0 0]∧Z0d (P.setCell ⟨w.heap.size+1,1,none⟩ (.slice (some ⟨R,0,none⟩) (j+1) i)) F B (stA S (j+1))∧Z02 F w (P.setCell ⟨w.heap.size+1,1,none⟩ (.slice (some ⟨R,0,none⟩) (j+1) i))):=by
     have L:=(Below.refl (w.heap.size+1) (w5.alloc (.cells #[.int .i64 255] 3))).grown d C fun k hk=>f k hk
     refine⟨?_,Row.off ((a _ (Nat.le_refl _) n.out.2.1.lt).trans n.out.2.1) (by omega) _ _,?_,Z02.setCell ⟨n.out.2.2.2.1.trans (L.mono (Nat.zero_le _)),fun k hk hn=>(L.block k (by omega)).trans (n.out.2.2.2.2 k hk hn)⟩ _ _ _ (.inr (by omega))⟩
     ·rw [I.out.2.2.1,I.out.2.2.2.1]
      exact h6
     ·rw [I.out.2.2.2.2]
      exact n.out.2.2.1.keep fun k hk hf=>(Below.heap_setCell P ⟨w.heap.size+1,1,none⟩ _ k (by have:=hlt k hf;show k≠w.heap.size+1;omega)).trans (a k (by have:=hlt k hf;omega) hk)
    clear n q l m r d y f a c1 C h6 G a7
    go_wp2
    go_roundw
    case rel=>exact⟨j+1,some ⟨D,0,none⟩,b,some ⟨R,0,none⟩,i,by omega,by go_num,HF.out⟩
    case measure=>simp [intOf];omega
  ·obtain rfl:j=nb:=by omega
   have j1:¬ (j:Int)<j:=by omega
   have c0:wr.cell? ⟨w.heap.size+1,0,none⟩=some (.slice oa j ca):=Q.row.cell 0
   have c1:wr.cell? ⟨w.heap.size+1,1,none⟩=some (.slice ob j cb):=Q.row.cell 1
   have d0:wr.cell? ⟨w.heap.size,0,none⟩=some (.slice none 0 0):=x.cell 0
   have d1:wr.cell? ⟨w.heap.size,1,none⟩=some (.slice none 0 0):=x.cell 1
   have f0:=x.frozen 0
   have f1:=x.frozen 1
   have HF:Hid (Z1y (w.heap.size+1) wr (w.heap.size+1) (.slice oa j ca) (.slice ob j cb) (Z1C S j) (Z0Z S j)∧Row wr w.heap.size 131 [.slice none 0 0,.slice none 0 0]∧Z0d wr F B (stA S j)∧Z02 F w wr):=⟨Q,x,a6,Y⟩
   clear Q x a6 Y
   have HG:Hid (((wr.setCell ⟨w.heap.size,0,none⟩ (.slice oa j ca)).setCell ⟨w.heap.size,1,none⟩ (.slice ob j cb)).heap[w.heap.size]? = some (.cells #[.slice oa j ca,.slice ob j cb] 131 (0,0))):=(HF.out.2.1.setL 0 (.slice oa j ca)).setL 1 (.slice ob j cb)
   have o:∀ k,k≠w.heap.size→((wr.setCell ⟨w.heap.size,0,none⟩ (.slice oa j ca)).setCell ⟨w.heap.size,1,none⟩ (.slice ob j cb)).heap[k]? = wr.heap[k]? :=fun k hk=>(Below.heap_setCell _ ⟨w.heap.size,1,none⟩ _ k hk).trans (Below.heap_setCell _ ⟨w.heap.size,0,none⟩ _ k hk)
   have HE:Hid ((∃ M,Z1y w.heap.size ((wr.setCell ⟨w.heap.size,0,none⟩ (.slice oa j ca)).setCell ⟨w.heap.size,1,none⟩ (.slice ob j cb)) M (.slice oa j ca) (.slice ob j cb) (Z1C S j) (Z0Z S j))∧Z0d ((wr.setCell ⟨w.heap.size,0,none⟩ (.slice oa j ca)).setCell ⟨w.heap.size,1,none⟩ (.slice ob j cb)) F B (stA S j)∧Z02 F w ((wr.setCell ⟨w.heap.size,0,none⟩ (.slice oa j ca)).setCell ⟨w.heap.size,1,none⟩ (.slice ob j cb))):=by
    refine⟨⟨w.heap.size+1,(HF.out.1.keep fun k hk _=>o k (by omega)).low_mono (Nat.le_succ _)⟩,HF.out.2.2.1.keep fun k _ hf=>o k (by have:=hlt k hf;omega),(HF.out.2.2.2.setCell _ _ _ (.inr (Nat.le_refl _))).setCell _ _ _ (.inr (Nat.le_refl _))⟩
   clear o
   go_wp2_with fail
   exact bodyPost_ret (v:= .agg #[.slice oa j ca,.slice ob j cb]) (results_cell_row Tryz.results55 _ _ w.heap.size 131 _ (0,0) _ rfl HG.out underlying131 rfl (by kernel_rfl)) rfl ⟨_,_,_,_,rfl,HE.out⟩
def Z4L (S S':PS):Prop:=S'.up=S.up∧S'.kept=S.kept∧S'.wait=S.wait∧S'.fuse=S.fuse
theorem Z3Y (S:PS)(x:Int):Z4L S (Z2z S x):=by
 unfold Z2z
 split
 ·split
  ·exact⟨rfl,rfl,rfl,rfl⟩
  ·exact⟨rfl,rfl,rfl,rfl⟩
 ·exact⟨rfl,rfl,rfl,rfl⟩
theorem Z4L.trans {S S1 S2:PS}(h:Z4L S S1)(k:Z4L S1 S2):Z4L S S2:=⟨k.1.trans h.1,k.2.1.trans h.2.1,k.2.2.1.trans h.2.2.1,k.2.2.2.trans h.2.2.2⟩
theorem Z4L.reads {S S':PS}(h:Z4L S S')(x:Int):Z2G S' x=Z2G S x∧Z2N S' x=Z2N S x:=by
 obtain⟨c,b,a,_⟩:=h
 unfold Z2G Z2N Z6C Z5p keptS hasB
 rw [c,b,a]
 exact⟨rfl,rfl⟩
theorem Z59 (a:Nat):∀ (n j:Nat) (S:PS) (t:ByteArray) (m:Nat),Z4L S (Z43 a n j S t m).2
 | 0,_,_,_,_=>⟨rfl,rfl,rfl,rfl⟩
 | n+1,j,S,t,m=>by
  unfold Z43
  split
  ·exact (Z3Y S _).trans (Z59 a n _ _ _ _)
  ·split
   ·exact (Z3Y S _).trans (Z59 a n _ _ _ _)
   ·exact Z3Y S _
theorem sec_join (r:ByteArray)(j n:Nat):secS r j++r.extract (64*(j+1)) (64*(j+1+n))=r.extract (64*j) (64*(j+(n+1))):=by
 unfold secS
 rw [show 64*j+64=64*(j+1) by omega,show 64*(j+1+n)=64*(j+(n+1)) by omega,ByteArray.extract_append_extract,Nat.min_eq_left (by omega),Nat.max_eq_right (by omega)]
theorem getGo_all (a:Nat)(r:ByteArray):∀ (n j:Nat) (S:PS) (t:ByteArray) (m:Nat),(∀ i,j≤i→i<j+n→Z2G S ((8*a+i:Nat):Int)=0∧Z2N S ((8*a+i:Nat):Int)=secS r i)→(Z43 a n j S t m).1=(t++r.extract (64*j) (64*(j+n)),m,0)
 | 0,j,S,t,m,_=>by
  simp [Z43]
 | n+1,j,S,t,m,h=>by
  obtain⟨h1,h2⟩:=h j (Nat.le_refl _) (by omega)
  unfold Z43
  rw [if_pos h1,getGo_all a r n (j+1) _ _ _ fun i hi hn=>by
   obtain⟨q1,q2⟩:=(Z3Y S ((8*a+j:Nat):Int)).reads ((8*a+i:Nat):Int)
   rw [q1,q2]
   exact h i (by omega) (by omega),h2,ByteArray.append_assoc,sec_join]
def Z6d (r:ByteArray)(a j:Nat):Nat→List (Nat × ByteArray)
 | 0=> []
 | n+1=>(8*a+j,secS r j) :: Z6d r a (j+1) n
theorem putGo_all (r:ByteArray)(a:Nat)(hr:r.size=512):∀ (n j:Nat) (S:PS),j+n≤8→S.up=true→S.fuse= -1→8*a+8≤S.kept.length→∃ w',Z4f r a n j S=(0,{ S with writes:=w',wait:=S.wait++Z6d r a j n })
 | 0,j,S,_,_,_,_=>⟨S.writes,by simp [Z4f,Z6d]⟩
 | n+1,j,S,hj,hu,hf,hk=>by
  have hs:(secS r j).size=64:=by simp [secS,hr];omega
  have b:hasB S ((8*a+j:Nat):Int)=true:=by simp [hasB];omega
  have c:Z1V S ((8*a+j:Nat):Int) (secS r j)=0:=by
   unfold Z1V
   rw [if_pos hs,if_pos hu,if_pos b,if_neg (by rw [hf];decide)]
  have e:Z1d S ((8*a+j:Nat):Int) (secS r j)= { S with writes:=wrap64 (S.writes+1),wait:=S.wait ++ [(8*a+j,secS r j)]}:=by
   simp only [Z1d,hs,if_true,hu,b,hf,Int.toNat_natCast]
   simp
  unfold Z4f
  rw [if_pos c,e]
  obtain⟨w',d⟩:=putGo_all r a hr n (j+1) { S with writes:=wrap64 (S.writes+1),wait:=S.wait ++ [(8*a+j,secS r j)]} (by omega) hu hf hk
  refine⟨w',?_⟩
  rw [d]
  simp [Z6d]
theorem Z2S (l m:List (Nat × ByteArray))(i:Nat):Z1q (l++m) i=(Z1q m i).or (Z1q l i):=by
 have h:∀ a b:List (Nat × ByteArray),Z3P (a++b) i=(Z3P a i).or (Z3P b i):=fun a b=>by
  induction a with
  | nil=>simp [Z3P]
  | cons p t ih =>
   obtain⟨k,s⟩:=p
   rw [List.cons_append]
   simp only [Z3P]
   split
   ·rfl
   ·exact ih
 unfold Z1q
 rw [List.reverse_append,h]
theorem Z89 (r:ByteArray)(a:Nat):∀ (n j i:Nat),Z1q (Z6d r a j n) (8*a+i)=if j≤i∧i<j+n then some (secS r i) else none
 | 0,j,i=>by
  rw [if_neg (by omega)]
  rfl
 | n+1,j,i=>by
  rw [show Z6d r a j (n+1)= [(8*a+j,secS r j)]++Z6d r a (j+1) n from rfl,Z2S,Z89 r a n (j+1) i]
  by_cases h1:j+1≤i∧i<j+1+n
  ·rw [if_pos h1,if_pos (by omega)]
   rfl
  ·rw [if_neg h1]
   by_cases h2:i=j
   ·subst h2
    rw [if_pos (by omega)]
    simp [Z1q,Z3P]
   ·rw [if_neg (by omega)]
    simp [Z1q,Z3P]
    omega
theorem Z8a (wait:List (Nat × ByteArray))(kept:List ByteArray)(i:Nat)(hi:i<kept.length):∀ j,j≤wait.length→(Z2k (fun _=>true) wait kept j)[i]? = some ((Z1q (wait.take j) i).getD kept[i])
 | 0,_=>by simp [Z2k,Z1q,Z3P,hi]
 | j+1,hj=>by
  have ih:=Z8a wait kept i hi j (by omega)
  have hl:=Z1e (fun _=>true) wait kept j
  obtain⟨p,hp⟩:∃ p,wait[j]? = some p:=⟨_,List.getElem?_eq_getElem (by omega)⟩
  obtain⟨k,s⟩:=p
  have ht:wait.take (j+1)=wait.take j ++ [(k,s)]:=by rw [List.take_add_one,hp];rfl
  rw [Z4U hp,if_pos rfl,ht,textOf_snoc]
  by_cases e:k=i
  ·subst e
   rw [if_pos rfl,List.getElem?_set_self (by omega)]
   rfl
  ·rw [if_neg e,List.getElem?_set_ne e]
   exact ih
theorem flush_kept (S:PS)(hu:S.up=true)(i:Nat)(hi:i<S.kept.length):(Z1X S).kept[i]? = some ((Z1q S.wait i).getD S.kept[i])∧(Z1X S).up=true∧(Z1X S).wait= []∧(Z1X S).kept.length=S.kept.length:=by
 have e:Z1X S=Z3m (fun _=>true) S:=by unfold Z1X;rw [if_pos hu]
 rw [e]
 refine⟨?_,hu,rfl,Z1e _ _ _ _⟩
 have:=Z8a S.wait S.kept i hi S.wait.length (Nat.le_refl _)
 rw [List.take_length] at this
 exact this
end Go.Proofs.YtijpgmkdnemmbaaGreatDoor
