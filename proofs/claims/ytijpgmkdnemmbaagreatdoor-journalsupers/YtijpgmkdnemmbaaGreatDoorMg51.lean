/- Part 51. -/
import Derived.Test.YtijpgmkdnemmbaaGreatDoorMg30
import Derived.Test.YtijpgmkdnemmbaaGreatDoorMg42
import Derived.Test.YtijpgmkdnemmbaaGreatDoorMg50
set_option maxRecDepth 20000
set_option maxHeartbeats 8000000
open Go.RowKit Go.Proofs.Tryz
namespace Go.Proofs.YtijpgmkdnemmbaaGreatDoor
def realF:PF:=⟨fun s=>Sm.shaS (Sm.Z00 s),Sm.macS,fun k i=>Sm.expS k i 32,Bx.Z6B,fun k n=>(Bx.sealE k n:Nat),Bx.Z4G,fun k n a s=>(Bx.Z4b k n a s:Nat)⟩
def TabR (w:World):Prop:=Sm.Z3p w∧Sm.Z0H w
theorem macS_size (k s:ByteArray):(Sm.macS k s).size=32:=by
 unfold Sm.macS
 rw [strOfNums_size,List.length_map,Sm.Z1w]
theorem expS_size (k i:ByteArray):(Sm.expS k i 32).size=32:=by
 unfold Sm.expS Sm.expL
 rw [strOfNums_size,List.length_map,List.length_take,Sm.Z34 _ (fun j=>Sm.Z53 _ _ j)]
 decide
theorem strS_size (p s:ByteArray)(r:Nat):(Sm.strS p s r 32).size=32:=by
 unfold Sm.strS
 rw [strOfNums_size,List.length_map,List.length_take,Sm.Z34 _ (fun j=>Sm.Z52 _ _ _ _)]
 decide
theorem prims6:Prims TabR realF where
 tab h hb:=⟨h.1.below hb h.1.1,h.2.below hb h.2.1⟩
 sum s hs w ht:=Sm.sum_any s (by omega) w ht.1 ht.2
 macz:=macS_size
 exp k i hk hi w ht:=Sm.Expand_in k i 32 (by decide) (by omega) hi w ht.1 ht.2
 expz:=expS_size
 shut k n a s ha hs w:=Bx.Seal_any k n a s ha hs w
 opn k n a s ha hs w:=Bx.Open_any k n a s ha hs w
 same a b ha w:=Bx.same_any a b ha w
theorem backs6:Backs6 realF where
 back k n a s hk hn ha hs:=by
  obtain⟨i,f,e⟩:=Bx.back_math k n a s
  have b:Bx.fitP k n:=⟨hk,hn⟩
  have c:Bx.Z6B k n a s=Bx.strN (Bx.Z0R k n s++Bx.Z2c k n a (Bx.Z0R k n s)):=by unfold Bx.Z6B;rw [if_pos b]
  have g:Bx.sealE k n=0:=by unfold Bx.sealE;rw [if_pos b]
  have d:Bx.Z4b k n a (Bx.Z6B k n a s)=0:=by unfold Bx.Z4b;rw [if_pos b,c,if_neg (by omega),if_pos f]
  have hh:Bx.Z4G k n a (Bx.Z6B k n a s)=s:=by unfold Bx.Z4G;rw [if_pos d,c,e]
  refine⟨?_,?_,hh,?_⟩
  ·show ((Bx.sealE k n:Nat):Int)=0
   rw [g];rfl
  ·show ((Bx.Z4b k n a (Bx.Z6B k n a s):Nat):Int)=0
   rw [d];rfl
  ·show (Bx.Z6B k n a s).size=s.size+16
   rw [c,i]
theorem rprims6:RPrims realF where
 sum s hs w:=Sm.rsum_any s (by omega) w
 mac k s hk hs w:=Sm.rMac_any k s (by omega) (by omega) w
 macz:=macS_size
 exp k i hk hi w:=Sm.rExpand_in k i 32 (by decide) (by omega) hi w
 expz:=expS_size
 shut k n a s ha hs w:=Bx.rSeal_any k n a s ha hs w
theorem stretch6 (pass:ByteArray)(hp:pass.size≤64):∃ X:ByteArray,X.size=32∧(∀ w,TabR w→Calls prog 25 #[.string pass,.string ⟨#[115]⟩,.int .i64 1,.int .i64 32] w fun e w'=>e= .returned (.tuple #[.string X,.int .i64 0])∧Below w.heap.size w w')∧∀ w,Calls prog 26 #[.string pass,.string ⟨#[115]⟩,.int .i64 1,.int .i64 32] w fun e w'=>e= .returned (.tuple #[.string X,.int .i64 0])∧Below w.heap.size w w' :=
 ⟨Sm.strS pass ⟨#[115]⟩ 1 32,strS_size _ _ _,fun w ht=>Sm.Stretch_in pass ⟨#[115]⟩ 1 32 (by decide) (by decide) (by decide) (by omega) (by decide) w ht.1 ht.2,fun w=>Sm.rStretch_in pass ⟨#[115]⟩ 1 32 (by decide) (by decide) (by decide) (by omega) (by decide) w⟩
structure Z2F (base:Nat) (w:World) (B:Nat) (kv dv:Value) (n m:Nat):Prop where
 row:Row w B 75 [kv,dv,.slice none 0 0,.int .i64 (-1),.bool false,.int .i64 0,.int .i64 0]
 kept:w.ownsRow 0 9 1 kv n (List.replicate n (.string (Z0c 0 64)))
 dumb:w.ownsRow 0 4 1 dv m (List.replicate m (.bool false))
 low:base≤B
 fK:∀ g,kv.ownBlock=some g→base≤g
 fD:∀ g,dv.ownBlock=some g→base≤g
 kB:Z2O kv B
 dB:Z2O dv B
 kd:Z5t kv dv
theorem Z2F.keep {base:Nat}{w w':World}{B n m:Nat}{kv dv:Value}(h:Z2F base w B kv dv n m)(hb:∀ k,k<w.heap.size→w'.heap[k]? = w.heap[k]?):Z2F base w' B kv dv n m :=
 { h with row:=(hb B h.row.lt).trans h.row,kept:=Z0L h.kept fun g hg=>hb g (Z0Y h.kept g hg),dumb:=Z0L h.dumb fun g hg=>hb g (Z0Y h.dumb g hg)}
theorem Z2F.growK {base:Nat}{w w':World}{B n m:Nat}{kv dv v':Value}(h:Z2F base w B kv dv n m)(hbase:base≤w.heap.size)(hown:w'.ownsRow 0 9 1 v' (n+1) (List.replicate n (.string (Z0c 0 64)) ++ [.string (Z0c 0 64)]))(hg:w.grownBy w' kv.ownBlock)(hat:v'.ownBlock=kv.ownBlock∨v'.ownBlock=some w.heap.size) :
  w'.cell? ⟨B,0,none⟩=some kv∧w'.frozen? ⟨B,0,none⟩=false∧Z2F base (w'.setCell ⟨B,0,none⟩ v') B v' dv (n+1) m:=by
 have i:=h.row.lt
 have b:Row w' B _ _:=(hg.block B h.row.lt (fun e=>h.kB e.symm)).trans h.row
 have f:=Z0L (w':=w') h.dumb fun g hg'=>hg.block g (Z0Y h.dumb g hg') (fun e=>h.kd g e.symm hg')
 have c:Z2O v' B:=by
  rcases hat with e | e
  ·unfold Z2O;rw [e];exact h.kB
  ·unfold Z2O;rw [e];intro a;cases a;omega
 have d:Z5t v' dv:=fun g hg' a=>by
  rcases hat with e | e
  ·exact h.kd g (by rw [← e];exact hg') a
  ·rw [e] at hg';cases hg';have:=Z0Y h.dumb _ a;omega
 refine⟨b.cell 0,b.frozen 0,b.setL 0 v',?_,Z1c f h.dB _ _,h.low,fun g hg'=> ?_,h.fD,c,h.dB,d⟩
 ·have:=Z1c hown c 0 v'
  rw [← List.replicate_succ'] at this
  exact this
 ·rcases hat with e | e
  ·exact h.fK g (by rw [← e];exact hg')
  ·rw [e] at hg';cases hg';exact hbase
theorem Z2F.growD {base:Nat}{w w':World}{B n m:Nat}{kv dv v':Value}(h:Z2F base w B kv dv n m)(hbase:base≤w.heap.size)(hown:w'.ownsRow 0 4 1 v' (m+1) (List.replicate m (.bool false) ++ [.bool false]))(hg:w.grownBy w' dv.ownBlock)(hat:v'.ownBlock=dv.ownBlock∨v'.ownBlock=some w.heap.size) :
  w'.cell? ⟨B,1,none⟩=some dv∧w'.frozen? ⟨B,1,none⟩=false∧Z2F base (w'.setCell ⟨B,1,none⟩ v') B kv v' n (m+1):=by
 have i:=h.row.lt
 have b:Row w' B _ _:=(hg.block B h.row.lt (fun e=>h.dB e.symm)).trans h.row
 have f:=Z0L (w':=w') h.kept fun g hg'=>hg.block g (Z0Y h.kept g hg') (fun e=>h.kd g hg' e.symm)
 have c:Z2O v' B:=by
  rcases hat with e | e
  ·unfold Z2O;rw [e];exact h.dB
  ·unfold Z2O;rw [e];intro a;cases a;omega
 have d:Z5t kv v':=fun g hg' a=>by
  rcases hat with e | e
  ·exact h.kd g hg' (by rw [← e];exact a)
  ·rw [e] at a;cases a;have:=Z0Y h.kept _ hg';omega
 refine⟨b.cell 1,b.frozen 1,b.setL 1 v',Z1c f h.kB _ _,?_,h.low,h.fK,fun g hg'=> ?_,h.kB,c,d⟩
 ·have:=Z1c hown c 1 v'
  rw [← List.replicate_succ'] at this
  exact this
 ·rcases hat with e | e
  ·exact h.fD g (by rw [← e];exact hg')
  ·rw [e] at hg';cases hg';exact hbase
theorem Z2F.done {base:Nat}{w:World}{B n:Nat}{kv dv:Value}(h:Z2F base w B kv dv n n)(hn:n≤32768):RefP w (fun k=>base≤k∧k<w.heap.size) B (newP n):=by
 have a:(newP n).kept.length=n:=by simp [newP]
 refine⟨kv,dv,.slice none 0 0,List.replicate n (Z0c 0 64),List.replicate n false,h.row,?_,?_,World.ownsRow_nil _ _ _ _,⟨h.low,h.row.lt⟩,fun g hg=>⟨h.fK g hg,Z0Y h.kept g hg⟩,fun g hg=>⟨h.fD g hg,Z0Y h.dumb g hg⟩,fun g hg=>(by cases hg),h.kB,h.dB,by simp [Z2O,Value.ownBlock],h.kd,fun g _=>by simp [Value.ownBlock],fun g _=>by simp [Value.ownBlock],by rw [a];exact hn,by simp [newP],fun i hi=> ?_,fun s hs=> ?_,by simp [newP]⟩
 ·rw [a,List.map_replicate];exact h.kept
 ·rw [a,List.map_replicate];exact h.dumb
 ·rw [a] at hi
  simp [newP,hi]
 ·rw [(List.mem_replicate.1 hs).2,Z0T]
set_option maxRecDepth 10000 in
theorem rnew_any (n:Nat)(hn:n≤32768)(w:World) :
  Calls prog 9 #[.int .i64 n] w fun e w'=> ∃ B,e= .returned (.tuple #[.pointer (some ⟨B,0,none⟩),.int .i64 0])∧RefP w' (fun k=>w.heap.size≤k∧k<w'.heap.size) B (newP n)∧Below w.heap.size w w':=by
 have i0:¬ (n:Int)<0:=by omega
 have i1:¬ (32768:Int)<n:=by omega
 obtain⟨q0,hq,U,a2,a1⟩:=info_parts Z4W
 obtain⟨q1,Y,Z,T,X⟩:=info_parts (show (prog.info? 4).map (fun i=>(i.zero,i.size,i.bytes))=some (some (.bool false),1,1) by kernel_rfl)
 have y:Z2F w.heap.size (w.alloc (.cells #[.slice none 0 0,.slice none 0 0,.slice none 0 0,.int .i64 (-1),.bool false,.int .i64 0,.int .i64 0] 75)) w.heap.size (.slice none 0 0) (.slice none 0 0) 0 0 :=
  ⟨heap_alloc_new w _,World.ownsRow_nil _ _ _ _,World.ownsRow_nil _ _ _ _,Nat.le_refl _,fun g hg=>(by cases hg),fun g hg=>(by cases hg),by simp [Z2O,Value.ownBlock],by simp [Z2O,Value.ownBlock],fun g hg=>(by cases hg)⟩
 have t:=(Below.refl w.heap.size w).alloc (Nat.le_refl _) (.cells #[.slice none 0 0,.slice none 0 0,.slice none 0 0,.int .i64 (-1),.bool false,.int .i64 0,.int .i64 0] 75)
 obtain⟨w0,P⟩:∃ w0,w.alloc (.cells #[.slice none 0 0,.slice none 0 0,.slice none 0 0,.int .i64 (-1),.bool false,.int .i64 0,.int .i64 0] 75)=w0:=⟨_,rfl⟩
 rw [P] at y t
 have V:Hid (Z2F w.heap.size w0 w.heap.size (.slice none 0 0) (.slice none 0 0) 0 0∧Below w.heap.size w w0):=⟨y,t⟩
 clear y t
 go_enter func9,ntmps9
 go_wp2_with fail
 go_loopw [5] (fun v wr=> ∃ j:Nat,j≤n∧v= .int .i64 j∧(∃ kv z,Z2F w.heap.size wr w.heap.size kv z j j)∧Below w.heap.size w wr) (fun v _=>n-(intOf v).toNat)
 case atStart=>exact⟨0,Nat.zero_le _,rfl,⟨_,_,V.out.1⟩,V.out.2⟩
 case round =>
  clear V P
  obtain⟨j,hj,rfl,⟨kv,z,C⟩,S⟩:=hrel
  by_cases a6:j<n
  ·have j1:(j:Int)<n:=by omega
   have c0:wr.cell? ⟨w.heap.size,0,none⟩=some kv:=C.row.cell 0
   have W:Hid (Z2F w.heap.size wr w.heap.size kv z j j∧Below w.heap.size w wr):=⟨C,S⟩
   have a3:∃ G H,z= .slice G j H:=by
    rcases owns_len C.dumb with ⟨cap,e⟩ | ⟨g,cap,e⟩
    ·exact⟨_,cap,e⟩
    ·exact⟨_,cap,e⟩
   obtain⟨G,H,rfl⟩:=a3
   clear C S
   go_wp2_with fail
   go_region_law (first | (refine Z1W _ rfl _ _ 66 rfl 0 9 q0 (.string ⟨#[]⟩) 1 16 underlying66 hq U a2 a1 rfl (by decide) kv j (List.replicate j (.string (Z0c 0 64))) rfl (Z0L s.kept fun g hg=>Below.heap_alloc wA _ g (Z0Y s.kept g hg)) ⟨wA.heap.size,0,none⟩ 1 1 [.string (Z0c 0 64)] rfl rfl (World.news_of_block (heap_alloc_new wA _)) (by intro u L;rw [List.mem_singleton] at L;rw [L];rfl) (by unfold maxLen;omega) (by omega) (Nat.zero_le _) ?_;intro v1 wB f a l;obtain⟨g1,I,rfl,a5,_⟩:=Z1E f (by omega);have F:=s.keep (w':=wA.alloc (.cells #[.string (Z0c 0 64)] 9)) (fun k hk=>Below.heap_alloc wA _ k hk);have K:Below w.heap.size w wB:=(hh.alloc hh.size _).grown a (Nat.le_trans hh.size (by simp)) (fun k hk=>s.fK k hk);obtain⟨x1,x2,q⟩:=F.growK (Nat.le_trans hh.size (by simp)) f a l;have A:Hid _:=q;clear q F f a l) | (go_simp;refine (blank_any _).mono ?_;rintro e wA ⟨rfl,x⟩;dsimp only;have s:Z2F w.heap.size wA w.heap.size kv (.slice G j H) j j:=W.out.1.keep (fun k hk=>x.block k hk);have hh:Below w.heap.size w wA:=W.out.2.drew.trans (x.mono W.out.2.size);have dA:wA.cell? ⟨w.heap.size,0,none⟩=some kv:=s.row.cell 0;have a0:∀ o,(wA.alloc o).cell? ⟨w.heap.size,0,none⟩=some kv:=fun o=>(s.keep (w':=wA.alloc o) (fun k hk=>Below.heap_alloc wA o k hk)).row.cell 0))
   all_goals
    obtain⟨w5,r⟩:∃ w5,wB.setCell ⟨w.heap.size,0,none⟩ (.slice (some ⟨g1,0,none⟩) (j+1) I)=w5:=⟨_,rfl⟩
    have J:Below w.heap.size w w5:=by rw [← r];exact K.setCell (p:=⟨w.heap.size,0,none⟩) (Nat.le_refl _) _
    rw [r] at A
    have c1:w5.cell? ⟨w.heap.size,1,none⟩=some (.slice G j H):=A.out.row.cell 1
    have R:Hid (Below w.heap.size w w5):=J
    clear x1 x2 dA a0 s hh x K J c0
    try rw [r]
    go_wp2_with (first | (at_builtin;refine wpList_append_own_at _ rfl _ _ 72 rfl 0 4 q1 (.bool false) 1 1 underlying72 Y Z T X rfl (by decide) (.slice G j H) j (List.replicate j (.bool false)) rfl (Z0L A.out.dumb fun g hg=>Below.heap_alloc w5 _ g (Z0Y A.out.dumb g hg)) ⟨w5.heap.size,0,none⟩ 1 1 [.bool false] rfl rfl (World.news_of_block (heap_alloc_new w5 _)) (by intro u L;rw [List.mem_singleton] at L;rw [L];rfl) (by unfold maxLen;omega) (by omega) (Nat.zero_le _) ?_))
    intro v2 wC d b _ m
    obtain⟨g2,N,rfl,a4,_⟩:=Z1E d (by omega)
    have M:=A.out.keep (w':=w5.alloc (.cells #[.bool false] 4)) (fun k hk=>Below.heap_alloc w5 _ k hk)
    have E:Below w.heap.size w wC:=(R.out.alloc R.out.size _).grown b (Nat.le_trans R.out.size (by simp)) (fun k hk=>A.out.fD k hk)
    obtain⟨y1,y2,c⟩:=M.growD (Nat.le_trans R.out.size (by simp)) d b (by rw [show (w5.alloc (.cells #[.bool false] 4)).heap.size=w5.heap.size+1 by simp];exact m)
    obtain⟨w6,O⟩:∃ w6,wC.setCell ⟨w.heap.size,1,none⟩ (.slice (some ⟨g2,0,none⟩) (j+1) N)=w6:=⟨_,rfl⟩
    have Q:Below w.heap.size w w6:=by rw [← O];exact E.setCell (p:=⟨w.heap.size,1,none⟩) (Nat.le_refl _) _
    rw [O] at c
    have D:Hid ((∃ kv z,Z2F w.heap.size w6 w.heap.size kv z (j+1) (j+1))∧Below w.heap.size w w6):=⟨⟨_,_,c⟩,Q⟩
    clear c Q E M d b m
    go_wp2
    go_roundw
    case rel=>exact⟨j+1,by omega,by go_num,D.out.1,D.out.2⟩
    case measure=>simp [intOf];omega
  ·obtain rfl:j=n:=by omega
   have D:Hid (RefP wr (fun k=>w.heap.size≤k∧k<wr.heap.size) w.heap.size (newP j)∧Below w.heap.size w wr):=⟨C.done hn,S⟩
   clear C S
   go_wp2
   go_ret2
   exact⟨w.heap.size,rfl,D.out.1,D.out.2⟩
end Go.Proofs.YtijpgmkdnemmbaaGreatDoor
