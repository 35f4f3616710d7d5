/- Part 14. -/
import Derived.Test.YtijpgmkdnemmbaaGreatDoorMg11
import Derived.Test.YtijpgmkdnemmbaaGreatDoorMg12
set_option maxRecDepth 20000
set_option maxHeartbeats 8000000
open Go.RowKit Go.Proofs.Tryz
namespace Go.Proofs.YtijpgmkdnemmbaaGreatDoor
structure VK where
 σ:Type
 v:Value
 lies:World→(Nat→Prop)→σ→Prop
 room:σ→Nat→Prop
 hS:σ→ByteArray→ByteArray
 hP:σ→ByteArray→σ
 sS:σ→Hd→ByteArray→ByteArray
 sP:σ→Hd→ByteArray→σ
 oE:σ→ByteArray→Int
 oH:σ→ByteArray→Hd
 oS:σ→ByteArray→ByteArray
def toldK (K:VK)(S:K.σ)(r:ByteArray)(a:Int):Array Value:=if K.oE S r=0∧(K.oH S r).v1=a then Z4d true (K.oH S r) (K.oS S r) else Z5W
theorem toldK_ok (K:VK)(S:K.σ)(r:ByteArray)(a:Int):(toldK K S r a).size=10∧(toldK K S r a).all (·.oneCell')=true:=by
 unfold toldK
 split
 ·exact⟨rfl,by simp [Z4d,Value.oneCell']⟩
 ·exact⟨rfl,by simp [Z5W,Z4d,Value.oneCell']⟩
structure VKOk (K:VK):Prop where
 keep:∀ {w w':World} {F:Nat→Prop} {S:K.σ},K.lies w F S→(∀ k,k<w.heap.size→F k→w'.heap[k]? = w.heap[k]?)→K.lies w' F S
 mono:∀ {w:World} {F F':Nat→Prop} {S:K.σ},K.lies w F S→(∀ k,k<w.heap.size→F k→F' k)→K.lies w F' S
 less:∀ {S:K.σ} {n m:Nat},K.room S n→m≤n→K.room S m
 hRoom:∀ {S:K.σ} {s:ByteArray} {n:Nat},K.room S (n+1)→K.room (K.hP S s) n
 sRoom:∀ {S:K.σ} {h:Hd} {s:ByteArray} {n:Nat},K.room S (n+1)→K.room (K.sP S h s) n
 hSize:∀ (S:K.σ) (s:ByteArray),K.room S 1→(K.hS S s).size=32
 sSize:∀ (S:K.σ) (h:Hd) (s:ByteArray),K.room S 1→Z0p h s=0→(K.sS S h s).size=512
 sNone:∀ (S:K.σ) (h:Hd) (s:ByteArray),¬ Z0p h s=0→K.sS S h s=⟨#[]⟩
 hash:∀ (F:Nat→Prop) (S:K.σ) (s:ByteArray) (w:World),s.size≤1000000→K.room S 1→K.lies w F S→Calls prog 87 #[K.v,.string s] w fun e w'=>e= .returned (.string (K.hS S s))∧K.lies w' F (K.hP S s)∧Z02 F w w'
 seal_:∀ (F:Nat→Prop) (S:K.σ) (h:Hd) (s:ByteArray) (w:World),K.room S 1→K.lies w F S→Calls prog 13 #[K.v,.agg h.arr,.string s] w fun e w'=>e= .returned (.tuple #[.string (K.sS S h s),.int .i64 (Z0p h s)])∧K.lies w' F (K.sP S h s)∧Z02 F w w'
 told:∀ (F:Nat→Prop) (S:K.σ) (r:ByteArray) (a:Int) (w:World),K.room S 0→K.lies w F S→Calls prog 91 #[K.v,.string r,.int .i64 a] w fun e w'=>e= .returned (.agg (toldK K S r a))∧Below w.heap.size w w'
 probe:∀ (F:Nat→Prop) (S:K.σ) (w:World),K.room S 0→K.lies w F S→Calls prog 80 #[K.v,.int .i64 0,.string (Z0c 0 12),.string ⟨#[]⟩,.string ⟨#[]⟩] w fun e w'=>e= .returned (.tuple #[.string ⟨#[]⟩,.int .i64 3])∧Below w.heap.size w w'
theorem VKOk.below {K:VK}(HK:VKOk K){w w':World}{F:Nat→Prop}{S:K.σ}(h:K.lies w F S)(hb:Below w.heap.size w w'):K.lies w' F S:=HK.keep h fun k hk _=>hb.block k hk
def Z07 (B:Nat):VK where
 σ:=VS
 v:= .pointer (some ⟨B,0,none⟩)
 lies:=fun w F S=>Z29 w F B S
 room:=fun S n=>S.texts.length+n≤1000000∧S.seals.length+n≤1000000
 hS:=hashS
 hP:=Z5V
 sS:=Z2J
 sP:=Z1G
 oE:=Z2i
 oH:=Z41
 oS:=Z2X
theorem probe_1 (S:VS):Z4G S 0 (Z0c 0 12) ⟨#[]⟩ ⟨#[]⟩=⟨#[]⟩∧Z4b S 0 (Z0c 0 12) ⟨#[]⟩ ⟨#[]⟩=3:=by
 have a:fitB 0 (Z0c 0 12)=true:=by simp [fitB,Z0T]
 unfold Z4G Z4b
 rw [a]
 exact⟨rfl,rfl⟩
theorem Z5j (S:VS)(h:Hd)(s:ByteArray):(Z1G S h s).texts.length=S.texts.length∧(Z1G S h s).seals.length≤S.seals.length+1:=by
 have:=Z1F S.seals (h.four s)
 unfold Z1G
 split
 ·exact⟨rfl,this⟩
 ·exact⟨rfl,Nat.le_succ _⟩
theorem ideal_size (S:VS)(h:Hd)(s:ByteArray)(hr:S.seals.length+1≤1000000)(he:Z0p h s=0):(Z2J S h s).size=512:=by
 have e:=Z2u (h.four s) (addN S.seals (h.four s))
 have d:=Z1F S.seals (h.four s)
 have a:s.size=448:=by
  by_cases a:s.size=448
  ·exact a
  ·rw [Z0p,if_neg a] at he
   exact absurd he (by decide)
 have b:h.err=0:=by rwa [Z0p,if_pos a] at he
 have c:Z2h h s=true:=by simp [Z2h,a,b]
 unfold Z2J
 rw [if_pos c]
 exact blk_size b a (by omega)
theorem ideal_none (S:VS)(h:Hd)(s:ByteArray)(he:¬ Z0p h s=0):Z2J S h s=⟨#[]⟩:=by
 unfold Z2J
 rw [if_neg]
 intro a
 have a:=of_decide_eq_true a
 exact he (by rw [Z0p,if_pos a.1,a.2])
theorem Z1R (B:Nat):VKOk (Z07 B) where
 keep:=fun h hk=>Z29.keep h hk
 mono:=fun h hF=>Z29.mono h hF
 less:=fun {S n m} h hm=>by
  have h:S.texts.length+n≤1000000∧S.seals.length+n≤1000000:=h
  exact⟨by omega,by omega⟩
 hRoom:=fun {S s n} h=>by
  have h:S.texts.length+(n+1)≤1000000∧S.seals.length+(n+1)≤1000000:=h
  have:=Z1F S.texts s
  refine⟨?_,?_⟩
  ·show (addN S.texts s).length+n≤1000000
   omega
  ·show S.seals.length+n≤1000000
   omega
 sRoom:=fun {S h s n} hr=>by
  have hr:S.texts.length+(n+1)≤1000000∧S.seals.length+(n+1)≤1000000:=hr
  have h1:=Z5j S h s
  show (Z1G S h s).texts.length+n≤1000000∧(Z1G S h s).seals.length+n≤1000000
  omega
 hSize:=fun S s hr=>by
  have hr:S.texts.length+1≤1000000∧S.seals.length+1≤1000000:=hr
  have h1:=Z2u s (addN S.texts s)
  have h2:=Z1F S.texts s
  exact Z3t (by omega) (by decide)
 sSize:=fun S h s hr he=>ideal_size S h s hr.2 he
 sNone:=fun S h s he=>ideal_none S h s he
 hash:=fun F S s w hs hr hp=>by
  have hr:S.texts.length+1≤1000000∧S.seals.length+1≤1000000:=hr
  exact vhash_any B F S s (by unfold fitT;omega) (by omega) w hp
 seal_:=fun F S h s w hr hp=>by
  have hr:S.texts.length+1≤1000000∧S.seals.length+1≤1000000:=hr
  exact bseal_any B F S h s (by omega) w hp
 told:=fun F S r a w hr hp=>by
  have hr:S.texts.length+0≤1000000∧S.seals.length+0≤1000000:=hr
  exact told_any B F S r a (by omega) w hp
 probe:=fun F S w hr hp=>by
  have hr:S.texts.length+0≤1000000∧S.seals.length+0≤1000000:=hr
  have h:=vopen_any B F S 0 (Z0c 0 12) ⟨#[]⟩ ⟨#[]⟩ ⟨by decide,by rw [Z0T];decide,by decide,by decide⟩ (by omega) w hp
  rw [(probe_1 S).1,(probe_1 S).2] at h
  exact h
structure Wt where
 at_:Int
 raw:ByteArray
instance:Inhabited Wt:=⟨⟨0,⟨#[]⟩⟩⟩
def Wt.cells (x:Wt):List Value:= [.int .i64 x.at_,.string x.raw]
structure WtAt (W:World) (g o:Nat) (x:Wt):Prop where
 c0:W.cell? ⟨g,o,none⟩=some (.int .i64 x.at_)
 c1:W.cell? ⟨g,o+1,none⟩=some (.string x.raw)
def Wts (W:World)(v:Value)(l:List Wt):Prop:=(∃ oa cap,v= .slice oa 0 cap∧l= [])∨∃ g o cap,v= .slice (some ⟨g,o,none⟩) l.length cap∧g<W.heap.size∧∀ i x,l[i]? = some x→WtAt W g (o+i*2) x
theorem Wts.form {W:World}{v:Value}{l:List Wt}(h:Wts W v l):∃ oa cap,v= .slice oa l.length cap:=by
 rcases h with ⟨oa,cap,rfl,rfl⟩ | ⟨g,o,cap,rfl,_⟩
 ·exact⟨oa,cap,rfl⟩
 ·exact⟨_,cap,rfl⟩
theorem Wts.get {W:World}{oa:Option Addr}{cap:Nat}{l:List Wt}(h:Wts W (.slice oa l.length cap) l){i:Nat}(hi:i<l.length):∃ g o,oa=some ⟨g,o,none⟩∧g<W.heap.size∧∀ j x,l[j]? = some x→WtAt W g (o+j*2) x:=by
 rcases h with ⟨oa',cap',e,rfl⟩ | ⟨g,o,cap',e,hg,hx⟩
 ·simp at hi
 ·simp only [Value.slice.injEq] at e
  exact⟨g,o,e.1,hg,hx⟩
theorem WtAt.keep {W W':World}{g o:Nat}{x:Wt}(h:WtAt W g o x)(k:W'.heap[g]? = W.heap[g]?):WtAt W' g o x:=⟨(World.cell?_of_block (a:=⟨g,o,none⟩) k).trans h.c0,(World.cell?_of_block (a:=⟨g,o+1,none⟩) k).trans h.c1⟩
theorem Wts.at {W:World}{oa:Option Addr}{cap:Nat}{l:List Wt}(h:Wts W (.slice oa l.length cap) l){i:Nat}(hi:i<l.length):∃ g o,oa=some ⟨g,o,none⟩∧g<W.heap.size∧WtAt W g (o+i*2) l[i]:=by
 obtain⟨g,o,e,a,b⟩:=h.get hi
 exact⟨g,o,e,a,b i _ (List.getElem?_eq_getElem hi)⟩
theorem Wts.below {w w':World}{v:Value}{l:List Wt}(h:Wts w v l)(hb:Below w.heap.size w w'):Wts w' v l:=by
 rcases h with h | ⟨g,o,cap,e,hg,hx⟩
 ·exact .inl h
 ·exact .inr ⟨g,o,cap,e,Nat.lt_of_lt_of_le hg hb.size,fun i x hi=>(hx i x hi).keep (hb.block g hg)⟩
def Wts.Out (v:Value)(F:Nat→Prop):Prop:= ∀ g o len cap,v= .slice (some ⟨g,o,none⟩) len cap→¬ F g
theorem Wts.touch {w w':World}{v:Value}{l:List Wt}{F:Nat→Prop}(h:Wts w v l)(ht:Z02 F w w')(ho:Wts.Out v F):Wts w' v l:=by
 rcases h with h | ⟨g,o,cap,e,hg,hx⟩
 ·exact .inl h
 ·exact .inr ⟨g,o,cap,e,Nat.lt_of_lt_of_le hg ht.1.size,fun i x hi=>(hx i x hi).keep (ht.2 g hg (ho _ _ _ _ e))⟩
end Go.Proofs.YtijpgmkdnemmbaaGreatDoor
