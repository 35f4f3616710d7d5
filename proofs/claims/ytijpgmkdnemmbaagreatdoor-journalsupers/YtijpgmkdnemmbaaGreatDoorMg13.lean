/- Part 13. -/
import Derived.Test.YtijpgmkdnemmbaaGreatDoorMg12
import Derived.Deep.OwnRows
set_option maxRecDepth 20000
set_option maxHeartbeats 8000000
open Go.RowKit Go.Proofs.Tryz
namespace Go.Proofs.YtijpgmkdnemmbaaGreatDoor
def Z2k (f:Nat→Bool)(wait:List (Nat × ByteArray))(kept:List ByteArray):Nat→List ByteArray
 | 0=>kept
 | j+1=>match wait[j]? with
  | some p=>if f j=true then (Z2k f wait kept j).set p.1 p.2 else Z2k f wait kept j
  | none=>Z2k f wait kept j
def Z6D (wait:List (Nat × ByteArray)):Nat→Nat→Nat
 | 0,i=>Z2j wait i
 | j+1,i=>match wait[j]? with
  | some p=>if i=p.1 then 0 else Z6D wait j i
  | none=>Z6D wait j i
def Z3m (f:Nat→Bool)(S:PS):PS:= { S with kept:=Z2k f S.wait S.kept S.wait.length,wait:= []}
theorem Z1e (f:Nat→Bool)(wait:List (Nat × ByteArray))(kept:List ByteArray):∀ j,(Z2k f wait kept j).length=kept.length
 | 0=>rfl
 | j+1=>by
  have ih:=Z1e f wait kept j
  simp only [Z2k]
  split
  ·split
   ·rw [List.length_set];exact ih
   ·exact ih
  ·exact ih
theorem Z4U {f:Nat→Bool}{wait:List (Nat × ByteArray)}{kept:List ByteArray}{j a:Nat}{s:ByteArray}(h:wait[j]? = some (a,s)):Z2k f wait kept (j+1)=if f j=true then (Z2k f wait kept j).set a s else Z2k f wait kept j:=by
 simp only [Z2k,h]
theorem newAt_step {wait:List (Nat × ByteArray)}{j a:Nat}{s:ByteArray}(h:wait[j]? = some (a,s))(i:Nat):Z6D wait (j+1) i=if i=a then 0 else Z6D wait j i:=by
 simp only [Z6D,h]
theorem newAt_zero (wait:List (Nat × ByteArray))(i:Nat):∀ j,Z6D wait j i=0∨(Z6D wait j i=Z2j wait i∧∀ k,k<j→∀ p,wait[k]? = some p→p.1≠i)
 | 0=> .inr ⟨rfl,fun k hk=>absurd hk (Nat.not_lt_zero k)⟩
 | j+1=>by
  simp only [Z6D]
  rcases newAt_zero wait i j with h | ⟨h,h2⟩
  ·left
   split
   ·split
    ·rfl
    ·exact h
   ·exact h
  ·cases hj:wait[j]? with
   | none =>
    right
    refine⟨h,fun k hk p hp=> ?_⟩
    by_cases e:k=j
    ·subst e;rw [hj] at hp;cases hp
    ·exact h2 k (by omega) p hp
   | some q =>
    dsimp only
    by_cases e:i=q.1
    ·left;rw [if_pos e]
    ·right
     rw [if_neg e]
     refine⟨h,fun k hk p hp=> ?_⟩
     by_cases e2:k=j
     ·subst e2;rw [hj] at hp;cases hp;exact fun e3=>e e3.symm
     ·exact h2 k (by omega) p hp
theorem newAt_all (wait:List (Nat × ByteArray))(i:Nat):Z6D wait wait.length i=0:=by
 rcases newAt_zero wait i wait.length with h | ⟨h,h2⟩
 ·exact h
 ·rw [h]
  cases hl:Z2j wait i with
  | zero=>rfl
  | succ k =>
   obtain⟨s,a,_⟩:=Z7p hl
   exact absurd rfl (h2 k (List.getElem?_eq_some_iff.1 a).1 (i,s) a)
theorem Z6p {f:Nat→Bool}{wait:List (Nat × ByteArray)}{kept:List ByteArray}(hw:∀ p∈wait,p.2.size=64)(hk:∀ s∈kept,s.size=0∨s.size=64):∀ j,∀ s∈Z2k f wait kept j,s.size=0∨s.size=64
 | 0=>hk
 | j+1=>by
  have ih:=Z6p hw hk (f:=f) j
  intro s hs
  cases hj:wait[j]? with
  | none=>simp only [Z2k,hj] at hs;exact ih s hs
  | some p =>
   simp only [Z2k,hj] at hs
   split at hs
   ·rcases List.mem_or_eq_of_mem_set hs with h | rfl
    ·exact ih s h
    ·exact .inr (hw p (List.mem_of_getElem? hj))
   ·exact ih s hs
structure Z3n (w0 w:World) (F:Nat→Prop) (B K N:Nat) (wv:Value) (S:PS) (f:Nat→Bool) (j:Nat):Prop where
 row:Row w B 70 (plateC K N S.kept.length wv S)
 kept:Row w K 9 ((Z2k f S.wait S.kept j).map Value.string)
 new:Row w N 3 (rowF S.kept.length fun i=> .int .i64 (Z6D S.wait j i:Nat))
 wait:w.ownsRow 0 272 2 wv S.wait.length (Z5n S.wait)
 touch:Z02 F w0 w
theorem Z3n.of {w:World}{F:Nat→Prop}{B K N:Nat}{wv:Value}{S:PS}{f:Nat→Bool}(h:Z06 w F B K N wv S):Z3n w w F B K N wv S f 0:=⟨h.row,h.kept,h.new,h.wait,Z02.refl _ _⟩
theorem Z3n.below {w0 w w':World}{F:Nat→Prop}{B K N j:Nat}{wv:Value}{S:PS}{f:Nat→Bool}(h:Z3n w0 w F B K N wv S f j)(hb:Below w.heap.size w w'):Z3n w0 w' F B K N wv S f j :=
 ⟨h.row.below hb h.row.lt,h.kept.below hb h.kept.lt,h.new.below hb h.new.lt,Z0L h.wait fun g hg=>hb.block g (Z0Y h.wait g hg),⟨h.touch.1.trans (hb.mono (Nat.zero_le _)),fun k hk hn=>(hb.block k (Nat.lt_of_lt_of_le hk h.touch.size)).trans (h.touch.2 k hk hn)⟩⟩
theorem Z3n.drew {w0 w:World}{F:Nat→Prop}{B K N j:Nat}{wv:Value}{S:PS}{f:Nat→Bool}(h:Z3n w0 w F B K N wv S f j):Z3n w0 w.drew F B K N wv S f j:=h.below (Below.refl _ _).drew
structure Z5r (w0 w:World) (F:Nat→Prop) (B K N:Nat) (wv:Value) (S:PS) (f:Nat→Bool) (j:Nat):Prop where
 row:Row w B 70 (plateC K N S.kept.length wv S)
 kept:Row w K 9 ((Z2k f S.wait S.kept (j+1)).map Value.string)
 new:Row w N 3 (rowF S.kept.length fun i=> .int .i64 (Z6D S.wait j i:Nat))
 wait:w.ownsRow 0 272 2 wv S.wait.length (Z5n S.wait)
 touch:Z02 F w0 w
theorem Z3n.mid {w0 w wp:World}{F:Nat→Prop}{B K N j a:Nat}{wv:Value}{S:PS}{f:Nat→Bool}{s:ByteArray}(h:Z3n w0 w F B K N wv S f j)(hp:Z06 wp F B K N wv S)(hj:S.wait[j]? = some (a,s))(hf:f j=true):Z5r w0 (w.setCell ⟨K,a,none⟩ (.string s)) F B K N wv S f j:=by
 refine⟨h.row.off hp.bk _ _,?_,h.new.off hp.kn.symm _ _,Z1c h.wait hp.wK _ _,h.touch.setCell _ _ _ (.inl hp.fK)⟩
 have:=h.kept.setL a (.string s)
 rw [Z4U hj,if_pos hf]
 rw [← List.map_set] at this
 exact this
theorem Z3n.skip {w0 w:World}{F:Nat→Prop}{B K N j a:Nat}{wv:Value}{S:PS}{f:Nat→Bool}{s:ByteArray}(h:Z3n w0 w F B K N wv S f j)(hj:S.wait[j]? = some (a,s))(hf:f j=false):Z5r w0 w F B K N wv S f j:=by
 refine⟨h.row,?_,h.new,h.wait,h.touch⟩
 rw [Z4U hj,hf]
 exact h.kept
theorem Z5r.drew {w0 w:World}{F:Nat→Prop}{B K N j:Nat}{wv:Value}{S:PS}{f:Nat→Bool}(h:Z5r w0 w F B K N wv S f j):Z5r w0 w.drew F B K N wv S f j :=
 ⟨h.row,h.kept,h.new,Z0L h.wait fun _ _=>rfl,h.touch.drew⟩
theorem Z5r.next {w0 w wp:World}{F:Nat→Prop}{B K N j a:Nat}{wv:Value}{S:PS}{f:Nat→Bool}{s:ByteArray}(h:Z5r w0 w F B K N wv S f j)(hp:Z06 wp F B K N wv S)(hj:S.wait[j]? = some (a,s)):Z3n w0 (w.setCell ⟨N,a,none⟩ (.int .i64 0)) F B K N wv S f (j+1):=by
 refine⟨h.row.off hp.bn _ _,h.kept.off hp.kn _ _,?_,Z1c h.wait hp.wN _ _,h.touch.setCell _ _ _ (.inl hp.fN)⟩
 refine (h.new.setF a (.int .i64 0)).congr (Z10 fun k _=> ?_)
 rw [newAt_step hj]
 by_cases e:k=a
 ·rw [if_pos e,if_pos e];rfl
 ·rw [if_neg e,if_neg e]
theorem Z3n.done {w0 w wp:World}{F:Nat→Prop}{B K N:Nat}{wv:Value}{S:PS}{f:Nat→Bool}(h:Z3n w0 w F B K N wv S f S.wait.length)(hp:Z06 wp F B K N wv S):Z06 (w.setCell ⟨B,1,none⟩ (.slice none 0 0)) F B K N (.slice none 0 0) (Z3m f S)∧Z02 F w0 (w.setCell ⟨B,1,none⟩ (.slice none 0 0)):=by
 have a:(Z3m f S).kept.length=S.kept.length:=Z1e _ _ _ _
 refine⟨⟨?_,h.kept.off hp.bk.symm _ _,?_,World.ownsRow_nil _ _ _ _,hp.fB,hp.fK,hp.fN,fun g hg=>(by cases hg),hp.bk,hp.bn,hp.kn,by simp [Value.ownBlock],by simp [Value.ownBlock],by simp [Value.ownBlock],by rw [a];exact hp.most,by simp [Z3m],Z6p (fun p hp'=>(hp.ats p hp').2) hp.texts _,hp.fuse⟩,h.touch.setCell _ _ _ (.inl hp.fB)⟩
 ·rw [a];exact h.row.setL 1 (.slice none 0 0)
 ·rw [a]
  refine (h.new.off hp.bn.symm 1 (.slice none 0 0)).congr (Z10 fun k _=> ?_)
  rw [newAt_all]
  rfl
theorem Z3n.cW {w0 w:World}{F:Nat→Prop}{B K N j a:Nat}{wv:Value}{S:PS}{f:Nat→Bool}{i:Nat}{s:ByteArray}(h:Z3n w0 w F B K N wv S f j){g cap:Nat}(hg:wv= .slice (some ⟨g,0,none⟩) S.wait.length cap)(hi:S.wait[i]? = some (a,s)):w.cell? ⟨g,i*2,none⟩=some (.int .i64 (a:Nat))∧w.cell? ⟨g,i*2+1,none⟩=some (.string s):=by
 obtain⟨d,b,e,_,c⟩:=Z1E h.wait (by have:=(List.getElem?_eq_some_iff.1 hi).1;omega)
 rw [hg] at e
 cases e
 exact⟨c _ _ (Z5o _ _ _ _ hi).1,c _ _ (Z5o _ _ _ _ hi).2⟩
set_option maxRecDepth 10000 in
theorem settleF (B:Nat)(F:Nat→Prop)(S:PS)(f:Nat→Bool)(w:World)(hp:Z0d w F B S)(hw:S.wait.length≤1000000)
  (hcall:∀ (j:Nat) w1,j<S.wait.length→Z02 F w w1→Calls prog 143 #[.int .i64 (j:Int)] w1 fun e w2=>e= .returned (.bool (f j))∧w2=w1) :
  Calls prog 142 #[.pointer (some ⟨B,0,none⟩),.func (.func 143) #[] #[]] w fun e w'=>e= .returned (.tuple #[])∧Z0d w' F B (Z3m f S)∧Z02 F w w':=by
 obtain⟨K,N,W,hp⟩:=hp
 have c1:=hp.c1
 have o:Hid (Z06 w F B K N W S):=hp
 have HC:Hid (∀ (j:Nat) w1,j<S.wait.length→Z02 F w w1→Calls prog 143 #[.int .i64 (j:Int)] w1 fun e w2=>e= .returned (.bool (f j))∧w2=w1):=hcall
 clear hcall
 have p:∃ x b,W= .slice x S.wait.length b:=by
  rcases owns_len hp.wait with ⟨b,e⟩ | ⟨g,b,e⟩
  ·exact⟨_,b,e⟩
  ·exact⟨_,b,e⟩
 obtain⟨x,b,rfl⟩:=p
 clear hp
 go_enter func142,ntmps142
 go_wp2_with fail
 go_loopw [11] (fun v wr=> ∃ j:Nat,j≤S.wait.length∧v= .int .i64 j∧Z3n w wr F B K N (.slice x S.wait.length b) S f j) (fun v _=>S.wait.length-(intOf v).toNat)
 case atStart=>exact⟨0,Nat.zero_le _,rfl,Z3n.of o.out⟩
 case round =>
  clear c1
  obtain⟨j,hj,rfl,h⟩:=hrel
  by_cases z:j<S.wait.length
  ·have j1:(j:Int)<S.wait.length:=by omega
   obtain⟨a,s,k⟩:∃ a s,S.wait[j]? = some (a,s):=⟨S.wait[j].1,S.wait[j].2,List.getElem?_eq_getElem z⟩
   obtain⟨g,u,G,a0,_⟩:=Z1E h.wait (by omega)
   obtain⟨rfl,rfl⟩:x=some ⟨g,0,none⟩∧b=u:=by cases G;exact⟨rfl,rfl⟩
   obtain⟨d0,d1⟩:=h.cW rfl k
   have Q:a<S.kept.length:=(o.out.ats (a,s) (List.mem_of_getElem? k)).1
   have A:Below wr.heap.size wr (wr.alloc (.cells #[.int .i64 (a:Nat),.string s] 272)):=(Below.refl _ _).alloc (Nat.le_refl _) _
   have J:(wr.alloc (.cells #[.int .i64 (a:Nat),.string s] 272)).heap[wr.heap.size]? = some (.cells #[.int .i64 (a:Nat),.string s] 272 (0,0)):=heap_alloc_new wr _
   have i:Hid (Z3n w (wr.alloc (.cells #[.int .i64 (a:Nat),.string s] 272)) F B K N (.slice (some ⟨g,0,none⟩) S.wait.length b) S f j):=h.below A
   have L:Hid (S.wait[j]? = some (a,s)):=k
   have l:Hid (Row wr K _ _∧Row wr N _ _∧Row wr B _ _):=⟨h.kept,h.new,h.row⟩
   clear h k
   have E:wr.heap.size≠K∧wr.heap.size≠N∧wr.heap.size≠B:=⟨by have:=l.out.1.lt;omega,by have:=l.out.2.1.lt;omega,by have:=l.out.2.2.lt;omega⟩
   obtain⟨w3,T⟩:∃ w3,wr.alloc (.cells #[.int .i64 (a:Nat),.string s] 272)=w3:=⟨_,rfl⟩
   rw [T] at i J
   have n:Row w3 wr.heap.size 272 [.int .i64 (a:Nat),.string s]:=J
   have d:=HC.out j w3 z i.out.touch
   clear J A l
   generalize hwz:wr.heap.size=wz at *
   cases hf:f j <;> rw [hf] at d
   case' true =>
    have t:w3.cell? ⟨wz,0,none⟩=some (.int .i64 (a:Nat)):=n.cell 0
    have U:w3.cell? ⟨wz,1,none⟩=some (.string s):=n.cell 1
    have Y:w3.cell? ⟨B,0,none⟩=some (.slice (some ⟨K,0,none⟩) S.kept.length S.kept.length):=i.out.row.cell 0
    have q:∃ C,w3.cell? ⟨K,a,none⟩=some (.string C):=⟨(Z2k f S.wait S.kept j)[a]'(by rw [Z1e];exact Q),by rw [i.out.kept.cell,List.getElem?_map,List.getElem?_eq_getElem (by rw [Z1e];exact Q)];rfl⟩
    obtain⟨C,q⟩:=q
    have R:w3.frozen? ⟨K,a,none⟩=false:=i.out.kept.frozen a
    have c:∀ v,(w3.setCell ⟨K,a,none⟩ v).cell? ⟨B,0,none⟩=some (.slice (some ⟨K,0,none⟩) S.kept.length S.kept.length)∧(w3.setCell ⟨K,a,none⟩ v).cell? ⟨wz,0,none⟩=some (.int .i64 (a:Nat))∧(w3.setCell ⟨K,a,none⟩ v).cell? ⟨wz,1,none⟩=some (.string s):=fun v=>⟨(i.out.row.off o.out.bk _ _).cell 0,(n.off E.1 _ _).cell 0,(n.off E.1 _ _).cell 1⟩
    have P:(a:Int)<S.kept.length:=by omega
    go_wp2_with fail
    refine d.mono ?_
    rintro e M ⟨rfl,rfl⟩
    go_wp2_with fail
    go_region_held3 (fun w'=>w'.cell? ⟨B,0,none⟩=some (.slice (some ⟨K,0,none⟩) S.kept.length S.kept.length)∧w'.cell? ⟨wz,0,none⟩=some (.int .i64 (a:Nat))∧w'.cell? ⟨wz,1,none⟩=some (.string s)) (first | exact c _ | exact⟨Y,t,U⟩ | simp [go_sem, *]) (fail)
    have m:Hid (Z5r w (M.setCell ⟨K,a,none⟩ (.string s)).drew F B K N (.slice (some ⟨g,0,none⟩) S.wait.length b) S f j):=(i.out.mid o.out L.out hf).drew
    have r:Row (M.setCell ⟨K,a,none⟩ (.string s)).drew wz 272 [.int .i64 (a:Nat),.string s]:=n.off E.1 _ _
    obtain⟨w4,y⟩:∃ w4,(M.setCell ⟨K,a,none⟩ (.string s)).drew=w4:=⟨_,rfl⟩
    rw [y] at m r
    try rw [y]
    clear t U Y q R c d n i
   case' false =>
    have m:Hid (Z5r w w3 F B K N (.slice (some ⟨g,0,none⟩) S.wait.length b) S f j):=i.out.skip L.out hf
    go_wp2_with fail
    refine d.mono ?_
    rintro e w4 ⟨rfl,rfl⟩
    have r:=n
    clear d n i
   all_goals
    have t:w4.cell? ⟨wz,0,none⟩=some (.int .i64 (a:Nat)):=r.cell 0
    have X:w4.cell? ⟨B,2,none⟩=some (.slice (some ⟨N,0,none⟩) S.kept.length S.kept.length):=m.out.row.cell 2
    have O:w4.cell? ⟨N,a,none⟩=some (.int .i64 (Z6D S.wait j a:Nat)):=m.out.new.cellF a Q
    have H:w4.frozen? ⟨N,a,none⟩=false:=m.out.new.frozen a
    have c:∀ v,(w4.setCell ⟨N,a,none⟩ v).cell? ⟨B,2,none⟩=some (.slice (some ⟨N,0,none⟩) S.kept.length S.kept.length)∧(w4.setCell ⟨N,a,none⟩ v).cell? ⟨wz,0,none⟩=some (.int .i64 (a:Nat)):=fun v=>⟨(m.out.row.off o.out.bn _ _).cell 2,(r.off E.2.1 _ _).cell 0⟩
    have P:(a:Int)<S.kept.length:=by omega
    go_wp2_with fail
    go_region_held3 (fun w'=>w'.cell? ⟨B,2,none⟩=some (.slice (some ⟨N,0,none⟩) S.kept.length S.kept.length)∧w'.cell? ⟨wz,0,none⟩=some (.int .i64 (a:Nat))) (first | exact c _ | exact⟨X,t⟩ | simp [go_sem, *]) (fail)
    have Z:Hid (Z3n w (w4.setCell ⟨N,a,none⟩ (.int .i64 0)).drew F B K N (.slice (some ⟨g,0,none⟩) S.wait.length b) S f (j+1)):=(m.out.next o.out L.out).drew
    clear t X O H c m r
    go_wp2
    go_roundw
    case rel=>exact⟨j+1,by omega,by go_num,Z.out⟩
    case measure=>simp [intOf];omega
  ·obtain rfl:j=S.wait.length:=by omega
   have D:=h.done o.out
   have b1:wr.cell? ⟨B,1,none⟩=some (.slice x S.wait.length b):=h.row.cell 1
   have f1:wr.frozen? ⟨B,1,none⟩=false:=h.row.frozen 1
   obtain⟨w5,I⟩:∃ w5,wr.setCell ⟨B,1,none⟩ (.slice none 0 0)=w5:=⟨_,rfl⟩
   rw [I] at D
   have V:Hid (Z0d w5 F B (Z3m f S)∧Z02 F w w5):=⟨⟨K,N,_,D.1⟩,D.2⟩
   clear D h
   go_wp2
   go_end0
   exact⟨rfl,V.out.1,V.out.2⟩
theorem flushFn (j:Nat)(w:World):Calls prog 143 #[.int .i64 (j:Int)] w fun e w'=>e= .returned (.bool true)∧w'=w:=by
 go_enter func143,ntmps143
 go_wp2
 go_ret
 exact⟨rfl,rfl⟩
def Z5s (S:PS):Int:=if S.up=true then 0 else 20
def Z1X (S:PS):PS:=if S.up=true then Z3m (fun _=>true) S else S
theorem flush_any (B:Nat)(F:Nat→Prop)(S:PS)(w:World)(hp:Z0d w F B S)(hw:S.wait.length≤1000000) :
  Calls prog 116 #[.pointer (some ⟨B,0,none⟩)] w fun e w'=>e= .returned (.int .i64 (Z5s S))∧Z0d w' F B (Z1X S)∧Z02 F w w':=by
 have b:=settleF B F S (fun _=>true) w hp hw fun j c _ _=>flushFn j c
 obtain⟨K,N,h,hp⟩:=hp
 have d:=hp.c4
 cases hu:S.up
 ·rw [hu] at d
  have a:Hid (Z5s S=20∧Z0d w F B (Z1X S)):=⟨by simp [Z5s,hu],by simp only [Z1X,hu];exact⟨K,N,h,hp⟩⟩
  clear hp hu b
  go_enter func116,ntmps116
  go_wp2
  go_ret
  exact⟨by rw [a.out.1];rfl,a.out.2,Z02.refl _ _⟩
 ·rw [hu] at d
  have a:Hid (Z5s S=0∧Z1X S=Z3m (fun _=>true) S):=⟨by simp [Z5s,hu],by simp only [Z1X,hu,if_true]⟩
  clear hp hu
  go_enter func116,ntmps116
  go_wp2_with fail
  refine b.mono ?_
  rintro e c ⟨rfl,g,f⟩
  clear b
  go_wp2
  go_ret
  exact⟨by rw [a.out.1];rfl,by rw [a.out.2];exact g,f⟩
def newP (n:Nat):PS:=⟨List.replicate n (Z0c 0 64),[],-1,true,0,0⟩
def newJ (n j:Nat):PS:=⟨List.replicate j (Z0c 0 64)++List.replicate (n-j) ByteArray.empty,[],-1,true,0,0⟩
theorem Z4V (n j:Nat)(h:j≤n):(newJ n j).kept.length=n:=by simp [newJ];omega
theorem newJ_all (n:Nat):newJ n n=newP n:=by simp [newJ,newP]
theorem newJ_step (n j:Nat)(h:j<n): { newJ n j with kept:=(newJ n j).kept.set j (Z0c 0 64)}=newJ n (j+1):=by
 have b:(List.replicate j (Z0c 0 64)++List.replicate (n-j) ByteArray.empty).set j (Z0c 0 64)=List.replicate (j+1) (Z0c 0 64)++List.replicate (n-(j+1)) ByteArray.empty:=by
  obtain⟨m,a⟩:∃ m,n-j=m+1:=⟨n-j-1,by omega⟩
  rw [a,show n-(j+1)=m by omega,List.set_append_right _ _ (by simp),List.length_replicate,Nat.sub_self,List.replicate_succ,List.set_cons_zero,List.replicate_succ' (n:=j),List.append_assoc]
  rfl
 simp only [newJ,b]
theorem plate_new (w:World)(F:Nat→Prop)(B K N n:Nat)(hn:n≤32768)(h1:Row w K 9 (List.replicate n (.string ⟨#[]⟩)))(h2:Row w N 3 (List.replicate n (.int .i64 0)))
  (h3:Row w B 70 [.slice (some ⟨K,0,none⟩) n n,.slice none 0 0,.slice (some ⟨N,0,none⟩) n n,.int .i64 (-1),.bool true,.int .i64 0,.int .i64 0])
  (hB:F B)(hK:F K)(hN:F N)(bk:B≠K)(bn:B≠N)(kn:K≠N):Z06 w F B K N (.slice none 0 0) (newJ n 0):=by
 have a:=Z4V n 0 (Nat.zero_le _)
 refine⟨?_,?_,?_,World.ownsRow_nil _ _ _ _,hB,hK,hN,fun g hg=>(by cases hg),bk,bn,kn,by simp [Value.ownBlock],by simp [Value.ownBlock],by simp [Value.ownBlock],by rw [a];exact hn,by simp [newJ],?_,by simp [newJ]⟩
 ·rw [a];exact h3
 ·have e:(newJ n 0).kept.map Value.string=List.replicate n (.string ⟨#[]⟩):=by simp only [newJ,List.replicate_zero,List.nil_append,Nat.sub_zero,List.map_replicate];rfl
  rw [e];exact h1
 ·have e:rowF (newJ n 0).kept.length (fun i=>Value.int .i64 (Z2j (newJ n 0).wait i:Nat))=List.replicate n (.int .i64 0):=by
   rw [a,rowF]
   simp only [newJ,lastOf_nil]
   rw [List.map_const',List.length_range]
   rfl
  rw [e];exact h2
 ·intro s b
  simp [newJ] at b
  exact .inl (by rw [b.2];rfl)
theorem Z4W:(prog.info? 9).map (fun i=>(i.zero,i.size,i.bytes))=some (some (.string ⟨#[]⟩),1,16):=by kernel_rfl
theorem Z1j:(prog.info? 3).map (fun i=>(i.zero,i.size,i.bytes))=some (some (.int .i64 0),1,8):=by kernel_rfl
theorem three_rows (w:World)(a1 a2 a3:Array Value)(t1 t2 t3:TypeId) :
  (((w.alloc (.cells a1 t1)).alloc (.cells a2 t2)).alloc (.cells a3 t3)).drew.heap[w.heap.size]? = some (.cells a1 t1 (0,0))∧(((w.alloc (.cells a1 t1)).alloc (.cells a2 t2)).alloc (.cells a3 t3)).drew.heap[w.heap.size+1]? = some (.cells a2 t2 (0,0)) ∧
  (((w.alloc (.cells a1 t1)).alloc (.cells a2 t2)).alloc (.cells a3 t3)).drew.heap[w.heap.size+1+1]? = some (.cells a3 t3 (0,0))∧Below w.heap.size w (((w.alloc (.cells a1 t1)).alloc (.cells a2 t2)).alloc (.cells a3 t3)).drew:=by
 have b:(w.alloc (.cells a1 t1)).heap.size=w.heap.size+1:=by simp
 have a:((w.alloc (.cells a1 t1)).alloc (.cells a2 t2)).heap.size=w.heap.size+1+1:=by simp
 refine⟨?_,?_,?_,((((Below.refl _ _).alloc (Nat.le_refl _) _).alloc (by omega) _).alloc (by omega) _).drew⟩
 ·show (((w.alloc (.cells a1 t1)).alloc (.cells a2 t2)).alloc (.cells a3 t3)).heap[w.heap.size]? = _
  rw [Below.heap_alloc _ _ _ (by omega),Below.heap_alloc _ _ _ (by omega)]
  exact heap_alloc_new w _
 ·show (((w.alloc (.cells a1 t1)).alloc (.cells a2 t2)).alloc (.cells a3 t3)).heap[w.heap.size+1]? = _
  rw [Below.heap_alloc _ _ _ (by omega),← b]
  exact heap_alloc_new _ _
 ·show (((w.alloc (.cells a1 t1)).alloc (.cells a2 t2)).alloc (.cells a3 t3)).heap[w.heap.size+1+1]? = _
  rw [← a]
  exact heap_alloc_new _ _
theorem Z2a {w:World}{g n:Nat}{t:TypeId}{z:Value}(h:w.heap[g]? = some (.cells (madeCells #[z] n) t (0,0))):Row w g t (List.replicate n z):=by
 rw [Row,← toList_madeCells_one];exact h
theorem new_any (n:Nat)(hn:n≤32768)(w:World) :
  Calls prog 8 #[.int .i64 n] w fun e w'=> ∃ B,e= .returned (.tuple #[.pointer (some ⟨B,0,none⟩),.int .i64 0])∧Z0d w' (fun k=>w.heap.size≤k∧k<w'.heap.size) B (newP n)∧Below w.heap.size w w':=by
 have z:=run_make_row' (P:=prog) 66 9 (.string ⟨#[]⟩) 16 underlying66 Z4W rfl .i64 .i64 n (by omega) (by omega)
 have E:=run_make_row' (P:=prog) 67 3 (.int .i64 0) 8 underlying67 Z1j rfl .i64 .i64 n (by omega) (by omega)
 have O:¬ (n:Int)<0:=by omega
 have M:¬ (32768:Int)<n:=by omega
 go_enter func8,ntmps8
 go_wp2_with fail
 go_region
 all_goals
  first
   |have o:=three_rows w (madeCells #[Value.string ⟨#[]⟩] n) (madeCells #[Value.int .i64 0] n) #[.slice (some ⟨w.heap.size,0,none⟩) n n,.slice none 0 0,.slice (some ⟨w.heap.size+1,0,none⟩) n n,.int .i64 (-1),.bool true,.int .i64 0,.int .i64 0] 9 3 70
    obtain⟨w1,b⟩:∃ w1,(((w.alloc (.cells (madeCells #[Value.string ⟨#[]⟩] n) 9)).alloc (.cells (madeCells #[Value.int .i64 0] n) 3)).alloc (.cells #[.slice (some ⟨w.heap.size,0,none⟩) n n,.slice none 0 0,.slice (some ⟨w.heap.size+1,0,none⟩) n n,.int .i64 (-1),.bool true,.int .i64 0,.int .i64 0] 70)).drew=w1:=⟨_,rfl⟩
    rw [b]
    rw [b] at o
    clear b
    obtain⟨r,q,x,c⟩:=o
    have a:=plate_new w1 (fun k=>w.heap.size≤k) (w.heap.size+1+1) w.heap.size (w.heap.size+1) n hn (Z2a r) (Z2a q) x (by omega) (by omega) (by omega) (by omega) (by omega) (by omega)
   |have o:=three_rows w (madeCells #[Value.int .i64 0] n) (madeCells #[Value.string ⟨#[]⟩] n) #[.slice (some ⟨w.heap.size+1,0,none⟩) n n,.slice none 0 0,.slice (some ⟨w.heap.size,0,none⟩) n n,.int .i64 (-1),.bool true,.int .i64 0,.int .i64 0] 3 9 70
    obtain⟨w1,b⟩:∃ w1,(((w.alloc (.cells (madeCells #[Value.int .i64 0] n) 3)).alloc (.cells (madeCells #[Value.string ⟨#[]⟩] n) 9)).alloc (.cells #[.slice (some ⟨w.heap.size+1,0,none⟩) n n,.slice none 0 0,.slice (some ⟨w.heap.size,0,none⟩) n n,.int .i64 (-1),.bool true,.int .i64 0,.int .i64 0] 70)).drew=w1:=⟨_,rfl⟩
    rw [b]
    rw [b] at o
    clear b
    obtain⟨r,q,x,c⟩:=o
    have a:=plate_new w1 (fun k=>w.heap.size≤k) (w.heap.size+1+1) (w.heap.size+1) w.heap.size n hn (Z2a q) (Z2a r) x (by omega) (by omega) (by omega) (by omega) (by omega) (by omega)
  clear r q x z E
  have H:Hid (Below w.heap.size w w1∧∃ K N,Z06 w1 (fun k=>w.heap.size≤k) (w.heap.size+1+1) K N (.slice none 0 0) (newJ n 0)):=⟨c,_,_,a⟩
  clear a c
  go_wp2_with fail
  refine (Z6k _).mono ?_
  rintro e A ⟨rfl,l⟩
  obtain⟨c,K,N,a⟩:=H.out
  have i:=a.keep (w':=A) fun k hk _=>l.block k hk
  have f:=c.trans (l.mono c.size)
  have t:=i.c0
  rw [Z4V n 0 (Nat.zero_le _)] at t
  have y:Hid (Below w.heap.size w A∧∃ K N,Z06 A (fun k=>w.heap.size≤k) (w.heap.size+1+1) K N (.slice none 0 0) (newJ n 0)):=⟨f,_,_,i⟩
  obtain⟨s,D⟩:∃ s,s=Z0c 0 64:=⟨_,rfl⟩
  rw [← D]
  have F:Hid (s=Z0c 0 64):=D
  clear a i c l f H D
  go_wp2_with fail
  go_loopw [25] (fun v wr=> ∃ j:Nat,j≤n∧v= .int .i64 j∧Below w.heap.size w wr∧∃ K N,Z06 wr (fun k=>w.heap.size≤k) (w.heap.size+1+1) K N (.slice none 0 0) (newJ n j)) (fun v _=>n-(intOf v).toNat)
  case atStart=>exact⟨0,Nat.zero_le _,rfl,y.out.1,y.out.2⟩
  case round =>
   clear y t
   obtain⟨j,J,rfl,u,K,N,a⟩:=hrel
   by_cases C:j<n
   ·have L:=Z4V n j J
    have t:=a.c0
    have I:=a.cK j (by omega)
    generalize (newJ n j).kept[j]=old at I
    rw [L] at t
    have R:wr.frozen? ⟨K,j,none⟩=false:=a.kept.frozen j
    have Q:(j:Int)<n:=by omega
    have d:=a.setKept j s (.inr (by rw [F.out,Z0T]))
    rw [F.out,newJ_step n j C,← F.out] at d
    have g:Below w.heap.size w (wr.setCell ⟨K,j,none⟩ (.string s)):=u.setCell (p:=⟨K,j,none⟩) a.fK _
    obtain⟨w3,G⟩:∃ w3,wr.setCell ⟨K,j,none⟩ (.string s)=w3:=⟨_,rfl⟩
    rw [G] at d g
    have m:Hid (Below w.heap.size w w3∧Z06 w3 (fun k=>w.heap.size≤k) (w.heap.size+1+1) K N (.slice none 0 0) (newJ n (j+1))):=⟨g,d⟩
    clear a d u g
    go_wp2
    go_roundw
    case rel=>exact⟨j+1,by omega,by go_num,m.out.1,K,N,m.out.2⟩
    case measure=>simp [intOf];omega
   ·obtain rfl:j=n:=by omega
    rw [newJ_all] at a
    have m:Hid (Below w.heap.size w wr∧Z06 wr (fun k=>w.heap.size≤k) (w.heap.size+1+1) K N (.slice none 0 0) (newP j)):=⟨u,a⟩
    clear a u
    go_wp2
    go_ret2
    exact⟨w.heap.size+1+1,rfl,⟨K,N,_,m.out.2.mono fun k hk h=>⟨h,hk⟩⟩,m.out.1⟩
theorem fillS_num (v n:Nat):Z0c v n=strOfNums ((List.replicate n v).map fun (x:Nat)=>(x:Int)):=rfl
def Z2O (v:Value)(b:Nat):Prop:=v.ownBlock≠some b
def Z5t (v u:Value):Prop:= ∀ g,v.ownBlock=some g→u.ownBlock≠some g
def refC (kv dv wv:Value)(S:PS):List Value:= [kv,dv,wv,.int .i64 S.fuse,.bool (!S.up),.int .i64 S.reads,.int .i64 S.writes]
structure RefAt (w:World) (F:Nat→Prop) (B:Nat) (kv dv wv:Value) (ks:List ByteArray) (ds:List Bool) (S:PS):Prop where
 row:Row w B 75 (refC kv dv wv S)
 kept:w.ownsRow 0 9 1 kv S.kept.length (ks.map Value.string)
 dumb:w.ownsRow 0 4 1 dv S.kept.length (ds.map Value.bool)
 wait:w.ownsRow 0 329 2 wv S.wait.length (Z5n S.wait)
 fB:F B
 fK:∀ g,kv.ownBlock=some g→F g
 fD:∀ g,dv.ownBlock=some g→F g
 fW:∀ g,wv.ownBlock=some g→F g
 kB:Z2O kv B
 dB:Z2O dv B
 wB:Z2O wv B
 kd:Z5t kv dv
 kw:Z5t kv wv
 dw:Z5t dv wv
 most:S.kept.length≤32768
 ats:∀ p∈S.wait,p.1<S.kept.length∧p.2.size=64
 says:∀ i,i<S.kept.length→S.kept[i]? = some (if ds.getD i false=true then ByteArray.empty else ks.getD i ByteArray.empty)
 texts:∀ s∈ks,s.size=64
 fuse: -1≤S.fuse∧S.fuse<9223372036854775808
def RefP (w:World)(F:Nat→Prop)(B:Nat)(S:PS):Prop:= ∃ kv dv wv ks ds,RefAt w F B kv dv wv ks ds S
theorem RefAt.keep {w w':World}{F:Nat→Prop}{B:Nat}{kv dv wv:Value}{ks:List ByteArray}{ds:List Bool}{S:PS}(h:RefAt w F B kv dv wv ks ds S)(hk:∀ k,k<w.heap.size→F k→w'.heap[k]? = w.heap[k]?):RefAt w' F B kv dv wv ks ds S :=
 { h with
  row:=(hk B h.row.lt h.fB).trans h.row
  kept:=Z0L h.kept fun g hg=>hk g (Z0Y h.kept g hg) (h.fK g hg)
  dumb:=Z0L h.dumb fun g hg=>hk g (Z0Y h.dumb g hg) (h.fD g hg)
  wait:=Z0L h.wait fun g hg=>hk g (Z0Y h.wait g hg) (h.fW g hg)}
theorem RefP.keep {w w':World}{F:Nat→Prop}{B:Nat}{S:PS}(h:RefP w F B S)(hk:∀ k,k<w.heap.size→F k→w'.heap[k]? = w.heap[k]?):RefP w' F B S:=by
 obtain⟨c,d,e,a,b,h⟩:=h
 exact⟨c,d,e,a,b,h.keep hk⟩
section
open Go.ChangeShapes Go.WideShapes Go.RowKit Go.Deep
section
variable {H:Type} {enc:TypeId × Value→H} {W:World}
end
end
end Go.Proofs.YtijpgmkdnemmbaaGreatDoor
