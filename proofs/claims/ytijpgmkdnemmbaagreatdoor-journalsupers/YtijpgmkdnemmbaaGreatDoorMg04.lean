/- Part 4. -/
import Derived.Test.YtijpgmkdnemmbaaGreatDoorProg
import Derived.Deep.AppendLies
import Derived.WalkKit
import Derived.Laws.BytesArg
import Derived.Laws.BitsLemmas
import Derived.Lib.LazyBuf
import Derived.Lib.AppendStr
import Derived.OneCell
import Derived.Test.YtijpgmkdnemmbaaGreatDoorRows
import Derived.WalkSpells
import Derived.WalkLawsBesides
import Derived.Below
import Derived.BigQuiet
import Derived.Deep.RegionHeld3
import Derived.Deep.QuietTactic
set_option maxRecDepth 20000
set_option maxHeartbeats 8000000
open Go.RowKit Go.Proofs.Tryz
namespace Go.Proofs.YtijpgmkdnemmbaaGreatDoor
theorem append_keeps {P:Program}(w:World)(base:Nat)(t ty e:TypeId)(i:TypeInfo)(z:Value)(bytes:Nat)(ht:P.underlying t=some (.slice e))(hi:P.info? e=some i)(hz:i.zero=some z)
  (hsize:i.size=1)(hby:i.bytes=bytes)
  (v:Value)(n:Nat)(xs:List Value)(hown:w.ownsRow base e 1 v n xs)
  (a:Addr)(m c:Nat)(news:List Value)(hl:news.length=m)(hnews:∀ j u,news[j]? = some u→w.cell? (a.add j)=some u)(h1:∀ u∈news,u.oneCell'=true)
  (h63:n+m≤maxLen)(hbytes:(n+m)*bytes≤140737488355328)(v':Value)(w':World)
  (hr:(Builtin.append_ #[t,t] ty #[v,.slice (some a) m c]).run P w= .ok v' w') :
  ∀ g,v.ownBlock=some g→∀ j u,xs[j]? = some u→w'.cell? ⟨g,j,none⟩=some u:=by
 subst hby
 intro g q j u l
 rcases hown.2 with ⟨rfl,_⟩ | ⟨g',cap,cur,rfl,hbg,hgg,hnc,hcm,hcs,htake⟩
 ·simp [Value.ownBlock] at q
 ·obtain rfl:g'=g:=by simpa [Value.ownBlock] using q
  have p:=hown.1
  simp only [Nat.mul_one] at p hcs htake
  have o:j<n:=by have:=(List.getElem?_eq_some_iff.1 l).1;omega
  have b:cur.toList[j]? = some u:=by
   rw [← htake,List.getElem?_take,if_pos o] at l
   exact l
  by_cases f:n+m≤cap
  ·have h:=run_append_room (P:=P) w t ty e i ht hi g' n cap cur hgg a m c news (by rw [hsize];omega) hnews h1 f (by rw [hsize];omega)
   rw [hr] at h
   injection h with _ hw
   rw [hw,hsize,cell_of_row _ _ _ _ _ _ (setRow_heap w g' cur _ e _ hgg)]
   have d:(cur.toList.take (n*1)).length=n:=by simp;omega
   rw [List.getElem?_toArray,List.append_assoc,List.getElem?_append_left (by omega),List.getElem?_take,if_pos (by omega)]
   exact b
  ·have k:=hown.cells (g:=g') rfl
   have h:=run_append_grow (P:=P) w t ty e i z ht hi hz ⟨g',0,none⟩ n cap xs (by rw [hsize];omega) k a m c news (by rw [hsize];omega) hnews (by omega) (by unfold maxLen at h63;omega) (growslice_fits (by omega) hbytes)
   rw [hr] at h
   injection h with _ hw
   rw [hw]
   have d:=(Array.getElem?_eq_some_iff.1 hgg).1
   have r:(w.drew.alloc (.cells (xs.toArray++news.toArray++Builtin.zeroCells z.cells (grownCap w (n+m) cap e-(n+m))) e)).heap[g']? = some (.cells cur e (0,0)):=by first | exact (heap_alloc_old w.drew _ g' d).trans hgg | exact (heap_alloc_old w.drew _ d).trans hgg
   rw [cell_of_row _ _ _ _ _ _ r]
   simpa using b
theorem wp_append_kept {P:Program}(w:World){o:Oper}{a:Act}{K:Act→World→Prop}{Q:Exit→Act→World→Prop}(s x:Operand)(t:TypeId)
  (ho:o.op= .call { callee:= .builtin .append,args:=#[s,x],argTypes:=#[t,t]})
  (base:Nat)(e:TypeId)(i:TypeInfo)(z:Value)(bytes:Nat)(ht:P.underlying t=some (.slice e))(hi:P.info? e=some i)(hz:i.zero=some z)
  (hsize:i.size=1)(hby:i.bytes=bytes)(hzs:z.cells.size=1)
  (v:Value)(n:Nat)(xs:List Value)(hs:a.eval s=v)(hown:w.ownsRow base e 1 v n xs)
  (ad:Addr)(m c:Nat)(news:List Value)(hx:a.eval x= .slice (some ad) m c)(hl:news.length=m)(hnews:∀ j u,news[j]? = some u→w.cell? (ad.add j)=some u)(h1:∀ u∈news,u.oneCell'=true)
  (hm:0<m)(h63:n+m≤maxLen)(hbytes:(n+m)*bytes≤140737488355328)(hbase:base≤w.heap.size)
  (h:∀ g cap w',w'.ownsRow base e 1 (.slice (some ⟨g,0,none⟩) (n+m) cap) (n+m) (xs++news)→w.grownBy w' v.ownBlock→(v.ownBlock=some g∨g=w.heap.size)→(∀ g0,v.ownBlock=some g0→∀ j u,xs[j]? = some u→w'.cell? ⟨g0,j,none⟩=some u)→K (a.put o.dst (.slice (some ⟨g,0,none⟩) (n+m) cap)) w'):o.wp P a w K Q:=by
 obtain⟨g,cap,w',b,f,d,l,_⟩:=run_append_lies (P:=P) w t o.type base e i z 1 bytes ht hi hz hsize hby hzs (by decide) v n xs hown ad m c news (by omega) hnews h1 hm h63 hbytes hbase _ rfl
 have k:=append_keeps w base t o.type e i z bytes ht hi hz hsize hby v n xs hown ad m c news hl hnews h1 h63 hbytes _ _ b
 unfold Oper.wp execOp
 simp only [ho,resolve,invoke,builtin,Sem.run_bind,Sem.run_pure,Result.andThen_ok,List.map_toArray,List.map_cons,List.map_nil,hs,hx,b]
 exact h g cap w' f d l k
theorem Z6z {P:Program}(w:World){ops:Array Oper}{o:Oper}{a:Act}{K:Act→World→Prop}{Q:Exit→Act→World→Prop}{E:Prop}(hgd:o.guard=none)(s x:Operand)(t:TypeId)
  (ho:o.op= .call { callee:= .builtin .append,args:=#[s,x],argTypes:=#[t,t]})
  (base:Nat)(e:TypeId)(i:TypeInfo)(z:Value)(bytes:Nat)(ht:P.underlying t=some (.slice e))(hi:P.info? e=some i)(hz:i.zero=some z)
  (hsize:i.size=1)(hby:i.bytes=bytes)(hzs:z.cells.size=1)
  (v:Value)(n:Nat)(xs:List Value)(hs:a.eval s=v)(hown:w.ownsRow base e 1 v n xs)
  (ad:Addr)(m c:Nat)(news:List Value)(hx:a.eval x= .slice (some ad) m c)(hl:news.length=m)(hnews:∀ j u,news[j]? = some u→w.cell? (ad.add j)=some u)(h1:∀ u∈news,u.oneCell'=true)
  (hm:0<m)(h63:n+m≤maxLen)(hbytes:(n+m)*bytes≤140737488355328)(hbase:base≤w.heap.size)
  (h:∀ g cap w',w'.ownsRow base e 1 (.slice (some ⟨g,0,none⟩) (n+m) cap) (n+m) (xs++news)→w.grownBy w' v.ownBlock→(v.ownBlock=some g∨g=w.heap.size)→(∀ g0,v.ownBlock=some g0→∀ j u,xs[j]? = some u→w'.cell? ⟨g0,j,none⟩=some u)→K (a.put o.dst (.slice (some ⟨g,0,none⟩) (n+m) cap)) w') :
  if Region.wanted o (yielded ops a.tmps)=true then Oper.wp P o a w K Q else E:=by
 have b:Region.wanted o (yielded ops a.tmps)=true:=by simp [Region.wanted,hgd]
 rw [if_pos b]
 exact wp_append_kept w s x t ho base e i z bytes ht hi hz hsize hby hzs v n xs hs hown ad m c news hx hl hnews h1 hm h63 hbytes hbase h
def leI (k:Nat)(n:Int):List Int:=(List.range k).map fun i=>n/256 ^ i%256
theorem Z19 (k:Nat)(n:Int):(leI k n).length=k:=by simp [leI]
theorem leI_succ (k:Nat)(n:Int):leI (k+1) n=leI k n ++ [n/256 ^ k%256]:=by simp [leI,List.range_succ]
def Z44 (k j:Nat)(n:Int):List Int:=leI j n++List.replicate (k-j) 0
theorem putRow_zero (k:Nat)(n:Int):Z44 k 0 n=List.replicate k 0:=by simp [Z44,leI]
theorem putRow_full (k:Nat)(n:Int):Z44 k k n=leI k n:=by simp [Z44]
theorem putRow_length (k j:Nat)(n:Int)(h:j≤k):(Z44 k j n).length=k:=by simp [Z44,Z19];omega
theorem putRow_set (k j:Nat)(n:Int)(h:j<k):(Z44 k j n).set j (n/256 ^ j%256)=Z44 k (j+1) n:=by
 unfold Z44
 rw [leI_succ,List.set_append_right _ _ (by rw [Z19];exact Nat.le_refl _),Z19,Nat.sub_self]
 rw [show k-j=(k-(j+1))+1 by omega,List.replicate_succ]
 simp
theorem pow_eq (j:Nat):(2:Int) ^ (8*j)=256 ^ j:=by rw [Int.pow_mul];rfl
def putS (n k:Int):ByteArray:=if (1≤k∧k≤6)∧0≤n∧n<256 ^ k.toNat then strOfNums (leI k.toNat n) else ByteArray.empty
def putE (n k:Int):Int:=if k<1∨6<k then 1 else if n<0∨256 ^ k.toNat≤n then 2 else 0
theorem Z6f {n k:Int}(h:k<1∨6<k):putS n k=ByteArray.empty:=by unfold putS;rw [if_neg (by omega)]
theorem Z6g {n k:Int}(h:k<1∨6<k):putE n k=1:=by unfold putE;rw [if_pos h]
theorem Z3G {n:Int}{m:Nat}(h:n<0∨256 ^ m≤n):putS n m=ByteArray.empty:=by
 unfold putS;rw [Int.toNat_natCast,if_neg (by omega)]
theorem Z3H {n:Int}{m:Nat}(h1:1≤m)(h2:m≤6)(h:n<0∨256 ^ m≤n):putE n m=2:=by
 unfold putE;rw [Int.toNat_natCast,if_neg (by omega),if_pos h]
theorem Z74 {n:Int}{m:Nat}(h1:1≤m)(h2:m≤6)(h:0≤n)(h':n<256 ^ m):putS n m=strOfNums (leI m n):=by
 unfold putS;rw [Int.toNat_natCast,if_pos (by omega)]
theorem putE_ok {n:Int}{m:Nat}(h1:1≤m)(h2:m≤6)(h:0≤n)(h':n<256 ^ m):putE n m=0:=by
 unfold putE;rw [Int.toNat_natCast,if_neg (by omega),if_neg (by omega)]
theorem leI_step (n:Int)(j:Nat):n/256 ^ j/256=n/256 ^ (j+1):=by
 rw [Int.pow_succ,Int.ediv_ediv_of_nonneg (Int.le_of_lt (Int.pow_pos (by decide)))]
def Z16:List UInt8→Int
 | []=>0
 | b :: r=>(b.toNat:Int)+256*Z16 r
theorem Z3f (l:List UInt8):0≤Z16 l:=by
 induction l with
 | nil=>exact Int.le_refl _
 | cons b r ih=>unfold Z16;omega
theorem leVal_lt (l:List UInt8):Z16 l<256 ^ l.length:=by
 induction l with
 | nil=>unfold Z16;decide
 | cons b r ih =>
  have a:b.toNat<256:=b.toNat_lt
  unfold Z16
  rw [List.length_cons,Int.pow_succ]
  omega
theorem leVal_snoc (l:List UInt8)(b:UInt8):Z16 (l ++ [b])=Z16 l+b.toNat*256 ^ l.length:=by
 induction l with
 | nil=>simp [Z16]
 | cons c r ih =>
  rw [List.cons_append]
  unfold Z16
  rw [ih,List.length_cons,Int.pow_succ]
  rw [Int.mul_add,Int.add_assoc,Int.mul_left_comm,Int.mul_comm 256 (256 ^ r.length)]
theorem bits_or_comm (k:IntKind)(x y:Int):bits .or k x y=bits .or k y x:=by simp [bits,BitVec.or_comm]
theorem wraps_i64p (n:Int)(h:0≤n)(h':n<2 ^ 63):IntKind.i64.wrap n=n:=by
 simp [IntKind.wrap,IntKind.bits,IntKind.signed]
 split <;> omega
theorem or_lit (q b:Int)(j:Nat)(P:Int)(i:Nat)(hP:P=2 ^ i)(hi:P≤1099511627776)(hj:(2:Int) ^ (8*j)=P)(h0:0≤q)(hq:q<P)(hb0:0≤b)(hb:b<256) :
  bits .or .i64 q (RowKit.wrap64 (RowKit.wrap64 b*2 ^ (8*j)))=q+b*P:=by
 have c:0≤b*P∧b*P≤255*1099511627776:=by
  have a:0≤P:=by omega
  refine⟨Int.mul_nonneg hb0 a,Int.le_trans (Int.mul_le_mul_of_nonneg_right (show b≤255 by omega) a) (by omega)⟩
 rw [hj,show RowKit.wrap64 b=b from by unfold RowKit.wrap64;omega,show RowKit.wrap64 (b*P)=b*P from by unfold RowKit.wrap64;omega,bits_or_comm]
 rw [bits_join .i64 63 (by decide) wraps_i64p i (b*P) q c.1 (by rw [hP];exact Int.mul_emod_left _ _) (by omega) h0 (by rw [← hP];exact hq) (by omega)]
 omega
theorem or_high (q b:Int)(j:Nat)(hj:j≤5)(h0:0≤q)(hq:q<256 ^ j)(hb0:0≤b)(hb:b<256) :
  bits .or .i64 q (RowKit.wrap64 (RowKit.wrap64 b*2 ^ (8*j)))=q+b*256 ^ j:=by
 have a:(256:Int) ^ j≤1099511627776:=by
  have:j=0∨j=1∨j=2∨j=3∨j=4∨j=5:=by omega
  rcases this with rfl | rfl | rfl | rfl | rfl | rfl <;> decide
 exact or_lit q b j (256 ^ j) (8*j) (pow_eq j).symm a (pow_eq j) h0 hq hb0 hb
theorem take_drop_snoc (s:ByteArray)(a j:Nat)(h:a+j<s.size):(s.data.toList.drop a).take (j+1)=(s.data.toList.drop a).take j ++ [s[a+j]]:=by
 have b:s.data.toList.length=s.size:=by simp
 rw [List.take_succ_eq_append_getElem (by simp;omega)]
 simp
 rfl
theorem numAt_snoc (s:ByteArray)(a j:Nat)(h:a+j<s.size):Z16 ((s.data.toList.drop a).take (j+1))=Z16 ((s.data.toList.drop a).take j)+s[a+j].toNat*256 ^ j:=by
 have b:s.data.toList.length=s.size:=by simp
 rw [take_drop_snoc s a j h,leVal_snoc,List.length_take,List.length_drop,b,Nat.min_eq_left (by omega)]
theorem numAt_lt (s:ByteArray)(a j:Nat):Z16 ((s.data.toList.drop a).take j)<256 ^ j:=by
 refine Int.lt_of_lt_of_le (leVal_lt _) ?_
 have:((s.data.toList.drop a).take j).length≤j:=List.length_take_le _ _
 have b:=Nat.pow_le_pow_right (show 0<256 by decide) this
 have e:∀ m:Nat,((256 ^ m:Nat):Int)=(256:Int) ^ m:=fun m=>by rw [Int.natCast_pow];rfl
 rw [← e,← e]
 exact Int.ofNat_le.2 b
def getN (s:ByteArray)(a k:Int):Int:=if (1≤k∧k≤6)∧0≤a∧a≤s.size-k then Z16 ((s.data.toList.drop a.toNat).take k.toNat) else 0
def getE (s:ByteArray)(a k:Int):Int:=if k<1∨6<k then 1 else if a<0∨s.size-k<a then 3 else 0
theorem getN_no {s:ByteArray}{a k:Int}(h:(k<1∨6<k)∨a<0∨s.size-k<a):getN s a k=0:=by unfold getN;rw [if_neg (by omega)]
theorem getE_noWidth {s:ByteArray}{a k:Int}(h:k<1∨6<k):getE s a k=1:=by unfold getE;rw [if_pos h]
theorem getE_short {s:ByteArray}{a k:Int}(h1:1≤k)(h2:k≤6)(h:a<0∨s.size-k<a):getE s a k=3:=by
 unfold getE;rw [if_neg (by omega),if_pos h]
theorem getE_ok {s:ByteArray}{a k:Nat}(h1:1≤k)(h2:k≤6)(h:a+k≤s.size):getE s a k=0:=by
 unfold getE;rw [if_neg (by omega),if_neg (by omega)]
theorem getN_ok {s:ByteArray}{a k:Nat}(h1:1≤k)(h2:k≤6)(h:a+k≤s.size):getN s a k=Z16 ((s.data.toList.drop a).take k):=by
 unfold getN;rw [if_pos (by omega)];simp
def padS (s:ByteArray)(n:Int):ByteArray:=if (0≤n∧n≤4096)∧s.size≤n then ⟨(s.data.toList++List.replicate (n.toNat-s.size) 0).toArray⟩ else ByteArray.empty
def padE (s:ByteArray)(n:Int):Int:=if n<0∨4096<n then 1 else if n<s.size then 4 else 0
theorem padS_no {s:ByteArray}{n:Int}(h:(n<0∨4096<n)∨n<s.size):padS s n=ByteArray.empty:=by unfold padS;rw [if_neg (by omega)]
theorem padE_arg {s:ByteArray}{n:Int}(h:n<0∨4096<n):padE s n=1:=by unfold padE;rw [if_pos h]
theorem padE_long {s:ByteArray}{n:Nat}(h1:n≤4096)(h:n<s.size):padE s n=4:=by unfold padE;rw [if_neg (by omega),if_pos (by omega)]
theorem Z5P {s:ByteArray}{n:Nat}(h1:n≤4096)(h:s.size≤n):padS s n=⟨(s.data.toList++List.replicate (n-s.size) 0).toArray⟩:=by
 unfold padS;rw [if_pos (by omega),Int.toNat_natCast]
theorem padE_ok {s:ByteArray}{n:Nat}(h1:n≤4096)(h:s.size≤n):padE s n=0:=by unfold padE;rw [if_neg (by omega),if_neg (by omega)]
def Z45 (s:ByteArray)(n:Nat):List Int:=s.data.toList.map (fun x=>(x.toNat:Int))++List.replicate (n-s.size) 0
theorem Z4M (s:ByteArray)(n:Nat)(h:s.size≤n):(Z45 s n).length=n:=by
 have a:s.data.toList.length=s.size:=by simp
 simp only [Z45,List.length_append,List.length_map,a,List.length_replicate];omega
theorem Z46 (l:List UInt8):strOfNums (l.map fun x=>(x.toNat:Int))=⟨l.toArray⟩:=by
 unfold strOfNums
 rw [List.map_map]
 congr 1
 congr 1
 conv=>rhs;rw [← List.map_id l]
 apply List.map_congr_left
 intro x _
 simp
theorem strOf_padNums (s:ByteArray)(n:Nat):strOfNums (Z45 s n)=⟨(s.data.toList++List.replicate (n-s.size) 0).toArray⟩:=by
 rw [← Z46]
 unfold Z45
 congr 1
 simp
theorem str_append (s:ByteArray)(l:List Int):s++strOfNums l=⟨(s.data.toList++l.map fun n=>UInt8.ofNat n.toNat).toArray⟩:=by
 apply ByteArray.ext
 apply Array.toList_inj.1
 simp [strOfNums]
def Z0S (m:Nat):ByteArray:=strOfNums (List.replicate m 0)
theorem Z1L (m:Nat):(Z0S m).size=m:=by unfold Z0S;rw [strOfNums_size];simp
theorem Z4v (s:ByteArray)(m:Nat):s++Z0S m=⟨(s.data.toList++List.replicate m 0).toArray⟩:=by
 unfold Z0S;rw [str_append];simp
def Z75 (xs:List Value):Nat→List Value→List Value
 | _,[]=>xs
 | o,v :: r=>Z75 (xs.set o v) (o+1) r
theorem setMany_eq:∀ (vs:List Value) (xs:List Value) (o:Nat),o+vs.length≤xs.length→Z75 xs o vs=xs.take o++vs++xs.drop (o+vs.length)
 | [],xs,o,_=>by simp [Z75]
 | v :: r,xs,o,h=>by
  have ho:o<xs.length:=by simp at h;omega
  rw [Z75,setMany_eq r _ _ (by simp at h ⊢;omega)]
  rw [List.take_set,List.take_succ_eq_append_getElem ho,List.set_append_right _ _ (by simp;omega),List.drop_set]
  rw [if_pos (by omega)]
  simp [Nat.min_eq_left (Nat.le_of_lt ho)]
  rw [show o+1+r.length=o+(r.length+1) by omega]
theorem Z3Z {base g n cap:Nat}{e:TypeId}:∀ (vs:List Value) (o:Nat) (w:World) (xs:List Value),w.ownsRow base e 1 (.slice (some ⟨g,0,none⟩) n cap) n xs →
  (w.setCells g o vs).ownsRow base e 1 (.slice (some ⟨g,0,none⟩) n cap) n (Z75 xs o vs)
 | [],_,_,_,h=>h
 | v :: r,o,_,_,h=>Z3Z r (o+1) _ _ (h.stored o v).1
section
open Go.RowKit Go.Lib
theorem Z76 {w:World}{b:Nat}{u v:Value}{t:TypeId}(h:w.heap[b]? = some (.cells #[u,v] t (0,0))):w.cell? ⟨b,0,none⟩=some u:=by simp [World.cell?,h]
theorem Z77 {w:World}{b:Nat}{u v:Value}{t:TypeId}(h:w.heap[b]? = some (.cells #[u,v] t (0,0))):w.cell? ⟨b,1,none⟩=some v:=by simp [World.cell?,h]
theorem two_free {w:World}{b:Nat}{u v:Value}{t:TypeId}(i:Nat)(h:w.heap[b]? = some (.cells #[u,v] t (0,0))):w.frozen? ⟨b,i,none⟩=false:=by simp [World.frozen?,h]
theorem two_set0 {w:World}{b:Nat}{u v x:Value}{t:TypeId}(h:w.heap[b]? = some (.cells #[u,v] t (0,0))):(w.setCell ⟨b,0,none⟩ x).heap[b]? = some (.cells #[x,v] t (0,0)):=by
 have a:=lt_of_block h
 have c:w.heap[b]= .cells #[u,v] t (0,0):=by simpa [Array.getElem?_eq_getElem a] using h
 show (w.heap.modify b _)[b]? = _
 rw [Array.getElem?_eq_getElem (by simpa using a),Array.getElem_modify_self,c]
 rfl
theorem two_set1 {w:World}{b:Nat}{u v x:Value}{t:TypeId}(h:w.heap[b]? = some (.cells #[u,v] t (0,0))):(w.setCell ⟨b,1,none⟩ x).heap[b]? = some (.cells #[u,x] t (0,0)):=by
 have a:=lt_of_block h
 have c:w.heap[b]= .cells #[u,v] t (0,0):=by simpa [Array.getElem?_eq_getElem a] using h
 show (w.heap.modify b _)[b]? = _
 rw [Array.getElem?_eq_getElem (by simpa using a),Array.getElem_modify_self,c]
 rfl
def Z2w (l:List UInt8):List Value:=l.map fun b=>Value.int .u8 (b.toNat:Int)
theorem Z40 (l m:List UInt8):Z2w l++Z2w m=Z2w (l++m):=by simp [Z2w]
theorem Z28 (s:ByteArray):strCells s=Z2w s.data.toList:=rfl
def Wr (w:World)(T E:TypeId)(b:Nat)(l:List UInt8)(e:Int):Prop :=
 ∃ v,w.heap[b]? = some (.cells #[v,.int .i64 e] T (0,0))∧w.ownsRow (b+1) E 1 v l.length (Z2w l)
theorem Z3I {w w':World}{base:Nat}{e:TypeId}{size:Nat}{v:Value}{n:Nat}{xs:List Value}(hb:Below w.heap.size w w')(h:w.ownsRow base e size v n xs):w'.ownsRow base e size v n xs:=by
 obtain⟨b,a⟩:=h
 refine⟨b,?_⟩
 rcases a with a | ⟨g,cap,cur,hv,hg,hh,r⟩
 ·exact .inl a
 ·exact .inr ⟨g,cap,cur,hv,hg,by rw [hb.block g (lt_of_block hh)];exact hh,r⟩
theorem Wr.below {w w':World}{T E:TypeId}{b:Nat}{l:List UInt8}{e:Int}(h:Wr w T E b l e)(hb:Below w.heap.size w w'):Wr w' T E b l e:=by
 obtain⟨v,a,c⟩:=h
 exact⟨v,by rw [hb.block b (lt_of_block a)];exact a,Z3I hb c⟩
theorem Wr.lt {w:World}{T E:TypeId}{b:Nat}{l:List UInt8}{e:Int}(h:Wr w T E b l e):b<w.heap.size:=by
 obtain⟨v,a,c⟩:=h
 exact lt_of_block a
def stepE (e n k:Int):Int:=if putE n k=0 then e else putE n k
def Z0N:List (Int × Int)→List UInt8
 | []=> []
 | p :: r=>(putS p.1 p.2).data.toList++Z0N r
def Z0r:List (Int × Int)→Bool
 | []=>true
 | p :: r=>(putE p.1 p.2==0)&&Z0r r
def errL:Int→List (Int × Int)→Int
 | e,[]=>e
 | e,p :: r=>errL (stepE e p.1 p.2) r
def widths:List (Int × Int)→Bool
 | []=>true
 | p :: r=>(decide (1≤p.2)&&decide (p.2≤6))&&widths r
theorem putE_two {n k:Int}(h1:1≤k)(h6:k≤6):putE n k=0∨putE n k=2:=by
 unfold putE
 rw [if_neg (by omega)]
 split
 ·exact .inr rfl
 ·exact .inl rfl
theorem errL_two:∀ (ps:List (Int × Int)),widths ps=true→errL 2 ps=2
 | [],_=>rfl
 | p :: r,h=>by
  simp only [widths,Bool.and_eq_true,decide_eq_true_eq] at h
  rcases putE_two (n:=p.1) h.1.1 h.1.2 with e | e
  ·rw [errL,stepE,if_pos e,errL_two r h.2]
  ·rw [errL,stepE,if_neg (by omega),e,errL_two r h.2]
theorem errL_ok:∀ (ps:List (Int × Int)),widths ps=true→errL 0 ps=if Z0r ps=true then 0 else 2
 | [],_=>rfl
 | p :: r,h=>by
  simp only [widths,Bool.and_eq_true,decide_eq_true_eq] at h
  rcases putE_two (n:=p.1) h.1.1 h.1.2 with e | e
  ·rw [errL,stepE,if_pos e,errL_ok r h.2]
   simp [Z0r,e]
  ·rw [errL,stepE,if_neg (by omega),e,errL_two r h.2]
   simp [Z0r,e]
theorem Z5a {n k:Int}(h:putE n k=0):(putS n k).data.toList.length=k.toNat:=by
 unfold putE at h
 split at h
 ·omega
 ·split at h
  ·omega
  ·unfold putS
   rw [if_pos (by omega)]
   simp [strOfNums,Z19]
def Z6H:List (Int × Int)→Nat
 | []=>0
 | p :: r=>p.2.toNat+Z6H r
theorem Z1p:∀ (ps:List (Int × Int)),Z0r ps=true→(Z0N ps).length=Z6H ps
 | [],_=>rfl
 | p :: r,h=>by
  simp only [Z0r,Bool.and_eq_true,beq_iff_eq] at h
  rw [Z0N,List.length_append,Z5a h.1,Z1p r h.2,Z6H]
theorem Z78 (n k:Int):(putS n k).data.toList.length≤6:=by
 unfold putS
 split
 ·simp [strOfNums,Z19];omega
 ·simp
theorem Z6I:∀ (ps:List (Int × Int)),(Z0N ps).length≤6*ps.length
 | []=>Nat.le_refl _
 | p :: r=>by
  have:=Z78 p.1 p.2
  have:=Z6I r
  rw [Z0N,List.length_append,List.length_cons]
  omega
theorem Z47:∀ (ps qs:List (Int × Int)),Z0N (ps++qs)=Z0N ps++Z0N qs
 | [],_=>rfl
 | p :: r,qs=>by rw [List.cons_append,Z0N,Z0N,Z47 r qs,List.append_assoc]
theorem Z79:∀ (ps qs:List (Int × Int)) (e:Int),errL e (ps++qs)=errL (errL e ps) qs
 | [],_,_=>rfl
 | p :: r,qs,e=>by rw [List.cons_append,errL,errL,Z79 r qs]
def recS (pre:List UInt8)(ps:List (Int × Int))(z:Nat):ByteArray:=if Z0r ps=true then ⟨(pre++Z0N ps++List.replicate z 0).toArray⟩ else ByteArray.empty
def recE (ps:List (Int × Int)):Int:=if Z0r ps=true then 0 else 2
theorem recS_no {pre:List UInt8}{ps:List (Int × Int)}{z:Nat}(h:Z0r ps=false):recS pre ps z=ByteArray.empty:=by simp [recS,h]
theorem recE_no {ps:List (Int × Int)}(h:Z0r ps=false):recE ps=2:=by simp [recE,h]
theorem Z5Q {pre:List UInt8}{ps:List (Int × Int)}{z:Nat}(h:Z0r ps=true):recS pre ps z=⟨(pre++Z0N ps++List.replicate z 0).toArray⟩:=by simp [recS,h]
theorem Z5R {ps:List (Int × Int)}(h:Z0r ps=true):recE ps=0:=by simp [recE,h]
theorem padS_rec {l:List UInt8}{n z:Nat}(hn:n≤4096)(h:l.length+z=n):padS ⟨l.toArray⟩ n=⟨(l++List.replicate z 0).toArray⟩:=by
 have a:(⟨l.toArray⟩:ByteArray).size=l.length:=by simp [ByteArray.size]
 rw [Z5P hn (by rw [a];omega),a,show n-l.length=z by omega]
theorem padE_rec {l:List UInt8}{n z:Nat}(hn:n≤4096)(h:l.length+z=n):padE ⟨l.toArray⟩ n=0:=by
 have a:(⟨l.toArray⟩:ByteArray).size=l.length:=by simp [ByteArray.size]
 rw [padE_ok hn (by rw [a];omega)]
theorem Z4S (w:World)(xs:Array Value)(t:TypeId)(o:Obj)(i:Nat)(v:Value)(h:xs[i]? = some v):((w.alloc (.cells xs t)).alloc o).cell? ⟨w.heap.size,i,none⟩=some v:=by
 rw [World.cell?_alloc_past _ _ _ (by simp),World.cell?_alloc_at _ _ _ _ rfl]
 exact h
theorem Z0u {w w1:World}{xs:Array Value}{t:TypeId}(hb:Below (w.alloc (.cells xs t)).heap.size (w.alloc (.cells xs t)) w1)(i:Nat)(v:Value)(h:xs[i]? = some v):w1.cell? ⟨w.heap.size,i,none⟩=some v:=by
 rw [hb.cell (p:=⟨w.heap.size,i,none⟩) (by simp),World.cell?_alloc_at _ _ _ _ rfl]
 exact h
def Z24 (a0 a1 a2 a3 a4 a5 a6 a7:Int):List (Int × Int):= [(a0,6),(a1,4),(a2,2),(a3,4),(a4,4),(a5,4),(a6,6),(a7,6)]
def padL (l:List UInt8)(z:Nat):ByteArray:=⟨(l++List.replicate z 0).toArray⟩
theorem padL_add (l:List UInt8)(r:ByteArray)(z:Nat):(⟨l.toArray⟩++r)++Z0S z=padL (l++r.data.toList) z:=by
 rw [Z4v]
 unfold padL
 congr 1
def Z0D (a0 a1 a2 a3:Int):List (Int × Int):= [(a0,6),(a1,6),(a2,6),(a3,4)]
def Z1P (a0 a1 a2 a3:Int)(r:ByteArray):ByteArray:=if r.size=32∧Z0r (Z0D a0 a1 a2 a3)=true then padL (Z0N (Z0D a0 a1 a2 a3)++r.data.toList) 394 else ByteArray.empty
def Z18 (a0 a1 a2 a3:Int)(r:ByteArray):Int:=if r.size=32 then recE (Z0D a0 a1 a2 a3) else 1
end
theorem info5:(prog.info? 5).map (fun i=>(i.zero,i.size,i.bytes))=some (some (.int .u8 0),1,1):=by kernel_rfl
theorem put_noWidth (n k:Int)(h:k<1∨6<k)(w:World) :
  Calls prog 67 #[.int .i64 n,.int .i64 k] w fun e w'=>e= .returned (.tuple #[.string ByteArray.empty,.int .i64 1])∧w'=w:=by
 rcases h with h | h
 ·go_enter func67,ntmps67
  go_wp2
  go_ret2
  exact⟨rfl,rfl⟩
 ·have a:1≤k:=by omega
  have b:decide (k≤6)=false:=by simp;omega
  go_enter func67,ntmps67
  go_wp2
  go_ret2
  exact⟨rfl,rfl⟩
theorem put_below (n:Int)(k:Nat)(h1:1≤k)(h2:k≤6)(h:n<0)(w:World) :
  Calls prog 67 #[.int .i64 n,.int .i64 k] w fun e w'=>e= .returned (.tuple #[.string ByteArray.empty,.int .i64 2])∧w'=w:=by
 have a:(1:Int)≤k:=by omega
 have b:(k:Int)≤6:=by omega
 go_enter func67,ntmps67
 go_wp2
 go_ret2
 exact⟨rfl,rfl⟩
theorem put_above (n:Int)(k:Nat)(h1:1≤k)(h2:k≤6)(h0:0≤n)(h:256 ^ k≤n)(w:World) :
  Calls prog 67 #[.int .i64 n,.int .i64 k] w fun e w'=>e= .returned (.tuple #[.string ByteArray.empty,.int .i64 2])∧w'=w:=by
 have f:(1:Int)≤k:=by omega
 have g:(k:Int)≤6:=by omega
 have i:(n/2 ^ (8*k)==0)=false:=by
  rw [pow_eq,beq_eq_false_iff_ne]
  intro e
  have d:(0:Int)<256 ^ k:=Int.pow_pos (by decide)
  have:=(Int.le_ediv_iff_mul_le (c:=256 ^ k) (a:=1) (b:=n) d).2 (by omega)
  omega
 clear h
 go_enter func67,ntmps67
 go_wp2
 go_ret2
 exact⟨rfl,rfl⟩
theorem put_ok (n:Int)(k:Nat)(h1:1≤k)(h2:k≤6)(h0:0≤n)(h:n<256 ^ k)(w:World) :
  Calls prog 67 #[.int .i64 n,.int .i64 k] w fun e w'=>e= .returned (.tuple #[.string (strOfNums (leI k n)),.int .i64 0])∧Below w.heap.size w w':=by
 have E:(1:Int)≤k:=by omega
 have D:(k:Int)≤6:=by omega
 have F:(n/2 ^ (8*k)==0)=true:=by
  rw [pow_eq,beq_iff_eq]
  exact Int.ediv_eq_zero_of_lt h0 h
 clear h
 obtain⟨x,m,l,r,q⟩:=info_parts info5
 go_enter func67,ntmps67
 go_wp2_with (first | (at_make;refine wpList_make_full _ rfl _ _ 90 rfl w.heap.size 5 x (.int .u8 0) 1 underlying90 m l r .i64 .i64 _ _ k rfl rfl rfl rfl ?c1 ?c2 (Nat.le_refl _) ?_) | go_in)
 case c1=>rw [q];omega
 case c2=>unfold maxLen;omega
 intro u d b
 have g:=(Below.refl _ _).grown b (Nat.le_refl _) (fun k hk=>by simp at hk)
 have c:u.ownsRow w.heap.size 5 1 (.slice (some ⟨w.heap.size,0,none⟩) k k) k ((Z44 k 0 n).map (Value.int .u8)):=by
  rw [putRow_zero];simpa [toList_madeCells_one,List.map_replicate,Value.cells] using d
 clear d b
 go_wp2
 go_loopw [19] (fun i wr=> ∃ j:Nat,j≤k∧i= .int .i64 j∧wr.ownsRow w.heap.size 5 1 (.slice (some ⟨w.heap.size,0,none⟩) k k) k ((Z44 k j n).map (Value.int .u8))∧Below w.heap.size w wr) (fun i _=>k-(intOf i).toNat)
 case atStart=>exact⟨0,Nat.zero_le _,rfl,c,g⟩
 case round =>
  obtain⟨j,y,rfl,a,s⟩:=hrel
  clear c g
  by_cases o:j<k
  ·have B:=a.frozenAt j
   have A:∃ v,wr.cell? ⟨w.heap.size,j,none⟩=some v:=by
    rw [a.cellAt j (by omega)]
    exact⟨_,List.getElem?_eq_getElem (by simp [putRow_length k j n y];omega)⟩
   obtain⟨C,z⟩:=A
   go_wp2
   go_roundw
   case rel =>
    have f:=(a.stored j (.int .u8 (n/2 ^ (8*j)%256))).1
    rw [← List.map_set] at f
    rw [pow_eq,putRow_set _ _ _ o] at f
    exact⟨j+1,by omega,by go_num,by rw [pow_eq];exact f,s.setCell (Nat.le_refl _) _⟩
   case measure=>simp [intOf];omega
  ·have p:j=k:=by omega
   subst p
   rw [putRow_full] at a
   have t:=run_convert_bytes_arg (P:=prog) wr 90 5 underlying90 underlying5 w.heap.size 0 j j (leI j n) (Z19 j n) (fun i m=>by
    rw [Nat.zero_add,a.cellAt i (by omega)]
    simp [Z19,m,List.getD]) 9 underlying9
   go_wp2
   go_ret2
   exact⟨rfl,s⟩
theorem Z3J (n k:Int)(w:World) :
  Calls prog 67 #[.int .i64 n,.int .i64 k] w fun e w'=>e= .returned (.tuple #[.string (putS n k),.int .i64 (putE n k)])∧Below w.heap.size w w':=by
 by_cases d:k<1∨6<k
 ·refine (put_noWidth n k d w).mono fun e w' ⟨he,hw⟩=> ?_
  rw [Z6f d,Z6g d]
  exact⟨he,hw ▸ Below.refl _ _⟩
 ·obtain⟨m,rfl⟩:=Int.eq_ofNat_of_zero_le (show 0≤k by omega)
  have c:1≤m:=by omega
  have a:m≤6:=by omega
  by_cases f:n<0
  ·refine (put_below n m c a f w).mono fun e w' ⟨he,hw⟩=> ?_
   rw [Z3G (.inl f),Z3H c a (.inl f)]
   exact⟨he,hw ▸ Below.refl _ _⟩
  by_cases b:256 ^ m≤n
  ·refine (put_above n m c a (by omega) b w).mono fun e w' ⟨he,hw⟩=> ?_
   rw [Z3G (.inr b),Z3H c a (.inr b)]
   exact⟨he,hw ▸ Below.refl _ _⟩
  ·rw [Z74 c a (by omega) (by omega),putE_ok c a (by omega) (by omega)]
   exact put_ok n m c a (by omega) (by omega) w
def allZ (t:ByteArray):Bool:=t.data.toList.all (· == 0)
def strLen:Value→Nat
 | .string t=>t.size
 | _=>0
theorem allZ_cons (t:ByteArray)(h:0<t.size)(h0:t[0].toNat=0):allZ (t.extract 1 t.size)=allZ t:=by
 have b:t.data.toList.length=t.size:=by simp
 unfold allZ
 rw [Lib.extract_data]
 have e:t.data.toList=t[0] :: t.data.toList.drop 1:=by
  have:=List.drop_eq_getElem_cons (l:=t.data.toList) (i:=0) (by omega)
  rw [List.drop_zero] at this
  exact this
 have a:t[0]=0:=UInt8.toNat_inj.1 h0
 rw [List.take_of_length_le (by simp)]
 conv=>rhs;rw [e]
 simp [a]
theorem allZ_snoc (t:ByteArray)(n:Nat)(h:t.size=n+1)(h0:(t[n]'(by omega)).toNat=0):allZ (t.extract 0 n)=allZ t:=by
 have b:t.data.toList.length=t.size:=by simp
 unfold allZ
 rw [Lib.extract_data]
 have e:t.data.toList=t.data.toList.take n ++ [t[n]'(by omega)]:=by
  have:=List.take_succ_eq_append_getElem (l:=t.data.toList) (i:=n) (by omega)
  rw [List.take_of_length_le (by omega)] at this
  exact this
 have a:t[n]'(by omega)=0:=UInt8.toNat_inj.1 h0
 simp only [List.drop_zero,Nat.sub_zero]
 conv=>rhs;rw [e]
 simp [a]
theorem allZ_first (t:ByteArray)(h:0<t.size)(h0:¬ t[0].toNat=0):allZ t=false:=by
 have a:t.data.toList.length=t.size:=by simp
 unfold allZ
 have e:t.data.toList=t[0] :: t.data.toList.drop 1:=by
  have:=List.drop_eq_getElem_cons (l:=t.data.toList) (i:=0) (by omega)
  rw [List.drop_zero] at this
  exact this
 rw [e]
 have:t[0]≠0:=fun hh=>h0 (by rw [hh];rfl)
 simp [this]
theorem allZ_nil (t:ByteArray)(h:t.size=0):allZ t=true:=by
 obtain rfl:t=ByteArray.empty:=by simpa using h
 rfl
theorem Z7a {s:ByteArray}(h:0<s.size):s.toList.isEmpty=false:=by
 rw [ByteArray.toList_eq,← Bool.not_eq_true,List.isEmpty_iff]
 intro e
 have:s.data.toList.length=s.size:=by simp
 rw [e] at this
 simp at this
 omega
theorem Z7b {s:ByteArray}(h:s.size=0):s.toList.isEmpty=true:=by
 obtain rfl:s=ByteArray.empty:=by simpa using h
 rw [ByteArray.toList_eq]
 rfl
theorem trimLeft_zero (s:ByteArray)(_hs:s.size≤maxLen)(w:World) :
  Calls prog 183 #[.string s,.int .u8 0] w fun e w'=>(∃ t,e= .returned (.string t)∧t.toList.isEmpty=allZ s)∧w'=w:=by
 unfold maxLen at _hs
 go_enter func183,ntmps183
 go_wp2
 go_loop [0] (fun v=> ∃ t:ByteArray,v= .string t∧t.size≤s.size∧allZ t=allZ s) (fun v=>strLen v)
 case atStart=>exact⟨s,rfl,Nat.le_refl _,rfl⟩
 case round =>
  obtain⟨t,rfl,i,h⟩:=hrel
  have d:Hid _:=h
  clear h
  by_cases c:0<t.size
  ·have g:(0:Int)<t.size:=by omega
   by_cases a:t[0].toNat=0
   ·have f:((t[0].toNat:Int)==0)=true:=by simp [a]
    have b:Hid _:=a
    clear a
    go_wp2
    go_round
    case rel=>exact⟨_,rfl,by simp;omega,by rw [allZ_cons t c b.out];exact d.out⟩
    case measure=>simp [strLen];omega
   ·have f:((t[0].toNat:Int)==0)=false:=by simp;omega
    have b:Hid _:=a
    clear a
    go_wp2
    go_ret
    refine⟨⟨t,rfl,?_⟩,rfl⟩
    rw [← d.out,allZ_first t c b.out]
    exact Z7a c
  ·have g:¬ (0:Int)<t.size:=by omega
   go_wp2
   go_ret
   refine⟨⟨t,rfl,?_⟩,rfl⟩
   rw [← d.out,allZ_nil t (by omega)]
   exact Z7b (by omega)
theorem trimRight_zero (s:ByteArray)(hs:s.size≤maxLen)(w:World) :
  Calls prog 184 #[.string s,.int .u8 0] w fun e w'=>(∃ t:ByteArray,e= .returned (.string t)∧t.size≤s.size∧allZ t=allZ s)∧w'=w:=by
 unfold maxLen at hs
 go_enter func184,ntmps184
 go_wp2
 go_loop [0] (fun v=> ∃ t:ByteArray,v= .string t∧t.size≤s.size∧allZ t=allZ s) (fun v=>strLen v)
 case atStart=>exact⟨s,rfl,Nat.le_refl _,rfl⟩
 case round =>
  obtain⟨t,rfl,h,g⟩:=hrel
  have b:Hid _:=g
  clear g
  by_cases j:0<t.size
  ·have d:(0:Int)<t.size:=by omega
   have f:t.size-1<t.size:=by omega
   by_cases a:t[t.size-1].toNat=0
   ·have c:((t[t.size-1].toNat:Int)==0)=true:=by simp [a]
    have i:Hid _:=a
    clear a
    go_wp2
    go_round
    case rel=>exact⟨_,rfl,by simp;omega,by rw [allZ_snoc t (t.size-1) (by omega) i.out];exact b.out⟩
    case measure=>simp [strLen];omega
   ·have c:((t[t.size-1].toNat:Int)==0)=false:=by simp;omega
    clear a
    go_wp2
    go_ret
    exact⟨⟨t,rfl,h,b.out⟩,rfl⟩
  ·have d:¬ (0:Int)<t.size:=by omega
   go_wp2
   go_ret
   exact⟨⟨t,rfl,h,b.out⟩,rfl⟩
set_option maxRecDepth 100000 in
theorem trim_zero (s:ByteArray)(hs:s.size≤maxLen)(w:World) :
  Calls prog 180 #[.string s,.string ⟨#[0]⟩] w fun e w'=>(∃ t,e= .returned (.string t)∧t.toList.isEmpty=allZ s)∧Below w.heap.size w w':=by
 by_cases b:s.size=0
 ·have c:=Z7b b
  go_enter func180,ntmps180
  go_wp2
  go_ret
  exact⟨⟨s,rfl,by rw [c,allZ_nil s b]⟩,Below.refl _ _⟩
 ·have c:=Z7a (show 0<s.size by omega)
  go_enter func180,ntmps180
  go_wp2
  go_region_held3 (fun _=>True) (trivial) (first | (go_at_call 184;refine (trimRight_zero s hs _).mono ?_;rintro e w' ⟨⟨t,rfl,g,d⟩,rfl⟩) | (go_at_call 183;refine (trimLeft_zero _ (Nat.le_trans (by assumption) hs) _).mono ?_;rintro e w' ⟨⟨f,rfl,a⟩,rfl⟩))
  all_goals
   go_wp2
   go_ret
   exact⟨⟨_,rfl,a.trans d⟩,by repeat (first | exact Below.refl _ _ | apply Below.drew)⟩
theorem isZero_any (s:ByteArray)(hs:s.size≤maxLen)(w:World) :
  Calls prog 167 #[.string s] w fun e w'=>e= .returned (.bool (allZ s))∧Below w.heap.size w w':=by
 go_enter func167,ntmps167
 go_wp2_with fail
 refine (trim_zero s hs _).mono ?_
 rintro e d ⟨⟨t,rfl,a⟩,b⟩
 have c:Hid _:=a
 clear a
 go_wp2
 go_ret
 exact⟨by rw [← c.out];rfl,b⟩
theorem leI_cons (k:Nat)(n:Int):leI (k+1) n=n%256 :: leI k (n/256):=by
 have e:∀ i:Nat,n/256 ^ (i+1)%256=n/256/256 ^ i%256:=fun i=>by
  rw [Int.ediv_ediv_of_nonneg (by decide),Int.pow_succ,Int.mul_comm]
 simp only [leI,List.range_succ_eq_map,List.map_cons,List.map_map,Function.comp_def,Nat.succ_eq_add_one,e,Int.pow_zero,Int.ediv_one]
theorem leI_leVal:∀ l:List UInt8,leI l.length (Z16 l)=l.map fun x=>(x.toNat:Int)
 | []=>rfl
 | b :: r=>by
  have hb:=b.toNat_lt
  rw [List.length_cons,leI_cons,Z16,show ((b.toNat:Int)+256*Z16 r)%256=b.toNat by omega,show ((b.toNat:Int)+256*Z16 r)/256=Z16 r by omega,leI_leVal r]
  rfl
theorem put_back (l:List UInt8)(k:Nat)(hl:l.length=k)(h1:1≤k)(h6:k≤6):putE (Z16 l) k=0∧putS (Z16 l) k=⟨l.toArray⟩:=by
 subst hl
 refine⟨putE_ok h1 h6 (Z3f l) (leVal_lt l),?_⟩
 rw [Z74 h1 h6 (Z3f l) (leVal_lt l),leI_leVal,Z46]
def Z48 (L:List UInt8):Nat→List Nat→List (Int × Int)
 | _,[]=> []
 | a,k :: r=>(Z16 ((L.drop a).take k),(k:Int)) :: Z48 L (a+k) r
theorem Z5S (L:List UInt8):∀ (ws:List Nat) (a:Nat),(∀ k∈ws,1≤k∧k≤6)→a+ws.sum≤L.length→Z0r (Z48 L a ws)=true∧Z0N (Z48 L a ws)=(L.drop a).take ws.sum
 | [],_,_,_=>⟨rfl,by simp [Z48,Z0N]⟩
 | k :: r,a,hk,hl=>by
  rw [List.sum_cons] at hl
  obtain⟨h1,h6⟩:=hk k (List.mem_cons_self ..)
  obtain⟨i1,i2⟩:=Z5S L r (a+k) (fun x hx=>hk x (List.mem_cons_of_mem _ hx)) (by omega)
  obtain⟨p1,p2⟩:=put_back ((L.drop a).take k) k (by rw [List.length_take,List.length_drop];omega) h1 h6
  refine⟨?_,?_⟩
  ·rw [Z48,Z0r,i1,p1];rfl
  ·rw [Z48,Z0N,i2,p2,List.sum_cons]
   show (L.drop a).take k++_=_
   rw [← List.drop_drop,List.take_add]
theorem allZ_eq (t:ByteArray)(h:allZ t=true):t.data.toList=List.replicate t.size 0:=by
 unfold allZ at h
 rw [List.all_eq_true] at h
 refine List.eq_replicate_iff.2 ⟨by simp,fun x hx=> ?_⟩
 have:=h x hx
 simpa using this
theorem Z3g (s:ByteArray)(a b:Nat):(s.data.toList.drop a).take (b-a)=(s.extract a b).data.toList:=by
 simp
theorem text_zeros (s:ByteArray)(a n:Nat)(hs:s.size=n)(ha:a≤n)(h:allZ (s.extract a n)=true):s.data.toList.drop a=List.replicate (n-a) 0:=by
 have e:=allZ_eq _ h
 have b:(s.extract a n).size=n-a:=by simp;omega
 rw [b,← Z3g s a n,List.take_of_length_le (by simp;omega)] at e
 exact e
theorem ba_of {s:ByteArray}{l:List UInt8}(h:s.data.toList=l):(⟨l.toArray⟩:ByteArray)=s:=by
 subst h
 apply ByteArray.ext
 simp
theorem get_noWidth (s:ByteArray)(a k:Int)(h:k<1∨6<k)(w:World) :
  Calls prog 125 #[.string s,.int .i64 a,.int .i64 k] w fun e w'=>e= .returned (.tuple #[.int .i64 0,.int .i64 1])∧w'=w:=by
 rcases h with h | h
 ·go_enter func125,ntmps125
  go_wp2
  go_ret2
  exact⟨rfl,rfl⟩
 ·have b:1≤k:=by omega
  have c:decide (k≤6)=false:=by simp;omega
  go_enter func125,ntmps125
  go_wp2
  go_ret2
  exact⟨rfl,rfl⟩
theorem get_short (s:ByteArray)(a:Int)(k:Nat)(h1:1≤k)(h2:k≤6)(hs:s.size≤maxLen)(h:a<0∨(s.size:Int)-k<a)(w:World) :
  Calls prog 125 #[.string s,.int .i64 a,.int .i64 k] w fun e w'=>e= .returned (.tuple #[.int .i64 0,.int .i64 3])∧w'=w:=by
 unfold maxLen at hs
 have c:(1:Int)≤k:=by omega
 have d:(k:Int)≤6:=by omega
 by_cases f:a<0
 ·clear h
  go_enter func125,ntmps125
  go_wp2
  go_ret2
  exact⟨rfl,rfl⟩
 ·have b:(s.size:Int)-k<a:=by omega
  clear h
  go_enter func125,ntmps125
  go_wp2
  go_ret2
  exact⟨rfl,rfl⟩
theorem get_ok (s:ByteArray)(a:Nat)(k:Nat)(h1:1≤k)(h2:k≤6)(hs:s.size≤maxLen)(h:a+k≤s.size)(w:World) :
  Calls prog 125 #[.string s,.int .i64 a,.int .i64 k] w fun e w'=>e= .returned (.tuple #[.int .i64 (Z16 ((s.data.toList.drop a).take k)),.int .i64 0])∧w'=w:=by
 unfold maxLen at hs
 have r:(1:Int)≤k:=by omega
 have n:(k:Int)≤6:=by omega
 have o:¬ (s.size:Int)-k<a:=by omega
 go_enter func125,ntmps125
 go_wp2
 go_loop [8,24] (fun x i=> ∃ j:Nat,j≤k∧i= .int .i64 j∧x= .int .i64 (Z16 ((s.data.toList.drop a).take j))) (fun _ i=>k-(intOf i).toNat)
 case atStart=>exact⟨0,Nat.zero_le _,rfl,by simp [Z16]⟩
 case round =>
  obtain⟨j,p,rfl,rfl⟩:=hrel
  by_cases m:j<k
  ·obtain⟨q,c⟩:∃ q,q=Z16 ((s.data.toList.drop a).take j):=⟨_,rfl⟩
   have d:0≤q:=by rw [c];exact Z3f _
   rw [← c]
   have l:Hid _:=c
   clear c
   have g:a+j<s.size:=by omega
   go_wp2
   go_roundw
   case rel =>
    refine⟨j+1,by omega,by go_num,?_⟩
    have b:q<256 ^ j:=by rw [l.out];exact numAt_lt s a j
    rw [or_high q _ j (by omega) d b (by omega) (by have:=s[a+j].toNat_lt;omega),numAt_snoc s a j g,← l.out]
   case measure=>simp [intOf];omega
  ·have f:j=k:=by omega
   subst f
   go_wp2
   go_ret2
   exact⟨rfl,rfl⟩
theorem get_any (s:ByteArray)(a k:Int)(hs:s.size≤maxLen)(w:World) :
  Calls prog 125 #[.string s,.int .i64 a,.int .i64 k] w fun e w'=>e= .returned (.tuple #[.int .i64 (getN s a k),.int .i64 (getE s a k)])∧w'=w:=by
 by_cases h:k<1∨6<k
 ·rw [getN_no (.inl h),getE_noWidth h]
  exact get_noWidth s a k h w
 ·obtain⟨m,rfl⟩:=Int.eq_ofNat_of_zero_le (show 0≤k by omega)
  have d:1≤m:=by omega
  have c:m≤6:=by omega
  by_cases f:a<0∨(s.size:Int)-m<a
  ·rw [getN_no (.inr f),getE_short (by omega) (by omega) f]
   exact get_short s a m d c hs f w
  ·obtain⟨b,rfl⟩:=Int.eq_ofNat_of_zero_le (show 0≤a by omega)
   have g:b+m≤s.size:=by omega
   rw [getN_ok d c g,getE_ok d c g]
   exact get_ok s b m d c hs g w
end Go.Proofs.YtijpgmkdnemmbaaGreatDoor
