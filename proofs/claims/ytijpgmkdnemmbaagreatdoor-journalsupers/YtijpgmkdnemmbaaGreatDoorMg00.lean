/- Part 0. -/
import Derived.Test.YtijpgmkdnemmbaaGreatDoorProg
import Derived.WalkKit
import Derived.Laws.BitsAllLaws
import Derived.Laws.BitsLemmas
import Derived.Laws.BytesArg
import Derived.Lib.LazyBuf
import Derived.Lib.SliceRun
import Derived.Deep.WholeRow
import Derived.Deep.RegionHeld3
import Derived.Deep.QuietTactic
import Derived.BigQuiet
set_option maxRecDepth 20000
set_option maxHeartbeats 8000000
open Go.RowKit Go.Proofs.Tryz
namespace Go.Proofs.YtijpgmkdnemmbaaGreatDoor
theorem Z0W (l:List Nat)(d:Nat){i:Nat}(h:l.length≤i):l.getD i d=d:=by
 rw [List.getD_eq_getElem?_getD,List.getElem?_eq_none h];rfl
theorem Z0b (l:List Nat)(d:Nat){i:Nat}(h:i<l.length):l.getD i d=l[i]:=by
 rw [List.getD_eq_getElem?_getD,List.getElem?_eq_getElem h];rfl
theorem Z3s (l m:List Nat)(d i:Nat)(h:i<l.length):(l++m).getD i d=l.getD i d:=by
 rw [List.getD_eq_getElem?_getD,List.getElem?_append_left h,List.getD_eq_getElem?_getD]
theorem Z2l (l m:List Nat)(d i:Nat)(h:l.length≤i):(l++m).getD i d=m.getD (i-l.length) d:=by
 rw [List.getD_eq_getElem?_getD,List.getElem?_append_right h,List.getD_eq_getElem?_getD]
theorem Z17 {a b:Nat}(ha:a<4294967296)(hb:b<4294967296):a ^^^ b<4294967296:=Nat.xor_lt_two_pow (n:=32) ha hb
def Z03 (b:List Nat):Prop:= ∀ x∈b,x<256
theorem Z0k {b:List Nat}{m:Nat}(hm:0<m)(h:∀ x∈b,x<m)(i:Nat):b.getD i 0<m:=by
 by_cases a:i<b.length
 ·rw [Z0b _ _ a];exact h _ (List.getElem_mem _)
 ·rw [Z0W _ _ (by omega)];exact hm
theorem Z03.append {a b:List Nat}(ha:Z03 a)(hb:Z03 b):Z03 (a++b):=fun x hx=>by
 rcases List.mem_append.1 hx with h | h
 ·exact ha x h
 ·exact hb x h
theorem Z03.cons {x:Nat}{b:List Nat}(hx:x<256)(hb:Z03 b):Z03 (x :: b):=fun y hy=>by
 rcases List.mem_cons.1 hy with h | h
 ·omega
 ·exact hb y h
theorem Z03.zeros (n:Nat):Z03 (List.replicate n 0):=fun x hx=>by
 have:=(List.mem_replicate.1 hx).2
 omega
theorem Z03.take {b:List Nat}(h:Z03 b)(n:Nat):Z03 (b.take n):=fun x hx=>h x (List.mem_of_mem_take hx)
theorem Z03.drop {b:List Nat}(h:Z03 b)(n:Nat):Z03 (b.drop n):=fun x hx=>h x (List.mem_of_mem_drop hx)
def Row (w:World)(g:Nat)(t:TypeId)(l:List Value):Prop:=w.heap[g]? = some (.cells l.toArray t (0,0))
def Only (b:Nat)(w w':World):Prop:=Below 0 w w'∧∀ k,k<w.heap.size→k≠b→w'.heap[k]? = w.heap[k]?
theorem Only.refl (b:Nat)(w:World):Only b w w:=⟨Below.refl _ _,fun _ _ _=>rfl⟩
theorem Only.trans {b:Nat}{w w1 w2:World}(h:Only b w w1)(k:Only b w1 w2):Only b w w2 :=
 ⟨h.1.trans k.1,fun i hi hb=>(k.2 i (Nat.lt_of_lt_of_le hi h.1.size) hb).trans (h.2 i hi hb)⟩
theorem Only.of_below {b:Nat}{w w':World}(h:Below w.heap.size w w'):Only b w w':=⟨h.mono (Nat.zero_le _),fun k hk _=>h.block k hk⟩
theorem Only.below {b:Nat}{w w':World}(h:Only b w w')(hb:b≤w.heap.size):Below b w w':=⟨h.1.os,h.1.tape,h.1.output,h.1.size,fun k hk=>h.2 k (by omega) (by omega)⟩
theorem Only.size {b:Nat}{w w':World}(h:Only b w w'):w.heap.size≤w'.heap.size:=h.1.size
theorem Only.setCell {b:Nat}{w w':World}(h:Only b w w')(i:Nat)(v:Value):Only b w (w'.setCell ⟨b,i,none⟩ v) :=
 ⟨h.1.setCell (p:=⟨b,i,none⟩) (Nat.zero_le _) _,fun k hk hb=>(Below.heap_setCell w' ⟨b,i,none⟩ _ k hb).trans (h.2 k hk hb)⟩
theorem set_mid (A P Q C:List Value)(v q:Value)(n:Nat)(hn:n=A.length+P.length):(A++P++(q :: Q)++C).toArray.setIfInBounds n v=(A++(P ++ [v])++Q++C).toArray:=by
 subst hn
 rw [List.setIfInBounds_toArray]
 congr 1
 rw [List.append_assoc,List.set_append_right _ _ (by simp),List.length_append,Nat.sub_self]
 simp
def byV (l:List Nat):List Value:=l.map fun x=>Value.int .u8 (x:Nat)
theorem Z0l {B g:Nat}{w0 w:World}(h:Below B w0 w)(hg:B≤g)(cs:Array Value):Below B w0 (w.setRow g cs) :=
 h.trans ⟨rfl,rfl,rfl,by simp [World.setRow],fun k hk=>setRow_other _ _ _ _ (by omega)⟩
theorem Row.lt {w:World}{g:Nat}{t:TypeId}{l:List Value}(h:Row w g t l):g<w.heap.size:=lt_of_block h
theorem Row.cell {w:World}{g:Nat}{t:TypeId}{l:List Value}(h:Row w g t l)(i:Nat):w.cell? ⟨g,i,none⟩=l[i]? :=(cell_of_row _ _ _ _ _ _ h).trans (by simp)
theorem Row.frozen {w:World}{g:Nat}{t:TypeId}{l:List Value}(h:Row w g t l)(i:Nat):w.frozen? ⟨g,i,none⟩=false:=by simp [World.frozen?,show w.heap[g]? = _ from h]
theorem Row.below {w w':World}{g:Nat}{t:TypeId}{l:List Value}(h:Row w g t l){B:Nat}(hb:Below B w w')(hg:g<B):Row w' g t l:=(hb.block _ hg).trans h
theorem Row.only {w w':World}{g b:Nat}{t:TypeId}{l:List Value}(h:Row w g t l)(ho:Only b w w')(hg:g≠b):Row w' g t l:=(ho.2 _ h.lt hg).trans h
theorem Row.set {w:World}{g n:Nat}{t:TypeId}{A C:List Value}{q:Value}(h:Row w g t (A ++ [q]++C))(v:Value)(hn:n=A.length):Row (w.setCell ⟨g,n,none⟩ v) g t (A ++ [v]++C):=by
 have b:=heap_setCell_same w g n _ t v h
 have a:=set_mid A [] [] C v q n (by simpa using hn)
 simp only [List.append_nil,List.nil_append] at a
 rw [a] at b
 exact b
theorem Row.setCells {g:Nat}{t:TypeId}{C:List Value}:∀ (vs B A:List Value) (w:World) (n:Nat),vs.length=B.length→n=A.length→Row w g t (A++B++C)→Row (w.setCells g n vs) g t (A++vs++C)
 | [],[],A,w,n,_,_,h=>h
 | v :: vs,q :: B,A,w,n,hl,hn,h=>by
  have h1:Row w g t (A ++ [q]++(B++C)):=by simpa using h
  have b:=h1.set v hn
  have c:Row (w.setCell ⟨g,n,none⟩ v) g t ((A ++ [v])++B++C):=by simpa using b
  have a:=Row.setCells vs B (A ++ [v]) _ (n+1) (by simpa using hl) (by simp [hn]) c
  show Row ((w.setCell ⟨g,n,none⟩ v).setCells g (n+1) vs) g t (A++(v :: vs)++C)
  rw [show A++(v :: vs)++C=(A ++ [v])++vs++C by simp]
  exact a
 | v :: vs,[],A,w,n,hl,_,_=>by simp at hl
 | [],q :: B,A,w,n,hl,_,_=>by simp at hl
theorem Only.setCells {b:Nat}{w:World}:∀ (vs:List Value) (n:Nat) (w':World),Only b w w'→Only b w (w'.setCells b n vs)
 | [],_,_,h=>h
 | v :: vs,n,_,h=>Only.setCells vs (n+1) _ (h.setCell n v)
theorem Z2M {P:Program}(w:World)(dT sT ty elem:TypeId)(b o dLen dCap:Nat)(t:ByteArray)
  (hu:P.underlying dT=some (.slice elem))(hz:∀ w,(Go.sizeOf elem).run P w= .ok 1 w)(hle:dLen≤t.size)
  (hc:∀ j,j<dLen→(w.cell? ⟨b,o+j,none⟩).isSome=true)(hf:∀ j,j<dLen→w.frozen? ⟨b,o+j,none⟩=false) :
  (Builtin.copy_ #[dT,sT] ty #[.slice (some ⟨b,o,none⟩) dLen dCap,.string t]).run P w= .ok (goInt dLen) (w.setCells b o ((t.data.toList.take dLen).map fun x=>Value.int .u8 (x.toNat:Int))):=by
 have a:Nat.min t.size dLen=dLen:=Nat.min_eq_right hle
 have d:((t.data.toList.take dLen).map fun x=>Value.int .u8 (x.toNat:Int)).length=dLen:=by
  rw [List.length_map,List.length_take,← Lib.size_eq];omega
 have c:=run_storeCells_cells (P:=P) b o ((t.data.toList.take dLen).map fun x=>Value.int .u8 (x.toNat:Int)) 0 w (by rw [d];simpa using hc) (by rw [d];simpa using hf) (by
  intro v e
  obtain⟨x,_,rfl⟩:=List.mem_map.1 e
  rfl)
 simp [Builtin.copy_,run_underlying hu,Builtin.lenOf,Builtin.firstCells,hz,a]
 rw [← List.map_take,c]
 rfl
theorem Z05 (a b:List Nat):byV (a++b)=byV a++byV b:=by simp [byV]
theorem Z1l (n:Nat):byV (List.replicate n 0)=List.replicate n (Value.int .u8 0):=by simp [byV]
theorem Z0s (b:List Nat)(i:Nat)(h:i<b.length):(byV b)[i]? = some (.int .u8 (b.getD i 0:Nat)):=by
 rw [byV,List.getElem?_map,List.getElem?_eq_getElem h,Z0b _ _ h]
 rfl
def Z00 (s:ByteArray):List Nat:=s.data.toList.map (·.toNat)
theorem Z01 (s:ByteArray):(Z00 s).length=s.size:=by simp [Z00]
theorem Z04 (s:ByteArray):Z03 (Z00 s):=fun x hx=>by
 obtain⟨y,_,rfl⟩:=List.mem_map.1 hx
 exact y.toNat_lt
def Z2m:Value→Nat
 | .string t=>t.size
 | _=>0
theorem Z2W (w:World):(Go.sizeOf 5).run prog w= .ok 1 w:=by
 obtain⟨e,b,d,a,c⟩:=info_parts (show (prog.info? 5).map (fun i=>(i.zero,i.size,i.bytes))=some (some (.int .u8 0),1,1) by kernel_rfl)
 simp [Go.sizeOf,typeInfo,b,a]
theorem Z0h (s:ByteArray)(p q:Nat):Z00 (s.extract p q)=((Z00 s).drop p).take (q-p):=by
 rw [Z00,Lib.extract_data,List.map_take,List.map_drop]
 rfl
theorem Z08 (l:List Nat)(h:Z03 l):Z00 (strOfNums (l.map fun (x:Nat)=>(x:Int)))=l:=by
 unfold Z00 strOfNums
 rw [List.map_map,List.map_map]
 conv=>rhs;rw [← List.map_id l]
 refine List.map_congr_left fun x a=> ?_
 have a:=h x a
 simp
 omega
theorem Z0P (n:Int)(h0:0≤n)(h1:n<2 ^ 63):IntKind.i64.wrap n=n:=by rw [IntKind.wrap_i64];omega
theorem Z0q (a b:Nat)(ha:a<9223372036854775808)(hb:b<9223372036854775808):bits .and .i64 (a:Int) (b:Int)=((a &&& b:Nat):Int):=(bits_nat .i64 63 (by decide) Z0P a b ha hb).1
theorem Z4t (a b:Nat)(ha:a<9223372036854775808)(hb:b<9223372036854775808):bits .or .i64 (a:Int) (b:Int)=((a ||| b:Nat):Int):=(bits_nat .i64 63 (by decide) Z0P a b ha hb).2
theorem Z0t (a b:Nat)(ha:a<9223372036854775808)(hb:b<9223372036854775808):bits .xor .i64 (a:Int) (b:Int)=((a ^^^ b:Nat):Int):=by
 have c:a ^^^ b<2 ^ 63:=Nat.xor_lt_two_pow ha hb
 show IntKind.i64.wrap ((BitVec.ofInt 64 (a:Int) ^^^ BitVec.ofInt 64 (b:Int)).toNat:Int)=_
 rw [BitVec.toNat_xor,ofInt_u64 a (by omega),ofInt_u64 b (by omega)]
 exact Z0P _ (Int.natCast_nonneg _) (by exact_mod_cast c)
theorem Z2n:(prog.info? 5).map (fun i=>(i.zero,i.size,i.bytes))=some (some (.int .u8 0),1,1):=by kernel_rfl
theorem numsV (s:ByteArray):(s.data.toList.map fun x=>Value.int .u8 (x.toNat:Int))=byV (Z00 s):=by simp [byV,Z00]
def rowF (n:Nat)(f:Nat→Value):List Value:=(List.range n).map f
theorem Z21 (n:Nat)(f:Nat→Value):(rowF n f).length=n:=by simp [rowF]
theorem Z4u (n:Nat)(f:Nat→Value)(i:Nat)(h:i<n):(rowF n f)[i]? = some (f i):=by simp [rowF,h]
theorem Z10 {n:Nat}{f f':Nat→Value}(h:∀ k,k<n→f k=f' k):rowF n f=rowF n f' :=
 List.map_congr_left fun k hk=>h k (List.mem_range.1 hk)
theorem rowF_set (n:Nat)(f:Nat→Value)(i:Nat)(v:Value):(rowF n f).set i v=rowF n fun k=>if k=i then v else f k:=by
 refine List.ext_getElem? fun k=> ?_
 rw [List.getElem?_set]
 by_cases a:k<n
 ·rw [Z4u _ _ _ a,Z4u _ _ _ a,Z21]
  by_cases e:i=k
  ·subst e;simp [a]
  ·simp [e,Ne.symm e]
 ·rw [List.getElem?_eq_none (by rw [Z21];omega),List.getElem?_eq_none (by rw [Z21];omega),Z21]
  by_cases e:i=k
  ·subst e;simp [a]
  ·simp [e]
theorem Row.setF {w:World}{g t n:Nat}{f:Nat→Value}(h:Row w g t (rowF n f))(i:Nat)(v:Value):Row (w.setCell ⟨g,i,none⟩ v) g t (rowF n fun k=>if k=i then v else f k):=by
 have a:=heap_setCell_same w g i _ t v h
 rw [List.setIfInBounds_toArray,rowF_set] at a
 exact a
theorem Row.cellF {w:World}{g t n:Nat}{f:Nat→Value}(h:Row w g t (rowF n f))(i:Nat)(hi:i<n):w.cell? ⟨g,i,none⟩=some (f i):=by
 rw [h.cell,Z4u _ _ _ hi]
theorem byV_rowF (l:List Nat):byV l=rowF l.length fun k=> .int .u8 (l.getD k 0:Nat):=by
 refine List.ext_getElem? fun k=> ?_
 by_cases a:k<l.length
 ·rw [Z0s _ _ a,Z4u _ _ _ a]
 ·rw [List.getElem?_eq_none (by simp [byV];omega),List.getElem?_eq_none (by rw [Z21];omega)]
theorem Row.congr {w:World}{g t:Nat}{l l':List Value}(h:Row w g t l)(e:l=l'):Row w g t l':=e ▸ h
namespace Bx
def rotl (x n:Nat):Nat:=(x*2 ^ n ||| x/2 ^ (32-n))%4294967296
theorem Z7N (x n:Nat):rotl x n<4294967296:=Nat.mod_lt _ (by decide)
theorem rotl_or (x n:Nat)(hx:x<4294967296):x*2 ^ n%4294967296 ||| x/2 ^ (32-n)=rotl x n:=by
 unfold rotl
 have p:(4294967296:Nat)=2 ^ 32:=rfl
 rw [p,Nat.or_mod_two_pow,Nat.mod_eq_of_lt (a:=x/2 ^ (32-n)) (Nat.lt_of_le_of_lt (Nat.div_le_self _ _) hx)]
def qa (a b:Nat):Nat:=(a+b)%4294967296
def qd (a b d:Nat):Nat:=rotl (d ^^^ qa a b) 16
def qc (a b c d:Nat):Nat:=(c+qd a b d)%4294967296
def qb (a b c d:Nat):Nat:=rotl (b ^^^ qc a b c d) 12
def qA (a b c d:Nat):Nat:=(qa a b+qb a b c d)%4294967296
def qD (a b c d:Nat):Nat:=rotl (qd a b d ^^^ qA a b c d) 8
def qC (a b c d:Nat):Nat:=(qc a b c d+qD a b c d)%4294967296
def qB (a b c d:Nat):Nat:=rotl (qb a b c d ^^^ qC a b c d) 7
theorem qa_lt (a b:Nat):qa a b<4294967296:=Nat.mod_lt _ (by decide)
theorem qd_lt (a b d:Nat):qd a b d<4294967296:=Z7N _ _
theorem qc_lt (a b c d:Nat):qc a b c d<4294967296:=Nat.mod_lt _ (by decide)
theorem qb_lt (a b c d:Nat):qb a b c d<4294967296:=Z7N _ _
theorem qA_lt (a b c d:Nat):qA a b c d<4294967296:=Nat.mod_lt _ (by decide)
theorem qB_lt (a b c d:Nat):qB a b c d<4294967296:=Z7N _ _
theorem qC_lt (a b c d:Nat):qC a b c d<4294967296:=Nat.mod_lt _ (by decide)
theorem qD_lt (a b c d:Nat):qD a b c d<4294967296:=Z7N _ _
structure S16 where
 (a0 a1 a2 a3 b0 b1 b2 b3 c0 c1 c2 c3 d0 d1 d2 d3:Nat)
def S16.toL (s:S16):List Nat:= [s.a0,s.a1,s.a2,s.a3,s.b0,s.b1,s.b2,s.b3,s.c0,s.c1,s.c2,s.c3,s.d0,s.d1,s.d2,s.d3]
def S16.ok (s:S16):Prop:= ∀ x∈s.toL,x<4294967296
theorem S16.toL_length (s:S16):s.toL.length=16:=rfl
theorem S16.ok_all {s:S16}(h:s.ok):s.a0<4294967296∧s.a1<4294967296∧s.a2<4294967296∧s.a3<4294967296∧s.b0<4294967296∧s.b1<4294967296∧s.b2<4294967296∧s.b3<4294967296∧s.c0<4294967296∧s.c1<4294967296∧s.c2<4294967296∧s.c3<4294967296∧s.d0<4294967296∧s.d1<4294967296∧s.d2<4294967296∧s.d3<4294967296:=by
 simpa [S16.ok,S16.toL] using h
def S16.cols (s:S16):S16 :=
 ⟨qA s.a0 s.b0 s.c0 s.d0,qA s.a1 s.b1 s.c1 s.d1,qA s.a2 s.b2 s.c2 s.d2,qA s.a3 s.b3 s.c3 s.d3,
  qB s.a0 s.b0 s.c0 s.d0,qB s.a1 s.b1 s.c1 s.d1,qB s.a2 s.b2 s.c2 s.d2,qB s.a3 s.b3 s.c3 s.d3,
  qC s.a0 s.b0 s.c0 s.d0,qC s.a1 s.b1 s.c1 s.d1,qC s.a2 s.b2 s.c2 s.d2,qC s.a3 s.b3 s.c3 s.d3,
  qD s.a0 s.b0 s.c0 s.d0,qD s.a1 s.b1 s.c1 s.d1,qD s.a2 s.b2 s.c2 s.d2,qD s.a3 s.b3 s.c3 s.d3⟩
def S16.slants (s:S16):S16 :=
 ⟨qA s.a0 s.b1 s.c2 s.d3,qA s.a1 s.b2 s.c3 s.d0,qA s.a2 s.b3 s.c0 s.d1,qA s.a3 s.b0 s.c1 s.d2,
  qB s.a3 s.b0 s.c1 s.d2,qB s.a0 s.b1 s.c2 s.d3,qB s.a1 s.b2 s.c3 s.d0,qB s.a2 s.b3 s.c0 s.d1,
  qC s.a2 s.b3 s.c0 s.d1,qC s.a3 s.b0 s.c1 s.d2,qC s.a0 s.b1 s.c2 s.d3,qC s.a1 s.b2 s.c3 s.d0,
  qD s.a1 s.b2 s.c3 s.d0,qD s.a2 s.b3 s.c0 s.d1,qD s.a3 s.b0 s.c1 s.d2,qD s.a0 s.b1 s.c2 s.d3⟩
def S16.rounds (s:S16):Nat→S16
 | 0=>s
 | n+1=>(S16.rounds s n).cols.slants
theorem S16.slants_ok (s:S16):s.slants.ok:=by
 intro x a
 simp only [S16.toL,S16.slants,List.mem_cons,List.not_mem_nil,or_false] at a
 rcases a with rfl | rfl | rfl | rfl | rfl | rfl | rfl | rfl | rfl | rfl | rfl | rfl | rfl | rfl | rfl | rfl <;> simp only [qA_lt,qB_lt,qC_lt,qD_lt]
theorem S16.rounds_ok {s:S16}(h:s.ok):∀ n,(s.rounds n).ok
 | 0=>h
 | _+1=>S16.slants_ok _
def le4 (n:Nat):List Nat:= [n%256,n/256%256,n/65536%256,n/16777216%256]
def Z0w (b:List Nat)(i:Nat):Nat:=b.getD i 0+b.getD (i+1) 0*256+b.getD (i+2) 0*65536+b.getD (i+3) 0*16777216
def blkW (s:S16)(i:Nat):Nat:=((s.rounds 10).toL.getD i 0+s.toL.getD i 0)%4294967296
def blkN (s:S16):Nat→List Nat
 | 0=> []
 | n+1=>blkN s n++le4 (blkW s n)
def blkL (s:S16):List Nat:=blkN s 16
theorem le4_length (n:Nat):(le4 n).length=4:=rfl
theorem Z3T (s:S16):∀ n,(blkN s n).length=4*n
 | 0=>rfl
 | n+1=>by rw [blkN,List.length_append,Z3T s n,le4_length];omega
theorem Z1x (s:S16):(blkL s).length=64:=Z3T s 16
def st16 (key nonce:List Nat)(n:Nat):S16 :=
 ⟨0x61707865,0x3320646e,0x79622d32,0x6b206574,Z0w key 0,Z0w key 4,Z0w key 8,Z0w key 12,Z0w key 16,Z0w key 20,Z0w key 24,Z0w key 28,n,Z0w nonce 0,Z0w nonce 4,Z0w nonce 8⟩
def chaL (key nonce:List Nat)(n:Nat):List Nat:=blkL (st16 key nonce n)
theorem Z7O (key nonce:List Nat)(n:Nat):(chaL key nonce n).length=64:=Z1x _
def chaS (key nonce:List Nat)(at_:Nat)(l:List Nat):List Nat:=(List.range l.length).map fun i=>l.getD i 0 ^^^ (chaL key nonce (at_+i/64)).getD (i%64) 0
theorem Z23 (key nonce:List Nat)(at_:Nat)(l:List Nat):(chaS key nonce at_ l).length=l.length:=by simp [chaS]
theorem rot_turn (n:Nat)(h2:n≤31):bits .and .u64 (n:Int) 31=(n:Int):=by
 rw [show (31:Int)=((31:Nat):Int) from rfl,u64_and_nat _ _ (by omega) (by decide),nat_mask5,Nat.mod_eq_of_lt (by omega)]
theorem rot_bits (x n m:Nat)(hx:x<4294967296)(hm:m=32-n):bits .or .u32 ((x:Int)*2 ^ n%4294967296) ((x:Int)/2 ^ m)=((rotl x n:Nat):Int):=by
 subst hm
 have b:(x:Int)*2 ^ n%4294967296=((x*2 ^ n%4294967296:Nat):Int):=by
  rw [Int.natCast_emod,Int.natCast_mul,Int.natCast_pow];rfl
 have a:(x:Int)/2 ^ (32-n)=((x/2 ^ (32-n):Nat):Int):=by
  rw [Int.natCast_ediv,Int.natCast_pow];rfl
 rw [b,a,u32_or_nat _ _ (Nat.mod_lt _ (by decide)) (Nat.lt_of_le_of_lt (Nat.div_le_self _ _) hx),rotl_or x n hx]
theorem Z5C (x n:Nat)(hx:x<4294967296)(h1:1≤n)(h2:n≤31)(w:World) :
  Calls prog 176 #[.int .u32 x,.int .i64 n] w fun e w'=>e= .returned (.int .u32 (rotl x n:Nat))∧w'=w:=by
 obtain⟨m,a⟩:∃ m,m=32-n:=⟨_,rfl⟩
 have b:=rot_turn n h2
 have f:=rot_bits x n m hx a
 have c:IntKind.u64.wrap (n:Int)=n:=by rw [IntKind.wrap_u64];omega
 have h:IntKind.u64.wrap (32-(n:Int))=m:=by rw [IntKind.wrap_u64];omega
 have d:IntKind.u32.wrap ((x:Int)*2 ^ n)=(x:Int)*2 ^ n%4294967296:=IntKind.wrap_u32 _
 have g:min m 32=m:=by omega
 clear a
 go_enter func176,ntmps176
 go_wp2
 go_ret
 exact⟨rfl,rfl⟩
theorem Z7P (a b:Nat):IntKind.u32.wrap ((a:Int)+b)=(((a+b)%4294967296:Nat):Int):=by rw [IntKind.wrap_u32];omega
theorem quarter_any (a b c d:Nat)(hb:b<4294967296)(hd:d<4294967296)(w:World) :
  Calls prog 254 #[.int .u32 a,.int .u32 b,.int .u32 c,.int .u32 d] w fun e w'=>e= .returned (.tuple #[.int .u32 (qA a b c d:Nat),.int .u32 (qB a b c d:Nat),.int .u32 (qC a b c d:Nat),.int .u32 (qD a b c d:Nat)])∧w'=w:=by
 obtain⟨p,h⟩:∃ p,p=qa a b:=⟨_,rfl⟩
 have E:p<4294967296:=by rw [h];exact qa_lt _ _
 obtain⟨o,j⟩:∃ o,o=qd a b d:=⟨_,rfl⟩
 have x:o<4294967296:=by rw [j];exact qd_lt _ _ _
 obtain⟨r,l⟩:∃ r,r=qc a b c d:=⟨_,rfl⟩
 have D:r<4294967296:=by rw [l];exact qc_lt _ _ _ _
 obtain⟨s,i⟩:∃ s,s=qb a b c d:=⟨_,rfl⟩
 have z:s<4294967296:=by rw [i];exact qb_lt _ _ _ _
 obtain⟨n,k⟩:∃ n,n=qA a b c d:=⟨_,rfl⟩
 have G:n<4294967296:=by rw [k];exact qA_lt _ _ _ _
 obtain⟨t,f⟩:∃ t,t=qD a b c d:=⟨_,rfl⟩
 have H:t<4294967296:=by rw [f];exact qD_lt _ _ _ _
 obtain⟨q,g⟩:∃ q,q=qC a b c d:=⟨_,rfl⟩
 have F:q<4294967296:=by rw [g];exact qC_lt _ _ _ _
 obtain⟨B,m⟩:∃ B,B=qB a b c d:=⟨_,rfl⟩
 have I:B<4294967296:=by rw [m];exact qB_lt _ _ _ _
 rw [← k,← m,← g,← f]
 have K:IntKind.u32.wrap ((a:Int)+b)=p:=by rw [Z7P,h];rfl
 have O:=u32_xor_nat _ _ hd E
 have y:∀ w,Calls prog 176 #[.int .u32 (d ^^^ p:Nat),.int .i64 16] w fun e w'=>e= .returned (.int .u32 o)∧w'=w:=fun w=>by
  rw [j,h]
  exact Z5C _ 16 (Z17 hd (qa_lt _ _)) (by decide) (by decide) w
 have J:IntKind.u32.wrap ((c:Int)+o)=r:=by rw [Z7P,l,j];rfl
 have P:=u32_xor_nat _ _ hb D
 have A:∀ w,Calls prog 176 #[.int .u32 (b ^^^ r:Nat),.int .i64 12] w fun e w'=>e= .returned (.int .u32 s)∧w'=w:=fun w=>by
  rw [i,l]
  exact Z5C _ 12 (Z17 hb (qc_lt _ _ _ _)) (by decide) (by decide) w
 have M:IntKind.u32.wrap ((p:Int)+s)=n:=by rw [Z7P,k,h,i];rfl
 have L:=u32_xor_nat _ _ x G
 have u:∀ w,Calls prog 176 #[.int .u32 (o ^^^ n:Nat),.int .i64 8] w fun e w'=>e= .returned (.int .u32 t)∧w'=w:=fun w=>by
  rw [f,j,k]
  exact Z5C _ 8 (Z17 (qd_lt _ _ _) (qA_lt _ _ _ _)) (by decide) (by decide) w
 have Q:IntKind.u32.wrap ((r:Int)+t)=q:=by rw [Z7P,g,l,f];rfl
 have N:=u32_xor_nat _ _ z F
 have C:∀ w,Calls prog 176 #[.int .u32 (s ^^^ q:Nat),.int .i64 7] w fun e w'=>e= .returned (.int .u32 B)∧w'=w:=fun w=>by
  rw [m,i,g]
  exact Z5C _ 7 (Z17 (qb_lt _ _ _ _) (qC_lt _ _ _ _)) (by decide) (by decide) w
 generalize d ^^^ p=xd1 at *
 generalize b ^^^ r=xb1 at *
 generalize o ^^^ n=xd2 at *
 generalize s ^^^ q=xb2 at *
 clear h j l i k f g m E x D z G H F I
 go_enter func254,ntmps254
 go_wp2_with fail
 refine (y _).mono ?_
 rintro e w' ⟨rfl,rfl⟩
 clear y
 go_wp2_with fail
 refine (A _).mono ?_
 rintro e w' ⟨rfl,rfl⟩
 clear A
 go_wp2_with fail
 refine (u _).mono ?_
 rintro e w' ⟨rfl,rfl⟩
 clear u
 go_wp2_with fail
 refine (C _).mono ?_
 rintro e w' ⟨rfl,rfl⟩
 clear C
 go_wp2
 exact bodyPost_ret (v:= .tuple #[.int .u32 n,.int .u32 B,.int .u32 q,.int .u32 t]) (by simp [results,Tryz.results254]) rfl ⟨rfl,rfl⟩
def wdV (l:List Nat):List Value:=l.map fun x=>Value.int .u32 (x:Nat)
theorem wdV_get (l:List Nat)(i:Nat)(h:i<l.length):(wdV l)[i]? = some (.int .u32 (l.getD i 0:Nat)):=by
 rw [wdV,List.getElem?_map,List.getElem?_eq_getElem h,Z0b _ _ h]
 rfl
theorem Z1J (a b c d:Nat)(hb:b<4294967296)(hd:d<4294967296):∃ a' b' c' d':Nat,(a'=qA a b c d∧b'=qB a b c d∧c'=qC a b c d∧d'=qD a b c d)∧(a'<4294967296∧b'<4294967296∧c'<4294967296∧d'<4294967296) ∧
  ∀ w,Calls prog 254 #[.int .u32 a,.int .u32 b,.int .u32 c,.int .u32 d] w fun e w'=>e= .returned (.tuple #[.int .u32 a',.int .u32 b',.int .u32 c',.int .u32 d'])∧w'=w :=
 ⟨_,_,_,_,⟨rfl,rfl,rfl,rfl⟩,⟨qA_lt _ _ _ _,qB_lt _ _ _ _,qC_lt _ _ _ _,qD_lt _ _ _ _⟩,fun w=>quarter_any a b c d hb hd w⟩
set_option maxRecDepth 10000 in
theorem mixed_any (s:S16)(hs:s.ok)(g t:Nat)(w:World)(hr:Row w g t (wdV s.toL)) :
  Calls prog 246 #[.pointer (some ⟨g,0,none⟩)] w fun e w'=>e= .returned (.agg (wdV (s.rounds 10).toL).toArray)∧Below w.heap.size w w':=by
 have a:=hr.lt
 have c5:w.cell? ⟨g,0,none⟩=some (.int .u32 (s.a0:Nat)):=hr.cell 0
 have bw:w.cell? ⟨g,1,none⟩=some (.int .u32 (s.a1:Nat)):=hr.cell 1
 have bz:w.cell? ⟨g,2,none⟩=some (.int .u32 (s.a2:Nat)):=hr.cell 2
 have cl:w.cell? ⟨g,3,none⟩=some (.int .u32 (s.a3:Nat)):=hr.cell 3
 have d9:w.cell? ⟨g,4,none⟩=some (.int .u32 (s.b0:Nat)):=hr.cell 4
 have cs:w.cell? ⟨g,5,none⟩=some (.int .u32 (s.b1:Nat)):=hr.cell 5
 have bv:w.cell? ⟨g,6,none⟩=some (.int .u32 (s.b2:Nat)):=hr.cell 6
 have ci:w.cell? ⟨g,7,none⟩=some (.int .u32 (s.b3:Nat)):=hr.cell 7
 have d7:w.cell? ⟨g,8,none⟩=some (.int .u32 (s.c0:Nat)):=hr.cell 8
 have cn:w.cell? ⟨g,9,none⟩=some (.int .u32 (s.c1:Nat)):=hr.cell 9
 have cj:w.cell? ⟨g,10,none⟩=some (.int .u32 (s.c2:Nat)):=hr.cell 10
 have ck:w.cell? ⟨g,11,none⟩=some (.int .u32 (s.c3:Nat)):=hr.cell 11
 have cv:w.cell? ⟨g,12,none⟩=some (.int .u32 (s.d0:Nat)):=hr.cell 12
 have ch:w.cell? ⟨g,13,none⟩=some (.int .u32 (s.d1:Nat)):=hr.cell 13
 have cz:w.cell? ⟨g,14,none⟩=some (.int .u32 (s.d2:Nat)):=hr.cell 14
 have ct:w.cell? ⟨g,15,none⟩=some (.int .u32 (s.d3:Nat)):=hr.cell 15
 clear hr
 have eh:∀ o,(w.alloc o).cell? ⟨g,0,none⟩=some (.int .u32 (s.a0:Nat)):=fun o=>((Below.refl _ _).alloc (Nat.le_refl _) _ |>.cell (p:=⟨g,0,none⟩) a).trans c5
 have dc:∀ o,(w.alloc o).cell? ⟨g,1,none⟩=some (.int .u32 (s.a1:Nat)):=fun o=>((Below.refl _ _).alloc (Nat.le_refl _) _ |>.cell (p:=⟨g,1,none⟩) a).trans bw
 have du:∀ o,(w.alloc o).cell? ⟨g,2,none⟩=some (.int .u32 (s.a2:Nat)):=fun o=>((Below.refl _ _).alloc (Nat.le_refl _) _ |>.cell (p:=⟨g,2,none⟩) a).trans bz
 have ee:∀ o,(w.alloc o).cell? ⟨g,3,none⟩=some (.int .u32 (s.a3:Nat)):=fun o=>((Below.refl _ _).alloc (Nat.le_refl _) _ |>.cell (p:=⟨g,3,none⟩) a).trans cl
 have di:∀ o,(w.alloc o).cell? ⟨g,4,none⟩=some (.int .u32 (s.b0:Nat)):=fun o=>((Below.refl _ _).alloc (Nat.le_refl _) _ |>.cell (p:=⟨g,4,none⟩) a).trans d9
 have dk:∀ o,(w.alloc o).cell? ⟨g,5,none⟩=some (.int .u32 (s.b1:Nat)):=fun o=>((Below.refl _ _).alloc (Nat.le_refl _) _ |>.cell (p:=⟨g,5,none⟩) a).trans cs
 have dy:∀ o,(w.alloc o).cell? ⟨g,6,none⟩=some (.int .u32 (s.b2:Nat)):=fun o=>((Below.refl _ _).alloc (Nat.le_refl _) _ |>.cell (p:=⟨g,6,none⟩) a).trans bv
 have e4:∀ o,(w.alloc o).cell? ⟨g,7,none⟩=some (.int .u32 (s.b3:Nat)):=fun o=>((Below.refl _ _).alloc (Nat.le_refl _) _ |>.cell (p:=⟨g,7,none⟩) a).trans ci
 have dl:∀ o,(w.alloc o).cell? ⟨g,8,none⟩=some (.int .u32 (s.c0:Nat)):=fun o=>((Below.refl _ _).alloc (Nat.le_refl _) _ |>.cell (p:=⟨g,8,none⟩) a).trans d7
 have e7:∀ o,(w.alloc o).cell? ⟨g,9,none⟩=some (.int .u32 (s.c1:Nat)):=fun o=>((Below.refl _ _).alloc (Nat.le_refl _) _ |>.cell (p:=⟨g,9,none⟩) a).trans cn
 have e2:∀ o,(w.alloc o).cell? ⟨g,10,none⟩=some (.int .u32 (s.c2:Nat)):=fun o=>((Below.refl _ _).alloc (Nat.le_refl _) _ |>.cell (p:=⟨g,10,none⟩) a).trans cj
 have ea:∀ o,(w.alloc o).cell? ⟨g,11,none⟩=some (.int .u32 (s.c3:Nat)):=fun o=>((Below.refl _ _).alloc (Nat.le_refl _) _ |>.cell (p:=⟨g,11,none⟩) a).trans ck
 have df:∀ o,(w.alloc o).cell? ⟨g,12,none⟩=some (.int .u32 (s.d0:Nat)):=fun o=>((Below.refl _ _).alloc (Nat.le_refl _) _ |>.cell (p:=⟨g,12,none⟩) a).trans cv
 have dr:∀ o,(w.alloc o).cell? ⟨g,13,none⟩=some (.int .u32 (s.d1:Nat)):=fun o=>((Below.refl _ _).alloc (Nat.le_refl _) _ |>.cell (p:=⟨g,13,none⟩) a).trans ch
 have dq:∀ o,(w.alloc o).cell? ⟨g,14,none⟩=some (.int .u32 (s.d2:Nat)):=fun o=>((Below.refl _ _).alloc (Nat.le_refl _) _ |>.cell (p:=⟨g,14,none⟩) a).trans cz
 have dn:∀ o,(w.alloc o).cell? ⟨g,15,none⟩=some (.int .u32 (s.d3:Nat)):=fun o=>((Below.refl _ _).alloc (Nat.le_refl _) _ |>.cell (p:=⟨g,15,none⟩) a).trans ct
 clear c5 bw bz cl d9 cs bv ci d7 cn cj ck cv ch cz ct
 have HB:Hid (∀ o n1 n2 n3 n4,Below w.heap.size w (((((w.alloc o).drewN n1).drewN n2).drewN n3).drewN n4)):=fun o n1 n2 n3 n4=>(Below.refl _ _).alloc (Nat.le_refl _) o |>.trans ⟨rfl,rfl,rfl,Nat.le_refl _,fun _ _=>rfl⟩
 go_enter func246,ntmps246
 go_wp2_with fail
 go_quiet (fail)
 go_wp2_with fail
 go_quiet (fail)
 go_wp2_with fail
 go_quiet (fail)
 go_wp2_with fail
 go_quiet (fail)
 go_wp2_with fail
 clear eh dc du ee di dk dy e4 dl e7 e2 ea df dr dq dn
 go_loopw [3,4,5,6,7,8,9,10,11,12,13,14,15,16,17,18,83] (fun va0 va1 va2 va3 vb0 vb1 vb2 vb3 vc0 vc1 vc2 vc3 vd0 vd1 vd2 vd3 i wr=> ∃ J A Q C k r K I h l B E T H y D j:Nat,j≤10∧S16.mk J A Q C k r K I h l B E T H y D=s.rounds j∧(S16.mk J A Q C k r K I h l B E T H y D).ok∧Row wr w.heap.size 331 (wdV (List.replicate 16 0))∧Below w.heap.size w wr∧i= .int .i64 j∧va0= .int .u32 (J:Nat)∧va1= .int .u32 (A:Nat)∧va2= .int .u32 (Q:Nat)∧va3= .int .u32 (C:Nat)∧vb0= .int .u32 (k:Nat)∧vb1= .int .u32 (r:Nat)∧vb2= .int .u32 (K:Nat)∧vb3= .int .u32 (I:Nat)∧vc0= .int .u32 (h:Nat)∧vc1= .int .u32 (l:Nat)∧vc2= .int .u32 (B:Nat)∧vc3= .int .u32 (E:Nat)∧vd0= .int .u32 (T:Nat)∧vd1= .int .u32 (H:Nat)∧vd2= .int .u32 (y:Nat)∧vd3= .int .u32 (D:Nat)) (fun _ _ _ _ _ _ _ _ _ _ _ _ _ _ _ _ i _=>10-(intOf i).toNat)
 case atStart=>exact⟨s.a0,s.a1,s.a2,s.a3,s.b0,s.b1,s.b2,s.b3,s.c0,s.c1,s.c2,s.c3,s.d0,s.d1,s.d2,s.d3,0,Nat.zero_le _,rfl,hs,heap_alloc_new w _,HB.out _ _ _ _ _,rfl,rfl,rfl,rfl,rfl,rfl,rfl,rfl,rfl,rfl,rfl,rfl,rfl,rfl,rfl,rfl,rfl⟩
 case round =>
  obtain⟨J,A,Q,C,k,r,K,I,h,l,B,E,T,H,y,D,j,hj,hT,bj,k0,G,rfl,rfl,rfl,rfl,rfl,rfl,rfl,rfl,rfl,rfl,rfl,rfl,rfl,rfl,rfl,rfl,rfl⟩:=hrel
  by_cases el:j<10
  ·obtain⟨e5,dx,ei,db,bu,cf,c6,cr,dp,ej,e9,ec,c9,cx,d6,bx⟩:=S16.ok_all bj
   obtain⟨e6,dg,eb,dz,⟨av,ag,ab,ay⟩,⟨cd,ae,cw,X⟩,cg⟩:=Z1J J k h T bu c9
   obtain⟨da,dh,e0,e1,⟨aj,ba,ap,a5⟩,⟨cm,ah,co,aq⟩,cq⟩:=Z1J A r l H cf cx
   obtain⟨dm,e8,dt,eg,⟨b5,Y,a7,a4⟩,⟨cy,b7,d8,a8⟩,cp⟩:=Z1J Q K B y c6 d6
   obtain⟨e3,dw,dv,ed,⟨b8,b4,ad,af⟩,⟨c4,az,cc,ar⟩,d5⟩:=Z1J C I E D cr bx
   obtain⟨F,q,x,N,⟨ak,W,au,ai⟩,⟨bn,bp,bg,bk⟩,c8⟩:=Z1J e6 dh dt ed ah ar
   obtain⟨R,L,z,f,⟨b6,al,aw,a6⟩,⟨bs,bl,bd,bt⟩,cu⟩:=Z1J da e8 dv dz b7 X
   obtain⟨m,V,U,n,⟨bb,Z,ao,ac⟩,⟨br,bf,bh,bo⟩,d4⟩:=Z1J dm dw eb e1 az aq
   obtain⟨u,O,S,M,⟨ax,a9,b9,aa⟩,⟨bc,bi,bm,bq⟩,ce⟩:=Z1J e3 dg e0 eg ae a8
   have HN:Hid (S16.mk F R m u O q L V U S x z f n M N=s.rounds (j+1)):=by
    show _=(s.rounds j).cols.slants
    rw [← hT,ak,W,au,ai,b6,al,aw,a6,bb,Z,ao,ac,ax,a9,b9,aa]
    rw [av,ag,ab,ay,aj,ba,ap,a5,b5,Y,a7,a4,b8,b4,ad,af]
    rfl
   have HO:Hid ((S16.mk F R m u O q L V U S x z f n M N).ok):=by
    show (S16.mk F R m u O q L V U S x z f n M N).ok
    rw [HN.out]
    exact S16.slants_ok _
   have HK:Hid (Row wr w.heap.size 331 (wdV (List.replicate 16 0))∧Below w.heap.size w wr):=⟨k0,G⟩
   clear k0 G bj hT av aj b5 b8 ag ba Y b4 ab ap a7 ad ay a5 a4 af ak b6 bb ax a9 W al Z ao b9 au aw a6 ac aa ai e5 dx ei db bu cf c6 cr dp ej e9 ec c9 cx d6 bx cd cm cy c4 ae ah b7 az cw co d8 cc X aq a8 ar bn bs br bc bi bp bl bf bh bm bg bd bt bo bq bk
   go_wp2_with fail
   refine (cg _).mono ?_
   rintro e w' ⟨rfl,rfl⟩
   clear cg
   go_wp2_with fail
   refine (cq _).mono ?_
   rintro e w' ⟨rfl,rfl⟩
   clear cq
   go_wp2_with fail
   refine (cp _).mono ?_
   rintro e w' ⟨rfl,rfl⟩
   clear cp
   go_wp2_with fail
   refine (d5 _).mono ?_
   rintro e w' ⟨rfl,rfl⟩
   clear d5
   go_wp2_with fail
   refine (c8 _).mono ?_
   rintro e w' ⟨rfl,rfl⟩
   clear c8
   go_wp2_with fail
   refine (cu _).mono ?_
   rintro e w' ⟨rfl,rfl⟩
   clear cu
   go_wp2_with fail
   refine (d4 _).mono ?_
   rintro e w' ⟨rfl,rfl⟩
   clear d4
   go_wp2_with fail
   refine (ce _).mono ?_
   rintro e w' ⟨rfl,rfl⟩
   clear ce
   go_wp2
   go_roundw
   case rel=>exact⟨F,R,m,u,O,q,L,V,U,S,x,z,f,n,M,N,j+1,by omega,HN.out,HO.out,HK.out.1,HK.out.2,by go_num,rfl,rfl,rfl,rfl,rfl,rfl,rfl,rfl,rfl,rfl,rfl,rfl,rfl,rfl,rfl,rfl⟩
   case measure=>simp [intOf];omega
  ·obtain rfl:j=10:=by omega
   have HT:Hid (wdV (s.rounds 10).toL=wdV (S16.mk J A Q C k r K I h l B E T H y D).toL):=by rw [Hid,← hT]
   clear hT bj hs HB
   obtain⟨b,d⟩:∃ b:Array Value,b=(wdV (S16.mk J A Q C k r K I h l B E T H y D).toL).toArray:=⟨_,rfl⟩
   have ek:#[Value.int .u32 J,Value.int .u32 A,Value.int .u32 Q,Value.int .u32 C,Value.int .u32 k,Value.int .u32 r,Value.int .u32 K,Value.int .u32 I,Value.int .u32 h,Value.int .u32 l,Value.int .u32 B,Value.int .u32 E,Value.int .u32 T,Value.int .u32 H,Value.int .u32 y,Value.int .u32 D]=b:=by rw [d];rfl
   have c7:b.size=16:=by rw [d];rfl
   have ca:b.all (·.oneCell')=true:=by rw [d];simp [wdV,Value.oneCell']
   have cb:wr.heap[w.heap.size]? = some (.cells (wdV (List.replicate 16 0)).toArray 331 (0,0)):=k0
   have dd:(wdV (List.replicate 16 0)).toArray.size=b.size:=by rw [c7];rfl
   have c:(prog.info? 331).map (·.size)=some b.size:=by rw [c7];kernel_rfl
   have dj:=Z0l G (Nat.le_refl _) b
   have de:=run_loadVar_row (P:=prog) (wr.setRow w.heap.size b) w.heap.size 331 331 b (0,0) _ (setRow_heap _ _ _ _ _ _ cb) underlying331 rfl c
   have ef:Hid (b=(wdV (S16.mk J A Q C k r K I h l B E T H y D).toL).toArray):=d
   clear d k0 G
   go_wp2_with (refine wpList_store_row rfl 331 _ _ rfl w.heap.size b rfl rfl 331 _ cb c dd ca ?_)
   exact bodyPost_ret (v:= .agg b) (by simp [results,Tryz.results246,asAddr,Act.put,de]) rfl ⟨by rw [ef.out,HT.out],dj⟩
end Bx
end Go.Proofs.YtijpgmkdnemmbaaGreatDoor
