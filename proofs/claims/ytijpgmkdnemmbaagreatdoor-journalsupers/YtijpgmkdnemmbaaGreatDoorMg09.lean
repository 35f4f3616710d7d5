/- Part 9. -/
import Derived.Shelf.Strconv.Clone
import Derived.Test.YtijpgmkdnemmbaaGreatDoorMg06
import Derived.Maps.OwnSet
import Derived.Maps.OwnOps
import Derived.Maps.Views
import Derived.DeepKeys4
set_option maxRecDepth 20000
set_option maxHeartbeats 8000000
open Go.RowKit Go.Proofs.Tryz
namespace Go.Proofs.YtijpgmkdnemmbaaGreatDoor
section
open Go.Shelf Go.RowKit
def Z7f:Go.Shelf.Ren:=⟨fun | 316=>175 | n=>n,fun | 9=>9 | 3=>3 | 4=>4 | 37=>90 | 0=>0 | 127=>200 | 5=>5 | n=>n,fun | n=>n⟩
theorem pl_laysM316:Go.Proofs.LaysM.n316 prog Z7f:= {
 mixed:=by kernel_rfl
 f316:=func175.trans (congrArg some (by kernel_rfl))
 t0:=underlying0
 a0:=Tryz.isAgg0
 z0:=Tryz.sizeOf0
 v0:=Tryz.zeroValue0
 t3:=underlying3
 a3:=Tryz.isAgg3
 z3:=Tryz.sizeOf3
 v3:=Tryz.zeroValue3
 t4:=underlying4
 a4:=Tryz.isAgg4
 z4:=Tryz.sizeOf4
 v4:=Tryz.zeroValue4
 t9:=underlying9
 a9:=Tryz.isAgg9
 z9:=Tryz.sizeOf9
 v9:=Tryz.zeroValue9
 t37:=underlying90
 a37:=Tryz.isAgg90
 z37:=Tryz.sizeOf90
 v37:=Tryz.zeroValue90
 t127:=underlying200
 a127:=Tryz.isAgg200
 z127:=Tryz.sizeOf200
 v127:=Tryz.zeroValue200
 t5:=underlying5
 a5:=Tryz.isAgg5
 z5:=Tryz.sizeOf5
 v5:=Tryz.zeroValue5
 i0:=by kernel_rfl
 i3:=by kernel_rfl
 i4:=by kernel_rfl
 i5:=by kernel_rfl
 i9:=by kernel_rfl
 i37:=by kernel_rfl
 i127:=by kernel_rfl }
theorem slClone_any (s:ByteArray)(w:World)(hs:s.size≤281474976710656) :
  Calls prog 175 #[.string s] w fun e w'=>e= .returned (.string s)∧Below w.heap.size w w':=Any.stringslite_Clone pl_laysM316 s w hs
theorem Z7g (s:ByteArray)(w:World)(hs:s.size≤281474976710656) :
  Calls prog 151 #[.string s] w fun e w'=>e= .returned (.string s)∧Below w.heap.size w w':=by
 go_enter func151,ntmps151
 go_wp2_with fail
 refine (slClone_any s _ hs).mono ?_
 rintro e b ⟨rfl,a⟩
 go_wp2
 go_ret
 exact⟨rfl,a⟩
end
section
variable {α:Type} [DecidableEq α]
def Z0f:List α→α→Nat
 | [],_=>0
 | y :: t,x=>if y=x then 1 else if Z0f t x=0 then 0 else Z0f t x+1
theorem Z2u (x:α):∀ l:List α,Z0f l x≤l.length
 | []=>Nat.le_refl _
 | y :: t=>by
  have:=Z2u x t
  unfold Z0f
  simp only [List.length_cons]
  split
  ·omega
  ·split <;> omega
theorem Z4w (l:List α)(y x:α):Z0f (l ++ [y]) x=if Z0f l x=0 then (if y=x then l.length+1 else 0) else Z0f l x:=by
 induction l with
 | nil=>simp [Z0f]
 | cons z t ih =>
  rw [List.cons_append]
  unfold Z0f
  by_cases e:z=x
  ·simp [e]
  ·rw [if_neg e,if_neg e,ih]
   by_cases b:Z0f t x=0
   ·simp only [b,if_true]
    by_cases a:y=x
    ·simp [a]
    ·simp [a]
   ·simp [b]
def addN (l:List α)(x:α):List α:=if Z0f l x=0 then l ++ [x] else l
theorem Z6M {l:List α}{x:α}(h:Z0f l x=0):addN l x=l ++ [x]:=by unfold addN;rw [if_pos h]
theorem Z6N {l:List α}{x:α}(h:¬ Z0f l x=0):addN l x=l:=by unfold addN;rw [if_neg h]
theorem Z1F (l:List α)(x:α):(addN l x).length≤l.length+1:=by
 unfold addN;split <;> simp
theorem Z49 (l:List α)(x:α):Z0f (addN l x) x=if Z0f l x=0 then l.length+1 else Z0f l x:=by
 by_cases h:Z0f l x=0
 ·rw [Z6M h,Z4w,if_pos h,if_pos h,if_pos rfl]
 ·rw [Z6N h,if_neg h]
theorem numOf_add_pos (l:List α)(x:α):Z0f (addN l x) x≠0:=by
 rw [Z49];split <;> omega
theorem Z4a {l:List α}(x:α){y:α}(h:Z0f l y≠0):Z0f (addN l x) y=Z0f l y:=by
 by_cases a:Z0f l x=0
 ·rw [Z6M a,Z4w,if_neg h]
 ·rw [Z6N a]
end
def Z1t (n k:Nat):ByteArray:=putS n 6++Z0S (k-6)
theorem put6 {n:Nat}(hn:n<281474976710656):putS n 6=strOfNums (leI 6 n):=Z74 (m:=6) (by decide) (by decide) (by omega) (by rw [show (256:Int) ^ 6=281474976710656 by decide];omega)
theorem Z5c {n:Nat}(hn:n<281474976710656):(putS n 6).size=6:=by rw [put6 hn,strOfNums_size,Z19]
theorem Z3t {n k:Nat}(hn:n<281474976710656)(hk:6≤k):(Z1t n k).size=k:=by
 unfold Z1t
 rw [ByteArray.size_append,Z5c hn,Z1L]
 omega
theorem pad_wide {n k:Nat}(hn:n<281474976710656)(hk:6≤k)(hk2:k≤4096):padS (putS n 6) k=Z1t n k:=by
 unfold Z1t
 rw [Z5P hk2 (by rw [Z5c hn];exact hk),Z4v,Z5c hn]
theorem Z7i (n:Nat)(w:World) :
  Calls prog 237 #[.int .i64 (n:Nat)] w fun e w'=>e= .returned (.string (putS n 6))∧Below w.heap.size w w':=by
 go_enter func237,ntmps237
 go_wp2_with fail
 refine (Z3J n 6 _).mono ?_
 rintro e b ⟨rfl,a⟩
 go_wp2
 go_ret
 exact⟨rfl,a⟩
theorem wide_any (n k:Nat)(hn:n<281474976710656)(hk:6≤k)(hk2:k≤4096)(w:World) :
  Calls prog 264 #[.int .i64 (n:Nat),.int .i64 (k:Nat)] w fun e w'=>e= .returned (.string (Z1t n k))∧Below w.heap.size w w':=by
 have g:Hid (padS (putS n 6) k=Z1t n k):=pad_wide hn hk hk2
 generalize hs:putS n 6=s at *
 have b:=Z7i n w
 rw [hs] at b
 clear hs
 go_enter func264,ntmps264
 go_wp2_with fail
 refine b.mono ?_
 rintro e h ⟨rfl,c⟩
 clear b
 go_wp2_with fail
 refine (Z7h s k _).mono ?_
 rintro e f ⟨rfl,a⟩
 rw [g.out]
 have d:Hid (Below w.heap.size w f):=c.trans (a.mono c.size)
 clear c a
 go_wp2
 go_ret
 exact⟨rfl,d.out⟩
section
open Go.RowKit Go.Maps
theorem vt_laidOut:laidOutB prog=true:=by kernel_rfl
theorem types_some:0<prog.types.size:=of_decide_eq_true (by kernel_rfl)
theorem Z5d:Keyed prog 364:=Keyed.of_law (deep_law_laid vt_laidOut (m:=4) (by decide) (of_decide_eq_true (by kernel_rfl)) (by kernel_rfl) (by kernel_rfl))
theorem Z3h:Keyed prog 367:=Keyed.of_law (deep_law_laid vt_laidOut (m:=4) (by decide) (of_decide_eq_true (by kernel_rfl)) (by kernel_rfl) (by kernel_rfl))
theorem Z3M (w:World):(zeroValue 3).run prog w= .ok (.int .i64 0) w:=by kernel_rfl
def keyT (s:ByteArray):Value:= .agg #[.string s]
def keyM (p:ByteArray × ByteArray):Value:= .agg #[.string p.1,.string p.2]
structure Four where
 salt:Int
 nonce:ByteArray
 ad:ByteArray
 text:ByteArray
deriving DecidableEq
def keyS (x:Four):Value:= .agg #[.int .i64 x.salt,.string x.nonce,.string x.ad,.string x.text]
theorem keyT_inj {a b:ByteArray}(h:keyT a=keyT b):a=b:=by simpa [keyT] using h
theorem keyS_inj {a b:Four}(h:keyS a=keyS b):a=b:=by
 obtain⟨k,c,d,g⟩:=a
 obtain⟨j,f,i,e⟩:=b
 simp [keyS] at h
 obtain⟨rfl,rfl,rfl,rfl⟩:=h
 rfl
def fitT (s:ByteArray):Prop:=s.size≤140737488355328
def fitF (x:Four):Prop:=(Lit.int .i64 x.salt).wf=true∧x.nonce.size≤140737488355328∧x.ad.size≤140737488355328∧x.text.size≤140737488355328
theorem cells_text:prog.cellsOf 364=1:=by kernel_rfl
theorem cells_seal:prog.cellsOf 367=4:=by kernel_rfl
theorem Z5e:prog.cellsOf 9=1:=by kernel_rfl
theorem cells_num:prog.cellsOf 3=1:=by kernel_rfl
theorem len_ok {n:Nat}(h:n≤140737488355328):n≤maxLen:=by unfold maxLen;omega
theorem mapM_some {α β:Type}{g:α→Option β}:∀ {l:List α},(∀ x∈l,∃ y,g x=some y)→∃ ys,l.mapM g=some ys
 | [],_=>⟨[],by simp⟩
 | x :: t,h=>by
  obtain⟨y,hy⟩:=h x (by simp)
  obtain⟨ys,hys⟩:=mapM_some (l:=t) fun z hz=>h z (by simp [hz])
  exact⟨y :: ys,by simp [List.mapM_cons,hy,hys]⟩
theorem Z6i {P:Program}{k:TypeId}{fs:Array Field}(hu:P.underlying k=some (.struct fs))(hk:P.keyType k=true){cs:Array Value}(hc:P.cellsOf k=cs.size)(hn:fs.all (·.name != "_")=true)
  (hall:∀ f∈fs.toList,∃ ls,P.keyLits P.types.size f.type ((cs.toList.drop f.offset).take (P.cellsOf f.type))=some ls):∃ kl,keyOf P k (.agg cs)=some kl:=by
 obtain⟨b,a⟩:=mapM_some hall
 have c:(Value.agg cs).formed P k=true:=by simp [Value.formed,hu,hc]
 have d:P.keyLits (P.types.size+1) k (Value.agg cs).cells.toList=some b.flatten:=by
  unfold Program.keyLits
  simp only [hu,Value.cells]
  rw [if_pos ⟨by rw [hc];simp,hn⟩,a]
  rfl
 refine⟨.string (keyBytes b.flatten),?_⟩
 unfold keyOf
 simp only [hu]
 rw [if_pos (by rw [hk,c];rfl),d]
 rfl
theorem keyLits_str {P:Program}{t:TypeId}(hu:P.underlying t=some .string)(hp:0<P.types.size){s:ByteArray}(hs:s.size≤maxLen):∃ ls,P.keyLits P.types.size t [.string s]=some ls:=by
 obtain⟨m,a⟩:∃ m,P.types.size=m+1:=⟨P.types.size-1,by omega⟩
 rw [a]
 unfold Program.keyLits
 simp [hu,hs]
theorem keyLits_num {P:Program}{t:TypeId}(hu:P.underlying t=some (.int .i64))(hp:0<P.types.size){n:Int}(hs:(Lit.int .i64 n).wf=true):∃ ls,P.keyLits P.types.size t [.int .i64 n]=some ls:=by
 obtain⟨m,a⟩:∃ m,P.types.size=m+1:=⟨P.types.size-1,by omega⟩
 rw [a]
 unfold Program.keyLits
 simp [hu,hs]
theorem Z6O {s:ByteArray}(hs:s.size≤140737488355328):∃ ls,prog.keyLits prog.types.size 9 [.string s]=some ls:=keyLits_str underlying9 types_some (len_ok hs)
theorem lits_num {n:Int}(hs:(Lit.int .i64 n).wf=true):∃ ls,prog.keyLits prog.types.size 3 [.int .i64 n]=some ls:=keyLits_num underlying3 types_some hs
theorem key_text {s:ByteArray}(h:fitT s):∃ kl,keyOf prog 364 (keyT s)=some kl:=by
 refine Z6i (cs:=#[.string s]) underlying364 (by kernel_rfl) cells_text (by kernel_rfl) fun f hf=> ?_
 simp only [List.mem_cons,List.not_mem_nil,or_false] at hf
 subst hf
 simp only [Z5e];exact Z6O h
theorem key_seal {x:Four}(h:fitF x):∃ kl,keyOf prog 367 (keyS x)=some kl:=by
 refine Z6i (cs:=#[.int .i64 x.salt,.string x.nonce,.string x.ad,.string x.text]) underlying367 (by kernel_rfl) cells_seal (by kernel_rfl) fun f hf=> ?_
 simp only [List.mem_cons,List.not_mem_nil,or_false] at hf
 rcases hf with rfl | rfl | rfl | rfl
 ·simp only [cells_num];exact lits_num h.1
 ·simp only [Z5e];exact Z6O h.2.1
 ·simp only [Z5e];exact Z6O h.2.2.1
 ·simp only [Z5e];exact Z6O h.2.2.2
section
variable {α:Type} [DecidableEq α]
def Nums (key:α→Value)(K:TypeId)(w:World)(b:Nat)(l:List α):Prop :=
 ∃ D:DataW Unit,w.ownsMap prog K (plainElem prog 3) b l.length D∧Maps.size D=l.length ∧
  ∀ x kl,keyOf prog K (key x)=some kl→Maps.has D kl=decide (Z0f l x≠0)∧D.atKey kl (.lit (.int .i64 0))= .lit (.int .i64 (Z0f l x:Nat))
variable {key:α→Value} {K:TypeId} {w w':World} {b:Nat} {l:List α}
theorem Nums.lt (h:Nums key K w b l):b<w.heap.size:=by
 obtain⟨D,h,_⟩:=h
 exact h.lt
theorem owns_at {H:Type}{R:Value→Option (DataW H × List MemPlace)}{n:Nat}{D:DataW H}(h:w.ownsMap prog K R b n D)(hb:w'.heap[b]? = w.heap[b]?):w'.ownsMap prog K R b n D:=by
 obtain⟨d,a,c,r⟩:=h
 exact⟨d,a,hb.trans c,r⟩
theorem Nums.keep (h:Nums key K w b l)(hb:w'.heap[b]? = w.heap[b]?):Nums key K w' b l:=by
 obtain⟨D,h,r⟩:=h
 exact⟨D,owns_at h hb,r⟩
theorem Nums.made (key:α→Value)(K:TypeId)(w:World):Nums key K (w.alloc (.map #[] 0)) w.heap.size [] :=
 ⟨.map [],World.ownsMap_made _ _ _ _,rfl,fun _ _ _=>⟨rfl,rfl⟩⟩
theorem nums_put (L:Keyed prog K)(inj:∀ {a b:α},key a=key b→a=b){D:DataW Unit}{x:α}{kl:Lit}{n:Nat}(hD:IsMap D)(ht:Tidy D)(hs:Maps.size D=l.length)(hx:Z0f l x=0)(hk:keyOf prog K (key x)=some kl)(hn:n=l.length+1)
  (hall:∀ y kl,keyOf prog K (key y)=some kl→Maps.has D kl=decide (Z0f l y≠0)∧D.atKey kl (.lit (.int .i64 0))= .lit (.int .i64 (Z0f l y:Nat))) :
  Maps.size (D.put kl (.lit (.int .i64 (n:Nat))))=(l ++ [x]).length∧∀ y kl',keyOf prog K (key y)=some kl'→Maps.has (D.put kl (.lit (.int .i64 (n:Nat)))) kl'=decide (Z0f (l ++ [x]) y≠0)∧(D.put kl (.lit (.int .i64 (n:Nat)))).atKey kl' (.lit (.int .i64 0))= .lit (.int .i64 (Z0f (l ++ [x]) y:Nat)):=by
 have f:Maps.has D kl=false:=by rw [(hall x kl hk).1,hx];rfl
 refine⟨by rw [Maps.size_put ht,f,hs];simp,fun y kl' hy=> ?_⟩
 by_cases e:x=y
 ·subst e
  rw [hk] at hy
  cases hy
  rw [Maps.has_put_same hD (L.key hk),Maps.atKey_put_same hD (L.key hk),Z4w,if_pos hx,if_pos rfl,hn]
  exact⟨by simp,rfl⟩
 ·have c:kl'≠kl:=fun e2=>e (inj (L.inj hk (e2 ▸ hy)))
  rw [Maps.has_put_other c,Maps.atKey_put_other c,Z4w,if_neg e]
  have:=hall y kl' hy
  by_cases d:Z0f l y=0
  ·rw [if_pos d];rw [d] at this;exact this
  ·rw [if_neg d];exact this
end
theorem Only.of_grown {b:Nat}{w w':World}(h:w.grownBy w' (some b)):Only b w w' :=
 ⟨⟨h.os,h.tape,h.output,h.size,fun k hk=>absurd hk (Nat.not_lt_zero k)⟩,fun k hk hne=>h.block k hk fun e=>hne (Option.some.inj e)⟩
theorem Z5T (s:ByteArray)(h:s.size≤140737488355328)(w:World) :
  Calls prog 151 #[.string s] w fun e w'=>e= .returned (.string s)∧Below w.heap.size w w':=Z7g s w (by omega)
theorem two_new {w w1:World}{x y:Array Value}{t u:TypeId}(hb:Below ((w.alloc (.cells x t)).alloc (.cells y u)).heap.size ((w.alloc (.cells x t)).alloc (.cells y u)) w1) :
  w1.heap[w.heap.size]? = some (.cells x t (0,0))∧w1.heap[w.heap.size+1]? = some (.cells y u (0,0))∧Below w.heap.size w w1:=by
 have a:(w.alloc (.cells x t)).heap.size=w.heap.size+1:=by simp
 have c:((w.alloc (.cells x t)).alloc (.cells y u)).heap.size=w.heap.size+2:=by simp
 rw [c] at hb
 refine⟨?_,?_,?_⟩
 ·rw [hb.block _ (by omega),Below.heap_alloc _ _ _ (by omega)]
  exact heap_alloc_new w _
 ·rw [hb.block _ (by omega),← a]
  exact heap_alloc_new _ _
 ·have b:=((Below.refl w.heap.size w).alloc (Nat.le_refl _) (.cells x t)).alloc (by omega) (.cells y u)
  exact b.trans (hb.mono (by omega))
theorem cloneT_any (s:ByteArray)(h:fitT s)(w:World) :
  Calls prog 287 #[keyT s] w fun e w'=>e= .returned (keyT s)∧Below w.heap.size w w':=by
 unfold fitT at h
 unfold keyT
 go_enter func287,ntmps287
 go_wp2_with fail
 refine (Z5T s h _).mono ?_
 rintro e a ⟨rfl,c⟩
 obtain⟨_,b,d⟩:=two_new c
 clear c
 have j:a.cell? ⟨w.heap.size+1,0,none⟩=some (.string ⟨#[]⟩):=cell_of_row _ _ _ _ _ _ b
 have i:a.frozen? ⟨w.heap.size+1,0,none⟩=false:=by simp [World.frozen?,b]
 have g:Hid ((a.setCell ⟨w.heap.size+1,0,none⟩ (.string s)).heap[w.heap.size+1]? = some (.cells #[.string s] 364 (0,0))):=heap_setCell_same a (w.heap.size+1) 0 _ _ _ b
 have f:Hid (Below w.heap.size w a):=d
 clear d b
 go_wp2
 exact bodyPost_ret (v:= .agg #[.string s]) (results_cell_row Tryz.results287 _ _ (w.heap.size+1) 364 _ (0,0) _ rfl g.out underlying364 rfl (by kernel_rfl)) rfl ⟨rfl,f.out.setCell (by simp) _⟩
theorem cloneS_any (x:Four)(h:fitF x)(w:World) :
  Calls prog 288 #[keyS x] w fun e w'=>e= .returned (keyS x)∧Below w.heap.size w w':=by
 obtain⟨z,a,b,c⟩:=x
 obtain⟨r,u,q,n⟩:=h
 unfold keyS
 simp only at r u q n ⊢
 have y:=fun s (hs:s.size≤140737488355328) W=>Z5T s hs W
 go_enter func288,ntmps288
 go_wp2_with fail
 obtain⟨w0,g⟩:∃ w0,(w.alloc (.cells #[.int .i64 z,.string a,.string b,.string c] 367)).alloc (.cells #[.int .i64 0,.string ⟨#[]⟩,.string ⟨#[]⟩,.string ⟨#[]⟩] 367)=w0:=⟨_,rfl⟩
 obtain⟨j,l,k⟩:=two_new (w1:=w0) (by rw [g];exact Below.refl _ _)
 try rw [g]
 have f:Hid (∀ W,Below w0.heap.size w0 W→(W.cell? ⟨w.heap.size,0,none⟩=some (.int .i64 z)∧W.cell? ⟨w.heap.size,1,none⟩=some (.string a)∧W.cell? ⟨w.heap.size,2,none⟩=some (.string b)∧W.cell? ⟨w.heap.size,3,none⟩=some (.string c))∧W.heap[w.heap.size+1]? = some (.cells #[.int .i64 0,.string ⟨#[]⟩,.string ⟨#[]⟩,.string ⟨#[]⟩] 367 (0,0))∧Below w.heap.size w W):=fun W h=>by
  have i:=(h.block _ (lt_of_block j)).trans j
  exact⟨⟨cell_of_row _ _ _ _ _ _ i,cell_of_row _ _ _ _ _ _ i,cell_of_row _ _ _ _ _ _ i,cell_of_row _ _ _ _ _ _ i⟩,(h.block _ (lt_of_block l)).trans l,k.trans (h.mono k.size)⟩
 have d:=Below.refl w0.heap.size w0
 clear j l k g
 go_region_held3 (fun w'=>w'.cell? ⟨w.heap.size,0,none⟩=some (.int .i64 z)∧w'.cell? ⟨w.heap.size,1,none⟩=some (.string a)∧w'.cell? ⟨w.heap.size,2,none⟩=some (.string b)∧w'.cell? ⟨w.heap.size,3,none⟩=some (.string c)) (first | exact (f.out _ d).1 | exact (f.out _ d.drew).1 | simp [go_sem, *]) (first | (go_at_call 151;refine (y _ (by assumption) _).mono ?_;rintro e wA ⟨rfl,m⟩;have d:Below w0.heap.size w0 wA:=(by first | exact d.trans (m.mono d.size) | exact d.drew.trans (m.mono d.size));have F:wA.cell? ⟨w.heap.size+1,0,none⟩=some (.int .i64 0):=cell_of_row _ _ 0 _ _ _ (f.out _ d).2.1;have G:wA.cell? ⟨w.heap.size+1,1,none⟩=some (.string ⟨#[]⟩):=cell_of_row _ _ 1 _ _ _ (f.out _ d).2.1;have E:wA.cell? ⟨w.heap.size+1,2,none⟩=some (.string ⟨#[]⟩):=cell_of_row _ _ 2 _ _ _ (f.out _ d).2.1;have H:wA.cell? ⟨w.heap.size+1,3,none⟩=some (.string ⟨#[]⟩):=cell_of_row _ _ 3 _ _ _ (f.out _ d).2.1;have D:wA.frozen? ⟨w.heap.size+1,0,none⟩=false:=(by simp [World.frozen?,(f.out _ d).2.1]);have A:wA.frozen? ⟨w.heap.size+1,1,none⟩=false:=(by simp [World.frozen?,(f.out _ d).2.1]);have B:wA.frozen? ⟨w.heap.size+1,2,none⟩=false:=(by simp [World.frozen?,(f.out _ d).2.1]);have C:wA.frozen? ⟨w.heap.size+1,3,none⟩=false:=(by simp [World.frozen?,(f.out _ d).2.1])))
 have t:Hid (((((wA.setCell ⟨w.heap.size+1,0,none⟩ (.int .i64 z)).setCell ⟨w.heap.size+1,1,none⟩ (.string a)).setCell ⟨w.heap.size+1,2,none⟩ (.string b)).setCell ⟨w.heap.size+1,3,none⟩ (.string c)).heap[w.heap.size+1]? = some (.cells #[.int .i64 z,.string a,.string b,.string c] 367 (0,0))):=by
  exact (heap_setCell_same _ _ 3 _ _ _ (heap_setCell_same _ _ 2 _ _ _ (heap_setCell_same _ _ 1 _ _ _ (heap_setCell_same _ _ 0 _ _ _ (f.out _ d).2.1))))
 have o:Hid (Below w.heap.size w ((((wA.setCell ⟨w.heap.size+1,0,none⟩ (.int .i64 z)).setCell ⟨w.heap.size+1,1,none⟩ (.string a)).setCell ⟨w.heap.size+1,2,none⟩ (.string b)).setCell ⟨w.heap.size+1,3,none⟩ (.string c))):=(((((f.out _ d).2.2.setCell (p:=⟨w.heap.size+1,0,none⟩) (Nat.le_succ _) _).setCell (p:=⟨w.heap.size+1,1,none⟩) (Nat.le_succ _) _).setCell (p:=⟨w.heap.size+1,2,none⟩) (Nat.le_succ _) _).setCell (p:=⟨w.heap.size+1,3,none⟩) (Nat.le_succ _) _)
 go_wp2
 exact bodyPost_ret (v:= .agg #[.int .i64 z,.string a,.string b,.string c]) (results_cell_row Tryz.results288 _ _ (w.heap.size+1) 367 _ (0,0) _ rfl t.out underlying367 rfl (by kernel_rfl)) rfl ⟨rfl,o.out⟩
theorem str_ne {a b:ByteArray}(h:a≠b):(a.toList==b.toList)=false:=beq_false_of_ne fun e=>h (ByteArray.ext (Array.toList_inj.1 (by rw [← ByteArray.toList_eq,← ByteArray.toList_eq];exact e)))
theorem countT_old (m:Nat)(l:List (ByteArray))(x:ByteArray)(hx:fitT x)(h0:¬ Z0f l x=0)(w:World)(h:Nums keyT 364 w m l) :
  Calls prog 265 #[.map (some m),keyT x] w fun e w'=>e= .returned (.int .i64 (Z0f l x:Nat))∧Below w.heap.size w w':=by
 obtain⟨k,j⟩:=key_text hx
 obtain⟨D,a,q,b⟩:=h
 obtain⟨o,g⟩:=b x k j
 have i:Maps.has D k=true:=by rw [o];simp [h0]
 obtain⟨n,p⟩:∃ n,n=Z0f l x:=⟨_,rfl⟩
 rw [← p] at g ⊢
 clear b hx q o h0 p
 have r:=(Below.refl w.heap.size w).alloc (Nat.le_refl _) (.cells #[.string x] 364)
 have f:=a.alloc (.cells #[.string x] 364)
 simp only [keyT] at j ⊢
 clear a
 go_enter func265,ntmps265
 go_wp2_with (first | (at_lookup;refine wpList_lookup_own_ok_int _ rfl _ _ 171 rfl 364 3 .i64 Z5d underlying171 underlying3 (Z3M _) m _ D rfl f _ _ rfl j ?_;intro c d _;rw [g] at d;cases d;rw [i]))
 go_ret
 exact⟨rfl,r⟩
set_option maxRecDepth 10000 in
theorem countT_new (m:Nat)(l:List (ByteArray))(x:ByteArray)(hx:fitT x)(hl:l.length≤1000000)(h0:Z0f l x=0)(w:World)(h:Nums keyT 364 w m l) :
  Calls prog 265 #[.map (some m),keyT x] w fun e w'=>e= .returned (.int .i64 (l.length+1:Nat))∧Nums keyT 364 w' m (l ++ [x])∧Only m w w':=by
 obtain⟨s,q⟩:=key_text hx
 obtain⟨D,d,v,f⟩:=h
 obtain⟨y,r⟩:=f x s q
 have u:Maps.has D s=false:=by rw [y];simp [h0]
 rw [h0] at r
 have t:Hid _:=nums_put (n:=l.length+1) Z5d keyT_inj d.isMap (d.tidy Z5d) v h0 q rfl f
 have B:=d.lt
 suffices HS:Calls prog 265 #[.map (some m),keyT x] w fun e w'=>e= .returned (.int .i64 (l.length+1:Nat))∧w'.ownsMap prog 364 (plainElem prog 3) m (l.length+1) (D.put s (.lit (.int .i64 ((l.length:Int)+1))))∧Only m w w' by
  exact HS.mono fun e w' ⟨h1,h2,h3⟩=>⟨h1,⟨_,by rw [List.length_append];exact h2,t.out.1,t.out.2⟩,h3⟩
 clear f y h0 t
 have j:=fun W=>cloneT_any x hx W
 have z:=(Below.refl w.heap.size w).alloc (Nat.le_refl _) (.cells #[.string x] 364)
 have a:=d.alloc (.cells #[.string x] 364)
 have G:∀ w:World,(method 489 364 (.agg #[.string x]) "grapnel/vault.clone").run prog w= .ok (287,.agg #[.string x]) w:=fun _=>by kernel_rfl
 simp only [keyT] at q j ⊢
 clear d hx
 go_enter func265,ntmps265
 go_wp2_with (first | (at_lookup;refine wpList_lookup_own_ok_int _ rfl _ _ 171 rfl 364 3 .i64 Z5d underlying171 underlying3 (Z3M _) m _ D rfl a _ _ rfl q ?_;intro c i _;rw [r] at i;cases i;rw [u]) | (at_len;refine wpList_len_own _ rfl _ 171 rfl 364 3 underlying171 _ m _ D rfl a ?_;rw [v]))
 refine (j _).mono ?_
 rintro e F ⟨rfl,o⟩
 have k:=owns_at a (o.block m (by simp;omega))
 have E:=Only.of_below (b:=m) (z.trans (o.mono (by simp)))
 clear a z o j
 go_wp2_with (first | (at_mapUpdate;refine wpList_mapUpdate_own _ rfl _ _ _ 171 rfl 364 3 Z5d underlying171 _ m l.length D rfl k (by unfold maxLen;omega) _ _ s rfl rfl q _ [] (plainElem_int underlying3 (WalkArith.wf_i64 (by omega))) ?_;intro H p g))
 have A:Hid _:=p
 have C:=E.trans (Only.of_grown g)
 go_ret
 exact⟨by go_num,A.out,C⟩
theorem countT_any (m:Nat)(l:List (ByteArray))(x:ByteArray)(hx:fitT x)(hl:l.length≤1000000)(w:World)(h:Nums keyT 364 w m l) :
  Calls prog 265 #[.map (some m),keyT x] w fun e w'=>e= .returned (.int .i64 (Z0f (addN l x) x:Nat))∧Nums keyT 364 w' m (addN l x)∧Only m w w':=by
 by_cases a:Z0f l x=0
 ·rw [Z49,if_pos a,Z6M a]
  exact countT_new m l x hx hl a w h
 ·rw [Z49,if_neg a,Z6N a]
  exact (countT_old m l x hx a w h).mono fun e w' ⟨he,hb⟩=>⟨he,h.keep (hb.block m h.lt),Only.of_below hb⟩
theorem countS_old (m:Nat)(l:List (Four))(x:Four)(hx:fitF x)(h0:¬ Z0f l x=0)(w:World)(h:Nums keyS 367 w m l) :
  Calls prog 267 #[.map (some m),keyS x] w fun e w'=>e= .returned (.int .i64 (Z0f l x:Nat))∧Below w.heap.size w w':=by
 obtain⟨p,o⟩:=key_seal hx
 obtain⟨D,d,s,f⟩:=h
 obtain⟨q,j⟩:=f x p o
 have k:Maps.has D p=true:=by rw [q];simp [h0]
 obtain⟨n,r⟩:∃ n,n=Z0f l x:=⟨_,rfl⟩
 rw [← r] at j ⊢
 clear f hx s q h0 r
 obtain⟨z,a,b,c⟩:=x
 have t:=(Below.refl w.heap.size w).alloc (Nat.le_refl _) (.cells #[.int .i64 z,.string a,.string b,.string c] 367)
 have i:=d.alloc (.cells #[.int .i64 z,.string a,.string b,.string c] 367)
 simp only [keyS] at o ⊢
 clear d
 go_enter func267,ntmps267
 go_wp2_with (first | (at_lookup;refine wpList_lookup_own_ok_int _ rfl _ _ 173 rfl 367 3 .i64 Z3h underlying173 underlying3 (Z3M _) m _ D rfl i _ _ rfl o ?_;intro c g _;rw [j] at g;cases g;rw [k]))
 go_ret
 exact⟨rfl,t⟩
set_option maxRecDepth 10000 in
theorem countS_new (m:Nat)(l:List (Four))(x:Four)(hx:fitF x)(hl:l.length≤1000000)(h0:Z0f l x=0)(w:World)(h:Nums keyS 367 w m l) :
  Calls prog 267 #[.map (some m),keyS x] w fun e w'=>e= .returned (.int .i64 (l.length+1:Nat))∧Nums keyS 367 w' m (l ++ [x])∧Only m w w':=by
 obtain⟨t,r⟩:=key_seal hx
 obtain⟨D,f,y,g⟩:=h
 obtain⟨A,s⟩:=g x t r
 have v:Maps.has D t=false:=by rw [A];simp [h0]
 rw [h0] at s
 have u:Hid _:=nums_put (n:=l.length+1) Z3h keyS_inj f.isMap (f.tidy Z3h) y h0 r rfl g
 have E:=f.lt
 suffices HS:Calls prog 267 #[.map (some m),keyS x] w fun e w'=>e= .returned (.int .i64 (l.length+1:Nat))∧w'.ownsMap prog 367 (plainElem prog 3) m (l.length+1) (D.put t (.lit (.int .i64 ((l.length:Int)+1))))∧Only m w w' by
  exact HS.mono fun e w' ⟨h1,h2,h3⟩=>⟨h1,⟨_,by rw [List.length_append];exact h2,u.out.1,u.out.2⟩,h3⟩
 clear g A h0 u
 have k:=fun W=>cloneS_any x hx W
 obtain⟨z,a,b,c⟩:=x
 have B:=(Below.refl w.heap.size w).alloc (Nat.le_refl _) (.cells #[.int .i64 z,.string a,.string b,.string c] 367)
 have d:=f.alloc (.cells #[.int .i64 z,.string a,.string b,.string c] 367)
 have I:∀ w:World,(method 489 367 (.agg #[.int .i64 z,.string a,.string b,.string c]) "grapnel/vault.clone").run prog w= .ok (288,.agg #[.int .i64 z,.string a,.string b,.string c]) w:=fun _=>by kernel_rfl
 simp only [keyS] at r k ⊢
 clear f hx
 go_enter func267,ntmps267
 go_wp2_with (first | (at_lookup;refine wpList_lookup_own_ok_int _ rfl _ _ 173 rfl 367 3 .i64 Z3h underlying173 underlying3 (Z3M _) m _ D rfl d _ _ rfl r ?_;intro c j _;rw [s] at j;cases j;rw [v]) | (at_len;refine wpList_len_own _ rfl _ 173 rfl 367 3 underlying173 _ m _ D rfl d ?_;rw [y]))
 refine (k _).mono ?_
 rintro e H ⟨rfl,p⟩
 have o:=owns_at d (p.block m (by simp;omega))
 have G:=Only.of_below (b:=m) (B.trans (p.mono (by simp)))
 clear d B p k
 go_wp2_with (first | (at_mapUpdate;refine wpList_mapUpdate_own _ rfl _ _ _ 173 rfl 367 3 Z3h underlying173 _ m l.length D rfl o (by unfold maxLen;omega) _ _ t rfl rfl r _ [] (plainElem_int underlying3 (WalkArith.wf_i64 (by omega))) ?_;intro J q i))
 have C:Hid _:=q
 have F:=G.trans (Only.of_grown i)
 go_ret
 exact⟨by go_num,C.out,F⟩
set_option maxRecDepth 10000 in
theorem countedS_any (m:Nat)(l:List (Four))(x:Four)(tag:ByteArray)(hx:fitF x)(hl:l.length≤1000000)(w:World)(h:Nums keyS 367 w m l) :
  Calls prog 266 #[.map (some m),keyS x,.string tag] w fun e w'=>e= .returned (.bool (decide (Z0f l x≠0∧tag=Z1t (Z0f l x) 16)))∧Below w.heap.size w w':=by
 obtain⟨C,r⟩:=key_seal hx
 obtain⟨D,o,G,k⟩:=h
 obtain⟨s,j⟩:=k x C r
 have y:=Z2u x l
 have p:=fun W=>wide_any (Z0f l x) 16 (by omega) (by decide) (by decide) W
 obtain⟨n,F⟩:∃ n,n=Z0f l x:=⟨_,rfl⟩
 rw [← F] at j s p ⊢
 clear k hx G F y
 obtain⟨z,a,b,c⟩:=x
 have t:=(Below.refl w.heap.size w).alloc (Nat.le_refl _) (.cells #[.int .i64 z,.string a,.string b,.string c] 367)
 have f:=o.alloc (.cells #[.int .i64 z,.string a,.string b,.string c] 367)
 simp only [keyS] at r ⊢
 clear o
 by_cases v:n=0
 ·have i:Maps.has D C=false:=by rw [s];simp [v]
  have q:decide (n≠0∧tag=Z1t n 16)=false:=by simp [v]
  rw [q]
  clear q p s
  go_enter func266,ntmps266
  go_wp2_with (first | (at_lookup;refine wpList_lookup_own_ok_int _ rfl _ _ 173 rfl 367 3 .i64 Z3h underlying173 underlying3 (Z3M _) m _ D rfl f _ _ rfl r ?_;intro c d _;rw [j] at d;cases d;rw [i]))
  go_ret
  exact⟨rfl,t⟩
 ·have i:Maps.has D C=true:=by rw [s];simp [v]
  have q:decide (n≠0∧tag=Z1t n 16)=decide (tag=Z1t n 16):=by simp [v]
  rw [q]
  obtain⟨u,E⟩:∃ u,u=Z1t n 16:=⟨_,rfl⟩
  simp only [← E] at p ⊢
  clear q s E
  by_cases e:tag=u
  ·subst e
   go_enter func266,ntmps266
   go_wp2_with (first | (at_lookup;refine wpList_lookup_own_ok_int _ rfl _ _ 173 rfl 367 3 .i64 Z3h underlying173 underlying3 (Z3M _) m _ D rfl f _ _ rfl r ?_;intro c d _;rw [j] at d;cases d;rw [i]))
   refine (p _).mono ?_
   rintro e B ⟨rfl,g⟩
   have A:Hid (Below w.heap.size w B):=t.trans (g.mono (by simp))
   clear t g p
   go_wp2
   go_ret
   exact⟨by simp,A.out⟩
  ·have H:(tag.toList==u.toList)=false:=str_ne e
   go_enter func266,ntmps266
   go_wp2_with (first | (at_lookup;refine wpList_lookup_own_ok_int _ rfl _ _ 173 rfl 367 3 .i64 Z3h underlying173 underlying3 (Z3M _) m _ D rfl f _ _ rfl r ?_;intro c d _;rw [j] at d;cases d;rw [i]))
   refine (p _).mono ?_
   rintro e B ⟨rfl,g⟩
   have A:Hid (Below w.heap.size w B):=t.trans (g.mono (by simp))
   clear t g p
   go_wp2
   go_ret
   exact⟨by simp [e],A.out⟩
theorem countS_any (m:Nat)(l:List (Four))(x:Four)(hx:fitF x)(hl:l.length≤1000000)(w:World)(h:Nums keyS 367 w m l) :
  Calls prog 267 #[.map (some m),keyS x] w fun e w'=>e= .returned (.int .i64 (Z0f (addN l x) x:Nat))∧Nums keyS 367 w' m (addN l x)∧Only m w w':=by
 by_cases a:Z0f l x=0
 ·rw [Z49,if_pos a,Z6M a]
  exact countS_new m l x hx hl a w h
 ·rw [Z49,if_neg a,Z6N a]
  exact (countS_old m l x hx a w h).mono fun e w' ⟨he,hb⟩=>⟨he,h.keep (hb.block m h.lt),Only.of_below hb⟩
structure VS where
 texts:List ByteArray
 marks:List (ByteArray × ByteArray)
 seals:List Four
structure Z3l (w:World) (F:Nat→Prop) (B N a b c:Nat) (S:VS):Prop where
 row:Row w B 84 [.iface 106 (.pointer (some ⟨N,0,none⟩))]
 num:Row w N 175 [.map (some a),.map (some b),.map (some c)]
 texts:Nums keyT 364 w a S.texts
 marks:Nums keyM 373 w b S.marks
 seals:Nums keyS 367 w c S.seals
 fB:F B
 fN:F N
 fa:F a
 fb:F b
 fc:F c
 ab:a≠b
 ac:a≠c
 bc:b≠c
def Z29 (w:World)(F:Nat→Prop)(B:Nat)(S:VS):Prop:= ∃ N a b c,Z3l w F B N a b c S
theorem Z3N {α:Type} [DecidableEq α]{key:α→Value}{K t:TypeId}{w:World}{g b:Nat}{l:List α}{cs:List Value}(h:Row w g t cs)(k:Nums key K w b l):g≠b:=by
 rintro rfl
 obtain⟨D,⟨c,d,a,_⟩,_⟩:=k
 have h:=h
 rw [h] at a
 cases a
theorem Z3l.keep {w w':World}{F:Nat→Prop}{B N a b c:Nat}{S:VS}(h:Z3l w F B N a b c S)(hk:∀ k,k<w.heap.size→F k→w'.heap[k]? = w.heap[k]?):Z3l w' F B N a b c S :=
 { h with
  row:=(hk B h.row.lt h.fB).trans h.row
  num:=(hk N h.num.lt h.fN).trans h.num
  texts:=h.texts.keep (hk a h.texts.lt h.fa)
  marks:=h.marks.keep (hk b h.marks.lt h.fb)
  seals:=h.seals.keep (hk c h.seals.lt h.fc)}
theorem Z29.keep {w w':World}{F:Nat→Prop}{B:Nat}{S:VS}(h:Z29 w F B S)(hk:∀ k,k<w.heap.size→F k→w'.heap[k]? = w.heap[k]?):Z29 w' F B S:=by
 obtain⟨N,a,b,c,h⟩:=h
 exact⟨N,a,b,c,h.keep hk⟩
theorem Z29.below {w w':World}{F:Nat→Prop}{B:Nat}{S:VS}(h:Z29 w F B S)(hb:Below w.heap.size w w'):Z29 w' F B S:=h.keep fun k hk _=>hb.block k hk
theorem Z29.mono {w:World}{F F':Nat→Prop}{B:Nat}{S:VS}(h:Z29 w F B S)(hF:∀ k,k<w.heap.size→F k→F' k):Z29 w F' B S:=by
 obtain⟨N,a,b,c,h⟩:=h
 exact⟨N,a,b,c,{ h with fB:=hF _ h.row.lt h.fB,fN:=hF _ h.num.lt h.fN,fa:=hF _ h.texts.lt h.fa,fb:=hF _ h.marks.lt h.fb,fc:=hF _ h.seals.lt h.fc }⟩
theorem Z02.of_only {F:Nat→Prop}{w w':World}{b:Nat}(h:Only b w w')(hb:F b):Z02 F w w':=⟨h.1,fun k hk hn=>h.2 k hk fun e=>hn (e ▸ hb)⟩
theorem Z3l.addT {w w':World}{F:Nat→Prop}{B N a b c:Nat}{S:VS}{l:List ByteArray}(h:Z3l w F B N a b c S)(ho:Only a w w')(hn:Nums keyT 364 w' a l):Z3l w' F B N a b c { S with texts:=l } :=
 { h with
  row:=h.row.only ho (Z3N h.row h.texts)
  num:=h.num.only ho (Z3N h.num h.texts)
  texts:=hn
  marks:=h.marks.keep (ho.2 _ h.marks.lt h.ab.symm)
  seals:=h.seals.keep (ho.2 _ h.seals.lt h.ac.symm)}
theorem Z3l.addS {w w':World}{F:Nat→Prop}{B N a b c:Nat}{S:VS}{l:List Four}(h:Z3l w F B N a b c S)(ho:Only c w w')(hn:Nums keyS 367 w' c l):Z3l w' F B N a b c { S with seals:=l } :=
 { h with
  row:=h.row.only ho (Z3N h.row h.seals)
  num:=h.num.only ho (Z3N h.num h.seals)
  texts:=h.texts.keep (ho.2 _ h.texts.lt h.ac)
  marks:=h.marks.keep (ho.2 _ h.marks.lt h.bc)
  seals:=hn }
theorem nhash_any (N a:Nat)(l:List ByteArray)(s:ByteArray)(hs:fitT s)(hl:l.length≤1000000)(w:World)(c0:w.cell? ⟨N,0,none⟩=some (.map (some a)))(h:Nums keyT 364 w a l) :
  Calls prog 259 #[.pointer (some ⟨N,0,none⟩),.string s] w fun e w'=>e= .returned (.string (Z1t (Z0f (addN l s) s) 32))∧Nums keyT 364 w' a (addN l s)∧Only a w w':=by
 have d:=countT_any a l s hs hl w h
 have m:=Nat.le_trans (Z2u s (addN l s)) (Z1F l s)
 have g:=fun W=>wide_any (Z0f (addN l s) s) 32 (by omega) (by decide) (by decide) W
 generalize Z0f (addN l s) s=n at *
 simp only [keyT] at d
 clear h hs
 go_enter func259,ntmps259
 go_wp2_with fail
 refine d.mono ?_
 rintro e k ⟨rfl,b,f⟩
 clear d c0
 go_wp2_with fail
 refine (g _).mono ?_
 rintro e j ⟨rfl,c⟩
 have i:Hid (_∧_):=⟨b.keep (c.block a b.lt),f.trans (Only.of_below c)⟩
 clear b f c g
 go_wp2
 go_ret
 exact⟨rfl,i.out⟩
theorem nseal_any (N c:Nat)(l:List Four)(x:Four)(hs:fitF x)(hl:l.length≤1000000)(w:World)(c2:w.cell? ⟨N,2,none⟩=some (.map (some c)))(h:Nums keyS 367 w c l) :
  Calls prog 263 #[.pointer (some ⟨N,0,none⟩),.int .i64 x.salt,.string x.nonce,.string x.ad,.string x.text] w fun e w'=>e= .returned (.tuple #[.string (x.text++Z1t (Z0f (addN l x) x) 16),.int .i64 0])∧Nums keyS 367 w' c (addN l x)∧Only c w w':=by
 have g:=countS_any c l x hs hl w h
 have t:=Nat.le_trans (Z2u x (addN l x)) (Z1F l x)
 have j:=fun W=>wide_any (Z0f (addN l x) x) 16 (by omega) (by decide) (by decide) W
 have p:(Z1t (Z0f (addN l x) x) 16).size=16:=Z3t (by omega) (by decide)
 have m:=hs.2.2.2
 generalize Z0f (addN l x) x=n at *
 generalize addN l x=l2 at *
 obtain⟨z,a,b,s⟩:=x
 simp only [keyS] at g m ⊢
 generalize Z1t n 16=u at *
 have r:∀ w',(Op.stringOp .add s u).run prog w'= .ok (.string (s++u)) w':=fun w'=>run_string_add_sum (P:=prog) (w:=w') _ _ (by omega)
 clear h hs
 go_enter func263,ntmps263
 go_wp2_with fail
 refine g.mono ?_
 rintro e q ⟨rfl,d,i⟩
 clear g c2
 go_wp2_with fail
 refine (j _).mono ?_
 rintro e o ⟨rfl,f⟩
 have k:Hid (_∧_):=⟨d.keep (f.block c d.lt),i.trans (Only.of_below f)⟩
 clear d i f j
 go_wp2
 go_ret2
 exact⟨rfl,k.out⟩
theorem Z5U {w:World}{N i:Nat}{v:Value}(h:w.cell? ⟨N,i,none⟩=some v):N<w.heap.size:=by
 by_cases a:N<w.heap.size
 ·exact a
 ·rw [World.cell?] at h
  simp [Array.getElem?_eq_none (Nat.le_of_not_lt a)] at h
def Z1U (s:ByteArray):ByteArray:=s.extract 0 (s.size-16)
def Z3u (s:ByteArray):ByteArray:=s.extract (s.size-16) s.size
set_option maxRecDepth 10000 in
theorem nopen_any (N c:Nat)(l:List Four)(z:Int)(a b s:ByteArray)(hs:fitF ⟨z,a,b,s⟩)(h16:16≤s.size)(hl:l.length≤1000000)(w:World)(c2:w.cell? ⟨N,2,none⟩=some (.map (some c)))(h:Nums keyS 367 w c l) :
  Calls prog 262 #[.pointer (some ⟨N,0,none⟩),.int .i64 z,.string a,.string b,.string s] w fun e w'=>e= .returned (if Z0f l ⟨z,a,b,Z1U s⟩≠0∧Z3u s=Z1t (Z0f l ⟨z,a,b,Z1U s⟩) 16 then .tuple #[.string (Z1U s),.int .i64 0] else .tuple #[.string ⟨#[]⟩,.int .i64 10])∧Below w.heap.size w w':=by
 have p:(Z1U s).size≤s.size:=by simp [Z1U]
 have m:fitF ⟨z,a,b,Z1U s⟩:=⟨hs.1,hs.2.1,hs.2.2.1,Nat.le_trans p hs.2.2.2⟩
 have d:=fun W=>Z5T (Z1U s) m.2.2.2 W
 have r:=h
 have i:=countedS_any c l ⟨z,a,b,Z1U s⟩ (Z3u s) m hl w.drew r
 have o:Hid ((if Z0f l ⟨z,a,b,Z1U s⟩≠0∧Z3u s=Z1t (Z0f l ⟨z,a,b,Z1U s⟩) 16 then Value.tuple #[.string (Z1U s),.int .i64 0] else .tuple #[.string ⟨#[]⟩,.int .i64 10])=if decide (Z0f l ⟨z,a,b,Z1U s⟩≠0∧Z3u s=Z1t (Z0f l ⟨z,a,b,Z1U s⟩) 16) then Value.tuple #[.string (Z1U s),.int .i64 0] else .tuple #[.string ⟨#[]⟩,.int .i64 10]):=by
  show _=_
  simp
 rw [o.out]
 have u:=hs.2.2.2
 clear o
 generalize decide (Z0f l ⟨z,a,b,Z1U s⟩≠0∧Z3u s=Z1t (Z0f l ⟨z,a,b,Z1U s⟩) 16)=ok at *
 simp only [keyS] at i
 have j:Z1U s=s.extract 0 (s.size-16):=rfl
 have n:Z3u s=s.extract (s.size-16) s.size:=rfl
 obtain⟨q,t⟩:∃ q:Nat,q=s.size-16:=⟨_,rfl⟩
 have B:(s.size:Int)-16=(q:Nat):=by omega
 have y:q≤s.size:=by omega
 rw [← t] at j n
 simp only [j,n] at i d ⊢
 have E:(0:Int)≤(q:Nat):=by omega
 have G:((q:Nat):Int)≤(s.size:Nat):=by omega
 have C:wrap64 ((q:Nat):Int)=(q:Nat):=by have:s.size≤140737488355328:=u;unfold wrap64;omega
 clear h hs m p r j n t h16 u
 have x:Hid _:=Z5U c2
 cases ok
 all_goals
  go_enter func262,ntmps262
  go_wp2_with fail
  go_region_held3 (fun w'=>w'.cell? ⟨N,2,none⟩=some (.map (some c))) (first | exact c2 | exact A | simp [go_sem, *]) (first | (go_at_call 266;refine i.mono ?_;rintro e D ⟨rfl,k⟩;have A:D.cell? ⟨N,2,none⟩=some (.map (some c)):=(World.cell?_of_block (a:=⟨N,2,none⟩) (k.block N x.out)).trans c2))
  have g:Hid _:=(Below.refl w.heap.size w).drew.trans k
  clear k i
  go_wp2_with fail
 ·go_ret2
  exact⟨rfl,g.out⟩
 ·refine (d _).mono ?_
  rintro e F ⟨rfl,f⟩
  have v:Hid _:=g.out.trans (f.mono g.out.size)
  clear f g d
  go_wp2
  go_ret2
  exact⟨rfl,v.out⟩
end
end Go.Proofs.YtijpgmkdnemmbaaGreatDoor
