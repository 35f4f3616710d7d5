/- Part 6. -/
import Derived.ProofKit
import Derived.OpenShut
import Derived.Test.YtijpgmkdnemmbaaGreatDoorMg05
import Derived.LaidEql
import Derived.Stop.Asserts
import Derived.RowKitTokens
import Derived.Deep.Slices
import Derived.WideShapes
import Derived.ChangeOld
set_option maxRecDepth 20000
set_option maxHeartbeats 8000000
open Go.RowKit Go.Proofs.Tryz
namespace Go.Proofs.YtijpgmkdnemmbaaGreatDoor
theorem size5 (w:World):(Go.sizeOf 5).run prog w= .ok 1 w:=by
 obtain⟨e,b,d,a,c⟩:=info_parts info5
 simp [Go.sizeOf,typeInfo,b,a]
theorem pad_arg (s:ByteArray)(n:Int)(h:n<0∨4096<n)(w:World) :
  Calls prog 68 #[.string s,.int .i64 n] w fun e w'=>e= .returned (.tuple #[.string ByteArray.empty,.int .i64 1])∧w'=w:=by
 rcases h with h | h
 ·go_enter func68,ntmps68
  go_wp2
  go_ret2
  exact⟨rfl,rfl⟩
 ·have a:¬ n<0:=by omega
  go_enter func68,ntmps68
  go_wp2
  go_ret2
  exact⟨rfl,rfl⟩
theorem pad_long (s:ByteArray)(n:Nat)(h1:n≤4096)(h:n<s.size)(w:World) :
  Calls prog 68 #[.string s,.int .i64 n] w fun e w'=>e= .returned (.tuple #[.string ByteArray.empty,.int .i64 4])∧w'=w:=by
 have a:¬ (n:Int)<0:=by omega
 have b:¬ (4096:Int)<n:=by omega
 have c:(n:Int)<s.size:=by omega
 go_enter func68,ntmps68
 go_wp2
 go_ret2
 exact⟨rfl,rfl⟩
theorem pad_ok (s:ByteArray)(n:Nat)(h1:n≤4096)(h:s.size≤n)(w:World) :
  Calls prog 68 #[.string s,.int .i64 n] w fun e w'=>e= .returned (.tuple #[.string (strOfNums (Z45 s n)),.int .i64 0])∧Below w.heap.size w w':=by
 have A:¬ (n:Int)<0:=by omega
 have y:¬ (4096:Int)<n:=by omega
 have z:¬ (n:Int)<s.size:=by omega
 obtain⟨u,g,o,m,l⟩:=info_parts info5
 go_enter func68,ntmps68
 go_wp2_with (at_make;refine wpList_make_full _ rfl _ _ 90 rfl w.heap.size 5 u (.int .u8 0) 1 underlying90 g o m .i64 .i64 _ _ n rfl rfl rfl rfl ?c1 ?c2 (Nat.le_refl _) ?_)
 case c1=>first | omega | (rw [l];omega)
 case c2=>unfold maxLen;omega
 intro d c b
 have f:=(Below.refl _ _).grown b (Nat.le_refl _) (fun k hk=>by simp at hk)
 have a:d.ownsRow w.heap.size 5 1 (.slice (some ⟨w.heap.size,0,none⟩) n n) n (List.replicate n (Value.int .u8 0)):=by
  simpa [toList_madeCells_one,Value.cells] using c
 clear c b
 have t:=run_convert_bytes_arg (P:=prog) (d.setCells w.heap.size 0 (s.data.toList.map fun x=>Value.int .u8 (x.toNat:Int))) 90 5 underlying90 underlying5 w.heap.size 0 n n (Z45 s n) (Z4M s n h) (fun i g=>by
  have r:s.data.toList.length=s.size:=by simp
  have q:=Z3Z (s.data.toList.map fun x=>Value.int .u8 (x.toNat:Int)) 0 d _ a
  rw [setMany_eq _ _ _ (by simp only [List.length_map,r,List.length_replicate];omega)] at q
  rw [Nat.zero_add,q.cellAt i (by omega)]
  simp only [List.take_zero,List.nil_append,Nat.zero_add,List.length_map,r,List.drop_replicate]
  have e:(s.data.toList.map fun x=>Value.int .u8 (x.toNat:Int))++List.replicate (n-s.size) (Value.int .u8 0)=(Z45 s n).map (Value.int .u8):=by simp [Z45]
  rw [e,List.getElem?_map,List.getD_eq_getElem?_getD,List.getElem?_eq_getElem (by rw [Z4M s n h];exact g)]
  rfl) 9 underlying9
 have p:Below w.heap.size w (d.setCells w.heap.size 0 (s.data.toList.map fun x=>Value.int .u8 (x.toNat:Int))):=below_setCells (Nat.le_refl _) _ _ _ f
 have v:=run_copy_string (P:=prog) d 90 9 3 5 w.heap.size 0 n n s underlying90 size5 h (fun j hj=>by rw [Nat.zero_add,a.cellAt j (by omega)];simp;omega) (fun j hj=>by rw [Nat.zero_add];exact a.frozenAt j)
 generalize d.setCells w.heap.size 0 (s.data.toList.map fun x=>Value.int .u8 (x.toNat:Int))=w2 at *
 clear a f
 go_wp2
 go_ret2
 exact⟨rfl,p⟩
theorem Z7h (s:ByteArray)(n:Int)(w:World) :
  Calls prog 68 #[.string s,.int .i64 n] w fun e w'=>e= .returned (.tuple #[.string (padS s n),.int .i64 (padE s n)])∧Below w.heap.size w w':=by
 by_cases b:n<0∨4096<n
 ·refine (pad_arg s n b w).mono fun e w' ⟨he,hw⟩=> ?_
  rw [padS_no (.inl b),padE_arg b]
  exact⟨he,hw ▸ Below.refl _ _⟩
 ·obtain⟨m,rfl⟩:=Int.eq_ofNat_of_zero_le (show 0≤n by omega)
  have a:m≤4096:=by omega
  by_cases c:m<s.size
  ·refine (pad_long s m a c w).mono fun e w' ⟨he,hw⟩=> ?_
   rw [padS_no (.inr (by omega)),padE_long a c]
   exact⟨he,hw ▸ Below.refl _ _⟩
  ·rw [Z5P a (by omega),padE_ok a (by omega),← strOf_padNums]
   exact pad_ok s m a (by omega) w
section
open Go.RowKit Go.Lib
theorem Z4x (b:Nat)(l:List UInt8)(e:Int)(s:ByteArray)(w:World)(h:Wr w 92 5 b l e)(hs:l.length+s.size≤1099511627776) :
  Calls prog 28 #[.pointer (some ⟨b,0,none⟩),.string s] w fun en w'=>en= .returned (.tuple #[])∧Wr w' 92 5 b (l++s.data.toList) e∧Below b w w':=by
 obtain⟨v,i,j⟩:=h
 have A:=lt_of_block i
 have o:=Z76 i
 obtain⟨B,y,u,t,r⟩:=info_parts info5
 go_enter func28,ntmps28
 go_wp2_with (at_builtin;refine wpList_append_own_string _ rfl _ _ 90 9 rfl (b+1) 5 B underlying90 underlying9 y u t r _ _ _ rfl j s rfl ?c1 ?c2 ?c3 ?_)
 case c1=>unfold maxLen;omega
 case c2=>omega
 case c3=>omega
 intro D w1 f m _
 have p:Below (b+1) w w1:=(Below.refl _ _).grown m (by omega) (fun k hk=>by
  rcases j.2 with ⟨rfl,_⟩ | ⟨g',cap,cur,rfl,hg',_⟩
  ·simp [Value.ownBlock] at hk
  ·simp [Value.ownBlock] at hk;omega)
 have d:w1.heap[b]? = some (.cells #[v,.int .i64 e] 92 (0,0)):=by rw [p.block b (by omega)];exact i
 clear j i m o
 have q:∃ a n c,D= .slice a n c:=by
  rcases f.2 with ⟨h,_⟩ | ⟨g,cap,cur,h,_⟩
  ·exact⟨_,_,_,h⟩
  ·exact⟨_,_,_,h⟩
 obtain⟨a,n,c,x⟩:=q
 rw [x] at f ⊢
 clear x
 have C:=two_free 0 d
 have o:=Z76 d
 have z:Hid (w1.heap[b]? = some (.cells #[v,.int .i64 e] 92 (0,0))):=d
 clear d
 go_wp2
 go_end0
 refine⟨rfl,⟨.slice a n c,two_set0 z.out,?_⟩,(p.mono (show b≤b+1 by omega)).setCell (Nat.le_refl _) _⟩
 rw [List.length_append,show s.data.toList.length=s.size by simp,← Z40,← Z28]
 exact ownsRow_setCell_below f (by show b<b+1;omega) _
theorem Wr.setE {w:World}{T E:TypeId}{b:Nat}{l:List UInt8}{e:Int}(h:Wr w T E b l e)(x:Int):Wr (w.setCell ⟨b,1,none⟩ (.int .i64 x)) T E b l x:=by
 obtain⟨v,c,a⟩:=h
 exact⟨v,two_set1 c,ownsRow_setCell_below a (by show b<b+1;omega) _⟩
theorem wnumber_any (b:Nat)(l:List UInt8)(e n k:Int)(w:World)(h:Wr w 92 5 b l e)(hs:l.length≤1099511627000) :
  Calls prog 27 #[.pointer (some ⟨b,0,none⟩),.int .i64 n,.int .i64 k] w fun en w'=>en= .returned (.tuple #[])∧Wr w' 92 5 b (l++(putS n k).data.toList) (stepE e n k)∧Below b w w':=by
 have p:(putS n k).size≤6:=by have:=Z78 n k;simpa using this
 have r:=h.lt
 by_cases f:putE n k=0
 ·have m:(putE n k != 0)=false:=by rw [f];rfl
  have o:Hid (stepE e n k=e):=by show _=_;unfold stepE;rw [if_pos f]
  clear f
  go_enter func27,ntmps27
  go_wp2_with fail
  refine (Z3J n k _).mono ?_
  rintro en s ⟨rfl,a⟩
  have i:=h.below a
  clear h
  go_wp2_with fail
  refine (Z4x b l e (putS n k) _ i (by omega)).mono ?_
  rintro en q ⟨rfl,j,d⟩
  go_wp2
  go_end0
  exact⟨rfl,by rw [o.out];exact j,(a.mono (show b≤w.heap.size by omega)).trans d⟩
 ·have m:(putE n k != 0)=true:=by simpa using f
  have o:Hid (stepE e n k=putE n k):=by show _=_;unfold stepE;rw [if_neg f]
  clear f
  go_enter func27,ntmps27
  go_wp2_with fail
  refine (Z3J n k _).mono ?_
  rintro en s ⟨rfl,a⟩
  have i:=h.below a
  clear h
  obtain⟨v,c,g⟩:=id i
  have t:=two_free 1 c
  have u:=Z77 c
  clear c g
  go_wp2_with fail
  refine (Z4x b l (putE n k) (putS n k) _ (i.setE _) (by omega)).mono ?_
  rintro en q ⟨rfl,j,d⟩
  go_wp2
  go_end0
  exact⟨rfl,by rw [o.out];exact j,((a.mono (show b≤w.heap.size by omega)).setCell (Nat.le_refl _) _).trans d⟩
theorem Z3v {w:World}{base:Nat}{v:Value}{l:List UInt8}(h:w.ownsRow base 5 1 v l.length (Z2w l)):(convert 90 9 v).run prog w= .ok (.string ⟨l.toArray⟩) w:=by
 rcases h.2 with ⟨rfl,h0⟩ | ⟨g,cap,cur,rfl,_⟩
 ·rw [run_convert_bytes_nil (P:=prog) w 90 5 underlying90 underlying5 0 0 9 underlying9]
  rw [List.eq_nil_of_length_eq_zero h0]
  rfl
 ·rw [run_convert_bytes_arg (P:=prog) w 90 5 underlying90 underlying5 g 0 l.length cap (l.map fun x=>(x.toNat:Int)) (by simp) (fun i hi=>by
   rw [Nat.zero_add,h.cellAt i (by omega)]
   simp [Z2w,hi,List.getD]) 9 underlying9]
  rw [Z46]
theorem wrecord_no (b:Nat)(l:List UInt8)(e n:Int)(w:World)(h:Wr w 92 5 b l e)(he:(e != 0)=true) :
  Calls prog 29 #[.pointer (some ⟨b,0,none⟩),.int .i64 n] w fun en w'=>en= .returned (.tuple #[.string ByteArray.empty,.int .i64 e])∧Below w.heap.size w w':=by
 obtain⟨v,a,c⟩:=h
 have d:=Z77 a
 clear a c
 go_enter func29,ntmps29
 go_wp2
 go_region
 all_goals go_wp2
 all_goals go_ret2
 all_goals exact⟨rfl,by repeat (first | exact Below.refl _ _ | apply Below.drew)⟩
theorem wrecord_ok (b:Nat)(l:List UInt8)(n:Int)(w:World)(h:Wr w 92 5 b l 0) :
  Calls prog 29 #[.pointer (some ⟨b,0,none⟩),.int .i64 n] w fun en w'=>en= .returned (.tuple #[.string (padS ⟨l.toArray⟩ n),.int .i64 (padE ⟨l.toArray⟩ n)])∧Below w.heap.size w w':=by
 obtain⟨v,e,d⟩:=h
 have j:=Z76 e
 have o:=Z77 e
 have k:=Z3v d
 have f:∃ a n c,v= .slice a n c:=by
  rcases d.2 with ⟨h,_⟩ | ⟨g,cap,cur,h,_⟩
  ·exact⟨_,_,_,h⟩
  ·exact⟨_,_,_,h⟩
 clear e d
 obtain⟨a,m,c,rfl⟩:=f
 go_enter func29,ntmps29
 go_wp2_with fail
 refine (Z7h ⟨l.toArray⟩ n _).mono ?_
 rintro en p ⟨rfl,i⟩
 go_wp2
 go_ret2
 exact⟨rfl,i⟩
theorem Z1Z (b:Nat)(pre:List UInt8)(ps ps':List (Int × Int))(n k:Int)(hp:ps ++ [(n,k)]=ps')(w:World)(h:Wr w 92 5 b (pre++Z0N ps) (errL 0 ps))(hs:pre.length+6*ps.length≤1000000) :
  Calls prog 27 #[.pointer (some ⟨b,0,none⟩),.int .i64 n,.int .i64 k] w fun en w'=>en= .returned (.tuple #[])∧Wr w' 92 5 b (pre++Z0N ps') (errL 0 ps')∧Below b w w':=by
 have a:=Z6I ps
 refine (wnumber_any b _ _ n k w h (by rw [List.length_append];omega)).mono fun en w' ⟨he,hw,hb⟩=>⟨he,?_,hb⟩
 rw [← hp,Z47,Z79,← List.append_assoc]
 simpa [Z0N,errL] using hw
theorem wrecordP (b:Nat)(pre:List UInt8)(ps:List (Int × Int))(n z:Nat)(hn:n≤4096)(hw:widths ps=true)(hz:pre.length+Z6H ps+z=n)(w:World)(h:Wr w 92 5 b (pre++Z0N ps) (errL 0 ps)) :
  Calls prog 29 #[.pointer (some ⟨b,0,none⟩),.int .i64 n] w fun en w'=>en= .returned (.tuple #[.string (recS pre ps z),.int .i64 (recE ps)])∧Below w.heap.size w w':=by
 rw [errL_ok ps hw] at h
 by_cases a:Z0r ps=true
 ·rw [if_pos a] at h
  have d:(pre++Z0N ps).length+z=n:=by rw [List.length_append,Z1p ps a];omega
  refine (wrecord_ok b _ n w h).mono fun en w' ⟨he,hb⟩=>⟨?_,hb⟩
  rw [he,padS_rec hn d,padE_rec hn d,Z5Q a,Z5R a]
 ·rw [if_neg a] at h
  have c:Z0r ps=false:=by simpa using a
  refine (wrecord_no b _ 2 n w h rfl).mono fun en w' ⟨he,hb⟩=>⟨?_,hb⟩
  rw [he,recS_no c,recE_no c]
theorem wrecord_fit (b:Nat)(l:List UInt8)(n z:Nat)(hn:n≤4096)(hl:l.length+z=n)(w:World)(h:Wr w 92 5 b l 0) :
  Calls prog 29 #[.pointer (some ⟨b,0,none⟩),.int .i64 n] w fun en w'=>en= .returned (.tuple #[.string (padL l z),.int .i64 0])∧Below w.heap.size w w':=by
 unfold padL
 refine (wrecord_ok b l n w h).mono fun en w' ⟨he,hb⟩=>⟨?_,hb⟩
 rw [he,padS_rec hn hl,padE_rec hn hl]
theorem wr_new (w:World)(b:Nat)(hb:b=w.heap.size):Wr (w.alloc (.cells #[.slice none 0 0,.int .i64 0] 92)) 92 5 b [] 0:=by
 subst hb
 exact⟨.slice none 0 0,heap_alloc_new w _,World.ownsRow_nil _ _ _ _⟩
theorem head_any (a0 a1 a2 a3 a4 a5 a6 a7:Int)(w:World) :
  Calls prog 30 #[.agg #[.int .i64 a0,.int .i64 a1,.int .i64 a2,.int .i64 a3,.int .i64 a4,.int .i64 a5,.int .i64 a6,.int .i64 a7]] w fun e w' =>
   e= .returned (.tuple #[.string (recS [71,82,80,78] (Z24 a0 a1 a2 a3 a4 a5 a6 a7) 8),.int .i64 (recE (Z24 a0 a1 a2 a3 a4 a5 a6 a7))])∧Below w.heap.size w w':=by
 go_enter func30,ntmps30
 go_wp2_with fail
 have B:=wr_new (w.alloc (.cells #[.int .i64 a0,.int .i64 a1,.int .i64 a2,.int .i64 a3,.int .i64 a4,.int .i64 a5,.int .i64 a6,.int .i64 a7] 51)) (w.heap.size+1) (by simp)
 have d:Hid (∀ i (v:Value),(#[.int .i64 a0,.int .i64 a1,.int .i64 a2,.int .i64 a3,.int .i64 a4,.int .i64 a5,.int .i64 a6,.int .i64 a7]:Array Value)[i]? = some v→((w.alloc (.cells #[.int .i64 a0,.int .i64 a1,.int .i64 a2,.int .i64 a3,.int .i64 a4,.int .i64 a5,.int .i64 a6,.int .i64 a7] 51)).alloc (.cells #[.slice none 0 0,.int .i64 0] 92)).cell? ⟨w.heap.size,i,none⟩=some v):=Z4S w _ _ _
 have t:Below w.heap.size w ((w.alloc (.cells #[.int .i64 a0,.int .i64 a1,.int .i64 a2,.int .i64 a3,.int .i64 a4,.int .i64 a5,.int .i64 a6,.int .i64 a7] 51)).alloc (.cells #[.slice none 0 0,.int .i64 0] 92)):=((Below.refl _ _).alloc (Nat.le_refl _) _).alloc (by simp) _
 generalize (w.alloc (.cells #[.int .i64 a0,.int .i64 a1,.int .i64 a2,.int .i64 a3,.int .i64 a4,.int .i64 a5,.int .i64 a6,.int .i64 a7] 51)).alloc (.cells #[.slice none 0 0,.int .i64 0] 92)=W0 at *
 refine (Z4x (w.heap.size+1) [] 0 ⟨#[71,82,80,78]⟩ _ B (by decide)).mono ?_
 rintro b E ⟨rfl,c,k⟩
 replace c:Wr E 92 5 (w.heap.size+1) ([71,82,80,78]++Z0N []) (errL 0 []):=c
 clear B
 have I:=(k.cell (p:=⟨w.heap.size,0,none⟩) (by show w.heap.size<w.heap.size+1;omega)).trans (d.out 0 (.int .i64 a0) rfl)
 go_wp2_with fail
 refine (Z1Z (w.heap.size+1) [71,82,80,78] [] [(a0,6)] a0 6 rfl _ c (by simp)).mono ?_
 rintro b S ⟨rfl,y,a⟩
 have n:=k.trans a
 clear c k a I
 have G:=(n.cell (p:=⟨w.heap.size,1,none⟩) (by show w.heap.size<w.heap.size+1;omega)).trans (d.out 1 (.int .i64 a1) rfl)
 go_wp2_with fail
 refine (Z1Z (w.heap.size+1) [71,82,80,78] [(a0,6)] [(a0,6),(a1,4)] a1 4 rfl _ y (by simp)).mono ?_
 rintro b T ⟨rfl,s,a⟩
 have l:=n.trans a
 clear y n a G
 have M:=(l.cell (p:=⟨w.heap.size,2,none⟩) (by show w.heap.size<w.heap.size+1;omega)).trans (d.out 2 (.int .i64 a2) rfl)
 go_wp2_with fail
 refine (Z1Z (w.heap.size+1) [71,82,80,78] [(a0,6),(a1,4)] [(a0,6),(a1,4),(a2,2)] a2 2 rfl _ s (by simp)).mono ?_
 rintro b R ⟨rfl,x,a⟩
 have g:=l.trans a
 clear s l a M
 have K:=(g.cell (p:=⟨w.heap.size,3,none⟩) (by show w.heap.size<w.heap.size+1;omega)).trans (d.out 3 (.int .i64 a3) rfl)
 go_wp2_with fail
 refine (Z1Z (w.heap.size+1) [71,82,80,78] [(a0,6),(a1,4),(a2,2)] [(a0,6),(a1,4),(a2,2),(a3,4)] a3 4 rfl _ x (by simp)).mono ?_
 rintro b O ⟨rfl,q,a⟩
 have j:=g.trans a
 clear x g a K
 have D:=(j.cell (p:=⟨w.heap.size,4,none⟩) (by show w.heap.size<w.heap.size+1;omega)).trans (d.out 4 (.int .i64 a4) rfl)
 go_wp2_with fail
 refine (Z1Z (w.heap.size+1) [71,82,80,78] [(a0,6),(a1,4),(a2,2),(a3,4)] [(a0,6),(a1,4),(a2,2),(a3,4),(a4,4)] a4 4 rfl _ q (by simp)).mono ?_
 rintro b P ⟨rfl,z,a⟩
 have m:=j.trans a
 clear q j a D
 have F:=(m.cell (p:=⟨w.heap.size,5,none⟩) (by show w.heap.size<w.heap.size+1;omega)).trans (d.out 5 (.int .i64 a5) rfl)
 go_wp2_with fail
 refine (Z1Z (w.heap.size+1) [71,82,80,78] [(a0,6),(a1,4),(a2,2),(a3,4),(a4,4)] [(a0,6),(a1,4),(a2,2),(a3,4),(a4,4),(a5,4)] a5 4 rfl _ z (by simp)).mono ?_
 rintro b U ⟨rfl,A,a⟩
 have h:=m.trans a
 clear z m a F
 have J:=(h.cell (p:=⟨w.heap.size,6,none⟩) (by show w.heap.size<w.heap.size+1;omega)).trans (d.out 6 (.int .i64 a6) rfl)
 go_wp2_with fail
 refine (Z1Z (w.heap.size+1) [71,82,80,78] [(a0,6),(a1,4),(a2,2),(a3,4),(a4,4),(a5,4)] [(a0,6),(a1,4),(a2,2),(a3,4),(a4,4),(a5,4),(a6,6)] a6 6 rfl _ A (by simp)).mono ?_
 rintro b Q ⟨rfl,o,a⟩
 have f:=h.trans a
 clear A h a J
 have H:=(f.cell (p:=⟨w.heap.size,7,none⟩) (by show w.heap.size<w.heap.size+1;omega)).trans (d.out 7 (.int .i64 a7) rfl)
 go_wp2_with fail
 refine (Z1Z (w.heap.size+1) [71,82,80,78] [(a0,6),(a1,4),(a2,2),(a3,4),(a4,4),(a5,4),(a6,6)] [(a0,6),(a1,4),(a2,2),(a3,4),(a4,4),(a5,4),(a6,6),(a7,6)] a7 6 rfl _ o (by simp)).mono ?_
 rintro b N ⟨rfl,C,a⟩
 have u:=f.trans a
 clear o f a H
 go_wp2_with fail
 refine (wrecordP (w.heap.size+1) [71,82,80,78] (Z24 a0 a1 a2 a3 a4 a5 a6 a7) 48 8 (by decide) rfl rfl _ C).mono ?_
 rintro b L ⟨rfl,r⟩
 go_wp2
 go_ret2
 exact⟨rfl,t.trans ((u.mono (show w.heap.size≤w.heap.size+1 by omega)).trans (r.mono (Nat.le_trans t.size u.size)))⟩
end
section
open Go.ChangeShapes Go.WideShapes Go.ChangeAt Go.RowKit
theorem Z5i:prog.cellsOf 3=1:=by kernel_rfl
theorem cells_string:prog.cellsOf 9=1:=by kernel_rfl
theorem fld_int {H:Type}{enc:TypeId × Value→H}{w:World}{base:Nat}{spare:Nat→Bool}{held:Bool}{n i:Nat}{c:Value}{xs:List (DataW H × List MemPlace)}
  (h:DataW.trod enc prog w base spare held n 3 [c]=xs[i]?)(hi:i<xs.length):∃ a,c= .int .i64 a∧(Lit.int .i64 a).wf=true:=by
 rw [List.getElem?_eq_getElem hi] at h
 obtain⟨a,b,_,d⟩:=DataW.trod_int underlying3 h
 simp at b
 exact⟨a,b,d⟩
theorem fld_string {H:Type}{enc:TypeId × Value→H}{w:World}{base:Nat}{spare:Nat→Bool}{held:Bool}{n i:Nat}{c:Value}{xs:List (DataW H × List MemPlace)}
  (h:DataW.trod enc prog w base spare held n 9 [c]=xs[i]?)(hi:i<xs.length):∃ s,c= .string s∧s.size≤maxLen:=by
 rw [List.getElem?_eq_getElem hi] at h
 obtain⟨s,a,_,b⟩:=DataW.trod_string underlying9 h
 simp at a
 exact⟨s,a,b⟩
def Z2g (a:Int):Prop:=(Lit.int .i64 a).wf=true
theorem int_le8 {x:Int}(h:Z2g x):x≤9223372036854775807:=by
 simp [Z2g,Lit.wf,IntKind.min,IntKind.max,IntKind.signed,IntKind.bits] at h
 omega
end
section
open Go.RowKit Go.Lib
theorem load_head (w:World)(g:Nat)(cs:Array Value)(hg:w.heap[g]? = some (.cells cs 51 (0,0)))(hs:cs.size=8) :
  (loadVar 51 ⟨g,0,none⟩).run prog w= .ok (.agg cs) w :=
 run_loadVar_row (P:=prog) w g 51 51 cs (0,0) _ hg underlying51 rfl (by rw [hs];kernel_rfl)
end
section
open Go.RowKit Go.Extern.Stop Go.Stop Go.Extern
theorem as_nil (t:Value)(w:World) :
  Calls prog 150 #[.nilIface,t] w fun e w'=>e= .returned (.bool false)∧w'=w:=by
 go_enter func150,ntmps150
 go_wp2
 go_ret
 exact⟨rfl,rfl⟩
theorem Z7m (t:Addr)(w:World):(ReflectliteValue.unpack (.iface 260 (.pointer (some t)))).run prog w= .ok (.agg #[.pointer (some ⟨6,260,none⟩),.pointer (some ⟨w.heap.size,0,none⟩),.int .u64 150]) (w.alloc (.cells #[.pointer (some t)] 260)):=by kernel_rfl
theorem ae_typeP (a:Addr)(w:World):(ReflectliteValue.methodAny (ReflectliteValue.valueError "reflectlite.Value.Type" 0) (fun t _ _ _=>ReflectliteType.toType t) #[.agg #[.pointer (some ⟨6,260,none⟩),.pointer (some a),.int .u64 150]]).run prog w= .ok (.iface 241 (.agg #[.pointer (some ⟨6,260,none⟩)])) w:=by kernel_rfl
theorem Z5k (h:Value)(w:World):(Go.method 489 241 (.agg #[h]) "Kind").run prog w= .ok (217,h) w:=by kernel_rfl
theorem Z5l (h:Value)(w:World):(Go.method 489 241 (.agg #[h]) "Elem").run prog w= .ok (274,.agg #[h]) w:=by kernel_rfl
theorem Z2Y (h:Value)(w:World):(Go.method 489 241 (.agg #[h]) "Implements").run prog w= .ok (275,.agg #[h]) w:=by kernel_rfl
theorem Z2y (h:Value)(w:World):(Go.method 489 241 (.agg #[h]) "AssignableTo").run prog w= .ok (272,.agg #[h]) w:=by kernel_rfl
theorem ae_kindP (w:World):((ReflectliteType.abiMethod fun t=>(fun a:Nat=>Value.int IntKind.u8 (a:Int)) <$> Rtype.kind t) #[.pointer (some ⟨6,260,none⟩)]).run prog w= .ok (.int .u8 22) w:=by kernel_rfl
theorem ae_kindE (w:World):((ReflectliteType.abiMethod fun t=>(fun a:Nat=>Value.int IntKind.u8 (a:Int)) <$> Rtype.kind t) #[.pointer (some ⟨6,28,none⟩)]).run prog w= .ok (.int .u8 2) w:=by kernel_rfl
theorem method_one {α:Type}(v:Value)(h1:Value→α)(h2:Array Value→α):ReflectliteValue.method.match_2 (fun _=>α) #[v] h1 h2=h1 v:=rfl
theorem ae_partsP (a:Addr)(w:World):(ReflectliteValue.parts (.agg #[.pointer (some ⟨6,260,none⟩),.pointer (some a),.int .u64 150])).run prog w= .ok (some (260,a,150)) w:=by kernel_rfl
theorem ae_isNil (a p:Addr)(W:World)(ha:W.cell? a=some (.pointer (some p))):(ReflectliteValue.method (ReflectliteValue.valueError "reflectlite.Value.IsNil" 0) ReflectliteValue.isNil #[.agg #[.pointer (some ⟨6,260,none⟩),.pointer (some a),.int .u64 150]]).run prog W= .ok (.bool false) W:=by
 delta ReflectliteValue.method
 rw [method_one]
 simp only [Sem.run_bind,ae_partsP,Result.andThen]
 simp [ReflectliteValue.isNil,loadVar,isAgg,underlying,underlying260,ha,Result.andThen]
theorem ae_elemP (w:World):(ReflectliteType.method ReflectliteType.elem #[.agg #[.pointer (some ⟨6,260,none⟩)]]).run prog w= .ok (.iface 241 (.agg #[.pointer (some ⟨6,28,none⟩)])) w:=by kernel_rfl
theorem Z5m (w:World):(ReflectliteType.relation "Implements" ReflectliteType.implements_ #[.agg #[.pointer (some ⟨6,28,none⟩)],.iface 241 (.agg #[.pointer (some ⟨6,113,none⟩)])]).run prog w= .ok (.bool true) w:=by kernel_rfl
theorem ae_typeOfS (v:Value)(w:World):(ReflectliteType.typeOf #[.iface 281 v]).run prog w= .ok (.iface 241 (.agg #[.pointer (some ⟨6,281,none⟩)])) w:=by kernel_rfl
theorem ae_assignS (w:World):(ReflectliteType.relation "AssignableTo" ReflectliteType.assignableTo #[.agg #[.pointer (some ⟨6,281,none⟩)],.iface 241 (.agg #[.pointer (some ⟨6,28,none⟩)])]).run prog w= .ok (.bool false) w:=by kernel_rfl
theorem ae_typeOfE (v:Value)(w:World):(ReflectliteType.typeOf #[.iface 28 v]).run prog w= .ok (.iface 241 (.agg #[.pointer (some ⟨6,28,none⟩)])) w:=by kernel_rfl
theorem ae_assignE (w:World):(ReflectliteType.relation "AssignableTo" ReflectliteType.assignableTo #[.agg #[.pointer (some ⟨6,28,none⟩)],.iface 241 (.agg #[.pointer (some ⟨6,28,none⟩)])]).run prog w= .ok (.bool true) w:=by kernel_rfl
theorem Z7n (y:Int)(w:World):(ReflectliteValue.unpack (.iface 28 (.int .i64 y))).run prog w= .ok (.agg #[.pointer (some ⟨6,28,none⟩),.pointer (some ⟨w.heap.size,0,none⟩),.int .u64 130]) (w.alloc (.cells #[.int .i64 y] 28)):=by kernel_rfl
theorem ae_elemOfP (w:World):(Rtype.elem? 260).run prog w= .ok (some 28) w:=by kernel_rfl
theorem ae_mkE (p:Addr)(w:World):(ReflectliteValue.mk 28 p ReflectliteValue.flagAddr).run prog w= .ok (.agg #[.pointer (some ⟨6,28,none⟩),.pointer (some p),.int .u64 386]) w:=by kernel_rfl
theorem ae_elemV (a p:Addr)(W:World)(ha:W.cell? a=some (.pointer (some p))):(ReflectliteValue.method (ReflectliteValue.valueError "reflectlite.Value.Elem" 0) ReflectliteValue.elem #[.agg #[.pointer (some ⟨6,260,none⟩),.pointer (some a),.int .u64 150]]).run prog W= .ok (.agg #[.pointer (some ⟨6,28,none⟩),.pointer (some p),.int .u64 386]) W:=by
 delta ReflectliteValue.method
 rw [method_one]
 simp only [Sem.run_bind,ae_partsP,Result.andThen]
 simp [ReflectliteValue.elem,loadVar,isAgg,underlying,underlying260,ha,Result.andThen,ae_elemOfP,ae_mkE]
theorem ae_partsEa (a:Addr)(w:World):(ReflectliteValue.parts (.agg #[.pointer (some ⟨6,28,none⟩),.pointer (some a),.int .u64 386])).run prog w= .ok (some (28,a,386)) w:=by kernel_rfl
theorem ae_partsE (a:Addr)(w:World):(ReflectliteValue.parts (.agg #[.pointer (some ⟨6,28,none⟩),.pointer (some a),.int .u64 130])).run prog w= .ok (some (28,a,130)) w:=by kernel_rfl
theorem ae_direct (w:World):(Rtype.directlyAssignable 28 28).run prog w= .ok true w:=by kernel_rfl
theorem set_two {α:Type}(v x:Value)(h1:Value→Value→α)(h2:Array Value→α):ReflectliteValue.set.match_3 (fun _=>α) #[v,x] h1 h2=h1 v x:=rfl
theorem ae_set (ta b:Addr)(y:Int)(old:Value)(W:World)(hb:W.cell? b=some (.int .i64 y))(ht:W.cell? ta=some old)(hf:W.frozen? ta=false):(ReflectliteValue.set #[.agg #[.pointer (some ⟨6,28,none⟩),.pointer (some ta),.int .u64 386],.agg #[.pointer (some ⟨6,28,none⟩),.pointer (some b),.int .u64 130]]).run prog W= .ok (.tuple #[]) (W.setCell ta (.int .i64 y)):=by
 delta ReflectliteValue.set
 dsimp only
 rw [set_two]
 simp only [Sem.run_bind,ae_partsEa,ae_partsE,Result.andThen]
 simp [ReflectliteValue.flagAddr,loadVar,isAgg,underlying,underlying28,hb,Result.andThen,ae_direct,storeVar,Value.cells,storeCells,Addr.add]
 rw [run_store prog W ta _ _ (by rfl)]
 simp [ht,hf]
theorem ae_noAs (v:Value)(xT:TypeId)(w:World):(Instr.typeAssert (.iface 281 v) xT 294 true).run prog w= .ok (.tuple #[.nilIface,.bool false]) w:=run_typeAssert_lacksB underlying294 (by kernel_rfl) (by kernel_rfl) v xT w
theorem Z6l (v:Value)(xT:TypeId)(w:World):(Instr.typeAssert (.iface 281 v) xT 246 true).run prog w= .ok (.tuple #[.iface 281 v,.bool true]) w:=run_typeAssert_hasB underlying246 (by kernel_rfl) v xT w
theorem Z4e (x y:Int)(w:World):(Go.method 489 281 (.agg #[.int .i64 x,.int .i64 y]) "Unwrap").run prog w= .ok (283,.agg #[.int .i64 x,.int .i64 y]) w:=by kernel_rfl
theorem unwrap_any (x y:Int)(w:World):Calls prog 283 #[.agg #[.int .i64 x,.int .i64 y]] w fun e w'=>e= .returned (.iface 28 (.int .i64 y))∧w'=w.alloc (.cells #[.int .i64 x,.int .i64 y] 281):=by
 go_enter func283,ntmps283
 go_wp2
 go_ret
 exact⟨rfl,rfl⟩
theorem Z0E {w:World}{N i:Nat}{v:Value}(h:w.cell? ⟨N,i,none⟩=some v):N<w.heap.size:=block_lt_of_cell (a:=⟨N,i,none⟩) h
theorem as_in (x y:Int)(t a:Addr)(old:Value)(W:World)(ha:W.cell? a=some (.pointer (some t)))(ht0:W.cell? t=some old)(hf0:W.frozen? t=false) :
  Calls prog 174 #[.iface 281 (.agg #[.int .i64 x,.int .i64 y]),.iface 260 (.pointer (some t)),.agg #[.pointer (some ⟨6,260,none⟩),.pointer (some a),.int .u64 150],.iface 241 (.agg #[.pointer (some ⟨6,28,none⟩)])] W fun ev w'=>ev= .returned (.bool true)∧w'=(((W.alloc (.cells #[.pointer (some ⟨6,260,none⟩),.pointer (some a),.int .u64 150] 284)).alloc (.cells #[.int .i64 x,.int .i64 y] 281)).alloc (.cells #[.int .i64 y] 28)).setCell t (.int .i64 y):=by
 have f:= @run_callFunc_extern prog 171 _ (fun args=>ReflectliteValue.unpack (args.getD 0 (.tuple #[]))) func171 (by kernel_rfl) (by kernel_rfl) (by kernel_rfl) (by kernel_rfl)
 have d:= @run_callFunc_extern prog 172 _ (ReflectliteValue.methodAny (ReflectliteValue.valueError "reflectlite.Value.Type" 0) (fun t _ _ _=>ReflectliteType.toType t)) func172 (by kernel_rfl) (by kernel_rfl) (by kernel_rfl) (by kernel_rfl)
 have l:= @run_callFunc_extern prog 173 _ (ReflectliteValue.method (ReflectliteValue.valueError "reflectlite.Value.IsNil" 0) ReflectliteValue.isNil) func173 (by kernel_rfl) (by kernel_rfl) (by kernel_rfl) (by kernel_rfl)
 have g:= @run_callFunc_extern prog 217 _ (ReflectliteType.abiMethod fun t=>do pure (.int .u8 (← Rtype.kind t))) func217 (by kernel_rfl) (by kernel_rfl) (by kernel_rfl) (by kernel_rfl)
 have m:= @run_callFunc_extern prog 274 _ (ReflectliteType.method ReflectliteType.elem) func274 (by kernel_rfl) (by kernel_rfl) (by kernel_rfl) (by kernel_rfl)
 have j:= @run_callFunc_extern prog 275 _ (ReflectliteType.relation "Implements" ReflectliteType.implements_) func275 (by kernel_rfl) (by kernel_rfl) (by kernel_rfl) (by kernel_rfl)
 have c:= @run_callFunc_extern prog 113 _ ReflectliteType.typeOf func113 (by kernel_rfl) (by kernel_rfl) (by kernel_rfl) (by kernel_rfl)
 have h:= @run_callFunc_extern prog 272 _ (ReflectliteType.relation "AssignableTo" ReflectliteType.assignableTo) func272 (by kernel_rfl) (by kernel_rfl) (by kernel_rfl) (by kernel_rfl)
 have i:= @run_callFunc_extern prog 181 _ (ReflectliteValue.method (ReflectliteValue.valueError "reflectlite.Value.Elem" 0) ReflectliteValue.elem) func181 (by kernel_rfl) (by kernel_rfl) (by kernel_rfl) (by kernel_rfl)
 have n:= @run_callFunc_extern prog 182 _ ReflectliteValue.set func182 (by kernel_rfl) (by kernel_rfl) (by kernel_rfl) (by kernel_rfl)
 have B:=Z7m
 have C:=ae_typeP
 have D:=Z5k
 have L:=Z5l
 have F:=Z2Y
 have H:=Z2y
 have K:=ae_kindP
 have I:=ae_kindE
 have A:=ae_elemP
 have z:=Z5m
 have v:=ae_typeOfS
 have s:=ae_typeOfE
 have u:=ae_assignS
 have r:=ae_assignE
 have q:=Z7n
 have p:=ae_noAs
 have w:=Z6l
 have o:=Z4e
 have b:t.block<W.heap.size:=block_lt_of_cell ht0
 have k:a.block<W.heap.size:=block_lt_of_cell ha
 have J:=ae_elemV a t ((W.alloc (.cells #[.pointer (some ⟨6,260,none⟩),.pointer (some a),.int .u64 150] 284)).alloc (.cells #[.int .i64 x,.int .i64 y] 281)) (by rw [World.cell?_alloc_lt _ _ a (by simp;omega),World.cell?_alloc_lt _ _ a k];exact ha)
 have E:=ae_set t ⟨W.heap.size+1+1,0,none⟩ y old (((W.alloc (.cells #[.pointer (some ⟨6,260,none⟩),.pointer (some a),.int .u64 150] 284)).alloc (.cells #[.int .i64 x,.int .i64 y] 281)).alloc (.cells #[.int .i64 y] 28))
  (by rw [World.cell?_alloc_at _ _ _ _ (by simp)];rfl)
  (by rw [World.cell?_alloc_lt _ _ t (by simp;omega),World.cell?_alloc_lt _ _ t (by simp;omega),World.cell?_alloc_lt _ _ t b];exact ht0)
  (by rw [World.frozen?_alloc_old _ _ t (by simp;omega),World.frozen?_alloc_old _ _ t (by simp;omega),World.frozen?_alloc_old _ _ t (Nat.ne_of_lt b)];exact hf0)
 clear ha ht0 hf0
 go_enter func174,ntmps174
 go_wp2_with fail
 refine wp_loop_rounds 2 ?_
 rw [rounds_succ]
 go_wp2_with fail
 refine (unwrap_any x y _).mono ?_
 rintro e G ⟨rfl,rfl⟩
 go_wp2_with fail
 rw [rounds_succ]
 go_wp2
 go_ret
 exact⟨rfl,rfl⟩
theorem as_hit (x y:Int)(t:Addr)(old:Value)(w:World)(hg:w.cell? ⟨3,0,none⟩=some (.iface 241 (.agg #[.pointer (some ⟨6,113,none⟩)])))(ht0:w.cell? t=some old)(hf0:w.frozen? t=false) :
  Calls prog 150 #[.iface 281 (.agg #[.int .i64 x,.int .i64 y]),.iface 260 (.pointer (some t))] w fun ev w'=>ev= .returned (.bool true)∧w'=(((((w.alloc (.cells #[.pointer (some t)] 260)).alloc (.cells #[.pointer (some ⟨6,260,none⟩),.pointer (some ⟨w.heap.size,0,none⟩),.int .u64 150] 284)).alloc (.cells #[.pointer (some ⟨6,260,none⟩),.pointer (some ⟨w.heap.size,0,none⟩),.int .u64 150] 284)).alloc (.cells #[.int .i64 x,.int .i64 y] 281)).alloc (.cells #[.int .i64 y] 28)).setCell t (.int .i64 y):=by
 have f:= @run_callFunc_extern prog 171 _ (fun args=>ReflectliteValue.unpack (args.getD 0 (.tuple #[]))) func171 (by kernel_rfl) (by kernel_rfl) (by kernel_rfl) (by kernel_rfl)
 have c:= @run_callFunc_extern prog 172 _ (ReflectliteValue.methodAny (ReflectliteValue.valueError "reflectlite.Value.Type" 0) (fun t _ _ _=>ReflectliteType.toType t)) func172 (by kernel_rfl) (by kernel_rfl) (by kernel_rfl) (by kernel_rfl)
 have l:= @run_callFunc_extern prog 173 _ (ReflectliteValue.method (ReflectliteValue.valueError "reflectlite.Value.IsNil" 0) ReflectliteValue.isNil) func173 (by kernel_rfl) (by kernel_rfl) (by kernel_rfl) (by kernel_rfl)
 have g:= @run_callFunc_extern prog 217 _ (ReflectliteType.abiMethod fun t=>do pure (.int .u8 (← Rtype.kind t))) func217 (by kernel_rfl) (by kernel_rfl) (by kernel_rfl) (by kernel_rfl)
 have m:= @run_callFunc_extern prog 274 _ (ReflectliteType.method ReflectliteType.elem) func274 (by kernel_rfl) (by kernel_rfl) (by kernel_rfl) (by kernel_rfl)
 have k:= @run_callFunc_extern prog 275 _ (ReflectliteType.relation "Implements" ReflectliteType.implements_) func275 (by kernel_rfl) (by kernel_rfl) (by kernel_rfl) (by kernel_rfl)
 have b:= @run_callFunc_extern prog 113 _ ReflectliteType.typeOf func113 (by kernel_rfl) (by kernel_rfl) (by kernel_rfl) (by kernel_rfl)
 have h:= @run_callFunc_extern prog 272 _ (ReflectliteType.relation "AssignableTo" ReflectliteType.assignableTo) func272 (by kernel_rfl) (by kernel_rfl) (by kernel_rfl) (by kernel_rfl)
 have i:= @run_callFunc_extern prog 181 _ (ReflectliteValue.method (ReflectliteValue.valueError "reflectlite.Value.Elem" 0) ReflectliteValue.elem) func181 (by kernel_rfl) (by kernel_rfl) (by kernel_rfl) (by kernel_rfl)
 have n:= @run_callFunc_extern prog 182 _ ReflectliteValue.set func182 (by kernel_rfl) (by kernel_rfl) (by kernel_rfl) (by kernel_rfl)
 have D:=Z7m
 have F:=ae_typeP
 have G:=Z5k
 have M:=Z5l
 have H:=Z2Y
 have J:=Z2y
 have L:=ae_kindP
 have K:=ae_kindE
 have C:=ae_elemP
 have B:=Z5m
 have z:=ae_typeOfS
 have u:=ae_typeOfE
 have v:=ae_assignS
 have r:=ae_assignE
 have q:=Z7n
 have p:=ae_noAs
 have A:=Z6l
 have o:=Z4e
 have j:3<w.heap.size:=Z0E hg
 have a:t.block<w.heap.size:=block_lt_of_cell ht0
 have s:((w.alloc (.cells #[.pointer (some t)] 260)).alloc (.cells #[.pointer (some ⟨6,260,none⟩),.pointer (some ⟨w.heap.size,0,none⟩),.int .u64 150] 284)).cell? ⟨3,0,none⟩=some (.iface 241 (.agg #[.pointer (some ⟨6,113,none⟩)])):=by
  rw [World.cell?_alloc_lt _ _ ⟨3,0,none⟩ (by simp <;> omega),World.cell?_alloc_lt _ _ ⟨3,0,none⟩ j];exact hg
 have E:=ae_isNil ⟨w.heap.size,0,none⟩ t ((w.alloc (.cells #[.pointer (some t)] 260)).alloc (.cells #[.pointer (some ⟨6,260,none⟩),.pointer (some ⟨w.heap.size,0,none⟩),.int .u64 150] 284)) (by simp)
 have d:=as_in x y t ⟨w.heap.size,0,none⟩ old ((w.alloc (.cells #[.pointer (some t)] 260)).alloc (.cells #[.pointer (some ⟨6,260,none⟩),.pointer (some ⟨w.heap.size,0,none⟩),.int .u64 150] 284)) (by simp) (by rw [World.cell?_alloc_lt _ _ t (by simp;omega),World.cell?_alloc_lt _ _ t a];exact ht0) (by rw [World.frozen?_alloc_old _ _ t (by simp;omega),World.frozen?_alloc_old _ _ t (Nat.ne_of_lt a)];exact hf0)
 go_enter func150,ntmps150
 go_wp2_with fail
 refine d.mono ?_
 rintro e I ⟨rfl,rfl⟩
 go_wp2
 go_ret
 exact⟨rfl,rfl⟩
def ErrT (w:World):Prop:=w.cell? ⟨3,0,none⟩=some (.iface 241 (.agg #[.pointer (some ⟨6,113,none⟩)]))
theorem ErrT.below {w w':World}{B:Nat}(h:ErrT w)(hb:Below B w w')(hB:3<B):ErrT w':=(hb.cell (p:=⟨3,0,none⟩) hB).trans h
def Z2Z (x y:Int):Value:=if y=0 then .nilIface else .iface 281 (.agg #[.int .i64 x,.int .i64 y])
theorem Z7o (x y:Int)(w:World):Calls prog 149 #[.int .i64 x,.int .i64 y] w fun e w'=>e= .returned (Z2Z x y)∧w'=w:=by
 by_cases a:y=0
 ·have b:Hid (Z2Z x y= .nilIface):=if_pos a
  rw [b.out]
  subst a
  go_enter func149,ntmps149
  go_wp2
  go_ret
  exact⟨rfl,rfl⟩
 ·have b:Hid (Z2Z x y= .iface 281 (.agg #[.int .i64 x,.int .i64 y])):=if_neg a
  rw [b.out]
  have c:(y==0)=false:=beq_false_of_ne a
  go_enter func149,ntmps149
  go_wp2
  go_ret
  exact⟨rfl,rfl⟩
theorem Z6m (x y:Int)(w:World)(hg:ErrT w):Calls prog 122 #[Z2Z x y] w fun e w'=>e= .returned (.int .i64 y)∧Below w.heap.size w w':=by
 by_cases h:y=0
 ·have l:Hid (Z2Z x y= .nilIface):=if_pos h
  rw [l.out]
  subst h
  have g:Hid (Below w.heap.size w (w.alloc (.cells #[.int .i64 0] 28))):=(Below.refl _ _).alloc (Nat.le_refl _) _
  go_enter func122,ntmps122
  go_wp2_with fail
  refine (as_nil _ _).mono ?_
  rintro e j ⟨rfl,rfl⟩
  go_wp2
  go_ret
  exact⟨rfl,g.out⟩
 ·have l:Hid (Z2Z x y= .iface 281 (.agg #[.int .i64 x,.int .i64 y])):=if_neg h
  rw [l.out]
  have i:=Z0E hg
  obtain⟨w0,a⟩:∃ w0,w.alloc (.cells #[.int .i64 0] 28)=w0:=⟨_,rfl⟩
  have f:w0.heap[w.heap.size]? = some (.cells #[.int .i64 0] 28 (0,0)):=by rw [← a];exact heap_alloc_new w _
  have b:Below w.heap.size w w0:=by rw [← a];exact (Below.refl _ _).alloc (Nat.le_refl _) _
  have k:w0.heap.size=w.heap.size+1:=by rw [← a];simp
  have m:=as_hit x y ⟨w.heap.size,0,none⟩ (.int .i64 0) w0 (hg.below b i) (cell_of_row _ _ _ _ _ _ f) (by simp [World.frozen?,f])
  have n:Hid (∀ w',w'=(((((w0.alloc (.cells #[.pointer (some ⟨w.heap.size,0,none⟩)] 260)).alloc (.cells #[.pointer (some ⟨6,260,none⟩),.pointer (some ⟨w0.heap.size,0,none⟩),.int .u64 150] 284)).alloc (.cells #[.pointer (some ⟨6,260,none⟩),.pointer (some ⟨w0.heap.size,0,none⟩),.int .u64 150] 284)).alloc (.cells #[.int .i64 x,.int .i64 y] 281)).alloc (.cells #[.int .i64 y] 28)).setCell ⟨w.heap.size,0,none⟩ (.int .i64 y)→w'.cell? ⟨w.heap.size,0,none⟩=some (.int .i64 y)∧Below w.heap.size w w'):=by
   rintro w' rfl
   refine⟨?_,(b.trans (((((((Below.refl w.heap.size w0).alloc (by omega) _).alloc (by simp;omega) _).alloc (by simp;omega) _).alloc (by simp;omega) _).alloc (by simp;omega) _))).setCell (p:=⟨w.heap.size,0,none⟩) (Nat.le_refl _) _⟩
   have q:(((((w0.alloc (.cells #[.pointer (some ⟨w.heap.size,0,none⟩)] 260)).alloc (.cells #[.pointer (some ⟨6,260,none⟩),.pointer (some ⟨w0.heap.size,0,none⟩),.int .u64 150] 284)).alloc (.cells #[.pointer (some ⟨6,260,none⟩),.pointer (some ⟨w0.heap.size,0,none⟩),.int .u64 150] 284)).alloc (.cells #[.int .i64 x,.int .i64 y] 281)).alloc (.cells #[.int .i64 y] 28)).heap[w.heap.size]? = some (.cells #[.int .i64 0] 28 (0,0)):=by
    rw [Below.heap_alloc _ _ _ (by simp;omega),Below.heap_alloc _ _ _ (by simp;omega),Below.heap_alloc _ _ _ (by simp;omega),Below.heap_alloc _ _ _ (by simp;omega),Below.heap_alloc _ _ _ (by omega)]
    exact f
   have:=heap_setCell_same _ w.heap.size 0 _ _ (.int .i64 y) q
   exact cell_of_row _ _ _ _ _ _ this
  clear hg b k f
  go_enter func122,ntmps122
  go_wp2_with fail
  try rw [a]
  refine m.mono ?_
  rintro e j ⟨rfl,d⟩
  obtain⟨o,c⟩:=n.out j d
  have g:Hid (Below w.heap.size w j):=c
  clear n d m c a
  go_wp2
  go_ret
  exact⟨rfl,g.out⟩
end
section
open Go.ChangeShapes Go.WideShapes Go.RowKit Go.Deep
theorem Z22 {w w':World}{b:Nat}(h:w'.heap[b]? = w.heap[b]?)(i:Nat):w'.cell? ⟨b,i,none⟩=w.cell? ⟨b,i,none⟩:=World.cell?_of_block (a:=⟨b,i,none⟩) h
def Z27 {α:Type}(f:α→Value)(W:World)(v:Value)(l:List α):Prop:=(∃ oa cap,v= .slice oa 0 cap∧l= [])∨∃ g o cap,v= .slice (some ⟨g,o,none⟩) l.length cap∧g<W.heap.size∧∀ i x,l[i]? = some x→W.cell? ⟨g,o+i,none⟩=some (f x)
theorem Z27.get {α:Type}{f:α→Value}{W:World}{oa:Option Addr}{cap:Nat}{l:List α}(h:Z27 f W (.slice oa l.length cap) l){i:Nat}(hi:i<l.length):∃ g o,oa=some ⟨g,o,none⟩∧g<W.heap.size∧∀ j x,l[j]? = some x→W.cell? ⟨g,o+j,none⟩=some (f x):=by
 rcases h with ⟨oa',cap',e,rfl⟩ | ⟨g,o,cap',e,hg,hx⟩
 ·simp at hi
 ·simp only [Value.slice.injEq] at e
  exact⟨g,o,e.1,hg,hx⟩
section
variable {H:Type} {enc:TypeId × Value→H} {W:World}
end
end
end Go.Proofs.YtijpgmkdnemmbaaGreatDoor
