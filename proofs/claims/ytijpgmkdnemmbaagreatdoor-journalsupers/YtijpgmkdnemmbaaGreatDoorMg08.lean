/- Part 8. -/
import Derived.Test.YtijpgmkdnemmbaaGreatDoorMg07
import Derived.Deep.Cut
import Derived.Shelf.Strconv.Clone
import Derived.Lib.LaidTab
set_option maxRecDepth 20000
set_option maxHeartbeats 8000000
open Go.RowKit Go.Proofs.Tryz
namespace Go.Proofs.YtijpgmkdnemmbaaGreatDoor
section
open Go.RowKit Go.Lib
theorem Z7B:∀ (ps:List (Int × Int)) (j:Nat) (h:j<ps.length),Z0r (ps.take (j+1))=(Z0r (ps.take j)&&(putE ps[j].1 ps[j].2==0))
 | p :: r,0,_=>by simp [Z0r]
 | p :: r,j+1,h=>by
  have ih:=Z7B r j (by simpa using h)
  rw [List.take_succ_cons,List.take_succ_cons,Z0r,Z0r,ih]
  simp [Bool.and_assoc]
theorem laidL_take (ps:List (Int × Int))(j:Nat)(h:j<ps.length):Z0N (ps.take (j+1))=Z0N (ps.take j)++(putS ps[j].1 ps[j].2).data.toList:=by
 rw [List.take_succ_eq_append_getElem h,Z47]
 simp [Z0N]
theorem Z7C:∀ (ps:List (Int × Int)) (j:Nat) (h:j<ps.length),(putE ps[j].1 ps[j].2 != 0)=true→Z0r ps=false
 | p :: r,0,_,e=>by simp [Z0r] at e ⊢;intro h;exact absurd h e
 | p :: r,j+1,h,e=>by
  have:=Z7C r j (by simpa using h) (by simpa using e)
  simp [Z0r,this]
def laidS (ps:List (Int × Int)):ByteArray:=if Z0r ps=true then ⟨(Z0N ps).toArray⟩ else ByteArray.empty
theorem laidS_ok {ps:List (Int × Int)}(h:Z0r ps=true):laidS ps=⟨(Z0N ps).toArray⟩:=by simp [laidS,h]
theorem rec_text (pre:ByteArray)(l:List UInt8)(z:Nat):pre++⟨l.toArray⟩++Z0S z=⟨(pre.data.toList++l++List.replicate z 0).toArray⟩:=by
 rw [Z4v]
 congr 1
theorem rlaid_any (ps:List (Int × Int))(n:Nat)(hn:ps.length=n)(hn2:n≤1000)(ba bb ca cb:Nat)(w:World)(hba:ba<w.heap.size)(hbb:bb<w.heap.size)
  (hca:∀ i (h:i<ps.length),w.cell? ⟨ba,i,none⟩=some (.int .i64 ps[i].1))(hcb:∀ i (h:i<ps.length),w.cell? ⟨bb,i,none⟩=some (.int .i64 ps[i].2))
  (hm:∀ i (h:i<ps.length),ps[i].1≤9223372036854775807) :
  Calls prog 33 #[.slice (some ⟨ba,0,none⟩) n ca,.slice (some ⟨bb,0,none⟩) n cb] w fun e w' =>
   e= .returned (.tuple #[.string (laidS ps),.bool (Z0r ps)])∧Below w.heap.size w w':=by
 have y:Hid (∀ i (h:i<ps.length),w.cell? ⟨ba,i,none⟩=some (.int .i64 ps[i].1)):=hca
 have r:Hid (∀ i (h:i<ps.length),w.cell? ⟨bb,i,none⟩=some (.int .i64 ps[i].2)):=hcb
 have H:Hid (∀ i (h:i<ps.length),ps[i].1≤9223372036854775807):=hm
 have z:Hid (ps.length=n):=hn
 clear hca hcb hm hn
 go_enter func33,ntmps33
 go_wp2
 go_loopw [6,7] (fun s i wr=> ∃ j:Nat,j≤n∧i= .int .i64 j∧s= .string ⟨(Z0N (ps.take j)).toArray⟩∧Z0r (ps.take j)=true∧Below w.heap.size w wr) (fun _ i _=>n-(Go.RowKit.intOf i).toNat)
 case atStart=>exact⟨0,Nat.zero_le _,rfl,by simp [Z0N],rfl,Below.refl _ _⟩
 case round =>
  obtain⟨j,S,rfl,rfl,a,l⟩:=hrel
  have E:Hid (Z0r (ps.take j)=true):=a
  clear a
  by_cases t:j<n
  ·have b:j<ps.length:=by rw [z.out];exact t
   obtain⟨x,o⟩:∃ x,x=ps[j].1:=⟨_,rfl⟩
   obtain⟨k,q⟩:∃ k,k=ps[j].2:=⟨_,rfl⟩
   have D:wr.cell? ⟨ba,j,none⟩=some (.int .i64 x):=by rw [o];exact (l.cell (p:=⟨ba,j,none⟩) hba).trans (y.out j b)
   have B:wr.cell? ⟨bb,j,none⟩=some (.int .i64 k):=by rw [q];exact (l.cell (p:=⟨bb,j,none⟩) hbb).trans (r.out j b)
   have v:x≤9223372036854775807:=by rw [o];exact H.out j b
   have d:Hid (x=ps[j].1∧k=ps[j].2):=⟨o,q⟩
   clear o q
   have N:(0:Int)≤(j:Int):=by omega
   have O:(j:Int)<(n:Int):=by omega
   go_wp2
   have J:=l.size
   go_region_held3 (fun w'=>w'.cell? ⟨ba,j,none⟩=some (.int .i64 x)∧w'.cell? ⟨bb,j,none⟩=some (.int .i64 k)) (simp [go_sem, *])
    (first | (go_at_call 71;refine (Z6S x k v _).mono ?_;rintro e G ⟨rfl,c⟩;have L:=(c.cell (p:=⟨ba,j,none⟩) (by simp;omega)).trans (by simpa using D);have I:=(c.cell (p:=⟨bb,j,none⟩) (by simp;omega)).trans (by simpa using B)))
   have m:Below w.heap.size w G:=by
    refine Below.trans ?_ (c.mono (by simp;omega))
    repeat (first | exact l | apply Below.drew)
   clear c L I D B
   have C:=fun w2=>run_string_add_sum (P:=prog) (w:=w2) ⟨(Z0N (ps.take j)).toArray⟩ (putS x k) (by
    have T:=Z6I (ps.take j)
    have Q:(ps.take j).length≤j:=List.length_take_le _ _
    have M:(putS x k).size≤6:=by have:=Z78 x k;simpa using this
    have R:(⟨(Z0N (ps.take j)).toArray⟩:ByteArray).size=(Z0N (ps.take j)).length:=by simp [ByteArray.size]
    omega)
   by_cases f:putE x k=0
   ·have g:(putE x k != 0)=false:=by rw [f];rfl
    have K:Hid (putE x k=0):=f
    clear f
    go_wp2
    go_roundw
    case rel =>
     refine⟨j+1,by omega,by go_num,?_,?_,m⟩
     ·rw [laidL_take ps j b,← d.out.1,← d.out.2]
      congr 1
     ·rw [Z7B ps j b,E.out,← d.out.1,← d.out.2,K.out];rfl
    case measure=>simp [Go.RowKit.intOf];omega
   ·have g:(putE x k != 0)=true:=by simpa using f
    have F:Hid (Z0r ps=false):=Z7C ps j b (by rw [← d.out.1,← d.out.2];exact g)
    clear f
    go_wp2
    go_ret2
    refine⟨?_,m⟩
    unfold laidS
    rw [F.out]
    rfl
  ·have u:j=n:=by omega
   subst u
   have A:Hid (ps.take j=ps):=List.take_of_length_le (by rw [z.out];exact Nat.le_refl _)
   go_wp2
   go_ret2
   refine⟨?_,l⟩
   have a:=E.out
   rw [A.out] at a
   unfold laidS
   rw [if_pos a,a]
   show Ending.returned (.tuple #[.string ⟨(Z0N (ps.take j)).toArray⟩,.bool true])=_
   rw [A.out]
theorem Z4Q {w:World}{b:Nat}{xs:List Int}{t:TypeId}(h:w.heap[b]? = some (.cells (xs.map (Value.int .i64)).toArray t (0,0)))(i:Nat)(hi:i<xs.length):w.cell? ⟨b,i,none⟩=some (.int .i64 xs[i]):=by
 simp [World.cell?,h,hi]
theorem rlaid_blk (ps:List (Int × Int))(n:Nat)(hn:ps.length=n)(hn2:n≤1000)(ba bb ca cb:Nat)(w:World)(ta tb:TypeId)
  (hA:w.heap[ba]? = some (.cells ((ps.map (·.1)).map (Value.int .i64)).toArray ta (0,0)))(hB:w.heap[bb]? = some (.cells ((ps.map (·.2)).map (Value.int .i64)).toArray tb (0,0)))
  (hm:∀ p∈ps,p.1≤9223372036854775807) :
  Calls prog 33 #[.slice (some ⟨ba,0,none⟩) n ca,.slice (some ⟨bb,0,none⟩) n cb] w fun e w' =>
   e= .returned (.tuple #[.string (laidS ps),.bool (Z0r ps)])∧Below w.heap.size w w' :=
 rlaid_any ps n hn hn2 ba bb ca cb w (lt_of_block hA) (lt_of_block hB)
  (fun i h=>by have:=Z4Q hA i (by simpa using h);simpa using this) (fun i h=>by have:=Z4Q hB i (by simpa using h);simpa using this) (fun i h=>hm _ (List.getElem_mem h))
theorem below1 (w:World)(o1:Obj):Below w.heap.size w (w.alloc o1):=(Below.refl _ _).alloc (Nat.le_refl _) _
theorem below2 (w:World)(o1 o2:Obj):Below w.heap.size w ((w.alloc o1).alloc o2):=(below1 w o1).alloc (by simp) _
theorem below3 (w:World)(o1 o2 o3:Obj):Below w.heap.size w (((w.alloc o1).alloc o2).alloc o3):=(below2 w o1 o2).alloc (by simp;omega) _
theorem heap3_1 (w:World)(o1 o2 o3:Obj):(((w.alloc o1).alloc o2).alloc o3).heap[w.heap.size+1]? = some o2:=by
 rw [Below.heap_alloc _ _ _ (by simp)]
 have:=heap_alloc_new (w.alloc o1) o2
 rwa [World.size_alloc] at this
theorem heap3_2 (w:World)(o1 o2 o3:Obj):(((w.alloc o1).alloc o2).alloc o3).heap[w.heap.size+1+1]? = some o3:=by
 have:=heap_alloc_new ((w.alloc o1).alloc o2) o3
 rwa [World.size_alloc,World.size_alloc] at this
end
theorem headWidths_any (w:World) :
  Calls prog 72 #[] w fun e w'=>e= .returned (.slice (some ⟨w.heap.size,0,none⟩) 8 8)∧w'=w.alloc (.cells #[.int .i64 6,.int .i64 4,.int .i64 2,.int .i64 4,.int .i64 4,.int .i64 4,.int .i64 6,.int .i64 6] 3):=by
 go_enter func72,ntmps72
 go_wp2
 go_ret
 exact⟨rfl,rfl⟩
section
open Go.RowKit Go.Lib
theorem rhead_any (a0 a1 a2 a3 a4 a5 a6 a7:Int)(hm:∀ p∈Z24 a0 a1 a2 a3 a4 a5 a6 a7,p.1≤9223372036854775807)(w:World) :
  Calls prog 35 #[.agg #[.int .i64 a0,.int .i64 a1,.int .i64 a2,.int .i64 a3,.int .i64 a4,.int .i64 a5,.int .i64 a6,.int .i64 a7]] w fun e w' =>
   e= .returned (.tuple #[.string (recS [71,82,80,78] (Z24 a0 a1 a2 a3 a4 a5 a6 a7) 8),.int .i64 (recE (Z24 a0 a1 a2 a3 a4 a5 a6 a7))])∧Below w.heap.size w w':=by
 have o:Hid _:=hm
 clear hm
 have r:Hid (Z0r (Z24 a0 a1 a2 a3 a4 a5 a6 a7)=true→(Z0N (Z24 a0 a1 a2 a3 a4 a5 a6 a7)).length=36):=fun h=>Z1p _ h
 obtain⟨a,d⟩:∃ a,a=Z24 a0 a1 a2 a3 a4 a5 a6 a7:=⟨_,rfl⟩
 have m:Hid _:=d
 rw [← d] at r o ⊢
 clear d
 go_enter func35,ntmps35
 go_wp2_with fail
 go_cut [4,5] from 6 (fun s b wc=>s= .string (laidS a)∧b= .bool (Z0r a)∧Below w.heap.size w wc)
 case first =>
  go_region_held3 (fun w'=>w'.cell? ⟨w.heap.size,0,none⟩=some (.int .i64 a0)∧w'.cell? ⟨w.heap.size,1,none⟩=some (.int .i64 a1)∧w'.cell? ⟨w.heap.size,2,none⟩=some (.int .i64 a2)∧w'.cell? ⟨w.heap.size,3,none⟩=some (.int .i64 a3)∧w'.cell? ⟨w.heap.size,4,none⟩=some (.int .i64 a4)∧w'.cell? ⟨w.heap.size,5,none⟩=some (.int .i64 a5)∧w'.cell? ⟨w.heap.size,6,none⟩=some (.int .i64 a6)∧w'.cell? ⟨w.heap.size,7,none⟩=some (.int .i64 a7)) (simp [go_sem,World.cell?_alloc_past, *])
   (first | (go_at_call 72;refine (headWidths_any _).mono ?_;rintro e n ⟨rfl,rfl⟩) | (go_at_call 33;refine (rlaid_blk (Z24 a0 a1 a2 a3 a4 a5 a6 a7) 8 rfl (by decide) _ _ 8 8 _ 3 3 (by first | exact heap3_1 w _ _ _ | exact heap3_2 w _ _ _) (by first | exact heap3_1 w _ _ _ | exact heap3_2 w _ _ _) (by rw [← m.out];exact o.out)).mono ?_;rintro e n ⟨rfl,f⟩;have u:∀ i,n.cell? ⟨w.heap.size,i,none⟩=_:=fun i=>f.cell (p:=⟨w.heap.size,i,none⟩) (by simp;omega)))
  all_goals
   go_wp2_with fail
   go_meet
   exact⟨by rw [m.out],by rw [m.out],by
    exact (below3 w _ _ _).drew.trans (f.mono (by simp;omega))⟩
 case rest =>
  obtain⟨rfl,rfl,k⟩:=hcut
  cases ho:Z0r a with
  | false =>
   have g:Hid _:=ho
   clear ho
   go_wp2
   go_ret2
   exact⟨by rw [recS_no g.out,recE_no g.out];rfl,k⟩
  | true =>
   have g:Hid _:=ho
   rw [laidS_ok ho]
   have c:(⟨(Z0N a).toArray⟩:ByteArray).size=36:=by rw [← r.out ho];simp [ByteArray.size]
   clear ho
   have q:=fun w2=>run_string_add_sum (P:=prog) (w:=w2) ⟨#[71,82,80,78]⟩ ⟨(Z0N a).toArray⟩ (by rw [c];decide)
   have j:=fun w2=>run_string_add_sum (P:=prog) (w:=w2) (⟨#[71,82,80,78]⟩++⟨(Z0N a).toArray⟩) (Z0S 8) (by
    rw [Z1L,ByteArray.size_append,c];decide)
   clear c
   go_wp2_with fail
   refine (Z4Y 8 (by decide) _).mono ?_
   rintro e t ⟨rfl,l⟩
   go_wp2
   go_ret2
   refine⟨?_,k.trans (l.mono k.size)⟩
   rw [Z5Q g.out,Z5R g.out,← rec_text ⟨#[71,82,80,78]⟩ (Z0N a) 8]
   rfl
theorem rsuper_arg (a0 a1 a2 a3:Int)(r:ByteArray)(h:((r.size:Int) != 32)=true)(w:World) :
  Calls prog 14 #[.agg #[.int .i64 a0,.int .i64 a1,.int .i64 a2,.int .i64 a3,.string r]] w fun e w'=>e= .returned (.tuple #[.string ByteArray.empty,.int .i64 1])∧Below w.heap.size w w':=by
 go_enter func14,ntmps14
 go_wp2
 go_ret2
 exact⟨rfl,(Below.refl _ _).alloc (Nat.le_refl _) _⟩
theorem rsuper_in (a0 a1 a2 a3:Int)(r:ByteArray)(hr:r.size=32)(hm:∀ p∈Z0D a0 a1 a2 a3,p.1≤9223372036854775807)(w:World) :
  Calls prog 14 #[.agg #[.int .i64 a0,.int .i64 a1,.int .i64 a2,.int .i64 a3,.string r]] w fun e w'=>e= .returned (.tuple #[.string (Z1P a0 a1 a2 a3 r),.int .i64 (Z18 a0 a1 a2 a3 r)])∧Below w.heap.size w w':=by
 have n:((r.size:Int) != 32)=false:=by rw [hr];rfl
 have f:Hid _:=hr
 have m:Hid _:=hm
 clear hr hm
 go_enter func14,ntmps14
 go_wp2_with fail
 refine (rlaid_blk (Z0D a0 a1 a2 a3) 4 rfl (by decide) _ _ 4 4 _ 3 3 (by exact heap3_1 w _ _ _) (by exact heap3_2 w _ _ _) m.out).mono ?_
 rintro e q ⟨rfl,b⟩
 have l:=(b.cell (p:=⟨w.heap.size,4,none⟩) (by simp;omega)).trans (show _=some (Value.string r) from by
  rw [World.cell?_alloc_past _ _ _ (by simp;omega)];exact Z4S w _ _ _ 4 _ rfl)
 have j:=(below3 w _ _ _).trans (b.mono (by simp;omega))
 clear b
 cases ho:Z0r (Z0D a0 a1 a2 a3) with
 | false =>
  have c:Hid _:=ho
  clear ho
  go_wp2
  go_ret2
  refine⟨?_,j⟩
  unfold Z1P Z18
  rw [if_neg (by rw [c.out];simp),if_pos f.out,recE_no c.out]
  rfl
 | true =>
  have c:Hid _:=ho
  rw [laidS_ok ho]
  have a:(⟨(Z0N (Z0D a0 a1 a2 a3)).toArray⟩:ByteArray).size=22:=by have:=Z1p _ ho;simp [ByteArray.size,this];rfl
  clear ho
  generalize hG:(⟨(Z0N (Z0D a0 a1 a2 a3)).toArray⟩:ByteArray)=g at *
  have o:Hid _:=hG
  clear hG
  have k:=fun h=>run_string_add_sum (P:=prog) (w:=h) g r (by rw [a,f.out];decide)
  have i:=fun h=>run_string_add_sum (P:=prog) (w:=h) (g++r) (Z0S 394) (by
   rw [Z1L,ByteArray.size_append,a,f.out];decide)
  clear a
  go_wp2
  go_region_held3 (fun w'=>w'.cell? ⟨w.heap.size,4,none⟩=some (.string r)) (simp [go_sem, *])
   (first | (go_at_call 34;refine (Z4Y 394 (by decide) _).mono ?_;rintro e h ⟨rfl,d⟩;have s:=(d.cell (p:=⟨w.heap.size,4,none⟩) (by have:=block_lt_of_cell l;simpa using this)).trans (by simpa using l)))
  go_wp2
  go_ret2
  refine⟨?_,Below.trans ?_ (d.mono (by simpa using j.size))⟩
  ·unfold Z1P Z18
   rw [if_pos ⟨f.out,c.out⟩,if_pos f.out,Z5R c.out,← padL_add,o.out]
   rfl
  ·repeat (first | exact j | apply Below.drew)
theorem rsuper_any (a0 a1 a2 a3:Int)(r:ByteArray)(hm:∀ p∈Z0D a0 a1 a2 a3,p.1≤9223372036854775807)(w:World) :
  Calls prog 14 #[.agg #[.int .i64 a0,.int .i64 a1,.int .i64 a2,.int .i64 a3,.string r]] w fun e w'=>e= .returned (.tuple #[.string (Z1P a0 a1 a2 a3 r),.int .i64 (Z18 a0 a1 a2 a3 r)])∧Below w.heap.size w w':=by
 by_cases a:r.size=32
 ·exact rsuper_in a0 a1 a2 a3 r a hm w
 ·have c:Z1P a0 a1 a2 a3 r=ByteArray.empty:=by unfold Z1P;rw [if_neg (fun h=>a h.1)]
  have b:Z18 a0 a1 a2 a3 r=1:=by unfold Z18;rw [if_neg a]
  rw [c,b]
  exact rsuper_arg a0 a1 a2 a3 r (by simp;omega) w
end
section
open Go.ChangeShapes Go.WideShapes Go.ChangeAt Go.RowKit
theorem array5 {α:Type}{cs:Array α}(h:cs.size=5):∃ c0 c1 c2 c3 c4,cs=#[c0,c1,c2,c3,c4]:=by
 obtain⟨l⟩:=cs
 match l,h with
 | [c0,c1,c2,c3,c4],_=>exact⟨c0,c1,c2,c3,c4,rfl⟩
theorem cells_super:prog.cellsOf 23=5:=by kernel_rfl
theorem open_super {H:Type}{enc:TypeId × Value→H}{w:World}{base b0:Nat}{spare:Nat→Bool}{held:Bool}{r:Reach}{v:Value}{d:DataW H}{p:List MemPlace}
  (hv:Value.okWide prog w r b0 23 v)(h:DataW.Trod enc prog w base spare held 23 v d p) :
  ∃ (a0 a1 a2 a3:Int) (s:ByteArray),v= .agg #[.int .i64 a0,.int .i64 a1,.int .i64 a2,.int .i64 a3,.string s]∧(Z2g a0∧Z2g a1∧Z2g a2∧Z2g a3∧s.size≤maxLen):=by
 obtain⟨y,rfl,e⟩:=okWide_struct underlying23 hv
 obtain⟨k,u,g,t,o,rfl⟩:=array5 (e.trans cells_super)
 obtain⟨f,a⟩:=h
 obtain⟨xs,n,_,_,_,b,a⟩:=DataW.trod_struct underlying23 a
 have z:xs.length=5:=b
 obtain⟨a0,rfl,q⟩:=fld_int (c:=k) (i:=0) (xs:=xs) (by simpa [Value.cells,Z5i] using a 0 _ rfl) (by omega)
 obtain⟨a1,rfl,m⟩:=fld_int (c:=u) (i:=1) (xs:=xs) (by simpa [Value.cells,Z5i] using a 1 _ rfl) (by omega)
 obtain⟨a2,rfl,l⟩:=fld_int (c:=g) (i:=2) (xs:=xs) (by simpa [Value.cells,Z5i] using a 2 _ rfl) (by omega)
 obtain⟨a3,rfl,j⟩:=fld_int (c:=t) (i:=3) (xs:=xs) (by simpa [Value.cells,Z5i] using a 3 _ rfl) (by omega)
 obtain⟨s,rfl,x⟩:=fld_string (c:=o) (i:=4) (xs:=xs) (by simpa [Value.cells,cells_string] using a 4 _ rfl) (by omega)
 exact⟨a0,a1,a2,a3,s,rfl,q,m,l,j,x⟩
end
theorem Z8f {W:World}(h:handlesMet prog [("errors.errorType",Rows.laid_errors_errorType)] W):ErrT W:=by
 have g:=h _ (List.mem_singleton.2 rfl)
 obtain⟨b,u,e,l,f,c,k,i⟩:=g
 obtain rfl:b= [101,114,114,111,114]:=(Option.some.inj ((show (Rows.laid_errors_errorType:DataW Unit).handleName? = some [101,114,114,111,114] by kernel_rfl).symm.trans l)).symm
 obtain rfl:u=241:=(Option.some.inj ((show (prog.cutTypes.find? (·.1 == "internal/reflectlite.rtype")).map (·.2)=some 241 by kernel_rfl).symm.trans f)).symm
 have a:(List.range prog.types.size).all (fun t=> !prog.rowNamed t [101,114,114,111,114]||t==113)=true:=by kernel_rfl
 have d:=List.all_eq_true.1 a e (List.mem_range.2 c)
 rw [k] at d
 obtain rfl:e=113:=by simpa using d
 have m:=World.var?_cell (show prog.globalNamed "errors.errorType" = some 3 by kernel_rfl) i 0
 have j:prog.globals.size=6:=by kernel_rfl
 rw [ErrT,m]
 simp only [typeHandle,j]
 rfl
end Go.Proofs.YtijpgmkdnemmbaaGreatDoor
