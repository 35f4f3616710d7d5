/- Part 7. -/
import Derived.Test.YtijpgmkdnemmbaaGreatDoorMg06
import Derived.Lib.BufferWrite
import Derived.Lib.UnsafeStr
set_option maxRecDepth 20000
set_option maxHeartbeats 8000000
open Go.RowKit Go.Proofs.Tryz
namespace Go.Proofs.YtijpgmkdnemmbaaGreatDoor
section
open Go.RowKit Go.Lib
theorem super_arg (a0 a1 a2 a3:Int)(r:ByteArray)(h:((r.size:Int) != 32)=true)(w:World) :
  Calls prog 12 #[.agg #[.int .i64 a0,.int .i64 a1,.int .i64 a2,.int .i64 a3,.string r]] w fun e w'=>e= .returned (.tuple #[.string ByteArray.empty,.int .i64 1])∧Below w.heap.size w w':=by
 go_enter func12,ntmps12
 go_wp2
 go_ret2
 exact⟨rfl,(Below.refl _ _).alloc (Nat.le_refl _) _⟩
theorem super_in (a0 a1 a2 a3:Int)(r:ByteArray)(hr:r.size=32)(w:World) :
  Calls prog 12 #[.agg #[.int .i64 a0,.int .i64 a1,.int .i64 a2,.int .i64 a3,.string r]] w fun e w'=>e= .returned (.tuple #[.string (Z1P a0 a1 a2 a3 r),.int .i64 (Z18 a0 a1 a2 a3 r)])∧Below w.heap.size w w':=by
 have F:((r.size:Int) != 32)=false:=by rw [hr];rfl
 have s:Hid _:=hr
 clear hr
 go_enter func12,ntmps12
 go_wp2_with fail
 have z:=wr_new (w.alloc (.cells #[.int .i64 a0,.int .i64 a1,.int .i64 a2,.int .i64 a3,.string r] 23)) (w.heap.size+1) (by simp)
 have B:Hid (∀ i (v:Value),(#[.int .i64 a0,.int .i64 a1,.int .i64 a2,.int .i64 a3,.string r]:Array Value)[i]? = some v→((w.alloc (.cells #[.int .i64 a0,.int .i64 a1,.int .i64 a2,.int .i64 a3,.string r] 23)).alloc (.cells #[.slice none 0 0,.int .i64 0] 92)).cell? ⟨w.heap.size,i,none⟩=some v):=Z4S w _ _ _
 have q:Below w.heap.size w ((w.alloc (.cells #[.int .i64 a0,.int .i64 a1,.int .i64 a2,.int .i64 a3,.string r] 23)).alloc (.cells #[.slice none 0 0,.int .i64 0] 92)):=((Below.refl _ _).alloc (Nat.le_refl _) _).alloc (by simp) _
 have G:=B.out 0 (.int .i64 a0) rfl
 generalize (w.alloc (.cells #[.int .i64 a0,.int .i64 a1,.int .i64 a2,.int .i64 a3,.string r] 23)).alloc (.cells #[.slice none 0 0,.int .i64 0] 92)=w1 at *
 have u:Below (w.heap.size+1) w1 w1:=Below.refl _ _
 have d:Hid _:=B
 clear B
 have A:=z
 clear z
 refine (Z1Z (w.heap.size+1) [] [] [(a0,6)] a0 6 rfl _ A (by simp)).mono ?_
 rintro m N ⟨rfl,x,a⟩
 have k:=u.trans a
 clear A u a G
 have E:=(k.cell (p:=⟨w.heap.size,1,none⟩) (by show w.heap.size<w.heap.size+1;omega)).trans (d.out 1 (.int .i64 a1) rfl)
 go_wp2_with fail
 refine (Z1Z (w.heap.size+1) [] [(a0,6)] [(a0,6),(a1,6)] a1 6 rfl _ x (by simp)).mono ?_
 rintro m O ⟨rfl,o,a⟩
 have j:=k.trans a
 clear x k a E
 have I:=(j.cell (p:=⟨w.heap.size,2,none⟩) (by show w.heap.size<w.heap.size+1;omega)).trans (d.out 2 (.int .i64 a2) rfl)
 go_wp2_with fail
 refine (Z1Z (w.heap.size+1) [] [(a0,6),(a1,6)] [(a0,6),(a1,6),(a2,6)] a2 6 rfl _ o (by simp)).mono ?_
 rintro m M ⟨rfl,t,a⟩
 have f:=j.trans a
 clear o j a I
 have H:=(f.cell (p:=⟨w.heap.size,3,none⟩) (by show w.heap.size<w.heap.size+1;omega)).trans (d.out 3 (.int .i64 a3) rfl)
 go_wp2_with fail
 refine (Z1Z (w.heap.size+1) [] [(a0,6),(a1,6),(a2,6)] [(a0,6),(a1,6),(a2,6),(a3,4)] a3 4 rfl _ t (by simp)).mono ?_
 rintro m K ⟨rfl,n,a⟩
 have h:=f.trans a
 clear t f a H
 have D:=(h.cell (p:=⟨w.heap.size,4,none⟩) (by show w.heap.size<w.heap.size+1;omega)).trans (d.out 4 (.string r) rfl)
 go_wp2_with fail
 refine (Z4x (w.heap.size+1) ([]++Z0N (Z0D a0 a1 a2 a3)) (errL 0 (Z0D a0 a1 a2 a3)) r _ n (by have:=Z6I (Z0D a0 a1 a2 a3);rw [s.out,List.nil_append];simp [Z0D] at this ⊢;omega)).mono ?_
 rintro m L ⟨rfl,c,a⟩
 have y:=h.trans a
 clear n h a D
 rw [List.nil_append] at c
 have b:=q.trans (y.mono (show w.heap.size≤w.heap.size+1 by omega))
 clear y q
 rw [errL_ok (Z0D a0 a1 a2 a3) rfl] at c
 cases ho:Z0r (Z0D a0 a1 a2 a3) with
 | false =>
  rw [ho,if_neg (by decide)] at c
  have l:Hid _:=ho
  clear ho
  go_wp2_with fail
  refine (wrecord_no (w.heap.size+1) _ 2 448 _ c rfl).mono ?_
  rintro m J ⟨rfl,g⟩
  go_wp2
  go_ret2
  refine⟨?_,b.trans (g.mono b.size)⟩
  unfold Z1P Z18
  rw [if_neg (by rw [l.out];simp),if_pos s.out,recE_no l.out]
  rfl
 | true =>
  rw [ho,if_pos rfl] at c
  have l:Hid _:=ho
  clear ho
  go_wp2_with fail
  have C:(Z0N (Z0D a0 a1 a2 a3)++r.data.toList).length+394=448:=by
   rw [List.length_append,Z1p _ l.out,show r.data.toList.length=r.size by simp,s.out];rfl
  refine (wrecord_fit (w.heap.size+1) _ 448 394 (by decide) C _ c).mono ?_
  clear C
  rintro m J ⟨rfl,g⟩
  go_wp2
  go_ret2
  refine⟨?_,b.trans (g.mono b.size)⟩
  unfold Z1P Z18
  rw [if_pos ⟨s.out,l.out⟩,if_pos s.out,Z5R l.out]
  rfl
theorem Z5v (a0 a1 a2 a3:Int)(r:ByteArray)(w:World) :
  Calls prog 12 #[.agg #[.int .i64 a0,.int .i64 a1,.int .i64 a2,.int .i64 a3,.string r]] w fun e w'=>e= .returned (.tuple #[.string (Z1P a0 a1 a2 a3 r),.int .i64 (Z18 a0 a1 a2 a3 r)])∧Below w.heap.size w w':=by
 by_cases a:r.size=32
 ·exact super_in a0 a1 a2 a3 r a w
 ·have c:Z1P a0 a1 a2 a3 r=ByteArray.empty:=by unfold Z1P;rw [if_neg (fun h=>a h.1)]
  have b:Z18 a0 a1 a2 a3 r=1:=by unfold Z18;rw [if_neg a]
  rw [c,b]
  exact super_arg a0 a1 a2 a3 r (by simp;omega) w
end
theorem bytes_row {w:World}{g:Nat}{s:ByteArray}{Y:Array Value}{t:TypeId}(h:w.heap[g]? = some (.cells Y t (0,0)))(hY:Y.toList=Lib.byteCells s.data.toList)(j:Nat)(x:UInt8)(hx:s.data.toList[j]? = some x) :
  w.cell? ((⟨g,0,none⟩:Addr).add j)=some (.int .u8 x.toNat) :=
 Lib.cells_of_row h Y.toList.length j _ (by rw [List.take_length,hY,Lib.byteCells,List.getElem?_map,hx];rfl)
theorem pkSlClone_any (s:ByteArray)(hs:s.size≤4096)(w:World) :
  Calls prog 175 #[.string s] w fun e w'=>e= .returned (.string s)∧Below w.heap.size w w':=by
 by_cases m:s.size=0
 ·obtain rfl:s=ByteArray.empty:=by simpa using m
  go_enter func175,ntmps175
  go_wp2
  go_ret
  exact⟨rfl,Below.refl _ _⟩
 obtain⟨u,v,i,q,o⟩:=info_parts info5
 have A:¬ (s.size:Int)=0:=by omega
 have z:((s.size:Int)==0)=false:=by simpa using m
 go_enter func175,ntmps175
 go_wp2_with (at_make;refine wpList_make_full _ rfl _ _ 90 rfl w.heap.size 5 u (.int .u8 0) 1 underlying90 v i q .i64 .i64 _ _ s.size rfl rfl rfl rfl ?c1 ?c2 (Nat.le_refl _) ?_)
 case c1=>first | omega | (rw [o];omega)
 case c2=>unfold maxLen;omega
 intro f b a
 have n:=(Below.refl _ _).grown a (Nat.le_refl _) (fun k hk=>by simp at hk)
 rcases b.2 with ⟨h',_⟩ | ⟨g,cap,cur,h',_,hg,_,_,hsz,_⟩
 ·simp at h'
 simp only [Value.slice.injEq,Option.some.injEq,Addr.mk.injEq,and_true,true_and] at h'
 obtain⟨rfl,rfl⟩:=h'
 rw [Nat.mul_one] at hsz
 clear b a
 have l:=Lib.run_copy_row_string (P:=prog) f 90 9 3 5 w.heap.size 0 s.size s.size s cur 5 underlying90 (by kernel_rfl) hg (Nat.le_refl _) (by omega)
 obtain⟨Y,h⟩:∃ Y,Y=(cur.toList.take 0++Lib.byteCells s.data.toList++cur.toList.drop (0+s.size)).toArray:=⟨_,rfl⟩
 rw [← h] at l
 have d:Y.toList=Lib.byteCells s.data.toList:=by
  rw [h,List.toList_toArray,List.take_zero,List.nil_append,List.drop_of_length_le (by rw [Array.length_toList];omega),List.append_nil]
 have y:Y.size=s.size:=by rw [← Array.length_toList,d,Lib.byteCells_length,← Lib.size_eq]
 have c:=setRow_heap f w.heap.size cur Y 5 (0,0) hg
 have t:Below w.heap.size w (f.setRow w.heap.size Y):=n.trans ⟨rfl,rfl,rfl,by simp [World.setRow],fun k hk=>setRow_other _ _ _ _ (by omega)⟩
 have r:=Lib.run_unsafeString_row (P:=prog) (f.setRow w.heap.size Y) 200 3 9 5 underlying200 (by kernel_rfl) w.heap.size Y.size (by unfold World.shape?;rw [c]) s.data.toList (fun e=>m (by rw [Lib.size_eq,e];rfl)) (by rw [← Lib.size_eq];omega) (by rw [← Lib.size_eq];omega)
  (fun j x hx=>bytes_row c d j x hx)
 rw [← Lib.size_eq] at r
 clear h d c hg
 go_wp2
 go_ret
 exact⟨rfl,Lib.below_freeze t (p:=⟨w.heap.size,0,none⟩) (Nat.le_refl _) _⟩
theorem Z7w (s:ByteArray)(hs:s.size≤4096)(w:World) :
  Calls prog 151 #[.string s] w fun e w'=>e= .returned (.string s)∧Below w.heap.size w w':=by
 go_enter func151,ntmps151
 go_wp2_with fail
 refine (pkSlClone_any s hs _).mono ?_
 rintro e b ⟨rfl,a⟩
 go_wp2
 go_ret
 exact⟨rfl,a⟩
theorem Only.setRowS {b g:Nat}{w w':World}(h:Only b w w')(hg:w.heap.size≤g)(cs:Array Value):Only b w (w'.setRow g cs) :=
 ⟨h.1.trans ⟨rfl,rfl,rfl,by simp [World.setRow],fun k hk=>absurd hk (Nat.not_lt_zero _)⟩,fun k hk hb=>(setRow_other _ _ _ _ (by omega)).trans (h.2 k hk hb)⟩
theorem Z1z (w:World)(o1:Obj):Below w.heap.size w (w.alloc o1):=(Below.refl _ _).alloc (Nat.le_refl _) _
def Z0y (s:ByteArray):Array Value:=#[.int .i64 (Z16 ((s.data.toList.drop 0).take 6)),.int .i64 (Z16 ((s.data.toList.drop 6).take 6)),.int .i64 (Z16 ((s.data.toList.drop 12).take 6)),.int .i64 (Z16 ((s.data.toList.drop 18).take 4)),.string (s.extract 22 54)]
theorem Z4O (s:ByteArray):(Z0y s).all (·.oneCell')=true:=by simp [Z0y,Value.oneCell']
theorem Z7x (b:Nat)(s:ByteArray)(hs:s.size<448)(w:World)(h:Rd w b s 0) :
  Calls prog 147 #[.pointer (some ⟨b,0,none⟩)] w fun e w'=>e= .panicked (gave 3)∧Only b w w':=by
 have B:=h.lt
 have g:=h.below (Z1z w (.cells #[.int .i64 0,.int .i64 0,.int .i64 0,.int .i64 0,.string ⟨#[]⟩] 23))
 have f:Only b w (w.alloc (.cells #[.int .i64 0,.int .i64 0,.int .i64 0,.int .i64 0,.string ⟨#[]⟩] 23)):=Only.of_below (Z1z w _)
 clear h
 go_enter func147,ntmps147
 go_wp2_with fail
 generalize w.alloc (.cells #[.int .i64 0,.int .i64 0,.int .i64 0,.int .i64 0,.string ⟨#[]⟩] 23)=w0 at *
 by_cases y:0+6≤s.size
 case neg =>
  refine (Z0I b s 0 6 (by decide) (by decide) y (by omega) _ g).mono ?_
  rintro e w' ⟨rfl,c⟩
  exact⟨rfl,rfl,f.trans (Only.of_below c)⟩
 refine (Z0i b s 0 6 (by decide) (by decide) y (by omega) _ g).mono ?_
 rintro e D ⟨rfl,m,a⟩
 have k:=f.trans a
 clear g f a
 go_wp2_with fail
 by_cases A:6+6≤s.size
 case neg =>
  refine (Z0I b s 6 6 (by decide) (by decide) A (by omega) _ m).mono ?_
  rintro e w' ⟨rfl,c⟩
  exact⟨rfl,rfl,k.trans (Only.of_below c)⟩
 refine (Z0i b s 6 6 (by decide) (by decide) A (by omega) _ m).mono ?_
 rintro e G ⟨rfl,n,a⟩
 have o:=k.trans a
 clear m k a
 go_wp2_with fail
 by_cases x:12+6≤s.size
 case neg =>
  refine (Z0I b s 12 6 (by decide) (by decide) x (by omega) _ n).mono ?_
  rintro e w' ⟨rfl,c⟩
  exact⟨rfl,rfl,o.trans (Only.of_below c)⟩
 refine (Z0i b s 12 6 (by decide) (by decide) x (by omega) _ n).mono ?_
 rintro e H ⟨rfl,i,a⟩
 have l:=o.trans a
 clear n o a
 go_wp2_with fail
 by_cases v:18+4≤s.size
 case neg =>
  refine (Z0I b s 18 4 (by decide) (by decide) v (by omega) _ i).mono ?_
  rintro e w' ⟨rfl,c⟩
  exact⟨rfl,rfl,l.trans (Only.of_below c)⟩
 refine (Z0i b s 18 4 (by decide) (by decide) v (by omega) _ i).mono ?_
 rintro e F ⟨rfl,p,a⟩
 have d:=l.trans a
 clear i l a
 go_wp2_with fail
 by_cases z:22+32≤s.size
 case neg =>
  refine (Z3K b s 22 32 z (by decide) (by omega) (by decide) _ p).mono ?_
  rintro e w' ⟨rfl,c⟩
  exact⟨rfl,rfl,d.trans (Only.of_below c)⟩
 refine (Z1T b s 22 32 z (by omega) _ p).mono ?_
 rintro e C ⟨rfl,q,a⟩
 have r:=d.trans a
 clear p d a
 go_wp2_with fail
 refine (Z7w _ (by simp;omega) _).mono ?_
 rintro e E ⟨rfl,j⟩
 have t:=q.below j
 have u:=r.trans (Only.of_below j)
 clear q r j
 go_wp2_with fail
 refine (Z3K b s 54 394 (by omega) (by decide) (by omega) (by decide) _ (t.below (Z1z _ _))).mono ?_
 rintro e w' ⟨rfl,c⟩
 exact⟨rfl,rfl,(u.trans (Only.of_below (Z1z _ _))).trans (Only.of_below c)⟩
theorem Z4P (b:Nat)(s:ByteArray)(hs:s.size=448)(w:World)(h:Rd w b s 0) :
  Calls prog 147 #[.pointer (some ⟨b,0,none⟩)] w fun e w'=>e=(if allZ (s.extract 54 448)=true then .returned (.agg (Z0y s)) else .panicked (gave 5))∧Only b w w':=by
 have R:=h.lt
 have y:=h.below (Z1z w (.cells #[.int .i64 0,.int .i64 0,.int .i64 0,.int .i64 0,.string ⟨#[]⟩] 23))
 have x:Only b w (w.alloc (.cells #[.int .i64 0,.int .i64 0,.int .i64 0,.int .i64 0,.string ⟨#[]⟩] 23)):=Only.of_below (Z1z w _)
 have o:w.heap.size<(w.alloc (.cells #[.int .i64 0,.int .i64 0,.int .i64 0,.int .i64 0,.string ⟨#[]⟩] 23)).heap.size:=by simp
 have u:(w.alloc (.cells #[.int .i64 0,.int .i64 0,.int .i64 0,.int .i64 0,.string ⟨#[]⟩] 23)).heap[w.heap.size]? = some (.cells #[.int .i64 0,.int .i64 0,.int .i64 0,.int .i64 0,.string ⟨#[]⟩] 23 (0,0)):=heap_alloc_new w _
 clear h
 go_enter func147,ntmps147
 go_wp2_with fail
 generalize w.alloc (.cells #[.int .i64 0,.int .i64 0,.int .i64 0,.int .i64 0,.string ⟨#[]⟩] 23)=w0 at *
 refine (Z0i b s 0 6 (by decide) (by decide) (by omega) (by omega) _ y).mono ?_
 rintro e W ⟨rfl,G,a⟩
 have D:=x.trans a
 have r:=(a.2 w.heap.size o (by omega)).trans u
 have p:=Nat.lt_of_lt_of_le o a.size
 clear y x a u o
 go_wp2_with fail
 refine (Z0i b s 6 6 (by decide) (by decide) (by omega) (by omega) _ G).mono ?_
 rintro e Y ⟨rfl,J,a⟩
 have H:=D.trans a
 have P:=(a.2 w.heap.size p (by omega)).trans r
 have m:=Nat.lt_of_lt_of_le p a.size
 clear G D a r p
 go_wp2_with fail
 refine (Z0i b s 12 6 (by decide) (by decide) (by omega) (by omega) _ J).mono ?_
 rintro e Z ⟨rfl,B,a⟩
 have E:=H.trans a
 have O:=(a.2 w.heap.size m (by omega)).trans P
 have q:=Nat.lt_of_lt_of_le m a.size
 clear J H a P m
 go_wp2_with fail
 refine (Z0i b s 18 4 (by decide) (by decide) (by omega) (by omega) _ B).mono ?_
 rintro e X ⟨rfl,K,a⟩
 have t:=E.trans a
 have Q:=(a.2 w.heap.size q (by omega)).trans O
 have k:=Nat.lt_of_lt_of_le q a.size
 clear B E a O q
 go_wp2_with fail
 refine (Z1T b s 22 32 (by omega) (by omega) _ K).mono ?_
 rintro e V ⟨rfl,z,a⟩
 have C:=t.trans a
 have M:=(a.2 w.heap.size k (by omega)).trans Q
 have i:=Nat.lt_of_lt_of_le k a.size
 clear K t a Q k
 go_wp2_with fail
 refine (Z7w _ (by simp;omega) _).mono ?_
 rintro e A ⟨rfl,c⟩
 have j:=z.below c
 have F:=C.trans (Only.of_below c)
 have N:=(c.block w.heap.size i).trans M
 have T:=Nat.lt_of_lt_of_le i c.size
 clear z C c M i
 go_wp2_with fail
 refine (Z1T b s 54 394 (by omega) (by omega) _ (j.below (Z1z _ _))).mono ?_
 rintro e U ⟨rfl,I,a⟩
 have f:=(F.trans (Only.of_below (Z1z _ _))).trans a
 have l:=(a.2 w.heap.size (by simp;omega) (by omega)).trans (show _=some (Obj.cells #[.int .i64 0,.int .i64 0,.int .i64 0,.int .i64 0,.string ⟨#[]⟩] 23 (0,0)) from by rw [Below.heap_alloc _ _ _ (by omega)];exact N)
 have n:=(a.2 A.heap.size (by simp) (by have:=j.lt;omega)).trans (heap_alloc_new A _)
 clear j F a N
 go_wp2_with fail
 refine (isZero_any (s.extract 54 448) (by unfold maxLen;simp;omega) _).mono ?_
 rintro e S ⟨rfl,d⟩
 have g:=f.trans (Only.of_below d)
 have u:=(d.block w.heap.size (lt_of_block l)).trans l
 have r:=(d.block A.heap.size (lt_of_block n)).trans n
 clear I f d l n
 go_wp2_with fail
 by_cases L:allZ (s.extract 54 448)=true
 case neg =>
  rw [Bool.eq_false_iff.2 L]
  refine (must_no b _).mono ?_
  rintro e w' ⟨rfl,rfl⟩
  exact⟨rfl,by rw [if_neg L],g⟩
 rw [L]
 refine (must_yes b _).mono ?_
 rintro e w' ⟨rfl,rfl⟩
 have r:w'.heap[A.heap.size]? = some (Obj.cells (Z0y s) 23 (0,0)):=r
 go_wp2_with (first | refine wpList_load_row rfl 23 _ rfl A.heap.size rfl 23 _ (0,0) _ r underlying23 rfl (by kernel_rfl) ?_ | refine wpList_store_row rfl 23 _ _ rfl w.heap.size (Z0y s) rfl rfl 23 _ u (by kernel_rfl) rfl (Z4O s) ?_)
 exact bodyPost_ret (v:= .agg (Z0y s)) (results_cell_row Tryz.results147 _ _ w.heap.size 23 _ (0,0) _ rfl (setRow_heap _ _ _ _ _ _ u) underlying23 rfl (by kernel_rfl)) rfl ⟨rfl,g.setRowS (Nat.le_refl _) _⟩
set_option maxRecDepth 10000 in
theorem catch_gaveS (p:Addr)(x y:Int)(w:World)(hc:w.cell? p=some (.int .i64 x))(hz:w.frozen? p=false) :
  CallsD prog 168 #[.pointer (some p)] (.panicking (gave y)) w fun e u' w' =>
   e= .returned (.tuple #[])∧settle u'= .returning∧w'=(w.alloc (.cells #[.int .i64 y] 274)).setCell p (.int .i64 y):=by
 have d:=block_lt_of_cell hc
 have c:∀ o,(w.alloc o).frozen? p=false:=fun o=>by
  have b:=(Z1z w o).block p.block d
  simpa [World.frozen?,b] using hz
 have f:∀ (v:Value) (it:TypeId) (w:World),(Instr.typeAssert (.iface 274 v) it 274 true).run prog w= .ok (.tuple #[v,.bool true]) w:=fun _ _ _=>rfl
 refine callsD_of_wpS func168 rfl fun c₀ cs hu=> ?_
 apply wpS_seq
 generalize hK:Exit.thenS _ _=K
 apply wpS_region
 simp [wpOpsS,go_sem,recoverD,hu,gave,ntmps168]
 subst hK
 refine wpS_of_wp (a:= { tmps:=#[.pointer (some p),.iface 274 (.agg #[.int .i64 y]),undef,undef,.iface 274 (.agg #[.int .i64 y]),undef,undef,undef,undef,undef,undef,undef,undef,undef,undef,undef,undef],defers:= []}) ?_
 go_wp2
 exact⟨rfl,_,rfl,_,by simp [results,Tryz.results168],rfl,rfl,rfl⟩
theorem Z7y (p:Addr)(w:World) :
  CallsD prog 168 #[.pointer (some p)] .returning w fun e u' w'=>e= .returned (.tuple #[])∧u'= .returning∧w'=w:=by
 refine callsD_of_wpS func168 rfl fun c₀ cs hu=> ?_
 apply wpS_seq
 generalize hK:Exit.thenS _ _=K
 apply wpS_region
 simp [wpOpsS,go_sem,recoverD,hu,ntmps168]
 subst hK
 refine wpS_of_wp (a:= { tmps:=#[.pointer (some p),.nilIface,undef,undef,.nilIface,undef,undef,undef,undef,undef,undef,undef,undef,undef,undef,undef,undef],defers:= []}) ?_
 go_wp2
 cases c₀
 simp_all [bodyPostS,results,Tryz.results168]
theorem read_longS (s:ByteArray)(n:Nat)(hs:n<s.size)(w:World) :
  Calls prog 146 #[.string s,.int .i64 n,.func (.func 147) #[] #[]] w fun e w'=>e= .returned (.tuple #[.agg #[.int .i64 0,.int .i64 0,.int .i64 0,.int .i64 0,.string ⟨#[]⟩],.int .i64 4])∧Below w.heap.size w w':=by
 have a:∀ (fn:Fn) (first cap:Array Value) (w:World),(Instr.makeFunc fn first cap).run prog w= .ok (.func fn first cap) w:=fun _ _ _ _=>rfl
 go_enter_defers func146,ntmps146
 go_wp2
 refine leaves_cons (f:=168) (args:=#[.pointer (some ⟨w.heap.size+1,0,none⟩)]) (by simp) (by simp [go_sem]) ?_
 refine (Z7y ⟨w.heap.size+1,0,none⟩ _).mono ?_
 rintro e c b ⟨rfl,rfl,rfl⟩
 simp [Leaves,settle,results,Tryz.results146,go_sem]
 exact ((Below.refl _ _).alloc (Nat.le_refl _) _).alloc (by simp) _
theorem Z5w (tmps:Array Value)(w:World)(g:Nat)(cs:Array Value)(y:Int)(h6:tmps.getD 6 undef= .pointer (some ⟨g,0,none⟩))(h7:tmps.getD 7 undef= .pointer (some ⟨g+1,0,none⟩))
  (hg:w.heap[g]? = some (.cells cs 23 (0,0)))(hs:cs.size=5)(hc:w.cell? ⟨g+1,0,none⟩=some (.int .i64 y)) :
  (results Tryz.f146 tmps).run prog w= .ok (.tuple #[.agg cs,.int .i64 y]) w:=by
 have a:=run_loadVar_row (P:=prog) w g 23 23 cs (0,0) _ hg underlying23 rfl (by rw [hs];kernel_rfl)
 have b:(loadVar 28 ⟨g+1,0,none⟩).run prog w= .ok (.int .i64 y) w:=by simp [hc,go_sem]
 simp at h6 h7
 simp [results,Tryz.results146,h6,h7,asAddr,a,b]
theorem Z6q (s:ByteArray)(hs:s.size≤448)(y:Int)(hT:∀ (w:World) (b:Nat),Rd w b s 0→Calls prog 147 #[.pointer (some ⟨b,0,none⟩)] w fun e w'=>e= .panicked (gave y)∧Only b w w')(w:World) :
  Calls prog 146 #[.string s,.int .i64 448,.func (.func 147) #[] #[]] w fun e w'=>e= .returned (.tuple #[.agg #[.int .i64 0,.int .i64 0,.int .i64 0,.int .i64 0,.string ⟨#[]⟩],.int .i64 y])∧Below w.heap.size w w':=by
 have i:∀ (fn:Fn) (first cap:Array Value) (w:World),(Instr.makeFunc fn first cap).run prog w= .ok (.func fn first cap) w:=fun _ _ _ _=>rfl
 have t:¬ (448:Int)<s.size:=by omega
 go_enter_defers func146,ntmps146
 go_wp2_with fail
 have c:Below w.heap.size w (((w.alloc (.cells #[.int .i64 0,.int .i64 0,.int .i64 0,.int .i64 0,.string ⟨#[]⟩] 23)).alloc (.cells #[.int .i64 0] 28)).alloc (.cells #[.string s,.int .i64 0] 278)):=(((Below.refl _ _).alloc (Nat.le_refl _) _).alloc (by simp) _).alloc (by simp;omega) _
 have g:Rd (((w.alloc (.cells #[.int .i64 0,.int .i64 0,.int .i64 0,.int .i64 0,.string ⟨#[]⟩] 23)).alloc (.cells #[.int .i64 0] 28)).alloc (.cells #[.string s,.int .i64 0] 278)) (w.heap.size+1+1) s 0:=by
  have:=heap_alloc_new ((w.alloc (.cells #[.int .i64 0,.int .i64 0,.int .i64 0,.int .i64 0,.string ⟨#[]⟩] 23)).alloc (.cells #[.int .i64 0] 28)) (.cells #[.string s,.int .i64 0] 278)
  simpa [Rd] using this
 have j:(((w.alloc (.cells #[.int .i64 0,.int .i64 0,.int .i64 0,.int .i64 0,.string ⟨#[]⟩] 23)).alloc (.cells #[.int .i64 0] 28)).alloc (.cells #[.string s,.int .i64 0] 278)).heap[w.heap.size]? = some (.cells #[.int .i64 0,.int .i64 0,.int .i64 0,.int .i64 0,.string ⟨#[]⟩] 23 (0,0)) :=
  (Below.heap_alloc _ _ _ (by simp;omega)).trans (heap_alloc2_old w _ _)
 have k:(((w.alloc (.cells #[.int .i64 0,.int .i64 0,.int .i64 0,.int .i64 0,.string ⟨#[]⟩] 23)).alloc (.cells #[.int .i64 0] 28)).alloc (.cells #[.string s,.int .i64 0] 278)).heap[w.heap.size+1]? = some (.cells #[.int .i64 0] 28 (0,0)) :=
  (Below.heap_alloc _ _ _ (by simp)).trans (heap_alloc2_new w _ _)
 generalize ((w.alloc (.cells #[.int .i64 0,.int .i64 0,.int .i64 0,.int .i64 0,.string ⟨#[]⟩] 23)).alloc (.cells #[.int .i64 0] 28)).alloc (.cells #[.string s,.int .i64 0] 278)=w0 at *
 refine (hT _ _ g).mono ?_
 rintro e w1 ⟨rfl,a⟩
 have v:=g.lt
 have q:=(a.2 w.heap.size (by omega) (by omega)).trans j
 have d:=(a.2 (w.heap.size+1) (by omega) (by omega)).trans k
 have o:=lt_of_block d
 have h:Below w.heap.size w w1:=c.trans ((a.below (by omega)).mono (by omega))
 clear hT i g c a j k
 refine leaves_cons (f:=168) (args:=#[.pointer (some ⟨w.heap.size+1,0,none⟩)]) (by simp) (by simp [go_sem]) ?_
 refine (catch_gaveS ⟨w.heap.size+1,0,none⟩ 0 y w1 (by simp [World.cell?,d]) (by simp [World.frozen?,d])).mono ?_
 rintro e r u ⟨rfl,l,rfl⟩
 have n:((w1.alloc (.cells #[.int .i64 y] 274)).setCell ⟨w.heap.size+1,0,none⟩ (.int .i64 y)).heap[w.heap.size]? = some (.cells #[.int .i64 0,.int .i64 0,.int .i64 0,.int .i64 0,.string ⟨#[]⟩] 23 (0,0)) :=
  (Below.heap_setCell _ _ _ _ (by simp)).trans ((Below.heap_alloc _ _ _ (by omega)).trans q)
 have m:=heap_setCell_same (w1.alloc (.cells #[.int .i64 y] 274)) (w.heap.size+1) 0 _ _ (.int .i64 y) ((Below.heap_alloc _ _ _ (by omega)).trans d)
 show Leaves _ _ _ _ _ (settle r) _
 rw [l]
 exact⟨_,Z5w _ _ w.heap.size _ y rfl rfl n rfl (by simp [World.cell?,m]),rfl,(h.alloc (by omega) _).setCell (p:=⟨w.heap.size+1,0,none⟩) (by simp) _⟩
theorem read_returnsS (s:ByteArray)(hs:s.size≤448)(hT:∀ (w:World) (b:Nat),Rd w b s 0→Calls prog 147 #[.pointer (some ⟨b,0,none⟩)] w fun e w'=>e= .returned (.agg (Z0y s))∧Only b w w')(w:World) :
  Calls prog 146 #[.string s,.int .i64 448,.func (.func 147) #[] #[]] w fun e w'=>e= .returned (.tuple #[.agg (Z0y s),.int .i64 0])∧Below w.heap.size w w':=by
 have g:∀ (fn:Fn) (first cap:Array Value) (w:World),(Instr.makeFunc fn first cap).run prog w= .ok (.func fn first cap) w:=fun _ _ _ _=>rfl
 have u:¬ (448:Int)<s.size:=by omega
 go_enter_defers func146,ntmps146
 go_wp2_with fail
 have c:Below w.heap.size w (((w.alloc (.cells #[.int .i64 0,.int .i64 0,.int .i64 0,.int .i64 0,.string ⟨#[]⟩] 23)).alloc (.cells #[.int .i64 0] 28)).alloc (.cells #[.string s,.int .i64 0] 278)):=(((Below.refl _ _).alloc (Nat.le_refl _) _).alloc (by simp) _).alloc (by simp;omega) _
 have h:Rd (((w.alloc (.cells #[.int .i64 0,.int .i64 0,.int .i64 0,.int .i64 0,.string ⟨#[]⟩] 23)).alloc (.cells #[.int .i64 0] 28)).alloc (.cells #[.string s,.int .i64 0] 278)) (w.heap.size+1+1) s 0:=by
  have:=heap_alloc_new ((w.alloc (.cells #[.int .i64 0,.int .i64 0,.int .i64 0,.int .i64 0,.string ⟨#[]⟩] 23)).alloc (.cells #[.int .i64 0] 28)) (.cells #[.string s,.int .i64 0] 278)
  simpa [Rd] using this
 have l:(((w.alloc (.cells #[.int .i64 0,.int .i64 0,.int .i64 0,.int .i64 0,.string ⟨#[]⟩] 23)).alloc (.cells #[.int .i64 0] 28)).alloc (.cells #[.string s,.int .i64 0] 278)).heap[w.heap.size]? = some (.cells #[.int .i64 0,.int .i64 0,.int .i64 0,.int .i64 0,.string ⟨#[]⟩] 23 (0,0)) :=
  (Below.heap_alloc _ _ _ (by simp;omega)).trans (heap_alloc2_old w _ _)
 have n:(((w.alloc (.cells #[.int .i64 0,.int .i64 0,.int .i64 0,.int .i64 0,.string ⟨#[]⟩] 23)).alloc (.cells #[.int .i64 0] 28)).alloc (.cells #[.string s,.int .i64 0] 278)).heap[w.heap.size+1]? = some (.cells #[.int .i64 0] 28 (0,0)) :=
  (Below.heap_alloc _ _ _ (by simp)).trans (heap_alloc2_new w _ _)
 generalize ((w.alloc (.cells #[.int .i64 0,.int .i64 0,.int .i64 0,.int .i64 0,.string ⟨#[]⟩] 23)).alloc (.cells #[.int .i64 0] 28)).alloc (.cells #[.string s,.int .i64 0] 278)=w0 at *
 refine (hT _ _ h).mono ?_
 rintro e w1 ⟨rfl,a⟩
 have A:=h.lt
 have m:=(a.2 w.heap.size (by omega) (by omega)).trans l
 have o:=(a.2 (w.heap.size+1) (by omega) (by omega)).trans n
 have q:=lt_of_block o
 have d:Below w.heap.size w w1:=c.trans ((a.below (by omega)).mono (by omega))
 have t:=setRow_heap w1 w.heap.size _ (Z0y s) _ _ m
 have i:=(setRow_other w1 w.heap.size (w.heap.size+1) (Z0y s) (by omega)).trans o
 have v:(w1.setRow w.heap.size (Z0y s)).cell? ⟨w.heap.size+1,0,none⟩=some (.int .i64 0):=by simp [World.cell?,i]
 have z:(w1.setRow w.heap.size (Z0y s)).frozen? ⟨w.heap.size+1,0,none⟩=false:=by simp [World.frozen?,i]
 have j:Below w.heap.size w (w1.setRow w.heap.size (Z0y s)):=d.trans ⟨rfl,rfl,rfl,by simp [World.setRow],fun k hk=>setRow_other _ _ _ _ (by omega)⟩
 clear hT g h c a l n
 go_wp2_with (refine wpList_store_row rfl 23 _ _ rfl w.heap.size (Z0y s) rfl rfl 23 _ m (by kernel_rfl) rfl (Z4O s) ?_)
 refine leaves_cons (f:=168) (args:=#[.pointer (some ⟨w.heap.size+1,0,none⟩)]) (by simp) (by simp [go_sem]) ?_
 refine (Z7y ⟨w.heap.size+1,0,none⟩ _).mono ?_
 rintro e y x ⟨rfl,rfl,rfl⟩
 have r:=heap_setCell_same (w1.setRow w.heap.size (Z0y s)) (w.heap.size+1) 0 _ _ (.int .i64 0) i
 exact⟨_,Z5w _ _ w.heap.size _ 0 rfl rfl ((Below.heap_setCell _ _ _ _ (by simp)).trans t) rfl (by simp [World.cell?,r]),rfl,j.setCell (p:=⟨w.heap.size+1,0,none⟩) (by simp) _⟩
def Z0J (s:ByteArray):Int :=
 if 448<s.size then 4 else if s.size<448 then 3 else if allZ (s.extract 54 448)=true then 0 else 5
def Z13 (s:ByteArray)(a k:Nat):Int:=if Z0J s=0 then Z16 ((s.data.toList.drop a).take k) else 0
def Z4g (s:ByteArray):ByteArray:=if Z0J s=0 then s.extract 22 54 else ⟨#[]⟩
def Z2p (s:ByteArray):Array Value:=#[.int .i64 (Z13 s 0 6),.int .i64 (Z13 s 6 6),.int .i64 (Z13 s 12 6),.int .i64 (Z13 s 18 4),.string (Z4g s)]
theorem superOC_one (s:ByteArray):(Z2p s).all (·.oneCell')=true:=by simp [Z2p,Value.oneCell']
theorem Z5Y {s:ByteArray}(h:¬ Z0J s=0):Z2p s=#[.int .i64 0,.int .i64 0,.int .i64 0,.int .i64 0,.string ⟨#[]⟩]:=by simp [Z2p,Z13,Z4g,h]
theorem superOC_yes {s:ByteArray}(h:Z0J s=0):Z2p s=Z0y s:=by simp [Z2p,Z13,Z4g,Z0y,h]
theorem readSuper_any (s:ByteArray)(w:World) :
  Calls prog 146 #[.string s,.int .i64 448,.func (.func 147) #[] #[]] w fun e w'=>e= .returned (.tuple #[.agg (Z2p s),.int .i64 (Z0J s)])∧Below w.heap.size w w':=by
 by_cases c:448<s.size
 ·have a:Z0J s=4:=by simp [Z0J,c]
  rw [Z5Y (by rw [a];decide),a]
  exact read_longS s 448 c w
 by_cases f:s.size<448
 ·have a:Z0J s=3:=by simp [Z0J,c,f]
  rw [Z5Y (by rw [a];decide),a]
  exact Z6q s (by omega) 3 (fun w b h=>Z7x b s f w h) w
 by_cases d:allZ (s.extract 54 448)=true
 case neg =>
  have a:Z0J s=5:=by rw [Z0J,if_neg c,if_neg f,if_neg d]
  rw [Z5Y (by rw [a];decide),a]
  exact Z6q s (by omega) 5 (fun w b h=>by simpa only [if_neg d] using Z4P b s (by omega) w h) w
 have a:Z0J s=0:=by rw [Z0J,if_neg c,if_neg f,if_pos d]
 rw [superOC_yes a,a]
 exact read_returnsS s (by omega) (fun w b h=>by simpa only [if_pos d] using Z4P b s (by omega) w h) w
theorem Z7z (s:ByteArray)(w:World) :
  Calls prog 119 #[.string s] w fun e w'=>e= .returned (.tuple #[.agg (Z2p s),.int .i64 (Z0J s)])∧Below w.heap.size w w':=by
 have d:∀ (fn:Fn) (first cap:Array Value) (w:World),(Instr.makeFunc fn first cap).run prog w= .ok (.func fn first cap) w:=fun _ _ _ _=>rfl
 go_enter func119,ntmps119
 go_wp2_with fail
 refine (readSuper_any s _).mono ?_
 rintro e w1 ⟨rfl,a⟩
 have c:=(a.block w.heap.size (by simp)).trans (heap_alloc_new w _)
 have b:Below w.heap.size w w1:=(Z1z w _).trans (a.mono (by simp))
 clear a
 go_wp2_with (refine wpList_store_row rfl 23 _ _ rfl w.heap.size (Z2p s) rfl rfl 23 _ c (by kernel_rfl) rfl (superOC_one s) ?_)
 have f:=run_loadVar_row (P:=prog) (w1.setRow w.heap.size (Z2p s)) w.heap.size 23 23 (Z2p s) (0,0) _ (setRow_heap _ _ _ _ _ _ c) underlying23 rfl (by kernel_rfl)
 exact bodyPost_ret (v:= .tuple #[.agg (Z2p s),.int .i64 (Z0J s)]) (by simp [results,Tryz.results119,asAddr,f]) rfl ⟨rfl,b.trans ⟨rfl,rfl,rfl,by simp [World.setRow],fun k hk=>setRow_other _ _ _ _ (by omega)⟩⟩
theorem Z4Y (n:Nat)(h:n≤4096)(w:World) :
  Calls prog 34 #[.int .i64 n] w fun e w'=>e= .returned (.string (Z0S n))∧Below w.heap.size w w':=by
 obtain⟨p,d,m,j,f⟩:=info_parts info5
 go_enter func34,ntmps34
 go_wp2_with (at_make;refine wpList_make_full _ rfl _ _ 90 rfl w.heap.size 5 p (.int .u8 0) 1 underlying90 d m j .i64 .i64 _ _ n rfl rfl rfl rfl ?c1 ?c2 (Nat.le_refl _) ?_)
 case c1=>first | omega | (rw [f];omega)
 case c2=>unfold maxLen;omega
 intro o c a
 have l:=(Below.refl _ _).grown a (Nat.le_refl _) (fun k hk=>by simp at hk)
 have b:o.ownsRow w.heap.size 5 1 (.slice (some ⟨w.heap.size,0,none⟩) n n) n (List.replicate n (Value.int .u8 0)):=by
  simpa [toList_madeCells_one,Value.cells] using c
 clear c a
 have g:=run_convert_bytes_arg (P:=prog) o 90 5 underlying90 underlying5 w.heap.size 0 n n (List.replicate n 0) (by simp) (fun i d=>by
  rw [Nat.zero_add,b.cellAt i (by omega)]
  simp [d,List.getD]) 9 underlying9
 rw [show strOfNums (List.replicate n 0)=Z0S n from rfl] at g
 clear b
 go_wp2
 go_ret
 exact⟨rfl,l⟩
theorem noughts_z (z:Int)(n:Nat)(hz:z=n)(h:n≤4096)(w:World) :
  Calls prog 34 #[.int .i64 z] w fun e w'=>e= .returned (.string (Z0S n))∧Below w.heap.size w w':=by
 subst hz
 exact Z4Y n h w
theorem rput_noWidth (n k:Int)(h:k<1∨6<k)(w:World) :
  Calls prog 71 #[.int .i64 n,.int .i64 k] w fun e w'=>e= .returned (.tuple #[.string ByteArray.empty,.int .i64 1])∧w'=w:=by
 rcases h with h | h
 ·go_enter func71,ntmps71
  go_wp2
  go_ret2
  exact⟨rfl,rfl⟩
 ·have a:¬ k<1:=by omega
  go_enter func71,ntmps71
  go_wp2
  go_ret2
  exact⟨rfl,rfl⟩
theorem rput_below (n:Int)(k:Nat)(h1:1≤k)(h2:k≤6)(h:n<0)(w:World) :
  Calls prog 71 #[.int .i64 n,.int .i64 k] w fun e w'=>e= .returned (.tuple #[.string ByteArray.empty,.int .i64 2])∧w'=w:=by
 have a:¬ (k:Int)<1:=by omega
 have b:¬ (6:Int)<k:=by omega
 go_enter func71,ntmps71
 go_wp2
 go_ret2
 exact⟨rfl,rfl⟩
theorem rput_in (n:Int)(k:Nat)(h1:1≤k)(h2:k≤6)(h0:0≤n)(hm:n≤9223372036854775807)(w:World) :
  Calls prog 71 #[.int .i64 n,.int .i64 k] w fun e w'=>e= .returned (.tuple #[.string (putS n k),.int .i64 (putE n k)])∧Below w.heap.size w w':=by
 have R:¬ (k:Int)<1:=by omega
 have Q:¬ (6:Int)<k:=by omega
 have T:¬ n<0:=by omega
 obtain⟨M,o,A,F,E⟩:=info_parts info5
 go_enter func71,ntmps71
 go_wp2
 go_loopw [0,6,7] (fun x v i wr=> ∃ j:Nat,j≤k∧i= .int .i64 j∧x= .int .i64 (n/256 ^ j)∧wr.ownsRow w.heap.size 5 1 v j ((leI j n).map (Value.int .u8))∧Below w.heap.size w wr) (fun _ _ i _=>k-(intOf i).toNat)
 case atStart=>exact⟨0,Nat.zero_le _,rfl,by simp,World.ownsRow_nil _ _ _ _,Below.refl _ _⟩
 case round =>
  obtain⟨j,U,rfl,rfl,d,r⟩:=hrel
  obtain⟨q,t⟩:∃ q,q=n/256 ^ j:=⟨_,rfl⟩
  have J:0≤q:=by rw [t];exact Int.ediv_nonneg h0 (Int.le_of_lt (Int.pow_pos (by decide)))
  have L:q≤9223372036854775807:=by rw [t];exact Int.le_trans (Int.ediv_le_self _ h0) hm
  rw [← t]
  have z:Hid _:=t
  clear t
  by_cases N:j<k
  ·go_wp2_with (at_builtin;refine wpList_append_own _ rfl _ _ 90 rfl w.heap.size 5 M (.int .u8 0) 1 1 underlying90 o A F E rfl (by decide) _ _ _ rfl (d.alloc _) ⟨wr.heap.size,0,none⟩ 1 1 [.int .u8 (q%256)] rfl rfl ?c1 ?c2 ?c3 ?c4 ?c5 ?_)
   case c1=>intro i u o;match i,o with | 0,o=>simp at o;subst o;simp [Addr.add]
   case c2=>intro u H;simp at H;subst H;rfl
   case c3=>unfold maxLen;omega
   case c4=>omega
   case c5=>have:=r.size;simp;omega
   intro O S s m _
   have G:=(r.alloc r.size _).grown m (by have:=r.size;simp;omega) (fun g hg=>by
    rcases d.2 with ⟨rfl,_⟩ | ⟨g',f,cur,rfl,hg',_⟩
    ·simp [Value.ownBlock] at hg
    ·simp [Value.ownBlock] at hg;omega)
   clear d m r
   go_wp2
   go_roundw
   case rel =>
    refine⟨j+1,by omega,by go_num,?_,?_,G⟩
    ·rw [z.out,leI_step]
    ·rw [leI_succ,List.map_append,← z.out];exact s
   case measure=>simp [intOf];omega
  ·have D:j=k:=by omega
   subst D
   by_cases C:0<q
   ·have p:256 ^ j≤n:=by
     rw [z.out] at C
     rcases Int.lt_or_le n (256 ^ j) with h | h
     ·rw [Int.ediv_eq_zero_of_lt h0 h] at C;omega
     ·exact h
    have y:Hid (_∧_):=⟨Z3G (.inr p),Z3H h1 h2 (.inr p)⟩
    clear p
    go_wp2
    go_ret2
    exact⟨by rw [y.out.1,y.out.2];rfl,r⟩
   ·have l:n<256 ^ j:=by
     rw [z.out] at C
     rcases Int.lt_or_le n (256 ^ j) with h | h
     ·exact h
     ·exact absurd ((Int.le_ediv_iff_mul_le (c:=256 ^ j) (a:=1) (b:=n) (Int.pow_pos (by decide))).2 (by omega)) (by omega)
    have y:Hid (_∧_):=⟨Z74 h1 h2 h0 l,putE_ok h1 h2 h0 l⟩
    clear l
    have B:∃ g f,u6= .slice (some ⟨g,0,none⟩) j f:=by
     rcases d.2 with ⟨_,h⟩ | ⟨g,f,cur,h,_⟩
     ·omega
     ·exact⟨g,f,h⟩
    obtain⟨g,f,I⟩:=B
    rw [I] at d ⊢
    have K:=run_convert_bytes_arg (P:=prog) wr 90 5 underlying90 underlying5 g 0 j f (leI j n) (Z19 j n) (fun i o=>by
     rw [Nat.zero_add,d.cellAt i (by omega)]
     simp [Z19,o,List.getD]) 9 underlying9
    clear I
    go_wp2
    go_ret2
    exact⟨by rw [y.out.1,y.out.2];rfl,r⟩
theorem Z6S (n k:Int)(hm:n≤9223372036854775807)(w:World) :
  Calls prog 71 #[.int .i64 n,.int .i64 k] w fun e w'=>e= .returned (.tuple #[.string (putS n k),.int .i64 (putE n k)])∧Below w.heap.size w w':=by
 by_cases a:k<1∨6<k
 ·refine (rput_noWidth n k a w).mono fun e w' ⟨he,hw⟩=> ?_
  rw [Z6f a,Z6g a]
  exact⟨he,hw ▸ Below.refl _ _⟩
 ·obtain⟨m,rfl⟩:=Int.eq_ofNat_of_zero_le (show 0≤k by omega)
  have d:1≤m:=by omega
  have b:m≤6:=by omega
  by_cases c:n<0
  ·refine (rput_below n m d b c w).mono fun e w' ⟨he,hw⟩=> ?_
   rw [Z3G (.inl c),Z3H d b (.inl c)]
   exact⟨he,hw ▸ Below.refl _ _⟩
  ·exact rput_in n m d b (by omega) hm w
end Go.Proofs.YtijpgmkdnemmbaaGreatDoor
