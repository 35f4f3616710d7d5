/- Part 5. -/
import Derived.Test.YtijpgmkdnemmbaaGreatDoorMg04
import Derived.Test.YtijpgmkdnemmbaaGreatDoorMg00
import Derived.Laws.Rows
import Derived.Laws.Tables
import Derived.Defers
import Derived.Recover
import Derived.Laws.Pointers
import Derived.Maps.AppendAt
set_option maxRecDepth 20000
set_option maxHeartbeats 8000000
open Go.RowKit Go.Proofs.Tryz
namespace Go.Proofs.YtijpgmkdnemmbaaGreatDoor
def gave (e:Int):List PanicEntry:= [{ v:= .iface 274 (.agg #[.int .i64 e]),recovered:=false }]
def Rd (w:World)(b:Nat)(s:ByteArray)(at':Nat):Prop:=w.heap[b]? = some (.cells #[.string s,.int .i64 at'] 278 (0,0))
theorem Z6J {w:World}{b:Nat}{u v:Value}{t:TypeId}(h:w.heap[b]? = some (.cells #[u,v] t (0,0))):w.cell? ⟨b,0,none⟩=some u:=by simp [World.cell?,h]
theorem Z6K {w:World}{b:Nat}{u v:Value}{t:TypeId}(h:w.heap[b]? = some (.cells #[u,v] t (0,0))):w.cell? ⟨b,1,none⟩=some v:=by simp [World.cell?,h]
theorem rd_free {w:World}{b:Nat}{u v:Value}{t:TypeId}(i:Nat)(h:w.heap[b]? = some (.cells #[u,v] t (0,0))):w.frozen? ⟨b,i,none⟩=false:=by simp [World.frozen?,h]
theorem rd_set {w:World}{b:Nat}{u v x:Value}{t:TypeId}(h:w.heap[b]? = some (.cells #[u,v] t (0,0))):(w.setCell ⟨b,1,none⟩ x).heap[b]? = some (.cells #[u,x] t (0,0)):=by
 have a:=lt_of_block h
 have c:w.heap[b]= .cells #[u,v] t (0,0):=by simpa [Array.getElem?_eq_getElem a] using h
 show (w.heap.modify b _)[b]? = _
 rw [Array.getElem?_eq_getElem (by simpa using a),Array.getElem_modify_self,c]
 rfl
theorem rd_step {w:World}{b:Nat}{s:ByteArray}{a:Nat}(h:Rd w b s a)(n q:Nat)(x:Int)(hx:x=((a+n:Nat):Int)) :
  Rd ((w.drewN q).setCell ⟨b,1,none⟩ (.int .i64 x)) b s (a+n)∧Only b w ((w.drewN q).setCell ⟨b,1,none⟩ (.int .i64 x)):=by
 subst hx
 have c:=h
 exact⟨rd_set c,(below_drewN (Below.refl 0 w) q).setCell (p:=⟨b,1,none⟩) (Nat.zero_le _) _,fun k _ hb=>Below.heap_setCell (w.drewN q) ⟨b,1,none⟩ _ k hb⟩
theorem Rd.lt {w:World}{b:Nat}{s:ByteArray}{a:Nat}(h:Rd w b s a):b<w.heap.size:=lt_of_block h
theorem Rd.below {w w':World}{b:Nat}{s:ByteArray}{a:Nat}(h:Rd w b s a)(hb:Below w.heap.size w w'):Rd w' b s a:=(hb.block b h.lt).trans h
theorem must_yes (b:Nat)(w:World):Calls prog 166 #[.pointer (some ⟨b,0,none⟩),.bool true] w fun e w'=>e= .returned (.tuple #[])∧w'=w:=by
 go_enter func166,ntmps166
 go_wp2
 go_end0
 exact⟨rfl,rfl⟩
theorem must_no (b:Nat)(w:World):Calls prog 166 #[.pointer (some ⟨b,0,none⟩),.bool false] w fun e w'=>e= .panicked (gave 5)∧w'=w:=by
 go_enter func166,ntmps166
 go_wp2
 exact⟨rfl,rfl,rfl⟩
theorem Z0i (b:Nat)(s:ByteArray)(a k:Nat)(h1:1≤k)(h6:k≤6)(ha:a+k≤s.size)(hs:s.size≤4096)(w:World)(h:Rd w b s a) :
  Calls prog 165 #[.pointer (some ⟨b,0,none⟩),.int .i64 k] w fun e w'=>e= .returned (.int .i64 (Z16 ((s.data.toList.drop a).take k)))∧Rd w' b s (a+k)∧Only b w w':=by
 have d:=Z6J h
 have g:=Z6K h
 have f:=rd_free 1 h
 have i:Hid _:=h
 have c:Hid (_∧_):=⟨getN_ok h1 h6 ha,getE_ok h1 h6 ha⟩
 clear h
 go_enter func165,ntmps165
 go_wp2
 go_quiet ((go_at_call 125;exact Calls.quiet_of_same (get_any s a k (by unfold maxLen;omega) _)))
 rw [c.out.1,c.out.2]
 go_wp2
 go_ret
 exact⟨rfl,rd_step i.out k _ _ (by omega)⟩
theorem Z0I (b:Nat)(s:ByteArray)(a k:Nat)(h1:1≤k)(h6:k≤6)(ha:¬ a+k≤s.size)(hs:s.size≤4096)(w:World)(h:Rd w b s a) :
  Calls prog 165 #[.pointer (some ⟨b,0,none⟩),.int .i64 k] w fun e w'=>e= .panicked (gave 3)∧Below w.heap.size w w':=by
 have f:=Z6J h
 have d:=Z6K h
 have c:Hid (getN s a k=0∧getE s a k=3):=⟨getN_no (.inr (.inr (by omega))),getE_short (by omega) (by omega) (.inr (by omega))⟩
 clear h
 go_enter func165,ntmps165
 go_wp2
 go_quiet ((go_at_call 125;exact Calls.quiet_of_same (get_any s a k (by unfold maxLen;omega) _)))
 rw [c.out.1,c.out.2]
 go_wp2
 exact⟨rfl,rfl,below_drewN (Below.refl _ _) _⟩
theorem Z1T (b:Nat)(s:ByteArray)(a n:Nat)(ha:a+n≤s.size)(hs:s.size≤4096)(w:World)(h:Rd w b s a) :
  Calls prog 164 #[.pointer (some ⟨b,0,none⟩),.int .i64 n] w fun e w'=>e= .returned (.string (s.extract a (a+n)))∧Rd w' b s (a+n)∧Only b w w':=by
 have c:=Z6J h
 have g:=Z6K h
 have d:=rd_free 1 h
 have f:Hid _:=h
 have i:¬ (s.size:Int)-a<n:=by omega
 have k:(a:Int)+n≤s.size:=by omega
 have j:(0:Int)≤a:=by omega
 have l:(a:Int)≤(a:Int)+n:=by omega
 clear h
 go_enter func164,ntmps164
 go_wp2
 go_quiet (fail)
 go_wp2
 go_quiet (fail)
 go_wp2
 go_ret
 exact⟨rfl,rd_step f.out n _ _ (by omega)⟩
theorem Z3K (b:Nat)(s:ByteArray)(a n:Nat)(ha:¬ a+n≤s.size)(hn:n≤4096)(hs:s.size≤4096)(hp:a≤4096)(w:World)(h:Rd w b s a) :
  Calls prog 164 #[.pointer (some ⟨b,0,none⟩),.int .i64 n] w fun e w'=>e= .panicked (gave 3)∧Below w.heap.size w w':=by
 have d:=Z6J h
 have c:=Z6K h
 have f:(s.size:Int)-a<n:=by omega
 clear h
 go_enter func164,ntmps164
 go_wp2
 go_quiet (fail)
 go_wp2
 exact⟨rfl,rfl,below_drewN (Below.refl _ _) _⟩
theorem Only.setRow {b g:Nat}{w w':World}(h:Only b w w')(hg:w.heap.size≤g)(cs:Array Value):Only b w (w'.setRow g cs) :=
 ⟨h.1.trans ⟨rfl,rfl,rfl,by simp [World.setRow],fun k hk=>absurd hk (Nat.not_lt_zero _)⟩,fun k hk hb=>(setRow_other _ _ _ _ (by omega)).trans (h.2 k hk hb)⟩
theorem Z1b (w:World)(o1:Obj):Below w.heap.size w (w.alloc o1):=(Below.refl _ _).alloc (Nat.le_refl _) _
def Z0Q (s:ByteArray):Array Value:=#[.int .i64 (Z16 ((s.data.toList.drop 4).take 6)),.int .i64 (Z16 ((s.data.toList.drop 10).take 4)),.int .i64 (Z16 ((s.data.toList.drop 14).take 2)),.int .i64 (Z16 ((s.data.toList.drop 16).take 4)),.int .i64 (Z16 ((s.data.toList.drop 20).take 4)),.int .i64 (Z16 ((s.data.toList.drop 24).take 4)),.int .i64 (Z16 ((s.data.toList.drop 28).take 6)),.int .i64 (Z16 ((s.data.toList.drop 34).take 6))]
theorem Z5b (s:ByteArray):(Z0Q s).all (·.oneCell')=true:=by simp [Z0Q,Value.oneCell']
theorem takeHead_short (b:Nat)(s:ByteArray)(hs:s.size<48)(w:World)(h:Rd w b s 0) :
  Calls prog 145 #[.pointer (some ⟨b,0,none⟩)] w fun e w'=>e= .panicked (gave 3)∧Only b w w':=by
 have K:=h.lt
 have i:=h.below (Z1b w (.cells #[.int .i64 0,.int .i64 0,.int .i64 0,.int .i64 0,.int .i64 0,.int .i64 0,.int .i64 0,.int .i64 0] 51))
 have g:Only b w (w.alloc (.cells #[.int .i64 0,.int .i64 0,.int .i64 0,.int .i64 0,.int .i64 0,.int .i64 0,.int .i64 0,.int .i64 0] 51)):=Only.of_below (Z1b w _)
 clear h
 go_enter func145,ntmps145
 go_wp2_with fail
 generalize w.alloc (.cells #[.int .i64 0,.int .i64 0,.int .i64 0,.int .i64 0,.int .i64 0,.int .i64 0,.int .i64 0,.int .i64 0] 51)=w0 at *
 by_cases G:0+4≤s.size
 case neg =>
  refine (Z3K b s 0 4 G (by decide) (by omega) (by decide) _ i).mono ?_
  rintro e w' ⟨rfl,c⟩
  exact⟨rfl,rfl,g.trans (Only.of_below c)⟩
 refine (Z1T b s 0 4 G (by omega) _ i).mono ?_
 rintro e O ⟨rfl,t,a⟩
 have p:=g.trans a
 clear i g a
 go_wp2_with fail
 by_cases J:4+6≤s.size
 case neg =>
  refine (Z0I b s 4 6 (by decide) (by decide) J (by omega) _ t).mono ?_
  rintro e w' ⟨rfl,c⟩
  exact⟨rfl,rfl,p.trans (Only.of_below c)⟩
 refine (Z0i b s 4 6 (by decide) (by decide) J (by omega) _ t).mono ?_
 rintro e S ⟨rfl,v,a⟩
 have x:=p.trans a
 clear t p a
 go_wp2_with fail
 by_cases F:10+4≤s.size
 case neg =>
  refine (Z0I b s 10 4 (by decide) (by decide) F (by omega) _ v).mono ?_
  rintro e w' ⟨rfl,c⟩
  exact⟨rfl,rfl,x.trans (Only.of_below c)⟩
 refine (Z0i b s 10 4 (by decide) (by decide) F (by omega) _ v).mono ?_
 rintro e T ⟨rfl,l,a⟩
 have q:=x.trans a
 clear v x a
 go_wp2_with fail
 by_cases B:14+2≤s.size
 case neg =>
  refine (Z0I b s 14 2 (by decide) (by decide) B (by omega) _ l).mono ?_
  rintro e w' ⟨rfl,c⟩
  exact⟨rfl,rfl,q.trans (Only.of_below c)⟩
 refine (Z0i b s 14 2 (by decide) (by decide) B (by omega) _ l).mono ?_
 rintro e R ⟨rfl,y,a⟩
 have f:=q.trans a
 clear l q a
 go_wp2_with fail
 by_cases H:16+4≤s.size
 case neg =>
  refine (Z0I b s 16 4 (by decide) (by decide) H (by omega) _ y).mono ?_
  rintro e w' ⟨rfl,c⟩
  exact⟨rfl,rfl,f.trans (Only.of_below c)⟩
 refine (Z0i b s 16 4 (by decide) (by decide) H (by omega) _ y).mono ?_
 rintro e N ⟨rfl,j,a⟩
 have o:=f.trans a
 clear y f a
 go_wp2_with fail
 by_cases C:20+4≤s.size
 case neg =>
  refine (Z0I b s 20 4 (by decide) (by decide) C (by omega) _ j).mono ?_
  rintro e w' ⟨rfl,c⟩
  exact⟨rfl,rfl,o.trans (Only.of_below c)⟩
 refine (Z0i b s 20 4 (by decide) (by decide) C (by omega) _ j).mono ?_
 rintro e P ⟨rfl,k,a⟩
 have r:=o.trans a
 clear j o a
 go_wp2_with fail
 by_cases D:24+4≤s.size
 case neg =>
  refine (Z0I b s 24 4 (by decide) (by decide) D (by omega) _ k).mono ?_
  rintro e w' ⟨rfl,c⟩
  exact⟨rfl,rfl,r.trans (Only.of_below c)⟩
 refine (Z0i b s 24 4 (by decide) (by decide) D (by omega) _ k).mono ?_
 rintro e U ⟨rfl,n,a⟩
 have m:=r.trans a
 clear k r a
 go_wp2_with fail
 by_cases E:28+6≤s.size
 case neg =>
  refine (Z0I b s 28 6 (by decide) (by decide) E (by omega) _ n).mono ?_
  rintro e w' ⟨rfl,c⟩
  exact⟨rfl,rfl,m.trans (Only.of_below c)⟩
 refine (Z0i b s 28 6 (by decide) (by decide) E (by omega) _ n).mono ?_
 rintro e Q ⟨rfl,u,a⟩
 have d:=m.trans a
 clear n m a
 go_wp2_with fail
 by_cases I:34+6≤s.size
 case neg =>
  refine (Z0I b s 34 6 (by decide) (by decide) I (by omega) _ u).mono ?_
  rintro e w' ⟨rfl,c⟩
  exact⟨rfl,rfl,d.trans (Only.of_below c)⟩
 refine (Z0i b s 34 6 (by decide) (by decide) I (by omega) _ u).mono ?_
 rintro e M ⟨rfl,z,a⟩
 have A:=d.trans a
 clear u d a
 go_wp2_with fail
 by_cases L:40+8≤s.size
 case neg =>
  refine (Z3K b s 40 8 L (by decide) (by omega) (by decide) _ (z.below (Z1b _ _))).mono ?_
  rintro e w' ⟨rfl,c⟩
  exact⟨rfl,rfl,(A.trans (Only.of_below (Z1b _ _))).trans (Only.of_below c)⟩
 omega
theorem Z3L (b:Nat)(s:ByteArray)(hs:s.size=48)(w:World)(h:Rd w b s 0) :
  Calls prog 145 #[.pointer (some ⟨b,0,none⟩)] w fun e w'=>e=(if (s.extract 0 4).toList == [71,82,80,78] then if allZ (s.extract 40 48)=true then .returned (.agg (Z0Q s)) else .panicked (gave 5) else .panicked (gave 5))∧Only b w w':=by
 have a0:=h.lt
 have C:=h.below (Z1b w (.cells #[.int .i64 0,.int .i64 0,.int .i64 0,.int .i64 0,.int .i64 0,.int .i64 0,.int .i64 0,.int .i64 0] 51))
 have B:Only b w (w.alloc (.cells #[.int .i64 0,.int .i64 0,.int .i64 0,.int .i64 0,.int .i64 0,.int .i64 0,.int .i64 0,.int .i64 0] 51)):=Only.of_below (Z1b w _)
 have r:w.heap.size<(w.alloc (.cells #[.int .i64 0,.int .i64 0,.int .i64 0,.int .i64 0,.int .i64 0,.int .i64 0,.int .i64 0,.int .i64 0] 51)).heap.size:=by simp
 have z:(w.alloc (.cells #[.int .i64 0,.int .i64 0,.int .i64 0,.int .i64 0,.int .i64 0,.int .i64 0,.int .i64 0,.int .i64 0] 51)).heap[w.heap.size]? = some (.cells #[.int .i64 0,.int .i64 0,.int .i64 0,.int .i64 0,.int .i64 0,.int .i64 0,.int .i64 0,.int .i64 0] 51 (0,0)):=heap_alloc_new w _
 clear h
 go_enter func145,ntmps145
 go_wp2_with fail
 generalize w.alloc (.cells #[.int .i64 0,.int .i64 0,.int .i64 0,.int .i64 0,.int .i64 0,.int .i64 0,.int .i64 0,.int .i64 0] 51)=w0 at *
 refine (Z1T b s 0 4 (by omega) (by omega) _ C).mono ?_
 rintro e w1 ⟨rfl,N,a⟩
 have K:=B.trans a
 have u:=(a.2 w.heap.size r (by omega)).trans z
 have t:=Nat.lt_of_lt_of_le r a.size
 clear C B a z r
 go_wp2_with fail
 refine (Z0i b s 4 6 (by decide) (by decide) (by omega) (by omega) _ N).mono ?_
 rintro e w2 ⟨rfl,R,a⟩
 have O:=K.trans a
 have g2:=(a.2 w.heap.size t (by omega)).trans u
 have n:=Nat.lt_of_lt_of_le t a.size
 clear N K a u t
 go_wp2_with fail
 refine (Z0i b s 10 4 (by decide) (by decide) (by omega) (by omega) _ R).mono ?_
 rintro e w3 ⟨rfl,G,a⟩
 have L:=O.trans a
 have Z:=(a.2 w.heap.size n (by omega)).trans g2
 have j:=Nat.lt_of_lt_of_le n a.size
 clear R O a g2 n
 go_wp2_with fail
 refine (Z0i b s 14 2 (by decide) (by decide) (by omega) (by omega) _ G).mono ?_
 rintro e w4 ⟨rfl,S,a⟩
 have y:=L.trans a
 have g4:=(a.2 w.heap.size j (by omega)).trans Z
 have l:=Nat.lt_of_lt_of_le j a.size
 clear G L a Z j
 go_wp2_with fail
 refine (Z0i b s 16 4 (by decide) (by decide) (by omega) (by omega) _ S).mono ?_
 rintro e w5 ⟨rfl,E,a⟩
 have J:=y.trans a
 have V:=(a.2 w.heap.size l (by omega)).trans g4
 have i:=Nat.lt_of_lt_of_le l a.size
 clear S y a g4 l
 go_wp2_with fail
 refine (Z0i b s 20 4 (by decide) (by decide) (by omega) (by omega) _ E).mono ?_
 rintro e w6 ⟨rfl,F,a⟩
 have M:=J.trans a
 have W:=(a.2 w.heap.size i (by omega)).trans V
 have o:=Nat.lt_of_lt_of_le i a.size
 clear E J a V i
 go_wp2_with fail
 refine (Z0i b s 24 4 (by decide) (by decide) (by omega) (by omega) _ F).mono ?_
 rintro e w7 ⟨rfl,I,a⟩
 have H:=M.trans a
 have Y:=(a.2 w.heap.size o (by omega)).trans W
 have p:=Nat.lt_of_lt_of_le o a.size
 clear F M a W o
 go_wp2_with fail
 refine (Z0i b s 28 6 (by decide) (by decide) (by omega) (by omega) _ I).mono ?_
 rintro e w8 ⟨rfl,P,a⟩
 have x:=H.trans a
 have X:=(a.2 w.heap.size p (by omega)).trans Y
 have g:=Nat.lt_of_lt_of_le p a.size
 clear I H a Y p
 go_wp2_with fail
 refine (Z0i b s 34 6 (by decide) (by decide) (by omega) (by omega) _ P).mono ?_
 rintro e A ⟨rfl,k,a⟩
 have D:=x.trans a
 have g9:=(a.2 w.heap.size g (by omega)).trans X
 have a1:=Nat.lt_of_lt_of_le g a.size
 clear P x a X g
 go_wp2_with fail
 refine (Z1T b s 40 8 (by omega) (by omega) _ (k.below (Z1b _ _))).mono ?_
 rintro e a3 ⟨rfl,Q,a⟩
 have c:=(D.trans (Only.of_below (Z1b _ _))).trans a
 have m:=(a.2 w.heap.size (by simp;omega) (by omega)).trans (show _=some (Obj.cells #[.int .i64 0,.int .i64 0,.int .i64 0,.int .i64 0,.int .i64 0,.int .i64 0,.int .i64 0,.int .i64 0] 51 (0,0)) from by rw [Below.heap_alloc _ _ _ (by omega)];exact g9)
 have q:=(a.2 A.heap.size (by simp) (by have:=k.lt;omega)).trans (heap_alloc_new A _)
 clear k D a g9
 go_wp2_with fail
 by_cases T:((s.extract 0 4).toList == [71,82,80,78])=true
 case neg =>
  rw [Bool.eq_false_iff.2 T]
  refine (must_no b _).mono ?_
  rintro e w' ⟨rfl,rfl⟩
  exact⟨rfl,by rw [if_neg T],c⟩
 rw [T]
 refine (must_yes b _).mono ?_
 rintro e w' ⟨rfl,rfl⟩
 go_wp2_with fail
 refine (isZero_any (s.extract 40 48) (by unfold maxLen;simp;omega) _).mono ?_
 rintro e a2 ⟨rfl,d⟩
 have f:=c.trans (Only.of_below d)
 have z:=(d.block w.heap.size (lt_of_block m)).trans m
 have u:=(d.block A.heap.size (lt_of_block q)).trans q
 clear Q c d m q
 go_wp2_with fail
 by_cases U:allZ (s.extract 40 48)=true
 case neg =>
  rw [Bool.eq_false_iff.2 U]
  refine (must_no b _).mono ?_
  rintro e w' ⟨rfl,rfl⟩
  exact⟨rfl,by rw [if_pos T,if_neg U],f⟩
 rw [U]
 refine (must_yes b _).mono ?_
 rintro e w' ⟨rfl,rfl⟩
 have u:w'.heap[A.heap.size]? = some (Obj.cells (Z0Q s) 51 (0,0)):=u
 go_wp2_with (first | refine wpList_load_row rfl 51 _ rfl A.heap.size rfl 51 _ (0,0) _ u underlying51 rfl (by kernel_rfl) ?_ | refine wpList_store_row rfl 51 _ _ rfl w.heap.size (Z0Q s) rfl rfl 51 _ z (by kernel_rfl) rfl (Z5b s) ?_)
 refine bodyPost_ret (v:= .agg (Z0Q s)) (results_cell_row Tryz.results145 _ _ w.heap.size 51 _ (0,0) _ rfl (setRow_heap _ _ _ _ _ _ z) underlying51 rfl (by kernel_rfl)) rfl ⟨rfl,f.setRow (Nat.le_refl _) _⟩
set_option maxRecDepth 10000 in
theorem catch_gave (p:Addr)(x y:Int)(w:World)(hc:w.cell? p=some (.int .i64 x))(hz:w.frozen? p=false) :
  CallsD prog 163 #[.pointer (some p)] (.panicking (gave y)) w fun e u' w' =>
   e= .returned (.tuple #[])∧settle u'= .returning∧w'=(w.alloc (.cells #[.int .i64 y] 274)).setCell p (.int .i64 y):=by
 have d:=block_lt_of_cell hc
 have c:∀ o,(w.alloc o).frozen? p=false:=fun o=>by
  have b:=(Z1b w o).block p.block d
  simpa [World.frozen?,b] using hz
 have f:∀ (v:Value) (it:TypeId) (w:World),(Instr.typeAssert (.iface 274 v) it 274 true).run prog w= .ok (.tuple #[v,.bool true]) w:=fun _ _ _=>rfl
 refine callsD_of_wpS func163 rfl fun c₀ cs hu=> ?_
 apply wpS_seq
 generalize hK:Exit.thenS _ _=K
 apply wpS_region
 simp [wpOpsS,go_sem,recoverD,hu,gave,ntmps163]
 subst hK
 refine wpS_of_wp (a:= { tmps:=#[.pointer (some p),.iface 274 (.agg #[.int .i64 y]),undef,undef,.iface 274 (.agg #[.int .i64 y]),undef,undef,undef,undef,undef,undef,undef,undef,undef,undef,undef,undef],defers:= []}) ?_
 go_wp2
 exact⟨rfl,_,rfl,_,by simp [results,Tryz.results163],rfl,rfl,rfl⟩
theorem catch_idle (p:Addr)(w:World) :
  CallsD prog 163 #[.pointer (some p)] .returning w fun e u' w'=>e= .returned (.tuple #[])∧u'= .returning∧w'=w:=by
 refine callsD_of_wpS func163 rfl fun c₀ cs hu=> ?_
 apply wpS_seq
 generalize hK:Exit.thenS _ _=K
 apply wpS_region
 simp [wpOpsS,go_sem,recoverD,hu,ntmps163]
 subst hK
 refine wpS_of_wp (a:= { tmps:=#[.pointer (some p),.nilIface,undef,undef,.nilIface,undef,undef,undef,undef,undef,undef,undef,undef,undef,undef,undef,undef],defers:= []}) ?_
 go_wp2
 cases c₀
 simp_all [bodyPostS,results,Tryz.results163]
theorem read_long (s:ByteArray)(n:Nat)(hs:n<s.size)(w:World) :
  Calls prog 144 #[.string s,.int .i64 n,.func (.func 145) #[] #[]] w fun e w'=>e= .returned (.tuple #[.agg #[.int .i64 0,.int .i64 0,.int .i64 0,.int .i64 0,.int .i64 0,.int .i64 0,.int .i64 0,.int .i64 0],.int .i64 4])∧Below w.heap.size w w':=by
 have a:∀ (fn:Fn) (first cap:Array Value) (w:World),(Instr.makeFunc fn first cap).run prog w= .ok (.func fn first cap) w:=fun _ _ _ _=>rfl
 go_enter_defers func144,ntmps144
 go_wp2
 refine leaves_cons (f:=163) (args:=#[.pointer (some ⟨w.heap.size+1,0,none⟩)]) (by simp) (by simp [go_sem]) ?_
 refine (catch_idle ⟨w.heap.size+1,0,none⟩ _).mono ?_
 rintro e c b ⟨rfl,rfl,rfl⟩
 simp [Leaves,settle,results,Tryz.results144,go_sem]
 exact ((Below.refl _ _).alloc (Nat.le_refl _) _).alloc (by simp) _
theorem Z6h (tmps:Array Value)(w:World)(g:Nat)(cs:Array Value)(y:Int)(h6:tmps.getD 6 undef= .pointer (some ⟨g,0,none⟩))(h7:tmps.getD 7 undef= .pointer (some ⟨g+1,0,none⟩))
  (hg:w.heap[g]? = some (.cells cs 51 (0,0)))(hs:cs.size=8)(hc:w.cell? ⟨g+1,0,none⟩=some (.int .i64 y)) :
  (results Tryz.f144 tmps).run prog w= .ok (.tuple #[.agg cs,.int .i64 y]) w:=by
 have a:=run_loadVar_row (P:=prog) w g 51 51 cs (0,0) _ hg underlying51 rfl (by rw [hs];kernel_rfl)
 have b:(loadVar 28 ⟨g+1,0,none⟩).run prog w= .ok (.int .i64 y) w:=by simp [hc,go_sem]
 simp at h6 h7
 simp [results,Tryz.results144,h6,h7,asAddr,a,b]
theorem Z4T (s:ByteArray)(hs:s.size≤48)(y:Int)(hT:∀ (w:World) (b:Nat),Rd w b s 0→Calls prog 145 #[.pointer (some ⟨b,0,none⟩)] w fun e w'=>e= .panicked (gave y)∧Only b w w')(w:World) :
  Calls prog 144 #[.string s,.int .i64 48,.func (.func 145) #[] #[]] w fun e w'=>e= .returned (.tuple #[.agg #[.int .i64 0,.int .i64 0,.int .i64 0,.int .i64 0,.int .i64 0,.int .i64 0,.int .i64 0,.int .i64 0],.int .i64 y])∧Below w.heap.size w w':=by
 have i:∀ (fn:Fn) (first cap:Array Value) (w:World),(Instr.makeFunc fn first cap).run prog w= .ok (.func fn first cap) w:=fun _ _ _ _=>rfl
 have t:¬ (48:Int)<s.size:=by omega
 go_enter_defers func144,ntmps144
 go_wp2_with fail
 have c:Below w.heap.size w (((w.alloc (.cells #[.int .i64 0,.int .i64 0,.int .i64 0,.int .i64 0,.int .i64 0,.int .i64 0,.int .i64 0,.int .i64 0] 51)).alloc (.cells #[.int .i64 0] 28)).alloc (.cells #[.string s,.int .i64 0] 278)):=(((Below.refl _ _).alloc (Nat.le_refl _) _).alloc (by simp) _).alloc (by simp;omega) _
 have g:Rd (((w.alloc (.cells #[.int .i64 0,.int .i64 0,.int .i64 0,.int .i64 0,.int .i64 0,.int .i64 0,.int .i64 0,.int .i64 0] 51)).alloc (.cells #[.int .i64 0] 28)).alloc (.cells #[.string s,.int .i64 0] 278)) (w.heap.size+1+1) s 0:=by
  have:=heap_alloc_new ((w.alloc (.cells #[.int .i64 0,.int .i64 0,.int .i64 0,.int .i64 0,.int .i64 0,.int .i64 0,.int .i64 0,.int .i64 0] 51)).alloc (.cells #[.int .i64 0] 28)) (.cells #[.string s,.int .i64 0] 278)
  simpa [Rd] using this
 have j:(((w.alloc (.cells #[.int .i64 0,.int .i64 0,.int .i64 0,.int .i64 0,.int .i64 0,.int .i64 0,.int .i64 0,.int .i64 0] 51)).alloc (.cells #[.int .i64 0] 28)).alloc (.cells #[.string s,.int .i64 0] 278)).heap[w.heap.size]? = some (.cells #[.int .i64 0,.int .i64 0,.int .i64 0,.int .i64 0,.int .i64 0,.int .i64 0,.int .i64 0,.int .i64 0] 51 (0,0)) :=
  (Below.heap_alloc _ _ _ (by simp;omega)).trans (heap_alloc2_old w _ _)
 have k:(((w.alloc (.cells #[.int .i64 0,.int .i64 0,.int .i64 0,.int .i64 0,.int .i64 0,.int .i64 0,.int .i64 0,.int .i64 0] 51)).alloc (.cells #[.int .i64 0] 28)).alloc (.cells #[.string s,.int .i64 0] 278)).heap[w.heap.size+1]? = some (.cells #[.int .i64 0] 28 (0,0)) :=
  (Below.heap_alloc _ _ _ (by simp)).trans (heap_alloc2_new w _ _)
 generalize ((w.alloc (.cells #[.int .i64 0,.int .i64 0,.int .i64 0,.int .i64 0,.int .i64 0,.int .i64 0,.int .i64 0,.int .i64 0] 51)).alloc (.cells #[.int .i64 0] 28)).alloc (.cells #[.string s,.int .i64 0] 278)=w0 at *
 refine (hT _ _ g).mono ?_
 rintro e w1 ⟨rfl,a⟩
 have v:=g.lt
 have q:=(a.2 w.heap.size (by omega) (by omega)).trans j
 have d:=(a.2 (w.heap.size+1) (by omega) (by omega)).trans k
 have o:=lt_of_block d
 have h:Below w.heap.size w w1:=c.trans ((a.below (by omega)).mono (by omega))
 clear hT i g c a j k
 refine leaves_cons (f:=163) (args:=#[.pointer (some ⟨w.heap.size+1,0,none⟩)]) (by simp) (by simp [go_sem]) ?_
 refine (catch_gave ⟨w.heap.size+1,0,none⟩ 0 y w1 (by simp [World.cell?,d]) (by simp [World.frozen?,d])).mono ?_
 rintro e r u ⟨rfl,l,rfl⟩
 have n:((w1.alloc (.cells #[.int .i64 y] 274)).setCell ⟨w.heap.size+1,0,none⟩ (.int .i64 y)).heap[w.heap.size]? = some (.cells #[.int .i64 0,.int .i64 0,.int .i64 0,.int .i64 0,.int .i64 0,.int .i64 0,.int .i64 0,.int .i64 0] 51 (0,0)) :=
  (Below.heap_setCell _ _ _ _ (by simp)).trans ((Below.heap_alloc _ _ _ (by omega)).trans q)
 have m:=heap_setCell_same (w1.alloc (.cells #[.int .i64 y] 274)) (w.heap.size+1) 0 _ _ (.int .i64 y) ((Below.heap_alloc _ _ _ (by omega)).trans d)
 show Leaves _ _ _ _ _ (settle r) _
 rw [l]
 exact⟨_,Z6h _ _ w.heap.size _ y rfl rfl n rfl (by simp [World.cell?,m]),rfl,(h.alloc (by omega) _).setCell (p:=⟨w.heap.size+1,0,none⟩) (by simp) _⟩
theorem read_returns (s:ByteArray)(hs:s.size≤48)(hT:∀ (w:World) (b:Nat),Rd w b s 0→Calls prog 145 #[.pointer (some ⟨b,0,none⟩)] w fun e w'=>e= .returned (.agg (Z0Q s))∧Only b w w')(w:World) :
  Calls prog 144 #[.string s,.int .i64 48,.func (.func 145) #[] #[]] w fun e w'=>e= .returned (.tuple #[.agg (Z0Q s),.int .i64 0])∧Below w.heap.size w w':=by
 have g:∀ (fn:Fn) (first cap:Array Value) (w:World),(Instr.makeFunc fn first cap).run prog w= .ok (.func fn first cap) w:=fun _ _ _ _=>rfl
 have u:¬ (48:Int)<s.size:=by omega
 go_enter_defers func144,ntmps144
 go_wp2_with fail
 have c:Below w.heap.size w (((w.alloc (.cells #[.int .i64 0,.int .i64 0,.int .i64 0,.int .i64 0,.int .i64 0,.int .i64 0,.int .i64 0,.int .i64 0] 51)).alloc (.cells #[.int .i64 0] 28)).alloc (.cells #[.string s,.int .i64 0] 278)):=(((Below.refl _ _).alloc (Nat.le_refl _) _).alloc (by simp) _).alloc (by simp;omega) _
 have h:Rd (((w.alloc (.cells #[.int .i64 0,.int .i64 0,.int .i64 0,.int .i64 0,.int .i64 0,.int .i64 0,.int .i64 0,.int .i64 0] 51)).alloc (.cells #[.int .i64 0] 28)).alloc (.cells #[.string s,.int .i64 0] 278)) (w.heap.size+1+1) s 0:=by
  have:=heap_alloc_new ((w.alloc (.cells #[.int .i64 0,.int .i64 0,.int .i64 0,.int .i64 0,.int .i64 0,.int .i64 0,.int .i64 0,.int .i64 0] 51)).alloc (.cells #[.int .i64 0] 28)) (.cells #[.string s,.int .i64 0] 278)
  simpa [Rd] using this
 have l:(((w.alloc (.cells #[.int .i64 0,.int .i64 0,.int .i64 0,.int .i64 0,.int .i64 0,.int .i64 0,.int .i64 0,.int .i64 0] 51)).alloc (.cells #[.int .i64 0] 28)).alloc (.cells #[.string s,.int .i64 0] 278)).heap[w.heap.size]? = some (.cells #[.int .i64 0,.int .i64 0,.int .i64 0,.int .i64 0,.int .i64 0,.int .i64 0,.int .i64 0,.int .i64 0] 51 (0,0)) :=
  (Below.heap_alloc _ _ _ (by simp;omega)).trans (heap_alloc2_old w _ _)
 have n:(((w.alloc (.cells #[.int .i64 0,.int .i64 0,.int .i64 0,.int .i64 0,.int .i64 0,.int .i64 0,.int .i64 0,.int .i64 0] 51)).alloc (.cells #[.int .i64 0] 28)).alloc (.cells #[.string s,.int .i64 0] 278)).heap[w.heap.size+1]? = some (.cells #[.int .i64 0] 28 (0,0)) :=
  (Below.heap_alloc _ _ _ (by simp)).trans (heap_alloc2_new w _ _)
 generalize ((w.alloc (.cells #[.int .i64 0,.int .i64 0,.int .i64 0,.int .i64 0,.int .i64 0,.int .i64 0,.int .i64 0,.int .i64 0] 51)).alloc (.cells #[.int .i64 0] 28)).alloc (.cells #[.string s,.int .i64 0] 278)=w0 at *
 refine (hT _ _ h).mono ?_
 rintro e w1 ⟨rfl,a⟩
 have A:=h.lt
 have m:=(a.2 w.heap.size (by omega) (by omega)).trans l
 have o:=(a.2 (w.heap.size+1) (by omega) (by omega)).trans n
 have q:=lt_of_block o
 have d:Below w.heap.size w w1:=c.trans ((a.below (by omega)).mono (by omega))
 have t:=setRow_heap w1 w.heap.size _ (Z0Q s) _ _ m
 have i:=(setRow_other w1 w.heap.size (w.heap.size+1) (Z0Q s) (by omega)).trans o
 have v:(w1.setRow w.heap.size (Z0Q s)).cell? ⟨w.heap.size+1,0,none⟩=some (.int .i64 0):=by simp [World.cell?,i]
 have z:(w1.setRow w.heap.size (Z0Q s)).frozen? ⟨w.heap.size+1,0,none⟩=false:=by simp [World.frozen?,i]
 have j:Below w.heap.size w (w1.setRow w.heap.size (Z0Q s)):=d.trans ⟨rfl,rfl,rfl,by simp [World.setRow],fun k hk=>setRow_other _ _ _ _ (by omega)⟩
 clear hT g h c a l n
 go_wp2_with (refine wpList_store_row rfl 51 _ _ rfl w.heap.size (Z0Q s) rfl rfl 51 _ m (by kernel_rfl) rfl (Z5b s) ?_)
 refine leaves_cons (f:=163) (args:=#[.pointer (some ⟨w.heap.size+1,0,none⟩)]) (by simp) (by simp [go_sem]) ?_
 refine (catch_idle ⟨w.heap.size+1,0,none⟩ _).mono ?_
 rintro e y x ⟨rfl,rfl,rfl⟩
 have r:=heap_setCell_same (w1.setRow w.heap.size (Z0Q s)) (w.heap.size+1) 0 _ _ (.int .i64 0) i
 exact⟨_,Z6h _ _ w.heap.size _ 0 rfl rfl ((Below.heap_setCell _ _ _ _ (by simp)).trans t) rfl (by simp [World.cell?,r]),rfl,j.setCell (p:=⟨w.heap.size+1,0,none⟩) (by simp) _⟩
def Z1s (s:ByteArray):Int :=
 if 48<s.size then 4 else if s.size<48 then 3 else if ((s.extract 0 4).toList == [71,82,80,78])=true then if allZ (s.extract 40 48)=true then 0 else 5 else 5
def Z1g (s:ByteArray)(a k:Nat):Int:=if Z1s s=0 then Z16 ((s.data.toList.drop a).take k) else 0
def Z6A (s:ByteArray):Array Value:=#[.int .i64 (Z1g s 4 6),.int .i64 (Z1g s 10 4),.int .i64 (Z1g s 14 2),.int .i64 (Z1g s 16 4),.int .i64 (Z1g s 20 4),.int .i64 (Z1g s 24 4),.int .i64 (Z1g s 28 6),.int .i64 (Z1g s 34 6)]
theorem headC_one (s:ByteArray):(Z6A s).all (·.oneCell')=true:=by simp [Z6A,Value.oneCell']
theorem Z6L {s:ByteArray}(h:¬ Z1s s=0):Z6A s=#[.int .i64 0,.int .i64 0,.int .i64 0,.int .i64 0,.int .i64 0,.int .i64 0,.int .i64 0,.int .i64 0]:=by simp [Z6A,Z1g,h]
theorem headC_yes {s:ByteArray}(h:Z1s s=0):Z6A s=Z0Q s:=by simp [Z6A,Z1g,Z0Q,h]
theorem readHead_any (s:ByteArray)(w:World) :
  Calls prog 144 #[.string s,.int .i64 48,.func (.func 145) #[] #[]] w fun e w'=>e= .returned (.tuple #[.agg (Z6A s),.int .i64 (Z1s s)])∧Below w.heap.size w w':=by
 by_cases d:48<s.size
 ·have a:Z1s s=4:=by simp [Z1s,d]
  rw [Z6L (by rw [a];decide),a]
  exact read_long s 48 d w
 by_cases f:s.size<48
 ·have a:Z1s s=3:=by simp [Z1s,d,f]
  rw [Z6L (by rw [a];decide),a]
  exact Z4T s (by omega) 3 (fun w b h=>takeHead_short b s f w h) w
 by_cases c:((s.extract 0 4).toList == [71,82,80,78])=true
 case neg =>
  have a:Z1s s=5:=by rw [Z1s,if_neg d,if_neg f,if_neg c]
  rw [Z6L (by rw [a];decide),a]
  exact Z4T s (by omega) 5 (fun w b h=>by simpa only [if_neg c] using Z3L b s (by omega) w h) w
 by_cases g:allZ (s.extract 40 48)=true
 case neg =>
  have a:Z1s s=5:=by rw [Z1s,if_neg d,if_neg f,if_pos c,if_neg g]
  rw [Z6L (by rw [a];decide),a]
  exact Z4T s (by omega) 5 (fun w b h=>by simpa only [if_pos c,if_neg g] using Z3L b s (by omega) w h) w
 have a:Z1s s=0:=by rw [Z1s,if_neg d,if_neg f,if_pos c,if_pos g]
 rw [headC_yes a,a]
 exact read_returns s (by omega) (fun w b h=>by simpa only [if_pos c,if_pos g] using Z3L b s (by omega) w h) w
theorem headOf_any (s:ByteArray)(w:World) :
  Calls prog 118 #[.string s] w fun e w'=>e= .returned (.tuple #[.agg (Z6A s),.int .i64 (Z1s s)])∧Below w.heap.size w w':=by
 have d:∀ (fn:Fn) (first cap:Array Value) (w:World),(Instr.makeFunc fn first cap).run prog w= .ok (.func fn first cap) w:=fun _ _ _ _=>rfl
 go_enter func118,ntmps118
 go_wp2_with fail
 refine (readHead_any s _).mono ?_
 rintro e w1 ⟨rfl,a⟩
 have c:=(a.block w.heap.size (by simp)).trans (heap_alloc_new w _)
 have b:Below w.heap.size w w1:=(Z1b w _).trans (a.mono (by simp))
 clear a
 go_wp2_with (refine wpList_store_row rfl 51 _ _ rfl w.heap.size (Z6A s) rfl rfl 51 _ c (by kernel_rfl) rfl (headC_one s) ?_)
 have f:=run_loadVar_row (P:=prog) (w1.setRow w.heap.size (Z6A s)) w.heap.size 51 51 (Z6A s) (0,0) _ (setRow_heap _ _ _ _ _ _ c) underlying51 rfl (by kernel_rfl)
 exact bodyPost_ret (v:= .tuple #[.agg (Z6A s),.int .i64 (Z1s s)]) (by simp [results,Tryz.results118,asAddr,f]) rfl ⟨rfl,b.trans ⟨rfl,rfl,rfl,by simp [World.setRow],fun k hk=>setRow_other _ _ _ _ (by omega)⟩⟩
theorem list_three (L:List UInt8)(a m:Nat):L.take a++(L.drop a).take m++L.drop (a+m)=L:=by
 rw [List.append_assoc,← List.drop_drop,List.take_append_drop,List.take_append_drop]
theorem Z2x (s:ByteArray):s.data.toList.length=s.size:=by simp
theorem head_parts {s:ByteArray}(h:Z1s s=0):s.size=48∧(s.extract 0 4).toList= [71,82,80,78]∧allZ (s.extract 40 48)=true:=by
 unfold Z1s at h
 by_cases d:48<s.size
 ·rw [if_pos d] at h;omega
 rw [if_neg d] at h
 by_cases c:s.size<48
 ·rw [if_pos c] at h;omega
 rw [if_neg c] at h
 by_cases a:((s.extract 0 4).toList == [71,82,80,78])=true
 case neg=>rw [if_neg a] at h;omega
 rw [if_pos a] at h
 by_cases b:allZ (s.extract 40 48)=true
 case neg=>rw [if_neg b] at h;omega
 exact⟨by omega,eq_of_beq a,b⟩
theorem head_back {s:ByteArray}(h:Z1s s=0):recE (Z24 (Z1g s 4 6) (Z1g s 10 4) (Z1g s 14 2) (Z1g s 16 4) (Z1g s 20 4) (Z1g s 24 4) (Z1g s 28 6) (Z1g s 34 6))=0∧recS [71,82,80,78] (Z24 (Z1g s 4 6) (Z1g s 10 4) (Z1g s 14 2) (Z1g s 16 4) (Z1g s 20 4) (Z1g s 24 4) (Z1g s 28 6) (Z1g s 34 6)) 8=s:=by
 obtain⟨a,f,j⟩:=head_parts h
 have e:Z24 (Z1g s 4 6) (Z1g s 10 4) (Z1g s 14 2) (Z1g s 16 4) (Z1g s 20 4) (Z1g s 24 4) (Z1g s 28 6) (Z1g s 34 6)=Z48 s.data.toList 4 [6,4,2,4,4,4,6,6]:=by
  simp only [Z1g,if_pos h]
  rfl
 have k:=Z2x s
 obtain⟨b,i⟩:=Z5S s.data.toList [6,4,2,4,4,4,6,6] 4 (by decide) (by rw [k,a];decide)
 rw [e]
 refine⟨Z5R b,?_⟩
 rw [Z5Q b,i]
 refine ba_of ?_
 have d:=Z3g s 0 4
 rw [ByteArray.toList_eq] at f
 rw [f] at d
 have g:=text_zeros s 40 48 a (by decide) j
 have c:=list_three s.data.toList 4 36
 rw [show (s.data.toList.take 4)= [71,82,80,78] from d,g] at c
 exact c.symm
theorem Z7c:∀ (k:Nat) (n:Int),0≤n→n<256 ^ k→Z16 ((leI k n).map fun x=>UInt8.ofNat x.toNat)=n
 | 0,n,h,h'=>by simp at h';simp [leI,Z16];omega
 | k+1,n,h,h'=>by
  rw [leI_succ,List.map_append,List.map_cons,List.map_nil,leVal_snoc,List.length_map,Z19]
  have hp:(0:Int)<256 ^ k:=Int.pow_pos (by decide)
  have hq:=Int.ediv_lt_of_lt_mul hp (by rw [Int.pow_succ,Int.mul_comm] at h';exact h')
  have hq0:=Int.ediv_nonneg h (Int.le_of_lt hp)
  have hlow:leI k n=leI k (n%256 ^ k):=by
   unfold leI
   apply List.map_congr_left
   intro i a
   have b:=List.mem_range.1 a
   have e:(256:Int) ^ k=256 ^ i*256 ^ (k-i):=by rw [← Int.pow_add];congr 1;omega
   have f:(256:Int) ^ (k-i)=256*256 ^ (k-i-1):=by rw [Int.mul_comm,← Int.pow_succ];congr 1;omega
   have c:(0:Int)<256 ^ i:=Int.pow_pos (by decide)
   conv=>lhs;rw [← Int.mul_ediv_add_emod n (256 ^ k)]
   rw [e,Int.mul_assoc,Int.add_comm,Int.add_mul_ediv_left _ _ (by omega),f,Int.mul_assoc,Int.add_mul_emod_self_left]
  rw [hlow,Z7c k (n%256 ^ k) (Int.emod_nonneg _ (by omega)) (Int.emod_lt_of_pos _ hp)]
  rw [Int.emod_eq_of_lt hq0 hq]
  have d:((UInt8.ofNat (n/256 ^ k).toNat).toNat:Int)=n/256 ^ k:=by
   rw [UInt8.toNat_ofNat',Nat.mod_eq_of_lt (by omega)];omega
  rw [d,Int.mul_comm,Int.add_comm]
  exact Int.mul_ediv_add_emod n (256 ^ k)
section
open Go.RowKit Go.Lib
theorem putS_val {n k:Int}(h:putE n k=0):Z16 (putS n k).data.toList=n:=by
 unfold putE at h
 split at h
 ·omega
 split at h
 ·omega
 unfold putS
 rw [if_pos (by omega)]
 exact Z7c k.toNat n (by omega) (by omega)
theorem putS_inj {a b k:Int}(ha:putE a k=0)(hb:putE b k=0)(h:(putS a k).data.toList=(putS b k).data.toList):a=b:=by
 rw [← putS_val ha,← putS_val hb,h]
theorem Z7d:∀ (ps qs:List (Int × Int)),ps.map (·.2)=qs.map (·.2)→Z0r ps=true→Z0r qs=true→Z0N ps=Z0N qs→ps=qs
 | [],[],_,_,_,_=>rfl
 | [],q :: r,h,_,_,_=>by simp at h
 | p :: r,[],h,_,_,_=>by simp at h
 | p :: r,q :: t,h,hp,hq,hl=>by
  simp only [List.map_cons,List.cons.injEq] at h
  simp only [Z0r,Bool.and_eq_true,beq_iff_eq] at hp hq
  rw [Z0N,Z0N] at hl
  have hk:(putS p.1 p.2).data.toList.length=(putS q.1 q.2).data.toList.length:=by rw [Z5a hp.1,Z5a hq.1,h.1]
  obtain⟨c,a⟩:=List.append_inj hl hk
  have b:=putS_inj (k:=q.2) (by rw [← h.1];exact hp.1) hq.1 (by rw [← c,h.1])
  rw [Z7d r t h.2 hp.2 hq.2 a,show p=q from Prod.ext b h.1]
theorem Z7e {ps:List (Int × Int)}(h:recE ps=0):Z0r ps=true:=by
 unfold recE at h
 split at h
 ·assumption
 ·omega
theorem ba_inj {l m:List UInt8}(h:(⟨l.toArray⟩:ByteArray)=⟨m.toArray⟩):l=m:=by
 have:=congrArg (fun b:ByteArray=>b.data.toList) h
 simpa using this
theorem recS_inj {pre pre':List UInt8}{ps qs:List (Int × Int)}{z:Nat}(hw:ps.map (·.2)=qs.map (·.2))(hpre:pre.length=pre'.length)(hp:Z0r ps=true)(hq:Z0r qs=true)(h:recS pre ps z=recS pre' qs z):pre=pre'∧ps=qs:=by
 rw [Z5Q hp,Z5Q hq] at h
 have c:=ba_inj h
 have b:=List.append_cancel_right c
 obtain⟨d,a⟩:=List.append_inj b hpre
 exact⟨d,Z7d ps qs hw hp hq a⟩
end
def Z02 (F:Nat→Prop)(w w':World):Prop:=Below 0 w w'∧∀ k,k<w.heap.size→¬ F k→w'.heap[k]? = w.heap[k]?
def grow (F:Nat→Prop)(w w':World):Nat→Prop:=fun k=>F k∨(w.heap.size≤k∧k<w'.heap.size)
theorem Z02.refl (F:Nat→Prop)(w:World):Z02 F w w:=⟨Below.refl _ _,fun _ _ _=>rfl⟩
theorem Z02.size {F:Nat→Prop}{w w':World}(h:Z02 F w w'):w.heap.size≤w'.heap.size:=h.1.size
theorem Z02.trans {F:Nat→Prop}{w w1 w2:World}(h:Z02 F w w1)(k:Z02 (grow F w w1) w1 w2):Z02 F w w2 :=
 ⟨h.1.trans k.1,fun i hi hF=>(k.2 i (Nat.lt_of_lt_of_le hi h.size) (fun hg=>hg.elim hF fun hg=>by omega)).trans (h.2 i hi hF)⟩
theorem Z02.of_below {F:Nat→Prop}{w w':World}(h:Below w.heap.size w w'):Z02 F w w':=⟨h.mono (Nat.zero_le _),fun k hk _=>h.block k hk⟩
theorem Z02.mono {F F':Nat→Prop}{w w':World}(h:Z02 F w w')(hF:∀ k,F k→F' k):Z02 F' w w':=⟨h.1,fun k hk hn=>h.2 k hk fun hf=>hn (hF k hf)⟩
theorem Z02.drew {F:Nat→Prop}{w w':World}(h:Z02 F w w'):Z02 F w w'.drew:=⟨h.1.drew,fun k hk hb=>h.2 k hk hb⟩
theorem Z02.setCell {F:Nat→Prop}{w w':World}(h:Z02 F w w')(b i:Nat)(v:Value)(hb:F b∨w.heap.size≤b):Z02 F w (w'.setCell ⟨b,i,none⟩ v) :=
 ⟨h.1.setCell (p:=⟨b,i,none⟩) (Nat.zero_le _) _,fun k hk hn=>(Below.heap_setCell w' ⟨b,i,none⟩ _ k (fun e=>by
  subst e
  rcases hb with hb | hb
  ·exact hn hb
  ·exact absurd hb (Nat.not_le.2 hk))).trans (h.2 k hk hn)⟩
theorem Z02.below {F:Nat→Prop}{w w':World}(h:Z02 F w w'){B:Nat}(hB:B≤w.heap.size)(hF:∀ k,F k→B≤k):Below B w w' :=
 ⟨h.1.os,h.1.tape,h.1.output,h.1.size,fun k hk=>h.2 k (by omega) fun hf=>absurd (hF k hf) (by omega)⟩
theorem Row.setL {w:World}{g t:Nat}{l:List Value}(h:Row w g t l)(i:Nat)(v:Value):Row (w.setCell ⟨g,i,none⟩ v) g t (l.set i v):=by
 have a:=heap_setCell_same w g i _ t v h
 rw [List.setIfInBounds_toArray] at a
 exact a
theorem Row.off {w:World}{g t b:Nat}{l:List Value}(h:Row w g t l)(hb:g≠b)(i:Nat)(v:Value):Row (w.setCell ⟨b,i,none⟩ v) g t l:=(Below.heap_setCell w ⟨b,i,none⟩ _ g hb).trans h
theorem Z0L {w w':World}{e:TypeId}{z n:Nat}{v:Value}{xs:List Value}(h:w.ownsRow 0 e z v n xs)(hb:∀ g,v.ownBlock=some g→w'.heap[g]? = w.heap[g]?):w'.ownsRow 0 e z v n xs:=by
 refine⟨h.1,?_⟩
 rcases h.2 with hn | ⟨g,cap,cur,rfl,h0,hg,hr⟩
 ·exact .inl hn
 ·exact .inr ⟨g,cap,cur,rfl,h0,(hb g rfl).trans hg,hr⟩
theorem Z0Y {w:World}{e:TypeId}{z n:Nat}{v:Value}{xs:List Value}(h:w.ownsRow 0 e z v n xs)(g:Nat)(hv:v.ownBlock=some g):g<w.heap.size:=by
 rcases h.2 with ⟨rfl,_⟩ | ⟨g',cap,cur,rfl,h0,hg,hr⟩
 ·cases hv
 ·cases hv;exact lt_of_block hg
theorem Z1E {w:World}{e:TypeId}{z n:Nat}{v:Value}{xs:List Value}(h:w.ownsRow 0 e z v n xs)(hn:0<n):∃ g cap,v= .slice (some ⟨g,0,none⟩) n cap∧n≤cap∧∀ i u,xs[i]? = some u→w.cell? ⟨g,i,none⟩=some u:=by
 rcases h.2 with ⟨rfl,h0⟩ | ⟨g,cap,cur,rfl,h0,hg,hc,hm,hs,ht⟩
 ·omega
 ·refine⟨g,cap,rfl,hc,fun i u hu=> ?_⟩
  rw [cell_of_row _ _ _ _ _ _ hg]
  rw [← ht,List.getElem?_take] at hu
  split at hu
  ·simpa using hu
  ·cases hu
theorem Z1c {w:World}{e:TypeId}{z n b:Nat}{v:Value}{xs:List Value}(h:w.ownsRow 0 e z v n xs)(hb:v.ownBlock≠some b)(i:Nat)(u:Value):(w.setCell ⟨b,i,none⟩ u).ownsRow 0 e z v n xs :=
 Z0L h fun g hg=>Below.heap_setCell w ⟨b,i,none⟩ _ g fun e=>hb (by rw [hg,e])
end Go.Proofs.YtijpgmkdnemmbaaGreatDoor
