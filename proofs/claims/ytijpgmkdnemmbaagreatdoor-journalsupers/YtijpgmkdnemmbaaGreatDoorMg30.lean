/- Part 30. -/
import Derived.Test.YtijpgmkdnemmbaaGreatDoorMg11
import Derived.Test.YtijpgmkdnemmbaaGreatDoorMg08
import Derived.Test.YtijpgmkdnemmbaaGreatDoorMg13
set_option maxRecDepth 20000
set_option maxHeartbeats 8000000
open Go.RowKit Go.Proofs.Tryz
namespace Go.Proofs.YtijpgmkdnemmbaaGreatDoor
section
open Go.RowKit Go.Lib
def hdInt (h:Hd):Prop:=Z2g h.v0∧Z2g h.v1∧Z2g h.v2∧Z2g h.v3∧Z2g h.v4∧Z2g h.v5∧Z2g h.v6∧Z2g h.v7
theorem rbhead_any (h:Hd)(hi:hdInt h)(w:World):Calls prog 35 #[.agg #[.int .i64 h.v0,.int .i64 h.v1,.int .i64 h.v2,.int .i64 h.v3,.int .i64 h.v4,.int .i64 h.v5,.int .i64 h.v6,.int .i64 h.v7]] w fun e w'=>e= .returned (.tuple #[.string h.txt,.int .i64 h.err])∧Below w.heap.size w w' :=
 rhead_any h.v0 h.v1 h.v2 h.v3 h.v4 h.v5 h.v6 h.v7 (by
  obtain⟨h0,h1,h2,h3,h4,h5,h6,h7⟩:=hi
  intro p hp
  simp only [Z24,List.mem_cons,List.mem_nil_iff,or_false] at hp
  rcases hp with rfl | rfl | rfl | rfl | rfl | rfl | rfl | rfl <;> (apply int_le8;assumption)) w
theorem rnonce_any (h:Hd)(he:h.err=0)(hi:hdInt h)(w:World):Calls prog 37 #[.agg h.arr] w fun e w'=>e= .returned (.string h.nonce)∧Below w.heap.size w w':=by
 obtain⟨n,d⟩:=Z6Q he
 obtain⟨s,r,_⟩:=hd_puts he
 have i:=Z5h s
 have m:=Z5h r
 rw [n]
 rw [n] at d
 clear n he s r
 obtain⟨F,k,E,H,I,G,l,D⟩:=h
 simp only [Hd.arr]
 simp only at i m d
 have u:k≤9223372036854775807:=int_le8 hi.2.1
 have A:l≤9223372036854775807:=int_le8 hi.2.2.2.2.2.2.1
 have v:=fun w=>Z6S k 4 u w
 have x:=fun w=>Z6S l 6 A w
 generalize putS k 4=p at *
 generalize putS l 6=q at *
 have B:=Z1L 2
 have t:∀ w',(Op.stringOp .add p q).run prog w'= .ok (.string (p++q)) w':=fun w'=>run_string_add_sum (P:=prog) (w:=w') _ _ (by rw [i,m];decide)
 have o:∀ w',(Op.stringOp .add (p++q) (Z0S 2)).run prog w'= .ok (.string (p++q++Z0S 2)) w':=fun w'=>run_string_add_sum (P:=prog) (w:=w') _ _ (by rw [ByteArray.size_append,i,m,B];decide)
 have j:=fun w=>noughts_z 2 2 rfl (by decide) w
 generalize Z0S 2=Z at *
 go_enter func37,ntmps37
 go_wp2_with fail
 refine (v _).mono ?_
 rintro e w1 ⟨rfl,b⟩
 have z:=Z0u b 6 _ rfl
 have a:Below w.heap.size w w1:=((Below.refl _ _).alloc (Nat.le_refl _) _).trans (b.mono (by simp))
 clear b
 go_wp2_with fail
 refine (x _).mono ?_
 rintro e w2 ⟨rfl,g⟩
 have c:Below w.heap.size w w2:=a.trans (g.mono a.size)
 clear g z a
 go_wp2_with fail
 refine (j _).mono ?_
 rintro e C ⟨rfl,f⟩
 have y:Hid (Below w.heap.size w C):=c.trans (f.mono c.size)
 clear c f
 go_wp2
 go_ret
 exact⟨rfl,y.out⟩
theorem rbseal_short (v:Value)(h:Hd)(s:ByteArray)(hs:¬ s.size=448)(w:World):Calls prog 15 #[v,.agg h.arr,.string s] w fun e w'=>e= .returned (.tuple #[.string ⟨#[]⟩,.int .i64 1])∧Below w.heap.size w w':=by
 have b:((s.size:Int) != 448)=true:=bne_iff_ne.2 (by omega)
 have a:Hid (Below w.heap.size w (w.alloc (.cells h.arr 51))):=(Below.refl _ _).alloc (Nat.le_refl _) _
 simp only [Hd.arr] at a ⊢
 go_enter func15,ntmps15
 go_wp2
 go_ret2
 exact⟨rfl,a.out⟩
theorem rbseal_head (v:Value)(h:Hd)(s:ByteArray)(hs:s.size=448)(he:¬ h.err=0)(hi:hdInt h)(w:World):Calls prog 15 #[v,.agg h.arr,.string s] w fun e w'=>e= .returned (.tuple #[.string ⟨#[]⟩,.int .i64 h.err])∧Below w.heap.size w w':=by
 have g:(s.size:Int)=448:=by omega
 have i:(h.err != 0)=true:=bne_iff_ne.2 he
 have d:=fun w=>rbhead_any h hi w
 have b:Hid (Below w.heap.size w (w.alloc (.cells h.arr 51))):=(Below.refl _ _).alloc (Nat.le_refl _) _
 simp only [Hd.arr] at b ⊢
 generalize h.txt=t at *
 generalize h.err=E at *
 go_enter func15,ntmps15
 go_wp2_with fail
 refine (d _).mono ?_
 rintro e f ⟨rfl,a⟩
 have c:Hid (Below w.heap.size w f):=b.out.trans (a.mono (by simp))
 clear a b d
 go_wp2
 go_ret2
 exact⟨rfl,c.out⟩
theorem rbseal_gen (v:Value)(h:Hd)(s T:ByteArray)(E:Int)(P:World→Prop)(w:World)(hs:s.size=448)(he:h.err=0)(hi:hdInt h)(hT:T.size≤1000000)
  (hv:∀ w',Below w.heap.size w w'→Calls prog 36 #[v,.int .i64 h.v7,.string h.nonce,.string h.txt,.string s] w' fun e w''=>e= .returned (.tuple #[.string T,.int .i64 E])∧P w''∧∀ k,w.heap.size≤k→k<w'.heap.size→w''.heap[k]? = w'.heap[k]?) :
  Calls prog 15 #[v,.agg h.arr,.string s] w fun e w'=>e= .returned (.tuple #[.string (if E=0 then h.txt++T else ⟨#[]⟩),.int .i64 E])∧P w':=by
 have F:(s.size:Int)=448:=by omega
 have o:=fun w=>rbhead_any h hi w
 have B:=fun w=>rnonce_any h he hi w
 have O:=Z2o he
 have l:Hid (Below w.heap.size w (w.alloc (.cells h.arr 51))):=(Below.refl _ _).alloc (Nat.le_refl _) _
 rw [he] at o
 simp only [Hd.arr] at l B ⊢
 clear he
 generalize h.txt=t at *
 generalize h.nonce=n at *
 have y:(t++T).size≤maxLen:=by rw [ByteArray.size_append];unfold maxLen;omega
 by_cases m:E=0
 case' pos=>subst m;simp only [if_true]
 case' neg=>have D:(E != 0)=true:=bne_iff_ne.2 m;simp only [m,if_false]
 all_goals
  go_enter func15,ntmps15
  go_wp2_with fail
  refine (o _).mono ?_
  rintro e g ⟨rfl,b⟩
  have J:=Z0u b 0 _ rfl
  have K:=Z0u b 1 _ rfl
  have I:=Z0u b 2 _ rfl
  have N:=Z0u b 3 _ rfl
  have M:=Z0u b 4 _ rfl
  have C:=Z0u b 5 _ rfl
  have G:=Z0u b 6 _ rfl
  have L:=Z0u b 7 _ rfl
  have f:Hid (Below w.heap.size w g):=l.out.trans (b.mono (by simp))
  have d:w.heap.size<g.heap.size:=by have:=b.size;simp at this;omega
  clear b l o
  go_wp2_with fail
  go_region_held3 (fun w'=>w'.cell? ⟨w.heap.size,0,none⟩=some (.int .i64 h.v0)∧w'.cell? ⟨w.heap.size,1,none⟩=some (.int .i64 h.v1)∧w'.cell? ⟨w.heap.size,2,none⟩=some (.int .i64 h.v2)∧w'.cell? ⟨w.heap.size,3,none⟩=some (.int .i64 h.v3)∧w'.cell? ⟨w.heap.size,4,none⟩=some (.int .i64 h.v4)∧w'.cell? ⟨w.heap.size,5,none⟩=some (.int .i64 h.v5)∧w'.cell? ⟨w.heap.size,6,none⟩=some (.int .i64 h.v6)∧w'.cell? ⟨w.heap.size,7,none⟩=some (.int .i64 h.v7)) (simp [go_sem, *])
   (first | (go_at_call 37;refine (B _).mono ?_;rintro e A ⟨rfl,c⟩;have u:Hid (Below w.heap.size w A):=f.out.drew.trans (c.mono f.out.size);have q:∀ i,A.cell? ⟨w.heap.size,i,none⟩=g.cell? ⟨w.heap.size,i,none⟩:=fun i=>c.cell (p:=⟨w.heap.size,i,none⟩) d) | (go_at_call 36;refine (hv _ u.out).mono ?_;rintro e z ⟨rfl,x,r⟩;have j:∀ i,z.cell? ⟨w.heap.size,i,none⟩=g.cell? ⟨w.heap.size,i,none⟩:=fun i=>(World.cell?_of_block (a:=⟨w.heap.size,i,none⟩) (r w.heap.size (Nat.le_refl _) (Nat.lt_of_lt_of_le d c.size))).trans (q i)))
  all_goals
   have H:Hid (P z):=x
   clear x r q j c u J K I N M C G L
   go_wp2
   go_ret2
   exact⟨rfl,H.out⟩
end
structure Backs6 (f:PF):Prop where
 back:∀ k n a s:ByteArray,k.size=32→n.size=12→a.size≤1048576→s.size≤1048000→f.shutX k n=0∧f.opnX k n a (f.shut k n a s)=0∧f.opn k n a (f.shut k n a s)=s∧(f.shut k n a s).size=s.size+16
def brT (f:PF)(key:ByteArray)(h:Hd)(s:ByteArray):ByteArray:=f.shut (Z4I f key h.v7) h.nonce h.txt s
def brS (f:PF)(key:ByteArray)(h:Hd)(s:ByteArray):ByteArray:=if Z2h h s then h.txt++brT f key h s else ⟨#[]⟩
theorem br_num {f:PF}(K:Backs6 f)(hz:∀ k i,(f.exp k i).size=32)(key:ByteArray){h:Hd}{s:ByteArray}(he:h.err=0)(hs:s.size=448):sealRE f key h.v7 h.nonce=0∧sealRS f key h.v7 h.nonce h.txt s=brT f key h s∧(brT f key h s).size=464∧openRE f key h.v7 h.nonce h.txt (brT f key h s)=0∧openRS f key h.v7 h.nonce h.txt (brT f key h s)=s:=by
 have a:=Z7k he
 have j:=Z2o he
 obtain⟨c,e,d,g⟩:=K.back (Z4I f key h.v7) h.nonce h.txt s (hz _ _) (Z6Q he).2 (by omega) (by omega)
 have b:(brT f key h s).size=464:=by unfold brT;omega
 refine⟨?_,?_,b,?_,?_⟩
 ·unfold sealRE;rw [a,if_pos rfl,c]
 ·unfold sealRS;rw [a,if_pos rfl];rfl
 ·unfold openRE;rw [a,if_pos rfl,if_neg (by omega)];exact e
 ·unfold openRS;rw [a,if_pos rfl,if_neg (by omega)];exact d
theorem brseal_any {Tab:World→Prop}{f:PF}(P:Prims Tab f)(K:Backs6 f)(B:Nat)(key:ByteArray)(hk:key.size=32)(h:Hd)(s:ByteArray)(w:World)(ht:Tab w)(hp:RealV w B key) :
  Calls prog 13 #[.pointer (some ⟨B,0,none⟩),.agg h.arr,.string s] w fun e w'=>e= .returned (.tuple #[.string (brS f key h s),.int .i64 (Z0p h s)])∧Below w.heap.size w w':=by
 by_cases b:s.size=448
 ·by_cases a:h.err=0
  ·obtain⟨j,i,l,_,_⟩:=br_num K P.expz key a b
   have c:brS f key h s=h.txt++brT f key h s:=by unfold brS Z2h;rw [decide_eq_true ⟨b,a⟩,if_pos rfl]
   have d:Z0p h s=0:=by unfold Z0p;rw [if_pos b,a]
   rw [c,d]
   have:=bseal_gen (.pointer (some ⟨B,0,none⟩)) h s (brT f key h s) 0 (fun w'=>Below w.heap.size w w') w b a (by omega) (fun w' hb=>by
    have g:=rvseal_any P B key h.v7 h.nonce h.txt s (by omega) (by rw [Z2o a];decide) (by omega) w' (P.tab ht hb) (hp.below hb)
    rw [j,i] at g
    exact g.mono fun e w'' ⟨a,hb2⟩=>⟨a,hb.trans (hb2.mono hb.size),fun k _ hk=>hb2.block k hk⟩)
   rw [if_pos rfl] at this
   exact this
  ·have c:brS f key h s=⟨#[]⟩:=by unfold brS Z2h;rw [decide_eq_false (fun hh=>a hh.2)];rfl
   have d:Z0p h s=h.err:=by unfold Z0p;rw [if_pos b]
   rw [c,d]
   exact bseal_head _ h s b a w
 ·have c:brS f key h s=⟨#[]⟩:=by unfold brS Z2h;rw [decide_eq_false (fun hh=>b hh.1)];rfl
  have d:Z0p h s=1:=by unfold Z0p;rw [if_neg b]
  rw [c,d]
  exact Z7l _ h s b w
theorem rbrseal_any {f:PF}(P:RPrims f)(K:Backs6 f)(B:Nat)(key:ByteArray)(hk:key.size=32)(h:Hd)(hi:hdInt h)(s:ByteArray)(w:World)(hp:RefR w B key) :
  Calls prog 15 #[.pointer (some ⟨B,0,none⟩),.agg h.arr,.string s] w fun e w'=>e= .returned (.tuple #[.string (brS f key h s),.int .i64 (Z0p h s)])∧Below w.heap.size w w':=by
 by_cases b:s.size=448
 ·by_cases a:h.err=0
  ·obtain⟨j,i,l,_,_⟩:=br_num K P.expz key a b
   have c:brS f key h s=h.txt++brT f key h s:=by unfold brS Z2h;rw [decide_eq_true ⟨b,a⟩,if_pos rfl]
   have d:Z0p h s=0:=by unfold Z0p;rw [if_pos b,a]
   rw [c,d]
   have:=rbseal_gen (.pointer (some ⟨B,0,none⟩)) h s (brT f key h s) 0 (fun w'=>Below w.heap.size w w') w b a hi (by omega) (fun w' hb=>by
    have g:=rrseal_any P B key h.v7 h.nonce h.txt s (by omega) (by rw [Z2o a];decide) (by omega) w' (hp.keep hb)
    rw [j,i] at g
    exact g.mono fun e w'' ⟨a,hb2⟩=>⟨a,hb.trans (hb2.mono hb.size),fun k _ hk=>hb2.block k hk⟩)
   rw [if_pos rfl] at this
   exact this
  ·have c:brS f key h s=⟨#[]⟩:=by unfold brS Z2h;rw [decide_eq_false (fun hh=>a hh.2)];rfl
   have d:Z0p h s=h.err:=by unfold Z0p;rw [if_pos b]
   rw [c,d]
   exact rbseal_head _ h s b a hi w
 ·have c:brS f key h s=⟨#[]⟩:=by unfold brS Z2h;rw [decide_eq_false (fun hh=>b hh.1)];rfl
  have d:Z0p h s=1:=by unfold Z0p;rw [if_neg b]
  rw [c,d]
  exact rbseal_short _ h s b w
theorem rep_get (v:Value)(n i:Nat)(h:i<n):(List.replicate n v)[i]? = some v:=by simp [h]
theorem rep_getD (n i:Nat)(h:i<n):((List.replicate n 0).map fun (x:Nat)=>(x:Int)).getD i 0=0:=by
 rw [List.getD_eq_getElem?_getD,List.getElem?_map,List.getElem?_replicate,if_pos h];rfl
theorem blank_any (w:World):Calls prog 24 #[] w fun e w'=>e= .returned (.string (Z0c 0 64))∧Below w.heap.size w w':=by
 have k:∀ w,(Instr.makeSlice 90 (.int .i64 64) (.int .i64 64)).run prog w= .ok (.slice (some ⟨w.heap.size,0,none⟩) 64 64) (w.alloc (.cells (madeCells #[.int .u8 0] 64) 5)):=run_make_row' (P:=prog) 90 5 (.int .u8 0) 1 underlying90 Z2n rfl .i64 .i64 64 (by omega) (by omega)
 have c:Row (w.alloc (.cells (madeCells #[.int .u8 0] 64) 5)) w.heap.size 5 (List.replicate 64 (.int .u8 0)):=Z2a (heap_alloc_new w _)
 have d:=(Below.refl w.heap.size w).alloc (Nat.le_refl _) (.cells (madeCells #[.int .u8 0] 64) 5)
 obtain⟨ms,b⟩:∃ ms,madeCells #[.int .u8 0] 64=ms:=⟨_,rfl⟩
 rw [b] at c d
 simp only [b] at k
 clear b
 obtain⟨w0,f⟩:∃ w0,w.alloc (.cells ms 5)=w0:=⟨_,rfl⟩
 rw [f] at c d
 have a:=run_convert_bytes_arg (P:=prog) w0 90 5 underlying90 underlying5 w.heap.size 0 64 64 ((List.replicate 64 0).map fun (x:Nat)=>(x:Int)) (by simp) (fun i hi=>by
  rw [Nat.zero_add,c.cell,rep_get _ _ _ hi,rep_getD _ _ hi]) 9 underlying9
 rw [← fillS_num] at a
 have h:Hid _:=d
 clear c d
 obtain⟨X,g⟩:∃ X,X=Z0c 0 64:=⟨_,rfl⟩
 rw [← g] at a
 have j:Hid _:=g
 clear g
 go_enter func24,ntmps24
 go_wp2
 first
  | (rw [a];go_wp2)
  | skip
 go_ret
 exact⟨by rw [← j.out];rfl,h.out⟩
end Go.Proofs.YtijpgmkdnemmbaaGreatDoor
