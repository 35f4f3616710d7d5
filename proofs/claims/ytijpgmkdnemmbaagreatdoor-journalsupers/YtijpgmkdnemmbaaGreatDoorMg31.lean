/- Part 31. -/
import Derived.Test.YtijpgmkdnemmbaaGreatDoorMg20
import Derived.Test.YtijpgmkdnemmbaaGreatDoorMg30
set_option maxRecDepth 20000
set_option maxHeartbeats 8000000
open Go.RowKit Go.Proofs.Tryz
namespace Go.Proofs.YtijpgmkdnemmbaaGreatDoor
def Z60 (f:PF)(key:ByteArray)(s:Sp):ByteArray:=if supE s=0 then brS f key s.hd s.txt else ⟨#[]⟩
theorem jsuper_real {Tab:World→Prop}{f:PF}(P:Prims Tab f)(K:Backs6 f)(B:Nat)(key:ByteArray)(hk:key.size=32)(s:Sp)(w:World)(ht:Tab w)(hp:RealV w B key) :
  Calls prog 5 #[.pointer (some ⟨B,0,none⟩),.agg s.arr] w fun e w'=>e= .returned (.tuple #[.agg #[.int .i64 (supA s),.string (Z60 f key s)],.int .i64 (supE s)])∧Below w.heap.size w w':=by
 have b:=fun w=>Z5v s.vol s.ep s.nx s.lv s.root w
 by_cases d:s.err=0
 ·have a:Z18 s.vol s.ep s.nx s.lv s.root=0:=d
  rw [a] at b
  have c:supE s=Z0p s.hd s.txt:=if_pos d
  have i:supA s=if Z0p s.hd s.txt=0 then s.ep.tmod 2 else 0:=by unfold supA;rw [c]
  have g:Z60 f key s=if Z0p s.hd s.txt=0 then brS f key s.hd s.txt else ⟨#[]⟩:=by unfold Z60;rw [c]
  rw [c,i,g]
  exact jsup_yes (.pointer (some ⟨B,0,none⟩)) s.vol s.ep s.nx s.lv s.root s.txt (brS f key s.hd s.txt) (Z0p s.hd s.txt) (fun w''=>Below w.heap.size w w'') w (fun w1 w2 h hb=>h.trans hb) b fun w1 hb =>
   (brseal_any P K B key hk s.hd s.txt w1 (P.tab ht hb) (hp.below hb)).mono fun e w'' ⟨h1,h2⟩=>⟨h1,hb.trans (h2.mono hb.size),fun k _ hk2=>h2.block k hk2,h2.size⟩
 ·have a:=d
  have c:supE s=Z18 s.vol s.ep s.nx s.lv s.root:=if_neg d
  have i:supA s=0:=by unfold supA;rw [c];exact if_neg a
  have g:Z60 f key s=⟨#[]⟩:=by unfold Z60;rw [c];exact if_neg a
  rw [c,i,g]
  exact jsup_no (.pointer (some ⟨B,0,none⟩)) s.vol s.ep s.nx s.lv s.root (Z1P s.vol s.ep s.nx s.lv s.root) _ w a b
theorem Z7D (tmps:Array Value)(g:Nat)(w':World)(a:Int)(r:ByteArray)(y:Int)(R:Ending→World→Prop)(h1:tmps.getD 4 undef= .pointer (some ⟨g,0,none⟩))(h2:tmps.getD 5 undef= .int .i64 y)(hg:w'.heap[g]? = some (.cells #[.int .i64 a,.string r] 27 (0,0)))(hR:R (.returned (.tuple #[.agg #[.int .i64 a,.string r],.int .i64 y])) w') :
  bodyPost prog Tryz.f6 R .ret { tmps:=tmps,defers:= []} w':=by
 have b:=run_loadVar_row (P:=prog) w' g 27 27 #[.int .i64 a,.string r] (0,0) _ hg underlying27 rfl (by kernel_rfl)
 simp at h1 h2
 exact bodyPost_ret (v:= .tuple #[.agg #[.int .i64 a,.string r],.int .i64 y]) (by simp [results,Tryz.results6,asAddr,b,h1,h2]) rfl hR
theorem rjsup_no (v:Value)(a0 a1 a2 a3:Int)(r T:ByteArray)(E:Int)(w:World)(hE:¬ E=0)
  (hp:∀ w,Calls prog 14 #[.agg #[.int .i64 a0,.int .i64 a1,.int .i64 a2,.int .i64 a3,.string r]] w fun e w'=>e= .returned (.tuple #[.string T,.int .i64 E])∧Below w.heap.size w w') :
  Calls prog 6 #[v,.agg #[.int .i64 a0,.int .i64 a1,.int .i64 a2,.int .i64 a3,.string r]] w fun e w'=>e= .returned (.tuple #[.agg #[.int .i64 0,.string ⟨#[]⟩],.int .i64 E])∧Below w.heap.size w w':=by
 have d:(E != 0)=true:=by simpa using hE
 clear hE
 go_enter func6,ntmps6
 go_wp2_with fail
 refine (hp _).mono ?_
 rintro e w1 ⟨rfl,a⟩
 have c:=(a.block (w.heap.size+1) (by simp)).trans (heap_alloc2_new w _ _)
 have b:Below w.heap.size w w1:=(((Below.refl _ _).alloc (Nat.le_refl _) _).alloc (by simp) _).trans (a.mono (by simp;omega))
 clear hp a
 go_wp2_with (refine wpList_store_row rfl 27 _ _ rfl (w.heap.size+1) #[.int .i64 0,.string ⟨#[]⟩] rfl rfl 27 _ c (by kernel_rfl) rfl (by simp [Value.oneCell']) ?_)
 exact Z7D _ (w.heap.size+1) _ 0 ⟨#[]⟩ E _ rfl rfl (setRow_heap _ _ _ _ _ _ c) ⟨rfl,Z0j b (by omega) _⟩
theorem rjsup_yes (v:Value)(a0 a1 a2 a3:Int)(r T X:ByteArray)(E:Int)(P:World→Prop)(w:World)(hP:Stb w.heap.size P)
  (hp:∀ w,Calls prog 14 #[.agg #[.int .i64 a0,.int .i64 a1,.int .i64 a2,.int .i64 a3,.string r]] w fun e w'=>e= .returned (.tuple #[.string T,.int .i64 0])∧Below w.heap.size w w')
  (hs:∀ w',Below w.heap.size w w'→Calls prog 15 #[v,.agg #[.int .i64 a0,.int .i64 (a1.tmod 2),.int .i64 1,.int .i64 0,.int .i64 0,.int .i64 0,.int .i64 a1,.int .i64 a1],.string T] w' fun e w''=>e= .returned (.tuple #[.string X,.int .i64 E])∧P w''∧Kept w.heap.size w' w''∧w'.heap.size≤w''.heap.size) :
  Calls prog 6 #[v,.agg #[.int .i64 a0,.int .i64 a1,.int .i64 a2,.int .i64 a3,.string r]] w fun e w'=>e= .returned (.tuple #[.agg #[.int .i64 (if E=0 then a1.tmod 2 else 0),.string (if E=0 then X else ⟨#[]⟩)],.int .i64 E])∧P w':=by
 go_enter func6,ntmps6
 go_wp2_with fail
 refine (hp _).mono ?_
 rintro e w1 ⟨rfl,a⟩
 have l:=(a.block (w.heap.size+1) (by simp)).trans (heap_alloc2_new w _ _)
 have i:=(a.block w.heap.size (by simp;omega)).trans (heap_alloc2_old w _ _)
 have c:Below w.heap.size w w1:=(((Below.refl _ _).alloc (Nat.le_refl _) _).alloc (by simp) _).trans (a.mono (by simp;omega))
 have m:=lt_of_block l
 have q:w1.cell? ⟨w.heap.size,0,none⟩=some (.int .i64 a0):=cell_of_row _ _ 0 _ _ _ i
 have s:w1.cell? ⟨w.heap.size,1,none⟩=some (.int .i64 a1):=cell_of_row _ _ 1 _ _ _ i
 have d:=hs (w1.alloc (.cells #[.int .i64 a0,.int .i64 (a1.tmod 2),.int .i64 1,.int .i64 0,.int .i64 0,.int .i64 0,.int .i64 a1,.int .i64 a1] 51)) (c.alloc (by omega) _)
 clear hp a hs
 go_wp2_with fail
 refine d.mono ?_
 rintro e g ⟨rfl,f,b,k⟩
 have j:g.heap[w.heap.size+1]? = _:=(b _ (by omega) (by simp;omega)).trans ((Below.heap_alloc _ _ _ m).trans l)
 have p:g.heap[w1.heap.size]? = _:=(b _ (by omega) (by simp)).trans (heap_alloc_new w1 _)
 have o:g.heap[w.heap.size]? = _:=(b _ (Nat.le_refl _) (by simp;omega)).trans ((Below.heap_alloc _ _ _ (by omega)).trans i)
 have u:g.cell? ⟨w.heap.size,1,none⟩=some (.int .i64 a1):=cell_of_row _ _ 1 _ _ _ o
 have hh:Hid (∀ cs,P (g.setRow (w.heap.size+1) cs)):=fun cs=>hP _ _ f (Z0j (Below.refl _ _) (by omega) _)
 clear d i q s p o f b k l c
 by_cases n:E=0
 ·subst n
  go_wp2_with (refine wpList_store_row rfl 27 _ _ rfl (w.heap.size+1) #[.int .i64 (a1.tmod 2),.string X] rfl rfl 27 _ j (by kernel_rfl) rfl (by simp [Value.oneCell']) ?_)
  exact Z7D _ (w.heap.size+1) _ (a1.tmod 2) X 0 _ rfl rfl (setRow_heap _ _ _ _ _ _ j) ⟨by simp,hh.out _⟩
 ·have t:(E != 0)=true:=by simpa using n
  go_wp2_with (refine wpList_store_row rfl 27 _ _ rfl (w.heap.size+1) #[.int .i64 0,.string ⟨#[]⟩] rfl rfl 27 _ j (by kernel_rfl) rfl (by simp [Value.oneCell']) ?_)
  exact Z7D _ (w.heap.size+1) _ 0 ⟨#[]⟩ E _ rfl rfl (setRow_heap _ _ _ _ _ _ j) ⟨by simp,hh.out _⟩
structure Sp.Ok (s:Sp):Prop where
 vol:Z2g s.vol
 ep:Z2g s.ep
 nx:Z2g s.nx
 lv:Z2g s.lv
theorem Z6T {a:Int}(h:Z2g a): -9223372036854775808≤a∧a≤9223372036854775807:=by
 simp [Z2g,Lit.wf,IntKind.min,IntKind.max,IntKind.signed,IntKind.bits] at h
 omega
theorem rjsuper_real {f:PF}(P:RPrims f)(K:Backs6 f)(B:Nat)(key:ByteArray)(hk:key.size=32)(s:Sp)(hs:s.Ok)(w:World)(hp:RefR w B key) :
  Calls prog 6 #[.pointer (some ⟨B,0,none⟩),.agg s.arr] w fun e w'=>e= .returned (.tuple #[.agg #[.int .i64 (supA s),.string (Z60 f key s)],.int .i64 (supE s)])∧Below w.heap.size w w':=by
 have b:=fun w=>rsuper_any s.vol s.ep s.nx s.lv s.root (fun p hp=>by
  simp [Z0D] at hp
  rcases hp with rfl | rfl | rfl | rfl
  ·exact (Z6T hs.vol).2
  ·exact (Z6T hs.ep).2
  ·exact (Z6T hs.nx).2
  ·exact (Z6T hs.lv).2) w
 have m:hdInt s.hd:=by
  have d:Z2g (s.ep.tmod 2):=by
   have q:=Int.tmod_lt_of_pos s.ep (show (0:Int)<2 by decide)
   have o:=Int.tmod_lt_of_pos (-s.ep) (show (0:Int)<2 by decide)
   rw [Int.neg_tmod] at o
   simp [Z2g,Lit.wf,IntKind.min,IntKind.max,IntKind.signed,IntKind.bits]
   omega
  have l:Z2g 0:=rfl
  have n:Z2g 1:=rfl
  exact⟨hs.vol,d,n,l,l,l,hs.ep,hs.ep⟩
 by_cases g:s.err=0
 ·have a:Z18 s.vol s.ep s.nx s.lv s.root=0:=g
  rw [a] at b
  have c:supE s=Z0p s.hd s.txt:=if_pos g
  have j:supA s=if Z0p s.hd s.txt=0 then s.ep.tmod 2 else 0:=by unfold supA;rw [c]
  have i:Z60 f key s=if Z0p s.hd s.txt=0 then brS f key s.hd s.txt else ⟨#[]⟩:=by unfold Z60;rw [c]
  rw [c,j,i]
  exact rjsup_yes (.pointer (some ⟨B,0,none⟩)) s.vol s.ep s.nx s.lv s.root s.txt (brS f key s.hd s.txt) (Z0p s.hd s.txt) (fun w''=>Below w.heap.size w w'') w (fun w1 w2 h hb=>h.trans hb) b fun w1 hb =>
   (rbrseal_any P K B key hk s.hd m s.txt w1 (hp.keep hb)).mono fun e w'' ⟨h1,d⟩=>⟨h1,hb.trans (d.mono hb.size),fun k _ hk2=>d.block k hk2,d.size⟩
 ·have a:¬ Z18 s.vol s.ep s.nx s.lv s.root=0:=g
  have c:supE s=Z18 s.vol s.ep s.nx s.lv s.root:=if_neg g
  have j:supA s=0:=by unfold supA;rw [c];exact if_neg a
  have i:Z60 f key s=⟨#[]⟩:=by unfold Z60;rw [c];exact if_neg a
  rw [c,j,i]
  exact rjsup_no (.pointer (some ⟨B,0,none⟩)) s.vol s.ep s.nx s.lv s.root (Z1P s.vol s.ep s.nx s.lv s.root) _ w a b
end Go.Proofs.YtijpgmkdnemmbaaGreatDoor
