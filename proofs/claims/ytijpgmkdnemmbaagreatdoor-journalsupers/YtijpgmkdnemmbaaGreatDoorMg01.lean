/- Part 1. -/
import Derived.Test.YtijpgmkdnemmbaaGreatDoorMg00
set_option maxRecDepth 20000
set_option maxHeartbeats 8000000
open Go.RowKit Go.Proofs.Tryz
namespace Go.Proofs.YtijpgmkdnemmbaaGreatDoor
namespace Bx
theorem le4_get (W i:Nat):(le4 W).getD i 0=if i=0 then W%256 else if i=1 then W/256%256 else if i=2 then W/65536%256 else if i=3 then W/16777216%256 else 0:=by
 match i with
 | 0=>rfl
 | 1=>rfl
 | 2=>rfl
 | 3=>rfl
 | i+4=>rw [if_neg (by omega),if_neg (by omega),if_neg (by omega),if_neg (by omega)];rfl
theorem blk_step (s:S16)(j k:Nat) :
  (if k=4*j+3 then blkW s j/16777216%256 else if k=4*j+2 then blkW s j/65536%256 else if k=4*j+1 then blkW s j/256%256 else if k=4*j then blkW s j%256 else (blkN s j).getD k 0)=(blkN s (j+1)).getD k 0:=by
 have e:=Z3T s j
 rw [blkN]
 by_cases h:k<4*j
 ·rw [Z3s _ _ _ _ (by omega),if_neg (by omega),if_neg (by omega),if_neg (by omega),if_neg (by omega)]
 ·rw [Z2l _ _ _ _ (by omega),e,Z0W (blkN s j) _ (by omega),le4_get]
  by_cases c:k=4*j
  ·rw [if_neg (by omega),if_neg (by omega),if_neg (by omega),if_pos c,if_pos (by omega)]
  ·by_cases d:k=4*j+1
   ·rw [if_neg (by omega),if_neg (by omega),if_pos d,if_neg (by omega),if_pos (by omega)]
   ·by_cases b:k=4*j+2
    ·rw [if_neg (by omega),if_pos b,if_neg (by omega),if_neg (by omega),if_pos (by omega)]
    ·by_cases a:k=4*j+3
     ·rw [if_pos a,if_neg (by omega),if_neg (by omega),if_neg (by omega),if_pos (by omega)]
     ·rw [if_neg a,if_neg b,if_neg d,if_neg c,if_neg (by omega),if_neg (by omega),if_neg (by omega),if_neg (by omega)]
def blkF (l:List Nat)(k:Nat):Value:= .int .u8 (l.getD k 0:Nat)
theorem le4_bytes (n:Nat):Z03 (le4 n):=by
 intro x a
 simp only [le4,List.mem_cons,List.not_mem_nil,or_false] at a
 omega
theorem blkN_bytes (s:S16):∀ n,Z03 (blkN s n)
 | 0=>fun x hx=>by simp [blkN] at hx
 | n+1=>(blkN_bytes s n).append (le4_bytes _)
theorem Z4A (s:S16):Z03 (blkL s):=blkN_bytes s 16
theorem blkF_all (s:S16):rowF 64 (blkF (blkN s 16))=byV (blkL s):=by
 rw [byV_rowF,Z1x]
 rfl
theorem toL_get (s:S16)(i:Nat)(h:i<16):(wdV s.toL)[i]? = some (.int .u32 (s.toL.getD i 0:Nat)):=wdV_get _ _ (by rw [S16.toL_length];exact h)
theorem Z50 (cs:Array Value)(j:Nat)(v:Value)(hj:j<16)(hv:cs[j]? = some v)(w:World):(Instr.index 331 (.agg cs) (.int .i64 j)).run prog w= .ok v w:=by
 simp [Instr.index,run_underlying underlying331,asIntOf,hj,hv,go_sem]
theorem blkW_add (s:S16)(i:Nat):IntKind.u32.wrap (((s.rounds 10).toL.getD i 0:Nat)+(s.toL.getD i 0:Nat))=(blkW s i:Nat):=by
 rw [Z7P];rfl
theorem blkW_lt (s:S16)(i:Nat):blkW s i<4294967296:=Nat.mod_lt _ (by decide)
def S16.at (s:S16)(n:Nat):S16:=⟨s.a0,s.a1,s.a2,s.a3,s.b0,s.b1,s.b2,s.b3,s.c0,s.c1,s.c2,s.c3,n,s.d1,s.d2,s.d3⟩
theorem S16.at_ok {s:S16}(h:s.ok){n:Nat}(hn:n<4294967296):(s.at n).ok:=by
 obtain⟨o,i,g,m,k,l,q,p,j,a,e,d,_,c,b,f⟩:=S16.ok_all h
 simp [S16.ok,S16.toL,S16.at, *]
theorem row_at12 {w:World}{g t:Nat}{s:S16}(h:Row w g t (wdV s.toL))(n:Nat):Row (w.setCell ⟨g,12,none⟩ (.int .u32 n)) g t (wdV (s.at n).toL) :=
 Row.set (A:=wdV [s.a0,s.a1,s.a2,s.a3,s.b0,s.b1,s.b2,s.b3,s.c0,s.c1,s.c2,s.c3]) (q:= .int .u32 s.d0) (C:=wdV [s.d1,s.d2,s.d3]) h _ rfl
set_option maxRecDepth 10000 in
theorem block_any (s:S16)(hs:s.ok)(n:Nat)(hn:n<4294967296)(g:Nat)(w:World)(hr:Row w g 331 (wdV s.toL)) :
  Calls prog 239 #[.pointer (some ⟨g,0,none⟩),.int .u32 n] w fun e w'=>e= .returned (.agg (byV (blkL (s.at n))).toArray)∧Below w.heap.size w w':=by
 have hg:=hr.lt
 obtain⟨F,H⟩:∃ F,F=(wdV s.toL).toArray:=⟨_,rfl⟩
 have B:F.size=16:=by rw [H];rfl
 have z:F.all (·.oneCell')=true:=by rw [H];simp [wdV,Value.oneCell']
 have b:(prog.info? 331).map (·.size)=some F.size:=by rw [B];kernel_rfl
 have Y:∀ o,(w.alloc o).heap[g]? = some (.cells F 331 (0,0)):=fun o=>by rw [H];exact (Below.heap_alloc w o g hg).trans hr
 have aa:Hid (F=(wdV s.toL).toArray):=H
 clear H hr
 obtain⟨w0,K⟩:∃ w0,((w.alloc (.cells #[.int .u8 0,.int .u8 0,.int .u8 0,.int .u8 0,.int .u8 0,.int .u8 0,.int .u8 0,.int .u8 0,.int .u8 0,.int .u8 0,.int .u8 0,.int .u8 0,.int .u8 0,.int .u8 0,.int .u8 0,.int .u8 0,.int .u8 0,.int .u8 0,.int .u8 0,.int .u8 0,.int .u8 0,.int .u8 0,.int .u8 0,.int .u8 0,.int .u8 0,.int .u8 0,.int .u8 0,.int .u8 0,.int .u8 0,.int .u8 0,.int .u8 0,.int .u8 0,.int .u8 0,.int .u8 0,.int .u8 0,.int .u8 0,.int .u8 0,.int .u8 0,.int .u8 0,.int .u8 0,.int .u8 0,.int .u8 0,.int .u8 0,.int .u8 0,.int .u8 0,.int .u8 0,.int .u8 0,.int .u8 0,.int .u8 0,.int .u8 0,.int .u8 0,.int .u8 0,.int .u8 0,.int .u8 0,.int .u8 0,.int .u8 0,.int .u8 0,.int .u8 0,.int .u8 0,.int .u8 0,.int .u8 0,.int .u8 0,.int .u8 0,.int .u8 0] 147)).alloc (.cells #[.int .u32 0,.int .u32 0,.int .u32 0,.int .u32 0,.int .u32 0,.int .u32 0,.int .u32 0,.int .u32 0,.int .u32 0,.int .u32 0,.int .u32 0,.int .u32 0,.int .u32 0,.int .u32 0,.int .u32 0,.int .u32 0] 331)).setRow (w.heap.size+1) F=w0:=⟨_,rfl⟩
 have a4:=heap_alloc2_new w (.cells #[.int .u8 0,.int .u8 0,.int .u8 0,.int .u8 0,.int .u8 0,.int .u8 0,.int .u8 0,.int .u8 0,.int .u8 0,.int .u8 0,.int .u8 0,.int .u8 0,.int .u8 0,.int .u8 0,.int .u8 0,.int .u8 0,.int .u8 0,.int .u8 0,.int .u8 0,.int .u8 0,.int .u8 0,.int .u8 0,.int .u8 0,.int .u8 0,.int .u8 0,.int .u8 0,.int .u8 0,.int .u8 0,.int .u8 0,.int .u8 0,.int .u8 0,.int .u8 0,.int .u8 0,.int .u8 0,.int .u8 0,.int .u8 0,.int .u8 0,.int .u8 0,.int .u8 0,.int .u8 0,.int .u8 0,.int .u8 0,.int .u8 0,.int .u8 0,.int .u8 0,.int .u8 0,.int .u8 0,.int .u8 0,.int .u8 0,.int .u8 0,.int .u8 0,.int .u8 0,.int .u8 0,.int .u8 0,.int .u8 0,.int .u8 0,.int .u8 0,.int .u8 0,.int .u8 0,.int .u8 0,.int .u8 0,.int .u8 0,.int .u8 0,.int .u8 0] 147) (.cells #[.int .u32 0,.int .u32 0,.int .u32 0,.int .u32 0,.int .u32 0,.int .u32 0,.int .u32 0,.int .u32 0,.int .u32 0,.int .u32 0,.int .u32 0,.int .u32 0,.int .u32 0,.int .u32 0,.int .u32 0,.int .u32 0] 331)
 have a1:Row w0 (w.heap.size+1) 331 (wdV s.toL):=by rw [← K];have:=setRow_heap _ (w.heap.size+1) _ F _ _ a4;rw [aa.out] at this ⊢;exact this
 have a0:Row w0 w.heap.size 147 (byV (List.replicate 64 0)):=by rw [← K];exact (setRow_other _ _ _ _ (by omega)).trans (heap_alloc2_old w _ _)
 have ab:Below w.heap.size w w0:=by rw [← K];exact Z0l (((Below.refl _ _).alloc (Nat.le_refl _) _).alloc (by simp) _) (by omega) F
 have a9:w0.cell? ⟨w.heap.size+1,12,none⟩=some (.int .u32 s.d0):=a1.cell 12
 have a7:w0.frozen? ⟨w.heap.size+1,12,none⟩=false:=a1.frozen 12
 have b1:=row_at12 a1 n
 have b0:Row (w0.setCell ⟨w.heap.size+1,12,none⟩ (.int .u32 n)) w.heap.size 147 (byV (List.replicate 64 0)):=(Below.heap_setCell _ _ _ _ (by simp)).trans a0
 have bb:=ab.setCell (p:=⟨w.heap.size+1,12,none⟩) (by simp) (.int .u32 n)
 obtain⟨w1,a3⟩:∃ w1,w0.setCell ⟨w.heap.size+1,12,none⟩ (.int .u32 n)=w1:=⟨_,rfl⟩
 rw [a3] at b1 b0 bb
 clear a1 a0 ab a4
 have HM:=mixed_any (s.at n) (S16.at_ok hs hn) (w.heap.size+1) 331 w1 b1
 have O:=fun i=>blkW_add (s.at n) i
 have Q:=fun i=>blkW_lt (s.at n) i
 have m:=fun j k=>blk_step (s.at n) j k
 have G:=blkF_all (s.at n)
 have N:=fun j=>Z3T (s.at n) j
 have u:(wdV ((s.at n).rounds 10).toL).toArray.size=16:=rfl
 have r:(wdV ((s.at n).rounds 10).toL).toArray.all (·.oneCell')=true:=by simp [wdV,Value.oneCell']
 have c:∀ i,i<16→(wdV ((s.at n).rounds 10).toL).toArray[i]? = some (.int .u32 (((s.at n).rounds 10).toL.getD i 0:Nat)):=fun i hi=>by rw [List.getElem?_toArray];exact toL_get _ i hi
 have t:∀ i,i<16→(wdV (s.at n).toL)[i]? = some (.int .u32 ((s.at n).toL.getD i 0:Nat)):=fun i hi=>toL_get _ i hi
 obtain⟨L,a2⟩:∃ L,L=(wdV ((s.at n).rounds 10).toL).toArray:=⟨_,rfl⟩
 rw [← a2] at HM u r c
 clear a2
 have d:(prog.info? 331).map (·.size)=some L.size:=by rw [u];kernel_rfl
 generalize (s.at n).rounds 10=T at *
 have R:Hid (Row w1 (w.heap.size+1) 331 (wdV (s.at n).toL)∧Row w1 w.heap.size 147 (byV (List.replicate 64 0))∧Below w.heap.size w w1):=⟨b1,b0,bb⟩
 clear b1 b0 bb
 generalize s.at n=S at *
 go_enter func239,ntmps239
 go_wp2_with (first | refine wpList_load_row rfl 331 _ rfl g rfl 331 _ (0,0) _ (Y _) underlying331 rfl b ?_ | refine wpList_store_row rfl 331 _ _ rfl (w.heap.size+1) F rfl rfl 331 _ (heap_alloc2_new w _ _) b (by rw [B];rfl) z ?_)
 refine HM.mono ?_
 rintro e a ⟨rfl,I⟩
 have J:=R.out.1.below I R.out.1.lt
 have U:=R.out.2.1.below I R.out.2.1.lt
 have q:=R.out.2.2.trans (I.mono R.out.2.2.size)
 have ad:w.heap.size+1<a.heap.size:=J.lt
 clear HM I R K a3 Y a9 a7 b z B
 obtain⟨w3,X⟩:∃ w3,((a.alloc (.cells #[.int .u32 0,.int .u32 0,.int .u32 0,.int .u32 0,.int .u32 0,.int .u32 0,.int .u32 0,.int .u32 0,.int .u32 0,.int .u32 0,.int .u32 0,.int .u32 0,.int .u32 0,.int .u32 0,.int .u32 0,.int .u32 0] 331)).setRow a.heap.size L).alloc (.cells #[.int .u8 0,.int .u8 0,.int .u8 0,.int .u8 0,.int .u8 0,.int .u8 0,.int .u8 0,.int .u8 0,.int .u8 0,.int .u8 0,.int .u8 0,.int .u8 0,.int .u8 0,.int .u8 0,.int .u8 0,.int .u8 0,.int .u8 0,.int .u8 0,.int .u8 0,.int .u8 0,.int .u8 0,.int .u8 0,.int .u8 0,.int .u8 0,.int .u8 0,.int .u8 0,.int .u8 0,.int .u8 0,.int .u8 0,.int .u8 0,.int .u8 0,.int .u8 0,.int .u8 0,.int .u8 0,.int .u8 0,.int .u8 0,.int .u8 0,.int .u8 0,.int .u8 0,.int .u8 0,.int .u8 0,.int .u8 0,.int .u8 0,.int .u8 0,.int .u8 0,.int .u8 0,.int .u8 0,.int .u8 0,.int .u8 0,.int .u8 0,.int .u8 0,.int .u8 0,.int .u8 0,.int .u8 0,.int .u8 0,.int .u8 0,.int .u8 0,.int .u8 0,.int .u8 0,.int .u8 0,.int .u8 0,.int .u8 0,.int .u8 0,.int .u8 0] 147)=w3:=⟨_,rfl⟩
 have A:(a.alloc (.cells L 331)).alloc (.cells #[.int .u8 0,.int .u8 0,.int .u8 0,.int .u8 0,.int .u8 0,.int .u8 0,.int .u8 0,.int .u8 0,.int .u8 0,.int .u8 0,.int .u8 0,.int .u8 0,.int .u8 0,.int .u8 0,.int .u8 0,.int .u8 0,.int .u8 0,.int .u8 0,.int .u8 0,.int .u8 0,.int .u8 0,.int .u8 0,.int .u8 0,.int .u8 0,.int .u8 0,.int .u8 0,.int .u8 0,.int .u8 0,.int .u8 0,.int .u8 0,.int .u8 0,.int .u8 0,.int .u8 0,.int .u8 0,.int .u8 0,.int .u8 0,.int .u8 0,.int .u8 0,.int .u8 0,.int .u8 0,.int .u8 0,.int .u8 0,.int .u8 0,.int .u8 0,.int .u8 0,.int .u8 0,.int .u8 0,.int .u8 0,.int .u8 0,.int .u8 0,.int .u8 0,.int .u8 0,.int .u8 0,.int .u8 0,.int .u8 0,.int .u8 0,.int .u8 0,.int .u8 0,.int .u8 0,.int .u8 0,.int .u8 0,.int .u8 0,.int .u8 0,.int .u8 0] 147)=w3:=by rw [← X,World.setRow_alloc_new]
 have m3:w3.heap[a.heap.size]? = some (.cells L 331 (0,0)):=by rw [← A];exact heap_alloc2_old a _ _
 have n3:Row w3 (a.heap.size+1) 147 (rowF 64 (blkF (blkN S 0))):=by rw [← A];exact heap_alloc2_new a _ _
 have b3:Below a.heap.size a w3:=by rw [← A];exact ((Below.refl _ _).alloc (Nat.le_refl _) _).alloc (by simp) _
 have l:=J.below b3 J.lt
 have f:=U.below b3 U.lt
 have h:=q.trans (b3.mono q.size)
 have HL:Hid (Row w3 (a.heap.size+1) 147 (rowF 64 (blkF (blkN S 0)))∧Row w3 (w.heap.size+1) 331 (wdV S.toL)∧Row w3 w.heap.size 147 (byV (List.replicate 64 0))∧Below w.heap.size w w3):=⟨n3,l,f,h⟩
 clear J U q l f h n3 b3 A
 go_wp2_with (first | refine wpList_store_row rfl 331 _ _ rfl a.heap.size L rfl rfl 331 _ (heap_alloc_new a _) d (by rw [u];rfl) r ?_ | refine wpList_load_row rfl 331 _ rfl a.heap.size rfl 331 _ (0,0) _ m3 underlying331 rfl d ?_)
 clear X m3 d r u
 go_loopw [17] (fun i wr=> ∃ j:Nat,j≤16∧i= .int .i64 j∧Row wr (a.heap.size+1) 147 (rowF 64 (blkF (blkN S j)))∧Row wr (w.heap.size+1) 331 (wdV S.toL)∧Row wr w.heap.size 147 (byV (List.replicate 64 0))∧Below w.heap.size w wr) (fun i _=>16-(intOf i).toNat)
 case atStart=>exact⟨0,Nat.zero_le _,rfl,HL.out⟩
 case round =>
  clear HL
  obtain⟨j,hj,rfl,D,J,U,q⟩:=hrel
  by_cases V:j<16
  ·have ae:=fun w=>Z50 L j _ V (c j V) w
   have c1:wr.cell? ⟨w.heap.size+1,j,none⟩=some (.int .u32 (S.toL.getD j 0:Nat)):=by rw [J.cell,t j V]
   have v1:=O j
   have lW:=Q j
   have Z:=fun k=>m j k
   have d0:=D.cellF (4*j) (by omega)
   have d1:=D.cellF (4*j+1) (by omega)
   have d2:=D.cellF (4*j+2) (by omega)
   have d3:=D.cellF (4*j+3) (by omega)
   have ff:∀ i,wr.frozen? ⟨a.heap.size+1,i,none⟩=false:=fun i=>D.frozen i
   generalize blkW S j=W at *
   generalize T.toL.getD j 0=x at *
   generalize S.toL.getD j 0=y at *
   have k3:=(((D.setF (4*j) (.int .u8 ((W:Int)%256))).setF (4*j+1) (.int .u8 ((W:Int)/256%256))).setF (4*j+2) (.int .u8 ((W:Int)/65536%256))).setF (4*j+3) (.int .u8 ((W:Int)/16777216))
   have M:(rowF 64 fun k=>if k=4*j+3 then Value.int .u8 ((W:Int)/16777216) else if k=4*j+2 then Value.int .u8 ((W:Int)/65536%256) else if k=4*j+1 then Value.int .u8 ((W:Int)/256%256) else if k=4*j then Value.int .u8 ((W:Int)%256) else blkF (blkN S j) k)=rowF 64 (blkF (blkN S (j+1))):=Z10 fun k _=>by
    show _=Value.int .u8 ((blkN S (j+1)).getD k 0:Nat)
    rw [← Z k]
    by_cases h3:k=4*j+3
    ·rw [if_pos h3,if_pos h3,Nat.mod_eq_of_lt (by omega)];rfl
    ·rw [if_neg h3,if_neg h3]
     by_cases h2:k=4*j+2
     ·rw [if_pos h2,if_pos h2];rfl
     ·rw [if_neg h2,if_neg h2]
      by_cases h1:k=4*j+1
      ·rw [if_pos h1,if_pos h1];rfl
      ·rw [if_neg h1,if_neg h1]
       by_cases h0:k=4*j
       ·rw [if_pos h0,if_pos h0];rfl
       ·rw [if_neg h0,if_neg h0];rfl
   rw [M] at k3
   have ho:Only (a.heap.size+1) wr ((((wr.setCell ⟨a.heap.size+1,4*j,none⟩ (.int .u8 ((W:Int)%256))).setCell ⟨a.heap.size+1,4*j+1,none⟩ (.int .u8 ((W:Int)/256%256))).setCell ⟨a.heap.size+1,4*j+2,none⟩ (.int .u8 ((W:Int)/65536%256))).setCell ⟨a.heap.size+1,4*j+3,none⟩ (.int .u8 ((W:Int)/16777216))):=((((Only.refl _ _).setCell _ _).setCell _ _).setCell _ _).setCell _ _
   have l:=J.only ho (by omega)
   have f:=U.only ho (by omega)
   have h:=q.trans ((ho.below (Nat.le_of_lt D.lt)).mono (by omega))
   have HR:Hid (Row ((((wr.setCell ⟨a.heap.size+1,4*j,none⟩ (.int .u8 ((W:Int)%256))).setCell ⟨a.heap.size+1,4*j+1,none⟩ (.int .u8 ((W:Int)/256%256))).setCell ⟨a.heap.size+1,4*j+2,none⟩ (.int .u8 ((W:Int)/65536%256))).setCell ⟨a.heap.size+1,4*j+3,none⟩ (.int .u8 ((W:Int)/16777216))) (a.heap.size+1) 147 (rowF 64 (blkF (blkN S (j+1))))∧Row ((((wr.setCell ⟨a.heap.size+1,4*j,none⟩ (.int .u8 ((W:Int)%256))).setCell ⟨a.heap.size+1,4*j+1,none⟩ (.int .u8 ((W:Int)/256%256))).setCell ⟨a.heap.size+1,4*j+2,none⟩ (.int .u8 ((W:Int)/65536%256))).setCell ⟨a.heap.size+1,4*j+3,none⟩ (.int .u8 ((W:Int)/16777216))) (w.heap.size+1) 331 (wdV S.toL)∧Row ((((wr.setCell ⟨a.heap.size+1,4*j,none⟩ (.int .u8 ((W:Int)%256))).setCell ⟨a.heap.size+1,4*j+1,none⟩ (.int .u8 ((W:Int)/256%256))).setCell ⟨a.heap.size+1,4*j+2,none⟩ (.int .u8 ((W:Int)/65536%256))).setCell ⟨a.heap.size+1,4*j+3,none⟩ (.int .u8 ((W:Int)/16777216))) w.heap.size 147 (byV (List.replicate 64 0))∧Below w.heap.size w ((((wr.setCell ⟨a.heap.size+1,4*j,none⟩ (.int .u8 ((W:Int)%256))).setCell ⟨a.heap.size+1,4*j+1,none⟩ (.int .u8 ((W:Int)/256%256))).setCell ⟨a.heap.size+1,4*j+2,none⟩ (.int .u8 ((W:Int)/65536%256))).setCell ⟨a.heap.size+1,4*j+3,none⟩ (.int .u8 ((W:Int)/16777216)))):=⟨k3,l,f,h⟩
   clear M k3 ho l f h D J U q Z t c O Q m G N
   have q0:IntKind.i64.wrap (4*(j:Int))=4*j:=by rw [IntKind.wrap_i64];omega
   have q1:IntKind.i64.wrap (4*(j:Int)+1)=4*j+1:=by rw [IntKind.wrap_i64];omega
   have q2:IntKind.i64.wrap (4*(j:Int)+2)=4*j+2:=by rw [IntKind.wrap_i64];omega
   have q3:IntKind.i64.wrap (4*(j:Int)+3)=4*j+3:=by rw [IntKind.wrap_i64];omega
   have t0:(4*(j:Int)).toNat=4*j:=by omega
   have t1:(4*(j:Int)+1).toNat=4*j+1:=by omega
   have t2:(4*(j:Int)+2).toNat=4*j+2:=by omega
   have t3:(4*(j:Int)+3).toNat=4*j+3:=by omega
   have r0:(0:Int)≤4*(j:Int):=by omega
   have r1:(0:Int)≤4*(j:Int)+1:=by omega
   have r2:(0:Int)≤4*(j:Int)+2:=by omega
   have r3:(0:Int)≤4*(j:Int)+3:=by omega
   have s0:4*(j:Int)<64:=by omega
   have s1:4*(j:Int)+1<64:=by omega
   have s2:4*(j:Int)+2<64:=by omega
   have s3:4*(j:Int)+3<64:=by omega
   have s4:(j:Int)<16:=by omega
   go_wp2_with fail
   go_roundw
   case rel=>exact⟨j+1,by omega,by go_num,HR.out⟩
   case measure=>simp [intOf];omega
  ·obtain rfl:j=16:=by omega
   rw [G] at D
   obtain⟨C,E⟩:∃ C,C=(byV (blkL S)).toArray:=⟨_,rfl⟩
   have B:C.size=64:=by rw [E];simp [byV,Z1x]
   have z:C.all (·.oneCell')=true:=by rw [E];simp [byV,Value.oneCell']
   have l:wr.heap[a.heap.size+1]? = some (.cells C 147 (0,0)):=by rw [E];exact D
   have ac:Hid (C=(byV (blkL S)).toArray):=E
   clear E D J t c O Q m G N
   have f:wr.heap[w.heap.size]? = some (.cells (byV (List.replicate 64 0)).toArray 147 (0,0)):=U
   have a5:(byV (List.replicate 64 0)).toArray.size=C.size:=by rw [B];rfl
   have b:(prog.info? 147).map (·.size)=some C.size:=by rw [B];kernel_rfl
   have a8:=Z0l q (Nat.le_refl _) C
   have a6:=run_loadVar_row (P:=prog) (wr.setRow w.heap.size C) w.heap.size 147 147 C (0,0) _ (setRow_heap _ _ _ _ _ _ f) underlying147 rfl b
   go_wp2_with (first | refine wpList_load_row rfl 147 _ rfl (a.heap.size+1) rfl 147 _ (0,0) _ l underlying147 rfl b ?_ | refine wpList_store_row rfl 147 _ _ rfl w.heap.size C rfl rfl 147 _ f b a5 z ?_)
   exact bodyPost_ret (v:= .agg C) (by simp [results,Tryz.results239,asAddr,Act.put,a6]) rfl ⟨by rw [ac.out],a8⟩
theorem Z7Q (i n x k:Nat)(hk:k=2 ^ i)(hn:n<2 ^ i)(hx:x<256)(hi:i≤24):bits .or .u32 (n:Int) ((x:Int)*(k:Int))=((n+x*k:Nat):Int):=by
 subst hk
 have b:2 ^ i≤2 ^ 24:=Nat.pow_le_pow_right (by decide) hi
 have a:x*2 ^ i≤255*2 ^ i:=Nat.mul_le_mul_right _ (by omega)
 rw [← Int.natCast_mul,u32_or_nat _ _ (by omega) (by omega),Nat.or_comm,nat_join i _ _ (Nat.mul_mod_left _ _) hn,Nat.add_comm]
theorem Z7F (x0 x1 x2 x3:Nat)(h0:x0<256)(h1:x1<256)(h2:x2<256)(h3:x3<256) :
  ∃ n1 n2:Nat,bits .or .u32 (x0:Int) ((x1:Int)*256)=(n1:Int)∧bits .or .u32 (n1:Int) ((x2:Int)*65536)=(n2:Int)∧bits .or .u32 (n2:Int) ((x3:Int)*16777216)=((x0+x1*256+x2*65536+x3*16777216:Nat):Int) :=
 ⟨x0+x1*256,x0+x1*256+x2*65536,Z7Q 8 _ x1 256 rfl (by omega) h1 (by decide),Z7Q 16 _ x2 65536 rfl (by omega) h2 (by decide),Z7Q 24 _ x3 16777216 rfl (by omega) h3 (by decide)⟩
theorem Z2I (s:ByteArray)(i:Nat)(h:i<s.size):(Z00 s).getD i 0=s[i].toNat:=by
 rw [Z0b _ _ (by rw [Z01];exact h)]
 simp [Z00]
 rfl
theorem word_any (s:ByteArray)(hs:4≤s.size)(w:World) :
  Calls prog 238 #[.string s] w fun e w'=>e= .returned (.int .u32 (Z0w (Z00 s) 0:Nat))∧∃ n,w'=w.drewN n:=by
 obtain⟨r,l,i,t,a⟩:=Z7F s[0].toNat s[1].toNat s[2].toNat s[3].toNat s[0].toNat_lt s[1].toNat_lt s[2].toNat_lt s[3].toNat_lt
 have e:Z0w (Z00 s) 0=s[0].toNat+s[1].toNat*256+s[2].toNat*65536+s[3].toNat*16777216:=by
  unfold Z0w
  rw [Z2I s 0 (by omega),Z2I s (0+1) (by omega),Z2I s (0+2) (by omega),Z2I s (0+3) (by omega)]
 rw [← e] at a
 generalize Z0w (Z00 s) 0=W at *
 clear e
 have o:=s[0].toNat_lt
 have p:=s[1].toNat_lt
 have g:=s[2].toNat_lt
 have k:=s[3].toNat_lt
 have m:(0:Int)<s.size:=by omega
 have c:(1:Int)<s.size:=by omega
 have j:(2:Int)<s.size:=by omega
 have d:(3:Int)<s.size:=by omega
 have q:0<s.size:=by omega
 have f:1<s.size:=by omega
 have b:2<s.size:=by omega
 have h:3<s.size:=by omega
 go_enter func238,ntmps238
 go_wp2_with fail
 go_quiet (fail)
 go_wp2
 go_ret
 exact⟨rfl,_,rfl⟩
def stF (K N:List Nat)(i j k:Nat):Nat:=if k=0 then 0x61707865 else if k=1 then 0x3320646e else if k=2 then 0x79622d32 else if k=3 then 0x6b206574 else if 4≤k∧k<4+i then Z0w K (4*(k-4)) else if 13≤k∧k<13+j then Z0w N (4*(k-13)) else 0
theorem stF_key (K N:List Nat)(i k:Nat)(h:i<8):(if k=4+i then Z0w K (4*i) else stF K N i 0 k)=stF K N (i+1) 0 k:=by
 unfold stF
 by_cases e:k=4+i
 ·subst e
  rw [if_pos rfl,if_neg (by omega),if_neg (by omega),if_neg (by omega),if_neg (by omega),if_pos (by omega),show 4+i-4=i by omega]
 ·rw [if_neg e]
  have a:(4≤k∧k<4+(i+1))=(4≤k∧k<4+i):=propext ⟨fun h=>by omega,fun h=>by omega⟩
  simp only [a]
theorem stF_nonce (K N:List Nat)(j k:Nat):(if k=13+j then Z0w N (4*j) else stF K N 8 j k)=stF K N 8 (j+1) k:=by
 unfold stF
 by_cases e:k=13+j
 ·subst e
  rw [if_pos rfl,if_neg (by omega),if_neg (by omega),if_neg (by omega),if_neg (by omega),if_neg (by omega),if_pos (by omega),show 13+j-13=j by omega]
 ·rw [if_neg e]
  have a:(13≤k∧k<13+(j+1))=(13≤k∧k<13+j):=propext ⟨fun h=>by omega,fun h=>by omega⟩
  simp only [a]
theorem stF_all (K N:List Nat):(rowF 16 fun k=> .int .u32 (stF K N 8 3 k:Nat))=wdV (st16 K N 0).toL:=rfl
theorem wordL_drop (l:List Nat)(p:Nat):Z0w (l.drop p) 0=Z0w l p:=by
 unfold Z0w
 have h:∀ i,(l.drop p).getD i 0=l.getD (p+i) 0:=fun i=>by rw [List.getD_eq_getElem?_getD,List.getD_eq_getElem?_getD,List.getElem?_drop]
 rw [h,h,h,h]
 rfl
theorem Z5D (s:ByteArray)(p:Nat):Z0w (Z00 (s.extract p s.size)) 0=Z0w (Z00 s) p:=by
 rw [Z0h,List.take_of_length_le (by simp [Z01]),wordL_drop]
set_option maxRecDepth 10000 in
theorem Z7R (key nonce:ByteArray)(hk:key.size=32)(hn:nonce.size=12)(w:World) :
  Calls prog 232 #[.string key,.string nonce] w fun e w'=>e= .returned (.agg (wdV (st16 (Z00 key) (Z00 nonce) 0).toL).toArray)∧Below w.heap.size w w':=by
 have D:Hid (∀ i,i<8→4≤(key.extract (4*i) key.size).size∧Z0w (Z00 (key.extract (4*i) key.size)) 0=Z0w (Z00 key) (4*i)):=fun i hi=>⟨by simp;omega,Z5D _ _⟩
 have x:Hid (∀ i,i<3→4≤(nonce.extract (4*i) nonce.size).size∧Z0w (Z00 (nonce.extract (4*i) nonce.size)) 0=Z0w (Z00 nonce) (4*i)):=fun i hi=>⟨by simp;omega,Z5D _ _⟩
 have G:Hid (∀ o1 o2,Below w.heap.size w ((w.alloc o1).alloc o2)):=fun o1 o2=>((Below.refl _ _).alloc (Nat.le_refl _) _).alloc (by simp) _
 generalize Z00 key=K at *
 generalize Z00 nonce=N at *
 go_enter func232,ntmps232
 go_wp2_with fail
 go_loopw [9] (fun i wr=> ∃ j:Nat,j≤8∧i= .int .i64 j∧Row wr (w.heap.size+1) 331 (rowF 16 fun k=> .int .u32 (stF K N j 0 k:Nat))∧Row wr w.heap.size 331 (wdV (List.replicate 16 0))∧Below w.heap.size w wr) (fun i _=>8-(intOf i).toNat)
 case atStart=>exact⟨0,Nat.zero_le _,rfl,heap_alloc2_new w _ _,heap_alloc2_old w _ _,G.out _ _⟩
 case round =>
  clear G
  obtain⟨j,Q,rfl,g,s,a⟩:=hrel
  by_cases q:j<8
  ·obtain⟨b,m⟩:=D.out j q
   have r:=fun w=>word_any (key.extract (4*j) key.size) b w
   rw [m] at r
   rw [hk] at r
   have l:(rowF 16 fun k=>if k=4+j then Value.int .u32 (Z0w K (4*j):Nat) else .int .u32 (stF K N j 0 k:Nat))=rowF 16 fun k=> .int .u32 (stF K N (j+1) 0 k:Nat):=Z10 fun k _=>by rw [← stF_key K N j k q];split <;> rfl
   have H:IntKind.i64.wrap (4*(j:Int))=4*j:=by rw [IntKind.wrap_i64];omega
   have R:IntKind.i64.wrap (4+(j:Int))=4+j:=by rw [IntKind.wrap_i64];omega
   have T:(4*(j:Int)).toNat=4*j:=by omega
   have J:(4+(j:Int)).toNat=4+j:=by omega
   have S:(0:Int)≤4*(j:Int):=by omega
   have U:(0:Int)≤4+(j:Int):=by omega
   have I:4*(j:Int)≤32:=by omega
   have M:4+(j:Int)<16:=by omega
   have O:=g.cellF (4+j) (by omega)
   have L:wr.frozen? ⟨w.heap.size+1,4+j,none⟩=false:=g.frozen _
   have t:=g.setF (4+j) (.int .u32 (Z0w K (4*j):Nat))
   rw [l] at t
   have d:Row (wr.setCell ⟨w.heap.size+1,4+j,none⟩ (.int .u32 (Z0w K (4*j):Nat))) w.heap.size 331 (wdV (List.replicate 16 0)):=(Below.heap_setCell _ _ _ _ (by simp)).trans s
   have c:=a.setCell (p:=⟨w.heap.size+1,4+j,none⟩) (by simp) (.int .u32 (Z0w K (4*j):Nat))
   have z:Hid (∀ n,Row ((wr.setCell ⟨w.heap.size+1,4+j,none⟩ (.int .u32 (Z0w K (4*j):Nat))).drewN n) (w.heap.size+1) 331 (rowF 16 fun k=> .int .u32 (stF K N (j+1) 0 k:Nat))∧Row ((wr.setCell ⟨w.heap.size+1,4+j,none⟩ (.int .u32 (Z0w K (4*j):Nat))).drewN n) w.heap.size 331 (wdV (List.replicate 16 0))∧Below w.heap.size w ((wr.setCell ⟨w.heap.size+1,4+j,none⟩ (.int .u32 (Z0w K (4*j):Nat))).drewN n)):=fun n=>⟨t,d,c.trans ⟨rfl,rfl,rfl,Nat.le_refl _,fun _ _=>rfl⟩⟩
   clear l t d c g s a m b D x
   generalize Z0w K (4*j)=W at *
   go_wp2_with fail
   refine (r _).mono ?_
   rintro e w' ⟨rfl,n,rfl⟩
   clear r
   go_wp2
   go_roundw
   case rel=>exact⟨j+1,by omega,by go_num,z.out _⟩
   case measure=>simp [intOf];omega
  ·obtain rfl:j=8:=by omega
   have F:Hid (Row wr (w.heap.size+1) 331 (rowF 16 fun k=> .int .u32 (stF K N 8 0 k:Nat))∧Row wr w.heap.size 331 (wdV (List.replicate 16 0))∧Below w.heap.size w wr):=⟨g,s,a⟩
   clear g s a D
   rw [show ((8:Nat):Int)=8 from rfl]
   go_wp2_with fail
   go_loopw [21] (fun i wr=> ∃ j:Nat,j≤3∧i= .int .i64 j∧Row wr (w.heap.size+1) 331 (rowF 16 fun k=> .int .u32 (stF K N 8 j k:Nat))∧Row wr w.heap.size 331 (wdV (List.replicate 16 0))∧Below w.heap.size w wr) (fun i _=>3-(intOf i).toNat)
   case atStart=>exact⟨0,Nat.zero_le _,rfl,F.out⟩
   case round =>
    clear F
    obtain⟨j,Q,rfl,g,s,a⟩:=hrel
    by_cases q:j<3
    ·obtain⟨b,m⟩:=x.out j q
     have r:=fun w=>word_any (nonce.extract (4*j) nonce.size) b w
     rw [m] at r
     rw [hn] at r
     have l:(rowF 16 fun k=>if k=13+j then Value.int .u32 (Z0w N (4*j):Nat) else .int .u32 (stF K N 8 j k:Nat))=rowF 16 fun k=> .int .u32 (stF K N 8 (j+1) k:Nat):=Z10 fun k _=>by rw [← stF_nonce K N j k];split <;> rfl
     have H:IntKind.i64.wrap (4*(j:Int))=4*j:=by rw [IntKind.wrap_i64];omega
     have R:IntKind.i64.wrap (13+(j:Int))=13+j:=by rw [IntKind.wrap_i64];omega
     have T:(4*(j:Int)).toNat=4*j:=by omega
     have J:(13+(j:Int)).toNat=13+j:=by omega
     have S:(0:Int)≤4*(j:Int):=by omega
     have U:(0:Int)≤13+(j:Int):=by omega
     have I:4*(j:Int)≤12:=by omega
     have M:13+(j:Int)<16:=by omega
     have O:=g.cellF (13+j) (by omega)
     have L:wr.frozen? ⟨w.heap.size+1,13+j,none⟩=false:=g.frozen _
     have t:=g.setF (13+j) (.int .u32 (Z0w N (4*j):Nat))
     rw [l] at t
     have d:Row (wr.setCell ⟨w.heap.size+1,13+j,none⟩ (.int .u32 (Z0w N (4*j):Nat))) w.heap.size 331 (wdV (List.replicate 16 0)):=(Below.heap_setCell _ _ _ _ (by simp)).trans s
     have c:=a.setCell (p:=⟨w.heap.size+1,13+j,none⟩) (by simp) (.int .u32 (Z0w N (4*j):Nat))
     have z:Hid (∀ n,Row ((wr.setCell ⟨w.heap.size+1,13+j,none⟩ (.int .u32 (Z0w N (4*j):Nat))).drewN n) (w.heap.size+1) 331 (rowF 16 fun k=> .int .u32 (stF K N 8 (j+1) k:Nat))∧Row ((wr.setCell ⟨w.heap.size+1,13+j,none⟩ (.int .u32 (Z0w N (4*j):Nat))).drewN n) w.heap.size 331 (wdV (List.replicate 16 0))∧Below w.heap.size w ((wr.setCell ⟨w.heap.size+1,13+j,none⟩ (.int .u32 (Z0w N (4*j):Nat))).drewN n)):=fun n=>⟨t,d,c.trans ⟨rfl,rfl,rfl,Nat.le_refl _,fun _ _=>rfl⟩⟩
     clear l t d c g s a m b x
     generalize Z0w N (4*j)=W at *
     go_wp2_with fail
     refine (r _).mono ?_
     rintro e w' ⟨rfl,n,rfl⟩
     clear r
     go_wp2
     go_roundw
     case rel=>exact⟨j+1,by omega,by go_num,z.out _⟩
     case measure=>simp [intOf];omega
    ·obtain rfl:j=3:=by omega
     rw [stF_all] at g
     obtain⟨h,o⟩:∃ h,h=(wdV (st16 K N 0).toL).toArray:=⟨_,rfl⟩
     have b:h.size=16:=by rw [o];rfl
     have u:h.all (·.oneCell')=true:=by rw [o];simp [wdV,Value.oneCell']
     have y:wr.heap[w.heap.size+1]? = some (.cells h 331 (0,0)):=by rw [o];exact g
     have C:Hid (h=(wdV (st16 K N 0).toL).toArray):=o
     clear o g x
     have d:wr.heap[w.heap.size]? = some (.cells (wdV (List.replicate 16 0)).toArray 331 (0,0)):=s
     have A:(wdV (List.replicate 16 0)).toArray.size=h.size:=by rw [b];rfl
     have f:(prog.info? 331).map (·.size)=some h.size:=by rw [b];kernel_rfl
     have E:=Z0l a (Nat.le_refl _) h
     have B:=run_loadVar_row (P:=prog) (wr.setRow w.heap.size h) w.heap.size 331 331 h (0,0) _ (setRow_heap _ _ _ _ _ _ d) underlying331 rfl f
     go_wp2_with (first | refine wpList_load_row rfl 331 _ rfl (w.heap.size+1) rfl 331 _ (0,0) _ y underlying331 rfl f ?_ | refine wpList_store_row rfl 331 _ _ rfl w.heap.size h rfl rfl 331 _ d f A u ?_)
     exact bodyPost_ret (v:= .agg h) (by simp [results,Tryz.results232,asAddr,Act.put,B]) rfl ⟨by rw [C.out],E⟩
def strN (l:List Nat):ByteArray:=strOfNums (l.map fun (x:Nat)=>(x:Int))
theorem Z0X (l:List Nat):(strN l).size=l.length:=by simp [strN,strOfNums_size]
theorem Z14 (l:List Nat)(h:Z03 l):Z00 (strN l)=l:=Z08 l h
theorem Z5E (w:World)(g t L:Nat)(l:List Value)(hl:l.length=L)(hr:Row w g t l)(s:ByteArray) :
  ∃ w',(Builtin.copy_ #[90,9] 3 #[.slice (some ⟨g,0,none⟩) L L,.string s]).run prog w= .ok (.int .i64 (min s.size L:Nat)) w'∧Row w' g t (byV ((Z00 s).take L)++l.drop (min s.size L))∧Only g w w':=by
 subst hl
 by_cases h:s.size≤l.length
 ·have b:=Nat.min_eq_left h
  have a:=run_copy_string (P:=prog) w 90 9 3 5 g 0 l.length l.length s underlying90 Z2W h (fun j hj=>by rw [Nat.zero_add,hr.cell,List.getElem?_eq_getElem (by omega)];rfl) (fun j _=>hr.frozen _)
  rw [numsV] at a
  refine⟨_,by rw [a,b];rfl,?_,Only.setCells _ _ _ (Only.refl _ _)⟩
  rw [b,List.take_of_length_le (by rw [Z01];exact h)]
  have:=Row.setCells (g:=g) (t:=t) (C:=l.drop s.size) (byV (Z00 s)) (l.take s.size) [] w 0 (by simp [byV,Z01];omega) rfl (by simpa using hr)
  simpa using this
 ·have b:min s.size l.length=l.length:=Nat.min_eq_right (by omega)
  have a:=Z2M (P:=prog) w 90 9 3 5 g 0 l.length l.length s underlying90 Z2W (by omega) (fun j hj=>by rw [Nat.zero_add,hr.cell,List.getElem?_eq_getElem (by omega)];rfl) (fun j _=>hr.frozen _)
  rw [List.map_take,numsV] at a
  have e:(byV (Z00 s)).take l.length=byV ((Z00 s).take l.length):=by simp [byV,List.map_take]
  rw [e] at a
  refine⟨_,by rw [a,b];rfl,?_,Only.setCells _ _ _ (Only.refl _ _)⟩
  rw [b]
  have:=Row.setCells (g:=g) (t:=t) (C:= []) (byV ((Z00 s).take l.length)) l [] w 0 (by simp [byV,Z01];omega) rfl (by simpa using hr)
  simpa using this
def Z0x:Nat:=1361129467683753853853498429727072845819
def leN:List Nat→Nat
 | []=>0
 | x :: l=>x+256*leN l
def leB (k n:Nat):List Nat:=(List.range k).map fun i=>n/2 ^ (8*i)%256
def Z36 (i x:Nat):Nat:=if i%4=3 then x%16 else if i%4=0∧0<i then x-x%4 else x
def Z0O (l:List Nat):List Nat:=(List.range 16).map fun i=>Z36 i (l.getD i 0)
def polyR (key:List Nat):Nat:=leN (Z0O key)
def Z3U (r h:Nat)(piece:List Nat):Nat:=(h+leN (piece ++ [1]))*r%Z0x
def Z4J (r:Nat)(l:List Nat):Nat→Nat
 | 0=>0
 | n+1=>Z3U r (Z4J r l n) ((l.drop (16*n)).take 16)
def Z5F (r:Nat)(l:List Nat):Nat:=Z4J r l ((l.length+15)/16)
def Z64 (key l:List Nat):List Nat:=leB 16 ((Z5F (polyR key) l+leN (key.drop 16))%340282366920938463463374607431768211456)
theorem Z2U (a b:List Nat):leN (a++b)=leN a+256 ^ a.length*leN b:=by
 induction a with
 | nil=>simp [leN]
 | cons x a ih =>
  show x+256*leN (a++b)=x+256*leN a+256 ^ (a.length+1)*leN b
  rw [ih,Nat.mul_add,Nat.pow_succ,Nat.mul_comm (256 ^ a.length) 256,Nat.mul_assoc]
  omega
theorem leN_lt (a:List Nat)(h:∀ x∈a,x<256):leN a<256 ^ a.length:=by
 induction a with
 | nil=>simp [leN]
 | cons x a ih =>
  have c:=h x (List.mem_cons_self ..)
  have b:=ih fun y hy=>h y (List.mem_cons_of_mem _ hy)
  show x+256*leN a<256 ^ (a.length+1)
  rw [Nat.pow_succ]
  omega
theorem Z11 (k n:Nat):(leB k n).length=k:=by simp [leB]
theorem Z37 (k n:Nat):∀ x∈leB k n,x<256:=fun x hx=>by
 obtain⟨i,_,rfl⟩:=List.mem_map.1 hx
 exact Nat.mod_lt _ (by decide)
theorem leB_succ (k n:Nat):leB (k+1) n=n%256 :: leB k (n/256):=by
 have e:∀ i,n/2 ^ (8*(i+1))%256=n/256/2 ^ (8*i)%256:=fun i=>by
  rw [Nat.div_div_eq_div_mul,Nat.mul_add,Nat.pow_add,Nat.mul_comm (2 ^ (8*i))]
 simp only [leB,List.range_succ_eq_map,List.map_cons,List.map_map,Nat.mul_zero,Nat.pow_zero,Nat.div_one,Function.comp_def,e,Nat.succ_eq_add_one]
theorem leB_leN:∀ (a:List Nat),(∀ x∈a,x<256)→leB a.length (leN a)=a
 | [],_=>rfl
 | x :: a,h=>by
  have h1:=h x (List.mem_cons_self ..)
  have h2:=leB_leN a fun y hy=>h y (List.mem_cons_of_mem _ hy)
  rw [List.length_cons,leB_succ,leN,show (x+256*leN a)%256=x by omega,show (x+256*leN a)/256=leN a by omega,h2]
theorem leN_leB:∀ (k n:Nat),leN (leB k n)=n%256 ^ k
 | 0,n=>by simp [leB,leN,Nat.mod_one]
 | k+1,n=>by
  rw [leB_succ,leN,leN_leB k,Nat.pow_succ,Nat.mul_comm (256 ^ k),Nat.mod_mul]
theorem Z6s (r:Nat)(l m:List Nat):∀ n,16*n≤l.length→Z4J r (l++m) n=Z4J r l n
 | 0,_=>rfl
 | n+1,h=>by
  rw [Z4J,Z4J,Z6s r l m n (by omega),List.drop_append_of_le_length (by omega),List.take_append_of_le_length (by simp;omega)]
theorem polyN_snoc (r:Nat)(l m:List Nat)(n:Nat)(h:l.length=16*n)(h1:0<m.length)(h2:m.length≤16):Z5F r (l++m)=Z3U r (Z5F r l) m:=by
 have b:((l++m).length+15)/16=n+1:=by rw [List.length_append];omega
 have a:(l.length+15)/16=n:=by omega
 rw [Z5F,Z5F,b,a,Z4J,Z6s r l m n (by omega),List.drop_append_of_le_length (by omega),List.drop_eq_nil_of_le (by omega),List.nil_append,List.take_of_length_le h2]
theorem polyN_lt (r:Nat)(l:List Nat):Z5F r l<Z0x:=by
 unfold Z5F
 cases (l.length+15)/16 with
 | zero=>exact (show 0<Z0x by decide)
 | succ n=>exact Nat.mod_lt _ (by decide)
theorem product_sum (x y z r s xrH xr xsH xs yrH yr ysH ys s0 c1 t0 c2 s1 c3 t1 c4:Nat)
  (e1:x*r=xrH*18446744073709551616+xr)(e2:x*s=xsH*18446744073709551616+xs)(e3:y*r=yrH*18446744073709551616+yr)(e4:y*s=ysH*18446744073709551616+ys)
  (e7:xs+yr=c1*18446744073709551616+s0)(e8:ys+z*r=c2*18446744073709551616+t0)(e9:s0+xrH=c3*18446744073709551616+s1)(e10:t0+(xsH+yrH+c1)+c3=c4*18446744073709551616+t1) :
  xr+s1*18446744073709551616+t1*340282366920938463463374607431768211456+(ysH+z*s+c2+c4)*6277101735386680763835789423207666416102355444464034512896=(x+y*18446744073709551616+z*340282366920938463463374607431768211456)*(r+s*18446744073709551616):=by
 have a:(x+y*18446744073709551616+z*340282366920938463463374607431768211456)*(r+s*18446744073709551616)=x*r+(x*s+y*r)*18446744073709551616+(y*s+z*r)*340282366920938463463374607431768211456+z*s*6277101735386680763835789423207666416102355444464034512896:=by
  rw [Nat.add_mul,Nat.add_mul,Nat.mul_add,Nat.mul_add,Nat.mul_add,← Nat.mul_assoc x s,Nat.mul_right_comm y _ r,Nat.mul_mul_mul_comm y _ s,Nat.mul_right_comm z _ r,Nat.mul_mul_mul_comm z _ s]
  omega
 rw [a]
 generalize x*r=p1 at *
 generalize x*s=p2 at *
 generalize y*r=p3 at *
 generalize y*s=p4 at *
 generalize z*r=p5 at *
 generalize z*s=p6 at *
 omega
theorem folded_sum (a b c d x0 k0 y0 k1 x1 k2 y1 k3:Nat)
  (e1:a+(c-c%4)=k0*18446744073709551616+x0)(e2:b+d+k0=k1*18446744073709551616+y0)(e3:x0+(c/4+d%4*4611686018427387904)=k2*18446744073709551616+x1)(e4:y0+d/4+k2=k3*18446744073709551616+y1) :
  a+b*18446744073709551616+c*340282366920938463463374607431768211456+d*6277101735386680763835789423207666416102355444464034512896=x1+y1*18446744073709551616+(c%4+k1+k3)*340282366920938463463374607431768211456+Z0x*(c/4+d*4611686018427387904):=by
 unfold Z0x
 omega
theorem Z65 (N V H:Nat)(h:N=V+Z0x*H):V%Z0x=N%Z0x:=by
 rw [h,Nat.add_mul_mod_self_left]
theorem folded_low (c d x1 y1 z:Nat)(a b:Nat)(ha:a<18446744073709551616)(hb:b<18446744073709551616)(hd:d<9223372036854775808)(hc:c<18446744073709551616)(hx:x1<18446744073709551616)(hy:y1<18446744073709551616)
  (e:a+b*18446744073709551616+c*340282366920938463463374607431768211456+d*6277101735386680763835789423207666416102355444464034512896=x1+y1*18446744073709551616+z*340282366920938463463374607431768211456+Z0x*(c/4+d*4611686018427387904)):z≤4:=by
 unfold Z0x at e
 omega
end Bx
end Go.Proofs.YtijpgmkdnemmbaaGreatDoor
