/- Part 26. -/
import Derived.Test.YtijpgmkdnemmbaaGreatDoorMg25
set_option maxRecDepth 20000
set_option maxHeartbeats 8000000
open Go.RowKit Go.Proofs.Tryz
namespace Go.Proofs.YtijpgmkdnemmbaaGreatDoor
theorem Z5L {n a:Nat}{r:ByteArray}(h:8*a+8≤n)(hr:r.size=512):FitW n ⟨(a:Int),r⟩:=⟨⟨a,rfl,h⟩,hr⟩
def aB:Blk:=⟨40,1,false⟩
def aR0 (B:Nat):ByteArray:=supR (Z07 B) newV (Z0K 48 0)
def aS1 (B:Nat):VS:=supP (Z07 B) newV (Z0K 48 0)
def aP1 (B:Nat):PS:=folP [[⟨1-0,Z0c 0 512⟩,⟨2,Z0c 0 512⟩],[⟨0,aR0 B⟩]] (newP 784)
def aW:List Wt:=wrsL [aB]
def aS2 (B:Nat):VS:=proP (Z07 B) (aS1 B) aW (Z0K 48 1)
def aRp (B:Nat):ByteArray:=proR (Z07 B) (aS1 B) aW (Z0K 48 1)
def aS3 (B:Nat):VS:=supP (Z07 B) (aS2 B) (Z0K 48 1)
def aR1 (B:Nat):ByteArray:=supR (Z07 B) (aS2 B) (Z0K 48 1)
def aP2 (B:Nat):PS:=folP [Z1S 3 0 aW,[⟨2,aRp B⟩],aW,[⟨1,aR1 B⟩]] (aP1 B)
theorem Z3r (ep:Int)(h:ep=0∨ep=1):(Z0K 48 ep).err=0∧(Z0K 48 ep).hd.err=0∧(Z0K 48 ep).hdC.err=0:=by
 have a:(Z0K 48 ep).root.size=32:=Z0T 3 32
 rcases h with rfl | rfl
 all_goals
  refine⟨?_,by decide,by decide⟩
  unfold Sp.err Z18
  rw [if_pos a]
  decide
theorem aW_eq:aW= [⟨40,aB.wt.raw⟩]:=rfl
theorem Z5M:aB.wt.raw.size=512:=aB.raw_size
theorem Z3c (B:Nat):(aS1 B).texts.length+10≤100∧(aS1 B).seals.length+10≤100∧(aS2 B).texts.length+5≤100∧(aS2 B).seals.length+5≤100∧(aS3 B).texts.length+2≤100∧(aS3 B).seals.length+2≤100:=by
 obtain⟨j,i,t⟩:=Z3r 0 (.inl rfl)
 obtain⟨d,m,k⟩:=Z3r 1 (.inr rfl)
 obtain⟨_,_,hh⟩:=Z2V B newV j i
 have c:=Z5j newV (Z0K 48 0).hd (Z0K 48 0).txt
 rw [← hh] at c
 have o:newV.texts.length=0:=rfl
 have u:newV.seals.length=0:=rfl
 have v:(aS1 B).texts.length=newV.texts.length:=c.1
 have p:(aS1 B).seals.length≤newV.seals.length+1:=c.2
 have e:(Z07 B).room (aS1 B) 1:=by
  show (aS1 B).texts.length+1≤1000000∧(aS1 B).seals.length+1≤1000000
  omega
 obtain⟨_,_,g⟩:=Z6e B (aS1 B) (l:=aW) e (by rw [aW_eq];decide) d k
 have b:=Z5j (Z5V (aS1 B) (Z0z aW)) (Z0K 48 1).hdC (proT (Z07 B) (aS1 B) aW (Z0K 48 1))
 rw [← g] at b
 have n:(Z5V (aS1 B) (Z0z aW)).texts.length≤(aS1 B).texts.length+1:=by
  show (addN (aS1 B).texts (Z0z aW)).length≤_
  exact Z1F (aS1 B).texts (Z0z aW)
 have x:(Z5V (aS1 B) (Z0z aW)).seals.length=(aS1 B).seals.length:=rfl
 have s:(aS2 B).texts.length=(Z5V (aS1 B) (Z0z aW)).texts.length:=b.1
 have q:(aS2 B).seals.length≤(Z5V (aS1 B) (Z0z aW)).seals.length+1:=b.2
 obtain⟨_,_,f⟩:=Z2V B (aS2 B) d m
 have a:=Z5j (aS2 B) (Z0K 48 1).hd (Z0K 48 1).txt
 rw [← f] at a
 have w:(aS3 B).texts.length=(aS2 B).texts.length:=a.1
 have r:(aS3 B).seals.length≤(aS2 B).seals.length+1:=a.2
 omega
theorem Z3F (B:Nat):Z26 (aS3 B) (Z0K 48 0).hd (Z0K 48 0).txt (aR0 B)∧Z26 (aS3 B) (Z0K 48 1).hd (Z0K 48 1).txt (aR1 B)∧Z26 (aS3 B) (Z0K 48 1).hdC (proT (Z07 B) (aS1 B) aW (Z0K 48 1)) (aRp B):=by
 obtain⟨k,d,s⟩:=Z3r 0 (.inl rfl)
 obtain⟨a,i,n⟩:=Z3r 1 (.inr rfl)
 have c:=Z3c B
 have g:(Z07 B).room (aS1 B) 1:=by
  show (aS1 B).texts.length+1≤1000000∧(aS1 B).seals.length+1≤1000000
  omega
 obtain⟨_,o,r⟩:=Z2V B newV k d
 obtain⟨_,f,q⟩:=Z6e B (aS1 B) (l:=aW) g (by rw [aW_eq];decide) a n
 obtain⟨_,p,m⟩:=Z2V B (aS2 B) a i
 have e:aS2 B=Z1G (Z5V (aS1 B) (Z0z aW)) (Z0K 48 1).hdC (proT (Z07 B) (aS1 B) aW (Z0K 48 1)):=q
 have b:aS3 B=Z1G (aS2 B) (Z0K 48 1).hd (Z0K 48 1).txt:=m
 have hh:Z26 (aS1 B) (Z0K 48 0).hd (Z0K 48 0).txt (aR0 B):=o
 have j:Z26 (aS2 B) (Z0K 48 1).hdC (proT (Z07 B) (aS1 B) aW (Z0K 48 1)) (aRp B):=f
 refine⟨?_,p,?_⟩
 ·rw [b]
  refine Z26.add ?_ _ _
  rw [e]
  exact (hh.hash _).add _ _
 ·rw [b]
  exact j.add _ _
theorem Z73 (B:Nat):folE [[⟨1-0,Z0c 0 512⟩,⟨2,Z0c 0 512⟩],[⟨0,aR0 B⟩]] (newP 784)=0∧Fine (aP1 B) 784∧(aP1 B).wait= []∧Seen (aP1 B) 0 (aR0 B):=by
 obtain⟨hh,_,_⟩:=Z3F B
 have f:=Z3c B
 have i:=hh.size (by omega)
 have d:Fine (newP 784) 784:=⟨rfl,rfl,by show (List.replicate 784 (Z0c 0 64)).length=784;rw [List.length_replicate]⟩
 obtain⟨k,g,e,j⟩:=Z71 [[⟨1-0,Z0c 0 512⟩,⟨2,Z0c 0 512⟩],[⟨0,aR0 B⟩]] d rfl (by
  intro l c x b
  simp only [List.mem_cons,List.not_mem_nil,or_false] at c
  rcases c with rfl | rfl
  ·simp only [List.mem_cons,List.not_mem_nil,or_false] at b
   rcases b with rfl | rfl
   ·exact⟨⟨1,rfl,by decide⟩,Z0T _ _⟩
   ·exact⟨⟨2,rfl,by decide⟩,Z0T _ _⟩
  ·simp only [List.mem_cons,List.not_mem_nil,or_false] at b
   subst b
   exact Z5L (a:=0) (by decide) i)
 exact⟨k,g,e,j 0 _ (by
  show SeenL [⟨1-0,Z0c 0 512⟩,⟨2,Z0c 0 512⟩,⟨0,aR0 B⟩] _ _ _
  unfold SeenL
  simp [Z4p])⟩
theorem Z3k (B:Nat):folE [Z1S 3 0 aW,[⟨2,aRp B⟩],aW,[⟨1,aR1 B⟩]] (aP1 B)=0∧Fine (aP2 B) 784∧Seen (aP2 B) 0 (aR0 B)∧Seen (aP2 B) 1 (aR1 B)∧Seen (aP2 B) 2 (aRp B)∧Seen (aP2 B) 3 aB.wt.raw:=by
 obtain⟨s,q,p⟩:=Z3F B
 have g:=Z3c B
 have k:=q.size (by omega)
 have o:=p.size (by omega)
 obtain⟨_,f,m,j⟩:=Z73 B
 have e:Z1S 3 0 aW= [⟨3,aB.wt.raw⟩]:=rfl
 obtain⟨n,hh,r,c⟩:=Z71 [Z1S 3 0 aW,[⟨2,aRp B⟩],aW,[⟨1,aR1 B⟩]] f m (by
  intro l d x b
  rw [e,aW_eq] at d
  simp only [List.mem_cons,List.not_mem_nil,or_false] at d
  rcases d with rfl | rfl | rfl | rfl
  ·simp only [List.mem_cons,List.not_mem_nil,or_false] at b
   subst b
   exact Z5L (a:=3) (by decide) Z5M
  ·simp only [List.mem_cons,List.not_mem_nil,or_false] at b
   subst b
   exact Z5L (a:=2) (by decide) o
  ·simp only [List.mem_cons,List.not_mem_nil,or_false] at b
   subst b
   exact Z5L (a:=40) (by decide) Z5M
  ·simp only [List.mem_cons,List.not_mem_nil,or_false] at b
   subst b
   exact Z5L (a:=1) (by decide) k)
 have i:([Z1S 3 0 aW,[⟨2,aRp B⟩],aW,[⟨1,aR1 B⟩]]:List (List Wt)).flatten= [⟨3,aB.wt.raw⟩,⟨2,aRp B⟩,⟨40,aB.wt.raw⟩,⟨1,aR1 B⟩]:=by
  rw [e,aW_eq]
  simp
 rw [i] at c
 refine⟨n,hh,c 0 _ ?_,c 1 _ ?_,c 2 _ ?_,c 3 _ ?_⟩
 ·unfold SeenL
  simp [Z4p]
  exact j
 ·unfold SeenL
  simp [Z4p]
 ·unfold SeenL
  simp [Z4p]
 ·unfold SeenL
  simp [Z4p]
theorem aP2_wait (B:Nat):(aP2 B).wait= []:=by
 obtain⟨n,m,k⟩:=Z3F B
 have f:=Z3c B
 have hh:=m.size (by omega)
 have j:=k.size (by omega)
 obtain⟨_,d,i,o⟩:=Z73 B
 have g:Z1S 3 0 aW= [⟨3,aB.wt.raw⟩]:=rfl
 obtain⟨_,_,e,_⟩:=Z71 [Z1S 3 0 aW,[⟨2,aRp B⟩],aW,[⟨1,aR1 B⟩]] d i (by
  intro l c x b
  rw [g,aW_eq] at c
  simp only [List.mem_cons,List.not_mem_nil,or_false] at c
  rcases c with rfl | rfl | rfl | rfl
  ·simp only [List.mem_cons,List.not_mem_nil,or_false] at b
   subst b
   exact Z5L (a:=3) (by decide) Z5M
  ·simp only [List.mem_cons,List.not_mem_nil,or_false] at b
   subst b
   exact Z5L (a:=2) (by decide) j
  ·simp only [List.mem_cons,List.not_mem_nil,or_false] at b
   subst b
   exact Z5L (a:=40) (by decide) Z5M
  ·simp only [List.mem_cons,List.not_mem_nil,or_false] at b
   subst b
   exact Z5L (a:=1) (by decide) hh)
 exact e
theorem aP_len (B:Nat):(aP2 B).kept.length=784∧(aP2 B).up=true:=⟨(Z3k B).2.1.len,(Z3k B).2.1.up⟩
def aRg0:Rg:=⟨true,(Z0K 48 0).hd,(Z0K 48 0).txt⟩
def aRg1:Rg:=⟨true,(Z0K 48 1).hd,(Z0K 48 1).txt⟩
theorem aLoad0 (B:Nat):loadR (Z07 B) (aP2 B) (aS3 B) 0=aRg0:=by
 obtain⟨_,b,d,_,_,_⟩:=Z3k B
 obtain⟨e,_,_⟩:=Z3F B
 have c:=Z3c B
 exact load_seen B (a:=0) b d e (by omega) rfl
theorem aCho:chO [aRg0,aRg1] 48=some (Z0K 48 1):=by
 have hh:=cho_two (Z3r 0 (.inl rfl)).1 (Z3r 1 (.inr rfl)).1 rfl rfl rfl
 rw [if_pos (by decide)] at hh
 exact hh
structure AwR (B:Nat) (P1 P2:PS) (raws:List ByteArray) (masks:List Int):Prop where
 e1:(bget (aP2 B) 0).2=P1
 e2:(bget P1 1).2=P2
 er:Z1C P2 (P2.kept.length/8)=raws
 em:Z0Z P2 (P2.kept.length/8)=masks
theorem AwR.a1 {B:Nat}{P1 P2:PS}{raws:List ByteArray}{masks:List Int}(h:AwR B P1 P2 raws masks):Z4L (aP2 B) P1:=by
 have q:=Z3b (aP2 B) 0
 rw [h.e1] at q
 exact q
theorem AwR.a2 {B:Nat}{P1 P2:PS}{raws:List ByteArray}{masks:List Int}(h:AwR B P1 P2 raws masks):Z4L (aP2 B) P2:=by
 have q:=Z3b P1 1
 rw [h.e2] at q
 exact h.a1.trans q
theorem aLoad1 (B:Nat){P1 P2:PS}{raws:List ByteArray}{masks:List Int}(H:AwR B P1 P2 raws masks):loadR (Z07 B) P1 (aS3 B) 1=aRg1:=by
 obtain⟨_,b,_,d,_,_⟩:=Z3k B
 obtain⟨_,e,_⟩:=Z3F B
 have c:=Z3c B
 exact load_seen B (a:=1) (b.alike H.a1) (d.alike H.a1) e (by omega) rfl
theorem aLook (B:Nat){P1 P2:PS}{raws:List ByteArray}{masks:List Int}(H:AwR B P1 P2 raws masks):Z1m (Z07 B) (aS3 B) raws masks 2=⟨true,(Z0K 48 1).hdC,proT (Z07 B) (aS1 B) aW (Z0K 48 1)⟩:=by
 obtain⟨_,b,_,_,c,_⟩:=Z3k B
 obtain⟨_,_,e⟩:=Z3F B
 have d:=Z3c B
 have q:=look_seen B (a:=2) (b.alike H.a2) (c.alike H.a2) e (by omega) rfl
 rw [H.er,H.em] at q
 exact q
theorem aPi (B:Nat){P1 P2:PS}{raws:List ByteArray}{masks:List Int}(H:AwR B P1 P2 raws masks):piN (Z1m (Z07 B) (aS3 B) raws masks 2) 48=1∧piS (Z1m (Z07 B) (aS3 B) raws masks 2) 48=Z0K 48 1:=by
 have c:=Z3c B
 have a:(Z07 B).room (aS1 B) 1:=by
  show (aS1 B).texts.length+1≤1000000∧(aS1 B).seals.length+1≤1000000
  omega
 obtain⟨_,d,b⟩:=pro_pi (Z1R B) (S:=aS1 B) (l:=aW) (s:=Z0K 48 1) a (by rw [aW_eq];decide) (Z3r 1 (.inr rfl)).1
 rw [aLook B H]
 exact⟨d,b⟩
theorem aHd:aB.hd.err=0:=by decide
theorem aTog (B:Nat){P1 P2:PS}{raws:List ByteArray}{masks:List Int}(H:AwR B P1 P2 raws masks):togB 27 48 (fnW (Z07 B) (aS3 B) raws masks 48)=true:=by
 obtain⟨_,e,_,_,_,f⟩:=Z3k B
 obtain⟨d,l⟩:=seen_at (a:=3) (e.alike H.a2) (f.alike H.a2) Z5M
 rw [H.er,H.em] at d
 have i:atS raws masks 3=aB.wt.raw:=d
 have g:fnW (Z07 B) (aS3 B) raws masks 48= [rcdW raws masks 3 0]:=by
  unfold fnW
  rw [(aPi B H).1]
  rfl
 have hh:rcdW raws masks 3 0=⟨40,aB.wt.raw⟩:=by
  have j:atS raws masks (3+((0:Nat):Int))=aB.wt.raw:=i
  unfold rcdW
  rw [j]
  have b:aB.wt.raw.extract 0 48=aB.hd.txt:=by
   have c:aB.wt.raw=aB.hd.txt++Z0c 1 464:=by
    show aB.first++Z0c 1 464=_
    rw [show aB.first=aB.hd.txt from if_pos ⟨aHd,rfl⟩]
   rw [c]
   exact (ba_cut (Z2o aHd)).1
  rw [b,Z5g aHd]
  rfl
 rw [g,hh]
 have b:aB.wt.raw.extract 0 48=aB.hd.txt:=by
  have c:aB.wt.raw=aB.hd.txt++Z0c 1 464:=by
   show aB.first++Z0c 1 464=_
   rw [show aB.first=aB.hd.txt from if_pos ⟨aHd,rfl⟩]
  rw [c]
  exact (ba_cut (Z2o aHd)).1
 have k:hdB ⟨40,aB.wt.raw⟩=true:=by
  unfold hdB
  refine decide_eq_true ⟨Z5M,?_,?_⟩
  ·show Z1s (aB.wt.raw.extract 0 48)=0
   rw [b]
   exact Z6P aHd
  ·show (hdOf (aB.wt.raw.extract 0 48)).v1=40
   rw [b,Z5g aHd]
   rfl
 unfold togB
 rw [k]
 rfl
theorem aTogW:togB 27 48 aW=true:=by
 have a:aB.wt.raw.extract 0 48=aB.hd.txt:=by
  have b:aB.wt.raw=aB.hd.txt++Z0c 1 464:=by
   show aB.first++Z0c 1 464=_
   rw [show aB.first=aB.hd.txt from if_pos ⟨aHd,rfl⟩]
  rw [b]
  exact (ba_cut (Z2o aHd)).1
 have c:hdB ⟨40,aB.wt.raw⟩=true:=by
  unfold hdB
  refine decide_eq_true ⟨Z5M,?_,?_⟩
  ·show Z1s (aB.wt.raw.extract 0 48)=0
   rw [a]
   exact Z6P aHd
  ·show (hdOf (aB.wt.raw.extract 0 48)).v1=40
   rw [a,Z5g aHd]
   rfl
 rw [aW_eq]
 unfold togB
 rw [c]
 rfl
theorem aFn (B:Nat){P1 P2:PS}{raws:List ByteArray}{masks:List Int}(H:AwR B P1 P2 raws masks)(h:fnOk (Z07 B) (aS3 B) raws masks 48=true):(fnS (Z07 B) (aS3 B) raws masks 48).ep=1:=by
 unfold fnS
 rw [if_pos h,(aPi B H).2]
 rfl
theorem a784:loE 784=0∧loN 784=48∧loA 784=layA 48 (layQ 48) (layS 48) (layT 48):=by
 have hh:liveO 784=some 48:=by
  have:=liveO_of (n:=48) (by decide) (by decide)
  rw [show totI 48*8=784 by decide] at this
  exact this
 unfold loE loN loA
 rw [hh]
 exact⟨rfl,rfl,rfl⟩
theorem format_in (K:VK)(HK:VKOk K)(F:Nat→Prop)(B:Nat)(P:PS)(S:K.σ)(s:Sp)(w:World)(A:Int)(R:ByteArray)(h:Duo K w F B P S)(hr:K.room S 1)(hw:P.wait.length≤100000)(hg:ErrT w)(hF:¬ F 3)(hlv:loE (P.kept.length:Nat)=0∧loN (P.kept.length:Nat)=s.lv)(he:s.err=0)(hs:sonE P s=0)(hA:sonA P s=A)(hA1:0≤A∧A≤1)(hR:sonR K P S s=R) :
  Calls prog 18 #[.pointer (some ⟨B,0,none⟩),K.v,.agg s.arr] w fun e w'=>e= .returned (.int .i64 (ansE (folE [[⟨1-A,Z0c 0 512⟩,⟨2,Z0c 0 512⟩],[⟨A,R⟩]] P)))∧Duo K w' (grow F w w') B (folP [[⟨1-A,Z0c 0 512⟩,⟨2,Z0c 0 512⟩],[⟨A,R⟩]] P) (sonS K P S s)∧Z02 F w w':=by
 obtain⟨w0,t⟩:∃ w0,w.alloc (.cells s.arr 23)=w0:=⟨_,rfl⟩
 have n:Below w.heap.size w w0:=by rw [← t];exact Z1o w _
 have C:w0.heap[w.heap.size]? = some (.cells s.arr 23 (0,0)):=by rw [← t];exact heap_alloc_new w _
 have Y:=isOf_duo K HK F B P S s w0 (h.below HK n)
 rw [decide_eq_true hlv] at Y
 have hU:=fun W (hW:Below w0.heap.size w0 W)=>unseal_duo K HK F B P S s W ((h.below HK n).below HK hW) (HK.less hr (by omega))
 rw [he] at hU
 have V:=fun W (hW:Below w0.heap.size w0 W)=>superOn_any K HK F B P S s W ((h.below HK n).below HK hW) hr
 rw [hs,hA,hR] at V
 have M:=fun (a:Int) (W:World)=>jblank_any a W
 have m:=answer_any (folE [[⟨1-A,Z0c 0 512⟩,⟨2,Z0c 0 512⟩],[⟨A,R⟩]] P)
 have T:IntKind.i64.wrap (1-A)=1-A:=by
  rcases (show A=0∨A=1 by omega) with rfl | rfl <;> rfl
 rw [← T] at m ⊢
 clear T
 have a6:Hid (P.wait.length+8*Z86 [[(⟨IntKind.i64.wrap (1-A),Z0c 0 512⟩:Wt),⟨2,Z0c 0 512⟩],[⟨A,R⟩]]≤900000):=by show P.wait.length+8*3≤900000;omega
 have u:Hid (Below w.heap.size w w0∧ErrT w∧¬ F 3∧(∀ k,F k→k<w.heap.size)∧P.wait.length≤100000):=⟨n,hg,hF,h.lt,hw⟩
 have d:w.heap.size<w0.heap.size:=lt_of_block C
 obtain⟨a0,Z,X,a3,r⟩:=s
 unfold Sp.arr at *
 simp only at C Y hU V t
 generalize Z0c 0 512=z at *
 have c0:w0.cell? ⟨w.heap.size,0,none⟩=some (.int .i64 a0):=cell_of_row _ _ 0 _ _ _ C
 have c1:w0.cell? ⟨w.heap.size,1,none⟩=some (.int .i64 Z):=cell_of_row _ _ 1 _ _ _ C
 have c2:w0.cell? ⟨w.heap.size,2,none⟩=some (.int .i64 X):=cell_of_row _ _ 2 _ _ _ C
 have c3:w0.cell? ⟨w.heap.size,3,none⟩=some (.int .i64 a3):=cell_of_row _ _ 3 _ _ _ C
 have c4:w0.cell? ⟨w.heap.size,4,none⟩=some (.string r):=cell_of_row _ _ 4 _ _ _ C
 clear h hr hw hg hF hlv he hs hA hR n
 go_enter func18,ntmps18
 go_wp2_with fail
 try rw [t]
 refine Y.mono ?_
 rintro e w1 ⟨rfl,c⟩
 have d0:=(c.cell (p:=⟨w.heap.size,0,none⟩) d).trans c0
 have d1:=(c.cell (p:=⟨w.heap.size,1,none⟩) d).trans c1
 have d2:=(c.cell (p:=⟨w.heap.size,2,none⟩) d).trans c2
 have d3:=(c.cell (p:=⟨w.heap.size,3,none⟩) d).trans c3
 have d4:=(c.cell (p:=⟨w.heap.size,4,none⟩) d).trans c4
 have a5:Hid (Below w0.heap.size w0 w1):=c
 clear Y c0 c1 c2 c3 c4
 go_wp2_with fail
 refine (hU _ c).mono ?_
 rintro e w2 ⟨rfl,j⟩
 have i:=Nat.lt_of_lt_of_le d c.size
 have e0:=(j.cell (p:=⟨w.heap.size,0,none⟩) i).trans d0
 have e1:=(j.cell (p:=⟨w.heap.size,1,none⟩) i).trans d1
 have e2:=(j.cell (p:=⟨w.heap.size,2,none⟩) i).trans d2
 have e3:=(j.cell (p:=⟨w.heap.size,3,none⟩) i).trans d3
 have e4:=(j.cell (p:=⟨w.heap.size,4,none⟩) i).trans d4
 have o:Below w0.heap.size w0 w2:=c.trans (j.mono c.size)
 have H:Hid (Below w0.heap.size w0 w2):=o
 clear hU d0 d1 d2 d3 d4 c j a5
 go_wp2_with fail
 refine (V _ o).mono ?_
 rintro e b ⟨rfl,O,L⟩
 have x:Hid (Duo K b F B P (sonS K P S ⟨a0,Z,X,a3,r⟩)∧Z02 F w2 b):=⟨O,L⟩
 clear V O L e0 e1 e2 e3 e4 o
 go_wp2_with fail
 have I:Hid (∀ W,Below (b.alloc (.cells #[.int .i64 A,.string R] 27)).heap.size (b.alloc (.cells #[.int .i64 A,.string R] 27)) W→W.cell? ⟨b.heap.size,0,none⟩=some (.int .i64 A)∧W.cell? ⟨b.heap.size,1,none⟩=some (.string R)):=fun W hW=>by
  have g:=(hW.block b.heap.size (by simp)).trans (heap_alloc_new b (.cells #[.int .i64 A,.string R] 27))
  exact⟨cell_of_row _ _ 0 _ _ _ g,cell_of_row _ _ 1 _ _ _ g⟩
 have f:Hid (True∧Below (b.alloc (.cells #[.int .i64 A,.string R] 27)).heap.size (b.alloc (.cells #[.int .i64 A,.string R] 27)) (b.alloc (.cells #[.int .i64 A,.string R] 27))):=⟨trivial,Below.refl _ _⟩
 have G:Hid (Z02 F w (b.alloc (.cells #[.int .i64 A,.string R] 27))):=((Z02.of_below u.out.1).trans ((Z02.of_below (H.out)).trans ((x.out.2.mono fun _ h=> .inl (.inl h))))).trans (Z02.of_below (Z1o _ _))
 have a7:Hid (Duo K (b.alloc (.cells #[.int .i64 A,.string R] 27)) F B P (sonS K P S ⟨a0,Z,X,a3,r⟩)):=x.out.1.below HK (Z1o _ _)
 have a4:Hid (ErrT (b.alloc (.cells #[.int .i64 A,.string R] 27))):=u.out.2.1.touch G.out u.out.2.2.1
 have a9:w.heap.size≤b.heap.size:=by have:=G.out.size;have q1:=u.out.1.size;have q2:=H.out.size;have q3:=x.out.2.size;omega
 clear t C d i H x
 go_region_held3 (fun w'=>w'.cell? ⟨b.heap.size,0,none⟩=some (.int .i64 A)∧w'.cell? ⟨b.heap.size,1,none⟩=some (.string R)) (first | exact N | exact l | exact I.out _ (by (repeat (first | exact f.out.2 | refine bd ?_ | refine ba ?_)))) (first
  | (go_at_call 45;refine (M _ _).mono ?_;rintro e wN ⟨rfl,a8⟩;have J:Hid (Below (b.alloc (.cells #[.int .i64 A,.string R] 27)).heap.size (b.alloc (.cells #[.int .i64 A,.string R] 27)) wN):=(show Below (b.alloc (.cells #[.int .i64 A,.string R] 27)).heap.size (b.alloc (.cells #[.int .i64 A,.string R] 27)) _ from (by (repeat (first | exact f.out.2 | refine bd ?_ | refine ba ?_)))).trans (a8.mono (show (b.alloc (.cells #[.int .i64 A,.string R] 27)).heap.size≤_ from (show Below (b.alloc (.cells #[.int .i64 A,.string R] 27)).heap.size (b.alloc (.cells #[.int .i64 A,.string R] 27)) _ from (by (repeat (first | exact f.out.2 | refine bd ?_ | refine ba ?_)))).size));have aa:b.heap.size+1≤wN.heap.size:=(by have q:=J.out.size;simpa using q);have f:Hid (True∧Below (b.alloc (.cells #[.int .i64 A,.string R] 27)).heap.size (b.alloc (.cells #[.int .i64 A,.string R] 27)) wN):=⟨trivial,J.out⟩;clear J)
  | (go_at_call 44;refine (follow_2 K HK F B P (sonS K P S ⟨a0,Z,X,a3,r⟩) _ _ _ [⟨IntKind.i64.wrap (1-A),z⟩,⟨2,z⟩] [⟨A,R⟩] _ _ 2 ?_ ?_ a6.out ?_ u.out.2.2.1 ⟨?_,fun _=> ?_⟩ ⟨?_,fun _=> ?_⟩).mono ?_;(focus (simp;done));(focus (exact a7.out.below HK (by (repeat (first | exact f.out.2 | refine bd ?_ | refine ba ?_)));done));(focus (exact a4.out.bel (by (repeat (first | exact f.out.2 | refine bd ?_ | refine ba ?_)));done));(focus ((repeat (first | exact wts_new2 _ _ _ _ _ _ _ _ (by simp) | refine Wts.drew ?_ | refine Wts.al ?_ | refine Wts.below ?_ (by assumption)));done));(focus ((exact out_of (fun hk=>by have q:=u.out.2.2.2.1 _ hk;omega));done));(focus ((repeat (first | exact wts_new1 _ _ _ _ _ _ (by simp) | refine Wts.drew ?_ | refine Wts.al ?_ | refine Wts.below ?_ (by assumption)));done));(focus ((exact out_of (fun hk=>by have q:=u.out.2.2.2.1 _ hk;omega));done));rintro e wF ⟨⟨fv,rfl,Q⟩,U,y⟩;have D:Hid _:=duo_fin G.out u.out.2.2.2.1 (by (repeat (first | exact f.out.2 | refine bd ?_ | refine ba ?_))) U y;have l:wF.cell? ⟨b.heap.size,0,none⟩=some (.int .i64 A)∧wF.cell? ⟨b.heap.size,1,none⟩=some (.string R):=⟨keep_cells (W3:=b.alloc (.cells #[.int .i64 A,.string R] 27)) (by (repeat (first | exact f.out.2 | refine bd ?_ | refine ba ?_))) y (by simp) (fun hk=>by have q:=u.out.2.2.2.1 _ hk;omega) 0 _ (I.out _ (by (repeat (first | exact f.out.2 | refine bd ?_ | refine ba ?_)))).1,keep_cells (W3:=b.alloc (.cells #[.int .i64 A,.string R] 27)) (by (repeat (first | exact f.out.2 | refine bd ?_ | refine ba ?_))) y (by simp) (fun hk=>by have q:=u.out.2.2.2.1 _ hk;omega) 1 _ (I.out _ (by (repeat (first | exact f.out.2 | refine bd ?_ | refine ba ?_)))).2⟩;clear U y)
  | (go_at_call 43;refine (m _ Q _).mono ?_;rintro e wG ⟨rfl,hG⟩;have E:Hid _:=duo_step HK D.out hG;have N:wG.cell? ⟨b.heap.size,0,none⟩=some (.int .i64 A)∧wG.cell? ⟨b.heap.size,1,none⟩=some (.string R):=⟨(hG.cell (p:=⟨b.heap.size,0,none⟩) (World.block_lt_of_cell? _ _ l.1)).trans l.1,(hG.cell (p:=⟨b.heap.size,1,none⟩) (World.block_lt_of_cell? _ _ l.2)).trans l.2⟩;clear hG))
 all_goals
  have HZ:Hid _:=E.out
  clear E D l N Q m M
  go_wp2
  go_ret
  exact⟨rfl,HZ.out⟩
end Go.Proofs.YtijpgmkdnemmbaaGreatDoor
