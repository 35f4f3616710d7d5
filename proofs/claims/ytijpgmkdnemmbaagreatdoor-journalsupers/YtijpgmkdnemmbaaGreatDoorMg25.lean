/- Part 25. -/
import Derived.Test.YtijpgmkdnemmbaaGreatDoorMg23
import Derived.Test.YtijpgmkdnemmbaaGreatDoorMg24
set_option maxRecDepth 20000
set_option maxHeartbeats 8000000
open Go.RowKit Go.Proofs.Tryz
namespace Go.Proofs.YtijpgmkdnemmbaaGreatDoor
theorem Z8c {s:Sp}(h:s.err=0):s.txt.data.toList=Z0N (Z0D s.vol s.ep s.nx s.lv)++s.root.data.toList++List.replicate 394 0∧(Z0N (Z0D s.vol s.ep s.nx s.lv)).length=22∧s.root.size=32∧Z0r (Z0D s.vol s.ep s.nx s.lv)=true:=by
 unfold Sp.err Z18 at h
 split at h
 ·next hr =>
  have a:=Z7e h
  refine⟨?_,Z1p _ a,hr,a⟩
  unfold Sp.txt Z1P
  rw [if_pos ⟨hr,a⟩]
  rfl
 ·cases h
theorem sp_inj {s t:Sp}(es:s.err=0)(et:t.err=0)(e:s.txt=t.txt):s=t:=by
 obtain⟨c,f,u,j⟩:=Z8c es
 obtain⟨l,hh,q,i⟩:=Z8c et
 rw [e,l] at c
 have k:=List.append_cancel_right c
 obtain⟨g,a⟩:=List.append_inj k (by rw [f,hh])
 have d:=Z7d (Z0D t.vol t.ep t.nx t.lv) (Z0D s.vol s.ep s.nx s.lv) rfl i j g
 have b:s.root=t.root:=by
  have a:t.root.data.toList=s.root.data.toList:=a
  exact (ByteArray.ext (Array.toList_inj.1 a)).symm
 obtain⟨m,p,w,z,r⟩:=s
 obtain⟨y,n,o,x,v⟩:=t
 simp [Z0D] at d b
 obtain⟨rfl,rfl,rfl,rfl⟩:=d
 rw [b]
theorem jsuper_parts {s:ByteArray}(h:Z0J s=0):s.size=448∧allZ (s.extract 54 448)=true:=by
 unfold Z0J at h
 by_cases c:448<s.size
 ·rw [if_pos c] at h;omega
 rw [if_neg c] at h
 by_cases b:s.size<448
 ·rw [if_pos b] at h;omega
 rw [if_neg b] at h
 by_cases a:allZ (s.extract 54 448)=true
 case neg=>rw [if_neg a] at h;omega
 exact⟨by omega,a⟩
theorem jsuper_back {s:ByteArray}(h:Z0J s=0):Z18 (Z13 s 0 6) (Z13 s 6 6) (Z13 s 12 6) (Z13 s 18 4) (Z4g s)=0∧Z1P (Z13 s 0 6) (Z13 s 6 6) (Z13 s 12 6) (Z13 s 18 4) (Z4g s)=s:=by
 obtain⟨a,j⟩:=jsuper_parts h
 have e:Z0D (Z13 s 0 6) (Z13 s 6 6) (Z13 s 12 6) (Z13 s 18 4)=Z48 s.data.toList 0 [6,6,6,4]:=by
  simp only [Z13,if_pos h]
  rfl
 have g:Z4g s=s.extract 22 54:=by rw [Z4g,if_pos h]
 have c:(s.extract 22 54).size=32:=by simp;omega
 have k:=Z2x s
 obtain⟨b,i⟩:=Z5S s.data.toList [6,6,6,4] 0 (by decide) (by rw [k,a];decide)
 rw [g]
 constructor
 ·rw [Z18,if_pos c,e,Z5R b]
 ·rw [Z1P,e,if_pos ⟨c,b⟩,i]
  unfold padL
  refine ba_of ?_
  have f:=text_zeros s 54 448 a (by decide) j
  have d:=list_three s.data.toList 22 32
  have l:=Z3g s 22 54
  rw [show (s.data.toList.drop 22).take 32=_ from l,f] at d
  exact d.symm
theorem Z4E {s:Sp}(h:s.err=0):Z0J s.txt=0∧spOf s.txt=s:=by
 obtain⟨i,b,d,j⟩:=Z8c h
 have k:=Z5Z h
 have a:Z0J s.txt=0:=by
  unfold Z0J
  rw [if_neg (by omega),if_neg (by omega),if_pos]
  have c:=Z3g s.txt 54 448
  have f:s.root.data.toList.length=32:=by rw [← d];simp
  rw [i,List.drop_left' (by simp [b,f])] at c
  unfold allZ
  rw [← c]
  rfl
 refine⟨a,?_⟩
 obtain⟨g,e⟩:=jsuper_back a
 exact sp_inj (s:=spOf s.txt) g h e
theorem pro_list {K:VK}(HK:VKOk K){S:K.σ}{l:List Wt}{s:Sp}(hr:K.room S 1)(hll:l.length≤24)(he:s.err=0):(proT K S l s).data.toList=(putS (l.length:Int) 2).data.toList++(K.hS S (Z0z l)).data.toList++(Z0N (Z0D s.vol s.ep s.nx s.lv)++s.root.data.toList)++List.replicate 360 0:=by
 obtain⟨_,e,d,_,_⟩:=Z4q HK hr hll he
 obtain⟨j,f,g,k⟩:=Z8c he
 have b:s.root.data.toList.length=32:=by rw [← g];simp
 have a:(s.txt.extract 0 54).data.toList=Z0N (Z0D s.vol s.ep s.nx s.lv)++s.root.data.toList:=by
  have c:=Z3g s.txt 0 54
  rw [j,List.drop_zero,List.take_left' (by simp [f,b])] at c
  exact c.symm
 have i:(putS (l.length:Int) 2++K.hS S (Z0z l)++s.txt.extract 0 54).size=88:=by
  rw [ByteArray.size_append,ByteArray.size_append,e,d,ByteArray.size_extract,Z5Z he]
  rfl
 unfold proT
 have hh:=Z5P (s:=putS (l.length:Int) 2++K.hS S (Z0z l)++s.txt.extract 0 54) (n:=448) (by decide) (by omega)
 rw [show (448:Int)=((448:Nat):Int) from rfl,hh,i]
 simp only [ByteArray.data_append,Array.toList_append,a]
theorem pro_count {K:VK}(HK:VKOk K){S:K.σ}{l:List Wt}{s:Sp}(hr:K.room S 1)(hll:l.length≤24)(he:s.err=0):getN (proT K S l s) 0 2=(l.length:Int):=by
 have d:=pro_list HK hr hll he
 obtain⟨_,b,_,_,f⟩:=Z4q HK hr hll he
 rw [show (0:Int)=((0:Nat):Int) from rfl,show (2:Int)=((2:Nat):Int) from rfl,getN_ok (by decide) (by decide) (by omega),d,List.drop_zero]
 have e:(putS (l.length:Int) 2).data.toList.length=2:=by rw [← b];simp
 have a:(256:Int) ^ 2=65536:=by decide
 have c:putS (l.length:Int) ((2:Nat):Int)=strOfNums (leI 2 (l.length:Int)):=Z74 (by decide) (by decide) (by omega) (by omega)
 rw [List.append_assoc,List.append_assoc,List.take_left' e,show (2:Int)=((2:Nat):Int) from rfl,c]
 show Z16 ((leI 2 (l.length:Int)).map fun x=>UInt8.ofNat x.toNat)=_
 exact Z7c 2 _ (by omega) (by omega)
theorem pro_super {K:VK}(HK:VKOk K){S:K.σ}{l:List Wt}{s:Sp}(hr:K.room S 1)(hll:l.length≤24)(he:s.err=0)(ok:Bool)(h:Hd):piT ⟨ok,h,proT K S l s⟩=s.txt:=by
 have k:=pro_list HK hr hll he
 obtain⟨_,c,b,_,d⟩:=Z4q HK hr hll he
 obtain⟨n,e,i,o⟩:=Z8c he
 have f:(putS (l.length:Int) 2).data.toList.length=2:=by rw [← c];simp
 have m:(K.hS S (Z0z l)).data.toList.length=32:=by rw [← b];simp
 have j:s.root.data.toList.length=32:=by rw [← i];simp
 have g:((proT K S l s).extract 34 448).data.toList=Z0N (Z0D s.vol s.ep s.nx s.lv)++s.root.data.toList++List.replicate 360 0:=by
  rw [← Z3g,k,List.append_assoc,List.drop_left' (by simp [f,m])]
  exact List.take_of_length_le (by simp [e,j])
 have a:((proT K S l s).extract 34 448).size=414:=by simp [d]
 unfold piT
 rw [show (448:Int)=((448:Nat):Int) from rfl,Z5P (by decide) (by rw [a];decide)]
 refine ba_of ?_
 rw [g,a,n,List.append_assoc,List.append_assoc,List.append_assoc]
 rfl
theorem pro_pi {K:VK}(HK:VKOk K){S:K.σ}{l:List Wt}{s:Sp}(hr:K.room S 1)(hll:l.length≤24)(he:s.err=0):piB ⟨true,s.hdC,proT K S l s⟩ s.lv=true∧piN ⟨true,s.hdC,proT K S l s⟩ s.lv=(l.length:Int)∧piS ⟨true,s.hdC,proT K S l s⟩ s.lv=s:=by
 obtain⟨c,b⟩:=Z4E he
 have a:piB ⟨true,s.hdC,proT K S l s⟩ s.lv=true:=by
  unfold piB
  rw [pro_super HK hr hll he]
  refine decide_eq_true ⟨rfl,rfl,?_,c,by rw [b]⟩
  dsimp only
  rw [pro_count HK hr hll he]
  omega
 refine⟨a,?_,?_⟩
 ·unfold piN
  rw [if_pos a]
  dsimp only
  exact pro_count HK hr hll he
 ·unfold piS
  rw [if_pos a,pro_super HK hr hll he,b]
def Z26 (T:VS)(h:Hd)(s r:ByteArray):Prop:=h.err=0∧s.size=448∧Z0f T.seals (h.four s)≠0∧r=blkS h s (Z0f T.seals (h.four s))
theorem Z26.size {T:VS}{h:Hd}{s r:ByteArray}(hS:Z26 T h s r)(hl:T.seals.length≤1000000):r.size=512:=by
 obtain⟨e,a,_,rfl⟩:=hS
 have:=Z2u (h.four s) T.seals
 exact blk_size e a (by omega)
theorem Z26.add {T:VS}{h:Hd}{s r:ByteArray}(hS:Z26 T h s r)(g:Hd)(t:ByteArray):Z26 (Z1G T g t) h s r:=by
 obtain⟨e,c,a,b⟩:=hS
 unfold Z1G
 split
 ·exact⟨e,c,by show Z0f (addN _ _) _≠0;rw [Z4a _ a];exact a,by show r=blkS h s (Z0f (addN _ _) _);rw [Z4a _ a];exact b⟩
 ·exact⟨e,c,a,b⟩
theorem Z26.hash {T:VS}{h:Hd}{s r:ByteArray}(hS:Z26 T h s r)(t:ByteArray):Z26 (Z5V T t) h s r:=hS
theorem sealed_new (T:VS){h:Hd}{s:ByteArray}(e:h.err=0)(hs:s.size=448):Z26 (Z1G T h s) h s (Z2J T h s):=by
 have a:Z2h h s=true:=decide_eq_true ⟨hs,e⟩
 unfold Z1G Z2J
 rw [if_pos a,if_pos a]
 exact⟨e,hs,numOf_add_pos _ _,rfl⟩
theorem Z8d (B:Nat){T:VS}{h:Hd}{s r:ByteArray}(hS:Z26 T h s r)(hl:T.seals.length≤1000000){a:Int}(ha:h.v1=a):toldR (Z07 B) T r a=⟨true,h,s⟩:=by
 obtain⟨e,g,k,rfl⟩:=hS
 obtain⟨i,c,b⟩:=bopen_blk T h s hl e g k
 have d:(Z07 B).oE T (blkS h s (Z0f T.seals (h.four s)))=0:=i
 have j:(Z07 B).oH T (blkS h s (Z0f T.seals (h.four s)))=h:=c
 have f:(Z07 B).oS T (blkS h s (Z0f T.seals (h.four s)))=s:=b
 unfold toldR
 rw [d,j,f,if_pos ⟨rfl,ha⟩]
theorem Z2V (B:Nat)(T:VS){s:Sp}(he:s.err=0)(hh:s.hd.err=0):supE s=0∧Z26 (supP (Z07 B) T s) s.hd s.txt (supR (Z07 B) T s)∧supP (Z07 B) T s=Z1G T s.hd s.txt:=by
 have a:supE s=0:=by
  unfold supE Z0p
  rw [if_pos he,if_pos (Z5Z he)]
  exact hh
 have b:supP (Z07 B) T s=Z1G T s.hd s.txt:=if_pos he
 have c:supR (Z07 B) T s=Z2J T s.hd s.txt:=if_pos a
 refine⟨a,?_,b⟩
 rw [b,c]
 exact sealed_new T hh (Z5Z he)
theorem ideal_pro (B:Nat)(S:VS)(t:ByteArray)(h:Hd)(x:ByteArray){X:VS}(e:X=(Z07 B).sP ((Z07 B).hP S t) h x):X=Z1G (Z5V S t) h x:=e
theorem ideal_proR (B:Nat)(S:VS)(t:ByteArray)(h:Hd)(x:ByteArray){X:ByteArray}(e:X=(Z07 B).sS ((Z07 B).hP S t) h x):X=Z2J (Z5V S t) h x:=e
theorem proP_yes (K:VK)(S:K.σ)(l:List Wt)(s:Sp)(he:s.err=0):proP K S l s=K.sP (K.hP S (Z0z l)) s.hdC (proT K S l s):=if_pos he
theorem proR_yes (K:VK)(S:K.σ)(l:List Wt)(s:Sp)(he:proE K S l s=0):proR K S l s=K.sS (K.hP S (Z0z l)) s.hdC (proT K S l s):=if_pos he
theorem Z6e (B:Nat)(T:VS){l:List Wt}{s:Sp}(hr:(Z07 B).room T 1)(hll:l.length≤24)(he:s.err=0)(hh:s.hdC.err=0):proE (Z07 B) T l s=0∧Z26 (proP (Z07 B) T l s) s.hdC (proT (Z07 B) T l s) (proR (Z07 B) T l s)∧proP (Z07 B) T l s=Z1G (Z5V T (Z0z l)) s.hdC (proT (Z07 B) T l s):=by
 obtain⟨_,_,_,_,a⟩:=Z4q (Z1R B) hr hll he
 have c:proE (Z07 B) T l s=0:=by
  unfold proE Z0p
  rw [if_pos he,if_pos a]
  exact hh
 have b:=ideal_pro B T _ _ _ (proP_yes (Z07 B) T l s he)
 have d:=ideal_proR B T _ _ _ (proR_yes (Z07 B) T l s c)
 refine⟨c,?_,b⟩
 rw [b,d]
 exact sealed_new _ hh a
theorem load_seen (B:Nat){P:PS}{n a:Nat}{T:VS}{h:Hd}{s r:ByteArray}(hF:Fine P n)(hs:Seen P a r)(hS:Z26 T h s r)(hl:T.seals.length≤1000000)(ha:h.v1=(a:Int)):loadR (Z07 B) P T (a:Int)=⟨true,h,s⟩:=by
 have b:=seen_get hF hs (hS.size hl)
 unfold loadR
 rw [b]
 rw [if_pos ⟨rfl,rfl⟩]
 exact Z8d B hS hl ha
theorem look_seen (B:Nat){P:PS}{n a:Nat}{T:VS}{h:Hd}{s r:ByteArray}(hF:Fine P n)(hs:Seen P a r)(hS:Z26 T h s r)(hl:T.seals.length≤1000000)(ha:h.v1=(a:Int)):Z1m (Z07 B) T (Z1C P (P.kept.length/8)) (Z0Z P (P.kept.length/8)) (a:Int)=⟨true,h,s⟩:=by
 obtain⟨c,b⟩:=seen_at hF hs (hS.size hl)
 unfold Z1m
 rw [c,b,if_pos rfl]
 exact Z8d B hS hl ha
theorem sin_yes {s:Sp}(he:s.err=0)(h:Hd)(h2:h.v2=1){slot:Int}(h3:s.ep.tmod 2=slot):sinB ⟨true,h,s.txt⟩ slot s.lv=true:=by
 obtain⟨b,a⟩:=Z4E he
 unfold sinB
 exact decide_eq_true ⟨rfl,h2,b,by show (spOf s.txt).ep.tmod 2=slot;rw [a];exact h3,by show (spOf s.txt).lv=s.lv;rw [a]⟩
theorem cho_two {s t:Sp}(es:s.err=0)(et:t.err=0)(hl:s.lv=t.lv)(hs:s.ep.tmod 2=0)(ht:t.ep.tmod 2=1):chO [⟨true,s.hd,s.txt⟩,⟨true,t.hd,t.txt⟩] t.lv=some (if s.ep<t.ep then t else s):=by
 have c:=sin_yes es s.hd rfl hs
 have d:=sin_yes et t.hd rfl ht
 rw [hl] at c
 have b:chN [⟨true,s.hd,s.txt⟩,⟨true,t.hd,t.txt⟩] t.lv 1=some s:=by
  have:=chN_yes (l:= [⟨true,s.hd,s.txt⟩,⟨true,t.hd,t.txt⟩]) (live:=t.lv) (j:=0) (r:=⟨true,s.hd,s.txt⟩) rfl c (.inl rfl)
  rw [this]
  exact congrArg some (Z4E es).2
 show chN _ _ 2=_
 by_cases a:s.ep<t.ep
 ·rw [if_pos a]
  have:=chN_yes (l:= [⟨true,s.hd,s.txt⟩,⟨true,t.hd,t.txt⟩]) (live:=t.lv) (j:=1) (r:=⟨true,t.hd,t.txt⟩) rfl d (.inr (by rw [b];show s.ep<(spOf t.txt).ep;rw [(Z4E et).2];exact a))
  rw [this]
  exact congrArg some (Z4E et).2
 ·rw [if_neg a]
  have:=chN_no (l:= [⟨true,s.hd,s.txt⟩,⟨true,t.hd,t.txt⟩]) (live:=t.lv) (j:=1) (r:=⟨true,t.hd,t.txt⟩) rfl (.inr ⟨by rw [b];rfl,by rw [b];show ¬ s.ep<(spOf t.txt).ep;rw [(Z4E et).2];exact a⟩)
  rw [this,b]
section
open Go.ChangeShapes Go.WideShapes Go.RowKit Go.Deep
structure Blk where
 At:Int
 V:Int
 Bad:Bool
instance:Inhabited Blk:=⟨⟨0,0,false⟩⟩
structure BlkAt (W:World) (g o:Nat) (x:Blk):Prop where
 c0:W.cell? ⟨g,o,none⟩=some (.int .i64 x.At)
 c1:W.cell? ⟨g,o+1,none⟩=some (.int .u8 x.V)
 c2:W.cell? ⟨g,o+2,none⟩=some (.bool x.Bad)
def Blks (W:World)(v:Value)(l:List Blk):Prop:=(∃ oa cap,v= .slice oa 0 cap∧l= [])∨∃ g o cap,v= .slice (some ⟨g,o,none⟩) l.length cap∧g<W.heap.size∧∀ i x,l[i]? = some x→BlkAt W g (o+i*3) x
theorem Blks.form {W:World}{v:Value}{l:List Blk}(h:Blks W v l):∃ oa cap,v= .slice oa l.length cap:=by
 rcases h with ⟨oa,cap,rfl,rfl⟩ | ⟨g,o,cap,rfl,_⟩
 ·exact⟨oa,cap,rfl⟩
 ·exact⟨_,cap,rfl⟩
theorem Blks.get {W:World}{oa:Option Addr}{cap:Nat}{l:List Blk}(h:Blks W (.slice oa l.length cap) l){i:Nat}(hi:i<l.length):∃ g o,oa=some ⟨g,o,none⟩∧g<W.heap.size∧∀ j x,l[j]? = some x→BlkAt W g (o+j*3) x:=by
 rcases h with ⟨oa',cap',e,rfl⟩ | ⟨g,o,cap',e,hg,hx⟩
 ·simp at hi
 ·simp only [Value.slice.injEq] at e
  exact⟨g,o,e.1,hg,hx⟩
theorem BlkAt.keep {W W':World}{g o:Nat}{x:Blk}(h:BlkAt W g o x)(k:W'.heap[g]? = W.heap[g]?):BlkAt W' g o x:=⟨(World.cell?_of_block (a:=⟨g,o,none⟩) k).trans h.c0,(World.cell?_of_block (a:=⟨g,o+1,none⟩) k).trans h.c1,(World.cell?_of_block (a:=⟨g,o+2,none⟩) k).trans h.c2⟩
section
variable {H:Type} {enc:TypeId × Value→H} {W:World}
end
end
theorem jfillS_num (v n:Nat):Z0c v n=strOfNums ((List.replicate n v).map fun (x:Nat)=>(x:Int)):=rfl
theorem Z8e (v n:Nat)(hn:n≤600)(w:World) :
  Calls prog 46 #[.int .u8 (v:Nat),.int .i64 (n:Nat)] w fun e w'=>e= .returned (.string (Z0c v n))∧Below w.heap.size w w':=by
 have y:=run_make_row' (P:=prog) 90 5 (.int .u8 0) 1 underlying90 Z2n rfl .i64 .i64 n (by omega) (by omega)
 have d:Row (w.alloc (.cells (madeCells #[.int .u8 0] n) 5)) w.heap.size 5 (rowF n fun k=> .int .u8 ((if k<0 then v else 0:Nat):Int)):=by
  have u:Row (w.alloc (.cells (madeCells #[.int .u8 0] n) 5)) w.heap.size 5 (List.replicate n (.int .u8 0)):=Z2a (heap_alloc_new w _)
  refine u.congr ?_
  rw [rowF]
  simp only [Nat.not_lt_zero,if_false]
  rw [List.map_const',List.length_range]
  rfl
 have b:=(Below.refl w.heap.size w).alloc (Nat.le_refl _) (.cells (madeCells #[.int .u8 0] n) 5)
 obtain⟨w0,g⟩:∃ w0,w.alloc (.cells (madeCells #[.int .u8 0] n) 5)=w0:=⟨_,rfl⟩
 rw [g] at d b
 go_enter func46,ntmps46
 go_wp2_with fail
 go_loopw [6] (fun i wr=> ∃ j:Nat,j≤n∧i= .int .i64 j∧Row wr w.heap.size 5 (rowF n fun k=> .int .u8 ((if k<j then v else 0:Nat):Int))∧Below w.heap.size w wr) (fun i _=>n-(intOf i).toNat)
 case atStart=>exact⟨0,Nat.zero_le _,rfl,d,b⟩
 case round =>
  clear d b y g
  obtain⟨j,B,rfl,f,o⟩:=hrel
  by_cases r:j<n
  ·have z:(j:Int)<n:=by omega
   have c:=f.cellF j r
   have A:wr.frozen? ⟨w.heap.size,j,none⟩=false:=f.frozen j
   have hh:Row (wr.setCell ⟨w.heap.size,j,none⟩ (.int .u8 (v:Nat))) w.heap.size 5 (rowF n fun k=> .int .u8 ((if k<j+1 then v else 0:Nat):Int)):=(f.setF j (.int .u8 (v:Nat))).congr (Z10 fun k _=>by
    by_cases e:k=j
    ·subst e;simp
    ·by_cases s:k<j
     ·rw [if_neg e,if_pos s,if_pos (by omega)]
     ·rw [if_neg e,if_neg s,if_neg (by omega)])
   have l:Below w.heap.size w (wr.setCell ⟨w.heap.size,j,none⟩ (.int .u8 (v:Nat))):=o.setCell (p:=⟨w.heap.size,j,none⟩) (Nat.le_refl _) _
   have m:Hid (_∧_):=⟨hh,l⟩
   clear f o hh l
   go_wp2
   go_roundw
   case rel=>exact⟨j+1,by omega,by go_num,m.out.1,m.out.2⟩
   case measure=>simp [intOf];omega
  ·obtain rfl:j=n:=by omega
   have a:=run_convert_bytes_arg (P:=prog) wr 90 5 underlying90 underlying5 w.heap.size 0 j j ((List.replicate j v).map fun (x:Nat)=>(x:Int)) (by simp) (fun i hi=>by
    rw [Nat.zero_add,f.cellF i hi,if_pos hi,List.getD_eq_getElem?_getD,List.getElem?_map,List.getElem?_eq_getElem (by simpa using hi)]
    simp) 9 underlying9
   rw [← jfillS_num] at a
   have m:Hid (Below w.heap.size w wr):=o
   clear f o
   obtain⟨X,q⟩:∃ X,X=Z0c v j:=⟨_,rfl⟩
   rw [← q] at a
   have t:Hid (X=Z0c v j):=q
   clear q
   go_wp2
   first
    | (rw [a];go_wp2)
    | skip
   go_ret
   exact⟨by rw [← t.out];rfl,m.out⟩
theorem jlsup_ret (tmps:Array Value)(g:Nat)(w':World)(cs:Array Value)(R:Ending→World→Prop)(h1:tmps.getD 4 undef= .pointer (some ⟨g,0,none⟩))(hg:w'.heap[g]? = some (.cells cs 23 (0,0)))(hs:cs.size=5)(hR:R (.returned (.agg cs)) w') :
  bodyPost prog Tryz.f19 R .ret { tmps:=tmps,defers:= []} w' :=
 bodyPost_ret (v:= .agg cs) (results_cell_row Tryz.results19 tmps w' g 23 cs (0,0) _ h1 hg underlying23 rfl (by rw [hs];kernel_rfl)) rfl hR
def Z0K (live ep:Int):Sp:=⟨7,ep,5,live,Z0c 3 32⟩
theorem jlsup_any (live ep:Int)(w:World):Calls prog 19 #[.int .i64 live,.int .i64 ep] w fun e w'=>e= .returned (.agg (Z0K live ep).arr)∧Below w.heap.size w w':=by
 have d:=fun w=>Z8e 3 32 (by decide) w
 unfold Z0K Sp.arr
 simp only
 generalize Z0c 3 32=z at *
 go_enter func19,ntmps19
 go_wp2_with fail
 refine (d _).mono ?_
 rintro e f ⟨rfl,a⟩
 have c:=(a.block w.heap.size (by simp)).trans (heap_alloc_new w _)
 have b:=(Z1b w _).trans (a.mono (by simp))
 clear a d
 go_wp2_with (refine wpList_store_row rfl 23 _ _ rfl w.heap.size #[.int .i64 7,.int .i64 ep,.int .i64 5,.int .i64 live,.string z] rfl rfl 23 _ c (by kernel_rfl) rfl (by simp [Value.oneCell']) ?_)
 exact jlsup_ret _ w.heap.size _ #[.int .i64 7,.int .i64 ep,.int .i64 5,.int .i64 live,.string z] _ rfl (setRow_heap _ _ _ _ _ _ c) rfl ⟨rfl,Z0j b (Nat.le_refl _) _⟩
theorem jsectors_any (w:World):Calls prog 16 #[.int .i64 48] w fun e w'=>e= .returned (.int .i64 784)∧Below w.heap.size w w':=by
 have b:=fun w=>rlayout_any 48 (by decide) (by decide) w
 have d:layA 48 (layQ 48) (layS 48) (layT 48)=#[.int .i64 48,.int .i64 2,.int .i64 3,.int .i64 27,.int .i64 28,.int .i64 29,.int .i64 (layQ 48:Nat),.int .i64 (29+(layQ 48:Nat)),.int .i64 (layS 48:Nat),.int .i64 (29+(layQ 48:Nat)+(layS 48:Nat)),.int .i64 (29+(layQ 48:Nat)+(layS 48:Nat)+1),.int .i64 48,.int .i64 49,.int .i64 1,.int .i64 50,.int .i64 98]:=rfl
 rw [d] at b
 generalize ((layQ 48:Nat):Int)=q at *
 generalize ((layS 48:Nat):Int)=s at *
 clear d
 go_enter func16,ntmps16
 go_wp2_with fail
 refine (b _).mono ?_
 rintro e f ⟨rfl,a⟩
 have c:Hid _:=a
 clear a b
 go_wp2
 go_ret
 exact⟨rfl,c.out.alloc c.out.size _⟩
def Blk.hd (x:Blk):Hd:=⟨0,x.At,0,0,0,0,0,0⟩
def Blk.first (x:Blk):ByteArray:=if x.hd.err=0∧x.Bad=false then x.hd.txt else Z0c x.V.toNat 48
def Blk.wt (x:Blk):Wt:=⟨x.At,x.first++Z0c x.V.toNat 464⟩
def wrsL (l:List Blk):List Wt:=(l.take 30).map Blk.wt
theorem Blk.first_size (x:Blk):x.first.size=48:=by
 unfold Blk.first
 split
 ·next h=>exact Z2o h.1
 ·exact Z0T _ _
theorem Blk.raw_size (x:Blk):x.wt.raw.size=512:=by
 show (x.first++Z0c x.V.toNat 464).size=512
 rw [ByteArray.size_append,x.first_size,Z0T]
def BlkF (x:Blk):Prop:= ∃ v:Nat,x.V=(v:Int)
theorem le_al {n:Nat}{w:World}{o:Obj}(h:n≤w.heap.size):n≤(w.alloc o).heap.size:=by simp;omega
theorem writes_l_any (v:Value)(l:List Blk)(w:World)(hv:Blks w v l)(hF:∀ x∈l,BlkF x∧x.At≤9223372036854775807)(hll:l.length≤9223372036854775807) :
  Calls prog 21 #[v] w fun e w'=> ∃ v',e= .returned v'∧WZ w' w.heap.size v' (wrsL l)∧Below w.heap.size w w':=by
 obtain⟨oa,ca,rfl⟩:=hv.form
 obtain⟨i0,ad,a8,ae,ac⟩:=info_parts Z6b
 have HV:Hid (Blks w (.slice oa l.length ca) l∧∀ x∈l,BlkF x∧x.At≤9223372036854775807):=⟨hv,hF⟩
 clear hv hF
 obtain⟨m,hm⟩:∃ m,m=min 30 l.length:=⟨_,rfl⟩
 go_enter func21,ntmps21
 go_wp2_with fail
 go_loopw [3,4] (fun sv iv wr=> ∃ (j:Nat),j≤m∧iv= .int .i64 (j:Int)∧WZ wr w.heap.size sv (wrsL (l.take j))∧Hid (Below w.heap.size w wr)) (fun _ iv _=>m-(intOf iv).toNat)
 case atStart=>exact⟨0,Nat.zero_le _,rfl,WZ.nil _ _,Below.refl _ _⟩
 case round =>
  obtain⟨j,hj,rfl,i,HB⟩:=hrel
  have a0:(wrsL (l.take j)).length=j:=by
   unfold wrsL
   rw [List.length_map,List.length_take,List.length_take]
   omega
  obtain⟨ob,H,rfl⟩:=i.form
  rw [a0] at i ⊢
  by_cases al:j<m
  ·have a6:j<l.length:=by omega
   have j1:(j:Int)<l.length:=by omega
   have j2:(j:Int)<30:=by omega
   obtain⟨g,o,rfl,hg,hx⟩:=HV.out.1.get a6
   have ag:=hx j l[j] (List.getElem?_eq_getElem a6)
   have s:g<wr.heap.size:=Nat.lt_of_lt_of_le hg HB.out.size
   obtain⟨c0,c1,c2⟩:=ag.keep (HB.out.block g hg)
   obtain⟨⟨K,ai⟩,a7⟩:=HV.out.2 l[j] (List.getElem_mem a6)
   have HN:Hid (wrsL (l.take (j+1))=wrsL (l.take j) ++ [l[j].wt]):=by
    show _=_
    unfold wrsL
    rw [List.take_take,List.take_take,Nat.min_eq_right (by omega),Nat.min_eq_right (by omega),List.take_add_one,List.getElem?_eq_getElem a6,List.map_append]
    rfl
   have O:=fun W=>rhead_any 0 l[j].At 0 0 0 0 0 0 (fun p hp=>by
    simp [Z24] at hp
    rcases hp with rfl | rfl | rfl | rfl | rfl | rfl | rfl | rfl <;> first | exact a7 | decide) W
   have HT:Hid (recS [71,82,80,78] (Z24 0 l[j].At 0 0 0 0 0 0) 8=l[j].hd.txt∧recE (Z24 0 l[j].At 0 0 0 0 0 0)=l[j].hd.err):=⟨rfl,rfl⟩
   rw [HT.out.1,HT.out.2] at O
   have HX:Hid ((l[j].hd.err=0∧l[j].Bad=false→l[j].hd.txt=l[j].first)∧(¬ (l[j].hd.err=0∧l[j].Bad=false)→Z0c l[j].V.toNat 48=l[j].first)∧l[j].wt=⟨l[j].At,l[j].first++Z0c l[j].V.toNat 464⟩):=⟨fun h=>(if_pos h).symm,fun h=>(if_neg h).symm,rfl⟩
   have af:=l[j].first_size
   clear HT ag hx
   generalize l[j].hd.txt=T at *
   generalize l[j].hd.err=E at *
   generalize l[j].first=D at *
   generalize l[j].wt=Y at *
   generalize l[j]=x at *
   obtain⟨a,y,a9⟩:=x
   simp only at ai c0 c1 c2 O HX
   subst ai
   rw [Int.toNat_natCast] at HX
   have a5:=fun W=>Z8e K 48 (by decide) W
   have aa:=fun W=>Z8e K 464 (by decide) W
   have aj:=Z0T K 464
   generalize Z0c K 464=Z at *
   generalize Z0c K 48=X at *
   generalize wrsL (l.take j)=d at *
   subst a0
   have ao:=fun I=>run_string_add_sum (P:=prog) (w:=I) D Z (by rw [af,aj];decide)
   have J:∀ u∈([.int .i64 a,.string (D++Z)]:List Value),u.oneCell'=true:=by intro u hu;simp at hu;rcases hu with rfl | rfl <;> rfl
   have a1:=HB.out.size
   have HZ:Hid (m=min 30 l.length∧g<w.heap.size):=⟨hm,hg⟩
   clear a7 hm af aj
   have a2:(E=0∧a9=false∧D=T)∨(E=0∧a9=true∧D=X)∨((E != 0)=true∧D=X):=by
    by_cases hE:E=0
    ·cases a9
     ·exact .inl ⟨hE,rfl,(HX.out.1 ⟨hE,rfl⟩).symm⟩
     ·exact .inr (.inl ⟨hE,rfl,(HX.out.2.1 (fun h=>by cases h.2)).symm⟩)
    ·exact .inr (.inr ⟨bne_iff_ne.2 hE,(HX.out.2.1 (fun h=>hE h.1)).symm⟩)
   have HY:Hid (Y=⟨a,D++Z⟩):=HX.out.2.2
   clear HX
   rcases a2 with ⟨rfl,rfl,rfl⟩ | ⟨rfl,rfl,rfl⟩ | ⟨hE,rfl⟩
   focus
    go_wp2_with fail
    refine (O _).mono ?_
    rintro e Q ⟨rfl,b⟩
    have d0:=(b.cell (p:=⟨g,o+d.length*3,none⟩) s).trans c0
    have d1:=(b.cell (p:=⟨g,o+d.length*3+1,none⟩) s).trans c1
    have d2:=(b.cell (p:=⟨g,o+d.length*3+2,none⟩) s).trans c2
    have F:Hid (Below w.heap.size w Q∧WZ Q w.heap.size (.slice ob d.length H) d):=⟨HB.out.trans (b.mono a1),WZ.below i b⟩
    have B:g<Q.heap.size:=Nat.lt_of_lt_of_le s b.size
    clear O b c0 c1 c2 i HB a1 s
    go_wp2_with fail
    have ak:Q.cell? ⟨g,o+d.length*3,none⟩=some (.int .i64 a)∧Q.cell? ⟨g,o+d.length*3+1,none⟩=some (.int .u8 (K:Int)):=⟨d0,d1⟩
    have a3:d.length+1≤maxLen:=by unfold maxLen;omega
    have a4:(d.length+1)*24≤140737488355328:=by omega
    go_region_held3 (fun w'=>w'.cell? ⟨g,o+d.length*3,none⟩=some (.int .i64 a)∧w'.cell? ⟨g,o+d.length*3+1,none⟩=some (.int .u8 (K:Int))) (first | exact R | exact z | exact t | exact ak) (first
     | (go_at_call 46;refine (aa _).mono ?_;rintro e w3 ⟨rfl,N⟩;have n:Below Q.heap.size Q w3:=(Below.refl Q.heap.size Q).drew.trans N;have t:w3.cell? ⟨g,o+d.length*3,none⟩=some (.int .i64 a)∧w3.cell? ⟨g,o+d.length*3+1,none⟩=some (.int .u8 (K:Int)):=⟨(n.cell (p:=⟨g,o+d.length*3,none⟩) B).trans d0,(n.cell (p:=⟨g,o+d.length*3+1,none⟩) B).trans d1⟩;have f:Hid (Below w.heap.size w w3∧WZ w3 w.heap.size (.slice ob d.length H) d):=⟨F.out.1.trans (n.mono F.out.1.size),WZ.below F.out.2 n⟩;have G:w.heap.size≤(w3.alloc (.cells #[.int .i64 a,.string (D++Z)] 27)).heap.size:=le_al f.out.1.size;have M:g<w3.heap.size:=Nat.lt_of_lt_of_le B n.size;have z:(w3.alloc (.cells #[.int .i64 a,.string (D++Z)] 27)).cell? ⟨g,o+d.length*3,none⟩=some (.int .i64 a)∧(w3.alloc (.cells #[.int .i64 a,.string (D++Z)] 27)).cell? ⟨g,o+d.length*3+1,none⟩=some (.int .u8 (K:Int)):=⟨(World.cell?_of_block (a:=⟨g,o+d.length*3,none⟩) (Below.heap_alloc w3 _ g M)).trans t.1,(World.cell?_of_block (a:=⟨g,o+d.length*3+1,none⟩) (Below.heap_alloc w3 _ g M)).trans t.2⟩;have r:=World.ownsRow.alloc f.out.2 (.cells #[.int .i64 a,.string (D++Z)] 27);clear N n)
     | (refine Z1W _ rfl _ _ 59 rfl w.heap.size 27 i0 (.agg #[.int .i64 0,.string ⟨#[]⟩]) 2 24 underlying59 ad a8 ae ac rfl (by decide) (.slice ob d.length H) d.length (d.flatMap Wt.cells) rfl r ⟨w3.heap.size,0,none⟩ 1 1 [.int .i64 a,.string (D++Z)] rfl rfl (World.news_of_block (heap_alloc_new w3 _)) J a3 a4 G ?_;intro v1 wB q c L;have A:Below w.heap.size (w3.alloc (.cells #[.int .i64 a,.string (D++Z)] 27)) wB:=(Below.refl _ _).grown c G fun k hk=>(World.ownsRow.lt f.out.2 k hk).1;have R:wB.cell? ⟨g,o+d.length*3,none⟩=some (.int .i64 a)∧wB.cell? ⟨g,o+d.length*3+1,none⟩=some (.int .u8 (K:Int)):=⟨(World.cell?_of_block (a:=⟨g,o+d.length*3,none⟩) (A.block g HZ.out.2)).trans z.1,(World.cell?_of_block (a:=⟨g,o+d.length*3+1,none⟩) (A.block g HZ.out.2)).trans z.2⟩))
    all_goals
     have HF:Hid (WZ wB w.heap.size v1 (wrsL (l.take (d.length+1)))∧Below w.heap.size w wB):=by
      refine⟨?_,(f.out.1.alloc f.out.1.size _).trans A⟩
      unfold WZ
      rw [HN.out,HY.out,List.length_append,List.length_singleton,List.flatMap_append,List.flatMap_singleton]
      exact q
     clear r q c L A J t z R f
     go_wp2
     go_roundw
     case rel=>exact⟨d.length+1,by omega,by go_num,HF.out.1,HF.out.2⟩
     case measure=>simp [intOf];omega
   focus
    go_wp2_with fail
    refine (O _).mono ?_
    rintro e Q ⟨rfl,b⟩
    have d0:=(b.cell (p:=⟨g,o+d.length*3,none⟩) s).trans c0
    have d1:=(b.cell (p:=⟨g,o+d.length*3+1,none⟩) s).trans c1
    have d2:=(b.cell (p:=⟨g,o+d.length*3+2,none⟩) s).trans c2
    have F:Hid (Below w.heap.size w Q∧WZ Q w.heap.size (.slice ob d.length H) d):=⟨HB.out.trans (b.mono a1),WZ.below i b⟩
    have B:g<Q.heap.size:=Nat.lt_of_lt_of_le s b.size
    clear O b c0 c1 c2 i HB a1 s
    go_wp2_with fail
    refine (a5 _).mono ?_
    rintro e I ⟨rfl,C⟩
    have e0:=(C.cell (p:=⟨g,o+d.length*3,none⟩) B).trans d0
    have e1:=(C.cell (p:=⟨g,o+d.length*3+1,none⟩) B).trans d1
    have S:Hid (Below w.heap.size w I∧WZ I w.heap.size (.slice ob d.length H) d):=⟨F.out.1.trans (C.mono F.out.1.size),WZ.below F.out.2 C⟩
    have U:g<I.heap.size:=Nat.lt_of_lt_of_le B C.size
    clear a5 C d0 d1 d2 F B
    go_wp2_with fail
    have ab:I.cell? ⟨g,o+d.length*3,none⟩=some (.int .i64 a)∧I.cell? ⟨g,o+d.length*3+1,none⟩=some (.int .u8 (K:Int)):=⟨e0,e1⟩
    have a3:d.length+1≤maxLen:=by unfold maxLen;omega
    have a4:(d.length+1)*24≤140737488355328:=by omega
    go_region_held3 (fun w'=>w'.cell? ⟨g,o+d.length*3,none⟩=some (.int .i64 a)∧w'.cell? ⟨g,o+d.length*3+1,none⟩=some (.int .u8 (K:Int))) (first | exact R | exact z | exact t | exact ab) (first
     | (go_at_call 46;refine (aa _).mono ?_;rintro e w3 ⟨rfl,N⟩;have n:Below I.heap.size I w3:=(Below.refl I.heap.size I).drew.trans N;have t:w3.cell? ⟨g,o+d.length*3,none⟩=some (.int .i64 a)∧w3.cell? ⟨g,o+d.length*3+1,none⟩=some (.int .u8 (K:Int)):=⟨(n.cell (p:=⟨g,o+d.length*3,none⟩) U).trans e0,(n.cell (p:=⟨g,o+d.length*3+1,none⟩) U).trans e1⟩;have f:Hid (Below w.heap.size w w3∧WZ w3 w.heap.size (.slice ob d.length H) d):=⟨S.out.1.trans (n.mono S.out.1.size),WZ.below S.out.2 n⟩;have G:w.heap.size≤(w3.alloc (.cells #[.int .i64 a,.string (D++Z)] 27)).heap.size:=le_al f.out.1.size;have M:g<w3.heap.size:=Nat.lt_of_lt_of_le U n.size;have z:(w3.alloc (.cells #[.int .i64 a,.string (D++Z)] 27)).cell? ⟨g,o+d.length*3,none⟩=some (.int .i64 a)∧(w3.alloc (.cells #[.int .i64 a,.string (D++Z)] 27)).cell? ⟨g,o+d.length*3+1,none⟩=some (.int .u8 (K:Int)):=⟨(World.cell?_of_block (a:=⟨g,o+d.length*3,none⟩) (Below.heap_alloc w3 _ g M)).trans t.1,(World.cell?_of_block (a:=⟨g,o+d.length*3+1,none⟩) (Below.heap_alloc w3 _ g M)).trans t.2⟩;have r:=World.ownsRow.alloc f.out.2 (.cells #[.int .i64 a,.string (D++Z)] 27);clear N n)
     | (refine Z1W _ rfl _ _ 59 rfl w.heap.size 27 i0 (.agg #[.int .i64 0,.string ⟨#[]⟩]) 2 24 underlying59 ad a8 ae ac rfl (by decide) (.slice ob d.length H) d.length (d.flatMap Wt.cells) rfl r ⟨w3.heap.size,0,none⟩ 1 1 [.int .i64 a,.string (D++Z)] rfl rfl (World.news_of_block (heap_alloc_new w3 _)) J a3 a4 G ?_;intro v1 wB q c L;have A:Below w.heap.size (w3.alloc (.cells #[.int .i64 a,.string (D++Z)] 27)) wB:=(Below.refl _ _).grown c G fun k hk=>(World.ownsRow.lt f.out.2 k hk).1;have R:wB.cell? ⟨g,o+d.length*3,none⟩=some (.int .i64 a)∧wB.cell? ⟨g,o+d.length*3+1,none⟩=some (.int .u8 (K:Int)):=⟨(World.cell?_of_block (a:=⟨g,o+d.length*3,none⟩) (A.block g HZ.out.2)).trans z.1,(World.cell?_of_block (a:=⟨g,o+d.length*3+1,none⟩) (A.block g HZ.out.2)).trans z.2⟩))
    all_goals
     have HF:Hid (WZ wB w.heap.size v1 (wrsL (l.take (d.length+1)))∧Below w.heap.size w wB):=by
      refine⟨?_,(f.out.1.alloc f.out.1.size _).trans A⟩
      unfold WZ
      rw [HN.out,HY.out,List.length_append,List.length_singleton,List.flatMap_append,List.flatMap_singleton]
      exact q
     clear r q c L A J t z R f
     go_wp2
     go_roundw
     case rel=>exact⟨d.length+1,by omega,by go_num,HF.out.1,HF.out.2⟩
     case measure=>simp [intOf];omega
   focus
    go_wp2_with fail
    refine (O _).mono ?_
    rintro e Q ⟨rfl,b⟩
    have d0:=(b.cell (p:=⟨g,o+d.length*3,none⟩) s).trans c0
    have d1:=(b.cell (p:=⟨g,o+d.length*3+1,none⟩) s).trans c1
    have d2:=(b.cell (p:=⟨g,o+d.length*3+2,none⟩) s).trans c2
    have F:Hid (Below w.heap.size w Q∧WZ Q w.heap.size (.slice ob d.length H) d):=⟨HB.out.trans (b.mono a1),WZ.below i b⟩
    have B:g<Q.heap.size:=Nat.lt_of_lt_of_le s b.size
    clear O b c0 c1 c2 i HB a1 s
    go_wp2_with fail
    refine (a5 _).mono ?_
    rintro e I ⟨rfl,C⟩
    have e0:=(C.cell (p:=⟨g,o+d.length*3,none⟩) B).trans d0
    have e1:=(C.cell (p:=⟨g,o+d.length*3+1,none⟩) B).trans d1
    have S:Hid (Below w.heap.size w I∧WZ I w.heap.size (.slice ob d.length H) d):=⟨F.out.1.trans (C.mono F.out.1.size),WZ.below F.out.2 C⟩
    have U:g<I.heap.size:=Nat.lt_of_lt_of_le B C.size
    clear a5 C d0 d1 d2 F B
    go_wp2_with fail
    have ab:I.cell? ⟨g,o+d.length*3,none⟩=some (.int .i64 a)∧I.cell? ⟨g,o+d.length*3+1,none⟩=some (.int .u8 (K:Int)):=⟨e0,e1⟩
    have a3:d.length+1≤maxLen:=by unfold maxLen;omega
    have a4:(d.length+1)*24≤140737488355328:=by omega
    go_region_held3 (fun w'=>w'.cell? ⟨g,o+d.length*3,none⟩=some (.int .i64 a)∧w'.cell? ⟨g,o+d.length*3+1,none⟩=some (.int .u8 (K:Int))) (first | exact R | exact z | exact t | exact ab) (first
     | (go_at_call 46;refine (aa _).mono ?_;rintro e w3 ⟨rfl,N⟩;have n:Below I.heap.size I w3:=(Below.refl I.heap.size I).drew.trans N;have t:w3.cell? ⟨g,o+d.length*3,none⟩=some (.int .i64 a)∧w3.cell? ⟨g,o+d.length*3+1,none⟩=some (.int .u8 (K:Int)):=⟨(n.cell (p:=⟨g,o+d.length*3,none⟩) U).trans e0,(n.cell (p:=⟨g,o+d.length*3+1,none⟩) U).trans e1⟩;have f:Hid (Below w.heap.size w w3∧WZ w3 w.heap.size (.slice ob d.length H) d):=⟨S.out.1.trans (n.mono S.out.1.size),WZ.below S.out.2 n⟩;have G:w.heap.size≤(w3.alloc (.cells #[.int .i64 a,.string (D++Z)] 27)).heap.size:=le_al f.out.1.size;have M:g<w3.heap.size:=Nat.lt_of_lt_of_le U n.size;have z:(w3.alloc (.cells #[.int .i64 a,.string (D++Z)] 27)).cell? ⟨g,o+d.length*3,none⟩=some (.int .i64 a)∧(w3.alloc (.cells #[.int .i64 a,.string (D++Z)] 27)).cell? ⟨g,o+d.length*3+1,none⟩=some (.int .u8 (K:Int)):=⟨(World.cell?_of_block (a:=⟨g,o+d.length*3,none⟩) (Below.heap_alloc w3 _ g M)).trans t.1,(World.cell?_of_block (a:=⟨g,o+d.length*3+1,none⟩) (Below.heap_alloc w3 _ g M)).trans t.2⟩;have r:=World.ownsRow.alloc f.out.2 (.cells #[.int .i64 a,.string (D++Z)] 27);clear N n)
     | (refine Z1W _ rfl _ _ 59 rfl w.heap.size 27 i0 (.agg #[.int .i64 0,.string ⟨#[]⟩]) 2 24 underlying59 ad a8 ae ac rfl (by decide) (.slice ob d.length H) d.length (d.flatMap Wt.cells) rfl r ⟨w3.heap.size,0,none⟩ 1 1 [.int .i64 a,.string (D++Z)] rfl rfl (World.news_of_block (heap_alloc_new w3 _)) J a3 a4 G ?_;intro v1 wB q c L;have A:Below w.heap.size (w3.alloc (.cells #[.int .i64 a,.string (D++Z)] 27)) wB:=(Below.refl _ _).grown c G fun k hk=>(World.ownsRow.lt f.out.2 k hk).1;have R:wB.cell? ⟨g,o+d.length*3,none⟩=some (.int .i64 a)∧wB.cell? ⟨g,o+d.length*3+1,none⟩=some (.int .u8 (K:Int)):=⟨(World.cell?_of_block (a:=⟨g,o+d.length*3,none⟩) (A.block g HZ.out.2)).trans z.1,(World.cell?_of_block (a:=⟨g,o+d.length*3+1,none⟩) (A.block g HZ.out.2)).trans z.2⟩))
    all_goals
     have HF:Hid (WZ wB w.heap.size v1 (wrsL (l.take (d.length+1)))∧Below w.heap.size w wB):=by
      refine⟨?_,(f.out.1.alloc f.out.1.size _).trans A⟩
      unfold WZ
      rw [HN.out,HY.out,List.length_append,List.length_singleton,List.flatMap_append,List.flatMap_singleton]
      exact q
     clear r q c L A J t z R f
     go_wp2
     go_roundw
     case rel=>exact⟨d.length+1,by omega,by go_num,HF.out.1,HF.out.2⟩
     case measure=>simp [intOf];omega
  ·obtain rfl:j=m:=by omega
   have HF:Hid (WZ wr w.heap.size (.slice ob j H) (wrsL l)∧Below w.heap.size w wr):=by
    refine⟨?_,HB.out⟩
    have e:wrsL (l.take j)=wrsL l:=by
     unfold wrsL
     rw [List.take_take,Nat.min_comm 30 j,hm,Nat.min_eq_left (by omega)]
     by_cases ah:l.length≤30
     ·rw [Nat.min_eq_right ah,List.take_length,List.take_of_length_le ah]
     ·rw [Nat.min_eq_left (by omega)]
    rw [e] at i
    have e2:(wrsL l).length=j:=by rw [← e];exact a0
    unfold WZ at i ⊢
    rw [e2] at i ⊢
    exact i
   have a2:(¬ (j:Int)<l.length)∨((j:Int)<l.length∧¬ (j:Int)<30):=by omega
   clear i HB hm a0 al
   rcases a2 with h1 | ⟨h1,h2⟩
   all_goals
    go_wp2
    go_ret
    exact⟨_,rfl,HF.out.1,HF.out.2⟩
end Go.Proofs.YtijpgmkdnemmbaaGreatDoor
