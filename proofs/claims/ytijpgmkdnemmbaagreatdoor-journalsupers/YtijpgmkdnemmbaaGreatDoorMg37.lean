/- Part 37. -/
import Derived.Test.YtijpgmkdnemmbaaGreatDoorMg36
import Derived.Test.YtijpgmkdnemmbaaGreatDoorMg04
set_option maxRecDepth 20000
set_option maxHeartbeats 8000000
open Go.RowKit Go.Proofs.Tryz
namespace Go.Proofs.YtijpgmkdnemmbaaGreatDoor
namespace Sm
def keyP (k:List Nat):List Nat:=padK (if 64<k.length then shaL k else k)
def macL (K m:List Nat):List Nat:=shaL (xorL 92 K++shaL (xorL 54 K++m))
def catS (S:Nat→ByteArray):Nat→List Nat
 | 0=> []
 | n+1=>catS S n++Z00 (S n)
theorem Z3z (S:Nat→ByteArray):∀ n,Z03 (catS S n)
 | 0=>fun x hx=>by simp [catS] at hx
 | n+1=>(Z3z S n).append (Z04 _)
theorem Z7M (k:List Nat):(keyP k).length=64:=by
 unfold keyP
 split
 ·exact Z2s _ (by rw [Z09];decide)
 ·exact Z2s _ (by omega)
theorem keyP_bytes {k:List Nat}(h:Z03 k):Z03 (keyP k):=by
 unfold keyP
 split
 ·exact Z2T (Z1n _)
 ·exact Z2T h
theorem keyOf_any (s:ByteArray)(hs:s.size<1099511627776)(w:World)(hf:Z3p w)(hq:Z0H w) :
  Calls prog 62 #[.string s] w fun e w'=> ∃ R1 R2,Z1Q R1∧Z1Q R2∧e= .returned (.agg (keyV (keyP (Z00 s)) R1 R2).toArray)∧Below w.heap.size w w':=by
 unfold keyP
 by_cases h:64<s.size
 ·rw [if_pos (by rw [Z01];exact h)]
  exact keyOf_long s h hs w hf hq
 ·rw [if_neg (by rw [Z01];exact h)]
  exact keyOf_short s (by omega) w hf hq
theorem Z4z (st:St)(R:List Value)(h n:Nat)(hR:∀ v∈R,v.oneCell'=true):∀ v∈mixV st R h n,v.oneCell'=true:=by
 intro v a
 simp only [mixV,mixA,mixT,List.mem_append,List.mem_cons,List.not_mem_nil,or_false] at a
 rcases a with ((rfl | rfl | rfl | rfl | rfl | rfl | rfl | rfl | rfl) | a) | rfl | rfl
 all_goals first
  | exact hR v a
  | rfl
theorem Z5B {w:World}{B:Nat}{ip:List Nat}{R:List Value}(h:Row w B 150 (mixV (Z0e ip 1) R 0 64))(hR:R.length=64)(hl:ip.length=64):Z1D w B ip ip.length:=by
 refine⟨R,by rw [hl];exact hR,?_⟩
 have a:ip.drop (64*(64/64))= []:=List.drop_eq_nil_of_le (by omega)
 rw [hl,a]
 exact h
theorem Z0G {w w':World}{b o:Nat}{cs:List Value}(h:w.rangeAt b o cs)(hb:w'.heap[b]? = w.heap[b]?):w'.rangeAt b o cs:=fun j v hj=>(World.cell?_of_block (a:=⟨b,o+j,none⟩) hb).trans (h j v hj)
theorem macStores (w0:World)(zs:Array Value)(hz:zs.size=75)(t:TypeId)(M1 M2:List Value)(h1:M1.length=75)(h2:M2.length=75)(I O:Nat)
  (hIO:(I=w0.heap.size∧O=w0.heap.size+1)∨(I=w0.heap.size+1∧O=w0.heap.size))(W:World)(hW:W=((w0.alloc (.cells zs t)).alloc (.cells zs t)).drew) :
  W.there I 0 75∧(W.setCells I 0 M1).there O 0 75∧Row ((W.setCells I 0 M1).setCells O 0 M2) I t M1∧Row ((W.setCells I 0 M1).setCells O 0 M2) O t M2∧Below w0.heap.size w0 ((W.setCells I 0 M1).setCells O 0 M2)∧((∀ k,k<w0.heap.size→(W.setCells I 0 M1).heap[k]? = w0.heap[k]?)∧True):=by
 have c:Row W I t zs.toList:=by
  rw [hW]
  rcases hIO with ⟨rfl,_⟩ | ⟨rfl,_⟩
  ·exact heap_alloc2_old w0 _ _
  ·exact heap_alloc2_new w0 _ _
 have i:Row W O t zs.toList:=by
  rw [hW]
  rcases hIO with ⟨_,rfl⟩ | ⟨_,rfl⟩
  ·exact heap_alloc2_new w0 _ _
  ·exact heap_alloc2_old w0 _ _
 have l:Below w0.heap.size w0 W:=by rw [hW];exact (((Below.refl _ _).alloc (Nat.le_refl _) _).alloc (by simp) _).drew
 have m:zs.toList.length=75:=by simpa using hz
 have g:Only I W (W.setCells I 0 M1):=Only.setCells _ _ _ (Only.refl _ _)
 have f:Row (W.setCells I 0 M1) I t M1:=by
  have:=Row.setCells (C:= []) M1 zs.toList [] W 0 (by omega) rfl (by simpa using c)
  simpa using this
 have a:=i.only g (by omega)
 have h:Only O (W.setCells I 0 M1) ((W.setCells I 0 M1).setCells O 0 M2):=Only.setCells _ _ _ (Only.refl _ _)
 have e:Row ((W.setCells I 0 M1).setCells O 0 M2) O t M2:=by
  have:=Row.setCells (C:= []) M2 zs.toList [] (W.setCells I 0 M1) 0 (by omega) rfl (by simpa using a)
  simpa using this
 have d:=f.only h (by omega)
 have b:=l.trans ((g.below (Nat.le_of_lt c.lt)).mono (by omega))
 refine⟨fun j hj=>⟨by rw [c.cell,Nat.zero_add,List.getElem?_eq_getElem (by omega)];rfl,c.frozen _⟩,fun j hj=>⟨by rw [a.cell,Nat.zero_add,List.getElem?_eq_getElem (by omega)];rfl,a.frozen _⟩,d,e,b.trans ((h.below (Nat.le_of_lt a.lt)).mono (by omega)),fun k hk=>b.block k hk,trivial⟩
set_option maxRecDepth 10000 in
theorem mac_any (KB:Nat)(K:List Nat)(hKl:K.length=64)(hKb:Z03 K)(R1 R2:List Value)(hR1:Z1Q R1)(hR2:Z1Q R2)(v:Value)(n:Nat)(S:Nat→ByteArray)(w:World)(hv:Strs w v n S)(hsz:∀ j,j≤n→(catS S j).length<549755813888)(hq:Z0H w)(hr:Row w KB 152 (keyV K R1 R2)) :
  Calls prog 106 #[.pointer (some ⟨KB,0,none⟩),v] w fun e w'=>e= .returned (.agg (byV (macL K (catS S n))).toArray)∧Below w.heap.size w w':=by
 obtain⟨a,b7,rfl,b4,hc⟩:=hv
 have hn:n≤9223372036854775807:=by unfold maxLen at b4;omega
 clear b4
 obtain⟨Z,az⟩:∃ Z,Z=(mixZ).toArray:=⟨_,rfl⟩
 have b6:∀ w,(zeroValue 150).run prog w= .ok (.agg Z) w:=by rw [az];exact mix_zero
 have b3:Z.size=75:=by rw [az];rfl
 obtain⟨Q,af⟩:∃ Q,Q=mixV (Z0e (xorL 54 K) 1) R1 0 64:=⟨_,rfl⟩
 obtain⟨M2,ar⟩:∃ M2,M2=mixV (Z0e (xorL 92 K) 1) R2 0 64:=⟨_,rfl⟩
 have l1:Q.length=75:=by rw [af];simp [mixV,mixA,mixT,hR1.1]
 have l2:M2.length=75:=by rw [ar];simp [mixV,mixA,mixT,hR2.1]
 have s1:Q.toArray.size=75:=by simpa using l1
 have s2:M2.toArray.size=75:=by simpa using l2
 have o1:∀ v∈Q,v.oneCell'=true:=by rw [af];exact Z4z _ _ _ _ hR1.2
 have o2:∀ v∈M2,v.oneCell'=true:=by rw [ar];exact Z4z _ _ _ _ hR2.2
 have au:Row w KB 152 (Q++M2):=by rw [af,ar];exact hr
 have i1:(prog.info? 150).map (·.size)=some Q.length:=by rw [l1];exact Z2R
 have i2:(prog.info? 150).map (·.size)=some M2.length:=by rw [l2];exact Z2R
 have uM:=underlying150
 obtain⟨zd,b1⟩:∃ zd:Array Value,zd=(digV []).toArray:=⟨_,rfl⟩
 have b8:∀ w,(zeroValue 156).run prog w= .ok (.agg zd) w:=by rw [b1];exact (zero_of_info (n:=32) (by kernel_rfl)).1
 have ay:∀ o,(w.alloc o).rangeAt KB 0 Q∧(w.alloc o).rangeAt KB 75 M2:=fun o=>by
  have h2:Row (w.alloc o) KB 152 (Q++M2):=(Below.heap_alloc w o KB (by have:=au.lt;omega)).trans au
  exact⟨fun j v hj=>by rw [h2.cell,Nat.zero_add,List.getElem?_append_left (List.getElem?_eq_some_iff.1 hj).1,hj],fun j v hj=>by rw [h2.cell,List.getElem?_append_right (by omega),l1,Nat.add_sub_cancel_left,hj]⟩
 have r:Hid (_∧_∧_):=⟨af,ar,b1⟩
 clear af ar hr b1 az
 go_enter func106,ntmps106
 go_wp2_with fail
 have B:=(ay (.cells zd 156)).1
 have C:=(ay (.cells zd 156)).2
 obtain⟨w0,Y⟩:∃ w0,w.alloc (.cells zd 156)=w0:=⟨_,rfl⟩
 rw [Y] at B C
 rw [Y]
 have A:KB<w0.heap.size:=by rw [← Y];have:=au.lt;simp;omega
 have ac:w.heap.size<w0.heap.size:=by rw [← Y];simp
 have X:Below w.heap.size w w0:=by rw [← Y];exact (Below.refl _ _).alloc (Nat.le_refl _) _
 have ad:=hq.below X hq.1
 have av:Row w0 w.heap.size 156 (digV []):=by rw [← Y,r.out.2.2];exact heap_alloc_new w _
 have al:zd.size=32:=by rw [r.out.2.2];rfl
 clear ay
 refine wp_region_noPanic ?_
 refine wp_region_held_drew (S:=fun w'=>w'.rangeAt KB 0 Q∧w'.rangeAt KB 75 M2) (by kernel_rfl) ⟨B,C⟩ (fun hHeld=> ?_)
 refine wpAnyH_take (i:=0) (v:= .pointer (some ⟨KB,0,none⟩)) rfl (by kernel_rfl) (by kernel_rfl) (by kernel_rfl) (fun _ _ _ h=>h) (Or.inl ⟨by rfl,?_⟩) (by assumption) ?_
 ·intro w' E;(try dsimp only at E);go_simp
 simp only [Act.put]
 refine wpAnyH_take (i:=1) (v:= .pointer (some ⟨KB,0,none⟩)) rfl (by kernel_rfl) (by kernel_rfl) (by kernel_rfl) (fun _ _ _ h=>h) (Or.inl ⟨by rfl,?_⟩) (by assumption) ?_
 ·intro w' E;(try dsimp only at E);go_simp
 simp only [Act.put]
 refine wpAnyH_take (i:=2) (v:= .pointer (some ⟨KB,0,none⟩)) rfl (by kernel_rfl) (by kernel_rfl) (by kernel_rfl) (fun _ _ _ h=>h) (Or.inl ⟨by rfl,?_⟩) (by assumption) ?_
 ·intro w' E;(try dsimp only at E);go_simp
 simp only [Act.put]
 refine wpAnyH_take (i:=3) (v:= .agg Q.toArray) rfl (by kernel_rfl) (by kernel_rfl) (by kernel_rfl) (fun _ _ _ h=>h) (yieldsIf_load_mid (by rfl) _ _ rfl _ _ rfl _ _ (fun w h=>h.1) uM rfl i1) (by assumption) ?_
 simp only [Act.put]
 refine wpAnyH_take (i:=4) (v:= .pointer (some ⟨KB,0,none⟩)) rfl (by kernel_rfl) (by kernel_rfl) (by kernel_rfl) (fun _ _ _ h=>h) (Or.inl ⟨by rfl,?_⟩) (by assumption) ?_
 ·intro w' E;(try dsimp only at E);go_simp
 simp only [Act.put]
 refine wpAnyH_take (i:=5) (v:= .pointer (some ⟨KB,0,none⟩)) rfl (by kernel_rfl) (by kernel_rfl) (by kernel_rfl) (fun _ _ _ h=>h) (Or.inl ⟨by rfl,?_⟩) (by assumption) ?_
 ·intro w' E;(try dsimp only at E);go_simp
 simp only [Act.put]
 refine wpAnyH_take (i:=6) (v:= .pointer (some ⟨KB,75,none⟩)) rfl (by kernel_rfl) (by kernel_rfl) (by kernel_rfl) (fun _ _ _ h=>h) (Or.inl ⟨by rfl,?_⟩) (by assumption) ?_
 ·intro w' E;(try dsimp only at E);go_simp
 simp only [Act.put]
 refine wpAnyH_take (i:=7) (v:= .agg M2.toArray) rfl (by kernel_rfl) (by kernel_rfl) (by kernel_rfl) (fun _ _ _ h=>h) (yieldsIf_load_mid (by rfl) _ _ rfl _ _ rfl _ _ (fun w h=>h.2) uM rfl i2) (by assumption) ?_
 simp only [Act.put]
 refine wpAnyH_ready (rs:= [8,9]) (by kernel_rfl) (by simp) ?_
 refine AllReadyH.cons rfl (fun K hK=> ?_) (AllReadyH.cons rfl (fun K hK=> ?_) AllReadyH.nil)
 ·go_simp
  refine hK.out _ _ ⟨Z0G (w:=w0) B (Below.heap_alloc w0 _ KB (by omega)),Z0G (w:=w0) C (Below.heap_alloc w0 _ KB (by omega))⟩ (fun _=> ?_)
  clear hK K
  refine wpAnyH_ready (rs:= [9]) (by kernel_rfl) (by simp) ?_
  refine AllReadyH.cons rfl (fun K hK=> ?_) AllReadyH.nil
  go_simp
  have aj:=(Below.heap_alloc (w0.alloc (.cells Z 150)) (.cells Z 150) KB (by simp;omega)).trans (Below.heap_alloc w0 (.cells Z 150) KB (by omega))
  refine hK.out _ _ ⟨Z0G (w:=w0) B aj,Z0G (w:=w0) C aj⟩ (fun _=> ?_)
  clear hK K
  obtain⟨t1,t2,g1,g2,g3,g4⟩:=macStores w0 Z b3 150 Q M2 l1 l2 (w0.heap.size) (w0.heap.size+1) (by omega) _ rfl
  refine wpAnyH_ready (rs:= [10]) (by kernel_rfl) (by simp) ?_
  refine AllReadyH.cons rfl (fun K hK=> ?_) AllReadyH.nil
  rw [if_pos (by rfl)]
  refine wp_store_mid 150 _ _ rfl (w0.heap.size) 0 Q.toArray rfl rfl (by rw [s1];exact t1) (by rw [s1,← l1];exact i1) (all_oneCell_toArray o1) ?_
  refine hK.out _ _ ⟨Z0G (w:=w0) B (g4.1 KB A),Z0G (w:=w0) C (g4.1 KB A)⟩ (fun _=> ?_)
  clear hK K
  refine wpAnyH_ready (rs:= [11]) (by kernel_rfl) (by simp) ?_
  refine AllReadyH.cons rfl (fun K hK=> ?_) AllReadyH.nil
  rw [if_pos (by rfl)]
  refine wp_store_mid 150 _ _ rfl (w0.heap.size+1) 0 M2.toArray rfl rfl (by rw [s2];exact t2) (by rw [s2,← l2];exact i2) (all_oneCell_toArray o2) ?_
  refine hK.out _ _ ⟨Z0G (w:=w0) B (g3.block KB A),Z0G (w:=w0) C (g3.block KB A)⟩ (fun _=> ?_)
  clear hK K
  refine wpAnyH_done (by kernel_rfl) ?_ _
  refine NoPanic.normal ?_
  generalize hW5:((((w0.alloc (.cells Z 150)).alloc (.cells Z 150)).drew.setCells (w0.heap.size) 0 Q).setCells (w0.heap.size+1) 0 M2)=w5 at *
  clear hW5
  go_wp2_with fail
  have z:=Z5B (R:=R1) (by rw [← r.out.1];exact g1) hR1.1 (show (xorL 54 K).length=64 by rw [Z0a];exact hKl)
  have q:=Z5B (R:=R2) (by rw [← r.out.2.1];exact g2) hR2.1 (show (xorL 92 K).length=64 by rw [Z0a];exact hKl)
  have V:Z03 (xorL 54 K):=Z1a (by decide) hKb
  have T:Z03 (xorL 92 K):=Z1a (by decide) hKb
  have U:(xorL 54 K).length=64:=by rw [Z0a];exact hKl
  have ah:(xorL 92 K).length=64:=by rw [Z0a];exact hKl
  have a1:Hid (shaL (xorL 92 K++shaL (xorL 54 K++catS S n))=macL K (catS S n)):=rfl
  generalize xorL 54 K=ip at *
  generalize xorL 92 K=op at *
  have HL:Hid (Z1D w5 (w0.heap.size) ip ip.length∧Z1D w5 (w0.heap.size+1) op op.length∧Below w0.heap.size w0 w5):=⟨z,q,g3⟩
  have t:Hid (Z0H w0∧Below w.heap.size w w0∧(n=0∨∃ b l,a=some ⟨b,l,none⟩∧b<w.heap.size∧∀ i,i<n→w.cell? ⟨b,l+i,none⟩=some (.string (S i)))∧Row w0 w.heap.size 156 (digV [])∧(∀ j,j≤n→(catS S j).length<549755813888)):=⟨ad,X,hc,av,hsz⟩
  have b5:2<w0.heap.size:=ad.1
  have a8:w.heap.size<w0.heap.size:=ac
  clear z q g1 g2 g3 g4 t1 t2 ad X hc av ac hsz B C Y au i1 i2 o1 o2 hq r
  go_loopw [20] (fun i wr=> ∃ j:Nat,j≤n∧i= .int .i64 j∧Z1D wr (w0.heap.size) (ip++catS S j) (ip++catS S j).length∧Z1D wr (w0.heap.size+1) op op.length∧Below w0.heap.size w0 wr) (fun i _=>n-(intOf i).toNat)
  case atStart=>exact⟨0,Nat.zero_le _,rfl,by rw [catS,List.append_nil];exact HL.out.1,HL.out.2.1,HL.out.2.2⟩
  case round =>
   clear HL
   obtain⟨j,hj,rfl,z,q,hb⟩:=hrel
   by_cases b0:j<n
   ·obtain⟨b,l,rfl,ap,I⟩:∃ b l,a=some ⟨b,l,none⟩∧b<w.heap.size∧∀ i,i<n→w.cell? ⟨b,l+i,none⟩=some (.string (S i)):=by
     rcases t.out.2.2.1 with h0 | h
     ·omega
     ·exact h
    have ck:=(hb.cell (p:=⟨b,l+j,none⟩) (Nat.lt_trans ap a8)).trans ((t.out.2.1.cell (p:=⟨b,l+j,none⟩) ap).trans (I j b0))
    have i1:(j:Int)<n:=by omega
    have ao:=t.out.2.2.2.2 (j+1) (by omega)
    rw [catS,List.length_append,Z01] at ao
    have r:Hid (Z1D wr (w0.heap.size) (ip++catS S j) (ip++catS S j).length∧Z1D wr (w0.heap.size+1) op op.length∧Below w0.heap.size w0 wr∧(ip++catS S j).length+(S j).size<1099511627776):=⟨z,q,hb,by rw [List.length_append,U];omega⟩
    clear z q hb I ao
    go_wp2_with fail
    refine (Z5z (w0.heap.size) (ip++catS S j) (V.append (Z3z S j)) (S j) r.out.2.2.2 wr (t.out.1.below r.out.2.2.1 t.out.1.1) (by omega) r.out.1).mono ?_
    rintro e D ⟨rfl,a2,a7⟩
    rw [List.append_assoc] at a2
    have HF:Hid (Z1D D (w0.heap.size) (ip++catS S (j+1)) (ip++catS S (j+1)).length∧Z1D D (w0.heap.size+1) op op.length∧Below w0.heap.size w0 D):=⟨a2,mixAt_only r.out.2.1 a7 (by omega),r.out.2.2.1.trans ((a7.below (Z6W r.out.1)).mono (by omega))⟩
    clear a2 a7 ck
    go_wp2
    go_roundw
    case rel=>exact⟨j+1,by omega,by go_num,HF.out.1,HF.out.2.1,HF.out.2.2⟩
    case measure=>simp [intOf];omega
   ·obtain rfl:j=n:=by omega
    obtain⟨R,hR,a4⟩:=z
    obtain⟨L,hL⟩:∃ L,L=ip++catS S j:=⟨_,rfl⟩
    have F:Z03 L:=by rw [hL];exact V.append (Z3z S j)
    have J:L.length<1099511627776:=by have:=t.out.2.2.2.2 j (Nat.le_refl _);rw [hL,List.length_append,U];omega
    rw [← hL] at hR a4 a1
    obtain⟨cs,k⟩:∃ cs,cs=(mixV (Z0e L (L.length/64)) (byV (L.drop (64*(L.length/64)))++R) (L.length%64) L.length).toArray:=⟨_,rfl⟩
    have G:cs.size=75:=by
     have:=Z62 L R hR
     rw [k,mixV]
     simp at this ⊢
     rw [mixT];simp;omega
    have hk:wr.heap[w0.heap.size]? = some (.cells cs 150 (0,0)):=by rw [k];exact a4
    have c:(prog.info? 150).map (·.size)=some cs.size:=by rw [G];exact Z2R
    have m:Hid (Calls prog 130 #[.agg cs] wr fun e w'=>e= .returned (.agg (byV (shaL L)).toArray)∧Below wr.heap.size wr w'):=by
     have h:=Z3y L F R hR J wr (t.out.1.below hb t.out.1.1)
     rw [← k] at h
     exact h
    have r:Hid (Z1D wr (w0.heap.size+1) op op.length∧Below w0.heap.size w0 wr):=⟨q,hb⟩
    clear hR a4 k q hb F J hL
    go_wp2_with (refine wpList_load_row rfl 150 _ rfl (w0.heap.size) rfl 150 _ (0,0) _ hk underlying150 rfl c ?_)
    refine m.out.mono ?_
    rintro e D ⟨rfl,aa⟩
    clear m hk c G
    obtain⟨d,f⟩:∃ d,d=(byV (shaL L)).toArray:=⟨_,rfl⟩
    have g:d.size=32:=by rw [f];simp [byV,Z09]
    have s:d.all (·.oneCell')=true:=by rw [f];simp [byV,Value.oneCell']
    have c:(prog.info? 156).map (·.size)=some d.size:=by rw [g];kernel_rfl
    have W:zd.size=d.size:=by rw [al,g]
    rw [← f]
    have O:Hid (d=(byV (shaL L)).toArray):=f
    clear f
    go_wp2_with (refine wpList_store_row rfl 156 _ _ rfl D.heap.size d rfl rfl 156 _ (heap_alloc_new D _) c W s ?_)
    rw [World.setRow_alloc_new]
    have k7:Row (D.alloc (.cells d 156)) D.heap.size 156 (byV (shaL L)):=by rw [O.out];exact heap_alloc_new D _
    have a9:=aa.alloc aa.size (.cells d 156)
    generalize D.alloc (.cells d 156)=w7 at *
    have a3:=run_convert_bytes_arg (P:=prog) w7 90 5 underlying90 underlying5 D.heap.size 0 32 32 ((shaL L).map fun (x:Nat)=>(x:Int)) (by simp [Z09]) (fun i hi=>by
     rw [Nat.zero_add,k7.cell,Z0s _ _ (by rw [Z09];exact hi)]
     simp [List.getD,Z09,hi]) 9 underlying9
    obtain⟨sd,ab⟩:∃ sd,sd=strOfNums ((shaL L).map fun (x:Nat)=>(x:Int)):=⟨_,rfl⟩
    have a5:Z00 sd=shaL L:=by rw [ab];exact Z08 _ (Z1n _)
    rw [← ab] at a3
    have b2:sd.size=32:=by rw [← Z01,a5,Z09]
    have H7:Hid (Z1D w7 (w0.heap.size+1) op op.length∧Below w0.heap.size w0 w7∧Z00 sd=shaL L):=⟨Z7L r.out.1 a9,r.out.2.trans (a9.mono r.out.2.size),a5⟩
    clear ab a5 k7 aa a9 s c W g O
    go_wp2_with fail
    first
     | (rw [a3];go_wp2_with fail)
     | skip
    refine (Z5z (w0.heap.size+1) op T sd (by omega) w7 (t.out.1.below H7.out.2.1 t.out.1.1) (by omega) H7.out.1).mono ?_
    rintro e w8 ⟨rfl,ag,ae⟩
    rw [H7.out.2.2] at ag
    have a0:Below w0.heap.size w0 w8:=H7.out.2.1.trans ((ae.below (Z6W H7.out.1)).mono (by omega))
    clear ae a3
    obtain⟨R',M,a6⟩:=ag
    obtain⟨u,N⟩:∃ u,u=op++shaL L:=⟨_,rfl⟩
    have F:Z03 u:=by rw [N];exact T.append (Z1n _)
    have J:u.length<1099511627776:=by rw [N,List.length_append,ah,Z09];decide
    rw [← N] at M a6 a1
    obtain⟨y,k⟩:∃ y,y=(mixV (Z0e u (u.length/64)) (byV (u.drop (64*(u.length/64)))++R') (u.length%64) u.length).toArray:=⟨_,rfl⟩
    have G:y.size=75:=by
     have:=Z62 u R' M
     rw [k,mixV]
     simp at this ⊢
     rw [mixT];simp;omega
    have hk:w8.heap[w0.heap.size+1]? = some (.cells y 150 (0,0)):=by rw [k];exact a6
    have c:(prog.info? 150).map (·.size)=some y.size:=by rw [G];exact Z2R
    have m:Hid (Calls prog 130 #[.agg y] w8 fun e w'=>e= .returned (.agg (byV (shaL u)).toArray)∧Below w8.heap.size w8 w'):=by
     have h:=Z3y u F R' M J w8 (t.out.1.below a0 t.out.1.1)
     rw [← k] at h
     exact h
    have aq:Hid (Below w0.heap.size w0 w8):=a0
    clear M a6 k a0 F J N
    go_wp2_with (refine wpList_load_row rfl 150 _ rfl (w0.heap.size+1) rfl 150 _ (0,0) _ hk underlying150 rfl c ?_)
    refine m.out.mono ?_
    rintro e w9 ⟨rfl,ai⟩
    clear m hk c G
    have H:=aq.out.trans (ai.mono aq.out.size)
    have ak:w9.heap[w.heap.size]? = some (.cells (digV []).toArray 156 (0,0)):=t.out.2.2.2.1.below H a8
    obtain⟨d,f⟩:∃ d,d=(byV (shaL u)).toArray:=⟨_,rfl⟩
    have g:d.size=32:=by rw [f];simp [byV,Z09]
    have s:d.all (·.oneCell')=true:=by rw [f];simp [byV,Value.oneCell']
    have c:(prog.info? 156).map (·.size)=some d.size:=by rw [g];kernel_rfl
    have aw:(digV []).toArray.size=d.size:=by rw [g];rfl
    have O:Hid (d=(byV (macL K (catS S j))).toArray):=by show _=_;rw [f,a1.out]
    rw [← f]
    have HB:Hid (Below w.heap.size w (w9.setRow w.heap.size d)):=Z0l (t.out.2.1.trans (H.mono (Nat.le_of_lt a8))) (Nat.le_refl _) d
    have ax:=run_loadVar_row (P:=prog) (w9.setRow w.heap.size d) w.heap.size 156 156 d (0,0) _ (setRow_heap _ _ _ _ _ _ ak) underlying156 rfl c
    clear f ai H
    go_wp2_with (refine wpList_store_row rfl 156 _ _ rfl w.heap.size d rfl rfl 156 _ ak c aw s ?_)
    exact bodyPost_ret (v:= .agg d) (by simp [results,Tryz.results106,asAddr,Act.put,ax]) rfl ⟨by rw [O.out],HB.out⟩
 ·go_simp
  refine hK.out _ _ ⟨Z0G (w:=w0) B (Below.heap_alloc w0 _ KB (by omega)),Z0G (w:=w0) C (Below.heap_alloc w0 _ KB (by omega))⟩ (fun _=> ?_)
  clear hK K
  refine wpAnyH_ready (rs:= [8]) (by kernel_rfl) (by simp) ?_
  refine AllReadyH.cons rfl (fun K hK=> ?_) AllReadyH.nil
  go_simp
  have aj:=(Below.heap_alloc (w0.alloc (.cells Z 150)) (.cells Z 150) KB (by simp;omega)).trans (Below.heap_alloc w0 (.cells Z 150) KB (by omega))
  refine hK.out _ _ ⟨Z0G (w:=w0) B aj,Z0G (w:=w0) C aj⟩ (fun _=> ?_)
  clear hK K
  obtain⟨t1,t2,g1,g2,g3,g4⟩:=macStores w0 Z b3 150 Q M2 l1 l2 (w0.heap.size+1) (w0.heap.size) (by omega) _ rfl
  refine wpAnyH_ready (rs:= [10]) (by kernel_rfl) (by simp) ?_
  refine AllReadyH.cons rfl (fun K hK=> ?_) AllReadyH.nil
  rw [if_pos (by rfl)]
  refine wp_store_mid 150 _ _ rfl (w0.heap.size+1) 0 Q.toArray rfl rfl (by rw [s1];exact t1) (by rw [s1,← l1];exact i1) (all_oneCell_toArray o1) ?_
  refine hK.out _ _ ⟨Z0G (w:=w0) B (g4.1 KB A),Z0G (w:=w0) C (g4.1 KB A)⟩ (fun _=> ?_)
  clear hK K
  refine wpAnyH_ready (rs:= [11]) (by kernel_rfl) (by simp) ?_
  refine AllReadyH.cons rfl (fun K hK=> ?_) AllReadyH.nil
  rw [if_pos (by rfl)]
  refine wp_store_mid 150 _ _ rfl (w0.heap.size) 0 M2.toArray rfl rfl (by rw [s2];exact t2) (by rw [s2,← l2];exact i2) (all_oneCell_toArray o2) ?_
  refine hK.out _ _ ⟨Z0G (w:=w0) B (g3.block KB A),Z0G (w:=w0) C (g3.block KB A)⟩ (fun _=> ?_)
  clear hK K
  refine wpAnyH_done (by kernel_rfl) ?_ _
  refine NoPanic.normal ?_
  generalize hW5:((((w0.alloc (.cells Z 150)).alloc (.cells Z 150)).drew.setCells (w0.heap.size+1) 0 Q).setCells (w0.heap.size) 0 M2)=w5 at *
  clear hW5
  go_wp2_with fail
  have z:=Z5B (R:=R1) (by rw [← r.out.1];exact g1) hR1.1 (show (xorL 54 K).length=64 by rw [Z0a];exact hKl)
  have q:=Z5B (R:=R2) (by rw [← r.out.2.1];exact g2) hR2.1 (show (xorL 92 K).length=64 by rw [Z0a];exact hKl)
  have V:Z03 (xorL 54 K):=Z1a (by decide) hKb
  have T:Z03 (xorL 92 K):=Z1a (by decide) hKb
  have U:(xorL 54 K).length=64:=by rw [Z0a];exact hKl
  have ah:(xorL 92 K).length=64:=by rw [Z0a];exact hKl
  have a1:Hid (shaL (xorL 92 K++shaL (xorL 54 K++catS S n))=macL K (catS S n)):=rfl
  generalize xorL 54 K=ip at *
  generalize xorL 92 K=op at *
  have HL:Hid (Z1D w5 (w0.heap.size+1) ip ip.length∧Z1D w5 (w0.heap.size) op op.length∧Below w0.heap.size w0 w5):=⟨z,q,g3⟩
  have t:Hid (Z0H w0∧Below w.heap.size w w0∧(n=0∨∃ b l,a=some ⟨b,l,none⟩∧b<w.heap.size∧∀ i,i<n→w.cell? ⟨b,l+i,none⟩=some (.string (S i)))∧Row w0 w.heap.size 156 (digV [])∧(∀ j,j≤n→(catS S j).length<549755813888)):=⟨ad,X,hc,av,hsz⟩
  have b5:2<w0.heap.size:=ad.1
  have a8:w.heap.size<w0.heap.size:=ac
  clear z q g1 g2 g3 g4 t1 t2 ad X hc av ac hsz B C Y au i1 i2 o1 o2 hq r
  go_loopw [20] (fun i wr=> ∃ j:Nat,j≤n∧i= .int .i64 j∧Z1D wr (w0.heap.size+1) (ip++catS S j) (ip++catS S j).length∧Z1D wr (w0.heap.size) op op.length∧Below w0.heap.size w0 wr) (fun i _=>n-(intOf i).toNat)
  case atStart=>exact⟨0,Nat.zero_le _,rfl,by rw [catS,List.append_nil];exact HL.out.1,HL.out.2.1,HL.out.2.2⟩
  case round =>
   clear HL
   obtain⟨j,hj,rfl,z,q,hb⟩:=hrel
   by_cases b0:j<n
   ·obtain⟨b,l,rfl,ap,I⟩:∃ b l,a=some ⟨b,l,none⟩∧b<w.heap.size∧∀ i,i<n→w.cell? ⟨b,l+i,none⟩=some (.string (S i)):=by
     rcases t.out.2.2.1 with h0 | h
     ·omega
     ·exact h
    have ck:=(hb.cell (p:=⟨b,l+j,none⟩) (Nat.lt_trans ap a8)).trans ((t.out.2.1.cell (p:=⟨b,l+j,none⟩) ap).trans (I j b0))
    have i1:(j:Int)<n:=by omega
    have ao:=t.out.2.2.2.2 (j+1) (by omega)
    rw [catS,List.length_append,Z01] at ao
    have r:Hid (Z1D wr (w0.heap.size+1) (ip++catS S j) (ip++catS S j).length∧Z1D wr (w0.heap.size) op op.length∧Below w0.heap.size w0 wr∧(ip++catS S j).length+(S j).size<1099511627776):=⟨z,q,hb,by rw [List.length_append,U];omega⟩
    clear z q hb I ao
    go_wp2_with fail
    refine (Z5z (w0.heap.size+1) (ip++catS S j) (V.append (Z3z S j)) (S j) r.out.2.2.2 wr (t.out.1.below r.out.2.2.1 t.out.1.1) (by omega) r.out.1).mono ?_
    rintro e D ⟨rfl,a2,a7⟩
    rw [List.append_assoc] at a2
    have HF:Hid (Z1D D (w0.heap.size+1) (ip++catS S (j+1)) (ip++catS S (j+1)).length∧Z1D D (w0.heap.size) op op.length∧Below w0.heap.size w0 D):=⟨a2,mixAt_only r.out.2.1 a7 (by omega),r.out.2.2.1.trans ((a7.below (Z6W r.out.1)).mono (by omega))⟩
    clear a2 a7 ck
    go_wp2
    go_roundw
    case rel=>exact⟨j+1,by omega,by go_num,HF.out.1,HF.out.2.1,HF.out.2.2⟩
    case measure=>simp [intOf];omega
   ·obtain rfl:j=n:=by omega
    obtain⟨R,hR,a4⟩:=z
    obtain⟨L,hL⟩:∃ L,L=ip++catS S j:=⟨_,rfl⟩
    have F:Z03 L:=by rw [hL];exact V.append (Z3z S j)
    have J:L.length<1099511627776:=by have:=t.out.2.2.2.2 j (Nat.le_refl _);rw [hL,List.length_append,U];omega
    rw [← hL] at hR a4 a1
    obtain⟨cs,k⟩:∃ cs,cs=(mixV (Z0e L (L.length/64)) (byV (L.drop (64*(L.length/64)))++R) (L.length%64) L.length).toArray:=⟨_,rfl⟩
    have G:cs.size=75:=by
     have:=Z62 L R hR
     rw [k,mixV]
     simp at this ⊢
     rw [mixT];simp;omega
    have hk:wr.heap[w0.heap.size+1]? = some (.cells cs 150 (0,0)):=by rw [k];exact a4
    have c:(prog.info? 150).map (·.size)=some cs.size:=by rw [G];exact Z2R
    have m:Hid (Calls prog 130 #[.agg cs] wr fun e w'=>e= .returned (.agg (byV (shaL L)).toArray)∧Below wr.heap.size wr w'):=by
     have h:=Z3y L F R hR J wr (t.out.1.below hb t.out.1.1)
     rw [← k] at h
     exact h
    have r:Hid (Z1D wr (w0.heap.size) op op.length∧Below w0.heap.size w0 wr):=⟨q,hb⟩
    clear hR a4 k q hb F J hL
    go_wp2_with (refine wpList_load_row rfl 150 _ rfl (w0.heap.size+1) rfl 150 _ (0,0) _ hk underlying150 rfl c ?_)
    refine m.out.mono ?_
    rintro e D ⟨rfl,aa⟩
    clear m hk c G
    obtain⟨d,f⟩:∃ d,d=(byV (shaL L)).toArray:=⟨_,rfl⟩
    have g:d.size=32:=by rw [f];simp [byV,Z09]
    have s:d.all (·.oneCell')=true:=by rw [f];simp [byV,Value.oneCell']
    have c:(prog.info? 156).map (·.size)=some d.size:=by rw [g];kernel_rfl
    have W:zd.size=d.size:=by rw [al,g]
    rw [← f]
    have O:Hid (d=(byV (shaL L)).toArray):=f
    clear f
    go_wp2_with (refine wpList_store_row rfl 156 _ _ rfl D.heap.size d rfl rfl 156 _ (heap_alloc_new D _) c W s ?_)
    rw [World.setRow_alloc_new]
    have k7:Row (D.alloc (.cells d 156)) D.heap.size 156 (byV (shaL L)):=by rw [O.out];exact heap_alloc_new D _
    have a9:=aa.alloc aa.size (.cells d 156)
    generalize D.alloc (.cells d 156)=w7 at *
    have a3:=run_convert_bytes_arg (P:=prog) w7 90 5 underlying90 underlying5 D.heap.size 0 32 32 ((shaL L).map fun (x:Nat)=>(x:Int)) (by simp [Z09]) (fun i hi=>by
     rw [Nat.zero_add,k7.cell,Z0s _ _ (by rw [Z09];exact hi)]
     simp [List.getD,Z09,hi]) 9 underlying9
    obtain⟨sd,ab⟩:∃ sd,sd=strOfNums ((shaL L).map fun (x:Nat)=>(x:Int)):=⟨_,rfl⟩
    have a5:Z00 sd=shaL L:=by rw [ab];exact Z08 _ (Z1n _)
    rw [← ab] at a3
    have b2:sd.size=32:=by rw [← Z01,a5,Z09]
    have H7:Hid (Z1D w7 (w0.heap.size) op op.length∧Below w0.heap.size w0 w7∧Z00 sd=shaL L):=⟨Z7L r.out.1 a9,r.out.2.trans (a9.mono r.out.2.size),a5⟩
    clear ab a5 k7 aa a9 s c W g O
    go_wp2_with fail
    first
     | (rw [a3];go_wp2_with fail)
     | skip
    refine (Z5z (w0.heap.size) op T sd (by omega) w7 (t.out.1.below H7.out.2.1 t.out.1.1) (by omega) H7.out.1).mono ?_
    rintro e w8 ⟨rfl,ag,ae⟩
    rw [H7.out.2.2] at ag
    have a0:Below w0.heap.size w0 w8:=H7.out.2.1.trans ((ae.below (Z6W H7.out.1)).mono (by omega))
    clear ae a3
    obtain⟨R',M,a6⟩:=ag
    obtain⟨u,N⟩:∃ u,u=op++shaL L:=⟨_,rfl⟩
    have F:Z03 u:=by rw [N];exact T.append (Z1n _)
    have J:u.length<1099511627776:=by rw [N,List.length_append,ah,Z09];decide
    rw [← N] at M a6 a1
    obtain⟨y,k⟩:∃ y,y=(mixV (Z0e u (u.length/64)) (byV (u.drop (64*(u.length/64)))++R') (u.length%64) u.length).toArray:=⟨_,rfl⟩
    have G:y.size=75:=by
     have:=Z62 u R' M
     rw [k,mixV]
     simp at this ⊢
     rw [mixT];simp;omega
    have hk:w8.heap[w0.heap.size]? = some (.cells y 150 (0,0)):=by rw [k];exact a6
    have c:(prog.info? 150).map (·.size)=some y.size:=by rw [G];exact Z2R
    have m:Hid (Calls prog 130 #[.agg y] w8 fun e w'=>e= .returned (.agg (byV (shaL u)).toArray)∧Below w8.heap.size w8 w'):=by
     have h:=Z3y u F R' M J w8 (t.out.1.below a0 t.out.1.1)
     rw [← k] at h
     exact h
    have aq:Hid (Below w0.heap.size w0 w8):=a0
    clear M a6 k a0 F J N
    go_wp2_with (refine wpList_load_row rfl 150 _ rfl (w0.heap.size) rfl 150 _ (0,0) _ hk underlying150 rfl c ?_)
    refine m.out.mono ?_
    rintro e w9 ⟨rfl,ai⟩
    clear m hk c G
    have H:=aq.out.trans (ai.mono aq.out.size)
    have ak:w9.heap[w.heap.size]? = some (.cells (digV []).toArray 156 (0,0)):=t.out.2.2.2.1.below H a8
    obtain⟨d,f⟩:∃ d,d=(byV (shaL u)).toArray:=⟨_,rfl⟩
    have g:d.size=32:=by rw [f];simp [byV,Z09]
    have s:d.all (·.oneCell')=true:=by rw [f];simp [byV,Value.oneCell']
    have c:(prog.info? 156).map (·.size)=some d.size:=by rw [g];kernel_rfl
    have aw:(digV []).toArray.size=d.size:=by rw [g];rfl
    have O:Hid (d=(byV (macL K (catS S j))).toArray):=by show _=_;rw [f,a1.out]
    rw [← f]
    have HB:Hid (Below w.heap.size w (w9.setRow w.heap.size d)):=Z0l (t.out.2.1.trans (H.mono (Nat.le_of_lt a8))) (Nat.le_refl _) d
    have ax:=run_loadVar_row (P:=prog) (w9.setRow w.heap.size d) w.heap.size 156 156 d (0,0) _ (setRow_heap _ _ _ _ _ _ ak) underlying156 rfl c
    clear f ai H
    go_wp2_with (refine wpList_store_row rfl 156 _ _ rfl w.heap.size d rfl rfl 156 _ ak c aw s ?_)
    exact bodyPost_ret (v:= .agg d) (by simp [results,Tryz.results106,asAddr,Act.put,ax]) rfl ⟨by rw [O.out],HB.out⟩
def macS (key s:ByteArray):ByteArray:=strOfNums ((macL (keyP (Z00 key)) (Z00 s)).map fun (x:Nat)=>(x:Int))
theorem Z1w (K m:List Nat):(macL K m).length=32:=Z09 _
theorem Z1O (K m:List Nat):Z03 (macL K m):=Z1n _
theorem info_b8:(prog.info? 5).map (fun i=>(i.zero,i.size,i.bytes))=some (some (.int .u8 0),1,1):=by kernel_rfl
def catD (D:Nat→List Nat):Nat→List Nat
 | 0=> []
 | m+1=>catD D m++D m
theorem Z34 (D:Nat→List Nat)(h:∀ i,(D i).length=32):∀ m,(catD D m).length=32*m
 | 0=>rfl
 | m+1=>by rw [catD,List.length_append,Z34 D h m,h];omega
theorem Z63 {b:Nat}{w w1 w2:World}(h:Only b w w1)(hb:Below w.heap.size w1 w2):Only b w w2 :=
 ⟨h.1.trans (hb.mono (Nat.zero_le _)),fun k hk hne=>(hb.block k hk).trans (h.2 k hk hne)⟩
theorem owns_only {b base n:Nat}{w w':World}{e:TypeId}{v:Value}{xs:List Value}(h:w.ownsRow base e 1 v n xs)(ho:Only b w w')(hne:∀ k,v.ownBlock=some k→k≠b):w'.ownsRow base e 1 v n xs:=by
 have a:w.grownBy w' (some b):=⟨ho.1.os,ho.1.tape,ho.1.output,ho.size,fun k hk hn=>ho.2 k hk (fun e=>hn (by rw [e]))⟩
 refine h.kept a ?_
 cases hv:v.ownBlock with
 | none=>exact .inl rfl
 | some k=>exact .inr (fun e=>hne k hv (Option.some.inj e))
set_option maxRecDepth 10000 in
theorem gatherS (n:Nat)(hn:n≤8160)(c0 c1 c2:Value)(LB:Nat)(D:Nat→List Nat)(hD:∀ i,(D i).length=32)(Inv:Nat→World→Prop)(w:World)(hLB:LB<w.heap.size)(h0:Inv 0 w)
  (hst:∀ i w1 w2,Inv i w1→Below w.heap.size w1 w2→Inv i w2)
  (hcall:∀ i w1,i<(n+31)/32→Inv i w1→w.heap.size≤w1.heap.size→Calls prog 64 #[.int .i64 ((i:Int)+1),c0,c1,c2] w1 fun e w2=>e= .returned (.agg (byV (D i)).toArray)∧Inv (i+1) w2∧Only LB w1 w2) :
  Calls prog 63 #[.int .i64 n,.func (.func 64) #[] #[c0,c1,c2]] w fun e w'=>e= .returned (.string (strOfNums (((catD D ((n+31)/32)).take n).map fun (x:Nat)=>(x:Int))))∧Inv ((n+31)/32) w'∧Only LB w w':=by
 obtain⟨i0,V,Z,a4,a3⟩:=info_parts info_b8
 obtain⟨m,U⟩:∃ m,m=(n+31)/32:=⟨_,rfl⟩
 have a8:m≤255:=by omega
 have ac:n≤32*m:=by omega
 have a7:32*m≤n+31:=by omega
 have q1:IntKind.i64.wrap ((n:Int)+32)=n+32:=by rw [IntKind.wrap_i64];omega
 have q2:IntKind.i64.wrap ((n:Int)+32-1)=n+31:=by rw [IntKind.wrap_i64];omega
 have q3:((n:Int)+31)/32=m:=by omega
 rw [← U] at hcall
 rw [← U]
 obtain⟨M,J⟩:∃ M:Array Value,M=(digV []).toArray:=⟨_,rfl⟩
 have a6:∀ w,(zeroValue 156).run prog w= .ok (.agg M) w:=by rw [J];exact (zero_of_info (n:=32) (by kernel_rfl)).1
 have K:M.size=32:=by rw [J];rfl
 have HC:Hid (∀ i w1,i<m→Inv i w1→w.heap.size≤w1.heap.size→Calls prog 64 #[.int .i64 ((i:Int)+1),c0,c1,c2] w1 fun e w2=>e= .returned (.agg (byV (D i)).toArray)∧Inv (i+1) w2∧Only LB w1 w2):=hcall
 have a2:Hid (∀ i w1 w2,Inv i w1→Below w.heap.size w1 w2→Inv i w2):=hst
 have HD:Hid (∀ i,(D i).length=32):=hD
 have HM:Hid (m=(n+31)/32):=U
 clear hcall hst J U hD
 go_enter func63,ntmps63
 go_wp2_with fail
 rw [q3]
 go_loopw [5,12] (fun v i wr=> ∃ j:Nat,j≤m∧i= .int .i64 j∧wr.ownsRow w.heap.size 5 1 v (32*j) (byV (catD D j))∧Inv j wr∧Only LB w wr) (fun _ i _=>m-(intOf i).toNat)
 case atStart=>exact⟨0,Nat.zero_le _,rfl,World.ownsRow_nil _ _ _ _,h0,Only.refl _ _⟩
 case round =>
  clear h0
  obtain⟨j,hj,rfl,a,c,O⟩:=hrel
  by_cases a1:j<m
  ·have j1:(j:Int)<m:=by omega
   have H:Hid (wr.ownsRow w.heap.size 5 1 u5 (32*j) (byV (catD D j))∧Inv j wr∧Only LB w wr):=⟨a,c,O⟩
   clear a c O
   go_wp2_with fail
   refine (HC.out j wr a1 H.out.2.1 H.out.2.2.size).mono ?_
   rintro e d ⟨rfl,t,A⟩
   obtain⟨o,u⟩:∃ o,o=(byV (D j)).toArray:=⟨_,rfl⟩
   have G:o.size=32:=by rw [u];simp [byV,HD.out]
   have T:o.all (·.oneCell')=true:=by rw [u];simp [byV,Value.oneCell']
   have L:(prog.info? 156).map (·.size)=some o.size:=by rw [G];kernel_rfl
   have Q:M.size=o.size:=by rw [K,G]
   rw [← u]
   have y:d.ownsRow w.heap.size 5 1 u5 (32*j) (byV (catD D j)):=owns_only H.out.1 A (fun k hk=>by have:=(H.out.1.lt k hk).1;omega)
   have S:Hid (o=(byV (D j)).toArray):=u
   clear u
   have C:(d.alloc (.cells M 156)).setRow d.heap.size o=d.alloc (.cells o 156):=World.setRow_alloc_new _ _ _ _
   have l:Row (d.alloc (.cells o 156)) d.heap.size 156 (byV (D j)):=by rw [S.out];exact heap_alloc_new d _
   have f:=y.alloc (.cells o 156)
   have E:w.heap.size≤d.heap.size:=Nat.le_trans H.out.2.2.size A.size
   have z:Below w.heap.size d (d.alloc (.cells o 156)):=(Below.refl _ _).alloc E _
   obtain⟨N,R⟩:∃ N,N=d.alloc (.cells o 156):=⟨_,rfl⟩
   rw [← R] at C l f z
   clear R
   have F:(byV (D j)).length=32:=by simp [byV,HD.out]
   have B:Hid (N.ownsRow w.heap.size 5 1 u5 (32*j) (byV (catD D j))∧Row N d.heap.size 156 (byV (D j))∧Below w.heap.size d N∧Inv (j+1) d∧Only LB w d∧w.heap.size≤N.heap.size):=⟨f,l,z,t,H.out.2.2.trans A,Nat.le_trans E z.size⟩
   clear y f l z t A S H
   go_wp2_with (first | (at_builtin;refine wpList_append_own _ rfl _ _ 90 rfl w.heap.size 5 i0 (.int .u8 0) 1 1 underlying90 V Z a4 a3 rfl (by decide) u5 (32*j) _ rfl B.out.1 ⟨d.heap.size,0,none⟩ 32 32 (byV (D j)) rfl ?c1 (World.news_of_block B.out.2.1) (byV_one _) ?c3 ?c4 B.out.2.2.2.2.2 ?_) | (refine wpList_store_row rfl 156 _ _ rfl d.heap.size o rfl rfl 156 _ (heap_alloc_new d _) L Q T ?_;rw [C]))
   case c1=>rw [F]
   case c3=>unfold maxLen;omega
   case c4=>omega
   intro v' w5 r p _
   have I:Below w.heap.size d w5:=B.out.2.2.1.grown p B.out.2.2.2.2.2 (fun k hk=>(B.out.1.lt k hk).1)
   have s:Hid (w5.ownsRow w.heap.size 5 1 v' (32*(j+1)) (byV (catD D (j+1)))∧Inv (j+1) w5∧Only LB w w5):=⟨by
    rw [catD,Z05];exact r,a2.out _ _ _ B.out.2.2.2.1 I,Z63 B.out.2.2.2.2.1 I⟩
   clear r p I B F
   go_wp2
   go_roundw
   case rel=>exact⟨j+1,by omega,by go_num,s.out.1,s.out.2.1,s.out.2.2⟩
   case measure=>simp [intOf];omega
  ·obtain rfl:j=m:=by omega
   by_cases a0:n=0
   ·subst a0
    obtain rfl:j=0:=by omega
    have hv:u5= .slice none 0 0∨∃ g b,u5= .slice (some ⟨g,0,none⟩) 0 b:=by
     rcases a.2 with ⟨h,_⟩ | ⟨g,b,cur,h,_⟩
     ·exact .inl h
     ·exact .inr ⟨g,b,h⟩
    have s:Hid (Inv 0 wr∧Only LB w wr∧strOfNums (((catD D 0).take 0).map fun (x:Nat)=>(x:Int))=ByteArray.empty):=⟨c,O,rfl⟩
    clear a c O
    rcases hv with rfl | ⟨g,b,rfl⟩
    ·have q:=fun W=>run_convert_bytes_nil (P:=prog) W 90 5 underlying90 underlying5 0 0 9 underlying9
     go_wp2
     first
      | (rw [q];go_wp2)
      | skip
     go_ret
     exact⟨rfl,s.out.1,s.out.2.1⟩
    ·have q:=fun W=>run_convert_bytes_arg (P:=prog) W 90 5 underlying90 underlying5 g 0 0 b [] rfl (fun i V=>absurd V (Nat.not_lt_zero i)) 9 underlying9
     have ab:(0:Int)≤b:=by omega
     go_wp2
     first
      | (rw [q];go_wp2)
      | skip
     go_ret
     exact⟨rfl,s.out.1,s.out.2.1⟩
   ·obtain⟨g,b,rfl,_,_⟩:=a.form (by omega)
    have a9:32*j≤b:=by
     rcases a.2 with ⟨h,_⟩ | ⟨g',cap',cur,h,_,_,hc,_⟩
     ·simp at h
     ·simp only [Value.slice.injEq,Option.some.injEq,Addr.mk.injEq,and_true,true_and] at h
      omega
    have aa:(n:Int)≤b:=by omega
    have a5:(catD D j).length=32*j:=Z34 D HD.out j
    have q:=run_convert_bytes_arg (P:=prog) wr 90 5 underlying90 underlying5 g 0 n b (((catD D j).take n).map fun (x:Nat)=>(x:Int)) (by simp;omega) (fun i V=>by
     rw [Nat.zero_add,a.cellAt i (by omega),Z0s _ _ (by omega),Z0b _ _ (by omega)]
     have h1:i<((catD D j).take n).length:=by simp;omega
     rw [List.getD_eq_getElem?_getD,List.getElem?_map,List.getElem?_eq_getElem h1,List.getElem_take];rfl) 9 underlying9
    have s:Hid (Inv j wr∧Only LB w wr):=⟨c,O⟩
    clear a c O
    obtain⟨X,Y⟩:∃ X,X=strOfNums (((catD D j).take n).map fun (x:Nat)=>(x:Int)):=⟨_,rfl⟩
    rw [← Y] at q
    have HX:Hid (X=strOfNums (((catD D j).take n).map fun (x:Nat)=>(x:Int))):=Y
    clear Y
    go_wp2
    first
     | (rw [q];go_wp2)
     | skip
    go_ret
    exact⟨by first | (rw [HX.out];rfl) | (rw [HX.out,List.map_take];rfl),s.out.1,s.out.2⟩
end Sm
end Go.Proofs.YtijpgmkdnemmbaaGreatDoor
