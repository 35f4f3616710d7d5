/- Part 12. -/
import Derived.Test.YtijpgmkdnemmbaaGreatDoorMg09
import Derived.Shelf.Strings.Repeat
import Derived.Deep.RegionWith
import Derived.Deep.RegionLaw
set_option maxRecDepth 20000
set_option maxHeartbeats 8000000
open Go.RowKit Go.Proofs.Tryz
namespace Go.Proofs.YtijpgmkdnemmbaaGreatDoor
section
open Go.Shelf Go.RowKit
def Z4N:Go.Shelf.Ren:=⟨fun | 105=>23 | 212=>56 | 99=>57 | 165=>58 | 166=>59 | 170=>60 | 169=>61 | 263=>97 | 264=>98 | 206=>99 | 240=>100 | 241=>101 | 276=>126 | 277=>127 | n=>n,fun | 9=>9 | 3=>3 | 4=>4 | 20=>20 | 0=>0 | 46=>133 | 109=>134 | 5=>5 | 72=>139 | 76=>141 | 51=>144 | 146=>195 | 53=>197 | 148=>198 | 70=>137 | 37=>90 | 75=>113 | 127=>200 | 164=>229 | 80=>76 | n=>n,fun | n=>n⟩
theorem Z4y:Go.Proofs.Lays.n105 prog Z4N:= {
 mixed:=by kernel_rfl
 f99:=func57.trans (congrArg some (by kernel_rfl))
 f105:=func23.trans (congrArg some (by kernel_rfl))
 f165:=func58.trans (congrArg some (by kernel_rfl))
 f166:=func59.trans (congrArg some (by kernel_rfl))
 f169:=func61.trans (congrArg some (by kernel_rfl))
 f170:=func60.trans (congrArg some (by kernel_rfl))
 f206:=func99.trans (congrArg some (by kernel_rfl))
 f212:=func56.trans (congrArg some (by kernel_rfl))
 f240:=func100.trans (congrArg some (by kernel_rfl))
 f241:=func101.trans (congrArg some (by kernel_rfl))
 f263:=func97.trans (congrArg some (by kernel_rfl))
 f264:=func98.trans (congrArg some (by kernel_rfl))
 f276:=func126.trans (congrArg some (by kernel_rfl))
 f277:=func127.trans (congrArg some (by kernel_rfl))
 t0:=underlying0
 a0:=Tryz.isAgg0
 z0:=Tryz.sizeOf0
 v0:=Tryz.zeroValue0
 t3:=underlying3
 a3:=Tryz.isAgg3
 z3:=Tryz.sizeOf3
 v3:=Tryz.zeroValue3
 t4:=underlying4
 a4:=Tryz.isAgg4
 z4:=Tryz.sizeOf4
 v4:=Tryz.zeroValue4
 t5:=underlying5
 a5:=Tryz.isAgg5
 z5:=Tryz.sizeOf5
 v5:=Tryz.zeroValue5
 t9:=underlying9
 a9:=Tryz.isAgg9
 z9:=Tryz.sizeOf9
 v9:=Tryz.zeroValue9
 t20:=underlying20
 a20:=Tryz.isAgg20
 z20:=Tryz.sizeOf20
 v20:=Tryz.zeroValue20
 t37:=underlying90
 a37:=Tryz.isAgg90
 z37:=Tryz.sizeOf90
 v37:=Tryz.zeroValue90
 t46:=underlying133
 a46:=Tryz.isAgg133
 z46:=Tryz.sizeOf133
 v46:=Tryz.zeroValue133
 t51:=underlying144
 a51:=Tryz.isAgg144
 z51:=Tryz.sizeOf144
 v51:=Tryz.zeroValue144
 t53:=underlying197
 a53:=Tryz.isAgg197
 z53:=Tryz.sizeOf197
 v53:=Tryz.zeroValue197
 t70:=underlying137
 a70:=Tryz.isAgg137
 z70:=Tryz.sizeOf137
 v70:=Tryz.zeroValue137
 t72:=underlying139
 a72:=Tryz.isAgg139
 z72:=Tryz.sizeOf139
 v72:=Tryz.zeroValue139
 t75:=underlying113
 a75:=Tryz.isAgg113
 z75:=Tryz.sizeOf113
 v75:=Tryz.zeroValue113
 t76:=underlying141
 a76:=Tryz.isAgg141
 z76:=Tryz.sizeOf141
 v76:=Tryz.zeroValue141
 t109:=underlying134
 a109:=Tryz.isAgg134
 z109:=Tryz.sizeOf134
 v109:=Tryz.zeroValue134
 t127:=underlying200
 a127:=Tryz.isAgg200
 z127:=Tryz.sizeOf200
 v127:=Tryz.zeroValue200
 t146:=underlying195
 a146:=Tryz.isAgg195
 z146:=Tryz.sizeOf195
 v146:=Tryz.zeroValue195
 t148:=underlying198
 a148:=Tryz.isAgg198
 z148:=Tryz.sizeOf198
 v148:=Tryz.zeroValue198
 t164:=underlying229
 a164:=Tryz.isAgg229
 z164:=Tryz.sizeOf229
 v164:=Tryz.zeroValue229 }
theorem Z1i:Builder.Extra prog Z4N:= {
 sizeBuilder:=by kernel_rfl
 liesBuilder:=by kernel_rfl
 t5:=underlying5
 a5:=Tryz.isAgg5
 z5:=Tryz.sizeOf5
 v5:=Tryz.zeroValue5
 infoByte:=by kernel_rfl
 cellsByte:=by kernel_rfl
 sizeByte:=by kernel_rfl
 neB5:=by decide }
def Z0c (v n:Nat):ByteArray:=strOfNums ((List.replicate n v).map fun (x:Nat)=>(x:Int))
theorem Z0T (v n:Nat):(Z0c v n).size=n:=by simp [Z0c,strOfNums_size]
set_option maxRecDepth 100000 in
theorem blank_eq:(⟨(Lib.repeatL (⟨#[0]⟩:ByteArray).data.toList 64).toArray⟩:ByteArray)=Z0c 0 64:=by rfl
theorem Z6k (w:World) :
  Calls prog 23 #[.string ⟨#[0]⟩,.int .i64 64] w fun e w'=>e= .returned (.string (Z0c 0 64))∧Below w.heap.size w w':=by
 have h:=Any.strings_Repeat Z4y Z1i ⟨#[0]⟩ 64 w (by decide) (by decide)
 rw [blank_eq] at h
 exact h
end
structure PS where
 kept:List ByteArray
 wait:List (Nat × ByteArray)
 fuse:Int
 up:Bool
 reads:Int
 writes:Int
def lastR:List (Nat × ByteArray)→Nat→Nat
 | [],_=>0
 | (a,_) :: t,i=>if a=i then t.length+1 else lastR t i
def Z3P:List (Nat × ByteArray)→Nat→Option ByteArray
 | [],_=>none
 | (a,s) :: t,i=>if a=i then some s else Z3P t i
def Z2j (l:List (Nat × ByteArray))(i:Nat):Nat:=lastR l.reverse i
def Z1q (l:List (Nat × ByteArray))(i:Nat):Option ByteArray:=Z3P l.reverse i
theorem lastOf_nil (i:Nat):Z2j [] i=0:=rfl
theorem lastOf_snoc (l:List (Nat × ByteArray))(a:Nat)(s:ByteArray)(i:Nat):Z2j (l ++ [(a,s)]) i=if a=i then l.length+1 else Z2j l i:=by simp [Z2j,lastR]
theorem textOf_snoc (l:List (Nat × ByteArray))(a:Nat)(s:ByteArray)(i:Nat):Z1q (l ++ [(a,s)]) i=if a=i then some s else Z1q l i:=by simp [Z1q,Z3P]
theorem lastR_le (i:Nat):∀ r:List (Nat × ByteArray),lastR r i≤r.length
 | []=>Nat.le_refl _
 | (a,s) :: t=>by
  have:=lastR_le i t
  simp only [lastR,List.length_cons]
  split <;> omega
theorem lastOf_le (l:List (Nat × ByteArray))(i:Nat):Z2j l i≤l.length:=by simpa [Z2j] using lastR_le i l.reverse
theorem lastR_zero (i:Nat):∀ r:List (Nat × ByteArray),lastR r i=0→Z3P r i=none
 | [],_=>rfl
 | (a,s) :: t,h=>by
  simp only [lastR] at h
  simp only [Z3P]
  split
  ·rename_i e;rw [if_pos e] at h;omega
  ·rename_i e;rw [if_neg e] at h;exact lastR_zero i t h
theorem lastOf_zero {l:List (Nat × ByteArray)}{i:Nat}(h:Z2j l i=0):Z1q l i=none:=lastR_zero i _ h
theorem lastR_text (i k:Nat):∀ r:List (Nat × ByteArray),lastR r i=k+1→∃ s,r.reverse[k]? = some (i,s)∧Z3P r i=some s
 | [],h=>by simp [lastR] at h
 | (a,s) :: t,h=>by
  simp only [lastR] at h
  simp only [Z3P]
  split
  ·rename_i e
   rw [if_pos e] at h
   obtain rfl:k=t.length:=by omega
   exact⟨s,by rw [List.reverse_cons,List.getElem?_append_right (by simp)];simp [e],rfl⟩
  ·rename_i e
   rw [if_neg e] at h
   obtain⟨d,b,c⟩:=lastR_text i k t h
   exact⟨d,by rw [List.reverse_cons,List.getElem?_append_left (List.getElem?_eq_some_iff.1 b).1];exact b,c⟩
theorem Z7p {l:List (Nat × ByteArray)}{i k:Nat}(h:Z2j l i=k+1):∃ s,l[k]? = some (i,s)∧Z1q l i=some s:=by
 obtain⟨s,b,a⟩:=lastR_text i k _ h
 exact⟨s,by simpa using b,a⟩
def Z5n (l:List (Nat × ByteArray)):List Value:=l.flatMap fun p=> [.int .i64 (p.1:Nat),.string p.2]
theorem waitC_snoc (l:List (Nat × ByteArray))(p:Nat × ByteArray):Z5n (l ++ [p])=Z5n l ++ [.int .i64 (p.1:Nat),.string p.2]:=by simp [Z5n]
theorem Z5o:∀ (l:List (Nat × ByteArray)) (k a:Nat) (s:ByteArray),l[k]? = some (a,s)→(Z5n l)[k*2]? = some (.int .i64 (a:Nat))∧(Z5n l)[k*2+1]? = some (.string s)
 | [],k,a,s,h=>by simp at h
 | p :: t,0,a,s,h=>by
  simp at h
  subst h
  exact⟨rfl,rfl⟩
 | p :: t,k+1,a,s,h=>by
  have:=Z5o t k a s (by simpa using h)
  rw [show Z5n (p :: t)= .int .i64 (p.1:Nat) :: .string p.2 :: Z5n t from rfl,show (k+1)*2=k*2+1+1 by omega,show k*2+1+1+1=(k*2+1)+1+1 by omega]
  simpa using this
def plateC (K N n:Nat)(wv:Value)(S:PS):List Value:= [.slice (some ⟨K,0,none⟩) n n,wv,.slice (some ⟨N,0,none⟩) n n,.int .i64 S.fuse,.bool S.up,.int .i64 S.reads,.int .i64 S.writes]
structure Z06 (w:World) (F:Nat→Prop) (B K N:Nat) (wv:Value) (S:PS):Prop where
 row:Row w B 70 (plateC K N S.kept.length wv S)
 kept:Row w K 9 (S.kept.map Value.string)
 new:Row w N 3 (rowF S.kept.length fun i=> .int .i64 (Z2j S.wait i:Nat))
 wait:w.ownsRow 0 272 2 wv S.wait.length (Z5n S.wait)
 fB:F B
 fK:F K
 fN:F N
 fW:∀ g,wv.ownBlock=some g→F g
 bk:B≠K
 bn:B≠N
 kn:K≠N
 wB:wv.ownBlock≠some B
 wK:wv.ownBlock≠some K
 wN:wv.ownBlock≠some N
 most:S.kept.length≤32768
 ats:∀ p∈S.wait,p.1<S.kept.length∧p.2.size=64
 texts:∀ s∈S.kept,s.size=0∨s.size=64
 fuse: -1≤S.fuse∧S.fuse<9223372036854775808
def Z0d (w:World)(F:Nat→Prop)(B:Nat)(S:PS):Prop:= ∃ K N wv,Z06 w F B K N wv S
theorem Z06.keep {w w':World}{F:Nat→Prop}{B K N:Nat}{wv:Value}{S:PS}(h:Z06 w F B K N wv S)(hk:∀ k,k<w.heap.size→F k→w'.heap[k]? = w.heap[k]?):Z06 w' F B K N wv S :=
 { h with
  row:=(hk B h.row.lt h.fB).trans h.row
  kept:=(hk K h.kept.lt h.fK).trans h.kept
  new:=(hk N h.new.lt h.fN).trans h.new
  wait:=Z0L h.wait fun g hg=>hk g (Z0Y h.wait g hg) (h.fW g hg)}
theorem Z06.mono {w:World}{F F':Nat→Prop}{B K N:Nat}{wv:Value}{S:PS}(h:Z06 w F B K N wv S)(hF:∀ k,k<w.heap.size→F k→F' k):Z06 w F' B K N wv S :=
 { h with
  fB:=hF _ h.row.lt h.fB
  fK:=hF _ h.kept.lt h.fK
  fN:=hF _ h.new.lt h.fN
  fW:=fun g hg=>hF g (Z0Y h.wait g hg) (h.fW g hg)}
theorem Z0d.keep {w w':World}{F:Nat→Prop}{B:Nat}{S:PS}(h:Z0d w F B S)(hk:∀ k,k<w.heap.size→F k→w'.heap[k]? = w.heap[k]?):Z0d w' F B S:=by
 obtain⟨K,N,a,h⟩:=h
 exact⟨K,N,a,h.keep hk⟩
theorem Z0d.mono {w:World}{F F':Nat→Prop}{B:Nat}{S:PS}(h:Z0d w F B S)(hF:∀ k,k<w.heap.size→F k→F' k):Z0d w F' B S:=by
 obtain⟨K,N,a,h⟩:=h
 exact⟨K,N,a,h.mono hF⟩
theorem Z0d.below {w w':World}{F:Nat→Prop}{B:Nat}{S:PS}(h:Z0d w F B S)(hb:Below w.heap.size w w'):Z0d w' F B S:=h.keep fun k hk _=>hb.block k hk
theorem Z06.c0 {w:World}{F:Nat→Prop}{B K N:Nat}{wv:Value}{S:PS}(h:Z06 w F B K N wv S):w.cell? ⟨B,0,none⟩=some (.slice (some ⟨K,0,none⟩) S.kept.length S.kept.length):=h.row.cell 0
theorem Z06.c1 {w:World}{F:Nat→Prop}{B K N:Nat}{wv:Value}{S:PS}(h:Z06 w F B K N wv S):w.cell? ⟨B,1,none⟩=some wv:=h.row.cell 1
theorem Z06.c2 {w:World}{F:Nat→Prop}{B K N:Nat}{wv:Value}{S:PS}(h:Z06 w F B K N wv S):w.cell? ⟨B,2,none⟩=some (.slice (some ⟨N,0,none⟩) S.kept.length S.kept.length):=h.row.cell 2
theorem Z06.c3 {w:World}{F:Nat→Prop}{B K N:Nat}{wv:Value}{S:PS}(h:Z06 w F B K N wv S):w.cell? ⟨B,3,none⟩=some (.int .i64 S.fuse):=h.row.cell 3
theorem Z06.c4 {w:World}{F:Nat→Prop}{B K N:Nat}{wv:Value}{S:PS}(h:Z06 w F B K N wv S):w.cell? ⟨B,4,none⟩=some (.bool S.up):=h.row.cell 4
theorem Z06.c5 {w:World}{F:Nat→Prop}{B K N:Nat}{wv:Value}{S:PS}(h:Z06 w F B K N wv S):w.cell? ⟨B,5,none⟩=some (.int .i64 S.reads):=h.row.cell 5
theorem Z06.c6 {w:World}{F:Nat→Prop}{B K N:Nat}{wv:Value}{S:PS}(h:Z06 w F B K N wv S):w.cell? ⟨B,6,none⟩=some (.int .i64 S.writes):=h.row.cell 6
theorem Z06.cK {w:World}{F:Nat→Prop}{B K N:Nat}{wv:Value}{S:PS}(h:Z06 w F B K N wv S)(i:Nat)(hi:i<S.kept.length):w.cell? ⟨K,i,none⟩=some (.string S.kept[i]):=by
 rw [h.kept.cell,List.getElem?_map,List.getElem?_eq_getElem hi];rfl
theorem Z06.cN {w:World}{F:Nat→Prop}{B K N:Nat}{wv:Value}{S:PS}(h:Z06 w F B K N wv S)(i:Nat)(hi:i<S.kept.length):w.cell? ⟨N,i,none⟩=some (.int .i64 (Z2j S.wait i:Nat)):=h.new.cellF i hi
theorem Z06.setFuse {w:World}{F:Nat→Prop}{B K N:Nat}{wv:Value}{S:PS}(h:Z06 w F B K N wv S)(x:Int)(hx: -1≤x∧x<9223372036854775808):Z06 (w.setCell ⟨B,3,none⟩ (.int .i64 x)) F B K N wv { S with fuse:=x } :=
 { h with row:=h.row.setL 3 _,kept:=h.kept.off h.bk.symm _ _,new:=h.new.off h.bn.symm _ _,wait:=Z1c h.wait h.wB _ _,fuse:=hx }
theorem Z06.setUp {w:World}{F:Nat→Prop}{B K N:Nat}{wv:Value}{S:PS}(h:Z06 w F B K N wv S)(x:Bool):Z06 (w.setCell ⟨B,4,none⟩ (.bool x)) F B K N wv { S with up:=x } :=
 { h with row:=h.row.setL 4 _,kept:=h.kept.off h.bk.symm _ _,new:=h.new.off h.bn.symm _ _,wait:=Z1c h.wait h.wB _ _ }
theorem Z06.setReads {w:World}{F:Nat→Prop}{B K N:Nat}{wv:Value}{S:PS}(h:Z06 w F B K N wv S)(x:Int):Z06 (w.setCell ⟨B,5,none⟩ (.int .i64 x)) F B K N wv { S with reads:=x } :=
 { h with row:=h.row.setL 5 _,kept:=h.kept.off h.bk.symm _ _,new:=h.new.off h.bn.symm _ _,wait:=Z1c h.wait h.wB _ _ }
theorem Z06.setWrites {w:World}{F:Nat→Prop}{B K N:Nat}{wv:Value}{S:PS}(h:Z06 w F B K N wv S)(x:Int):Z06 (w.setCell ⟨B,6,none⟩ (.int .i64 x)) F B K N wv { S with writes:=x } :=
 { h with row:=h.row.setL 6 _,kept:=h.kept.off h.bk.symm _ _,new:=h.new.off h.bn.symm _ _,wait:=Z1c h.wait h.wB _ _ }
theorem Z06.setKept {w:World}{F:Nat→Prop}{B K N:Nat}{wv:Value}{S:PS}(h:Z06 w F B K N wv S)(i:Nat)(s:ByteArray)(hs:s.size=0∨s.size=64):Z06 (w.setCell ⟨K,i,none⟩ (.string s)) F B K N wv { S with kept:=S.kept.set i s }:=by
 have a:(S.kept.set i s).length=S.kept.length:=List.length_set
 refine { h with row:= ?_,kept:= ?_,new:= ?_,wait:=Z1c h.wait h.wK _ _,most:=by show (S.kept.set i s).length≤_;rw [a];exact h.most,ats:= ?_,texts:= ?_ }
 ·show Row _ B _ (plateC K N (S.kept.set i s).length wv _)
  rw [a]
  exact h.row.off h.bk _ _
 ·have:=h.kept.setL i (.string s)
  rw [← List.map_set] at this
  exact this
 ·show Row _ N _ (rowF (S.kept.set i s).length _)
  rw [a]
  exact h.new.off h.kn.symm _ _
 ·show ∀ p∈S.wait,p.1<(S.kept.set i s).length∧p.2.size=64
  rw [a]
  exact h.ats
 ·intro x b
  rcases List.mem_or_eq_of_mem_set b with b | rfl
  ·exact h.texts x b
  ·exact hs
def hasB (S:PS)(at_:Int):Bool:=decide (0≤at_∧at_<(S.kept.length:Int))
def keptS (S:PS)(at_:Int):ByteArray:=S.kept.getD at_.toNat ByteArray.empty
def Z5p (S:PS)(at_:Int):ByteArray:=if hasB S at_=true then keptS S at_ else ByteArray.empty
def Z6C (S:PS)(at_:Int):Int:=if hasB S at_=true then (if (keptS S at_).size=0 then 21 else 0) else 2
def Z2N (S:PS)(at_:Int):ByteArray:=if S.up=true then (if hasB S at_=true then (Z1q S.wait at_.toNat).getD (Z5p S at_) else ByteArray.empty) else ByteArray.empty
def Z2G (S:PS)(at_:Int):Int:=if S.up=true then (if hasB S at_=true then (if (Z1q S.wait at_.toNat).isSome=true then 0 else Z6C S at_) else 2) else 20
def Z2z (S:PS)(at_:Int):PS:=if S.up=true then (if hasB S at_=true then { S with reads:=wrap64 (S.reads+1)} else S) else S
theorem Z7q {S:PS}{at_:Int}(h:hasB S at_=true):0≤at_∧at_<(S.kept.length:Int):=by simpa [hasB] using h
theorem size_of_toList {s:ByteArray}(h:s.toList.isEmpty=true):s.size=0:=by
 rw [ByteArray.toList_eq] at h
 have a:s.data.toList= []:=List.isEmpty_iff.1 h
 rw [Lib.size_eq,a];rfl
theorem has_any (B K n:Nat)(at_:Int)(S:PS)(hn:n=S.kept.length)(w:World)(c0:w.cell? ⟨B,0,none⟩=some (.slice (some ⟨K,0,none⟩) n n)) :
  Calls prog 169 #[.pointer (some ⟨B,0,none⟩),.int .i64 at_] w fun e w'=>e= .returned (.bool (hasB S at_))∧w'=w:=by
 subst hn
 by_cases a:0≤at_
 ·by_cases c:at_<(S.kept.length:Int)
  ·have b:hasB S at_=true:=by simp [hasB,a,c]
   go_enter func169,ntmps169
   go_wp2
   go_ret
   exact⟨by rw [b];rfl,rfl⟩
  ·have b:hasB S at_=false:=by simp [hasB,a,c]
   go_enter func169,ntmps169
   go_wp2
   go_ret
   exact⟨rfl,rfl⟩
 ·have b:hasB S at_=false:=by simp [hasB,a]
  go_enter func169,ntmps169
  go_wp2
  go_ret
  exact⟨rfl,rfl⟩
theorem held_any (B:Nat)(F:Nat→Prop)(S:PS)(at_:Int)(w:World)(hp:Z0d w F B S) :
  Calls prog 170 #[.pointer (some ⟨B,0,none⟩),.int .i64 at_] w fun e w'=>e= .returned (.tuple #[.string (Z5p S at_),.int .i64 (Z6C S at_)])∧w'=w:=by
 obtain⟨K,N,p,hp⟩:=hp
 have l:=hp.c0
 have a:=has_any B K _ at_ S rfl w l
 cases hb:hasB S at_
 ·rw [hb] at a
  have b:Z5p S at_=ByteArray.empty:=by simp [Z5p,hb]
  have f:Z6C S at_=2:=by simp [Z6C,hb]
  rw [b,f]
  clear hb hp
  go_enter func170,ntmps170
  go_wp2_with fail
  refine a.mono ?_
  rintro e h ⟨rfl,rfl⟩
  go_wp2
  go_ret2
  exact⟨rfl,rfl⟩
 ·rw [hb] at a
  obtain⟨n,o⟩:=Z7q hb
  obtain⟨i,rfl⟩:∃ i:Nat,at_=i:=⟨at_.toNat,by omega⟩
  have g:i<S.kept.length:=by omega
  have k:=hp.cK i g
  have d:keptS S i=S.kept[i]:=by simp [keptS,g]
  obtain⟨s,j⟩:∃ s,s=S.kept[i]:=⟨_,rfl⟩
  rw [← j] at k d
  have b:Z5p S i=s:=by simp [Z5p,hb,d]
  have f:Z6C S i=if s.size=0 then 21 else 0:=by simp [Z6C,hb,d]
  rw [b,f]
  clear hb hp b f d j
  by_cases c:s.size=0
  ·obtain rfl:s=ByteArray.empty:=by simpa using c
   go_enter func170,ntmps170
   go_wp2_with fail
   refine a.mono ?_
   rintro e h ⟨rfl,rfl⟩
   go_wp2
   go_ret2
   exact⟨rfl,rfl⟩
  ·have m:s.toList.isEmpty=false:=by
    cases hx:s.toList.isEmpty
    ·rfl
    ·exact absurd (size_of_toList hx) c
   rw [if_neg c]
   clear c
   go_enter func170,ntmps170
   go_wp2_with fail
   refine a.mono ?_
   rintro e h ⟨rfl,rfl⟩
   go_wp2
   go_ret2
   exact⟨rfl,rfl⟩
theorem read_any (B:Nat)(F:Nat→Prop)(S:PS)(at_:Int)(w:World)(hp:Z0d w F B S)(hw:S.wait.length≤1000000) :
  Calls prog 148 #[.pointer (some ⟨B,0,none⟩),.int .i64 at_] w fun e w'=>e= .returned (.tuple #[.string (Z2N S at_),.int .i64 (Z2G S at_)])∧Z0d w' F B (Z2z S at_)∧Z02 F w w':=by
 obtain⟨K,N,o,hp⟩:=hp
 have x:=hp.c0
 have z:=hp.c4
 cases hu:S.up
 ·rw [hu] at z
  have c:Hid (Z2N S at_=ByteArray.empty∧Z2G S at_=20∧Z0d w F B (Z2z S at_)):=⟨by simp [Z2N,hu],by simp [Z2G,hu],by simp only [Z2z,hu];exact⟨K,N,o,hp⟩⟩
  clear hp hu x
  go_enter func148,ntmps148
  go_wp2
  go_ret2
  exact⟨by rw [c.out.1,c.out.2.1];rfl,c.out.2.2,Z02.refl _ _⟩
 rw [hu] at z
 have a:=has_any B K _ at_ S rfl w x
 cases hb:hasB S at_
 ·rw [hb] at a
  have c:Hid (Z2N S at_=ByteArray.empty∧Z2G S at_=2∧Z0d w F B (Z2z S at_)):=⟨by simp [Z2N,hu,hb],by simp [Z2G,hu,hb],by simp [Z2z,hu,hb];exact⟨K,N,o,hp⟩⟩
  clear hp hu hb
  go_enter func148,ntmps148
  go_wp2_with fail
  refine a.mono ?_
  rintro e w1 ⟨rfl,rfl⟩
  go_wp2
  go_ret2
  exact⟨by rw [c.out.1,c.out.2.1];rfl,c.out.2.2,Z02.refl _ _⟩
 rw [hb] at a
 obtain⟨O,T⟩:=Z7q hb
 obtain⟨i,rfl⟩:∃ i:Nat,at_=i:=⟨at_.toNat,by omega⟩
 have C:i<S.kept.length:=by omega
 have H:=hp.c5
 have M:w.frozen? ⟨B,5,none⟩=false:=hp.row.frozen 5
 have b:=hp.setReads (wrap64 (S.reads+1))
 have f:Z02 F w (w.setCell ⟨B,5,none⟩ (.int .i64 (wrap64 (S.reads+1)))):=(Z02.refl _ _).setCell _ _ _ (.inl hp.fB)
 obtain⟨w1,t⟩:∃ w1,w.setCell ⟨B,5,none⟩ (.int .i64 (wrap64 (S.reads+1)))=w1:=⟨_,rfl⟩
 rw [t] at b f
 have n:Z2z S i= { S with reads:=wrap64 (S.reads+1)}:=by simp [Z2z,hu,hb]
 have I:=b.c2
 have v:=b.cN i C
 have q:=b.c1
 cases hl:Z2j S.wait i with
 | zero =>
  simp only [hl] at v
  have h:Z1q S.wait i=none:=lastOf_zero hl
  have m:Z2N S i=Z5p S i:=by simp [Z2N,hu,hb,h]
  have j:Z2G S i=Z6C S i:=by simp [Z2G,hu,hb,h]
  have d:=held_any B F _ i w1 ⟨K,N,o,b⟩
  have c:Hid (Z2N S i=Z5p S i∧Z2G S i=Z6C S i∧Z0d w1 F B (Z2z S i)∧Z02 F w w1):=⟨m,j,by rw [n];exact⟨K,N,o,b⟩,f⟩
  have A:Z5p { S with reads:=wrap64 (S.reads+1)} i=Z5p S i:=rfl
  have u:Z6C { S with reads:=wrap64 (S.reads+1)} i=Z6C S i:=rfl
  rw [A,u] at d
  clear hp b f m j n h hl hb A u q
  go_enter func148,ntmps148
  go_wp2_with fail
  refine a.mono ?_
  rintro e D ⟨rfl,rfl⟩
  clear a
  go_wp2_with fail
  refine d.mono ?_
  rintro e R ⟨rfl,rfl⟩
  clear d
  go_wp2
  go_ret2
  exact⟨by rw [c.out.1,c.out.2.1];rfl,c.out.2.2.1,c.out.2.2.2⟩
 | succ k =>
  simp only [hl] at v
  obtain⟨s,y,h⟩:=Z7p hl
  have J:k<S.wait.length:=by have:=lastOf_le S.wait i;omega
  have m:Z2N S i=s:=by simp [Z2N,hu,hb,h]
  have j:Z2G S i=0:=by simp [Z2G,hu,hb,h]
  obtain⟨g,p,rfl,r,l⟩:=Z1E b.wait (by show 0<S.wait.length;omega)
  have Q:w1.cell? ⟨g,k*2+1,none⟩=some (.string s):=l _ _ (Z5o S.wait k i s y).2
  have c:Hid (Z2N S i=s∧Z2G S i=0∧Z0d w1 F B (Z2z S i)∧Z02 F w w1):=⟨m,j,by rw [n];exact⟨K,N,_,b⟩,f⟩
  have P:(0:Int)<((k+1:Nat):Int):=by omega
  have L:IntKind.i64.wrap (((k+1:Nat):Int)-1)=k:=by rw [IntKind.wrap_i64];omega
  have G:(k:Int)<((S.wait.length:Nat):Int):=by omega
  have E:w1.cell? ⟨B,1,none⟩=some (.slice (some ⟨g,0,none⟩) S.wait.length p):=q
  clear hp b f m j n h hl hb y q r l
  go_enter func148,ntmps148
  go_wp2_with fail
  refine a.mono ?_
  rintro e D ⟨rfl,rfl⟩
  clear a
  go_wp2
  go_ret2
  exact⟨by rw [c.out.1,c.out.2.1];rfl,c.out.2.2.1,c.out.2.2.2⟩
theorem up_any (B:Nat)(F:Nat→Prop)(S:PS)(w:World)(hp:Z0d w F B S) :
  Calls prog 49 #[.pointer (some ⟨B,0,none⟩)] w fun e w'=>e= .returned (.bool S.up)∧w'=w:=by
 obtain⟨K,N,b,hp⟩:=hp
 have a:=hp.c4
 clear hp
 cases hu:S.up <;> rw [hu] at a <;> clear hu
 ·go_enter func49,ntmps49
  go_wp2
  go_ret
  exact⟨rfl,rfl⟩
 ·go_enter func49,ntmps49
  go_wp2
  go_ret
  exact⟨rfl,rfl⟩
theorem Z7r (B:Nat)(F:Nat→Prop)(S:PS)(w:World)(hp:Z0d w F B S) :
  Calls prog 85 #[.pointer (some ⟨B,0,none⟩)] w fun e w'=>e= .returned (.int .i64 (S.kept.length:Nat))∧w'=w:=by
 obtain⟨K,N,a,hp⟩:=hp
 have b:=hp.c0
 clear hp
 go_enter func85,ntmps85
 go_wp2
 go_ret
 exact⟨rfl,rfl⟩
theorem owns_len {w:World}{e:TypeId}{z n:Nat}{v:Value}{xs:List Value}(h:w.ownsRow 0 e z v n xs):(∃ cap,v= .slice none n cap)∨∃ g cap,v= .slice (some ⟨g,0,none⟩) n cap:=by
 rcases h.2 with ⟨rfl,rfl⟩ | ⟨g,cap,cur,rfl,_⟩
 ·exact .inl ⟨0,rfl⟩
 ·exact .inr ⟨g,cap,rfl⟩
def Z1V (S:PS)(at_:Int)(s:ByteArray):Int:=if s.size=64 then (if S.up=true then (if hasB S at_=true then (if S.fuse=0 then 20 else 0) else 2) else 20) else 1
def Z1d (S:PS)(at_:Int)(s:ByteArray):PS:=if s.size=64 then (if S.up=true then (if hasB S at_=true then (if S.fuse=0 then { S with up:=false } else { S with fuse:=(if S.fuse= -1 then -1 else S.fuse-1),writes:=wrap64 (S.writes+1),wait:=S.wait ++ [(at_.toNat,s)]}) else S) else S) else S
theorem Z1W {P:Program}(w:World){ops:Array Oper}{o:Oper}{a:Act}{K:Act→World→Prop}{Q:Exit→Act→World→Prop}{E:Prop}(hgd:o.guard=none)(s x:Operand)(t:TypeId)
  (ho:o.op= .call { callee:= .builtin .append,args:=#[s,x],argTypes:=#[t,t]})
  (base:Nat)(e:TypeId)(i:TypeInfo)(z:Value)(size bytes:Nat)(ht:P.underlying t=some (.slice e))(hi:P.info? e=some i)(hz:i.zero=some z)
  (hsize:i.size=size)(hby:i.bytes=bytes)(hzs:z.cells.size=size)(hsz:0<size)
  (v:Value)(n:Nat)(xs:List Value)(hs:a.eval s=v)(hown:w.ownsRow base e size v n xs)
  (ad:Addr)(m c:Nat)(news:List Value)(hx:a.eval x= .slice (some ad) m c)(hl:news.length=m*size)(hnews:∀ j u,news[j]? = some u→w.cell? (ad.add j)=some u)(h1:∀ u∈news,u.oneCell'=true)
  (h63:n+m≤maxLen)(hbytes:(n+m)*bytes≤140737488355328)(hbase:base≤w.heap.size)
  (h:∀ v' w',w'.ownsRow base e size v' (n+m) (xs++news)→w.grownBy w' v.ownBlock→(v'.ownBlock=v.ownBlock∨v'.ownBlock=some w.heap.size)→K (a.put o.dst v') w') :
  if Region.wanted o (yielded ops a.tmps)=true then Oper.wp P o a w K Q else E:=by
 have k:Region.wanted o (yielded ops a.tmps)=true:=by simp [Region.wanted,hgd]
 rw [if_pos k]
 obtain⟨v',w',g,d,b,l,f⟩:=run_append_own_at (P:=P) w base t o.type e i z size bytes ht hi hz hsize hby hzs hsz v n xs hown ad m c news hl hnews h1 h63 hbytes hbase
 unfold Oper.wp execOp
 simp only [ho,resolve,invoke,builtin,Sem.run_bind,Sem.run_pure,Result.andThen_ok,List.map_toArray,List.map_cons,List.map_nil,hs,hx,g]
 exact h v' w' d b f
structure PlateMid (w0 w:World) (F:Nat→Prop) (B K N:Nat) (wv:Value) (S:PS) (i:Nat) (s:ByteArray):Prop where
 row:Row w B 70 (plateC K N S.kept.length wv S)
 kept:Row w K 9 (S.kept.map Value.string)
 new:Row w N 3 (rowF S.kept.length fun i=> .int .i64 (Z2j S.wait i:Nat))
 wait:w.ownsRow 0 272 2 wv (S.wait.length+1) (Z5n (S.wait ++ [(i,s)]))
 fW:∀ g,wv.ownBlock=some g→grow F w0 w g
 wB:wv.ownBlock≠some B
 wK:wv.ownBlock≠some K
 wN:wv.ownBlock≠some N
 touch:Z02 F w0 w
theorem Z06.appended {w0 w w':World}{F:Nat→Prop}{B K N i:Nat}{wv v':Value}{S:PS}{s:ByteArray}(h:Z06 w F B K N wv S)(ht:Z02 F w0 w)
  (hown:w'.ownsRow 0 272 2 v' (S.wait.length+1) (Z5n S.wait ++ [.int .i64 (i:Nat),.string s]))(hg:w.grownBy w' wv.ownBlock)(hat:v'.ownBlock=wv.ownBlock∨v'.ownBlock=some w.heap.size) :
  w'.cell? ⟨B,1,none⟩=some wv∧w'.frozen? ⟨B,1,none⟩=false∧PlateMid w0 (w'.setCell ⟨B,1,none⟩ v') F B K N v' S i s:=by
 have r:=h.row.lt
 have q:=h.kept.lt
 have p:=h.new.lt
 have f:Row w' B _ _:=(hg.block B h.row.lt (fun e=>h.wB e.symm)).trans h.row
 have l:Row w' K _ _:=(hg.block K h.kept.lt (fun e=>h.wK e.symm)).trans h.kept
 have o:Row w' N _ _:=(hg.block N h.new.lt (fun e=>h.wN e.symm)).trans h.new
 have j:v'.ownBlock≠some B:=by
  rcases hat with e | e <;> rw [e]
  ·exact h.wB
  ·intro a;cases a;omega
 have m:v'.ownBlock≠some K:=by
  rcases hat with e | e <;> rw [e]
  ·exact h.wK
  ·intro a;cases a;omega
 have n:v'.ownBlock≠some N:=by
  rcases hat with e | e <;> rw [e]
  ·exact h.wN
  ·intro a;cases a;omega
 have b:(w'.setCell ⟨B,1,none⟩ v').heap.size=w'.heap.size:=by simp
 have d:Z02 F w0 w':=⟨ht.1.trans ⟨hg.os,hg.tape,hg.output,hg.size,fun k hk=>absurd hk (Nat.not_lt_zero k)⟩,fun k hk hn=>(hg.block k (Nat.lt_of_lt_of_le hk ht.size) (fun e=>hn (h.fW k e.symm))).trans (ht.2 k hk hn)⟩
 refine⟨f.cell 1,f.frozen 1,f.setL 1 v',l.off h.bk.symm _ _,o.off h.bn.symm _ _,?_,fun g hg'=> ?_,j,m,n,d.setCell _ _ _ (.inl h.fB)⟩
 ·rw [waitC_snoc]
  exact Z1c hown j _ _
 ·have c:=Z0Y hown g hg'
  rcases hat with e | e
  ·exact .inl (h.fW g (by rw [← e];exact hg'))
  ·rw [e] at hg'
   cases hg'
   exact .inr ⟨ht.size,by rw [b];exact c⟩
theorem PlateMid.noted {w0 w w1:World}{F:Nat→Prop}{B K N i:Nat}{wv wv0:Value}{S:PS}{s:ByteArray}(h:PlateMid w0 w F B K N wv S i s)(h0:Z06 w1 F B K N wv0 S)(hi:i<S.kept.length)(hs:s.size=64) :
  Z06 (w.setCell ⟨N,i,none⟩ (.int .i64 ((S.wait.length:Int)+1))) (grow F w0 (w.setCell ⟨N,i,none⟩ (.int .i64 ((S.wait.length:Int)+1)))) B K N wv { S with wait:=S.wait ++ [(i,s)]}∧Z02 F w0 (w.setCell ⟨N,i,none⟩ (.int .i64 ((S.wait.length:Int)+1))):=by
 have b:(w.setCell ⟨N,i,none⟩ (.int .i64 ((S.wait.length:Int)+1))).heap.size=w.heap.size:=by simp
 refine⟨⟨h.row.off h0.bn _ _,h.kept.off h0.kn _ _,?_,?_,.inl h0.fB,.inl h0.fK,.inl h0.fN,fun g hg=> ?_,h0.bk,h0.bn,h0.kn,h.wB,h.wK,h.wN,h0.most,?_,h0.texts,h0.fuse⟩,h.touch.setCell _ _ _ (.inl h0.fN)⟩
 ·have:=h.new.setF i (.int .i64 ((S.wait.length:Int)+1))
  refine this.congr (Z10 fun k hk=> ?_)
  show _=Value.int .i64 (Z2j (S.wait ++ [(i,s)]) k:Nat)
  rw [lastOf_snoc]
  by_cases e:k=i
  ·subst e;simp
  ·rw [if_neg e,if_neg (fun e'=>e e'.symm)]
 ·have:=Z1c h.wait h.wN i (.int .i64 ((S.wait.length:Int)+1))
  show World.ownsRow _ _ _ _ _ (S.wait ++ [(i,s)]).length _
  rw [List.length_append]
  exact this
 ·rcases h.fW g hg with e | e
  ·exact .inl e
  ·exact .inr ⟨e.1,by rw [b];exact e.2⟩
 ·intro p a
  rcases List.mem_append.1 a with a | a
  ·exact h0.ats p a
  ·rw [List.mem_singleton] at a
   subst a
   exact⟨hi,hs⟩
theorem info_write:(prog.info? 272).map (fun i=>(i.zero,i.size,i.bytes))=some (some (.agg #[.int .i64 0,.string ⟨#[]⟩]),2,24):=by kernel_rfl
set_option maxRecDepth 10000 in
theorem write_any (B:Nat)(F:Nat→Prop)(S:PS)(at_:Int)(s:ByteArray)(w:World)(hp:Z0d w F B S)(hw:S.wait.length≤1000000) :
  Calls prog 162 #[.pointer (some ⟨B,0,none⟩),.int .i64 at_,.string s] w fun e w'=>e= .returned (.int .i64 (Z1V S at_ s))∧Z0d w' (grow F w w') B (Z1d S at_ s)∧Z02 F w w':=by
 by_cases p:s.size=64
 case neg =>
  have c:Hid (Z1V S at_ s=1∧Z0d w (grow F w w) B (Z1d S at_ s)):=⟨by simp [Z1V,p],by simp only [Z1d,p,if_false];exact hp.mono fun k _ h=> .inl h⟩
  clear hp
  have a1:¬ (s.size:Int)=64:=by omega
  go_enter func162,ntmps162
  go_wp2
  go_ret
  exact⟨by rw [c.out.1];rfl,c.out.2,Z02.refl _ _⟩
 have a1:(s.size:Int)=64:=by omega
 have a2:s.size≤281474976710656:=by omega
 obtain⟨K,N,wv,hp⟩:=hp
 have c4:=hp.c4
 cases b:S.up
 ·rw [b] at c4
  have c:Hid (Z1V S at_ s=20∧Z0d w (grow F w w) B (Z1d S at_ s)):=⟨by simp [Z1V,p,b],by simp [Z1d,p,b];exact⟨K,N,wv,hp.mono fun k _ h=> .inl h⟩⟩
  clear hp b
  go_enter func162,ntmps162
  go_wp2
  go_ret
  exact⟨by rw [c.out.1];rfl,c.out.2,Z02.refl _ _⟩
 rw [b] at c4
 have c0:=hp.c0
 have a:=has_any B K _ at_ S rfl w c0
 cases hb:hasB S at_
 ·rw [hb] at a
  have c:Hid (Z1V S at_ s=2∧Z0d w (grow F w w) B (Z1d S at_ s)):=⟨by simp [Z1V,p,b,hb],by simp [Z1d,p,b,hb];exact⟨K,N,wv,hp.mono fun k _ h=> .inl h⟩⟩
  clear hp b hb
  go_enter func162,ntmps162
  go_wp2_with fail
  refine a.mono ?_
  rintro e w1 ⟨rfl,rfl⟩
  clear a
  go_wp2
  go_ret
  exact⟨by rw [c.out.1];rfl,c.out.2,Z02.refl _ _⟩
 rw [hb] at a
 have c3:=hp.c3
 by_cases l:S.fuse=0
 ·rw [l] at c3
  have f4:w.frozen? ⟨B,4,none⟩=false:=hp.row.frozen 4
  obtain⟨w1,W⟩:∃ w1,w.setCell ⟨B,4,none⟩ (.bool false)=w1:=⟨_,rfl⟩
  have c:Hid (Z1V S at_ s=20∧Z0d w1 (grow F w w1) B (Z1d S at_ s)∧Z02 F w w1):=⟨by simp [Z1V,p,b,hb,l],by rw [show Z1d S at_ s= { S with up:=false } by simp only [Z1d,p,if_true,b,hb,l]];exact⟨K,N,wv,by rw [← W];exact (hp.setUp false).mono fun k _ h=> .inl h⟩,by rw [← W];exact (Z02.refl _ _).setCell _ _ _ (.inl hp.fB)⟩
  clear hp b hb l
  go_enter func162,ntmps162
  go_wp2_with fail
  refine a.mono ?_
  rintro e w2 ⟨rfl,rfl⟩
  clear a
  go_wp2
  go_ret
  exact⟨by rw [c.out.1];rfl,c.out.2.1,c.out.2.2⟩
 obtain⟨h0,V⟩:=Z7q hb
 obtain⟨i,rfl⟩:∃ i:Nat,at_=i:=⟨at_.toNat,by omega⟩
 have hi:i<S.kept.length:=by omega
 obtain⟨T,x⟩:∃ T,T=if S.fuse= -1 then -1 else S.fuse-1:=⟨_,rfl⟩
 have hE:Z1V S i s=0:=by simp [Z1V,p,b,hb,l]
 have hP:Z1d S i s= { S with fuse:=T,writes:=wrap64 (S.writes+1),wait:=S.wait ++ [(i,s)]}:=by rw [x];simp only [Z1d,p,if_true,b,hb,l,if_false,Int.toNat_natCast]
 obtain⟨j0,hj,a5,a0,a3⟩:=info_parts info_write
 have a8:=hp.fuse
 have a4:∃ w1,Z06 w1 F B K N wv { S with fuse:=T }∧Z02 F w w1∧((S.fuse= -1∧w1=w)∨(0<S.fuse∧w.setCell ⟨B,3,none⟩ (.int .i64 (S.fuse-1))=w1)):=by
  by_cases V:S.fuse= -1
  ·refine⟨w,?_,Z02.refl _ _,.inl ⟨V,rfl⟩⟩
   rw [x,if_pos V,← V];exact hp
  ·refine⟨_,?_,(Z02.refl _ _).setCell B 3 (.int .i64 (S.fuse-1)) (.inl hp.fB),.inr ⟨by omega,rfl⟩⟩
   rw [x,if_neg V];exact hp.setFuse (S.fuse-1) (by omega)
 obtain⟨w1,y,Q,D⟩:=a4
 have d6:=y.c6
 have e6:w1.frozen? ⟨B,6,none⟩=false:=y.row.frozen 6
 have L:=y.setWrites (wrap64 (S.writes+1))
 have I:=Q.setCell B 6 (.int .i64 (wrap64 (S.writes+1))) (.inl hp.fB)
 obtain⟨w2,J⟩:∃ w2,w1.setCell ⟨B,6,none⟩ (.int .i64 (wrap64 (S.writes+1)))=w2:=⟨_,rfl⟩
 have U:w1.setCell ⟨B,6,none⟩ (.int .i64 (wrap64 (S.writes+1)))=w2:=J
 rw [J] at L I
 obtain⟨S2,n⟩:∃ S2:PS,S2= { S with fuse:=T,writes:=wrap64 (S.writes+1)}:=⟨_,rfl⟩
 have m:Z06 w2 F B K N wv S2:=by rw [n];exact L
 have X:Z1d S i s= { S2 with wait:=S2.wait ++ [(i,s)]}:=by rw [hP,n]
 have ab:S2.kept.length=S.kept.length:=by rw [n]
 have ac:S2.wait.length≤1000000:=by rw [n];exact hw
 have z:Hid (Z06 w2 F B K N wv S2∧Z02 F w w2∧Z1V S i s=0∧Z1d S i s= { S2 with wait:=S2.wait ++ [(i,s)]}):=⟨m,I,hE,X⟩
 have d1:=m.c1
 have f3:w.frozen? ⟨B,3,none⟩=false:=hp.row.frozen 3
 have R:i<S2.kept.length:=by omega
 clear hp y L m Q I hE hP X n x b hb
 have a7: -9223372036854775808≤S.fuse-1:=by omega
 have H:(S.fuse= -1∧w1=w)∨(0<S.fuse∧w.setCell ⟨B,3,none⟩ (.int .i64 (S.fuse-1))=w1):=D
 clear D
 rcases H with ⟨hm,rfl⟩ | ⟨hm,hw3⟩
 case' inl =>
  rw [hm] at c3
  go_enter func162,ntmps162
  go_wp2_with fail
  refine a.mono ?_
  rintro e P ⟨rfl,rfl⟩
  clear a
  go_wp2_with fail
 case' inr =>
  have ad:¬ S.fuse= -1:=by omega
  have a9:IntKind.i64.wrap (S.fuse-1)=S.fuse-1:=by rw [IntKind.wrap_i64];omega
  go_enter func162,ntmps162
  go_wp2_with fail
  refine a.mono ?_
  rintro e P ⟨rfl,rfl⟩
  clear a
  go_wp2_with fail
 all_goals
  clear c0 c3 c4 d6 e6 f3 J U
  go_region_law (first | (refine Z1W _ rfl _ _ 68 rfl 0 272 j0 (.agg #[.int .i64 0,.string ⟨#[]⟩]) 2 24 underlying68 hj a5 a0 a3 rfl (by decide) wv S2.wait.length (Z5n S2.wait) rfl (Z0L M.wait fun g hg=>Below.heap_alloc wA _ g (Z0Y M.wait g hg)) ⟨wA.heap.size,0,none⟩ 1 1 [.int .i64 (i:Nat),.string s] rfl rfl (World.news_of_block (heap_alloc_new wA _)) (by intro u b;simp at b;rcases b with rfl | rfl <;> rfl) (by unfold maxLen;omega) (by omega) (Nat.zero_le _) ?_;intro v1 wB d f A;obtain⟨Z,j,rfl,aa,_⟩:=Z1E d (by omega);have O:=M.keep (w':=wA.alloc (.cells #[.int .i64 (i:Nat),.string s] 272)) (fun k hk _=>Below.heap_alloc wA _ k hk);have Y:Z02 F P (wA.alloc (.cells #[.int .i64 (i:Nat),.string s] 272)):=⟨t.1.alloc (Nat.zero_le _) _,fun k hk hn=>(Below.heap_alloc wA _ k (Nat.lt_of_lt_of_le hk t.size)).trans (t.2 k hk hn)⟩;obtain⟨x1,x2,E⟩:=O.appended Y d f A;have q:Hid _:=E;clear E O Y d f A) | (go_simp;refine (Z7g s _ a2).mono ?_;rintro e wA ⟨rfl,r⟩;dsimp only;have M:Z06 wA F B K N wv S2:=z.out.1.keep (fun k hk _=>r.block k hk);have t:Z02 F P wA:=⟨z.out.2.1.1.drew.trans (r.mono (Nat.zero_le _)),fun k hk hn=>(r.block k (Nat.lt_of_lt_of_le hk z.out.2.1.size)).trans (z.out.2.1.2 k hk hn)⟩;have dA:=M.c1;have a6:∀ o,(wA.alloc o).cell? ⟨B,1,none⟩=some wv:=fun o=>(M.keep (w':=wA.alloc o) (fun k hk _=>Below.heap_alloc wA o k hk)).c1))
  all_goals
   obtain⟨w5,G⟩:∃ w5,wB.setCell ⟨B,1,none⟩ (.slice (some ⟨Z,0,none⟩) (S2.wait.length+1) j)=w5:=⟨_,rfl⟩
   rw [G] at q
   have e1:w5.cell? ⟨B,1,none⟩=some (.slice (some ⟨Z,0,none⟩) (S2.wait.length+1) j):=q.out.row.cell 1
   have e2:w5.cell? ⟨B,2,none⟩=some (.slice (some ⟨N,0,none⟩) S2.kept.length S2.kept.length):=q.out.row.cell 2
   have eN:w5.cell? ⟨N,i,none⟩=some (.int .i64 (Z2j S2.wait i:Nat)):=q.out.new.cellF i R
   have fN:w5.frozen? ⟨N,i,none⟩=false:=q.out.new.frozen i
   have C:∀ v,(w5.setCell ⟨N,i,none⟩ v).cell? ⟨B,1,none⟩=some (.slice (some ⟨Z,0,none⟩) (S2.wait.length+1) j)∧(w5.setCell ⟨N,i,none⟩ v).cell? ⟨B,2,none⟩=some (.slice (some ⟨N,0,none⟩) S2.kept.length S2.kept.length):=fun v=>⟨(q.out.row.off z.out.1.bn i v).cell 1,(q.out.row.off z.out.1.bn i v).cell 2⟩
   have ae:(i:Int)<S2.kept.length:=by omega
   clear x1 x2 dA a6 M t r d1
   try rw [G]
   go_wp2_with fail
   go_region_held3 (fun w'=>w'.cell? ⟨B,1,none⟩=some (.slice (some ⟨Z,0,none⟩) (S2.wait.length+1) j)∧w'.cell? ⟨B,2,none⟩=some (.slice (some ⟨N,0,none⟩) S2.kept.length S2.kept.length)) (first | exact C _ | exact⟨e1,e2⟩ | simp [go_sem, *]) (fail)
   have HX:=q.out.noted z.out.1 R p
   have c:Hid (Z0d (w5.setCell ⟨N,i,none⟩ (.int .i64 ((S2.wait.length:Int)+1))).drew (grow F P (w5.setCell ⟨N,i,none⟩ (.int .i64 ((S2.wait.length:Int)+1))).drew) B (Z1d S i s)∧Z02 F P (w5.setCell ⟨N,i,none⟩ (.int .i64 ((S2.wait.length:Int)+1))).drew):=⟨by rw [z.out.2.2.2];exact⟨K,N,_,HX.1.keep (w':=(w5.setCell ⟨N,i,none⟩ (.int .i64 ((S2.wait.length:Int)+1))).drew) fun k _ _=>rfl⟩,HX.2.drew⟩
   clear HX e1 e2 eN fN C q G
   go_wp2
   go_ret
   exact⟨by rw [z.out.2.2.1];rfl,c.out.1,c.out.2⟩
end Go.Proofs.YtijpgmkdnemmbaaGreatDoor
