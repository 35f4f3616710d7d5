/- Part 10. -/
import Derived.Test.YtijpgmkdnemmbaaGreatDoorMg09
import Derived.Test.YtijpgmkdnemmbaaGreatDoorMg07
set_option maxRecDepth 20000
set_option maxHeartbeats 8000000
open Go.RowKit Go.Proofs.Tryz
namespace Go.Proofs.YtijpgmkdnemmbaaGreatDoor
section
open Go.RowKit Go.Maps
theorem fit_any (z:Int)(a:ByteArray)(w:World):Calls prog 70 #[.int .i64 z,.string a] w fun e w'=>e= .returned (.bool (decide (0≤z∧z≤281474976710655∧a.size=12)))∧w'=w:=by
 by_cases d:0≤z
 case neg =>
  have b:decide (0≤z∧z≤281474976710655∧a.size=12)=false:=by simp [d]
  rw [b]
  go_enter func70,ntmps70
  go_wp2
  go_ret
  exact⟨rfl,rfl⟩
 by_cases c:z≤281474976710655
 case neg =>
  have b:decide (0≤z∧z≤281474976710655∧a.size=12)=false:=by simp [c]
  rw [b]
  go_enter func70,ntmps70
  go_wp2
  go_ret
  exact⟨rfl,rfl⟩
 by_cases f:(a.size:Int)=12
 ·have b:decide (0≤z∧z≤281474976710655∧a.size=12)=true:=by simp [d,c];omega
  rw [b]
  go_enter func70,ntmps70
  go_wp2
  go_ret
  exact⟨rfl,rfl⟩
 ·have b:decide (0≤z∧z≤281474976710655∧a.size=12)=false:=by simp [d,c];omega
  have g:((a.size:Int)==12)=false:=beq_false_of_ne f
  rw [b]
  go_enter func70,ntmps70
  go_wp2
  go_ret
  exact⟨rfl,rfl⟩
theorem Z5f (B:Nat)(t:TypeId)(v:Value)(w:World)(c:w.cell? ⟨B,0,none⟩=some (.iface t v)):Calls prog 69 #[.pointer (some ⟨B,0,none⟩)] w fun e w'=>e= .returned (.bool true)∧w'=w:=by
 go_enter func69,ntmps69
 go_wp2_with fail
 go_ret
 exact⟨rfl,rfl⟩
def Z5V (S:VS)(s:ByteArray):VS:= { S with texts:=addN S.texts s }
def hashS (S:VS)(s:ByteArray):ByteArray:=Z1t (Z0f (addN S.texts s) s) 32
def macS (S:VS)(l s:ByteArray):ByteArray:=Z1t (Z0f (addN S.marks (l,s)) (l,s)) 16
def fitB (z:Int)(n:ByteArray):Bool:=decide (0≤z∧z≤281474976710655∧n.size=12)
def sealP (S:VS)(z:Int)(n a s:ByteArray):VS:=if fitB z n then { S with seals:=addN S.seals ⟨z,n,a,s⟩} else S
def Z6B (S:VS)(z:Int)(n a s:ByteArray):ByteArray:=if fitB z n then s++Z1t (Z0f (addN S.seals ⟨z,n,a,s⟩) ⟨z,n,a,s⟩) 16 else ⟨#[]⟩
def sealE (z:Int)(n:ByteArray):Int:=if fitB z n then 0 else 1
def Z42 (S:VS)(z:Int)(n a s:ByteArray):Bool:=decide (Z0f S.seals ⟨z,n,a,Z1U s⟩≠0∧Z3u s=Z1t (Z0f S.seals ⟨z,n,a,Z1U s⟩) 16)
def Z4G (S:VS)(z:Int)(n a s:ByteArray):ByteArray:=if fitB z n then (if s.size<16 then ⟨#[]⟩ else if Z42 S z n a s then Z1U s else ⟨#[]⟩) else ⟨#[]⟩
def Z4b (S:VS)(z:Int)(n a s:ByteArray):Int:=if fitB z n then (if s.size<16 then 3 else if Z42 S z n a s then 0 else 10) else 1
theorem vhash_any (B:Nat)(F:Nat→Prop)(S:VS)(s:ByteArray)(hs:fitT s)(hl:S.texts.length≤1000000)(w:World)(hp:Z29 w F B S) :
  Calls prog 87 #[.pointer (some ⟨B,0,none⟩),.string s] w fun e w'=>e= .returned (.string (hashS S s))∧Z29 w' F B (Z5V S s)∧Z02 F w w':=by
 obtain⟨N,a,b,c,h⟩:=hp
 have j:w.cell? ⟨B,0,none⟩=some (.iface 106 (.pointer (some ⟨N,0,none⟩))):=h.row.cell 0
 have g:=Z5f B _ _ w j
 have i:=nhash_any N a S.texts s hs hl w (h.num.cell 0) h.texts
 have o:∀ w:World,(method 489 106 (.pointer (some ⟨N,0,none⟩)) "grapnel/vault.hash").run prog w= .ok (259,.pointer (some ⟨N,0,none⟩)) w:=fun _=>by kernel_rfl
 have m:Hid (∀ w',Nums keyT 364 w' a (addN S.texts s)→Only a w w'→Z29 w' F B (Z5V S s)∧Z02 F w w'):=fun w' f d=>⟨⟨N,a,b,c,h.addT d f⟩,Z02.of_only d h.fa⟩
 unfold hashS
 generalize Z1t (Z0f (addN S.texts s) s) 32=u at *
 clear h hs
 go_enter func87,ntmps87
 go_wp2_with fail
 refine g.mono ?_
 rintro e n ⟨rfl,rfl⟩
 clear g
 go_wp2_with fail
 refine i.mono ?_
 rintro e k ⟨rfl,f,d⟩
 have l:Hid _:=m.out k f d
 clear f d i
 go_wp2
 go_ret
 exact⟨rfl,l.out⟩
theorem vseal_any (B:Nat)(F:Nat→Prop)(S:VS)(z:Int)(n ad s:ByteArray)(hs:fitF ⟨z,n,ad,s⟩)(hl:S.seals.length≤1000000)(w:World)(hp:Z29 w F B S) :
  Calls prog 31 #[.pointer (some ⟨B,0,none⟩),.int .i64 z,.string n,.string ad,.string s] w fun e w'=>e= .returned (.tuple #[.string (Z6B S z n ad s),.int .i64 (sealE z n)])∧Z29 w' F B (sealP S z n ad s)∧Z02 F w w':=by
 have g:=hp
 obtain⟨N,a,b,c,h⟩:=hp
 have m:w.cell? ⟨B,0,none⟩=some (.iface 106 (.pointer (some ⟨N,0,none⟩))):=h.row.cell 0
 have i:=Z5f B _ _ w m
 have d:=fit_any z n w
 unfold Z6B sealE sealP
 rw [show decide (0≤z∧z≤281474976710655∧n.size=12)=fitB z n from rfl] at d
 have k:=nseal_any N c S.seals ⟨z,n,ad,s⟩ hs hl w (h.num.cell 2) h.seals
 have v:∀ w:World,(method 489 106 (.pointer (some ⟨N,0,none⟩)) "grapnel/vault.seal").run prog w= .ok (263,.pointer (some ⟨N,0,none⟩)) w:=fun _=>by kernel_rfl
 have r:Hid (∀ w',Nums keyS 367 w' c (addN S.seals ⟨z,n,ad,s⟩)→Only c w w'→Z29 w' F B { S with seals:=addN S.seals ⟨z,n,ad,s⟩}∧Z02 F w w'):=fun w' j f=>⟨⟨N,a,b,c,h.addS f j⟩,Z02.of_only f h.fc⟩
 have t:Hid (Z29 w F B S):=g
 generalize s++Z1t (Z0f (addN S.seals ⟨z,n,ad,s⟩) ⟨z,n,ad,s⟩) 16=u at *
 generalize addN S.seals ⟨z,n,ad,s⟩=l2 at *
 clear h hs g
 cases hb:fitB z n <;> rw [hb] at d
 ·simp only [Bool.false_eq_true,if_false]
  go_enter func31,ntmps31
  go_wp2_with fail
  refine i.mono ?_
  rintro e q ⟨rfl,rfl⟩
  clear i
  go_wp2_with fail
  refine d.mono ?_
  rintro e l ⟨rfl,rfl⟩
  clear d
  go_wp2
  go_ret2
  exact⟨rfl,t.out,Z02.refl _ _⟩
 ·simp only [if_true]
  go_enter func31,ntmps31
  go_wp2_with fail
  refine i.mono ?_
  rintro e q ⟨rfl,rfl⟩
  clear i
  go_wp2_with fail
  refine d.mono ?_
  rintro e l ⟨rfl,rfl⟩
  clear d
  go_wp2_with fail
  refine k.mono ?_
  rintro e o ⟨rfl,j,f⟩
  have p:Hid _:=r.out o j f
  clear j f k
  go_wp2
  go_ret2
  exact⟨rfl,p.out⟩
theorem vopen_any (B:Nat)(F:Nat→Prop)(S:VS)(z:Int)(n ad s:ByteArray)(hs:fitF ⟨z,n,ad,s⟩)(hl:S.seals.length≤1000000)(w:World)(hp:Z29 w F B S) :
  Calls prog 80 #[.pointer (some ⟨B,0,none⟩),.int .i64 z,.string n,.string ad,.string s] w fun e w'=>e= .returned (.tuple #[.string (Z4G S z n ad s),.int .i64 (Z4b S z n ad s)])∧Below w.heap.size w w':=by
 obtain⟨N,a,b,c,h⟩:=hp
 have q:w.cell? ⟨B,0,none⟩=some (.iface 106 (.pointer (some ⟨N,0,none⟩))):=h.row.cell 0
 have j:=Z5f B _ _ w q
 have f:=fit_any z n w
 unfold Z4G Z4b
 rw [show decide (0≤z∧z≤281474976710655∧n.size=12)=fitB z n from rfl] at f
 have l:=fun d=>nopen_any N c S.seals z n ad s hs d hl w (h.num.cell 2) h.seals
 have g:∀ X Y:Value,(if Z0f S.seals ⟨z,n,ad,Z1U s⟩≠0∧Z3u s=Z1t (Z0f S.seals ⟨z,n,ad,Z1U s⟩) 16 then X else Y)=if Z42 S z n ad s then X else Y:=fun X Y=>by simp [Z42]
 simp only [g] at l
 have v:∀ w:World,(method 489 106 (.pointer (some ⟨N,0,none⟩)) "grapnel/vault.open").run prog w= .ok (262,.pointer (some ⟨N,0,none⟩)) w:=fun _=>by kernel_rfl
 clear h hs g
 generalize Z1U s=u at *
 generalize Z42 S z n ad s=ok at *
 cases hb:fitB z n <;> rw [hb] at f
 ·simp only [Bool.false_eq_true,if_false]
  go_enter func80,ntmps80
  go_wp2_with fail
  refine j.mono ?_
  rintro e o ⟨rfl,rfl⟩
  clear j
  go_wp2_with fail
  refine f.mono ?_
  rintro e m ⟨rfl,rfl⟩
  clear f
  go_wp2
  go_ret2
  exact⟨rfl,Below.refl _ _⟩
 ·simp only [if_true]
  by_cases d:s.size<16
  ·have k:(s.size:Int)<16:=by omega
   simp only [d,if_true]
   clear l
   go_enter func80,ntmps80
   go_wp2_with fail
   refine j.mono ?_
   rintro e o ⟨rfl,rfl⟩
   clear j
   go_wp2_with fail
   refine f.mono ?_
   rintro e m ⟨rfl,rfl⟩
   clear f
   go_wp2
   go_ret2
   exact⟨rfl,Below.refl _ _⟩
  ·have k:¬ (s.size:Int)<16:=by omega
   simp only [d,if_false]
   have i:=l (by omega)
   clear l
   cases ok <;> simp only [Bool.false_eq_true,if_false,if_true] at i ⊢
   all_goals
    go_enter func80,ntmps80
    go_wp2_with fail
    refine j.mono ?_
    rintro e o ⟨rfl,rfl⟩
    clear j
    go_wp2_with fail
    refine f.mono ?_
    rintro e m ⟨rfl,rfl⟩
    clear f
    go_wp2_with fail
    refine i.mono ?_
    rintro e t ⟨rfl,p⟩
    have r:Hid _:=p
    clear p i
    go_wp2
    go_ret2
    exact⟨rfl,r.out⟩
def newV:VS:=⟨[],[],[]⟩
theorem Z6j (w:World)(o:Obj):(w.alloc o).heap[w.heap.size]? = some o:=(MapKept.heap_alloc w o).1
theorem newN_any (w:World):Calls prog 39 #[] w fun e w'=>e= .returned (.pointer (some ⟨w.heap.size+3,0,none⟩))∧w'=(((w.alloc (.map #[] 0)).alloc (.map #[] 0)).alloc (.map #[] 0)).alloc (.cells #[.map (some w.heap.size),.map (some (w.heap.size+1)),.map (some (w.heap.size+2))] 175):=by
 have a:= @run_makeMap prog
 go_enter func39,ntmps39
 go_wp2
 go_ret
 exact⟨rfl,rfl⟩
theorem Z1M {α:Type} [DecidableEq α]{key:α→Value}{K:TypeId}{w:World}{b:Nat}{l:List α}(h:Nums key K w b l)(o:Obj):Nums key K (w.alloc o) b l:=h.keep (Below.heap_alloc w o b h.lt)
theorem ideal_lies (w:World):Z29 (((((w.alloc (.map #[] 0)).alloc (.map #[] 0)).alloc (.map #[] 0)).alloc (.cells #[.map (some w.heap.size),.map (some (w.heap.size+1)),.map (some (w.heap.size+2))] 175)).alloc (.cells #[.iface 106 (.pointer (some ⟨w.heap.size+3,0,none⟩))] 84)) (fun k=>w.heap.size≤k∧k<w.heap.size+5) (w.heap.size+4) newV:=by
 have f:(w.alloc (.map #[] 0)).heap.size=w.heap.size+1:=by simp
 have d:((w.alloc (.map #[] 0)).alloc (.map #[] 0)).heap.size=w.heap.size+2:=by simp
 have g:(((w.alloc (.map #[] 0)).alloc (.map #[] 0)).alloc (.map #[] 0)).heap.size=w.heap.size+3:=by simp
 have c:((((w.alloc (.map #[] 0)).alloc (.map #[] 0)).alloc (.map #[] 0)).alloc (.cells #[.map (some w.heap.size),.map (some (w.heap.size+1)),.map (some (w.heap.size+2))] 175)).heap.size=w.heap.size+4:=by simp
 have e:=Nums.made keyT 364 w
 have a:=Nums.made keyM 373 (w.alloc (.map #[] 0))
 have b:=Nums.made keyS 367 ((w.alloc (.map #[] 0)).alloc (.map #[] 0))
 rw [f] at a
 rw [d] at b
 refine⟨w.heap.size+3,w.heap.size,w.heap.size+1,w.heap.size+2,?_,?_,Z1M (Z1M (Z1M (Z1M e _) _) _) _,Z1M (Z1M (Z1M a _) _) _,Z1M (Z1M b _) _,by omega,by omega,by omega,by omega,by omega,by omega,by omega,by omega⟩
 ·have:=Z6j ((((w.alloc (.map #[] 0)).alloc (.map #[] 0)).alloc (.map #[] 0)).alloc (.cells #[.map (some w.heap.size),.map (some (w.heap.size+1)),.map (some (w.heap.size+2))] 175)) (.cells #[.iface 106 (.pointer (some ⟨w.heap.size+3,0,none⟩))] 84)
  rw [c] at this
  exact this
 ·have:=Z6j (((w.alloc (.map #[] 0)).alloc (.map #[] 0)).alloc (.map #[] 0)) (.cells #[.map (some w.heap.size),.map (some (w.heap.size+1)),.map (some (w.heap.size+2))] 175)
  rw [g] at this
  exact (Below.heap_alloc _ _ _ (by omega)).trans this
theorem ideal_any (w:World):Calls prog 17 #[] w fun e w'=> ∃ B,e= .returned (.pointer (some ⟨B,0,none⟩))∧Z29 w' (fun k=>w.heap.size≤k∧k<w'.heap.size) B newV∧Below w.heap.size w w':=by
 have b:Hid _:=ideal_lies w
 have a:Hid (Below w.heap.size w (((((w.alloc (.map #[] 0)).alloc (.map #[] 0)).alloc (.map #[] 0)).alloc (.cells #[.map (some w.heap.size),.map (some (w.heap.size+1)),.map (some (w.heap.size+2))] 175)).alloc (.cells #[.iface 106 (.pointer (some ⟨w.heap.size+3,0,none⟩))] 84))) :=
  (((((Below.refl w.heap.size w).alloc (Nat.le_refl _) _).alloc (by simp) _).alloc (by simp;omega) _).alloc (by simp;omega) _).alloc (by simp;omega) _
 go_enter func17,ntmps17
 go_wp2_with fail
 refine (newN_any w).mono ?_
 rintro e c ⟨rfl,rfl⟩
 go_wp2
 go_ret
 refine⟨w.heap.size+4,rfl,?_,a.out⟩
 refine Z29.mono b.out fun k _ h=>⟨h.1,?_⟩
 have:=h.2
 simp
 omega
end
structure PF where
 sum:ByteArray→ByteArray
 mac:ByteArray→ByteArray→ByteArray
 exp:ByteArray→ByteArray→ByteArray
 shut:ByteArray→ByteArray→ByteArray→ByteArray→ByteArray
 shutX:ByteArray→ByteArray→Int
 opn:ByteArray→ByteArray→ByteArray→ByteArray→ByteArray
 opnX:ByteArray→ByteArray→ByteArray→ByteArray→Int
structure Prims (Tab:World→Prop) (f:PF):Prop where
 tab:∀ {w w':World},Tab w→Below w.heap.size w w'→Tab w'
 sum:∀ s:ByteArray,s.size≤1048576→∀ w,Tab w→Calls prog 102 #[.string s] w fun e w'=>e= .returned (.string (f.sum s))∧Below w.heap.size w w'
 macz:∀ k s,(f.mac k s).size=32
 exp:∀ k i:ByteArray,k.size≤1048576→i.size≤1048576→∀ w,Tab w→Calls prog 245 #[.string k,.string i,.int .i64 32] w fun e w'=>e= .returned (.tuple #[.string (f.exp k i),.int .i64 0])∧Below w.heap.size w w'
 expz:∀ k i,(f.exp k i).size=32
 shut:∀ k n a s:ByteArray,a.size≤1048576→s.size≤1048576→∀ w,Calls prog 230 #[.string k,.string n,.string a,.string s] w fun e w'=>e= .returned (.tuple #[.string (f.shut k n a s),.int .i64 (f.shutX k n)])∧Below w.heap.size w w'
 opn:∀ k n a s:ByteArray,a.size≤1048576→s.size≤1048576→∀ w,Calls prog 228 #[.string k,.string n,.string a,.string s] w fun e w'=>e= .returned (.tuple #[.string (f.opn k n a s),.int .i64 (f.opnX k n a s)])∧Below w.heap.size w w'
 same:∀ a b:ByteArray,a.size≤maxLen→∀ w,Calls prog 233 #[.string a,.string b] w fun e w'=>e= .returned (.bool (decide (a=b)))∧Below w.heap.size w w'
def RealV (w:World)(B:Nat)(key:ByteArray):Prop:= ∃ N,Row w B 84 [.iface 78 (.pointer (some ⟨N,0,none⟩))]∧Row w N 80 [.string key]
theorem RealV.below {w w':World}{B:Nat}{key:ByteArray}(h:RealV w B key)(hb:Below w.heap.size w w'):RealV w' B key:=by
 obtain⟨N,b,a⟩:=h
 exact⟨N,b.below hb b.lt,a.below hb a.lt⟩
def Z3x:ByteArray:=⟨#[115,101,97,108,32]⟩
def Z4I (f:PF)(key:ByteArray)(z:Int):ByteArray:=f.exp key (Z3x++putS z 6)
def sealRS (f:PF)(key:ByteArray)(z:Int)(n a s:ByteArray):ByteArray:=if fitB z n then f.shut (Z4I f key z) n a s else ⟨#[]⟩
def sealRE (f:PF)(key:ByteArray)(z:Int)(n:ByteArray):Int:=if fitB z n then f.shutX (Z4I f key z) n else 1
def openRS (f:PF)(key:ByteArray)(z:Int)(n a s:ByteArray):ByteArray:=if fitB z n then (if s.size<16 then ⟨#[]⟩ else f.opn (Z4I f key z) n a s) else ⟨#[]⟩
def openRE (f:PF)(key:ByteArray)(z:Int)(n a s:ByteArray):Int:=if fitB z n then (if s.size<16 then 3 else f.opnX (Z4I f key z) n a s) else 1
section
variable {Tab:World→Prop} {f:PF}
theorem keyFor_any (P:Prims Tab f)(N:Nat)(key p:ByteArray)(hk:key.size≤1048576)(hp:p.size≤1048576)(w:World)(ht:Tab w)(c:w.cell? ⟨N,0,none⟩=some (.string key)) :
  Calls prog 236 #[.pointer (some ⟨N,0,none⟩),.string p] w fun e w'=>e= .returned (.string (f.exp key p))∧Below w.heap.size w w':=by
 have h:=P.exp key p hk hp w ht
 generalize f.exp key p=x at *
 clear ht P hk hp
 go_enter func236,ntmps236
 go_wp2_with fail
 refine h.mono ?_
 rintro e b ⟨rfl,a⟩
 clear h c
 go_wp2
 go_ret
 exact⟨rfl,a⟩
theorem put6_le (n:Nat):(putS n 6).size≤6:=by
 unfold putS
 split
 ·rw [strOfNums_size,Z19];decide
 ·exact Nat.zero_le _
theorem sealKey_any (P:Prims Tab f)(N:Nat)(key:ByteArray)(z:Nat)(hk:key.size≤1048576)(w:World)(ht:Tab w)(c:w.cell? ⟨N,0,none⟩=some (.string key)) :
  Calls prog 229 #[.pointer (some ⟨N,0,none⟩),.int .i64 (z:Nat)] w fun e w'=>e= .returned (.string (Z4I f key z))∧Below w.heap.size w w':=by
 have h:=Z7i z w
 have l:=put6_le z
 have m:Hid (Z4I f key z=f.exp key (Z3x++putS z 6)):=rfl
 generalize putS z 6=p at *
 have b:(Z3x++p).size≤1048576:=by rw [ByteArray.size_append,show Z3x.size=5 from rfl];omega
 have r:∀ w',(Op.stringOp .add ⟨#[115,101,97,108,32]⟩ p).run prog w'= .ok (.string (Z3x++p)) w':=fun w'=>run_string_add_sum (P:=prog) (w:=w') _ _ (by rw [show (⟨#[115,101,97,108,32]⟩:ByteArray).size=5 from rfl];omega)
 have k:=Z5U c
 have i:∀ W,Below w.heap.size w W→_:=fun W hW=>keyFor_any P N key (Z3x++p) hk b W (P.tab ht hW) ((World.cell?_of_block (a:=⟨N,0,none⟩) (hW.block N k)).trans c)
 generalize Z3x++p=q at *
 clear P ht hk c l b
 go_enter func229,ntmps229
 go_wp2_with fail
 refine h.mono ?_
 rintro e o ⟨rfl,g⟩
 clear h
 go_wp2_with fail
 refine (i _ g).mono ?_
 rintro e n ⟨rfl,d⟩
 have j:Hid _:=g.trans (d.mono g.size)
 clear i g d
 go_wp2
 go_ret
 exact⟨by rw [m.out];rfl,j.out⟩
theorem kseal_any (P:Prims Tab f)(N:Nat)(key:ByteArray)(z:Nat)(n a s:ByteArray)(hk:key.size≤1048576)(hA:a.size≤1048576)(hs:s.size≤1048576)(w:World)(ht:Tab w)(c:w.cell? ⟨N,0,none⟩=some (.string key)) :
  Calls prog 227 #[.pointer (some ⟨N,0,none⟩),.int .i64 (z:Nat),.string n,.string a,.string s] w fun e w'=>e= .returned (.tuple #[.string (f.shut (Z4I f key z) n a s),.int .i64 (f.shutX (Z4I f key z) n)])∧Below w.heap.size w w':=by
 have h:=sealKey_any P N key z hk w ht c
 have g:=fun W=>P.shut (Z4I f key z) n a s hA hs W
 generalize Z4I f key z=x at *
 generalize f.shut x n a s=t at *
 generalize f.shutX x n=e at *
 clear P ht hk c hA hs
 go_enter func227,ntmps227
 go_wp2_with fail
 refine h.mono ?_
 rintro e k ⟨rfl,d⟩
 clear h
 go_wp2_with fail
 refine (g _).mono ?_
 rintro e j ⟨rfl,b⟩
 have i:Hid _:=d.trans (b.mono d.size)
 clear g d b
 go_wp2
 go_ret2
 exact⟨rfl,i.out⟩
end
section
variable {Tab:World→Prop} {f:PF}
theorem rvseal_any (P:Prims Tab f)(B:Nat)(key:ByteArray)(z:Int)(n a s:ByteArray)(hk:key.size≤1048576)(hA:a.size≤1048576)(hs:s.size≤1048576)(w:World)(ht:Tab w)(hp:RealV w B key) :
  Calls prog 31 #[.pointer (some ⟨B,0,none⟩),.int .i64 z,.string n,.string a,.string s] w fun e w'=>e= .returned (.tuple #[.string (sealRS f key z n a s),.int .i64 (sealRE f key z n)])∧Below w.heap.size w w':=by
 obtain⟨N,h,d⟩:=hp
 have l:w.cell? ⟨B,0,none⟩=some (.iface 78 (.pointer (some ⟨N,0,none⟩))):=h.cell 0
 have g:w.cell? ⟨N,0,none⟩=some (.string key):=d.cell 0
 have c:=Z5f B _ _ w l
 have b:=fit_any z n w
 unfold sealRS sealRE
 rw [show decide (0≤z∧z≤281474976710655∧n.size=12)=fitB z n from rfl] at b
 cases hb:fitB z n <;> rw [hb] at b
 ·simp only [Bool.false_eq_true,if_false]
  clear P ht hk hA hs h d g
  go_enter func31,ntmps31
  go_wp2_with fail
  refine c.mono ?_
  rintro e p ⟨rfl,rfl⟩
  clear c
  go_wp2_with fail
  refine b.mono ?_
  rintro e k ⟨rfl,rfl⟩
  clear b
  go_wp2
  go_ret2
  exact⟨rfl,Below.refl _ _⟩
 ·simp only [if_true]
  obtain⟨m,rfl⟩:∃ m:Nat,z=m:=⟨z.toNat,by have:=of_decide_eq_true hb;omega⟩
  have j:=kseal_any P N key m n a s hk hA hs w ht g
  have r:∀ w:World,(method 489 78 (.pointer (some ⟨N,0,none⟩)) "grapnel/vault.seal").run prog w= .ok (227,.pointer (some ⟨N,0,none⟩)) w:=fun _=>by kernel_rfl
  generalize f.shut (Z4I f key m) n a s=u at *
  generalize f.shutX (Z4I f key m) n=v at *
  clear P ht hk hA hs h d g hb
  go_enter func31,ntmps31
  go_wp2_with fail
  refine c.mono ?_
  rintro e p ⟨rfl,rfl⟩
  clear c
  go_wp2_with fail
  refine b.mono ?_
  rintro e k ⟨rfl,rfl⟩
  clear b
  go_wp2_with fail
  refine j.mono ?_
  rintro e q ⟨rfl,i⟩
  have o:Hid _:=i
  clear i j
  go_wp2
  go_ret2
  exact⟨rfl,o.out⟩
end
theorem real_yes {pass salt X:ByteArray}{rounds:Int}(w:World)(hs:Calls prog 25 #[.string pass,.string salt,.int .i64 rounds,.int .i64 32] w fun e w'=>e= .returned (.tuple #[.string X,.int .i64 0])∧Below w.heap.size w w') :
  Calls prog 10 #[.string pass,.string salt,.int .i64 rounds] w fun e w'=> ∃ B,e= .returned (.tuple #[.pointer (some ⟨B,0,none⟩),.int .i64 0])∧RealV w' B X∧Below w.heap.size w w':=by
 go_enter func10,ntmps10
 go_wp2_with fail
 refine hs.mono ?_
 rintro e w1 ⟨rfl,b⟩
 have a:Hid _:=b
 clear hs b
 go_wp2
 go_ret2
 obtain⟨d,f,c⟩:=two_new (w:=w1) (w1:=(w1.alloc (.cells #[.string X] 80)).alloc (.cells #[.iface 78 (.pointer (some ⟨w1.heap.size,0,none⟩))] 84)) (Below.refl _ _)
 exact⟨w1.heap.size+1,rfl,⟨w1.heap.size,f,d⟩,a.out.trans (c.mono a.out.size)⟩
theorem rnumbered_any (z:Int)(n k:Nat)(hz:z=n)(hn:n<281474976710656)(hk:6≤k)(hk2:k≤4096)(u:Int)(hu:u=k)(w:World) :
  Calls prog 76 #[.int .i64 z,.int .i64 u] w fun e w'=>e= .returned (.string (Z1t n k))∧Below w.heap.size w w':=by
 subst hz hu
 have g:=fun W=>Z6S n 6 (by omega) W
 have h:=Z5c hn
 have f:=fun W=>noughts_z ((k:Int)-6) (k-6) (by omega) (by omega) W
 have o:=Z1L (k-6)
 have l:Hid (Z1t n k=putS n 6++Z0S (k-6)):=rfl
 generalize putS n 6=a at *
 generalize putE n 6=e6 at *
 generalize Z0S (k-6)=b at *
 have q:∀ w',(Op.stringOp .add a b).run prog w'= .ok (.string (a++b)) w':=fun w'=>run_string_add_sum (P:=prog) (w:=w') _ _ (by omega)
 have m:wrap64 ((k:Int)-6)=(k:Int)-6:=by unfold wrap64;omega
 go_enter func76,ntmps76
 go_wp2_with fail
 refine (g _).mono ?_
 rintro e p ⟨rfl,d⟩
 clear g
 go_wp2_with fail
 refine (f _).mono ?_
 rintro e j ⟨rfl,c⟩
 have i:Hid (Below w.heap.size w j):=d.trans (c.mono d.size)
 clear d c f
 go_wp2
 go_ret
 exact⟨by rw [l.out];rfl,i.out⟩
theorem rwrong_any (z:Int)(a:ByteArray)(w:World):Calls prog 73 #[.int .i64 z,.string a] w fun e w'=>e= .returned (.bool (!fitB z a))∧w'=w:=by
 by_cases i:z<0
 ·have b:fitB z a=false:=by unfold fitB;simp;intro h;omega
  rw [b]
  go_enter func73,ntmps73
  go_wp2
  go_ret
  exact⟨rfl,rfl⟩
 by_cases f:281474976710655<z
 ·have b:fitB z a=false:=by unfold fitB;simp;intro _ h;omega
  rw [b]
  go_enter func73,ntmps73
  go_wp2
  go_ret
  exact⟨rfl,rfl⟩
 by_cases c:(a.size:Int)=12
 ·have b:fitB z a=true:=by unfold fitB;simp;omega
  have d:((a.size:Int)==12)=true:=by simp [c]
  rw [b]
  go_enter func73,ntmps73
  go_wp2
  go_ret
  exact⟨rfl,rfl⟩
 ·have b:fitB z a=false:=by unfold fitB;simp;omega
  have d:=beq_false_of_ne c
  have g:((a.size:Int) != 12)=true:=by simp [bne,d]
  rw [b]
  go_enter func73,ntmps73
  go_wp2
  go_ret
  exact⟨rfl,rfl⟩
structure RPrims (f:PF):Prop where
 sum:∀ s:ByteArray,s.size≤1048576→∀ w,Calls prog 107 #[.string s] w fun e w'=>e= .returned (.string (f.sum s))∧Below w.heap.size w w'
 mac:∀ k s:ByteArray,k.size≤1048576→s.size≤1048576→∀ w,Calls prog 66 #[.string k,.string s] w fun e w'=>e= .returned (.string (f.mac k s))∧Below w.heap.size w w'
 macz:∀ k s,(f.mac k s).size=32
 exp:∀ k i:ByteArray,k.size≤1048576→i.size≤1048576→∀ w,Calls prog 112 #[.string k,.string i,.int .i64 32] w fun e w'=>e= .returned (.tuple #[.string (f.exp k i),.int .i64 0])∧Below w.heap.size w w'
 expz:∀ k i,(f.exp k i).size=32
 shut:∀ k n a s:ByteArray,a.size≤1048576→s.size≤1048576→∀ w,Calls prog 74 #[.string k,.string n,.string a,.string s] w fun e w'=>e= .returned (.tuple #[.string (f.shut k n a s),.int .i64 (f.shutX k n)])∧Below w.heap.size w w'
def RefR (w:World)(B:Nat)(key:ByteArray):Prop:=Row w B 88 [.bool false,.string key,.slice none 0 0,.slice none 0 0,.slice none 0 0]
theorem RefR.keep {w w':World}{B:Nat}{key:ByteArray}(h:RefR w B key)(hb:Below w.heap.size w w'):RefR w' B key:=Row.below h hb (Row.lt h)
theorem wide6 (n:Nat):Z1t n 6=putS n 6:=by
 unfold Z1t
 apply ByteArray.ext
 simp [ByteArray.data_append,Z0S,strOfNums]
section
variable {f:PF}
theorem under_any (P:RPrims f)(B:Nat)(key p:ByteArray)(hk:key.size≤1048576)(hp:p.size≤1048576)(w:World)(hr:RefR w B key) :
  Calls prog 75 #[.pointer (some ⟨B,0,none⟩),.string p] w fun e w'=>e= .returned (.string (f.exp key p))∧Below w.heap.size w w':=by
 have h:=P.exp key p hk hp w
 have c:w.cell? ⟨B,1,none⟩=some (.string key):=Row.cell hr 1
 generalize f.exp key p=x at *
 clear P hk hp hr
 go_enter func75,ntmps75
 go_wp2_with fail
 refine h.mono ?_
 rintro e b ⟨rfl,a⟩
 clear h c
 go_wp2
 go_ret
 exact⟨rfl,a⟩
theorem rrseal_any (P:RPrims f)(B:Nat)(key:ByteArray)(z:Int)(n a s:ByteArray)(hk:key.size≤1048576)(hA:a.size≤1048576)(hs:s.size≤1048576)(w:World)(hr:RefR w B key) :
  Calls prog 36 #[.pointer (some ⟨B,0,none⟩),.int .i64 z,.string n,.string a,.string s] w fun e w'=>e= .returned (.tuple #[.string (sealRS f key z n a s),.int .i64 (sealRE f key z n)])∧Below w.heap.size w w':=by
 have b:=rwrong_any z n w
 unfold sealRS sealRE
 cases hb:fitB z n <;> rw [hb] at b
 ·simp only [Bool.false_eq_true,if_false,Bool.not_false] at b ⊢
  clear P hk hA hs hr
  go_enter func36,ntmps36
  go_wp2_with fail
  refine b.mono ?_
  rintro e o ⟨rfl,rfl⟩
  clear b
  go_wp2
  go_ret2
  exact⟨rfl,Below.refl _ _⟩
 simp only [if_true,Bool.not_true] at b ⊢
 have r:=of_decide_eq_true hb
 obtain⟨m,rfl⟩:∃ m:Nat,z=m:=⟨z.toNat,by omega⟩
 have c:w.cell? ⟨B,0,none⟩=some (.bool false):=Row.cell hr 0
 have d:=rnumbered_any (m:Int) m 6 rfl (by omega) (by decide) (by decide) 6 rfl w
 rw [wide6] at d
 have A:=put6_le m
 have D:Hid (Z4I f key m=f.exp key (Z3x++putS m 6)):=rfl
 generalize putS m 6=p at *
 have j:(Z3x++p).size≤1048576:=by rw [ByteArray.size_append,show Z3x.size=5 from rfl];omega
 have G:∀ w',(Op.stringOp .add ⟨#[115,101,97,108,32]⟩ p).run prog w'= .ok (.string (Z3x++p)) w':=fun w'=>run_string_add_sum (P:=prog) (w:=w') _ _ (by rw [show (⟨#[115,101,97,108,32]⟩:ByteArray).size=5 from rfl];omega)
 have u:=fun W (hW:Below w.heap.size w W)=>under_any P B key (Z3x++p) hk j W (hr.keep hW)
 have i:=fun W=>P.shut (Z4I f key m) n a s hA hs W
 rw [D.out] at i ⊢
 generalize Z3x++p=q at *
 generalize f.exp key q=x at *
 generalize f.shut x n a s=t at *
 generalize f.shutX x n=v at *
 clear P hk hA hs hr A j hb r
 go_enter func36,ntmps36
 go_wp2_with fail
 refine b.mono ?_
 rintro e o ⟨rfl,rfl⟩
 clear b
 go_wp2_with fail
 refine d.mono ?_
 rintro e F ⟨rfl,g⟩
 clear d c
 go_wp2_with fail
 refine (u _ g).mono ?_
 rintro e E ⟨rfl,l⟩
 have h:=g.trans (l.mono g.size)
 clear u g l
 go_wp2_with fail
 refine (i _).mono ?_
 rintro e C ⟨rfl,k⟩
 have y:Hid (Below o.heap.size o C):=h.trans (k.mono h.size)
 clear i h k
 go_wp2
 go_ret2
 exact⟨rfl,y.out⟩
end
theorem rreal_yes {pass salt X:ByteArray}{rounds:Int}(w:World)(hs:Calls prog 26 #[.string pass,.string salt,.int .i64 rounds,.int .i64 32] w fun e w'=>e= .returned (.tuple #[.string X,.int .i64 0])∧Below w.heap.size w w') :
  Calls prog 11 #[.string pass,.string salt,.int .i64 rounds] w fun e w'=> ∃ B,e= .returned (.tuple #[.pointer (some ⟨B,0,none⟩),.int .i64 0])∧RefR w' B X∧Below w.heap.size w w':=by
 go_enter func11,ntmps11
 go_wp2_with fail
 refine hs.mono ?_
 rintro e a ⟨rfl,c⟩
 have b:Hid _:=c
 clear hs c
 go_wp2
 go_ret2
 exact⟨a.heap.size,rfl,heap_alloc_new a _,b.out.alloc b.out.size _⟩
end Go.Proofs.YtijpgmkdnemmbaaGreatDoor
