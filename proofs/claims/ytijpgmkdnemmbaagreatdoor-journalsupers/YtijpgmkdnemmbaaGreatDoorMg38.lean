/- Part 38. -/
import Derived.Test.YtijpgmkdnemmbaaGreatDoorMg37
set_option maxRecDepth 20000
set_option maxHeartbeats 8000000
open Go.RowKit Go.Proofs.Tryz
namespace Go.Proofs.YtijpgmkdnemmbaaGreatDoor
namespace Sm
def xorB (a b:List Nat):List Nat:=List.zipWith (· ^^^ ·) a b
def uL (K D0:List Nat):Nat→List Nat
 | 0=>D0
 | j+1=>macL K (uL K D0 j)
def aL (K D0:List Nat):Nat→List Nat
 | 0=>D0
 | j+1=>xorB (aL K D0 j) (macL K (uL K D0 j))
theorem uL_length (K:List Nat){D0:List Nat}(h:D0.length=32)(j:Nat):(uL K D0 j).length=32:=by
 cases j with
 | zero=>exact h
 | succ j=>exact Z1w _ _
theorem uL_bytes (K:List Nat){D0:List Nat}(h:Z03 D0)(j:Nat):Z03 (uL K D0 j):=by
 cases j with
 | zero=>exact h
 | succ j=>exact Z1O _ _
theorem Z35 (K:List Nat){D0:List Nat}(h:D0.length=32)(j:Nat):(aL K D0 j).length=32:=by
 induction j with
 | zero=>exact h
 | succ j ih=>rw [aL,xorB,List.length_zipWith,ih,Z1w];rfl
theorem xorB_bytes {a b:List Nat}(ha:Z03 a)(hb:Z03 b):Z03 (xorB a b):=by
 intro x d
 obtain⟨i,c,rfl⟩:=List.mem_iff_getElem.1 d
 rw [xorB,List.length_zipWith] at c
 have e:(xorB a b)[i]'(by rw [xorB,List.length_zipWith];exact c)=a[i]'(by omega) ^^^ b[i]'(by omega):=by simp [xorB]
 rw [e]
 exact Nat.xor_lt_two_pow (n:=8) (ha _ (List.getElem_mem _)) (hb _ (List.getElem_mem _))
theorem Z6X (K:List Nat){D0:List Nat}(h:Z03 D0)(j:Nat):Z03 (aL K D0 j):=by
 induction j with
 | zero=>exact h
 | succ j ih=>exact xorB_bytes ih (Z1O _ _)
theorem xbRow {w:World}{g:Nat}{t:TypeId}{X a:List Nat}{j:Nat}(h:Row w g t (byV (X++a.drop j)))(hl:a.length=32)(hj:j<32):Row w g t (byV X ++ [.int .u8 (a.getD j 0:Nat)]++byV (a.drop (j+1))):=by
 have e:a.drop j=a.getD j 0 :: a.drop (j+1):=by
  rw [List.drop_eq_getElem_cons (by omega),Z0b _ _ (by omega)]
 rw [Z05,e] at h
 have b:byV (a.getD j 0 :: a.drop (j+1))= [.int .u8 (a.getD j 0:Nat)]++byV (a.drop (j+1)):=rfl
 rw [b,← List.append_assoc] at h
 exact h
theorem xbNext (a u:List Nat)(j b:Nat)(ha:a.length=32)(hu:u.length=32)(hj:j<32)(hb:b=a.getD j 0 ^^^ u.getD j 0):byV (xorB (a.take j) (u.take j)) ++ [.int .u8 (b:Nat)]++byV (a.drop (j+1))=byV (xorB (a.take (j+1)) (u.take (j+1))++a.drop (j+1)):=by
 rw [List.take_succ_eq_append_getElem (by omega),List.take_succ_eq_append_getElem (by omega),xorB,xorB,List.zipWith_append (by simp;omega),Z05,Z05,hb,Z0b _ _ (by omega),Z0b _ _ (by omega)]
 rfl
def strB (K salt:List Nat)(rounds i:Nat):List Nat:=aL K (macL K (salt++be4 i)) (rounds-1)
theorem Z52 (K salt:List Nat)(rounds i:Nat):(strB K salt rounds i).length=32:=Z35 K (Z1w _ _) _
theorem strB_bytes (K salt:List Nat)(rounds i:Nat):Z03 (strB K salt rounds i):=Z6X K (Z1O _ _) _
def two (a b:ByteArray):Nat→ByteArray
 | 0=>a
 | _=>b
theorem mac_two (KB:Nat)(K:List Nat)(hKl:K.length=64)(hKb:Z03 K)(R1 R2:List Value)(hR1:Z1Q R1)(hR2:Z1Q R2)(a b:ByteArray)(ha:a.size≤1048576)(hb:b.size≤1048576)(w:World)(hq:Z0H w)(hr:Row w KB 152 (keyV K R1 R2)) :
  Calls prog 106 #[.pointer (some ⟨KB,0,none⟩),.slice (some ⟨w.heap.size,0,none⟩) 2 2] (w.alloc (.cells #[.string a,.string b] 9)) fun e w'=>e= .returned (.agg (byV (macL K (Z00 a++Z00 b))).toArray)∧Below w.heap.size w w':=by
 have f:Strs (w.alloc (.cells #[.string a,.string b] 9)) (.slice (some ⟨w.heap.size,0,none⟩) 2 2) 2 (two a b):=by
  refine⟨_,_,rfl,by unfold maxLen;decide,.inr ⟨w.heap.size,0,rfl,by simp,fun j hj=> ?_⟩⟩
  rw [cell_of_row _ _ _ _ _ _ (heap_alloc_new w _),Nat.zero_add]
  match j,hj with
  | 0,_=>rfl
  | 1,_=>rfl
 have c:Below w.heap.size w (w.alloc (.cells #[.string a,.string b] 9)):=(Below.refl _ _).alloc (Nat.le_refl _) _
 have d:=mac_any KB K hKl hKb R1 R2 hR1 hR2 _ 2 (two a b) _ f (fun j hj=>by
  have h:j=0∨j=1∨j=2:=by omega
  rcases h with rfl | rfl | rfl
  all_goals simp [catS,two,Z01]
  all_goals omega) (hq.below c hq.1) (hr.below c hr.lt)
 exact d.mono fun e w' ⟨he,hb3⟩=>⟨he,c.trans (hb3.mono c.size)⟩
theorem mac_one (KB:Nat)(K:List Nat)(hKl:K.length=64)(hKb:Z03 K)(R1 R2:List Value)(hR1:Z1Q R1)(hR2:Z1Q R2)(a:ByteArray)(ha:a.size≤1048576)(w:World)(hq:Z0H w)(hr:Row w KB 152 (keyV K R1 R2)) :
  Calls prog 106 #[.pointer (some ⟨KB,0,none⟩),.slice (some ⟨w.heap.size,0,none⟩) 1 1] (w.alloc (.cells #[.string a] 9)) fun e w'=>e= .returned (.agg (byV (macL K (Z00 a))).toArray)∧Below w.heap.size w w':=by
 have d:Strs (w.alloc (.cells #[.string a] 9)) (.slice (some ⟨w.heap.size,0,none⟩) 1 1) 1 (fun _=>a):=by
  refine⟨_,_,rfl,by unfold maxLen;decide,.inr ⟨w.heap.size,0,rfl,by simp,fun j hj=> ?_⟩⟩
  obtain rfl:j=0:=by omega
  exact (cell_of_row _ _ _ _ _ _ (heap_alloc_new w _))
 have b:Below w.heap.size w (w.alloc (.cells #[.string a] 9)):=(Below.refl _ _).alloc (Nat.le_refl _) _
 have c:=mac_any KB K hKl hKb R1 R2 hR1 hR2 _ 1 (fun _=>a) _ d (fun j hj=>by
  have h:j=0∨j=1:=by omega
  rcases h with rfl | rfl
  all_goals simp [catS,Z01]
  all_goals omega) (hq.below b hq.1) (hr.below b hr.lt)
 exact c.mono fun e w' ⟨he,hb3⟩=>⟨he,b.trans (hb3.mono b.size)⟩
set_option maxRecDepth 10000 in
theorem stretched_any (KB:Nat)(K:List Nat)(hKl:K.length=64)(hKb:Z03 K)(R1 R2:List Value)(hR1:Z1Q R1)(hR2:Z1Q R2)(salt:ByteArray)(hl:salt.size≤1048576)(rounds i:Nat)(hr1:1≤rounds)(hr2:rounds≤1000)(hi2:i<65536)(w:World)(hq:Z0H w)
  (hr:Row w KB 152 (keyV K R1 R2)) :
  Calls prog 65 #[.pointer (some ⟨KB,0,none⟩),.string salt,.int .i64 rounds,.int .i64 i] w fun e w'=>e= .returned (.agg (byV (strB K (Z00 salt) rounds i)).toArray)∧Below w.heap.size w w':=by
 obtain⟨s,N⟩:∃ s:Array Value,s=(digV []).toArray:=⟨_,rfl⟩
 have b4:∀ w,(zeroValue 156).run prog w= .ok (.agg s) w:=by rw [N];exact (zero_of_info (n:=32) (by kernel_rfl)).1
 have a1:s.size=32:=by rw [N];rfl
 have D:Below w.heap.size w ((w.alloc (.cells s 156)).alloc (.cells #[.int .u8 0,.int .u8 0,.int .u8 0,.int .u8 0] 203)):=((Below.refl _ _).alloc (Nat.le_refl _) _).alloc (by simp) _
 have S:Row ((w.alloc (.cells s 156)).alloc (.cells #[.int .u8 0,.int .u8 0,.int .u8 0,.int .u8 0] 203)) w.heap.size 156 (digV []):=by rw [N];exact heap_alloc2_old w _ _
 have M:Row ((w.alloc (.cells s 156)).alloc (.cells #[.int .u8 0,.int .u8 0,.int .u8 0,.int .u8 0] 203)) (w.heap.size+1) 203 ([] ++ [.int .u8 0,.int .u8 0,.int .u8 0,.int .u8 0] ++ []):=heap_alloc2_new w _ _
 obtain⟨w0,ay⟩:∃ w0,(w.alloc (.cells s 156)).alloc (.cells #[.int .u8 0,.int .u8 0,.int .u8 0,.int .u8 0] 203)=w0:=⟨_,rfl⟩
 rw [ay] at D S M
 have al:=hr.below D hr.lt
 have aw:=hr.lt
 have ai:Z0H w0:=hq.below D hq.1
 have b2:IntKind.u64.wrap (i:Int)=i:=by rw [IntKind.wrap_u64];omega
 have HP:Hid (Calls prog 105 #[.slice (some ⟨w.heap.size+1,0,none⟩) 4 4,.int .u64 (i:Nat)] w0 fun e w'=>e= .returned (.tuple #[])∧Row w' (w.heap.size+1) 203 ([]++beV 4 i ++ [])∧Only (w.heap.size+1) w0 w'):=Z7G (w.heap.size+1) 203 [] _ [] 4 4 i (by decide) rfl w0 M
 have H0:Hid (Row w0 KB 152 (keyV K R1 R2)∧Z0H w0∧Below w.heap.size w w0∧Row w0 w.heap.size 156 (digV [])∧w.heap.size+1<w0.heap.size):=⟨al,ai,D,S,M.lt⟩
 have b3:=hq.1
 clear N hr hq al ai D S M
 go_enter func65,ntmps65
 go_wp2_with fail
 refine HP.out.mono ?_
 rintro e w1 ⟨rfl,V,C⟩
 rw [List.nil_append,List.append_nil,beV4] at V
 have R:=H0.out.1.only C (by omega)
 have ah:=H0.out.2.2.2.1.only C (by omega)
 have ap:=H0.out.2.1.only C (by omega)
 have r:Below w.heap.size w w1:=H0.out.2.2.1.trans ((C.below (by have:=H0.out.2.2.2.2;omega)).mono (by omega))
 have p:=run_convert_bytes_arg (P:=prog) w1 90 5 underlying90 underlying5 (w.heap.size+1) 0 4 4 ((be4 i).map fun (x:Nat)=>(x:Int)) rfl (fun j hj=>by
  rw [Nat.zero_add,V.cell,Z0s _ _ hj,Z0b _ _ hj]
  have h1:j<(be4 i).length:=hj
  rw [List.getD_eq_getElem?_getD,List.getElem?_map,List.getElem?_eq_getElem h1];rfl) 9 underlying9
 obtain⟨nb,a2⟩:∃ nb,nb=strOfNums ((be4 i).map fun (x:Nat)=>(x:Int)):=⟨_,rfl⟩
 rw [← a2] at p
 have U:Z00 nb=be4 i:=by rw [a2];exact Z08 _ (Z1I i)
 have b7:nb.size=4:=by rw [← Z01,U];rfl
 have z:Hid (Row w1 KB 152 (keyV K R1 R2)∧Z0H w1∧Below w.heap.size w w1∧Row w1 w.heap.size 156 (digV [])∧Z00 nb=be4 i):=⟨R,ap,r,ah,U⟩
 clear V C R ah ap r a2 U HP
 go_wp2_with fail
 first
  | (rw [p];go_wp2_with fail)
  | skip
 refine (mac_two KB K hKl hKb R1 R2 hR1 hR2 salt nb hl (by omega) w1 z.out.2.1 z.out.1).mono ?_
 rintro e h ⟨rfl,H⟩
 rw [z.out.2.2.2.2]
 obtain⟨l,J⟩:∃ l,l=macL K (Z00 salt++be4 i):=⟨_,rfl⟩
 have I:l.length=32:=by rw [J];exact Z1w _ _
 have T:Hid (l=macL K (Z00 salt++be4 i)):=J
 rw [← J]
 clear J p
 obtain⟨a,d⟩:∃ a,a=(byV l).toArray:=⟨_,rfl⟩
 have f:a.size=32:=by rw [d];simp [byV,I]
 have k:a.all (·.oneCell')=true:=by rw [d];simp [byV,Value.oneCell']
 have b:(prog.info? 156).map (·.size)=some a.size:=by rw [f];kernel_rfl
 have E:s.size=a.size:=by rw [a1,f]
 rw [← d]
 have a7:Hid (a=(byV l).toArray):=d
 clear d
 have u:(h.alloc (.cells s 156)).setRow h.heap.size a=h.alloc (.cells a 156):=World.setRow_alloc_new _ _ _ _
 have k3:(h.alloc (.cells a 156)).heap[h.heap.size]? = some (.cells a 156 (0,0)):=heap_alloc_new h _
 have G:=H.alloc H.size (.cells a 156)
 obtain⟨g,ad⟩:∃ g,g=h.alloc (.cells a 156):=⟨_,rfl⟩
 rw [← ad] at u k3 G
 clear ad
 have az:IntKind.i64.wrap ((rounds:Int)-1)=((rounds-1:Nat):Int):=by rw [IntKind.wrap_i64];omega
 obtain⟨m,hm⟩:∃ m,m=rounds-1:=⟨_,rfl⟩
 rw [← hm] at az
 have HM:Hid (m=rounds-1):=hm
 have b6:m≤999:=by omega
 clear hm
 have o:(g.alloc (.cells s 156)).setRow g.heap.size a=g.alloc (.cells a 156):=World.setRow_alloc_new _ _ _ _
 have k4:Row (g.alloc (.cells a 156)) g.heap.size 156 (byV l):=by rw [a7.out];exact heap_alloc_new g _
 have au:h.heap.size<g.heap.size:=(Array.getElem?_eq_some_iff.1 k3).1
 have Z:Row (g.alloc (.cells a 156)) h.heap.size 156 (byV l):=by
  have h1:Row g h.heap.size 156 (byV l):=by rw [a7.out] at k3;exact k3
  exact (Below.heap_alloc g _ _ (by omega)).trans h1
 have W:=G.alloc G.size (.cells a 156)
 obtain⟨w4,ao⟩:∃ w4,w4=g.alloc (.cells a 156):=⟨_,rfl⟩
 rw [← ao] at o k4 Z W
 clear ao
 go_wp2_with (first | refine wpList_load_row rfl 156 _ rfl h.heap.size rfl 156 _ (0,0) _ k3 underlying156 rfl b ?_ | (refine wpList_store_row rfl 156 _ _ rfl h.heap.size a rfl rfl 156 _ (heap_alloc_new h _) b E k ?_;rw [u]) | (refine wpList_store_row rfl 156 _ _ rfl g.heap.size a rfl rfl 156 _ (heap_alloc_new g _) b E k ?_;rw [o]))
 have HL:Hid (Row w4 h.heap.size 156 (byV l)∧Row w4 g.heap.size 156 (byV l)∧Below w1.heap.size w1 w4):=⟨Z,k4,W⟩
 have aa:w1.heap.size≤h.heap.size:=H.size
 have ab:Hid (w.heap.size<w1.heap.size∧KB<w1.heap.size):=⟨z.out.2.2.2.1.lt,z.out.1.lt⟩
 clear k3 k4 Z H G W u o k b E f a7
 go_loopw [26] (fun c wr=> ∃ j:Nat,j≤m∧c= .int .i64 j∧Row wr h.heap.size 156 (byV (uL K l j))∧Row wr g.heap.size 156 (byV (aL K l j))∧Below w1.heap.size w1 wr) (fun c _=>m-(intOf c).toNat)
 case atStart=>exact⟨0,Nat.zero_le _,rfl,HL.out.1,HL.out.2.1,HL.out.2.2⟩
 case round =>
  clear HL
  obtain⟨j,hj,rfl,hu,ha,hb⟩:=hrel
  by_cases b8:j<m
  ·have j1:(j:Int)<m:=by omega
   have B:=uL_length K I j
   have ac:=Z35 K I j
   have ax:=uL_bytes K (show Z03 l by rw [T.out];exact Z1O _ _) j
   have av:=Z6X K (show Z03 l by rw [T.out];exact Z1O _ _) j
   have HN:Hid (uL K l (j+1)=macL K (uL K l j)∧aL K l (j+1)=xorB (aL K l j) (macL K (uL K l j))):=⟨rfl,rfl⟩
   generalize uL K l j=uj at *
   generalize aL K l j=aj at *
   have p:=run_convert_bytes_arg (P:=prog) wr 90 5 underlying90 underlying5 h.heap.size 0 32 32 (uj.map fun (x:Nat)=>(x:Int)) (by simp [B]) (fun i hi=>by
    rw [Nat.zero_add,hu.cell,Z0s _ _ (by rw [B];exact hi)]
    simp [List.getD,B,hi]) 9 underlying9
   obtain⟨su,Y⟩:∃ su,su=strOfNums (uj.map fun (x:Nat)=>(x:Int)):=⟨_,rfl⟩
   rw [← Y] at p
   have X:Z00 su=uj:=by rw [Y];exact Z08 _ ax
   have b0:su.size=32:=by rw [← Z01,X,B]
   have ak:g.heap.size<wr.heap.size:=ha.lt
   have af:h.heap.size<wr.heap.size:=hu.lt
   have O:Hid (Row wr h.heap.size 156 (byV uj)∧Row wr g.heap.size 156 (byV aj)∧Below w1.heap.size w1 wr∧Z00 su=uj):=⟨hu,ha,hb,X⟩
   clear hu ha hb Y X
   go_wp2_with fail
   first
    | (rw [p];go_wp2_with fail)
    | skip
   refine (mac_one KB K hKl hKb R1 R2 hR1 hR2 su (by omega) wr (z.out.2.1.below O.out.2.2.1 z.out.2.1.1) (z.out.1.below O.out.2.2.1 ab.out.2)).mono ?_
   rintro e w5 ⟨rfl,L⟩
   rw [O.out.2.2.2]
   obtain⟨q,A⟩:∃ q,q=macL K uj:=⟨_,rfl⟩
   have Q:q.length=32:=by rw [A];exact Z1w _ _
   have aq:Z03 q:=by rw [A];exact Z1O _ _
   rw [← A]
   rw [← A] at HN
   clear A p
   have ku:w5.heap[h.heap.size]? = some (.cells (byV uj).toArray 156 (0,0)):=O.out.1.below L af
   have ka:=O.out.2.1.below L ak
   obtain⟨a,d⟩:∃ a,a=(byV q).toArray:=⟨_,rfl⟩
   have f:a.size=32:=by rw [d];simp [byV,Q]
   have k:a.all (·.oneCell')=true:=by rw [d];simp [byV,Value.oneCell']
   have b:(prog.info? 156).map (·.size)=some a.size:=by rw [f];kernel_rfl
   have F:(byV uj).toArray.size=a.size:=by rw [f];simp [byV,B]
   rw [← d]
   have a4:Row (w5.setRow h.heap.size a) h.heap.size 156 (byV q):=by
    have:=setRow_heap w5 h.heap.size _ a _ _ ku
    rw [d] at this ⊢
    exact this
   have a6:Row (w5.setRow h.heap.size a) g.heap.size 156 (byV aj):=(setRow_other _ _ _ _ (by omega)).trans ka
   have a8:Below w1.heap.size w1 (w5.setRow h.heap.size a):=Z0l (O.out.2.2.1.trans (L.mono O.out.2.2.1.size)) aa a
   obtain⟨w6,a9⟩:∃ w6,w5.setRow h.heap.size a=w6:=⟨_,rfl⟩
   rw [a9] at a4 a6 a8
   clear d
   go_wp2_with (refine wpList_store_row rfl 156 _ _ rfl h.heap.size a rfl rfl 156 _ ku b F k ?_;rw [a9])
   have H6:Hid (Row w6 h.heap.size 156 (byV q)∧Row w6 g.heap.size 156 (byV aj)∧Below w1.heap.size w1 w6):=⟨a4,a6,a8⟩
   clear a4 a6 a8 a9 ku ka k b F f L O
   go_loopw [33] (fun c wz=> ∃ t:Nat,t≤32∧c= .int .i64 t∧Row wz g.heap.size 156 (byV (xorB (aj.take t) (q.take t)++aj.drop t))∧Only g.heap.size w6 wz) (fun c _=>32-(intOf c).toNat)
   case atStart=>exact⟨0,Nat.zero_le _,rfl,H6.out.2.1,Only.refl _ _⟩
   case round =>
    obtain⟨t,ht,rfl,hz,ho⟩:=hrel
    by_cases ae:t<32
    ·obtain⟨x,hx⟩:∃ x,x=aj.getD t 0:=⟨_,rfl⟩
     obtain⟨y,hy⟩:∃ y,y=q.getD t 0:=⟨_,rfl⟩
     have lx:x<256:=by rw [hx];exact Z0k (by decide) av t
     have ly:y<256:=by rw [hy];exact Z0k (by decide) aq t
     have a3:Row wr g.heap.size 156 (byV (xorB (aj.take t) (q.take t)) ++ [.int .u8 (x:Nat)]++byV (aj.drop (t+1))):=by rw [hx];exact xbRow hz ac ae
     have a5:(byV (xorB (aj.take t) (q.take t))).length=t:=by simp [byV,xorB];omega
     have cx:=a3.at a5.symm
     have cy:wr.cell? ⟨h.heap.size,t,none⟩=some (.int .u8 (y:Nat)):=by
      rw [(H6.out.1.only ho (by omega)).cell,hy]
      exact Z0s q t (by omega)
     have fx:wr.frozen? ⟨g.heap.size,t,none⟩=false:=hz.frozen t
     have bx:bits .xor .u8 (x:Int) (y:Int)=((x ^^^ y:Nat):Int):=u8_xor_nat x y lx ly
     obtain⟨b1,r⟩:∃ b1,b1=x ^^^ y:=⟨_,rfl⟩
     rw [← r] at bx
     have a0:=a3.set (.int .u8 (b1:Nat)) a5.symm
     rw [xbNext aj q t b1 ac Q ae (by rw [r,hx,hy])] at a0
     have HZ:Hid (Row (wr.setCell ⟨g.heap.size,t,none⟩ (.int .u8 (b1:Nat))) g.heap.size 156 (byV (xorB (aj.take (t+1)) (q.take (t+1))++aj.drop (t+1)))∧Only g.heap.size w6 (wr.setCell ⟨g.heap.size,t,none⟩ (.int .u8 (b1:Nat)))):=⟨a0,ho.setCell _ _⟩
     have b5:(t:Int)<32:=by omega
     clear hz ho a3 a0 r hx hy a5
     go_wp2_with fail
     go_region_with (fail)
     all_goals
      go_wp2
      go_roundw
      case rel=>exact⟨t+1,by omega,by go_num,HZ.out.1,HZ.out.2.drew⟩
      case measure=>simp [intOf];omega
    ·obtain rfl:t=32:=by omega
     have HF:Hid (Row wr h.heap.size 156 (byV (uL K l (j+1)))∧Row wr g.heap.size 156 (byV (aL K l (j+1)))∧Below w1.heap.size w1 wr):=by
      refine⟨by rw [HN.out.1];exact H6.out.1.only ho (by omega),?_,H6.out.2.2.trans ((ho.below (Nat.le_of_lt H6.out.2.1.lt)).mono (by omega))⟩
      rw [HN.out.2]
      have h2:=hz
      rw [List.take_of_length_le (by omega),List.take_of_length_le (by omega),List.drop_eq_nil_of_le (by omega),List.append_nil] at h2
      exact h2
     clear hz ho
     go_wp2
     go_roundw
     case rel=>exact⟨j+1,by omega,by go_num,HF.out.1,HF.out.2.1,HF.out.2.2⟩
     case measure=>simp [intOf];omega
  ·obtain rfl:j=m:=by omega
   obtain⟨a,d⟩:∃ a,a=(byV (aL K l j)).toArray:=⟨_,rfl⟩
   have f:a.size=32:=by rw [d];simp [byV,Z35 K I j]
   have k:a.all (·.oneCell')=true:=by rw [d];simp [byV,Value.oneCell']
   have b:(prog.info? 156).map (·.size)=some a.size:=by rw [f];kernel_rfl
   have ka:wr.heap[g.heap.size]? = some (.cells a 156 (0,0)):=by rw [d];exact ha
   have ag:wr.heap[w.heap.size]? = some (.cells (digV []).toArray 156 (0,0)):=z.out.2.2.2.1.below hb ab.out.1
   have F:(digV []).toArray.size=a.size:=by rw [f];rfl
   have ar:=run_loadVar_row (P:=prog) (wr.setRow w.heap.size a) w.heap.size 156 156 a (0,0) _ (setRow_heap _ _ _ _ _ _ ag) underlying156 rfl b
   have HF:Hid (a=(byV (strB K (Z00 salt) rounds i)).toArray∧Below w.heap.size w (wr.setRow w.heap.size a)):=⟨by rw [d,T.out,HM.out];rfl,Z0l (z.out.2.2.1.trans (hb.mono z.out.2.2.1.size)) (Nat.le_refl _) a⟩
   clear d hu ha hb
   go_wp2_with (first | refine wpList_load_row rfl 156 _ rfl g.heap.size rfl 156 _ (0,0) _ ka underlying156 rfl b ?_ | refine wpList_store_row rfl 156 _ _ rfl w.heap.size a rfl rfl 156 _ ag b F k ?_)
   exact bodyPost_ret (v:= .agg a) (by simp [results,Tryz.results65,asAddr,Act.put,ar]) rfl ⟨by rw [HF.out.1],HF.out.2⟩
def strS (pass salt:ByteArray)(rounds n:Nat):ByteArray:=strOfNums (((catD (fun i=>strB (keyP (Z00 pass)) (Z00 salt) rounds (i+1)) ((n+31)/32)).take n).map fun (x:Nat)=>(x:Int))
set_option maxRecDepth 10000 in
theorem pieceS_any (KB SB RB:Nat)(K:List Nat)(hKl:K.length=64)(hKb:Z03 K)(R1 R2:List Value)(hR1:Z1Q R1)(hR2:Z1Q R2)(salt:ByteArray)(hl:salt.size≤1048576)(rounds i:Nat)(hr1:1≤rounds)(hr2:rounds≤1000)(hi2:i<65536)(w:World)(hq:Z0H w)
  (hr:Row w KB 152 (keyV K R1 R2))(hS:Row w SB 9 [.string salt])(hR:Row w RB 3 [.int .i64 (rounds:Nat)]) :
  Calls prog 64 #[.int .i64 i,.pointer (some ⟨KB,0,none⟩),.pointer (some ⟨SB,0,none⟩),.pointer (some ⟨RB,0,none⟩)] w fun e w'=>e= .returned (.agg (byV (strB K (Z00 salt) rounds i)).toArray)∧Below w.heap.size w w':=by
 obtain⟨k,h⟩:∃ k:Array Value,k=(digV []).toArray:=⟨_,rfl⟩
 have A:∀ w,(zeroValue 156).run prog w= .ok (.agg k) w:=by rw [h];exact (zero_of_info (n:=32) (by kernel_rfl)).1
 have a:Below w.heap.size w (w.alloc (.cells k 156)):=(Below.refl _ _).alloc (Nat.le_refl _) _
 have g:Row (w.alloc (.cells k 156)) w.heap.size 156 (digV []):=by rw [h];exact heap_alloc_new w _
 obtain⟨w0,y⟩:∃ w0,w.alloc (.cells k 156)=w0:=⟨_,rfl⟩
 rw [y] at a g
 have p:=hr.below a hr.lt
 have o:=hS.below a hS.lt
 have q:=hR.below a hR.lt
 have m:Z0H w0:=hq.below a hq.1
 have B:w0.cell? ⟨SB,0,none⟩=some (.string salt):=o.cell 0
 have C:w0.cell? ⟨RB,0,none⟩=some (.int .i64 (rounds:Nat)):=q.cell 0
 have l:Hid (Row w0 KB 152 (keyV K R1 R2)∧Z0H w0∧Below w.heap.size w w0∧Row w0 w.heap.size 156 (digV [])):=⟨p,m,a,g⟩
 clear h hr hS hR hq p o q m a g
 go_enter func64,ntmps64
 go_wp2_with fail
 refine (stretched_any KB K hKl hKb R1 R2 hR1 hR2 salt hl rounds i hr1 hr2 hi2 w0 l.out.2.1 l.out.1).mono ?_
 rintro e t ⟨rfl,j⟩
 obtain⟨b,c⟩:∃ b,b=(byV (strB K (Z00 salt) rounds i)).toArray:=⟨_,rfl⟩
 have f:b.size=32:=by rw [c];simp [byV,Z52]
 have r:b.all (·.oneCell')=true:=by rw [c];simp [byV,Value.oneCell']
 have d:(prog.info? 156).map (·.size)=some b.size:=by rw [f];kernel_rfl
 have s:t.heap[w.heap.size]? = some (.cells (digV []).toArray 156 (0,0)):=l.out.2.2.2.below j l.out.2.2.2.lt
 have u:(digV []).toArray.size=b.size:=by rw [f];rfl
 have x:=run_loadVar_row (P:=prog) (t.setRow w.heap.size b) w.heap.size 156 156 b (0,0) _ (setRow_heap _ _ _ _ _ _ s) underlying156 rfl d
 have z:Hid (b=(byV (strB K (Z00 salt) rounds i)).toArray∧Below w.heap.size w (t.setRow w.heap.size b)):=⟨c,Z0l (l.out.2.2.1.trans (j.mono l.out.2.2.1.size)) (Nat.le_refl _) b⟩
 rw [← c]
 clear c j
 go_wp2_with (refine wpList_store_row rfl 156 _ _ rfl w.heap.size b rfl rfl 156 _ s d u r ?_)
 exact bodyPost_ret (v:= .agg b) (by simp [results,Tryz.results64,asAddr,Act.put,x]) rfl ⟨by rw [z.out.1],z.out.2⟩
set_option maxRecDepth 10000 in
theorem Stretch_in (pass salt:ByteArray)(rounds n:Nat)(hr1:1≤rounds)(hr2:rounds≤1000)(hn:n≤1024)(hk:pass.size<1099511627776)(hi:salt.size≤1048576)(w:World)(hf:Z3p w)(hq:Z0H w) :
  Calls prog 25 #[.string pass,.string salt,.int .i64 rounds,.int .i64 n] w fun e w'=>e= .returned (.tuple #[.string (strS pass salt rounds n),.int .i64 0])∧Below w.heap.size w w':=by
 have h1:¬ (n:Int)<0:=by omega
 have h2:¬ (1024:Int)<n:=by omega
 have Z:¬ (rounds:Int)<1:=by omega
 have h4:¬ (1000:Int)<rounds:=by omega
 obtain⟨H,o⟩:∃ H:Array Value,H=(mixZ++mixZ).toArray:=⟨_,rfl⟩
 have U:∀ w,(zeroValue 152).run prog w= .ok (.agg H) w:=by rw [o];exact (zero_of_info (n:=150) (by kernel_rfl)).1
 have N:H.size=150:=by rw [o];rfl
 clear o
 have V:∀ (fn:Fn) (first cap:Array Value) (w:World),(Instr.makeFunc fn first cap).run prog w= .ok (.func fn first cap) w:=fun _ _ _ _=>rfl
 have d:Below w.heap.size w ((w.alloc (.cells #[.string salt] 9)).alloc (.cells #[.int .i64 (rounds:Nat)] 3)):=((Below.refl _ _).alloc (Nat.le_refl _) _).alloc (by simp) _
 have q:Row ((w.alloc (.cells #[.string salt] 9)).alloc (.cells #[.int .i64 (rounds:Nat)] 3)) w.heap.size 9 [.string salt]:=heap_alloc2_old w _ _
 have l:Row ((w.alloc (.cells #[.string salt] 9)).alloc (.cells #[.int .i64 (rounds:Nat)] 3)) (w.heap.size+1) 3 [.int .i64 (rounds:Nat)]:=heap_alloc2_new w _ _
 obtain⟨w0,Q⟩:∃ w0,(w.alloc (.cells #[.string salt] 9)).alloc (.cells #[.int .i64 (rounds:Nat)] 3)=w0:=⟨_,rfl⟩
 rw [Q] at d q l
 have g:Hid (Z3p w0∧Z0H w0∧Below w.heap.size w w0∧Row w0 w.heap.size 9 [.string salt]∧Row w0 (w.heap.size+1) 3 [.int .i64 (rounds:Nat)]):=⟨hf.below d hf.1,hq.below d hq.1,d,q,l⟩
 have cR:w0.cell? ⟨w.heap.size+1,0,none⟩=some (.int .i64 (rounds:Nat)):=l.cell 0
 clear hf hq d q l
 go_enter func25,ntmps25
 go_wp2_with fail
 refine (keyOf_any pass hk w0 g.out.1 g.out.2.1).mono ?_
 rintro e b ⟨I,J,y,u,rfl,r⟩
 obtain⟨c,f⟩:∃ c,c=(keyV (keyP (Z00 pass)) I J).toArray:=⟨_,rfl⟩
 have p:c.size=150:=by rw [f];simp [keyV,mixV,mixA,mixT,y.1,u.1]
 have m:c.all (·.oneCell')=true:=by
  rw [f]
  refine all_oneCell_toArray fun v hv=> ?_
  rcases List.mem_append.1 hv with h | h
  ·exact Z4z _ _ _ _ y.2 v h
  ·exact Z4z _ _ _ _ u.2 v h
 have k:(prog.info? 152).map (·.size)=some c.size:=by rw [p];kernel_rfl
 have D:H.size=c.size:=by rw [N,p]
 rw [← f]
 have z:Hid (c=(keyV (keyP (Z00 pass)) I J).toArray):=f
 clear f
 go_wp2_with (refine wpList_store_row rfl 152 _ _ rfl b.heap.size c rfl rfl 152 _ (heap_alloc_new b _) k D m ?_)
 rw [World.setRow_alloc_new]
 have A:w0.heap.size≤b.heap.size:=r.size
 have F:=g.out.2.2.2.1.lt
 have C:=g.out.2.2.2.2.lt
 have t:Below b.heap.size b (b.alloc (.cells c 152)):=(Below.refl _ _).alloc (Nat.le_refl _) _
 have P:Row (b.alloc (.cells c 152)) b.heap.size 152 (keyV (keyP (Z00 pass)) I J):=by rw [z.out];exact heap_alloc_new b _
 have G:(b.alloc (.cells c 152)).heap.size=b.heap.size+1:=by simp
 obtain⟨w2,s⟩:∃ w2,b.alloc (.cells c 152)=w2:=⟨_,rfl⟩
 rw [s] at t P G
 rw [s]
 have a:Below w0.heap.size w0 w2:=r.trans (t.mono A)
 have T:Row w2 w.heap.size 9 [.string salt]:=g.out.2.2.2.1.below a F
 have S:Row w2 (w.heap.size+1) 3 [.int .i64 (rounds:Nat)]:=g.out.2.2.2.2.below a C
 have B:Z0H w2:=g.out.2.1.below a g.out.2.1.1
 have L:Z03 (keyP (Z00 pass)):=keyP_bytes (Z04 pass)
 have R:=Z7M (Z00 pass)
 have X:Hid (strS pass salt rounds n=strOfNums (((catD (fun i=>strB (keyP (Z00 pass)) (Z00 salt) rounds (i+1)) ((n+31)/32)).take n).map fun (x:Nat)=>(x:Int))):=rfl
 generalize keyP (Z00 pass)=K at *
 have M:=gatherS n (by omega) (.pointer (some ⟨b.heap.size,0,none⟩)) (.pointer (some ⟨w.heap.size,0,none⟩)) (.pointer (some ⟨w.heap.size+1,0,none⟩)) b.heap.size (fun i=>strB K (Z00 salt) rounds (i+1)) (fun i=>Z52 _ _ _ _)
  (fun _ W=>Row W b.heap.size 152 (keyV K I J)∧Row W w.heap.size 9 [.string salt]∧Row W (w.heap.size+1) 3 [.int .i64 (rounds:Nat)]∧Z0H W) w2 (by omega) ⟨P,T,S,B⟩
  (fun j W1 W2 hI hB=>⟨hI.1.below hB (by omega),hI.2.1.below hB (by omega),hI.2.2.1.below hB (by omega),hI.2.2.2.below hB (by have:=g.out.2.1.1;omega)⟩)
  (fun j W1 hj hI A=>by
   have Y:=pieceS_any b.heap.size w.heap.size (w.heap.size+1) K R L I J y u salt hi rounds (j+1) hr1 hr2 (by omega) W1 hI.2.2.2 hI.1 hI.2.1 hI.2.2.1
   rw [show ((j:Int)+1)=((j+1:Nat):Int) by omega]
   refine Y.mono fun e W2 ⟨he,hB⟩=>⟨he,⟨hI.1.below hB hI.1.lt,hI.2.1.below hB hI.2.1.lt,hI.2.2.1.below hB hI.2.2.1.lt,hI.2.2.2.below hB hI.2.2.2.1⟩,Only.of_below hB⟩)
 rw [← X.out] at M
 clear m k D p z s r t P T S B
 go_wp2_with fail
 refine M.mono ?_
 rintro e w3 ⟨rfl,_,E⟩
 have O:Below w.heap.size w w3:=g.out.2.2.1.trans ((a.mono g.out.2.2.1.size).trans ((E.below (by omega)).mono (by omega)))
 clear E a M
 go_wp2
 go_ret2
 exact⟨rfl,O⟩
set_option maxRecDepth 10000 in
theorem gatherE (n:Nat)(hn:n≤8160)(c0 c1 c2:Value)(LB:Nat)(D:Nat→List Nat)(hD:∀ i,(D i).length=32)(Inv:Nat→World→Prop)(w:World)(hLB:LB<w.heap.size)(h0:Inv 0 w)
  (hst:∀ i w1 w2,Inv i w1→Below w.heap.size w1 w2→Inv i w2)
  (hcall:∀ i w1,i<(n+31)/32→Inv i w1→w.heap.size≤w1.heap.size→Calls prog 253 #[.int .i64 ((i:Int)+1),c0,c1,c2] w1 fun e w2=>e= .returned (.agg (byV (D i)).toArray)∧Inv (i+1) w2∧Only LB w1 w2) :
  Calls prog 63 #[.int .i64 n,.func (.func 253) #[] #[c0,c1,c2]] w fun e w'=>e= .returned (.string (strOfNums (((catD D ((n+31)/32)).take n).map fun (x:Nat)=>(x:Int))))∧Inv ((n+31)/32) w'∧Only LB w w':=by
 obtain⟨i0,V,Z,a4,a3⟩:=info_parts info_b8
 obtain⟨m,U⟩:∃ m,m=(n+31)/32:=⟨_,rfl⟩
 have a8:m≤255:=by omega
 have ac:n≤32*m:=by omega
 have a7:32*m≤n+31:=by omega
 have q1:IntKind.i64.wrap ((n:Int)+32)=n+32:=by rw [IntKind.wrap_i64];omega
 have q2:IntKind.i64.wrap ((n:Int)+32-1)=n+31:=by rw [IntKind.wrap_i64];omega
 have q3:((n:Int)+31)/32=m:=by omega
 rw [← U] at hcall
 rw [← U]
 obtain⟨M,J⟩:∃ M:Array Value,M=(digV []).toArray:=⟨_,rfl⟩
 have a6:∀ w,(zeroValue 156).run prog w= .ok (.agg M) w:=by rw [J];exact (zero_of_info (n:=32) (by kernel_rfl)).1
 have K:M.size=32:=by rw [J];rfl
 have HC:Hid (∀ i w1,i<m→Inv i w1→w.heap.size≤w1.heap.size→Calls prog 253 #[.int .i64 ((i:Int)+1),c0,c1,c2] w1 fun e w2=>e= .returned (.agg (byV (D i)).toArray)∧Inv (i+1) w2∧Only LB w1 w2):=hcall
 have a2:Hid (∀ i w1 w2,Inv i w1→Below w.heap.size w1 w2→Inv i w2):=hst
 have HD:Hid (∀ i,(D i).length=32):=hD
 have HM:Hid (m=(n+31)/32):=U
 clear hcall hst J U hD
 go_enter func63,ntmps63
 go_wp2_with fail
 rw [q3]
 go_loopw [5,12] (fun v i wr=> ∃ j:Nat,j≤m∧i= .int .i64 j∧wr.ownsRow w.heap.size 5 1 v (32*j) (byV (catD D j))∧Inv j wr∧Only LB w wr) (fun _ i _=>m-(intOf i).toNat)
 case atStart=>exact⟨0,Nat.zero_le _,rfl,World.ownsRow_nil _ _ _ _,h0,Only.refl _ _⟩
 case round =>
  clear h0
  obtain⟨j,hj,rfl,a,c,O⟩:=hrel
  by_cases a1:j<m
  ·have j1:(j:Int)<m:=by omega
   have H:Hid (wr.ownsRow w.heap.size 5 1 u5 (32*j) (byV (catD D j))∧Inv j wr∧Only LB w wr):=⟨a,c,O⟩
   clear a c O
   go_wp2_with fail
   refine (HC.out j wr a1 H.out.2.1 H.out.2.2.size).mono ?_
   rintro e d ⟨rfl,t,A⟩
   obtain⟨o,u⟩:∃ o,o=(byV (D j)).toArray:=⟨_,rfl⟩
   have G:o.size=32:=by rw [u];simp [byV,HD.out]
   have T:o.all (·.oneCell')=true:=by rw [u];simp [byV,Value.oneCell']
   have L:(prog.info? 156).map (·.size)=some o.size:=by rw [G];kernel_rfl
   have Q:M.size=o.size:=by rw [K,G]
   rw [← u]
   have y:d.ownsRow w.heap.size 5 1 u5 (32*j) (byV (catD D j)):=owns_only H.out.1 A (fun k hk=>by have:=(H.out.1.lt k hk).1;omega)
   have S:Hid (o=(byV (D j)).toArray):=u
   clear u
   have C:(d.alloc (.cells M 156)).setRow d.heap.size o=d.alloc (.cells o 156):=World.setRow_alloc_new _ _ _ _
   have l:Row (d.alloc (.cells o 156)) d.heap.size 156 (byV (D j)):=by rw [S.out];exact heap_alloc_new d _
   have f:=y.alloc (.cells o 156)
   have E:w.heap.size≤d.heap.size:=Nat.le_trans H.out.2.2.size A.size
   have z:Below w.heap.size d (d.alloc (.cells o 156)):=(Below.refl _ _).alloc E _
   obtain⟨N,R⟩:∃ N,N=d.alloc (.cells o 156):=⟨_,rfl⟩
   rw [← R] at C l f z
   clear R
   have F:(byV (D j)).length=32:=by simp [byV,HD.out]
   have B:Hid (N.ownsRow w.heap.size 5 1 u5 (32*j) (byV (catD D j))∧Row N d.heap.size 156 (byV (D j))∧Below w.heap.size d N∧Inv (j+1) d∧Only LB w d∧w.heap.size≤N.heap.size):=⟨f,l,z,t,H.out.2.2.trans A,Nat.le_trans E z.size⟩
   clear y f l z t A S H
   go_wp2_with (first | (at_builtin;refine wpList_append_own _ rfl _ _ 90 rfl w.heap.size 5 i0 (.int .u8 0) 1 1 underlying90 V Z a4 a3 rfl (by decide) u5 (32*j) _ rfl B.out.1 ⟨d.heap.size,0,none⟩ 32 32 (byV (D j)) rfl ?c1 (World.news_of_block B.out.2.1) (byV_one _) ?c3 ?c4 B.out.2.2.2.2.2 ?_) | (refine wpList_store_row rfl 156 _ _ rfl d.heap.size o rfl rfl 156 _ (heap_alloc_new d _) L Q T ?_;rw [C]))
   case c1=>rw [F]
   case c3=>unfold maxLen;omega
   case c4=>omega
   intro v' w5 r p _
   have I:Below w.heap.size d w5:=B.out.2.2.1.grown p B.out.2.2.2.2.2 (fun k hk=>(B.out.1.lt k hk).1)
   have s:Hid (w5.ownsRow w.heap.size 5 1 v' (32*(j+1)) (byV (catD D (j+1)))∧Inv (j+1) w5∧Only LB w w5):=⟨by
    rw [catD,Z05];exact r,a2.out _ _ _ B.out.2.2.2.1 I,Z63 B.out.2.2.2.2.1 I⟩
   clear r p I B F
   go_wp2
   go_roundw
   case rel=>exact⟨j+1,by omega,by go_num,s.out.1,s.out.2.1,s.out.2.2⟩
   case measure=>simp [intOf];omega
  ·obtain rfl:j=m:=by omega
   by_cases a0:n=0
   ·subst a0
    obtain rfl:j=0:=by omega
    have hv:u5= .slice none 0 0∨∃ g b,u5= .slice (some ⟨g,0,none⟩) 0 b:=by
     rcases a.2 with ⟨h,_⟩ | ⟨g,b,cur,h,_⟩
     ·exact .inl h
     ·exact .inr ⟨g,b,h⟩
    have s:Hid (Inv 0 wr∧Only LB w wr∧strOfNums (((catD D 0).take 0).map fun (x:Nat)=>(x:Int))=ByteArray.empty):=⟨c,O,rfl⟩
    clear a c O
    rcases hv with rfl | ⟨g,b,rfl⟩
    ·have q:=fun W=>run_convert_bytes_nil (P:=prog) W 90 5 underlying90 underlying5 0 0 9 underlying9
     go_wp2
     first
      | (rw [q];go_wp2)
      | skip
     go_ret
     exact⟨rfl,s.out.1,s.out.2.1⟩
    ·have q:=fun W=>run_convert_bytes_arg (P:=prog) W 90 5 underlying90 underlying5 g 0 0 b [] rfl (fun i V=>absurd V (Nat.not_lt_zero i)) 9 underlying9
     have ab:(0:Int)≤b:=by omega
     go_wp2
     first
      | (rw [q];go_wp2)
      | skip
     go_ret
     exact⟨rfl,s.out.1,s.out.2.1⟩
   ·obtain⟨g,b,rfl,_,_⟩:=a.form (by omega)
    have a9:32*j≤b:=by
     rcases a.2 with ⟨h,_⟩ | ⟨g',cap',cur,h,_,_,hc,_⟩
     ·simp at h
     ·simp only [Value.slice.injEq,Option.some.injEq,Addr.mk.injEq,and_true,true_and] at h
      omega
    have aa:(n:Int)≤b:=by omega
    have a5:(catD D j).length=32*j:=Z34 D HD.out j
    have q:=run_convert_bytes_arg (P:=prog) wr 90 5 underlying90 underlying5 g 0 n b (((catD D j).take n).map fun (x:Nat)=>(x:Int)) (by simp;omega) (fun i V=>by
     rw [Nat.zero_add,a.cellAt i (by omega),Z0s _ _ (by omega),Z0b _ _ (by omega)]
     have h1:i<((catD D j).take n).length:=by simp;omega
     rw [List.getD_eq_getElem?_getD,List.getElem?_map,List.getElem?_eq_getElem h1,List.getElem_take];rfl) 9 underlying9
    have s:Hid (Inv j wr∧Only LB w wr):=⟨c,O⟩
    clear a c O
    obtain⟨X,Y⟩:∃ X,X=strOfNums (((catD D j).take n).map fun (x:Nat)=>(x:Int)):=⟨_,rfl⟩
    rw [← Y] at q
    have HX:Hid (X=strOfNums (((catD D j).take n).map fun (x:Nat)=>(x:Int))):=Y
    clear Y
    go_wp2
    first
     | (rw [q];go_wp2)
     | skip
    go_ret
    exact⟨by first | (rw [HX.out];rfl) | (rw [HX.out,List.map_take];rfl),s.out.1,s.out.2⟩
end Sm
end Go.Proofs.YtijpgmkdnemmbaaGreatDoor
