/- Part 39. -/
import Derived.Test.YtijpgmkdnemmbaaGreatDoorMg38
import Derived.BigFrame
set_option maxRecDepth 20000
set_option maxHeartbeats 8000000
open Go.RowKit Go.Proofs.Tryz
namespace Go.Proofs.YtijpgmkdnemmbaaGreatDoor
namespace Sm
def three (a b c:ByteArray):Nat→ByteArray
 | 0=>a
 | 1=>b
 | _=>c
theorem three_size (a b c:ByteArray)(ha:a.size≤1048576)(hb:b.size≤1048576)(hc:c.size=1):∀ j,j≤3→(catS (three a b c) j).length<549755813888:=by
 intro j d
 have h:j=0∨j=1∨j=2∨j=3:=by omega
 rcases h with rfl | rfl | rfl | rfl
 all_goals simp [catS,three,Z01]
 all_goals omega
set_option maxRecDepth 10000 in
theorem piece_any (KB LB IB:Nat)(K:List Nat)(hKl:K.length=64)(hKb:Z03 K)(R1 R2:List Value)(hR1:Z1Q R1)(hR2:Z1Q R2)(last info:ByteArray)(hl:last.size≤1048576)(hi:info.size≤1048576)(i:Nat)(hi2:i<256)(w:World)(hq:Z0H w)
  (hr:Row w KB 152 (keyV K R1 R2))(hL:Row w LB 9 [.string last])(hI:Row w IB 9 [.string info]) :
  Calls prog 253 #[.int .i64 i,.pointer (some ⟨KB,0,none⟩),.pointer (some ⟨LB,0,none⟩),.pointer (some ⟨IB,0,none⟩)] w fun e w'=>e= .returned (.agg (byV (macL K (Z00 last++Z00 info ++ [i]))).toArray)∧Row w' LB 9 [.string (strOfNums ((macL K (Z00 last++Z00 info ++ [i])).map fun (x:Nat)=>(x:Int)))]∧Only LB w w':=by
 obtain⟨s,u⟩:∃ s:Array Value,s=(digV []).toArray:=⟨_,rfl⟩
 have ae:∀ w,(zeroValue 156).run prog w= .ok (.agg s) w:=by rw [u];exact (zero_of_info (n:=32) (by kernel_rfl)).1
 have R:s.size=32:=by rw [u];rfl
 have c:Below w.heap.size w (w.alloc (.cells s 156)):=(Below.refl _ _).alloc (Nat.le_refl _) _
 have J:Row (w.alloc (.cells s 156)) w.heap.size 156 (digV []):=by rw [u];exact heap_alloc_new w _
 obtain⟨w0,a3⟩:∃ w0,w.alloc (.cells s 156)=w0:=⟨_,rfl⟩
 have D:w0.heap.size=w.heap.size+1:=by rw [← a3];simp
 rw [a3] at c J
 have U:=hr.below c hr.lt
 have H:=hL.below c hL.lt
 have z:=hI.below c hI.lt
 have T:Z0H w0:=hq.below c hq.1
 have cL:w0.cell? ⟨LB,0,none⟩=some (.string last):=H.cell 0
 have cI:w0.cell? ⟨IB,0,none⟩=some (.string info):=z.cell 0
 have zi:IntKind.u8.wrap (i:Int)=i:=by rw [IntKind.wrap_u8];omega
 have ab:=z.lt
 have aa:∀ o,(w0.alloc o).cell? ⟨IB,0,none⟩=some (.string info):=fun o=>(World.cell?_of_block (Below.heap_alloc w0 o IB (by omega))).trans cI
 have I:=run_convert_bytes_arg (P:=prog) (w0.alloc (.cells #[.int .u8 (i:Int)] 5)) 90 5 underlying90 underlying5 w0.heap.size 0 1 1 [(i:Int)] rfl (fun j hj=>by
  obtain rfl:j=0:=by omega
  exact (cell_of_row _ _ _ _ _ _ (heap_alloc_new w0 _))) 9 underlying9
 obtain⟨g,L⟩:∃ g,g=strOfNums [(i:Int)]:=⟨_,rfl⟩
 rw [← L,D] at I
 have Z:Z00 g= [i]:=by rw [L];exact Z08 [i] (fun x hx=>by rw [List.mem_singleton] at hx;omega)
 have d:Hid (Row w0 KB 152 (keyV K R1 R2)∧Row w0 LB 9 [.string last]∧Row w0 IB 9 [.string info]∧Z0H w0∧Below w.heap.size w w0∧Row w0 w.heap.size 156 (digV [])∧Z00 g= [i]∧LB<w.heap.size):=⟨U,H,z,T,c,J,Z,hL.lt⟩
 clear u hr hL hI hq U H z T c J Z L
 go_enter func253,ntmps253
 go_wp2_with fail
 first
  | (rw [I];go_wp2_with fail)
  | skip
 have N:Strs ((w0.alloc (.cells #[.int .u8 (i:Int)] 5)).alloc (.cells #[.string last,.string info,.string g] 9)) (.slice (some ⟨w.heap.size+1+1,0,none⟩) 3 3) 3 (three last info g):=by
  refine⟨_,_,rfl,by unfold maxLen;decide,.inr ⟨w.heap.size+1+1,0,rfl,by simp;omega,fun j hj=> ?_⟩⟩
  have h2:=heap_alloc2_new w0 (.cells #[.int .u8 (i:Int)] 5) (.cells #[.string last,.string info,.string g] 9)
  rw [D] at h2
  rw [cell_of_row _ _ _ _ _ _ h2,Nat.zero_add]
  match j,hj with
  | 0,_=>rfl
  | 1,_=>rfl
  | 2,_=>rfl
 have F:catS (three last info g) 3=Z00 last++Z00 info ++ [i]:=by
  rw [← d.out.2.2.2.2.2.2.1];rfl
 have k:Below w0.heap.size w0 ((w0.alloc (.cells #[.int .u8 (i:Int)] 5)).alloc (.cells #[.string last,.string info,.string g] 9)):=((Below.refl _ _).alloc (Nat.le_refl _) _).alloc (by simp) _
 obtain⟨w2,Q⟩:∃ w2,(w0.alloc (.cells #[.int .u8 (i:Int)] 5)).alloc (.cells #[.string last,.string info,.string g] 9)=w2:=⟨_,rfl⟩
 rw [Q] at N k
 rw [Q]
 have a7:g.size=1:=by rw [← Z01,d.out.2.2.2.2.2.2.1];rfl
 have G:=mac_any KB K hKl hKb R1 R2 hR1 hR2 _ 3 (three last info g) w2 N (three_size last info g hl hi a7) (d.out.2.2.2.1.below k d.out.2.2.2.1.1) (d.out.1.below k d.out.1.lt)
 rw [F] at G
 have a2:Hid (Calls prog 106 #[.pointer (some ⟨KB,0,none⟩),.slice (some ⟨w.heap.size+1+1,0,none⟩) 3 3] w2 fun e w'=>e= .returned (.agg (byV (macL K (Z00 last++Z00 info ++ [i]))).toArray)∧Below w2.heap.size w2 w'):=G
 clear G N Q F
 refine a2.out.mono ?_
 rintro e h ⟨rfl,a0⟩
 have f:=k.trans (a0.mono k.size)
 clear a2 k a0 I aa
 obtain⟨M,hM⟩:∃ M,M=macL K (Z00 last++Z00 info ++ [i]):=⟨_,rfl⟩
 have t:M.length=32:=by rw [hM];exact Z1w _ _
 have a1:Hid (M=macL K (Z00 last++Z00 info ++ [i])):=hM
 rw [← hM]
 clear hM
 obtain⟨a,r⟩:∃ a,a=(byV M).toArray:=⟨_,rfl⟩
 have p:a.size=32:=by rw [r];simp [byV,t]
 have E:a.all (·.oneCell')=true:=by rw [r];simp [byV,Value.oneCell']
 have b:(prog.info? 156).map (·.size)=some a.size:=by rw [p];kernel_rfl
 have V:s.size=a.size:=by rw [R,p]
 rw [← r]
 have O:Hid (a=(byV M).toArray):=r
 clear r
 have B:(h.alloc (.cells s 156)).setRow h.heap.size a=h.alloc (.cells a 156):=World.setRow_alloc_new _ _ _ _
 have k4:Row (h.alloc (.cells a 156)) h.heap.size 156 (byV M):=by rw [O.out];exact heap_alloc_new h _
 have l:=f.alloc f.size (.cells a 156)
 obtain⟨w4,Y⟩:∃ w4,w4=h.alloc (.cells a 156):=⟨_,rfl⟩
 rw [← Y] at B k4 l
 clear Y
 have W:=run_convert_bytes_arg (P:=prog) w4 90 5 underlying90 underlying5 h.heap.size 0 32 32 (M.map fun (x:Nat)=>(x:Int)) (by simp [t]) (fun i hi=>by
  rw [Nat.zero_add,k4.cell,Z0s _ _ (by rw [t];exact hi)]
  simp [List.getD,t,hi]) 9 underlying9
 obtain⟨X,hX⟩:∃ X,X=strOfNums (M.map fun (x:Nat)=>(x:Int)):=⟨_,rfl⟩
 rw [← hX] at W
 have HX:Hid (X=strOfNums (M.map fun (x:Nat)=>(x:Int))):=hX
 clear hX
 have y:=d.out.2.1.below l d.out.2.1.lt
 have ag:w4.cell? ⟨LB,0,none⟩=some (.string last):=y.cell 0
 have af:w4.frozen? ⟨LB,0,none⟩=false:=y.frozen 0
 have ad:w0.heap.size≤h.heap.size:=f.size
 have S:Row (w4.setCell ⟨LB,0,none⟩ (.string X)) LB 9 [.string X]:=Row.set (A:= []) (C:= []) (q:= .string last) y (.string X) rfl
 have m:Only LB w4 (w4.setCell ⟨LB,0,none⟩ (.string X)):=(Only.refl _ _).setCell _ _
 obtain⟨w5,a5⟩:∃ w5,w4.setCell ⟨LB,0,none⟩ (.string X)=w5:=⟨_,rfl⟩
 rw [a5] at S m
 have k5:w5.heap[h.heap.size]? = some (.cells a 156 (0,0)):=by rw [O.out];exact k4.only m (by have:=d.out.2.2.2.2.2.2.2;omega)
 have a4:w5.heap[w.heap.size]? = some (.cells (digV []).toArray 156 (0,0)):=(d.out.2.2.2.2.2.1.below l d.out.2.2.2.2.2.1.lt).only m (by have:=d.out.2.2.2.2.2.2.2;omega)
 have a8:(digV []).toArray.size=a.size:=by rw [p];rfl
 have a9:=run_loadVar_row (P:=prog) (w5.setRow w.heap.size a) w.heap.size 156 156 a (0,0) _ (setRow_heap _ _ _ _ _ _ a4) underlying156 rfl b
 have HF:Hid (Row (w5.setRow w.heap.size a) LB 9 [.string X]∧Only LB w (w5.setRow w.heap.size a)):=by
  have ac:=d.out.2.2.2.2.2.2.2
  have a6:Below w.heap.size w w4:=d.out.2.2.2.2.1.trans (l.mono d.out.2.2.2.2.1.size)
  refine⟨(setRow_other _ _ _ _ (by omega)).trans S,?_⟩
  exact Z63 ((Only.of_below a6).trans m) (Z0l (Below.refl _ _) (Nat.le_refl _) a)
 clear y S m k4 l f
 go_wp2_with (first | refine wpList_load_row rfl 156 _ rfl h.heap.size rfl 156 _ (0,0) _ k5 underlying156 rfl b ?_ | (refine wpList_store_row rfl 156 _ _ rfl h.heap.size a rfl rfl 156 _ (heap_alloc_new h _) b V E ?_;rw [B]) | refine wpList_store_row rfl 156 _ _ rfl w.heap.size a rfl rfl 156 _ a4 b a8 E ?_)
 exact bodyPost_ret (v:= .agg a) (by simp [results,Tryz.results253,asAddr,Act.put,a9]) rfl ⟨by rw [O.out,a1.out],by rw [← a1.out,← HX.out];exact HF.out.1,HF.out.2⟩
def expT (K info:List Nat):Nat→List Nat
 | 0=> []
 | i+1=>macL K (expT K info i++info ++ [(i+1)%256])
def expL (K info:List Nat)(n:Nat):List Nat:=(catD (fun i=>expT K info (i+1)) ((n+31)/32)).take n
def expS (key info:ByteArray)(n:Nat):ByteArray:=strOfNums ((expL (keyP (Z00 key)) (Z00 info) n).map fun (x:Nat)=>(x:Int))
def tS (K info:List Nat)(i:Nat):ByteArray:=strOfNums ((expT K info i).map fun (x:Nat)=>(x:Int))
theorem expT_bytes (K info:List Nat)(i:Nat):Z03 (expT K info i):=by
 cases i with
 | zero=>intro x a;simp [expT] at a
 | succ i=>exact Z1O _ _
theorem Z53 (K info:List Nat)(i:Nat):(expT K info (i+1)).length=32:=Z1w _ _
theorem tS_nums (K info:List Nat)(i:Nat):Z00 (tS K info i)=expT K info i:=Z08 _ (expT_bytes K info i)
theorem tS_size (K info:List Nat)(i:Nat):(tS K info i).size≤32:=by
 rw [← Z01,tS_nums]
 cases i with
 | zero=>exact Nat.zero_le _
 | succ i=>rw [Z53];exact Nat.le_refl _
set_option maxRecDepth 10000 in
theorem Expand_in (key info:ByteArray)(n:Nat)(hn:n≤8160)(hk:key.size<1099511627776)(hi:info.size≤1048576)(w:World)(hf:Z3p w)(hq:Z0H w) :
  Calls prog 245 #[.string key,.string info,.int .i64 n] w fun e w'=>e= .returned (.tuple #[.string (expS key info n),.int .i64 0])∧Below w.heap.size w w':=by
 have Z:¬ (n:Int)<0:=by omega
 have Y:¬ (8160:Int)<n:=by omega
 obtain⟨F,m⟩:∃ F:Array Value,F=(mixZ++mixZ).toArray:=⟨_,rfl⟩
 have U:∀ w,(zeroValue 152).run prog w= .ok (.agg F) w:=by rw [m];exact (zero_of_info (n:=150) (by kernel_rfl)).1
 have M:F.size=150:=by rw [m];rfl
 clear m
 have d:Below w.heap.size w (w.alloc (.cells #[.string info] 9)):=(Below.refl _ _).alloc (Nat.le_refl _) _
 have t:Row (w.alloc (.cells #[.string info] 9)) w.heap.size 9 [.string info]:=heap_alloc_new w _
 have V:∀ (fn:Fn) (first cap:Array Value) (w:World),(Instr.makeFunc fn first cap).run prog w= .ok (.func fn first cap) w:=fun _ _ _ _=>rfl
 obtain⟨w0,Q⟩:∃ w0,w.alloc (.cells #[.string info] 9)=w0:=⟨_,rfl⟩
 rw [Q] at d t
 have k:Hid (Z3p w0∧Z0H w0∧Below w.heap.size w w0∧Row w0 w.heap.size 9 [.string info]):=⟨hf.below d hf.1,hq.below d hq.1,d,t⟩
 clear hf hq d t
 go_enter func245,ntmps245
 go_wp2_with fail
 refine (keyOf_any key hk w0 k.out.1 k.out.2.1).mono ?_
 rintro e a ⟨G,H,u,s,rfl,p⟩
 obtain⟨b,f⟩:∃ b,b=(keyV (keyP (Z00 key)) G H).toArray:=⟨_,rfl⟩
 have o:b.size=150:=by rw [f];simp [keyV,mixV,mixA,mixT,u.1,s.1]
 have l:b.all (·.oneCell')=true:=by
  rw [f]
  refine all_oneCell_toArray fun v hv=> ?_
  rcases List.mem_append.1 hv with h | h
  ·exact Z4z _ _ _ _ u.2 v h
  ·exact Z4z _ _ _ _ s.2 v h
 have g:(prog.info? 152).map (·.size)=some b.size:=by rw [o];kernel_rfl
 have B:F.size=b.size:=by rw [M,o]
 rw [← f]
 have y:Hid (b=(keyV (keyP (Z00 key)) G H).toArray):=f
 clear f
 go_wp2_with (refine wpList_store_row rfl 152 _ _ rfl a.heap.size b rfl rfl 152 _ (heap_alloc_new a _) g B l ?_)
 rw [World.setRow_alloc_new]
 have z:w0.heap.size≤a.heap.size:=p.size
 have D:=k.out.2.2.2.lt
 have r:Below a.heap.size a ((a.alloc (.cells b 152)).alloc (.cells #[.string ⟨#[]⟩] 9)):=((Below.refl _ _).alloc (Nat.le_refl _) _).alloc (by simp) _
 have P:Row ((a.alloc (.cells b 152)).alloc (.cells #[.string ⟨#[]⟩] 9)) a.heap.size 152 (keyV (keyP (Z00 key)) G H):=by
  have:=heap_alloc2_old a (.cells b 152) (.cells #[.string ⟨#[]⟩] 9)
  rw [Row,this,y.out]
 have I:Row ((a.alloc (.cells b 152)).alloc (.cells #[.string ⟨#[]⟩] 9)) (a.heap.size+1) 9 [.string ⟨#[]⟩]:=heap_alloc2_new a _ _
 have E:((a.alloc (.cells b 152)).alloc (.cells #[.string ⟨#[]⟩] 9)).heap.size=a.heap.size+1+1:=by simp
 obtain⟨w2,q⟩:∃ w2,(a.alloc (.cells b 152)).alloc (.cells #[.string ⟨#[]⟩] 9)=w2:=⟨_,rfl⟩
 rw [q] at r P I E
 rw [q]
 have c:Below w0.heap.size w0 w2:=p.trans (r.mono z)
 have S:Row w2 w.heap.size 9 [.string info]:=k.out.2.2.2.below c D
 have A:Z0H w2:=k.out.2.1.below c k.out.2.1.1
 have J:Z03 (keyP (Z00 key)):=keyP_bytes (Z04 key)
 have R:=Z7M (Z00 key)
 have X:Hid (expS key info n=strOfNums (((catD (fun i=>expT (keyP (Z00 key)) (Z00 info) (i+1)) ((n+31)/32)).take n).map fun (x:Nat)=>(x:Int))):=rfl
 generalize keyP (Z00 key)=K at *
 have L:=gatherE n hn (.pointer (some ⟨a.heap.size,0,none⟩)) (.pointer (some ⟨a.heap.size+1,0,none⟩)) (.pointer (some ⟨w.heap.size,0,none⟩)) (a.heap.size+1) (fun i=>expT K (Z00 info) (i+1)) (fun i=>Z53 _ _ _)
  (fun j W=>Row W a.heap.size 152 (keyV K G H)∧Row W (a.heap.size+1) 9 [.string (tS K (Z00 info) j)]∧Row W w.heap.size 9 [.string info]∧Z0H W) w2 (by omega) ⟨P,I,S,A⟩
  (fun j W1 W2 hI hB=>⟨hI.1.below hB (by omega),hI.2.1.below hB (by omega),hI.2.2.1.below hB (by omega),hI.2.2.2.below hB (by have:=k.out.2.1.1;omega)⟩)
  (fun j W1 hj hI z=>by
   have N:=piece_any a.heap.size (a.heap.size+1) w.heap.size K R J G H u s (tS K (Z00 info) j) info (Nat.le_trans (tS_size _ _ _) (by decide)) hi (j+1) (by omega) W1 hI.2.2.2 hI.1 hI.2.1 hI.2.2.1
   rw [tS_nums] at N
   have T:macL K (expT K (Z00 info) j++Z00 info ++ [j+1])=expT K (Z00 info) (j+1):=by
    rw [expT,Nat.mod_eq_of_lt (by omega)]
   rw [T] at N
   rw [show ((j:Int)+1)=((j+1:Nat):Int) by omega]
   refine N.mono fun e W2 ⟨he,hL,ho⟩=>⟨he,⟨hI.1.only ho (by omega),hL,hI.2.2.1.only ho (by omega),hI.2.2.2.only ho (by have:=k.out.2.1.1;omega)⟩,ho⟩)
 rw [← X.out] at L
 clear l g B o y q p r P I S A
 refine L.mono ?_
 rintro e w3 ⟨rfl,_,C⟩
 have O:Below w.heap.size w w3:=k.out.2.2.1.trans ((c.mono k.out.2.2.1.size).trans ((C.below (by omega)).mono (by omega)))
 clear C c L
 go_wp2
 go_ret2
 exact⟨rfl,O⟩
theorem Z0P (n:Int)(h0:0≤n)(h1:n<2 ^ 63):IntKind.i64.wrap n=n:=by rw [IntKind.wrap_i64];omega
theorem Z0q (a b:Nat)(ha:a<9223372036854775808)(hb:b<9223372036854775808):bits .and .i64 (a:Int) (b:Int)=((a &&& b:Nat):Int):=(bits_nat .i64 63 (by decide) Z0P a b ha hb).1
theorem Z4t (a b:Nat)(ha:a<9223372036854775808)(hb:b<9223372036854775808):bits .or .i64 (a:Int) (b:Int)=((a ||| b:Nat):Int):=(bits_nat .i64 63 (by decide) Z0P a b ha hb).2
theorem Z0t (a b:Nat)(ha:a<9223372036854775808)(hb:b<9223372036854775808):bits .xor .i64 (a:Int) (b:Int)=((a ^^^ b:Nat):Int):=by
 have c:a ^^^ b<2 ^ 63:=Nat.xor_lt_two_pow ha hb
 show IntKind.i64.wrap ((BitVec.ofInt 64 (a:Int) ^^^ BitVec.ofInt 64 (b:Int)).toNat:Int)=_
 rw [BitVec.toNat_xor,ofInt_u64 a (by omega),ofInt_u64 b (by omega)]
 exact Z0P _ (Int.natCast_nonneg _) (by exact_mod_cast c)
theorem Z7V (n:Nat)(h:n<9223372036854775808)(w:World) :
  Calls prog 135 #[.int .i64 n] w fun e w'=>e= .returned (.int .i64 ((n%4294967296:Nat):Int))∧w'=w:=by
 have a:bits .and .i64 (n:Int) 4294967295=((n%4294967296:Nat):Int):=by
  rw [show (4294967295:Int)=((4294967295:Nat):Int) from rfl,Z0q n _ h (by decide),nat_mask32]
 go_enter func135,ntmps135
 go_wp2
 go_ret
 exact⟨congrArg (fun z=>Ending.returned (.int .i64 z)) (by first | rfl | exact a),rfl⟩
theorem low_z (z:Int)(n:Nat)(hz:z=(n:Int))(h:n<9223372036854775808)(w:World) :
  Calls prog 135 #[.int .i64 z] w fun e w'=>e= .returned (.int .i64 ((n%4294967296:Nat):Int))∧w'=w:=by
 subst hz
 exact Z7V n h w
theorem turn_lt (x n:Nat)(hx:x<4294967296)(h1:2≤n):x*2 ^ (32-n)<4611686018427387904:=by
 have b:2 ^ (32-n)≤2 ^ 30:=Nat.pow_le_pow_right (by decide) (by omega)
 have a:=Nat.mul_le_mul_left x b
 have c:(2:Nat) ^ 30=1073741824:=by decide
 rw [c] at a
 omega
theorem turn_bits (x n:Nat)(hx:x<4294967296)(h1:2≤n):bits .or .i64 ((x:Int)/2 ^ n) (IntKind.i64.wrap ((x:Int)*2 ^ (32-n)))=((x/2 ^ n ||| x*2 ^ (32-n):Nat):Int):=by
 have c:=turn_lt x n hx h1
 have b:(x:Int)/2 ^ n=((x/2 ^ n:Nat):Int):=by rw [Int.natCast_ediv,Int.natCast_pow];rfl
 have a:(x:Int)*2 ^ (32-n)=((x*2 ^ (32-n):Nat):Int):=by rw [Int.natCast_mul,Int.natCast_pow];rfl
 have d:x/2 ^ n≤x:=Nat.div_le_self _ _
 rw [b,a,Z0P _ (Int.natCast_nonneg _) (by omega),Z4t _ _ (by omega) (by omega)]
theorem rright_any (x n:Nat)(hx:x<4294967296)(h1:2≤n)(h2:n≤31)(w:World) :
  Calls prog 134 #[.int .i64 x,.int .i64 n] w fun e w'=>e= .returned (.int .i64 (rotr x n:Nat))∧w'=w.drew:=by
 have a:x/2 ^ n ||| x*2 ^ (32-n)<9223372036854775808:=by
  have b:=turn_lt x n hx h1
  have h:x/2 ^ n≤x:=Nat.div_le_self _ _
  exact Nat.or_lt_two_pow (n:=63) (by omega) (by omega)
 have d:IntKind.i64.wrap (32-(n:Int))=((32-n:Nat):Int):=by rw [IntKind.wrap_i64];omega
 have i:¬ (n:Int)<0:=by omega
 have g:¬ ((32-n:Nat):Int)<0:=by omega
 have c:(0:Int)≤((32-n:Nat):Int):=by omega
 go_enter func134,ntmps134
 go_wp2_with fail
 go_region_held3 (fun _=>True) (simp [go_sem, *]) (first | (go_at_call 135;refine (low_z _ (x/2 ^ n ||| x*2 ^ (32-n)) (turn_bits x n hx h1) a _).mono ?_;rintro e f ⟨rfl,rfl⟩))
 go_wp2
 go_ret
 exact⟨rfl,rfl⟩
theorem keys_any (w:World) :
  Calls prog 132 #[] w fun e w'=>e= .returned (.slice (some ⟨w.heap.size,0,none⟩) 64 64)∧Row w' w.heap.size 3 (keyL.map fun (x:Nat)=>Value.int .i64 (x:Int))∧Below w.heap.size w w':=by
 go_enter func132,ntmps132
 go_wp2
 go_ret
 exact⟨rfl,heap_alloc_new w _,(Below.refl _ _).alloc (Nat.le_refl _) _⟩
theorem Below.size' {w w':World}(h:Below w.heap.size w w'):w.heap.size≤w'.heap.size:=h.size
theorem Z1j:(prog.info? 3).map (fun i=>(i.zero,i.size,i.bytes))=some (some (.int .i64 0),1,8):=by kernel_rfl
theorem Z3A {wr w1:World}{o:Obj}{row:Option Nat}{B g:Nat}(h:((wr.alloc o).drew).grownBy w1 row)(hne:∀ g',row=some g'→B≤g')(hg:g<B)(hlt:g<wr.heap.size)(i:Nat):w1.cell? ⟨g,i,none⟩=wr.cell? ⟨g,i,none⟩ :=
 (h.cell_far ⟨g,i,none⟩ (by show g<((wr.alloc o).drew).heap.size;simp [World.drew];omega) (fun e=>by have:=hne g e.symm;omega)).trans (World.cell?_of_block (Below.heap_alloc wr o g (by omega)))
theorem rss0_bits (y:Nat)(h:y<4294967296):bits .xor .i64 (bits .xor .i64 ((rotr y 7:Nat):Int) ((rotr y 18:Nat):Int)) ((y:Int)/8)=((ss0 y:Nat):Int):=by
 have b:=Z0m y 7
 have a:=Z0m y 18
 have c:=Z17 b a
 rw [show (y:Int)/8=((y/8:Nat):Int) by omega,Z0t _ _ (by omega) (by omega),Z0t _ _ (by omega) (by omega)]
 rfl
theorem rss1_bits (y:Nat)(h:y<4294967296):bits .xor .i64 (bits .xor .i64 ((rotr y 17:Nat):Int) ((rotr y 19:Nat):Int)) ((y:Int)/1024)=((ss1 y:Nat):Int):=by
 have b:=Z0m y 17
 have a:=Z0m y 19
 have c:=Z17 b a
 rw [show (y:Int)/1024=((y/1024:Nat):Int) by omega,Z0t _ _ (by omega) (by omega),Z0t _ _ (by omega) (by omega)]
 rfl
theorem rnext_bits (y16 y15 y7 y2:Nat)(h16:y16<4294967296)(h15:y15<4294967296)(h7:y7<4294967296)(h2:y2<4294967296) :
  IntKind.i64.wrap (IntKind.i64.wrap (IntKind.i64.wrap ((y16:Int)+bits .xor .i64 (bits .xor .i64 ((rotr y15 7:Nat):Int) ((rotr y15 18:Nat):Int)) ((y15:Int)/8))+(y7:Int))+bits .xor .i64 (bits .xor .i64 ((rotr y2 17:Nat):Int) ((rotr y2 19:Nat):Int)) ((y2:Int)/1024))=((y16+ss0 y15+y7+ss1 y2:Nat):Int):=by
 have b:=ss0_lt h15
 have a:=ss1_lt h2
 rw [rss0_bits y15 h15,rss1_bits y2 h2,IntKind.wrap_i64,IntKind.wrap_i64,IntKind.wrap_i64]
 omega
theorem rright_i (x:Nat)(z:Int)(hx:x<4294967296)(h1:2≤z)(h2:z≤31)(w:World) :
  Calls prog 134 #[.int .i64 x,.int .i64 z] w fun e w'=>e= .returned (.int .i64 (rotr x z.toNat:Nat))∧w'=w.drew:=by
 obtain⟨n,rfl⟩:=Int.eq_ofNat_of_zero_le (show 0≤z by omega)
 exact rright_any x n hx (by omega) (by omega) w
set_option maxRecDepth 10000 in
theorem words_any (b:List Nat)(hb:Z03 b)(g off cap:Nat)(w:World)(hg:g<w.heap.size)
  (hc:∀ i,i<64→w.cell? ⟨g,off+i,none⟩=some (.int .u8 (b.getD i 0:Nat))) :
  Calls prog 133 #[.slice (some ⟨g,off,none⟩) 64 cap] w fun e w'=> ∃ v,e= .returned v∧w'.ownsRow w.heap.size 3 1 v 64 ((Z1h b).map fun (x:Nat)=>Value.int .i64 (x:Int))∧Below w.heap.size w w':=by
 obtain⟨i0,Y,X,a6,a1⟩:=info_parts Z1j
 go_enter func133,ntmps133
 go_wp2_with fail
 go_loopw [3,4] (fun v i wr=> ∃ j:Nat,j≤16∧i= .int .i64 j∧wr.ownsRow w.heap.size 3 1 v j ((Z0v b j).map fun (x:Nat)=>Value.int .i64 (x:Int))∧Below w.heap.size w wr) (fun _ i _=>16-(intOf i).toNat)
 case atStart=>exact⟨0,Nat.zero_le _,rfl,World.ownsRow_nil _ _ _ _,Below.refl _ _⟩
 case round =>
  obtain⟨j,hj,rfl,c,d⟩:=hrel
  by_cases R:j<16
  ·have c0:=(d.cell (p:=⟨g,off+4*j,none⟩) hg).trans (hc (4*j) (by omega))
   have c1:=(d.cell (p:=⟨g,off+(4*j+1),none⟩) hg).trans (hc (4*j+1) (by omega))
   have c2:=(d.cell (p:=⟨g,off+(4*j+2),none⟩) hg).trans (hc (4*j+2) (by omega))
   have c3:=(d.cell (p:=⟨g,off+(4*j+3),none⟩) hg).trans (hc (4*j+3) (by omega))
   have q0:IntKind.i64.wrap (4*(j:Int))=4*j:=by rw [IntKind.wrap_i64];omega
   have q1:IntKind.i64.wrap (4*(j:Int)+1)=4*j+1:=by rw [IntKind.wrap_i64];omega
   have q2:IntKind.i64.wrap (4*(j:Int)+2)=4*j+2:=by rw [IntKind.wrap_i64];omega
   have q3:IntKind.i64.wrap (4*(j:Int)+3)=4*j+3:=by rw [IntKind.wrap_i64];omega
   have t0:((4:Int)*j).toNat=4*j:=by omega
   have t1:((4:Int)*j+1).toNat=4*j+1:=by omega
   have t2:((4:Int)*j+2).toNat=4*j+2:=by omega
   have t3:((4:Int)*j+3).toNat=4*j+3:=by omega
   have r0:(0:Int)≤4*(j:Int):=by omega
   have s0:4*(j:Int)<64:=by omega
   have s1:4*(j:Int)+1<64:=by omega
   have s2:4*(j:Int)+2<64:=by omega
   have s3:4*(j:Int)+3<64:=by omega
   have r1:(0:Int)≤4*(j:Int)+1:=by omega
   have r2:(0:Int)≤4*(j:Int)+2:=by omega
   have r3:(0:Int)≤4*(j:Int)+3:=by omega
   have s4:(j:Int)<16:=by omega
   obtain⟨q,M⟩:∃ x,x=b.getD (4*j) 0:=⟨_,rfl⟩
   obtain⟨r,L⟩:∃ x,x=b.getD (4*j+1) 0:=⟨_,rfl⟩
   obtain⟨B,K⟩:∃ x,x=b.getD (4*j+2) 0:=⟨_,rfl⟩
   obtain⟨I,Q⟩:∃ x,x=b.getD (4*j+3) 0:=⟨_,rfl⟩
   have l0:q<256:=by rw [M];exact Z0k (by decide) hb _
   have l1:r<256:=by rw [L];exact Z0k (by decide) hb _
   have l2:B<256:=by rw [K];exact Z0k (by decide) hb _
   have l3:I<256:=by rw [Q];exact Z0k (by decide) hb _
   rw [← M] at c0
   rw [← L] at c1
   rw [← K] at c2
   rw [← Q] at c3
   have HX:Hid (q*16777216+r*65536+B*256+I=Z5x b j):=by show _=_;rw [M,L,K,Q];rfl
   clear M L K Q
   have z0:IntKind.i64.wrap (q:Int)=q:=by rw [IntKind.wrap_i64];omega
   have z1:IntKind.i64.wrap (r:Int)=r:=by rw [IntKind.wrap_i64];omega
   have z2:IntKind.i64.wrap (B:Int)=B:=by rw [IntKind.wrap_i64];omega
   have z3:IntKind.i64.wrap (I:Int)=I:=by rw [IntKind.wrap_i64];omega
   have y0:IntKind.i64.wrap ((q:Int)*16777216)=q*16777216:=by rw [IntKind.wrap_i64];omega
   have y1:IntKind.i64.wrap ((r:Int)*65536)=r*65536:=by rw [IntKind.wrap_i64];omega
   have W:IntKind.i64.wrap ((B:Int)*256)=B*256:=by rw [IntKind.wrap_i64];omega
   have v1:IntKind.i64.wrap ((q:Int)*16777216+r*65536)=q*16777216+r*65536:=by rw [IntKind.wrap_i64];omega
   have v2:IntKind.i64.wrap ((q:Int)*16777216+r*65536+B*256)=q*16777216+r*65536+B*256:=by rw [IntKind.wrap_i64];omega
   have v3:IntKind.i64.wrap ((q:Int)*16777216+r*65536+B*256+I)=q*16777216+r*65536+B*256+I:=by rw [IntKind.wrap_i64];omega
   clear hc
   have S:g<wr.heap.size:=Nat.lt_of_lt_of_le hg d.size
   have A0:∀ o,(wr.alloc o).cell? ⟨g,off+4*j,none⟩=some (.int .u8 (q:Nat)):=fun o=>(World.cell?_of_block (Below.heap_alloc wr o g (by omega))).trans c0
   have A1:∀ o,(wr.alloc o).cell? ⟨g,off+(4*j+1),none⟩=some (.int .u8 (r:Nat)):=fun o=>(World.cell?_of_block (Below.heap_alloc wr o g (by omega))).trans c1
   have A2:∀ o,(wr.alloc o).cell? ⟨g,off+(4*j+2),none⟩=some (.int .u8 (B:Nat)):=fun o=>(World.cell?_of_block (Below.heap_alloc wr o g (by omega))).trans c2
   have A3:∀ o,(wr.alloc o).cell? ⟨g,off+(4*j+3),none⟩=some (.int .u8 (I:Nat)):=fun o=>(World.cell?_of_block (Below.heap_alloc wr o g (by omega))).trans c3
   have O:Hid (∀ o,((wr.alloc o).drew).ownsRow w.heap.size 3 1 u3 j ((Z0v b j).map fun (x:Nat)=>Value.int .i64 (x:Int))∧Below w.heap.size w ((wr.alloc o).drew)):=fun o=>⟨(c.alloc o).drew,(d.alloc d.size o).drew⟩
   have D:Hid (∀ g',u3.ownBlock=some g'→w.heap.size≤g'):=fun g' hg'=>by
    rcases c.2 with ⟨rfl,_⟩ | ⟨g'',cap,cur,rfl,hg'',_⟩
    ·simp [Value.ownBlock] at hg'
    ·simp [Value.ownBlock] at hg';omega
   clear c
   go_wp2_with fail
   go_region_held3 (fun w'=>w'.cell? ⟨g,off+4*j,none⟩=some (.int .u8 (q:Nat))∧w'.cell? ⟨g,off+(4*j+1),none⟩=some (.int .u8 (r:Nat))∧w'.cell? ⟨g,off+(4*j+2),none⟩=some (.int .u8 (B:Nat))∧w'.cell? ⟨g,off+(4*j+3),none⟩=some (.int .u8 (I:Nat))) (simp [go_sem, *]) (first | (refine step_append_lies _ rfl _ _ 67 rfl w.heap.size 3 i0 (.int .i64 0) 1 8 underlying67 Y X a6 a1 rfl (by decide) _ j _ rfl (O.out _).1 ⟨wr.heap.size,0,none⟩ 1 1 [.int .i64 ((q:Int)*16777216+r*65536+B*256+I)] rfl rfl (World.news_of_block (heap_alloc_new wr _)) (by intro u T;rw [List.mem_singleton] at T;rw [T];rfl) (by decide) (by unfold maxLen;omega) (by omega) (Below.size' (O.out _).2) _ rfl ?_;intro g1 n w1 f a F Z;have d0:=(Z3A a D.out hg S (off+4*j)).trans c0;have d1:=(Z3A a D.out hg S (off+(4*j+1))).trans c1;have d2:=(Z3A a D.out hg S (off+(4*j+2))).trans c2;have d3:=(Z3A a D.out hg S (off+(4*j+3))).trans c3))
   have E:Below w.heap.size w w1:=(O.out _).2.grown a (Below.size' (O.out _).2) (fun g hg=>D.out g hg)
   have G:w1.ownsRow w.heap.size 3 1 (.slice (some ⟨g1,0,none⟩) (j+1) n) (j+1) ((Z0v b (j+1)).map fun (x:Nat)=>Value.int .i64 (x:Int)):=by
    rw [Z0v,List.map_append,← HX.out]
    exact f
   have U:Hid (w1.ownsRow w.heap.size 3 1 (.slice (some ⟨g1,0,none⟩) (j+1) n) (j+1) ((Z0v b (j+1)).map fun (x:Nat)=>Value.int .i64 (x:Int))∧Below w.heap.size w w1):=⟨G,E⟩
   clear f G a F Z E d0 d1 d2 d3 A0 A1 A2 A3 c0 c1 c2 c3
   go_wp2
   go_roundw
   case rel=>exact⟨j+1,by omega,by go_num,U.out.1,U.out.2⟩
   case measure=>simp [intOf];omega
  ·obtain rfl:j=16:=by omega
   clear hc R hj
   rw [show ((16:Nat):Int)=16 from rfl]
   go_wp2_with fail
   go_loopw [3,5] (fun v i wr=> ∃ m:Nat,16≤m∧m≤64∧i= .int .i64 m∧wr.ownsRow w.heap.size 3 1 v m ((grow (Z0v b 16) (m-16)).map fun (x:Nat)=>Value.int .i64 (x:Int))∧Below w.heap.size w wr) (fun _ i _=>64-(intOf i).toNat)
   case atStart=>exact⟨16,by decide,by decide,rfl,c,d⟩
   case round =>
    clear c d
    obtain⟨m,a5,ai,rfl,c,d⟩:=hrel
    by_cases R:m<64
    ·obtain⟨z,n,rfl,a9,aa⟩:=c.form (by omega)
     have V:(grow (Z0v b 16) (m-16)).length=m:=by rw [Z2q,Z0o];omega
     have l:∀ i,i<m→wr.cell? ⟨z,i,none⟩=some (.int .i64 ((Z25 b i:Nat):Int)):=fun i Y=>by
      rw [c.cellAt i (by omega),List.getElem?_map,List.getElem?_eq_getElem (by omega),Z1H b i (m-16) (by omega) (by omega),Z0b _ _ (by omega)]
      rfl
     have N:=l (m-16) (by omega)
     have a0:=l (m-15) (by omega)
     have k7:=l (m-7) (by omega)
     have k2:=l (m-2) (by omega)
     obtain⟨h,A⟩:∃ y,y=Z25 b (m-16):=⟨_,rfl⟩
     obtain⟨C,t⟩:∃ y,y=Z25 b (m-15):=⟨_,rfl⟩
     obtain⟨H,J⟩:∃ y,y=Z25 b (m-7):=⟨_,rfl⟩
     obtain⟨W,P⟩:∃ y,y=Z25 b (m-2):=⟨_,rfl⟩
     have a7:h<4294967296:=by rw [A];exact Z30 hb _
     have a4:C<4294967296:=by rw [t];exact Z30 hb _
     have l7:H<4294967296:=by rw [J];exact Z30 hb _
     have l2:W<4294967296:=by rw [P];exact Z30 hb _
     rw [← A] at N
     rw [← t] at a0
     rw [← J] at k7
     rw [← P] at k2
     have HY:Hid ((h+ss0 C+H+ss1 W)%4294967296=Z25 b m):=by
      show _=_
      rw [Z4Z b m a5 R,A,t,J,P]
     have HC:Hid (∀ i,i<m→wr.cell? ⟨z,i,none⟩=some (.int .i64 ((Z25 b i:Nat):Int))):=l
     clear A t J P l
     have ae:IntKind.i64.wrap ((m:Int)-16)=m-16:=by rw [IntKind.wrap_i64];omega
     have ad:IntKind.i64.wrap ((m:Int)-15)=m-15:=by rw [IntKind.wrap_i64];omega
     have q7:IntKind.i64.wrap ((m:Int)-7)=m-7:=by rw [IntKind.wrap_i64];omega
     have q2:IntKind.i64.wrap ((m:Int)-2)=m-2:=by rw [IntKind.wrap_i64];omega
     have ag:((m:Int)-16).toNat=m-16:=by omega
     have ah:((m:Int)-15).toNat=m-15:=by omega
     have t7:((m:Int)-7).toNat=m-7:=by omega
     have t2:((m:Int)-2).toNat=m-2:=by omega
     have aj:(16:Int)≤(m:Int):=by omega
     have ac:(15:Int)≤(m:Int):=by omega
     have r7:(7:Int)≤(m:Int):=by omega
     have r2:(2:Int)≤(m:Int):=by omega
     have ak:(m:Int)-16<m:=by omega
     have ab:(m:Int)-15<m:=by omega
     have s7:(m:Int)-7<m:=by omega
     have s2:(m:Int)-2<m:=by omega
     have af:(m:Int)<64:=by omega
     have a8:∀ o,(wr.alloc o).cell? ⟨z,m-16,none⟩=some (.int .i64 (h:Nat)):=fun o=>(World.cell?_of_block (Below.heap_alloc wr o z (by omega))).trans N
     have A7:∀ o,(wr.alloc o).cell? ⟨z,m-7,none⟩=some (.int .i64 (H:Nat)):=fun o=>(World.cell?_of_block (Below.heap_alloc wr o z (by omega))).trans k7
     have O:Hid (∀ o,((wr.alloc o).drew.drew.drew.drew.drew).ownsRow w.heap.size 3 1 (.slice (some ⟨z,0,none⟩) m n) m ((grow (Z0v b 16) (m-16)).map fun (x:Nat)=>Value.int .i64 (x:Int))∧Below w.heap.size w ((wr.alloc o).drew.drew.drew.drew.drew)):=fun o=>⟨c.alloc o,(d.alloc d.size o).drew.drew.drew.drew.drew⟩
     have HG:Hid (∀ i u,((grow (Z0v b 16) (m-16)).map fun (x:Nat)=>Value.int .i64 (x:Int))[i]? = some u→wr.cell? ⟨z,i,none⟩=some u):=fun i u T=>by
      have Y:=(List.getElem?_eq_some_iff.1 T).1
      rw [List.length_map,V] at Y
      rw [c.cellAt i (by omega)]
      exact T
     have HL:Hid ((grow (Z0v b 16) (m-16)).map (fun (x:Nat)=>Value.int .i64 (x:Int)) ++ [.int .i64 (((h+ss0 C+H+ss1 W)%4294967296:Nat):Int)]=(grow (Z0v b 16) (m+1-16)).map fun (x:Nat)=>Value.int .i64 (x:Int)):=by
      show _=_
      rw [show m+1-16=(m-16)+1 by omega,grow,List.map_append,HY.out,Z6E,V,Z4Z b m a5 R,Z1H b (m-16) (m-16) (by omega) (by omega),Z1H b (m-15) (m-16) (by omega) (by omega),Z1H b (m-7) (m-16) (by omega) (by omega),Z1H b (m-2) (m-16) (by omega) (by omega)]
      rfl
     have a2:((grow (Z0v b 16) (m-16)).map fun (x:Nat)=>Value.int .i64 (x:Int))[m-16]? = some (.int .i64 (h:Nat)):=by rw [← c.cellAt (m-16) (by omega)];exact N
     have i7:((grow (Z0v b 16) (m-16)).map fun (x:Nat)=>Value.int .i64 (x:Int))[m-7]? = some (.int .i64 (H:Nat)):=by rw [← c.cellAt (m-7) (by omega)];exact k7
     have HI:Hid (((grow (Z0v b 16) (m-16)).map fun (x:Nat)=>Value.int .i64 (x:Int))[m-16]? = some (.int .i64 (h:Nat))∧((grow (Z0v b 16) (m-16)).map fun (x:Nat)=>Value.int .i64 (x:Int))[m-7]? = some (.int .i64 (H:Nat))):=⟨a2,i7⟩
     clear c V HC a2 i7
     go_wp2_with fail
     go_region_held3 (fun w'=>w'.cell? ⟨z,m-16,none⟩=some (.int .i64 (h:Nat))∧w'.cell? ⟨z,m-7,none⟩=some (.int .i64 (H:Nat))) (simp [go_sem, *]) (first | (go_at_call 134;refine (rright_i _ _ (by assumption) (by decide) (by decide) _).mono ?_;rintro e w1 ⟨rfl,rfl⟩) | (go_at_call 135;refine (low_z _ (h+ss0 C+H+ss1 W) (rnext_bits h C H W a7 a4 l7 l2) (by have:=ss0_lt a4;have:=ss1_lt l2;omega) _).mono ?_;rintro e w1 ⟨rfl,rfl⟩) | (refine Z6z _ rfl _ _ 67 rfl w.heap.size 3 i0 (.int .i64 0) 8 underlying67 Y X a6 a1 rfl (.slice (some ⟨z,0,none⟩) m n) m _ rfl (O.out _).1 ⟨wr.heap.size,0,none⟩ 1 1 [.int .i64 (((h+ss0 C+H+ss1 W)%4294967296:Nat):Int)] rfl rfl (World.news_of_block (heap_alloc_new wr _)) (by intro u T;rw [List.mem_singleton] at T;rw [T];rfl) (by decide) (by unfold maxLen;omega) (by omega) (Below.size' (O.out _).2) ?_;intro g1 a3 w1 f a F s;have d0:=s z rfl _ _ HI.out.1;have d1:=s z rfl _ _ HI.out.2))
     have E:Below w.heap.size w w1:=(O.out _).2.grown a (Below.size' (O.out _).2) (fun k hk=>by obtain rfl:z=k:=(by simpa [Value.ownBlock] using hk);exact a9)
     have U:Hid (w1.ownsRow w.heap.size 3 1 (.slice (some ⟨g1,0,none⟩) (m+1) a3) (m+1) ((grow (Z0v b 16) (m+1-16)).map fun (x:Nat)=>Value.int .i64 (x:Int))∧Below w.heap.size w w1):=⟨HL.out ▸ f,E⟩
     clear f a F s E d0 d1 a8 A7 N a0 k7 k2
     go_wp2
     go_roundw
     case rel=>exact⟨m+1,by omega,by omega,by go_num,U.out.1,U.out.2⟩
     case measure=>simp [intOf];omega
    ·obtain rfl:m=64:=by omega
     have U:Hid (wr.ownsRow w.heap.size 3 1 u3 64 ((Z1h b).map fun (x:Nat)=>Value.int .i64 (x:Int))∧Below w.heap.size w wr):=⟨c,d⟩
     clear c d
     go_wp2_with fail
     exact bodyPost_ret (v:=u3) (by simp [results,Tryz.results133]) rfl ⟨u3,rfl,U.out.1,U.out.2⟩
end Sm
end Go.Proofs.YtijpgmkdnemmbaaGreatDoor
