/- Part 32. -/
import Derived.Test.YtijpgmkdnemmbaaGreatDoorProg
import Derived.WalkKit
import Derived.Laws.BitsAllLaws
import Derived.Laws.BitsLemmas
import Derived.Deep.WholeRow
import Derived.Deep.RegionHeld3
import Derived.Deep.QuietTactic
import Derived.BigQuiet
set_option maxRecDepth 20000
set_option maxHeartbeats 8000000
open Go.RowKit Go.Proofs.Tryz
namespace Go.Proofs.YtijpgmkdnemmbaaGreatDoor
namespace Sm
def rotr (x n:Nat):Nat:=(x/2 ^ n ||| x*2 ^ (32-n))%4294967296
def ss0 (x:Nat):Nat:=rotr x 7 ^^^ rotr x 18 ^^^ x/8
def ss1 (x:Nat):Nat:=rotr x 17 ^^^ rotr x 19 ^^^ x/1024
def bs0 (x:Nat):Nat:=rotr x 2 ^^^ rotr x 13 ^^^ rotr x 22
def bs1 (x:Nat):Nat:=rotr x 6 ^^^ rotr x 11 ^^^ rotr x 25
def chf (e f g:Nat):Nat:=(e &&& f) ^^^ ((4294967295-e) &&& g)
def maj (a b c:Nat):Nat:=(a &&& b) ^^^ (a &&& c) ^^^ (b &&& c)
def keyL:List Nat:= [
 0x428a2f98,0x71374491,0xb5c0fbcf,0xe9b5dba5,0x3956c25b,0x59f111f1,0x923f82a4,0xab1c5ed5,
 0xd807aa98,0x12835b01,0x243185be,0x550c7dc3,0x72be5d74,0x80deb1fe,0x9bdc06a7,0xc19bf174,
 0xe49b69c1,0xefbe4786,0x0fc19dc6,0x240ca1cc,0x2de92c6f,0x4a7484aa,0x5cb0a9dc,0x76f988da,
 0x983e5152,0xa831c66d,0xb00327c8,0xbf597fc7,0xc6e00bf3,0xd5a79147,0x06ca6351,0x14292967,
 0x27b70a85,0x2e1b2138,0x4d2c6dfc,0x53380d13,0x650a7354,0x766a0abb,0x81c2c92e,0x92722c85,
 0xa2bfe8a1,0xa81a664b,0xc24b8b70,0xc76c51a3,0xd192e819,0xd6990624,0xf40e3585,0x106aa070,
 0x19a4c116,0x1e376c08,0x2748774c,0x34b0bcb5,0x391c0cb3,0x4ed8aa4a,0x5b9cca4f,0x682e6ff3,
 0x748f82ee,0x78a5636f,0x84c87814,0x8cc70208,0x90befffa,0xa4506ceb,0xbef9a3f7,0xc67178f2]
def keyN (i:Nat):Nat:=keyL.getD i 0
def Z5x (b:List Nat)(i:Nat):Nat:=b.getD (4*i) 0*16777216+b.getD (4*i+1) 0*65536+b.getD (4*i+2) 0*256+b.getD (4*i+3) 0
def Z6E (l:List Nat):Nat:=(l.getD (l.length-16) 0+ss0 (l.getD (l.length-15) 0)+l.getD (l.length-7) 0+ss1 (l.getD (l.length-2) 0))%4294967296
def Z0v (b:List Nat):Nat→List Nat
 | 0=> []
 | n+1=>Z0v b n ++ [Z5x b n]
def grow (l:List Nat):Nat→List Nat
 | 0=>l
 | n+1=>grow l n ++ [Z6E (grow l n)]
def Z1h (b:List Nat):List Nat:=grow (Z0v b 16) 48
def Z25 (b:List Nat)(i:Nat):Nat:=(Z1h b).getD i 0
structure St where
 (a b c d e f g h:Nat)
def tN (k w:Nat)(s:St):Nat:=s.h+bs1 s.e+chf s.e s.f s.g+k+w
def uN (s:St):Nat:=bs0 s.a+maj s.a s.b s.c
def rnd (k w:Nat)(s:St):St:=⟨(tN k w s+uN s)%4294967296,s.a,s.b,s.c,(s.d+tN k w s)%4294967296,s.e,s.f,s.g⟩
def rnds (ws:List Nat)(s:St):Nat→St
 | 0=>s
 | n+1=>rnd (keyN n) (ws.getD n 0) (rnds ws s n)
def Z3R (s t:St):St:=⟨(s.a+t.a)%4294967296,(s.b+t.b)%4294967296,(s.c+t.c)%4294967296,(s.d+t.d)%4294967296,(s.e+t.e)%4294967296,(s.f+t.f)%4294967296,(s.g+t.g)%4294967296,(s.h+t.h)%4294967296⟩
def comp (s:St)(b:List Nat):St:=Z3R s (rnds (Z1h b) s 64)
def st0:St:=⟨0x6a09e667,0xbb67ae85,0x3c6ef372,0xa54ff53a,0x510e527f,0x9b05688c,0x1f83d9ab,0x5be0cd19⟩
def Z0e (l:List Nat):Nat→St
 | 0=>st0
 | n+1=>comp (Z0e l n) ((l.drop (64*n)).take 64)
def be4 (n:Nat):List Nat:= [n/16777216%256,n/65536%256,n/256%256,n%256]
def be8 (n:Nat):List Nat:=be4 (n/4294967296)++be4 n
def lack (n:Nat):Nat:=(119-n%64)%64
def Z2H (l:List Nat):List Nat:=l++128 :: List.replicate (lack l.length) 0++be8 (8*l.length)
def outL (s:St):List Nat:=be4 s.a++be4 s.b++be4 s.c++be4 s.d++be4 s.e++be4 s.f++be4 s.g++be4 s.h
def shaL (l:List Nat):List Nat:=outL (Z0e (Z2H l) ((Z2H l).length/64))
theorem Z0W (l:List Nat)(d:Nat){i:Nat}(h:l.length≤i):l.getD i d=d:=by
 rw [List.getD_eq_getElem?_getD,List.getElem?_eq_none h];rfl
theorem Z0b (l:List Nat)(d:Nat){i:Nat}(h:i<l.length):l.getD i d=l[i]:=by
 rw [List.getD_eq_getElem?_getD,List.getElem?_eq_getElem h];rfl
theorem Z3s (l m:List Nat)(d i:Nat)(h:i<l.length):(l++m).getD i d=l.getD i d:=by
 rw [List.getD_eq_getElem?_getD,List.getElem?_append_left h,List.getD_eq_getElem?_getD]
theorem Z2l (l m:List Nat)(d i:Nat)(h:l.length≤i):(l++m).getD i d=m.getD (i-l.length) d:=by
 rw [List.getD_eq_getElem?_getD,List.getElem?_append_right h,List.getD_eq_getElem?_getD]
theorem pow32:(2:Nat) ^ 32=4294967296:=rfl
theorem Z17 {a b:Nat}(ha:a<4294967296)(hb:b<4294967296):a ^^^ b<4294967296:=Nat.xor_lt_two_pow (n:=32) ha hb
theorem Z2A {a b:Nat}(hb:b<4294967296):a &&& b<4294967296:=Nat.and_lt_two_pow (n:=32) a hb
theorem Z0m (x n:Nat):rotr x n<4294967296:=Nat.mod_lt _ (by decide)
theorem ss0_lt {x:Nat}(h:x<4294967296):ss0 x<4294967296:=Z17 (Z17 (Z0m _ _) (Z0m _ _)) (by omega)
theorem ss1_lt {x:Nat}(h:x<4294967296):ss1 x<4294967296:=Z17 (Z17 (Z0m _ _) (Z0m _ _)) (by omega)
theorem bs0_lt (x:Nat):bs0 x<4294967296:=Z17 (Z17 (Z0m _ _) (Z0m _ _)) (Z0m _ _)
theorem bs1_lt (x:Nat):bs1 x<4294967296:=Z17 (Z17 (Z0m _ _) (Z0m _ _)) (Z0m _ _)
theorem chf_lt {e f g:Nat}(hf:f<4294967296)(hg:g<4294967296):chf e f g<4294967296:=Z17 (Z2A hf) (Z2A hg)
theorem maj_lt {a b c:Nat}(hb:b<4294967296)(hc:c<4294967296):maj a b c<4294967296:=Z17 (Z17 (Z2A hb) (Z2A hc)) (Z2A hc)
theorem rotr_or (x n:Nat)(hx:x<4294967296):x*2 ^ (32-n)%4294967296 ||| x/2 ^ n=rotr x n:=by
 unfold rotr
 rw [← pow32,Nat.or_mod_two_pow,Nat.or_comm,Nat.mod_eq_of_lt (a:=x/2 ^ n) (Nat.lt_of_le_of_lt (Nat.div_le_self _ _) hx)]
theorem keyN_lt (i:Nat):keyN i<4294967296:=by
 by_cases h:i<64
 ·have a:∀ j:Fin 64,keyN j.val<4294967296:=by decide
  exact a ⟨i,h⟩
 ·unfold keyN
  rw [Z0W _ _ (by simp [keyL];omega)]
  decide
def Z03 (b:List Nat):Prop:= ∀ x∈b,x<256
theorem Z0k {b:List Nat}{m:Nat}(hm:0<m)(h:∀ x∈b,x<m)(i:Nat):b.getD i 0<m:=by
 by_cases a:i<b.length
 ·rw [Z0b _ _ a];exact h _ (List.getElem_mem _)
 ·rw [Z0W _ _ (by omega)];exact hm
theorem wordN_lt {b:List Nat}(h:Z03 b)(i:Nat):Z5x b i<4294967296:=by
 unfold Z5x
 have d:=Z0k (by decide) h (4*i)
 have e:=Z0k (by decide) h (4*i+1)
 have c:=Z0k (by decide) h (4*i+2)
 have a:=Z0k (by decide) h (4*i+3)
 omega
theorem Z0o (b:List Nat):∀ n,(Z0v b n).length=n
 | 0=>rfl
 | n+1=>by simp [Z0v,Z0o b n]
theorem Z2q (l:List Nat):∀ n,(grow l n).length=l.length+n
 | 0=>rfl
 | n+1=>by simp [grow,Z2q l n];omega
theorem Z1N (b:List Nat):(Z1h b).length=64:=by rw [Z1h,Z2q,Z0o]
theorem Z7E (b:List Nat):∀ n i,i<n→(Z0v b n).getD i 0=Z5x b i
 | 0,_,h=>absurd h (Nat.not_lt_zero _)
 | n+1,i,h=>by
  by_cases hi:i<n
  ·have:=Z7E b n i hi
   rw [Z0v,Z3s _ _ _ _ (by rw [Z0o];exact hi),this]
  ·obtain rfl:i=n:=by omega
   rw [Z0v,Z2l _ _ _ _ (by rw [Z0o];exact Nat.le_refl _),Z0o]
   simp
theorem grow_get (l:List Nat)(i:Nat):∀ n,i<l.length+n→∀ k,(grow l (n+k)).getD i 0=(grow l n).getD i 0
 | n,h,0=>rfl
 | n,h,k+1=>by
  rw [← Nat.add_assoc,grow,Z3s _ _ _ _ (by rw [Z2q];omega)]
  exact grow_get l i n h k
theorem schedN_low (b:List Nat)(i:Nat)(h:i<16):Z25 b i=Z5x b i:=by
 have:=grow_get (Z0v b 16) i 0 (by rw [Z0o];omega) 48
 rw [Z25,Z1h]
 exact this.trans (Z7E b 16 i h)
theorem Z1H (b:List Nat)(i n:Nat)(h:i<16+n)(hn:n≤48):Z25 b i=(grow (Z0v b 16) n).getD i 0:=by
 have:=grow_get (Z0v b 16) i n (by rw [Z0o];omega) (48-n)
 rw [show n+(48-n)=48 by omega] at this
 exact this
theorem Z4Z (b:List Nat)(i:Nat)(h:16≤i)(h2:i<64):Z25 b i=(Z25 b (i-16)+ss0 (Z25 b (i-15))+Z25 b (i-7)+ss1 (Z25 b (i-2)))%4294967296:=by
 obtain⟨n,rfl⟩:∃ n,i=16+n:=⟨i-16,by omega⟩
 have a:(grow (Z0v b 16) n).length=16+n:=by rw [Z2q,Z0o]
 rw [Z1H b (16+n) (n+1) (by omega) (by omega),Z1H b (16+n-16) n (by omega) (by omega),Z1H b (16+n-15) n (by omega) (by omega),Z1H b (16+n-7) n (by omega) (by omega),Z1H b (16+n-2) n (by omega) (by omega)]
 rw [grow,Z2l _ _ _ _ (by omega),a,Nat.sub_self]
 show Z6E _=_
 rw [Z6E,a]
theorem Z30 {b:List Nat}(hb:Z03 b)(i:Nat):Z25 b i<4294967296:=by
 by_cases h:i<16
 ·rw [schedN_low b i h];exact wordN_lt hb i
 ·by_cases a:i<64
  ·rw [Z4Z b i (by omega) a];exact Nat.mod_lt _ (by decide)
  ·rw [Z25,Z0W _ _ (by rw [Z1N];omega)];decide
def St.ok (s:St):Prop:=s.a<4294967296∧s.b<4294967296∧s.c<4294967296∧s.d<4294967296∧s.e<4294967296∧s.f<4294967296∧s.g<4294967296∧s.h<4294967296
theorem rnd_ok {s:St}(h:s.ok)(k w:Nat):(rnd k w s).ok:=by
 obtain⟨e,b,a,g,c,d,f,i⟩:=h
 exact⟨Nat.mod_lt _ (by decide),e,b,a,Nat.mod_lt _ (by decide),c,d,f⟩
theorem rnds_ok {s:St}(h:s.ok)(ws:List Nat):∀ n,(rnds ws s n).ok
 | 0=>h
 | n+1=>rnd_ok (rnds_ok h ws n) _ _
theorem addSt_ok (s t:St):(Z3R s t).ok:=by
 refine⟨?_,?_,?_,?_,?_,?_,?_,?_⟩ <;> exact Nat.mod_lt _ (by decide)
theorem Z61 (s:St)(b:List Nat):(comp s b).ok:=addSt_ok _ _
theorem st0_ok:st0.ok:=by refine⟨?_,?_,?_,?_,?_,?_,?_,?_⟩ <;> decide
theorem Z31 (l:List Nat):∀ n,(Z0e l n).ok
 | 0=>st0_ok
 | _+1=>Z61 _ _
theorem tN_lt {s:St}(h:s.ok){k w:Nat}(hk:k<4294967296)(hw:w<4294967296):tN k w s<21474836480:=by
 obtain⟨i,d,c,g,f,a,b,j⟩:=h
 have:=bs1_lt s.e
 have:=chf_lt (e:=s.e) a b
 unfold tN
 omega
theorem uN_lt {s:St}(h:s.ok):uN s<8589934592:=by
 obtain⟨g,c,b,f,d,e,j,i⟩:=h
 have:=bs0_lt s.a
 have:=maj_lt (a:=s.a) c b
 unfold uN
 omega
theorem Z2Q (l m:List Nat):∀ n,64*n≤l.length→Z0e (l++m) n=Z0e l n
 | 0,_=>rfl
 | n+1,h=>by
  rw [Z0e,Z0e,Z2Q l m n (by omega),List.drop_append_of_le_length (by omega),List.take_append_of_le_length (by simp;omega)]
theorem be4_length (n:Nat):(be4 n).length=4:=rfl
theorem Z2r (n:Nat):(be8 n).length=8:=rfl
theorem Z1I (n:Nat):Z03 (be4 n):=by
 intro x a
 simp only [be4,List.mem_cons,List.not_mem_nil,or_false] at a
 omega
theorem Z03.append {a b:List Nat}(ha:Z03 a)(hb:Z03 b):Z03 (a++b):=fun x hx=>by
 rcases List.mem_append.1 hx with h | h
 ·exact ha x h
 ·exact hb x h
theorem Z03.cons {x:Nat}{b:List Nat}(hx:x<256)(hb:Z03 b):Z03 (x :: b):=fun y hy=>by
 rcases List.mem_cons.1 hy with h | h
 ·omega
 ·exact hb y h
theorem Z03.zeros (n:Nat):Z03 (List.replicate n 0):=fun x hx=>by
 have:=(List.mem_replicate.1 hx).2
 omega
theorem Z03.take {b:List Nat}(h:Z03 b)(n:Nat):Z03 (b.take n):=fun x hx=>h x (List.mem_of_mem_take hx)
theorem Z03.drop {b:List Nat}(h:Z03 b)(n:Nat):Z03 (b.drop n):=fun x hx=>h x (List.mem_of_mem_drop hx)
theorem Z5y (n:Nat):Z03 (be8 n):=(Z1I _).append (Z1I _)
theorem Z1u (s:St):(outL s).length=32:=rfl
theorem outL_bytes (s:St):Z03 (outL s) :=
 ((((((((Z1I _).append (Z1I _)).append (Z1I _)).append (Z1I _)).append (Z1I _)).append (Z1I _)).append (Z1I _)).append (Z1I _))
theorem Z09 (l:List Nat):(shaL l).length=32:=Z1u _
theorem Z1n (l:List Nat):Z03 (shaL l):=outL_bytes _
theorem Z3i (l:List Nat):(Z2H l).length=l.length+1+lack l.length+8:=by
 simp [Z2H,Z2r];omega
theorem fillL_bytes {l:List Nat}(h:Z03 l):Z03 (Z2H l):=(h.append (Z03.cons (by decide) (Z03.zeros _))).append (Z5y _)
theorem Z32 (l m:List Nat)(q:Nat)(h1:64*q≤l.length)(h2:l.length+m.length=64*q+64):Z0e (l++m) (q+1)=comp (Z0e l q) (l.drop (64*q)++m):=by
 rw [Z0e,Z2Q l m q h1,List.drop_append_of_le_length h1,List.take_of_length_le (by simp;omega)]
theorem sha_small (l:List Nat)(q have_:Nat)(h1:l.length=64*q+have_)(h2:have_<56) :
  shaL l=outL (comp (Z0e l q) (l.drop (64*q)++128 :: (List.replicate (55-have_) 0++be8 (8*l.length)))):=by
 have a:lack l.length=55-have_:=by unfold lack;omega
 have b:Z2H l=l++128 :: (List.replicate (55-have_) 0++be8 (8*l.length)):=by simp [Z2H,a]
 have c:(Z2H l).length/64=q+1:=by rw [Z3i,a];omega
 rw [shaL,c,b,Z32 _ _ q (by omega) (by simp [Z2r];omega)]
theorem sha_large (l:List Nat)(q have_:Nat)(h1:l.length=64*q+have_)(h2:56≤have_)(h3:have_<64) :
  shaL l=outL (comp (comp (Z0e l q) (l.drop (64*q)++128 :: List.replicate (63-have_) 0)) (List.replicate 56 0++be8 (8*l.length))):=by
 have a:lack l.length=119-have_:=by unfold lack;omega
 have c:List.replicate (119-have_) (0:Nat)=List.replicate (63-have_) 0++List.replicate 56 0:=by
  rw [List.replicate_append_replicate];congr 1;omega
 have b:Z2H l=(l++128 :: List.replicate (63-have_) 0)++(List.replicate 56 0++be8 (8*l.length)):=by simp [Z2H,a,c]
 have e:(Z2H l).length/64=q+1+1:=by rw [Z3i,a];omega
 have d:(l++128 :: List.replicate (63-have_) 0).length=64*q+64:=by simp;omega
 have f:(l++128 :: List.replicate (63-have_) 0).drop (64*(q+1))= []:=List.drop_eq_nil_of_le (by omega)
 rw [shaL,e,b,Z32 _ _ (q+1) (by omega) (by rw [d];simp [Z2r];omega),f,Z32 _ _ q (by omega) (by simp;omega)]
 rfl
theorem rotl_turn (n:Nat)(h1:1≤n)(h2:n≤31):bits .and .u64 (IntKind.u64.wrap (-(n:Int))) 31=((32-n:Nat):Int):=by
 have e:IntKind.u64.wrap (-(n:Int))=((18446744073709551616-n:Nat):Int):=by rw [IntKind.wrap_u64];omega
 rw [e,show (31:Int)=((31:Nat):Int) from rfl,u64_and_nat _ _ (by omega) (by decide),nat_mask5]
 omega
theorem rotr_bits (x n m:Nat)(hx:x<4294967296)(h2:n≤31)(hm:m=32-n):bits .or .u32 ((x:Int)*2 ^ m%4294967296) ((x:Int)/2 ^ (32-m))=((rotr x n:Nat):Int):=by
 subst hm
 rw [show 32-(32-n)=n by omega]
 have b:(x:Int)*2 ^ (32-n)%4294967296=((x*2 ^ (32-n)%4294967296:Nat):Int):=by
  rw [Int.natCast_emod,Int.natCast_mul,Int.natCast_pow];rfl
 have a:(x:Int)/2 ^ n=((x/2 ^ n:Nat):Int):=by
  rw [Int.natCast_ediv,Int.natCast_pow];rfl
 rw [b,a,u32_or_nat _ _ (Nat.mod_lt _ (by decide)) (Nat.lt_of_le_of_lt (Nat.div_le_self _ _) hx),rotr_or x n hx]
theorem rotl_any (x n:Nat)(hx:x<4294967296)(h1:1≤n)(h2:n≤31)(w:World) :
  Calls prog 176 #[.int .u32 x,.int .i64 (-(n:Int))] w fun e w'=>e= .returned (.int .u32 (rotr x n:Nat))∧w'=w:=by
 obtain⟨m,a⟩:∃ m,m=32-n:=⟨_,rfl⟩
 have d:=rotl_turn n h1 h2
 rw [← a] at d
 have c:m≤31:=by omega
 have b:Hid _:=a
 clear a
 go_enter func176,ntmps176
 go_wp2
 go_ret
 exact⟨congrArg (fun z=>Ending.returned (.int .u32 z)) (rotr_bits x n m hx h2 b.out),rfl⟩
theorem Z1Y (x n:Nat)(hx:x<4294967296)(h1:1≤n)(h2:n≤31)(w:World) :
  Calls prog 153 #[.int .u32 x,.int .i64 n] w fun e w'=>e= .returned (.int .u32 (rotr x n:Nat))∧w'=w:=by
 go_enter func153,ntmps153
 go_wp2_with fail
 refine (rotl_any x n hx h1 h2 _).mono ?_
 rintro e w' ⟨rfl,rfl⟩
 go_wp2
 go_ret
 exact⟨rfl,rfl⟩
def rowC (l:List Nat):Array Value:=(l.map (fun x=>Value.int .u32 (x:Nat))++List.replicate (64-l.length) (Value.int .u32 0)).toArray
theorem rowC_set (l:List Nat)(x:Nat)(h:l.length<64):(rowC l).setIfInBounds l.length (Value.int .u32 (x:Nat))=rowC (l ++ [x]):=by
 obtain⟨k,b⟩:∃ k,64-l.length=k+1:=⟨63-l.length,by omega⟩
 have a:64-(l ++ [x]).length=k:=by simp;omega
 unfold rowC
 rw [b,a,List.setIfInBounds_toArray,List.replicate_succ]
 congr 1
 rw [List.set_append_right _ _ (by simp)]
 simp
theorem rowC_get (l:List Nat)(i:Nat)(h:i<l.length):(rowC l)[i]? = some (Value.int .u32 (l.getD i 0:Nat)):=by
 unfold rowC
 rw [List.getElem?_toArray,List.getElem?_append_left (by simpa using h),List.getElem?_map,List.getElem?_eq_getElem h,Z0b _ _ h]
 rfl
theorem rowC_rest (l:List Nat)(i:Nat)(h:l.length≤i)(h2:i<64):(rowC l)[i]? = some (Value.int .u32 0):=by
 unfold rowC
 rw [List.getElem?_toArray,List.getElem?_append_right (by simpa using h),List.getElem?_replicate,if_pos (by simp;omega)]
theorem rowC_full (l:List Nat)(h:l.length=64):rowC l=(l.map fun x=>Value.int .u32 (x:Nat)).toArray:=by
 simp [rowC,h]
theorem Z7F (x0 x1 x2 x3:Nat)(h0:x0<256)(h1:x1<256)(h2:x2<256)(h3:x3<256) :
  bits .or .u32 (bits .or .u32 (bits .or .u32 (IntKind.u32.wrap (IntKind.u32.wrap (x0:Int)*16777216)) (IntKind.u32.wrap (IntKind.u32.wrap (x1:Int)*65536))) (IntKind.u32.wrap (IntKind.u32.wrap (x2:Int)*256))) (IntKind.u32.wrap (x3:Int))=((x0*16777216+x1*65536+x2*256+x3:Nat):Int):=by
 have d:IntKind.u32.wrap (IntKind.u32.wrap (x0:Int)*16777216)=((x0*16777216:Nat):Int):=by rw [IntKind.wrap_u32,IntKind.wrap_u32];omega
 have c:IntKind.u32.wrap (IntKind.u32.wrap (x1:Int)*65536)=((x1*65536:Nat):Int):=by rw [IntKind.wrap_u32,IntKind.wrap_u32];omega
 have b:IntKind.u32.wrap (IntKind.u32.wrap (x2:Int)*256)=((x2*256:Nat):Int):=by rw [IntKind.wrap_u32,IntKind.wrap_u32];omega
 have a:IntKind.u32.wrap (x3:Int)=(x3:Int):=by rw [IntKind.wrap_u32];omega
 rw [d,c,b,a,u32_or_nat _ _ (by omega) (by omega),nat_join 24 _ _ (by omega) (by omega),u32_or_nat _ _ (by omega) (by omega),nat_join 16 _ _ (by omega) (by omega),u32_or_nat _ _ (by omega) (by omega),nat_join 8 _ _ (by omega) (by omega)]
theorem ss0_bits (y:Nat)(h:y<4294967296):bits .xor .u32 (bits .xor .u32 ((rotr y 7:Nat):Int) ((rotr y 18:Nat):Int)) ((y:Int)/8)=((ss0 y:Nat):Int):=by
 rw [show (y:Int)/8=((y/8:Nat):Int) by omega,u32_xor_nat _ _ (Z0m _ _) (Z0m _ _),u32_xor_nat _ _ (Z17 (Z0m _ _) (Z0m _ _)) (by omega)]
 rfl
theorem ss1_bits (y:Nat)(h:y<4294967296):bits .xor .u32 (bits .xor .u32 ((rotr y 17:Nat):Int) ((rotr y 19:Nat):Int)) ((y:Int)/1024)=((ss1 y:Nat):Int):=by
 rw [show (y:Int)/1024=((y/1024:Nat):Int) by omega,u32_xor_nat _ _ (Z0m _ _) (Z0m _ _),u32_xor_nat _ _ (Z17 (Z0m _ _) (Z0m _ _)) (by omega)]
 rfl
theorem next_bits (y16 y15 y7 y2:Nat)(h15:y15<4294967296)(h2:y2<4294967296) :
  IntKind.u32.wrap (IntKind.u32.wrap (IntKind.u32.wrap ((y16:Int)+bits .xor .u32 (bits .xor .u32 ((rotr y15 7:Nat):Int) ((rotr y15 18:Nat):Int)) ((y15:Int)/8))+(y7:Int))+bits .xor .u32 (bits .xor .u32 ((rotr y2 17:Nat):Int) ((rotr y2 19:Nat):Int)) ((y2:Int)/1024))=(((y16+ss0 y15+y7+ss1 y2)%4294967296:Nat):Int):=by
 rw [ss0_bits y15 h15,ss1_bits y2 h2,IntKind.wrap_u32,IntKind.wrap_u32,IntKind.wrap_u32]
 omega
theorem below_rowG {B g:Nat}{w0 w:World}(h:Below B w0 w)(hg:B≤g)(cs:Array Value):Below B w0 (w.setRow g cs) :=
 h.trans ⟨rfl,rfl,rfl,by simp [World.setRow],fun k hk=>setRow_other _ _ _ _ (by omega)⟩
theorem schedule_any (b:List Nat)(hb:Z03 b)(g off:Nat)(w:World)(hg:g<w.heap.size)
  (hc:∀ i,i<64→w.cell? ⟨g,off+i,none⟩=some (.int .u8 (b.getD i 0:Nat))) :
  Calls prog 152 #[.pointer (some ⟨g,off,none⟩)] w fun e w'=>e= .returned (.agg ((Z1h b).map fun x=>Value.int .u32 (x:Nat)).toArray)∧Below w.heap.size w w':=by
 have J:Hid (∀ i,i<64→w.cell? ⟨g,off+i,none⟩=some (.int .u8 (b.getD i 0:Nat))):=hc
 clear hc
 go_enter func152,ntmps152
 go_wp2_with fail
 go_loopw [8] (fun i wr=> ∃ j:Nat,j≤16∧i= .int .i64 j∧wr.heap[w.heap.size+1]? = some (.cells (rowC (Z0v b j)) 261 (0,0))∧wr.heap[w.heap.size]? = some (.cells (rowC []) 261 (0,0))∧Below w.heap.size w wr) (fun i _=>16-(intOf i).toNat)
 case atStart =>
  refine⟨0,Nat.zero_le _,rfl,?_,?_,?_⟩
  ·exact heap_alloc2_new w _ _
  ·exact heap_alloc2_old w _ _
  ·exact ((Below.refl _ _).alloc (Nat.le_refl _) _).alloc (by simp) _
 case round =>
  obtain⟨j,hj,rfl,f,u,a⟩:=hrel
  by_cases Y:j<16
  ·have c0:=(a.cell (p:=⟨g,off+4*j,none⟩) hg).trans (J.out (4*j) (by omega))
   have c1:=(a.cell (p:=⟨g,off+(4*j+1),none⟩) hg).trans (J.out (4*j+1) (by omega))
   have M:=(a.cell (p:=⟨g,off+(4*j+2),none⟩) hg).trans (J.out (4*j+2) (by omega))
   have c3:=(a.cell (p:=⟨g,off+(4*j+3),none⟩) hg).trans (J.out (4*j+3) (by omega))
   obtain⟨K,t⟩:∃ x,x=b.getD (4*j) 0:=⟨_,rfl⟩
   obtain⟨N,s⟩:∃ x,x=b.getD (4*j+1) 0:=⟨_,rfl⟩
   obtain⟨L,r⟩:∃ x,x=b.getD (4*j+2) 0:=⟨_,rfl⟩
   obtain⟨I,y⟩:∃ x,x=b.getD (4*j+3) 0:=⟨_,rfl⟩
   rw [← t] at c0
   rw [← s] at c1
   rw [← r] at M
   rw [← y] at c3
   have b0:K<256:=by rw [t];exact Z0k (by decide) hb _
   have b1:N<256:=by rw [s];exact Z0k (by decide) hb _
   have H:L<256:=by rw [r];exact Z0k (by decide) hb _
   have b3:I<256:=by rw [y];exact Z0k (by decide) hb _
   have HX:Hid (Z5x b j=K*16777216+N*65536+L*256+I):=by show Z5x b j=_;rw [Z5x,t,s,r,y]
   clear t s r y
   have t0:((4:Int)*j).toNat=4*j:=by omega
   have t1:((4:Int)*j+1).toNat=4*j+1:=by omega
   have t2:((4:Int)*j+2).toNat=4*j+2:=by omega
   have t3:((4:Int)*j+3).toNat=4*j+3:=by omega
   have q0:IntKind.i64.wrap (4*(j:Int))=4*j:=by rw [IntKind.wrap_i64];omega
   have q1:IntKind.i64.wrap (4*(j:Int)+1)=4*j+1:=by rw [IntKind.wrap_i64];omega
   have q2:IntKind.i64.wrap (4*(j:Int)+2)=4*j+2:=by rw [IntKind.wrap_i64];omega
   have q3:IntKind.i64.wrap (4*(j:Int)+3)=4*j+3:=by rw [IntKind.wrap_i64];omega
   have r0:(0:Int)≤4*(j:Int):=by omega
   have r1:(0:Int)≤4*(j:Int)+1:=by omega
   have r2:(0:Int)≤4*(j:Int)+2:=by omega
   have r3:(0:Int)≤4*(j:Int)+3:=by omega
   have s0:4*(j:Int)<64:=by omega
   have s1:4*(j:Int)+1<64:=by omega
   have s2:4*(j:Int)+2<64:=by omega
   have s3:4*(j:Int)+3<64:=by omega
   have s4:(j:Int)<64:=by omega
   have W:wr.cell? ⟨w.heap.size+1,j,none⟩=some (.int .u32 0):=(cell_of_row _ _ _ _ _ _ f).trans (rowC_rest _ _ (by rw [Z0o];exact Nat.le_refl _) (by omega))
   have G:g≠w.heap.size+1:=by omega
   have U:=G.symm
   have T:wr.frozen? ⟨w.heap.size+1,j,none⟩=false:=by simp [World.frozen?,f]
   go_wp2_with fail
   go_region_held3 (fun w'=>w'.cell? ⟨g,off+4*j,none⟩=some (.int .u8 K)∧w'.cell? ⟨g,off+(4*j+1),none⟩=some (.int .u8 N)∧w'.cell? ⟨g,off+(4*j+2),none⟩=some (.int .u8 L)∧w'.cell? ⟨g,off+(4*j+3),none⟩=some (.int .u8 I)) (simp [go_sem, *]) (fail)
   rw [Z7F K N L I b0 b1 H b3,← HX.out]
   have m:=heap_setCell_same wr (w.heap.size+1) j _ _ (Value.int .u32 (Z5x b j:Nat)) f
   have C:=(Below.heap_setCell wr ⟨w.heap.size+1,j,none⟩ (Value.int .u32 (Z5x b j:Nat)) w.heap.size (by simp)).trans u
   have o:=a.setCell (p:=⟨w.heap.size+1,j,none⟩) (by simp) (Value.int .u32 (Z5x b j:Nat))
   have E:=rowC_set (Z0v b j) (Z5x b j) (by rw [Z0o];omega)
   rw [Z0o] at E
   rw [E] at m
   clear E
   generalize wr.setCell ⟨w.heap.size+1,j,none⟩ (Value.int .u32 (Z5x b j:Nat))=w2 at *
   clear c0 c1 M c3 W T u f a
   go_wp2
   go_roundw
   case rel=>exact⟨j+1,by omega,by go_num,m,C,o.drew⟩
   case measure=>simp [intOf];omega
  ·obtain rfl:j=16:=by omega
   rw [show ((16:Nat):Int)=16 from rfl]
   go_wp2_with fail
   go_loopw [5] (fun i wr=> ∃ j:Nat,16≤j∧j≤64∧i= .int .i64 j∧wr.heap[w.heap.size+1]? = some (.cells (rowC (grow (Z0v b 16) (j-16))) 261 (0,0))∧wr.heap[w.heap.size]? = some (.cells (rowC []) 261 (0,0))∧Below w.heap.size w wr) (fun i _=>64-(intOf i).toNat)
   case atStart=>exact⟨16,Nat.le_refl _,by omega,rfl,f,u,a⟩
   case round =>
    clear f u a
    obtain⟨j,a0,a2,rfl,f,u,a⟩:=hrel
    obtain⟨l,k⟩:∃ l,l=grow (Z0v b 16) (j-16):=⟨_,rfl⟩
    have n:l.length=j:=by rw [k,Z2q,Z0o];omega
    rw [← k] at f
    by_cases Y:j<64
    ·have c:∀ i,i<j→wr.cell? ⟨w.heap.size+1,i,none⟩=some (.int .u32 (l.getD i 0:Nat)):=fun i hi=>(cell_of_row _ _ _ _ _ _ f).trans (rowC_get _ _ (by omega))
     have d:∀ i,i<j→l.getD i 0<4294967296:=fun i hi=>by
      have h1:=Z1H b i (j-16) (by omega) (by omega)
      rw [← k] at h1
      rw [← h1]
      exact Z30 hb i
     have V:=c (j-16) (by omega)
     have Z:=c (j-15) (by omega)
     have c7:=c (j-7) (by omega)
     have M:=c (j-2) (by omega)
     have a1:=d (j-16) (by omega)
     have D:=d (j-15) (by omega)
     have b7:=d (j-7) (by omega)
     have H:=d (j-2) (by omega)
     have HN:Hid (Z6E l=(l.getD (j-16) 0+ss0 (l.getD (j-15) 0)+l.getD (j-7) 0+ss1 (l.getD (j-2) 0))%4294967296):=by show Z6E l=_;rw [Z6E,n]
     have O:Hid (l=grow (Z0v b 16) (j-16)∧l.length=j):=⟨k,n⟩
     generalize l.getD (j-16) 0=y16 at *
     generalize l.getD (j-15) 0=y15 at *
     generalize l.getD (j-7) 0=y7 at *
     generalize l.getD (j-2) 0=y2 at *
     have W:wr.cell? ⟨w.heap.size+1,j,none⟩=some (.int .u32 0):=(cell_of_row _ _ _ _ _ _ f).trans (rowC_rest _ _ (by omega) (by omega))
     have T:∀ i,wr.frozen? ⟨w.heap.size+1,i,none⟩=false:=fun i=>by simp [World.frozen?,f]
     clear c d k n
     have t0:((j:Int)-16).toNat=j-16:=by omega
     have t1:((j:Int)-15).toNat=j-15:=by omega
     have t2:((j:Int)-7).toNat=j-7:=by omega
     have t3:((j:Int)-2).toNat=j-2:=by omega
     have q0:IntKind.i64.wrap ((j:Int)-16)=j-16:=by rw [IntKind.wrap_i64];omega
     have q1:IntKind.i64.wrap ((j:Int)-15)=j-15:=by rw [IntKind.wrap_i64];omega
     have q2:IntKind.i64.wrap ((j:Int)-7)=j-7:=by rw [IntKind.wrap_i64];omega
     have q3:IntKind.i64.wrap ((j:Int)-2)=j-2:=by rw [IntKind.wrap_i64];omega
     have r0:(0:Int)≤(j:Int)-16:=by omega
     have r1:(0:Int)≤(j:Int)-15:=by omega
     have r2:(0:Int)≤(j:Int)-7:=by omega
     have r3:(0:Int)≤(j:Int)-2:=by omega
     have s0:(j:Int)-16<64:=by omega
     have s1:(j:Int)-15<64:=by omega
     have s2:(j:Int)-7<64:=by omega
     have s3:(j:Int)-2<64:=by omega
     have s4:(j:Int)<64:=by omega
     have u0:(16:Int)≤(j:Int):=by omega
     have u1:(15:Int)≤(j:Int):=by omega
     have u2:(7:Int)≤(j:Int):=by omega
     have u3:(2:Int)≤(j:Int):=by omega
     go_wp2_with fail
     go_region_held3 (fun w'=>w'.cell? ⟨w.heap.size+1,j-15,none⟩=some (.int .u32 y15)∧w'.cell? ⟨w.heap.size+1,j-2,none⟩=some (.int .u32 y2)) (simp [go_sem, *]) (fail)
     go_wp2_with fail
     go_region_held3 (fun w'=>w'.cell? ⟨w.heap.size+1,j-16,none⟩=some (.int .u32 y16)∧w'.cell? ⟨w.heap.size+1,j-7,none⟩=some (.int .u32 y7)) (simp [go_sem, *]) (first | (go_at_call 153;refine (Z1Y y15 7 D (by decide) (by decide) _).mono ?_;rintro e w' ⟨rfl,rfl⟩) | (go_at_call 153;refine (Z1Y y15 18 D (by decide) (by decide) _).mono ?_;rintro e w' ⟨rfl,rfl⟩) | (go_at_call 153;refine (Z1Y y2 17 H (by decide) (by decide) _).mono ?_;rintro e w' ⟨rfl,rfl⟩) | (go_at_call 153;refine (Z1Y y2 19 H (by decide) (by decide) _).mono ?_;rintro e w' ⟨rfl,rfl⟩))
     rw [next_bits y16 y15 y7 y2 D H,← HN.out]
     have m:=heap_setCell_same wr (w.heap.size+1) j _ _ (Value.int .u32 (Z6E l:Nat)) f
     have C:=(Below.heap_setCell wr ⟨w.heap.size+1,j,none⟩ (Value.int .u32 (Z6E l:Nat)) w.heap.size (by simp)).trans u
     have o:=a.setCell (p:=⟨w.heap.size+1,j,none⟩) (by simp) (Value.int .u32 (Z6E l:Nat))
     have E:=rowC_set l (Z6E l) (by have:=O.out.2;omega)
     rw [O.out.2] at E
     rw [E] at m
     clear E
     generalize wr.setCell ⟨w.heap.size+1,j,none⟩ (Value.int .u32 (Z6E l:Nat))=w2 at *
     clear V Z c7 M W T u f a
     go_wp2
     go_roundw
     case rel =>
      refine⟨j+1,by omega,by omega,by go_num,?_,C,o.drew.drew⟩
      rw [show j+1-16=(j-16)+1 by omega,grow,← O.out.1]
      exact m
     case measure=>simp [intOf];omega
    ·obtain rfl:j=64:=by omega
     have A:rowC l=((Z1h b).map fun x=>Value.int .u32 (x:Nat)).toArray:=by
      rw [rowC_full l n,k];rfl
     have B:((Z1h b).map fun x=>Value.int .u32 (x:Nat)).toArray.size=64:=by simp [Z1N]
     have z:(((Z1h b).map fun x=>Value.int .u32 (x:Nat)).toArray).all (·.oneCell')=true:=by simp [Value.oneCell']
     rw [A] at f
     clear A n k
     obtain⟨q,F⟩:∃ q,q=((Z1h b).map fun x=>Value.int .u32 (x:Nat)).toArray:=⟨_,rfl⟩
     rw [← F] at f B z
     have X:Hid (q=((Z1h b).map fun x=>Value.int .u32 (x:Nat)).toArray):=F
     clear F
     have Q:(rowC []).size=q.size:=by rw [B];rfl
     have h:(prog.info? 261).map (·.size)=some q.size:=by rw [B];kernel_rfl
     have S:=below_rowG a (Nat.le_refl _) q
     have R:=run_loadVar_row (P:=prog) (wr.setRow w.heap.size q) w.heap.size 261 261 q (0,0) _ (setRow_heap _ _ _ _ _ _ u) underlying261 rfl h
     go_wp2_with (first | refine wpList_load_row rfl 261 _ rfl (w.heap.size+1) rfl 261 _ (0,0) _ f underlying261 rfl h ?_ | refine wpList_store_row rfl 261 _ _ rfl w.heap.size q rfl rfl 261 _ u h Q z ?_)
     exact bodyPost_ret (v:= .agg q) (by simp [results,Tryz.results152,asAddr,Act.put,R]) rfl ⟨by rw [X.out],S⟩
def Row (w:World)(g:Nat)(t:TypeId)(l:List Value):Prop:=w.heap[g]? = some (.cells l.toArray t (0,0))
def Only (b:Nat)(w w':World):Prop:=Below 0 w w'∧∀ k,k<w.heap.size→k≠b→w'.heap[k]? = w.heap[k]?
theorem Only.refl (b:Nat)(w:World):Only b w w:=⟨Below.refl _ _,fun _ _ _=>rfl⟩
theorem Only.trans {b:Nat}{w w1 w2:World}(h:Only b w w1)(k:Only b w1 w2):Only b w w2 :=
 ⟨h.1.trans k.1,fun i hi hb=>(k.2 i (Nat.lt_of_lt_of_le hi h.1.size) hb).trans (h.2 i hi hb)⟩
theorem Only.of_below {b:Nat}{w w':World}(h:Below w.heap.size w w'):Only b w w':=⟨h.mono (Nat.zero_le _),fun k hk _=>h.block k hk⟩
theorem Only.below {b:Nat}{w w':World}(h:Only b w w')(hb:b≤w.heap.size):Below b w w':=⟨h.1.os,h.1.tape,h.1.output,h.1.size,fun k hk=>h.2 k (by omega) (by omega)⟩
theorem Only.size {b:Nat}{w w':World}(h:Only b w w'):w.heap.size≤w'.heap.size:=h.1.size
theorem Only.drew {b:Nat}{w w':World}(h:Only b w w'):Only b w w'.drew:=⟨h.1.drew,fun k hk hb=>h.2 k hk hb⟩
theorem Only.setCell {b:Nat}{w w':World}(h:Only b w w')(i:Nat)(v:Value):Only b w (w'.setCell ⟨b,i,none⟩ v) :=
 ⟨h.1.setCell (p:=⟨b,i,none⟩) (Nat.zero_le _) _,fun k hk hb=>(Below.heap_setCell w' ⟨b,i,none⟩ _ k hb).trans (h.2 k hk hb)⟩
theorem set_mid (A P Q C:List Value)(v q:Value)(n:Nat)(hn:n=A.length+P.length):(A++P++(q :: Q)++C).toArray.setIfInBounds n v=(A++(P ++ [v])++Q++C).toArray:=by
 subst hn
 rw [List.setIfInBounds_toArray]
 congr 1
 rw [List.append_assoc,List.set_append_right _ _ (by simp),List.length_append,Nat.sub_self]
 simp
def beV (L n:Nat):List Value:=(List.range L).map fun i=>Value.int .u8 ((n/2 ^ (8*(L-1-i))%256:Nat):Int)
theorem Z7G (g t:Nat)(A B C:List Value)(L cap n:Nat)(hL:L≤8)(hB:B.length=L)(w:World)(hr:Row w g t (A++B++C)) :
  Calls prog 105 #[.slice (some ⟨g,A.length,none⟩) L cap,.int .u64 n] w fun e w'=>e= .returned (.tuple #[])∧Row w' g t (A++beV L n++C)∧Only g w w':=by
 go_enter func105,ntmps105
 go_wp2_with fail
 go_loopw [7] (fun i wr=> ∃ j:Nat,j≤L∧i= .int .i64 j∧Row wr g t (A++(beV L n).take j++B.drop j++C)∧Only g w wr) (fun i _=>L-(intOf i).toNat)
 case atStart=>exact⟨0,Nat.zero_le _,rfl,by simpa using hr,Only.refl _ _⟩
 case round =>
  clear hr
  obtain⟨j,G,rfl,hr,o⟩:=hrel
  by_cases u:j<L
  ·obtain⟨q,Q,f⟩:∃ q Q,B.drop j=q :: Q:=⟨B[j],B.drop (j+1),List.drop_eq_getElem_cons (by omega)⟩
   have p:Q=B.drop (j+1):=by
    have h:=congrArg List.tail f
    simpa using h.symm
   have d:(beV L n).length=L:=by simp [beV]
   have b:(beV L n).take (j+1)=(beV L n).take j ++ [Value.int .u8 ((n/2 ^ (8*(L-1-j))%256:Nat):Int)]:=by
    rw [List.take_succ_eq_append_getElem (by omega)]
    simp [beV]
   rw [f] at hr
   have a:((beV L n).take j).length=j:=by simp;omega
   have D:wr.cell? ⟨g,A.length+j,none⟩=some q:=(cell_of_row _ _ _ _ _ _ hr).trans (by
    rw [List.getElem?_toArray,List.append_assoc,List.getElem?_append_right (by simp;omega),List.length_append,a,Nat.sub_self]
    rfl)
   have x:wr.frozen? ⟨g,A.length+j,none⟩=false:=by simp [World.frozen?,show wr.heap[g]? = _ from hr]
   obtain⟨m,l⟩:∃ m,m=L-1-j:=⟨_,rfl⟩
   rw [← l] at b
   have v:(L:Int)-1-(j:Int)=m:=by omega
   have I:IntKind.i64.wrap ((L:Int)-1)=L-1:=by rw [IntKind.wrap_i64];omega
   have H:IntKind.i64.wrap (m:Int)=m:=by rw [IntKind.wrap_i64];omega
   have z:IntKind.i64.wrap (8*(m:Int))=8*m:=by rw [IntKind.wrap_i64];omega
   have E:(8*(m:Int)).toNat=8*m:=by omega
   have F:(0:Int)≤8*(m:Int):=by omega
   have y:(j:Int)<L:=by omega
   clear l f d
   have k:Value.int .u8 ((n:Int)/2 ^ (8*m)%256)=Value.int .u8 ((n/2 ^ (8*m)%256:Nat):Int):=by
    congr 1
   have c:=heap_setCell_same wr g (A.length+j) _ _ (Value.int .u8 ((n:Int)/2 ^ (8*m)%256)) hr
   rw [set_mid A ((beV L n).take j) Q C _ q _ (by rw [a]),k,← b,p] at c
   have r:Hid _:=c
   clear hr c b p a k
   go_wp2_with fail
   refine⟨⟨j+1,by omega,by go_num,?_,o.setCell _ _⟩,by simp [intOf];omega⟩
   exact r.out
  ·obtain rfl:j=L:=by omega
   go_wp2
   go_end0
   refine⟨rfl,?_,o⟩
   have h:(beV j n).take j=beV j n:=List.take_of_length_le (by simp [beV])
   have s:B.drop j= []:=List.drop_eq_nil_of_le (by omega)
   rw [h,s,List.append_nil] at hr
   exact hr
theorem putHigh_at (g t o:Nat)(A B C:List Value)(ho:o=A.length)(L cap n:Nat)(hL:L≤8)(hB:B.length=L)(w:World)(hr:Row w g t (A++B++C)) :
  Calls prog 105 #[.slice (some ⟨g,o,none⟩) L cap,.int .u64 n] w fun e w'=>e= .returned (.tuple #[])∧Row w' g t (A++beV L n++C)∧Only g w w':=by
 subst ho
 exact Z7G g t A B C L cap n hL hB w hr
def stC (s:St):Array Value:=#[.int .u32 (s.a:Nat),.int .u32 (s.b:Nat),.int .u32 (s.c:Nat),.int .u32 (s.d:Nat),.int .u32 (s.e:Nat),.int .u32 (s.f:Nat),.int .u32 (s.g:Nat),.int .u32 (s.h:Nat)]
def byV (l:List Nat):List Value:=l.map fun x=>Value.int .u8 (x:Nat)
def St.at (s:St)(i:Nat):Nat:= [s.a,s.b,s.c,s.d,s.e,s.f,s.g,s.h].getD i 0
theorem St.at_lt {s:St}(h:s.ok)(i:Nat):s.at i<4294967296:=by
 obtain⟨f,b,a,e,c,d,j,g⟩:=h
 refine Z0k (by decide) (fun x hx=> ?_) i
 simp only [List.mem_cons,List.not_mem_nil,or_false] at hx
 rcases hx with rfl | rfl | rfl | rfl | rfl | rfl | rfl | rfl <;> assumption
theorem stC_at (s:St)(i:Nat)(h:i<8):(stC s)[i]? = some (.int .u32 (s.at i:Nat)):=by
 match i,h with
 | 0,_=>rfl
 | 1,_=>rfl
 | 2,_=>rfl
 | 3,_=>rfl
 | 4,_=>rfl
 | 5,_=>rfl
 | 6,_=>rfl
 | 7,_=>rfl
theorem beV4 (n:Nat):beV 4 n=byV (be4 n):=by
 simp [beV,byV,be4,List.range,List.range.loop]
def outN (s:St):Nat→List Nat
 | 0=> []
 | n+1=>outN s n++be4 (s.at n)
theorem Z33 (s:St):∀ n,(outN s n).length=4*n
 | 0=>rfl
 | n+1=>by rw [outN,List.length_append,Z33 s n,be4_length];omega
theorem outN_all (s:St):outN s 8=outL s:=rfl
def digV (l:List Nat):List Value:=byV l++List.replicate (32-l.length) (Value.int .u8 0)
theorem Z0l {B g:Nat}{w0 w:World}(h:Below B w0 w)(hg:B≤g)(cs:Array Value):Below B w0 (w.setRow g cs) :=
 h.trans ⟨rfl,rfl,rfl,by simp [World.setRow],fun k hk=>setRow_other _ _ _ _ (by omega)⟩
theorem Z50 (cs:Array Value)(j:Nat)(v:Value)(hj:j<8)(hv:cs[j]? = some v)(w:World):(Instr.index 146 (.agg cs) (.int .i64 j)).run prog w= .ok v w:=by
 simp [Instr.index,run_underlying underlying146,asIntOf,hj,hv,go_sem]
theorem digV_split (s:St)(j:Nat)(h:j<8):digV (outN s j)=byV (outN s j)++List.replicate 4 (Value.int .u8 0)++List.replicate (28-4*j) (Value.int .u8 0):=by
 rw [digV,Z33,List.append_assoc,List.replicate_append_replicate]
 congr 2
 omega
theorem digV_step (s:St)(j:Nat)(h:j<8):byV (outN s j)++beV 4 (s.at j)++List.replicate (28-4*j) (Value.int .u8 0)=digV (outN s (j+1)):=by
 rw [digV,Z33,beV4,outN,byV,byV,byV,List.map_append]
 congr 2
 omega
theorem Z1T (s:St)(hs:s.ok)(w:World) :
  Calls prog 154 #[.agg (stC s)] w fun e w'=>e= .returned (.agg (byV (outL s)).toArray)∧Below w.heap.size w w':=by
 have K:Hid (∀ i,i<8→(stC s)[i]? = some (.int .u32 (s.at i:Nat))∧s.at i<4294967296):=fun i h=>⟨stC_at s i h,St.at_lt hs i⟩
 have c:(prog.info? 146).map (·.size)=some (stC s).size:=by show _=some 8;kernel_rfl
 obtain⟨n,o⟩:∃ n,n=stC s:=⟨_,rfl⟩
 rw [← o] at K c
 rw [← o]
 clear o
 have r:∀ o1 o2,(((w.alloc (.cells n 146)).alloc o1).alloc o2).heap[w.heap.size]? = some (.cells n 146 (0,0)):=fun o1 o2=>(Below.heap_alloc _ _ _ (by simp;omega)).trans (heap_alloc2_old w _ _)
 go_enter func154,ntmps154
 go_wp2_with (refine wpList_load_row rfl 146 _ rfl w.heap.size rfl 146 _ (0,0) _ (r _ _) underlying146 rfl c ?_)
 have N:Hid (Below w.heap.size w (((w.alloc (.cells n 146)).alloc (.cells (digV []).toArray 156)).alloc (.cells (digV []).toArray 156))):=(((Below.refl _ _).alloc (Nat.le_refl _) _).alloc (by simp) _).alloc (by simp;omega) _
 clear r c
 go_loopw [7] (fun i wr=> ∃ j:Nat,j≤8∧i= .int .i64 j∧Row wr (w.heap.size+1+1) 156 (digV (outN s j))∧Row wr (w.heap.size+1) 156 (digV [])∧Below w.heap.size w wr) (fun i _=>8-(intOf i).toNat)
 case atStart =>
  refine⟨0,Nat.zero_le _,rfl,?_,?_,N.out⟩
  ·have:=heap_alloc_new ((w.alloc (.cells n 146)).alloc (.cells (digV []).toArray 156)) (.cells (digV []).toArray 156)
   simpa [Row,digV,outN,byV] using this
  ·exact (Below.heap_alloc _ _ _ (by simp)).trans (heap_alloc2_new w _ _)
 case round =>
  obtain⟨j,U,rfl,p,z,m⟩:=hrel
  by_cases g:j<8
  ·obtain⟨F,H⟩:=K.out j g
   obtain⟨x,E⟩:∃ x,x=s.at j:=⟨_,rfl⟩
   rw [← E] at F H
   have I:=Z50 n j _ g F wr
   clear F
   have L:Hid (x=s.at j):=E
   clear E
   have Q:IntKind.i64.wrap (4*(j:Int))=4*j:=by rw [IntKind.wrap_i64];omega
   have V:IntKind.i64.wrap (4*(j:Int)+4)=4*j+4:=by rw [IntKind.wrap_i64];omega
   have X:((4:Int)*j).toNat=4*j:=by omega
   have R:((4:Int)*j+4).toNat=4*j+4:=by omega
   have W:(0:Int)≤4*(j:Int):=by omega
   have Y:4*(j:Int)≤4*(j:Int)+4:=by omega
   have O:4*(j:Int)+4≤32:=by omega
   have T:(j:Int)<8:=by omega
   have S:¬ 32=4*j:=by omega
   have f:Row wr (w.heap.size+1+1) 156 (byV (outN s j)++List.replicate 4 (Value.int .u8 0)++List.replicate (28-4*j) (Value.int .u8 0)):=by rw [← digV_split s j g];exact p
   have C:=putHigh_at (w.heap.size+1+1) 156 (4*j) _ _ _ (by simp [byV,Z33]) 4 (32-4*j) x (by decide) (by simp) wr f
   have M:Hid (byV (outN s j)++beV 4 x++List.replicate (28-4*j) (Value.int .u8 0)=digV (outN s (j+1))):=by
    show _=_
    rw [L.out];exact digV_step s j g
   rw [M.out] at C
   clear p f
   go_wp2_with fail
   refine C.mono ?_
   rintro e w2 ⟨rfl,p,D⟩
   have q:w.heap.size+1<wr.heap.size:=lt_of_block z
   have k:Row w2 (w.heap.size+1) 156 (digV []):=(D.2 _ q (by omega)).trans z
   have u:Below w.heap.size w w2:=m.trans ((D.below (by omega)).mono (by omega))
   clear C z m I D
   go_wp2
   go_roundw
   case rel=>exact⟨j+1,by omega,by go_num,p,k,u⟩
   case measure=>simp [intOf];omega
  ·obtain rfl:j=8:=by omega
   have l:digV (outN s 8)=byV (outL s):=by rw [digV,Z33,outN_all];simp
   rw [l] at p
   obtain⟨b,d⟩:∃ b,b=(byV (outL s)).toArray:=⟨_,rfl⟩
   have t:b.size=32:=by rw [d];simp [byV,Z1u]
   have y:b.all (·.oneCell')=true:=by rw [d];simp [byV,Value.oneCell']
   have f:wr.heap[w.heap.size+1+1]? = some (.cells b 156 (0,0)):=by rw [d];exact p
   have G:Hid (b=(byV (outL s)).toArray):=d
   clear d p l
   have k:wr.heap[w.heap.size+1]? = some (.cells (digV []).toArray 156 (0,0)):=z
   have A:(digV []).toArray.size=b.size:=by rw [t];rfl
   have a:(prog.info? 156).map (·.size)=some b.size:=by rw [t];kernel_rfl
   have J:=Z0l m (show w.heap.size≤w.heap.size+1 by omega) b
   have B:=run_loadVar_row (P:=prog) (wr.setRow (w.heap.size+1) b) (w.heap.size+1) 156 156 b (0,0) _ (setRow_heap _ _ _ _ _ _ k) underlying156 rfl a
   go_wp2_with (first | refine wpList_load_row rfl 156 _ rfl (w.heap.size+1+1) rfl 156 _ (0,0) _ f underlying156 rfl a ?_ | refine wpList_store_row rfl 156 _ _ rfl (w.heap.size+1) b rfl rfl 156 _ k a A y ?_)
   exact bodyPost_ret (v:= .agg b) (by simp [results,Tryz.results154,asAddr,Act.put,B]) rfl ⟨by rw [G.out],J⟩
end Sm
end Go.Proofs.YtijpgmkdnemmbaaGreatDoor
