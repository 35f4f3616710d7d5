/- Part 50. -/
import Derived.Test.YtijpgmkdnemmbaaGreatDoorMg49
set_option maxRecDepth 20000
set_option maxHeartbeats 8000000
open Go.RowKit Go.Proofs.Tryz
namespace Go.Proofs.YtijpgmkdnemmbaaGreatDoor
namespace Bx
theorem Z69 (a b:ByteArray):Z00 (a++b)=Z00 a++Z00 b:=by simp [Z00,ByteArray.data_append]
set_option maxRecDepth 10000 in
theorem rmark_any (key nonce ad c:ByteArray)(hk:key.size=32)(hn:nonce.size=12)(had:ad.size≤1048576)(hc:c.size≤1048576)(w:World) :
  Calls prog 111 #[.string key,.string nonce,.string ad,.string c] w fun e w'=>e= .returned (.string (strN (Z2c key nonce ad (Z00 c))))∧Below w.heap.size w w':=by
 have C:=fun W=>rBlock_any key nonce hk hn 0 (by decide) W
 have i:(chaL (Z00 key) (Z00 nonce) 0).length=64:=Z7O _ _ _
 have k:Z03 (chaL (Z00 key) (Z00 nonce) 0):=chaL_bytes _ _ _
 have y:Z2c key nonce ad (Z00 c)=Z64 ((chaL (Z00 key) (Z00 nonce) 0).take 32) (Z1f (Z00 ad)++Z1f (Z00 c)++(leB 8 ad.size++leB 8 c.size)):=by
  rw [Z2c,sealT,sealM,Z01,Z01]
 rw [y]
 clear y
 generalize chaL (Z00 key) (Z00 nonce) 0=BL at *
 have Q:(strN BL).size=64:=by rw [Z0X];exact i
 have g:Z00 ((strN BL).extract 0 32)=BL.take 32:=by rw [Z0h,Z14 _ k];rfl
 have f:((strN BL).extract 0 32).size=32:=by simp;omega
 obtain⟨E,a⟩:∃ E:ByteArray→ByteArray,E=fun s=>strN (Z1f (Z00 s)):=⟨_,rfl⟩
 obtain⟨L,b⟩:∃ L:Nat→ByteArray,L=fun n=>strN (leB 8 n):=⟨_,rfl⟩
 have H:∀ s:ByteArray,s.size≤1048576→∀ W,Calls prog 138 #[.string s] W fun e w'=>e= .returned (.string (E s))∧Below W.heap.size W w':=fun s hs W=>by
  rw [a]
  exact (reven_any s hs W).mono fun e w' ⟨h,h2⟩=>⟨h,by rw [h2];exact Below.refl _ _⟩
 have B:∀ n:Nat,n≤1048576→∀ W,Calls prog 139 #[.int .i64 n] W fun e w'=>e= .returned (.string (L n))∧Below W.heap.size W w':=fun n hn W=>by
  rw [b]
  exact rlong_any n (by omega) W
 have K:(E ad).size≤1048592:=by rw [a];show (strN (Z1f (Z00 ad))).size≤_;rw [Z0X,Z1f];simp [Z01];omega
 have D:(E c).size≤1048592:=by rw [a];show (strN (Z1f (Z00 c))).size≤_;rw [Z0X,Z1f];simp [Z01];omega
 have M:(L ad.size).size=8:=by rw [b];show (strN (leB 8 ad.size)).size=_;rw [Z0X,Z11]
 have F:(L c.size).size=8:=by rw [b];show (strN (leB 8 c.size)).size=_;rw [Z0X,Z11]
 have v:Z00 (E ad)=Z1f (Z00 ad):=by rw [a];exact Z14 _ (Z6t _ (Z04 ad))
 have t:Z00 (E c)=Z1f (Z00 c):=by rw [a];exact Z14 _ (Z6t _ (Z04 c))
 have z:Z00 (L ad.size)=leB 8 ad.size:=by rw [b];exact Z14 _ (Z37 _ _)
 have r:Z00 (L c.size)=leB 8 c.size:=by rw [b];exact Z14 _ (Z37 _ _)
 rw [← v,← t,← z,← r]
 clear v t z r a b
 have x:Z00 (E ad)++Z00 (E c)++(Z00 (L ad.size)++Z00 (L c.size))=Z00 (E ad++E c++L ad.size++L c.size):=by
  rw [Z69,Z69,Z69,List.append_assoc (Z00 (E ad)++Z00 (E c))]
 rw [x,← g]
 clear x g
 have G:(E ad++E c).size≤2097184:=by rw [ByteArray.size_append];omega
 have I:(E ad++E c++L ad.size).size≤2097192:=by rw [ByteArray.size_append];omega
 have O:(E ad++E c++L ad.size++L c.size).size≤2097200:=by rw [ByteArray.size_append];omega
 have U:∀ w',(Op.stringOp .add (E ad) (E c)).run prog w'= .ok (.string (E ad++E c)) w':=fun w'=>run_string_add_sum (P:=prog) (w:=w') _ _ (by omega)
 have S:∀ w',(Op.stringOp .add (E ad++E c) (L ad.size)).run prog w'= .ok (.string (E ad++E c++L ad.size)) w':=fun w'=>run_string_add_sum (P:=prog) (w:=w') _ _ (by omega)
 have V:∀ w',(Op.stringOp .add (E ad++E c++L ad.size) (L c.size)).run prog w'= .ok (.string (E ad++E c++L ad.size++L c.size)) w':=fun w'=>run_string_add_sum (P:=prog) (w:=w') _ _ (by omega)
 have u:=fun W=>rTag_any ((strN BL).extract 0 32) (E ad++E c++L ad.size++L c.size) (by omega) W
 have l:tagS ((strN BL).extract 0 32) (E ad++E c++L ad.size++L c.size)=strN (Z64 (Z00 ((strN BL).extract 0 32)) (Z00 (E ad++E c++L ad.size++L c.size))):=by unfold tagS;rw [if_pos f]
 have j:tagE ((strN BL).extract 0 32)=0:=by unfold tagE;rw [if_pos f]
 rw [← l]
 simp only [j] at u
 generalize tagS ((strN BL).extract 0 32) (E ad++E c++L ad.size++L c.size)=T at *
 generalize E ad++E c++L ad.size++L c.size=X3 at *
 generalize E ad++E c++L ad.size=X2 at *
 generalize E ad++E c=X1 at *
 generalize strN BL=BS at *
 have J:BS.extract 0 32=BS.extract 0 32:=rfl
 clear K D M F G I O l j i k f J
 have N:(32:Int)≤(BS.size:Int):=by omega
 go_enter func111,ntmps111
 go_wp2_with fail
 go_region_held3 (fun _=>True) (exact trivial) (first | (go_at_call 136;refine (C _).mono ?_;rintro e Y ⟨rfl,p⟩;have d:=(Below.refl w.heap.size w).drew.trans p) | (go_at_call 138;refine (H _ (by first | exact had | exact hc) _).mono ?_;rintro e X ⟨rfl,q⟩;have d:=d.trans (q.mono d.size)) | (go_at_call 139;refine (B _ (by first | exact had | exact hc) _).mono ?_;rintro e Z ⟨rfl,m⟩;have d:=d.trans (m.mono d.size)) | (go_at_call 137;refine (u _).mono ?_;rintro e R ⟨rfl,o⟩;have d:=d.trans (o.mono d.size)))
 have A:Hid _:=d
 clear d
 go_wp2
 go_ret
 exact⟨rfl,A.out⟩
theorem strm_ok (key nonce s:ByteArray)(h:fitP key nonce)(hs:s.size≤1048576):Z5J key nonce 1 s=0∧strmS key nonce 1 s=strN (chaS (Z00 key) (Z00 nonce) 1 (Z00 s)):=by
 have a:Z5J key nonce 1 s=0:=by
  unfold Z5J
  rw [if_neg (fun hh=>hh h),if_neg]
  unfold strmB
  omega
 refine⟨a,?_⟩
 unfold strmS
 rw [if_pos a]
 rfl
theorem strm_bad (key nonce s:ByteArray)(h:¬ fitP key nonce):Z5J key nonce 1 s=1∧strmS key nonce 1 s=⟨#[]⟩:=by
 have a:Z5J key nonce 1 s=1:=by
  unfold Z5J
  exact if_pos h
 refine⟨a,?_⟩
 unfold strmS
 rw [a]
 rfl
set_option maxRecDepth 10000 in
theorem rSeal_ok (key nonce ad s:ByteArray)(h:fitP key nonce)(had:ad.size≤1048576)(hs:s.size≤1048576)(w:World) :
  Calls prog 74 #[.string key,.string nonce,.string ad,.string s] w fun e w'=>e= .returned (.tuple #[.string (strN (Z0R key nonce s++Z2c key nonce ad (Z0R key nonce s))),.int .i64 0])∧Below w.heap.size w w':=by
 have c:=fun W=>Z85 key nonce s hs 1 W
 obtain⟨n,p⟩:=strm_ok key nonce s h hs
 simp only [n,p] at c
 have k:Z03 (Z0R key nonce s):=Z67 _ _ _ _ (Z04 s)
 have d:(Z0R key nonce s).length=s.size:=by rw [Z0R,Z23,Z01]
 have f:=fun W=>rmark_any key nonce ad (strN (Z0R key nonce s)) h.1 h.2 had (by rw [Z0X,d];exact hs) W
 rw [Z14 _ k] at f
 have a:∀ W,Calls prog 110 #[.string key,.string nonce,.int .i64 1,.string s] W fun e w'=>e= .returned (.tuple #[.string (strN (Z0R key nonce s)),.int .i64 0])∧Below W.heap.size W w':=c
 clear c
 have i:(Z2c key nonce ad (Z0R key nonce s)).length=16:=Z4j _ _
 rw [← Z81]
 have r:(strN (Z0R key nonce s)).size=s.size:=by rw [Z0X,d]
 have q:(strN (Z2c key nonce ad (Z0R key nonce s))).size=16:=by rw [Z0X,i]
 generalize strN (Z2c key nonce ad (Z0R key nonce s))=G at *
 generalize strN (Z0R key nonce s)=C at *
 obtain⟨l,g⟩:∃ l,l=C++G:=⟨_,rfl⟩
 have o:∀ w',(Op.stringOp .add C G).run prog w'= .ok (.string l) w':=fun w'=>by rw [g];exact run_string_add_sum (P:=prog) (w:=w') C G (by omega)
 rw [← g]
 clear g k d i n p h
 go_enter func74,ntmps74
 go_wp2_with fail
 refine (a _).mono ?_
 rintro e u ⟨rfl,b⟩
 clear a
 go_wp2_with fail
 refine (f _).mono ?_
 rintro e t ⟨rfl,j⟩
 have m:=b.trans (j.mono b.size)
 clear f b j
 go_wp2
 go_ret2
 exact⟨rfl,m⟩
set_option maxRecDepth 10000 in
theorem rSeal_bad (key nonce ad s:ByteArray)(h:¬ fitP key nonce)(hs:s.size≤1048576)(w:World) :
  Calls prog 74 #[.string key,.string nonce,.string ad,.string s] w fun e w'=>e= .returned (.tuple #[.string ⟨#[]⟩,.int .i64 1])∧Below w.heap.size w w':=by
 have a:=fun W=>Z85 key nonce s hs 1 W
 obtain⟨c,d⟩:=strm_bad key nonce s h
 simp only [c,d] at a
 clear c d h
 go_enter func74,ntmps74
 go_wp2_with fail
 refine (a _).mono ?_
 rintro e f ⟨rfl,b⟩
 clear a
 go_wp2
 go_ret2
 exact⟨rfl,b⟩
theorem rSeal_any (key nonce ad s:ByteArray)(had:ad.size≤1048576)(hs:s.size≤1048576)(w:World) :
  Calls prog 74 #[.string key,.string nonce,.string ad,.string s] w fun e w'=>e= .returned (.tuple #[.string (Z6B key nonce ad s),.int .i64 (sealE key nonce:Nat)])∧Below w.heap.size w w':=by
 unfold Z6B sealE
 by_cases h:fitP key nonce
 ·rw [if_pos h,if_pos h]
  exact rSeal_ok key nonce ad s h had hs w
 ·rw [if_neg h,if_neg h]
  exact rSeal_bad key nonce ad s h hs w
end Bx
end Go.Proofs.YtijpgmkdnemmbaaGreatDoor
