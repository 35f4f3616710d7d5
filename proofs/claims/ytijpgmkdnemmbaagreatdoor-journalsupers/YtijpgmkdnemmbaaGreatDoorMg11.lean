/- Part 11. -/
import Derived.Test.YtijpgmkdnemmbaaGreatDoorMg10
set_option maxRecDepth 20000
set_option maxHeartbeats 8000000
open Go.RowKit Go.Proofs.Tryz
namespace Go.Proofs.YtijpgmkdnemmbaaGreatDoor
section
open Go.RowKit Go.Lib
structure Hd where
 v0:Int
 v1:Int
 v2:Int
 v3:Int
 v4:Int
 v5:Int
 v6:Int
 v7:Int
deriving DecidableEq
def Hd.arr (h:Hd):Array Value:=#[.int .i64 h.v0,.int .i64 h.v1,.int .i64 h.v2,.int .i64 h.v3,.int .i64 h.v4,.int .i64 h.v5,.int .i64 h.v6,.int .i64 h.v7]
def Hd.zero:Hd:=⟨0,0,0,0,0,0,0,0⟩
def Hd.ps (h:Hd):List (Int × Int):=Z24 h.v0 h.v1 h.v2 h.v3 h.v4 h.v5 h.v6 h.v7
def Hd.txt (h:Hd):ByteArray:=recS [71,82,80,78] h.ps 8
def Hd.err (h:Hd):Int:=recE h.ps
def hdOf (s:ByteArray):Hd:=⟨Z1g s 4 6,Z1g s 10 4,Z1g s 14 2,Z1g s 16 4,Z1g s 20 4,Z1g s 24 4,Z1g s 28 6,Z1g s 34 6⟩
theorem hd_back {s:ByteArray}(h:Z1s s=0):(hdOf s).err=0∧(hdOf s).txt=s:=head_back h
theorem Z7j {h:Hd}(e:h.err=0):Z0r h.ps=true:=Z7e e
theorem hd_list {h:Hd}(e:h.err=0):h.txt.data.toList= [71,82,80,78]++Z0N h.ps++List.replicate 8 0∧(Z0N h.ps).length=36:=by
 have a:=Z1p h.ps (Z7j e)
 refine⟨?_,a⟩
 unfold Hd.txt
 rw [Z5Q (Z7j e)]
theorem Z2o {h:Hd}(e:h.err=0):h.txt.size=48:=by
 obtain⟨b,a⟩:=hd_list e
 rw [← Z2x,b]
 simp [a]
theorem Z6P {h:Hd}(e:h.err=0):Z1s h.txt=0:=by
 obtain⟨g,a⟩:=hd_list e
 have j:=Z2o e
 have c:=Z3g h.txt 0 4
 have b:=Z3g h.txt 40 48
 rw [g] at c b
 have d:(h.txt.extract 0 4).toList= [71,82,80,78]:=by
  rw [ByteArray.toList_eq,← c]
  simp
 have f:allZ (h.txt.extract 40 48)=true:=by
  unfold allZ
  have i:List.take (48-40) (List.drop 40 ([71,82,80,78]++Z0N h.ps++List.replicate 8 0))=List.replicate 8 0:=by
   rw [List.drop_append_of_le_length (by simp [a]),List.drop_of_length_le (by simp [a])]
   rfl
  rw [← b,i]
  rfl
 unfold Z1s
 rw [if_neg (by omega),if_neg (by omega),if_pos (by rw [d];rfl),if_pos f]
theorem hd_inj {g h:Hd}(eg:g.err=0)(eh:h.err=0)(e:g.txt=h.txt):g=h:=by
 have:=(recS_inj (pre:= [71,82,80,78]) (pre':= [71,82,80,78]) (ps:=g.ps) (qs:=h.ps) (z:=8) rfl rfl (Z7j eg) (Z7j eh) e).2
 obtain⟨a,r,c,d,k,b,j,n⟩:=g
 obtain⟨o,p,f,l,i,m,q,s⟩:=h
 simp [Hd.ps,Z24] at this
 obtain⟨rfl,rfl,rfl,rfl,rfl,rfl,rfl,rfl⟩:=this
 rfl
theorem Z5g {h:Hd}(e:h.err=0):hdOf h.txt=h:=by
 obtain⟨b,a⟩:=hd_back (Z6P e)
 exact hd_inj b e a
def nonceS (a v:Int):ByteArray:=padS (putS a 4++putS v 6) 12
def Hd.nonce (h:Hd):ByteArray:=nonceS h.v1 h.v6
theorem hd_puts {h:Hd}(e:h.err=0):putE h.v1 4=0∧putE h.v6 6=0∧putE h.v7 6=0:=by
 have:=Z7j e
 simp only [Hd.ps,Z24,Z0r,Bool.and_eq_true,beq_iff_eq] at this
 exact⟨this.2.1,this.2.2.2.2.2.2.1,this.2.2.2.2.2.2.2.1⟩
theorem Z5h {n k:Int}(h:putE n k=0):(putS n k).size=k.toNat:=by
 have:=Z5a h
 rw [Z2x] at this
 exact this
theorem Z6Q {h:Hd}(e:h.err=0):h.nonce=putS h.v1 4++putS h.v6 6++Z0S 2∧h.nonce.size=12:=by
 obtain⟨d,c,_⟩:=hd_puts e
 have g:=Z5h d
 have f:=Z5h c
 have b:(putS h.v1 4++putS h.v6 6).size=10:=by rw [ByteArray.size_append,g,f];rfl
 have a:h.nonce=putS h.v1 4++putS h.v6 6++Z0S 2:=by
  unfold Hd.nonce nonceS
  have:=Z5P (s:=putS h.v1 4++putS h.v6 6) (n:=12) (by decide) (by omega)
  rw [Z4v,show (12:Int)=((12:Nat):Int) from rfl,this,b]
 refine⟨a,?_⟩
 rw [a,ByteArray.size_append,b,Z1L]
theorem salt_fits {h:Hd}(e:h.err=0):0≤h.v7∧h.v7≤281474976710655:=by
 obtain⟨_,_,a⟩:=hd_puts e
 unfold putE at a
 split at a
 ·omega
 split at a
 ·omega
 ·rename_i h4
  rw [show (256:Int) ^ (6:Int).toNat=281474976710656 by decide] at h4
  omega
theorem Z7k {h:Hd}(e:h.err=0):fitB h.v7 h.nonce=true:=by
 have:=salt_fits e
 have:=(Z6Q e).2
 simp [fitB]
 omega
def Hd.four (h:Hd)(s:ByteArray):Four:=⟨h.v7,h.nonce,h.txt,s⟩
theorem four_fit {h:Hd}{s:ByteArray}(e:h.err=0)(hs:s.size≤140737488355328):fitF (h.four s):=by
 have c:=salt_fits e
 have b:=(Z6Q e).2
 have a:=Z2o e
 refine⟨?_,by show h.nonce.size≤_;omega,by show h.txt.size≤_;omega,hs⟩
 show (decide (IntKind.i64.min≤h.v7)&&decide (h.v7≤IntKind.i64.max))=true
 rw [show IntKind.i64.min= -9223372036854775808 from rfl,show IntKind.i64.max=9223372036854775807 from rfl]
 simp
 omega
def blkS (h:Hd)(s:ByteArray)(n:Nat):ByteArray:=h.txt++(s++Z1t n 16)
theorem ba_cut {a b:ByteArray}{n:Nat}(ha:a.size=n):(a++b).extract 0 n=a∧(a++b).extract n (n+b.size)=b:=by
 subst ha
 constructor
 ·exact ByteArray.extract_append_eq_left rfl
 ·exact ByteArray.extract_append_eq_right rfl rfl
theorem blk_size {h:Hd}{s:ByteArray}{n:Nat}(e:h.err=0)(hs:s.size=448)(hn:n<281474976710656):(blkS h s n).size=512:=by
 unfold blkS
 rw [ByteArray.size_append,ByteArray.size_append,Z2o e,hs,Z3t hn (by decide)]
theorem blk_parts {h:Hd}{s:ByteArray}{n:Nat}(e:h.err=0)(hs:s.size=448)(hn:n<281474976710656):(blkS h s n).extract 0 48=h.txt∧(blkS h s n).extract 48 512=s++Z1t n 16∧Z1U (s++Z1t n 16)=s∧Z3u (s++Z1t n 16)=Z1t n 16:=by
 have g:=Z3t (k:=16) hn (by decide)
 have d:=ba_cut (a:=h.txt) (b:=s++Z1t n 16) (Z2o e)
 have c:=ba_cut (a:=s) (b:=Z1t n 16) hs
 have f:(s++Z1t n 16).size=464:=by rw [ByteArray.size_append,hs,g]
 rw [f] at d
 rw [g] at c
 refine⟨d.1,d.2,?_,?_⟩
 ·unfold Z1U;rw [f];exact c.1
 ·unfold Z3u;rw [f];exact c.2
theorem ba_two (r:ByteArray){n:Nat}(h:n≤r.size):r.extract 0 n++r.extract n r.size=r:=by
 rw [ByteArray.extract_append_extract]
 simp [Nat.max_eq_right h]
def Z2h (h:Hd)(s:ByteArray):Bool:=decide (s.size=448∧h.err=0)
def Z2J (S:VS)(h:Hd)(s:ByteArray):ByteArray:=if Z2h h s then blkS h s (Z0f (addN S.seals (h.four s)) (h.four s)) else ⟨#[]⟩
def Z0p (h:Hd)(s:ByteArray):Int:=if s.size=448 then h.err else 1
def Z1G (S:VS)(h:Hd)(s:ByteArray):VS:=if Z2h h s then { S with seals:=addN S.seals (h.four s)} else S
def opensB (S:VS)(r:ByteArray):Bool:=Z42 S (hdOf (r.extract 0 48)).v7 (hdOf (r.extract 0 48)).nonce (r.extract 0 48) (r.extract 48 512)
def Z2i (S:VS)(r:ByteArray):Int:=if r.size=512 then (if Z1s (r.extract 0 48)=0 then (if opensB S r then 0 else 10) else Z1s (r.extract 0 48)) else 1
def Z41 (S:VS)(r:ByteArray):Hd:=if Z2i S r=0 then hdOf (r.extract 0 48) else Hd.zero
def Z2X (S:VS)(r:ByteArray):ByteArray:=if Z2i S r=0 then Z1U (r.extract 48 512) else ⟨#[]⟩
theorem bopen_iff (S:VS)(r:ByteArray)(hl:S.seals.length≤1000000):Z2i S r=0 ↔ ∃ h s,h.err=0∧s.size=448∧Z0f S.seals (h.four s)≠0∧r=blkS h s (Z0f S.seals (h.four s)):=by
 constructor
 ·intro a
  unfold Z2i at a
  by_cases c:r.size=512
  case neg=>rw [if_neg c] at a;omega
  rw [if_pos c] at a
  by_cases d:Z1s (r.extract 0 48)=0
  case neg=>rw [if_neg d] at a;omega
  rw [if_pos d] at a
  by_cases f:opensB S r=true
  case neg=>rw [if_neg f] at a;omega
  obtain⟨o,k⟩:=hd_back d
  have j:Z0f S.seals ((hdOf (r.extract 0 48)).four (Z1U (r.extract 48 512)))≠0∧Z3u (r.extract 48 512)=Z1t (Z0f S.seals ((hdOf (r.extract 0 48)).four (Z1U (r.extract 48 512)))) 16:=by
   simp only [Hd.four,k]
   simpa [opensB,Z42] using f
  have q:(r.extract 48 512).size=464:=by simp [c]
  refine⟨hdOf (r.extract 0 48),Z1U (r.extract 48 512),o,?_,j.1,?_⟩
  ·simp [Z1U,q]
  ·unfold blkS
   rw [k,← j.2]
   have n:Z1U (r.extract 48 512)++Z3u (r.extract 48 512)=r.extract 48 512:=by
    unfold Z1U Z3u
    exact ba_two _ (by omega)
   rw [n,← c]
   exact (ba_two r (by omega)).symm
 ·rintro⟨h,s,e,i,t,rfl⟩
  have b:Z0f S.seals (h.four s)<281474976710656:=by have:=Z2u (h.four s) S.seals;omega
  obtain⟨g,m,l,p⟩:=blk_parts e i b
  unfold Z2i
  rw [if_pos (blk_size e i b),g,if_pos (Z6P e),if_pos]
  unfold opensB
  rw [g,m,Z5g e]
  unfold Z42
  rw [l,p]
  exact decide_eq_true ⟨t,rfl⟩
theorem bopen_blk (S:VS)(h:Hd)(s:ByteArray)(hl:S.seals.length≤1000000)(e:h.err=0)(hs:s.size=448)(hn:Z0f S.seals (h.four s)≠0):Z2i S (blkS h s (Z0f S.seals (h.four s)))=0∧Z41 S (blkS h s (Z0f S.seals (h.four s)))=h∧Z2X S (blkS h s (Z0f S.seals (h.four s)))=s:=by
 have b:Z0f S.seals (h.four s)<281474976710656:=by have:=Z2u (h.four s) S.seals;omega
 obtain⟨f,d,c,g⟩:=blk_parts e hs b
 have a:=(bopen_iff S _ hl).2 ⟨h,s,e,hs,hn,rfl⟩
 refine⟨a,?_,?_⟩
 ·unfold Z41;rw [if_pos a,f,Z5g e]
 ·unfold Z2X;rw [if_pos a,d,c]
theorem Z4c (s:ByteArray)(w:World):Calls prog 140 #[.string s] w fun e w'=>e= .returned (.bool (decide (s.size=512)))∧w'=w:=by
 by_cases h:s.size=512
 ·have a:(s.size:Int)=512:=by omega
  rw [decide_eq_true h]
  go_enter func140,ntmps140
  go_wp2
  go_ret
  exact⟨rfl,rfl⟩
 ·have a:((s.size:Int)==512)=false:=beq_false_of_ne (by omega)
  rw [decide_eq_false h]
  go_enter func140,ntmps140
  go_wp2
  go_ret
  exact⟨rfl,rfl⟩
theorem nonce_any (h:Hd)(w:World):Calls prog 32 #[.agg h.arr] w fun e w'=>e= .returned (.string h.nonce)∧Below w.heap.size w w':=by
 obtain⟨u,g,s,y,B,v,i,o⟩:=h
 simp only [Hd.arr,Hd.nonce,nonceS]
 have r:(putS g 4).size≤6:=by have:=Z78 g 4;simpa using this
 have z:(putS i 6).size≤6:=by have:=Z78 i 6;simpa using this
 have k:=fun w=>Z3J g 4 w
 have l:=fun w=>Z3J i 6 w
 generalize putS g 4=p at *
 generalize putS i 6=q at *
 have j:(p++q).size≤maxLen:=by rw [ByteArray.size_append];unfold maxLen;omega
 go_enter func32,ntmps32
 go_wp2_with fail
 refine (k _).mono ?_
 rintro e t ⟨rfl,b⟩
 have n:=Z0u b 6 _ rfl
 have a:=((Below.refl _ _).alloc (Nat.le_refl _) _).trans (b.mono (by simp))
 clear b
 go_wp2_with fail
 refine (l _).mono ?_
 rintro e x ⟨rfl,f⟩
 have c:=a.trans (f.mono a.size)
 clear f n a
 go_wp2_with fail
 refine (Z7h (p++q) 12 _).mono ?_
 rintro e A ⟨rfl,d⟩
 have m:Hid _:=c.trans (d.mono c.size)
 clear c d
 go_wp2
 go_ret
 exact⟨rfl,m.out⟩
theorem bhead_any (h:Hd)(w:World):Calls prog 30 #[.agg #[.int .i64 h.v0,.int .i64 h.v1,.int .i64 h.v2,.int .i64 h.v3,.int .i64 h.v4,.int .i64 h.v5,.int .i64 h.v6,.int .i64 h.v7]] w fun e w'=>e= .returned (.tuple #[.string h.txt,.int .i64 h.err])∧Below w.heap.size w w':=head_any h.v0 h.v1 h.v2 h.v3 h.v4 h.v5 h.v6 h.v7 w
theorem Z7l (v:Value)(h:Hd)(s:ByteArray)(hs:¬ s.size=448)(w:World):Calls prog 13 #[v,.agg h.arr,.string s] w fun e w'=>e= .returned (.tuple #[.string ⟨#[]⟩,.int .i64 1])∧Below w.heap.size w w':=by
 have b:((s.size:Int) != 448)=true:=bne_iff_ne.2 (by omega)
 have a:Hid (Below w.heap.size w (w.alloc (.cells h.arr 51))):=(Below.refl _ _).alloc (Nat.le_refl _) _
 simp only [Hd.arr] at a ⊢
 go_enter func13,ntmps13
 go_wp2
 go_ret2
 exact⟨rfl,a.out⟩
theorem bseal_head (v:Value)(h:Hd)(s:ByteArray)(hs:s.size=448)(he:¬ h.err=0)(w:World):Calls prog 13 #[v,.agg h.arr,.string s] w fun e w'=>e= .returned (.tuple #[.string ⟨#[]⟩,.int .i64 h.err])∧Below w.heap.size w w':=by
 have f:(s.size:Int)=448:=by omega
 have g:(h.err != 0)=true:=bne_iff_ne.2 he
 have d:=fun w=>bhead_any h w
 have b:Hid (Below w.heap.size w (w.alloc (.cells h.arr 51))):=(Below.refl _ _).alloc (Nat.le_refl _) _
 simp only [Hd.arr] at b ⊢
 generalize h.txt=t at *
 generalize h.err=E at *
 go_enter func13,ntmps13
 go_wp2_with fail
 refine (d _).mono ?_
 rintro e i ⟨rfl,a⟩
 have c:Hid _:=b.out.trans (a.mono (by simp))
 clear a b d
 go_wp2
 go_ret2
 exact⟨rfl,c.out⟩
theorem bseal_gen (v:Value)(h:Hd)(s T:ByteArray)(E:Int)(P:World→Prop)(w:World)(hs:s.size=448)(he:h.err=0)(hT:T.size≤1000000)
  (hv:∀ w',Below w.heap.size w w'→Calls prog 31 #[v,.int .i64 h.v7,.string h.nonce,.string h.txt,.string s] w' fun e w''=>e= .returned (.tuple #[.string T,.int .i64 E])∧P w''∧∀ k,w.heap.size≤k→k<w'.heap.size→w''.heap[k]? = w'.heap[k]?) :
  Calls prog 13 #[v,.agg h.arr,.string s] w fun e w'=>e= .returned (.tuple #[.string (if E=0 then h.txt++T else ⟨#[]⟩),.int .i64 E])∧P w':=by
 have D:(s.size:Int)=448:=by omega
 have o:=fun w=>bhead_any h w
 have A:=fun w=>nonce_any h w
 have O:=Z2o he
 have j:Hid (Below w.heap.size w (w.alloc (.cells h.arr 51))):=(Below.refl _ _).alloc (Nat.le_refl _) _
 rw [he] at o
 simp only [Hd.arr] at j A ⊢
 clear he
 generalize h.txt=t at *
 generalize h.nonce=n at *
 have y:(t++T).size≤maxLen:=by rw [ByteArray.size_append];unfold maxLen;omega
 by_cases m:E=0
 case' pos=>subst m;simp only [if_true]
 case' neg=>have C:(E != 0)=true:=bne_iff_ne.2 m;simp only [m,if_false]
 all_goals
  go_enter func13,ntmps13
  go_wp2_with fail
  refine (o _).mono ?_
  rintro e l ⟨rfl,b⟩
  have I:=Z0u b 0 _ rfl
  have J:=Z0u b 1 _ rfl
  have H:=Z0u b 2 _ rfl
  have N:=Z0u b 3 _ rfl
  have M:=Z0u b 4 _ rfl
  have B:=Z0u b 5 _ rfl
  have F:=Z0u b 6 _ rfl
  have L:=Z0u b 7 _ rfl
  have f:Hid _:=j.out.trans (b.mono (by simp))
  have d:w.heap.size<l.heap.size:=by have:=b.size;simp at this;omega
  clear b j o
  go_wp2_with fail
  go_region_held3 (fun w'=>w'.cell? ⟨w.heap.size,0,none⟩=some (.int .i64 h.v0)∧w'.cell? ⟨w.heap.size,1,none⟩=some (.int .i64 h.v1)∧w'.cell? ⟨w.heap.size,2,none⟩=some (.int .i64 h.v2)∧w'.cell? ⟨w.heap.size,3,none⟩=some (.int .i64 h.v3)∧w'.cell? ⟨w.heap.size,4,none⟩=some (.int .i64 h.v4)∧w'.cell? ⟨w.heap.size,5,none⟩=some (.int .i64 h.v5)∧w'.cell? ⟨w.heap.size,6,none⟩=some (.int .i64 h.v6)∧w'.cell? ⟨w.heap.size,7,none⟩=some (.int .i64 h.v7)) (simp [go_sem, *])
   (first | (go_at_call 32;refine (A _).mono ?_;rintro e z ⟨rfl,c⟩;have u:Hid (Below w.heap.size w z):=f.out.drew.trans (c.mono f.out.size);have q:∀ i,z.cell? ⟨w.heap.size,i,none⟩=l.cell? ⟨w.heap.size,i,none⟩:=fun i=>c.cell (p:=⟨w.heap.size,i,none⟩) d) | (go_at_call 31;refine (hv _ u.out).mono ?_;rintro e K ⟨rfl,x,r⟩;have g:∀ i,K.cell? ⟨w.heap.size,i,none⟩=l.cell? ⟨w.heap.size,i,none⟩:=fun i=>(World.cell?_of_block (a:=⟨w.heap.size,i,none⟩) (r w.heap.size (Nat.le_refl _) (Nat.lt_of_lt_of_le d c.size))).trans (q i)))
  all_goals
   have G:Hid _:=x
   clear x r q g c u I J H N M B F L
   go_wp2
   go_ret2
   exact⟨rfl,G.out⟩
theorem Z3O (s:ByteArray)(w:World):Calls prog 118 #[.string s] w fun e w'=>e= .returned (.tuple #[.agg #[.int .i64 (hdOf s).v0,.int .i64 (hdOf s).v1,.int .i64 (hdOf s).v2,.int .i64 (hdOf s).v3,.int .i64 (hdOf s).v4,.int .i64 (hdOf s).v5,.int .i64 (hdOf s).v6,.int .i64 (hdOf s).v7],.int .i64 (Z1s s)])∧Below w.heap.size w w':=headOf_any s w
theorem Z6R (tmps:Array Value)(w w':World)(t:ByteArray)(y:Int)(cs:Array Value)(h1:tmps.getD 4 undef= .pointer (some ⟨w.heap.size,0,none⟩))(h2:tmps.getD 5 undef= .string t)(h3:tmps.getD 6 undef= .int .i64 y)(hg:w'.heap[w.heap.size]? = some (.cells cs 51 (0,0)))(hs:cs.size=8)(hb:Below w.heap.size w w') :
  bodyPost prog Tryz.f123 (fun e w''=>e= .returned (.tuple #[.agg cs,.string t,.int .i64 y])∧Below w.heap.size w w'') .ret { tmps:=tmps,defers:= []} w':=by
 have a:=load_head w' w.heap.size cs hg hs
 simp at h1 h2 h3
 exact bodyPost_ret (v:= .tuple #[.agg cs,.string t,.int .i64 y]) (by simp [results,Tryz.results123,asAddr,a,h1,h2,h3]) rfl ⟨rfl,hb⟩
theorem bopen_short (v:Value)(r:ByteArray)(hr:¬ r.size=512)(w:World):Calls prog 123 #[v,.string r] w fun e w'=>e= .returned (.tuple #[.agg Hd.zero.arr,.string ⟨#[]⟩,.int .i64 1])∧Below w.heap.size w w':=by
 have a:=fun w=>Z4c r w
 rw [decide_eq_false hr] at a
 simp only [Hd.arr,Hd.zero]
 have c:=(Below.refl w.heap.size w).alloc (Nat.le_refl _) (.cells #[.int .i64 0,.int .i64 0,.int .i64 0,.int .i64 0,.int .i64 0,.int .i64 0,.int .i64 0,.int .i64 0] 51)
 have b:=heap_alloc_new w (.cells #[.int .i64 0,.int .i64 0,.int .i64 0,.int .i64 0,.int .i64 0,.int .i64 0,.int .i64 0,.int .i64 0] 51)
 have f:Hid _:=b
 have d:Hid _:=c
 clear c b
 go_enter func123,ntmps123
 go_wp2_with fail
 refine (a _).mono ?_
 rintro e g ⟨rfl,rfl⟩
 clear a
 go_wp2_with fail
 exact Z6R _ w _ ⟨#[]⟩ 1 _ rfl rfl rfl f.out rfl d.out
theorem bopen_gen (v:Value)(r T:ByteArray)(E:Int)(w:World)(hr:r.size=512)(he:Z1s (r.extract 0 48)=0)
  (hv:∀ w',Below w.heap.size w w'→Calls prog 80 #[v,.int .i64 (hdOf (r.extract 0 48)).v7,.string (hdOf (r.extract 0 48)).nonce,.string (r.extract 0 48),.string (r.extract 48 512)] w' fun e w''=>e= .returned (.tuple #[.string T,.int .i64 E])∧Below w'.heap.size w' w'') :
  Calls prog 123 #[v,.string r] w fun e w'=>e= .returned (.tuple #[.agg (if E=0 then (hdOf (r.extract 0 48)).arr else Hd.zero.arr),.string (if E=0 then T else ⟨#[]⟩),.int .i64 E])∧Below w.heap.size w w':=by
 have D:=fun w=>Z4c r w
 rw [decide_eq_true hr] at D
 have F:=fun w=>Z3O (r.extract 0 48) w
 rw [he] at F
 have G:=fun w=>nonce_any (hdOf (r.extract 0 48)) w
 generalize hdOf (r.extract 0 48)=h at *
 generalize h.nonce=n at *
 generalize hx:r.extract 0 48=x at *
 generalize hy:r.extract 48 512=y at *
 simp only [Hd.arr,Hd.zero] at G ⊢
 have K:(48:Int)≤r.size:=by omega
 by_cases C:E=0
 case' pos=>subst C;simp only [if_true]
 case' neg=>have I:(E != 0)=true:=bne_iff_ne.2 C;simp only [C,if_false]
 all_goals
  go_enter func123,ntmps123
  go_wp2_with fail
  refine (D _).mono ?_
  rintro e M ⟨rfl,rfl⟩
  clear D
  go_wp2_with fail
  go_quiet (fail)
  try rw [hx,hy]
  go_wp2_with fail
  refine (F _).mono ?_
  rintro e w2 ⟨rfl,l⟩
  have B:w2.heap[w.heap.size]? = some (.cells #[.int .i64 0,.int .i64 0,.int .i64 0,.int .i64 0,.int .i64 0,.int .i64 0,.int .i64 0,.int .i64 0] 51 (0,0)):=(l.block w.heap.size (by simp)).trans (heap_alloc_new w _)
  have f:w.heap.size<w2.heap.size:=lt_of_block B
  have m:Below w.heap.size w w2:=(below_drewN ((Below.refl _ _).alloc (Nat.le_refl _) _) nq).trans (l.mono (by simp))
  clear l F
  obtain⟨w3,c⟩:∃ w3,w2.alloc (.cells #[.int .i64 h.v0,.int .i64 h.v1,.int .i64 h.v2,.int .i64 h.v3,.int .i64 h.v4,.int .i64 h.v5,.int .i64 h.v6,.int .i64 h.v7] 51)=w3:=⟨_,rfl⟩
  have d:w3.heap[w2.heap.size]? = some (.cells #[.int .i64 h.v0,.int .i64 h.v1,.int .i64 h.v2,.int .i64 h.v3,.int .i64 h.v4,.int .i64 h.v5,.int .i64 h.v6,.int .i64 h.v7] 51 (0,0)):=by rw [← c];exact heap_alloc_new w2 _
  have o:w3.heap[w.heap.size]? = some (.cells #[.int .i64 0,.int .i64 0,.int .i64 0,.int .i64 0,.int .i64 0,.int .i64 0,.int .i64 0,.int .i64 0] 51 (0,0)):=by rw [← c];exact (Below.heap_alloc _ _ _ f).trans B
  have a:w2.heap.size<w3.heap.size:=lt_of_block d
  have q:Hid (Below w.heap.size w w3):=by rw [← c];exact m.alloc (Nat.le_of_lt f) _
  clear m B
  have P:w3.cell? ⟨w2.heap.size,0,none⟩=some (.int .i64 h.v0):=cell_of_row _ _ _ _ _ _ d
  have Q:w3.cell? ⟨w2.heap.size,1,none⟩=some (.int .i64 h.v1):=cell_of_row _ _ _ _ _ _ d
  have O:w3.cell? ⟨w2.heap.size,2,none⟩=some (.int .i64 h.v2):=cell_of_row _ _ _ _ _ _ d
  have U:w3.cell? ⟨w2.heap.size,3,none⟩=some (.int .i64 h.v3):=cell_of_row _ _ _ _ _ _ d
  have R:w3.cell? ⟨w2.heap.size,4,none⟩=some (.int .i64 h.v4):=cell_of_row _ _ _ _ _ _ d
  have L:w3.cell? ⟨w2.heap.size,5,none⟩=some (.int .i64 h.v5):=cell_of_row _ _ _ _ _ _ d
  have N:w3.cell? ⟨w2.heap.size,6,none⟩=some (.int .i64 h.v6):=cell_of_row _ _ _ _ _ _ d
  have S:w3.cell? ⟨w2.heap.size,7,none⟩=some (.int .i64 h.v7):=cell_of_row _ _ _ _ _ _ d
  clear d
  go_wp2_with fail
  try rw [c]
  clear c
  go_region_held3 (fun w'=>w'.cell? ⟨w2.heap.size,0,none⟩=some (.int .i64 h.v0)∧w'.cell? ⟨w2.heap.size,1,none⟩=some (.int .i64 h.v1)∧w'.cell? ⟨w2.heap.size,2,none⟩=some (.int .i64 h.v2)∧w'.cell? ⟨w2.heap.size,3,none⟩=some (.int .i64 h.v3)∧w'.cell? ⟨w2.heap.size,4,none⟩=some (.int .i64 h.v4)∧w'.cell? ⟨w2.heap.size,5,none⟩=some (.int .i64 h.v5)∧w'.cell? ⟨w2.heap.size,6,none⟩=some (.int .i64 h.v6)∧w'.cell? ⟨w2.heap.size,7,none⟩=some (.int .i64 h.v7)) (simp [go_sem, *])
   (first | (go_at_call 32;refine (G _).mono ?_;rintro e H ⟨rfl,b⟩;have t:Hid (Below w.heap.size w H):=q.out.drew.trans (b.mono q.out.size);have A:∀ i,H.cell? ⟨w2.heap.size,i,none⟩=w3.cell? ⟨w2.heap.size,i,none⟩:=fun i=>b.cell (p:=⟨w2.heap.size,i,none⟩) a) | (go_at_call 80;refine (hv _ t.out).mono ?_;rintro e u ⟨rfl,g⟩;have J:∀ i,u.cell? ⟨w2.heap.size,i,none⟩=w3.cell? ⟨w2.heap.size,i,none⟩:=fun i=>(g.cell (p:=⟨w2.heap.size,i,none⟩) (Nat.lt_of_lt_of_le a b.size)).trans (A i)))
  have z:u.heap[w.heap.size]? = some (.cells #[.int .i64 0,.int .i64 0,.int .i64 0,.int .i64 0,.int .i64 0,.int .i64 0,.int .i64 0,.int .i64 0] 51 (0,0)):=((g.block _ (Nat.lt_of_lt_of_le (Nat.lt_trans f a) b.size)).trans (b.block _ (Nat.lt_trans f a))).trans o
  have s:Hid (Below w.heap.size w u):=t.out.trans (g.mono t.out.size)
  have j:∀ cs,Below w.heap.size w (u.setRow w.heap.size cs):=fun cs=>s.out.trans ⟨rfl,rfl,rfl,by simp [World.setRow],fun k A=>setRow_other _ _ _ _ (by omega)⟩
  clear b g t s A o hv G
 ·go_wp2_with (refine wpList_store_row rfl 51 _ _ rfl w.heap.size #[.int .i64 0,.int .i64 0,.int .i64 0,.int .i64 0,.int .i64 0,.int .i64 0,.int .i64 0,.int .i64 0] rfl rfl 51 _ z (by kernel_rfl) rfl (by simp [Value.oneCell']) ?_)
  exact Z6R _ w _ ⟨#[]⟩ E #[.int .i64 0,.int .i64 0,.int .i64 0,.int .i64 0,.int .i64 0,.int .i64 0,.int .i64 0,.int .i64 0] rfl rfl rfl (setRow_heap _ _ _ _ _ _ z) rfl (j _)
 ·go_wp2_with (refine wpList_store_row rfl 51 _ _ rfl w.heap.size #[.int .i64 h.v0,.int .i64 h.v1,.int .i64 h.v2,.int .i64 h.v3,.int .i64 h.v4,.int .i64 h.v5,.int .i64 h.v6,.int .i64 h.v7] rfl rfl 51 _ z (by kernel_rfl) rfl (by simp [Value.oneCell']) ?_)
  exact Z6R _ w _ T 0 #[.int .i64 h.v0,.int .i64 h.v1,.int .i64 h.v2,.int .i64 h.v3,.int .i64 h.v4,.int .i64 h.v5,.int .i64 h.v6,.int .i64 h.v7] rfl rfl rfl (setRow_heap _ _ _ _ _ _ z) rfl (j _)
theorem bopen_head (v:Value)(r:ByteArray)(hr:r.size=512)(he:¬ Z1s (r.extract 0 48)=0)(w:World):Calls prog 123 #[v,.string r] w fun e w'=>e= .returned (.tuple #[.agg Hd.zero.arr,.string ⟨#[]⟩,.int .i64 (Z1s (r.extract 0 48))])∧Below w.heap.size w w':=by
 have g:=fun w=>Z4c r w
 rw [decide_eq_true hr] at g
 have j:=fun w=>Z3O (r.extract 0 48) w
 have n:(Z1s (r.extract 0 48) != 0)=true:=bne_iff_ne.2 he
 clear he
 generalize hdOf (r.extract 0 48)=h at *
 generalize hx:r.extract 0 48=x at *
 generalize Z1s x=E at *
 simp only [Hd.arr,Hd.zero]
 have m:(48:Int)≤r.size:=by omega
 go_enter func123,ntmps123
 go_wp2_with fail
 refine (g _).mono ?_
 rintro e o ⟨rfl,rfl⟩
 clear g
 go_wp2_with fail
 go_quiet (fail)
 try rw [hx]
 go_wp2_with fail
 refine (j _).mono ?_
 rintro e w2 ⟨rfl,a⟩
 have i:w2.heap[w.heap.size]? = some (.cells #[.int .i64 0,.int .i64 0,.int .i64 0,.int .i64 0,.int .i64 0,.int .i64 0,.int .i64 0,.int .i64 0] 51 (0,0)):=(a.block w.heap.size (by simp)).trans (heap_alloc_new w _)
 have c:w.heap.size<w2.heap.size:=lt_of_block i
 have b:Below w.heap.size w w2:=(below_drewN ((Below.refl _ _).alloc (Nat.le_refl _) _) nq).trans (a.mono (by simp))
 clear a j
 obtain⟨w3,d⟩:∃ w3,w2.alloc (.cells #[.int .i64 h.v0,.int .i64 h.v1,.int .i64 h.v2,.int .i64 h.v3,.int .i64 h.v4,.int .i64 h.v5,.int .i64 h.v6,.int .i64 h.v7] 51)=w3:=⟨_,rfl⟩
 have l:w3.heap[w.heap.size]? = some (.cells #[.int .i64 0,.int .i64 0,.int .i64 0,.int .i64 0,.int .i64 0,.int .i64 0,.int .i64 0,.int .i64 0] 51 (0,0)):=by rw [← d];exact (Below.heap_alloc _ _ _ c).trans i
 have f:Hid (Below w.heap.size w w3):=by rw [← d];exact b.alloc (Nat.le_of_lt c) _
 clear b i
 go_wp2_with (refine wpList_store_row rfl 51 _ _ rfl w.heap.size #[.int .i64 0,.int .i64 0,.int .i64 0,.int .i64 0,.int .i64 0,.int .i64 0,.int .i64 0,.int .i64 0] rfl rfl 51 _ l (by kernel_rfl) rfl (by simp [Value.oneCell']) ?_)
 exact Z6R _ w _ ⟨#[]⟩ E #[.int .i64 0,.int .i64 0,.int .i64 0,.int .i64 0,.int .i64 0,.int .i64 0,.int .i64 0,.int .i64 0] rfl rfl rfl (setRow_heap _ _ _ _ _ _ l) rfl (f.out.trans ⟨rfl,rfl,rfl,by simp [World.setRow],fun k hk=>setRow_other _ _ _ _ (by omega)⟩)
theorem bseal_any (B:Nat)(F:Nat→Prop)(S:VS)(h:Hd)(s:ByteArray)(hl:S.seals.length≤1000000)(w:World)(hp:Z29 w F B S) :
  Calls prog 13 #[.pointer (some ⟨B,0,none⟩),.agg h.arr,.string s] w fun e w'=>e= .returned (.tuple #[.string (Z2J S h s),.int .i64 (Z0p h s)])∧Z29 w' F B (Z1G S h s)∧Z02 F w w':=by
 by_cases b:s.size=448
 case neg =>
  have c:Z2h h s=false:=by simp [Z2h,b]
  have d:Z2J S h s=⟨#[]⟩:=by simp [Z2J,c]
  have g:Z0p h s=1:=by simp [Z0p,b]
  have f:Z1G S h s=S:=by simp [Z1G,c]
  rw [d,g,f]
  exact (Z7l _ h s b w).mono fun e w' ⟨a,hb⟩=>⟨a,hp.below hb,Z02.of_below hb⟩
 by_cases a:h.err=0
 case neg =>
  have c:Z2h h s=false:=by simp [Z2h,a]
  have d:Z2J S h s=⟨#[]⟩:=by simp [Z2J,c]
  have g:Z0p h s=h.err:=by simp [Z0p,b]
  have f:Z1G S h s=S:=by simp [Z1G,c]
  rw [d,g,f]
  exact (bseal_head _ h s b a w).mono fun e w' ⟨a,hb⟩=>⟨a,hp.below hb,Z02.of_below hb⟩
 have c:Z2h h s=true:=by simp [Z2h,b,a]
 have d:Z2J S h s=h.txt++Z6B S h.v7 h.nonce h.txt s:=by simp [Z2J,c,Z6B,Z7k a,blkS,Hd.four]
 have g:Z0p h s=0:=by simp [Z0p,b,a]
 have f:Z1G S h s=sealP S h.v7 h.nonce h.txt s:=by simp [Z1G,c,sealP,Z7k a,Hd.four]
 rw [d,g,f]
 have o:sealE h.v7 h.nonce=0:=by simp [sealE,Z7k a]
 have n:(Z6B S h.v7 h.nonce h.txt s).size≤1000000:=by
  have m:Z0f (addN S.seals ⟨h.v7,h.nonce,h.txt,s⟩) ⟨h.v7,h.nonce,h.txt,s⟩<281474976710656:=by
   have j:=Z2u (⟨h.v7,h.nonce,h.txt,s⟩:Four) (addN S.seals ⟨h.v7,h.nonce,h.txt,s⟩)
   have i:=Z1F S.seals (⟨h.v7,h.nonce,h.txt,s⟩:Four)
   omega
  unfold Z6B
  rw [Z7k a,if_pos rfl,ByteArray.size_append,b,Z3t m (by decide)]
  decide
 have p:=bseal_gen (.pointer (some ⟨B,0,none⟩)) h s (Z6B S h.v7 h.nonce h.txt s) 0 (fun w''=>Z29 w'' (fun k=>F k∧k<w.heap.size) B (sealP S h.v7 h.nonce h.txt s)∧Z02 (fun k=>F k∧k<w.heap.size) w w'') w b a n fun w' hb=>by
  have l:Z29 w' (fun k=>F k∧k<w.heap.size) B S:=(hp.mono fun k hk hF=>⟨hF,hk⟩).below hb
  have:=vseal_any B _ S h.v7 h.nonce h.txt s (four_fit a (by omega)) hl w' l
  rw [o] at this
  refine this.mono fun e w'' ⟨j,i,h3⟩=>⟨j,⟨i,?_⟩,fun k hk hk2=>h3.2 k hk2 fun hF=>by omega⟩
  exact⟨(hb.mono (Nat.zero_le _)).trans h3.1,fun k hk m=>(h3.2 k (Nat.lt_of_lt_of_le hk hb.size) m).trans (hb.block k hk)⟩
 refine p.mono fun e w' ⟨j,i,h3⟩=>⟨j,i.mono fun k _ hF=>hF.1,h3.mono fun k hF=>hF.1⟩
theorem bopen_any (B:Nat)(F:Nat→Prop)(S:VS)(r:ByteArray)(hl:S.seals.length≤1000000)(w:World)(hp:Z29 w F B S) :
  Calls prog 123 #[.pointer (some ⟨B,0,none⟩),.string r] w fun e w'=>e= .returned (.tuple #[.agg (Z41 S r).arr,.string (Z2X S r),.int .i64 (Z2i S r)])∧Below w.heap.size w w':=by
 by_cases b:r.size=512
 case neg =>
  have c:Z2i S r=1:=by simp [Z2i,b]
  have h:Z41 S r=Hd.zero:=by simp [Z41,c]
  have d:Z2X S r=⟨#[]⟩:=by simp [Z2X,c]
  rw [c,h,d]
  exact bopen_short _ r b w
 by_cases a:Z1s (r.extract 0 48)=0
 case neg =>
  have c:Z2i S r=Z1s (r.extract 0 48):=by simp [Z2i,b,a]
  have h:Z41 S r=Hd.zero:=by simp [Z41,c,a]
  have d:Z2X S r=⟨#[]⟩:=by simp [Z2X,c,a]
  rw [c,h,d]
  exact bopen_head _ r b a w
 obtain⟨f,m⟩:=hd_back a
 have o:(r.extract 48 512).size=464:=by simp [b]
 have k:fitF ⟨(hdOf (r.extract 0 48)).v7,(hdOf (r.extract 0 48)).nonce,r.extract 0 48,r.extract 48 512⟩:=by
  have:=four_fit (s:=r.extract 48 512) f (by omega)
  simpa only [Hd.four,m] using this
 have g:=bopen_gen (.pointer (some ⟨B,0,none⟩)) r _ _ w b a fun w' hb=>vopen_any B F S _ _ _ _ k hl w' (hp.below hb)
 have j:Z4b S (hdOf (r.extract 0 48)).v7 (hdOf (r.extract 0 48)).nonce (r.extract 0 48) (r.extract 48 512)=Z2i S r:=by
  unfold Z4b Z2i
  rw [Z7k f,if_pos rfl,if_neg (by omega),if_pos b,if_pos a]
  rfl
 have n:Z4G S (hdOf (r.extract 0 48)).v7 (hdOf (r.extract 0 48)).nonce (r.extract 0 48) (r.extract 48 512)=Z2X S r:=by
  unfold Z4G Z2X Z2i
  rw [Z7k f,if_pos rfl,if_neg (by omega),if_pos b,if_pos a]
  unfold opensB
  cases Z42 S (hdOf (r.extract 0 48)).v7 (hdOf (r.extract 0 48)).nonce (r.extract 0 48) (r.extract 48 512) <;> rfl
 rw [j,n] at g
 have l:(if Z2i S r=0 then (hdOf (r.extract 0 48)).arr else Hd.zero.arr)=(Z41 S r).arr:=by unfold Z41;split <;> rfl
 have i:(if Z2i S r=0 then Z2X S r else ⟨#[]⟩)=Z2X S r:=by unfold Z2X;split <;> rfl
 rw [l,i] at g
 exact g
def Z4d (ok:Bool)(h:Hd)(s:ByteArray):Array Value:=#[.bool ok,.int .i64 h.v0,.int .i64 h.v1,.int .i64 h.v2,.int .i64 h.v3,.int .i64 h.v4,.int .i64 h.v5,.int .i64 h.v6,.int .i64 h.v7,.string s]
def Z5W:Array Value:=Z4d false Hd.zero ⟨#[]⟩
theorem told_ret (tmps:Array Value)(w w':World)(cs:Array Value)(h1:tmps.getD 6 undef= .pointer (some ⟨w.heap.size,0,none⟩))(hg:w'.heap[w.heap.size]? = some (.cells cs 125 (0,0)))(hs:cs.size=10)(hb:Below w.heap.size w w') :
  bodyPost prog Tryz.f91 (fun e w''=>e= .returned (.agg cs)∧Below w.heap.size w w'') .ret { tmps:=tmps,defers:= []} w' :=
 bodyPost_ret (v:= .agg cs) (results_cell_row Tryz.results91 tmps w' w.heap.size 125 cs (0,0) _ h1 hg underlying125 rfl (by rw [hs];kernel_rfl)) rfl ⟨rfl,hb⟩
theorem told_gen (v:Value)(r T:ByteArray)(h:Hd)(E at_:Int)(w:World)
  (ho:∀ w',Below w.heap.size w w'→Calls prog 123 #[v,.string r] w' fun e w''=>e= .returned (.tuple #[.agg h.arr,.string T,.int .i64 E])∧Below w'.heap.size w' w'') :
  Calls prog 91 #[v,.string r,.int .i64 at_] w fun e w'=>e= .returned (.agg (if E=0∧h.v1=at_ then Z4d true h T else Z5W))∧Below w.heap.size w w':=by
 have n:=(Below.refl w.heap.size w).alloc (Nat.le_refl _) (.cells #[.bool false,.int .i64 0,.int .i64 0,.int .i64 0,.int .i64 0,.int .i64 0,.int .i64 0,.int .i64 0,.int .i64 0,.string ⟨#[]⟩] 125)
 have p:=heap_alloc_new w (.cells #[.bool false,.int .i64 0,.int .i64 0,.int .i64 0,.int .i64 0,.int .i64 0,.int .i64 0,.int .i64 0,.int .i64 0,.string ⟨#[]⟩] 125)
 simp only [Hd.arr] at ho
 simp only [Z4d,Z5W,Hd.zero]
 have d:Hid _:=n
 have l:Hid _:=p
 clear n p
 rcases (show (E=0∧h.v1=at_)∨(E=0∧¬ h.v1=at_)∨¬ E=0 by omega) with ⟨hE,ha⟩ | ⟨hE,ha⟩ | hE
 ·subst hE
  subst ha
  simp only [and_self,if_true]
  go_enter func91,ntmps91
  go_wp2_with fail
  refine (ho _ d.out).mono ?_
  rintro e w2 ⟨rfl,b⟩
  have m:w2.heap[w.heap.size]? = some (.cells #[.bool false,.int .i64 0,.int .i64 0,.int .i64 0,.int .i64 0,.int .i64 0,.int .i64 0,.int .i64 0,.int .i64 0,.string ⟨#[]⟩] 125 (0,0)):=(b.block w.heap.size (by simp)).trans l.out
  have i:w.heap.size<w2.heap.size:=lt_of_block m
  have f:Below w.heap.size w w2:=d.out.trans (b.mono (by simp))
  clear b ho d l
  obtain⟨w3,c⟩:∃ w3,w2.alloc (.cells #[.int .i64 h.v0,.int .i64 h.v1,.int .i64 h.v2,.int .i64 h.v3,.int .i64 h.v4,.int .i64 h.v5,.int .i64 h.v6,.int .i64 h.v7] 51)=w3:=⟨_,rfl⟩
  have a:w3.heap[w2.heap.size]? = some (.cells #[.int .i64 h.v0,.int .i64 h.v1,.int .i64 h.v2,.int .i64 h.v3,.int .i64 h.v4,.int .i64 h.v5,.int .i64 h.v6,.int .i64 h.v7] 51 (0,0)):=by rw [← c];exact heap_alloc_new w2 _
  have g:w3.heap[w.heap.size]? = some (.cells #[.bool false,.int .i64 0,.int .i64 0,.int .i64 0,.int .i64 0,.int .i64 0,.int .i64 0,.int .i64 0,.int .i64 0,.string ⟨#[]⟩] 125 (0,0)):=by rw [← c];exact (Below.heap_alloc _ _ _ i).trans m
  have j:∀ cs,Below w.heap.size w (w3.setRow w.heap.size cs):=fun cs=>by rw [← c];exact (f.alloc (Nat.le_of_lt i) _).trans ⟨rfl,rfl,rfl,by simp [World.setRow],fun k hk=>setRow_other _ _ _ _ (by omega)⟩
  have t:w3.cell? ⟨w2.heap.size,0,none⟩=some (.int .i64 h.v0):=cell_of_row _ _ _ _ _ _ a
  have u:w3.cell? ⟨w2.heap.size,1,none⟩=some (.int .i64 h.v1):=cell_of_row _ _ _ _ _ _ a
  have s:w3.cell? ⟨w2.heap.size,2,none⟩=some (.int .i64 h.v2):=cell_of_row _ _ _ _ _ _ a
  have z:w3.cell? ⟨w2.heap.size,3,none⟩=some (.int .i64 h.v3):=cell_of_row _ _ _ _ _ _ a
  have x:w3.cell? ⟨w2.heap.size,4,none⟩=some (.int .i64 h.v4):=cell_of_row _ _ _ _ _ _ a
  have o:w3.cell? ⟨w2.heap.size,5,none⟩=some (.int .i64 h.v5):=cell_of_row _ _ _ _ _ _ a
  have q:w3.cell? ⟨w2.heap.size,6,none⟩=some (.int .i64 h.v6):=cell_of_row _ _ _ _ _ _ a
  have y:w3.cell? ⟨w2.heap.size,7,none⟩=some (.int .i64 h.v7):=cell_of_row _ _ _ _ _ _ a
  clear a m f
  go_wp2_with (refine wpList_store_row rfl 125 _ _ rfl w.heap.size #[.bool true,.int .i64 h.v0,.int .i64 h.v1,.int .i64 h.v2,.int .i64 h.v3,.int .i64 h.v4,.int .i64 h.v5,.int .i64 h.v6,.int .i64 h.v7,.string T] rfl rfl 125 _ g (by kernel_rfl) rfl (by simp [Value.oneCell']) ?_)
  exact told_ret _ w _ #[.bool true,.int .i64 h.v0,.int .i64 h.v1,.int .i64 h.v2,.int .i64 h.v3,.int .i64 h.v4,.int .i64 h.v5,.int .i64 h.v6,.int .i64 h.v7,.string T] rfl (setRow_heap _ _ _ _ _ _ g) rfl (j _)
 ·have B:(h.v1 != at_)=true:=bne_iff_ne.2 ha
  subst hE
  simp only [ha,and_false,if_false]
  go_enter func91,ntmps91
  go_wp2_with fail
  refine (ho _ d.out).mono ?_
  rintro e w2 ⟨rfl,b⟩
  have m:w2.heap[w.heap.size]? = some (.cells #[.bool false,.int .i64 0,.int .i64 0,.int .i64 0,.int .i64 0,.int .i64 0,.int .i64 0,.int .i64 0,.int .i64 0,.string ⟨#[]⟩] 125 (0,0)):=(b.block w.heap.size (by simp)).trans l.out
  have i:w.heap.size<w2.heap.size:=lt_of_block m
  have f:Below w.heap.size w w2:=d.out.trans (b.mono (by simp))
  clear b ho d l
  obtain⟨w3,c⟩:∃ w3,w2.alloc (.cells #[.int .i64 h.v0,.int .i64 h.v1,.int .i64 h.v2,.int .i64 h.v3,.int .i64 h.v4,.int .i64 h.v5,.int .i64 h.v6,.int .i64 h.v7] 51)=w3:=⟨_,rfl⟩
  have a:w3.heap[w2.heap.size]? = some (.cells #[.int .i64 h.v0,.int .i64 h.v1,.int .i64 h.v2,.int .i64 h.v3,.int .i64 h.v4,.int .i64 h.v5,.int .i64 h.v6,.int .i64 h.v7] 51 (0,0)):=by rw [← c];exact heap_alloc_new w2 _
  have g:w3.heap[w.heap.size]? = some (.cells #[.bool false,.int .i64 0,.int .i64 0,.int .i64 0,.int .i64 0,.int .i64 0,.int .i64 0,.int .i64 0,.int .i64 0,.string ⟨#[]⟩] 125 (0,0)):=by rw [← c];exact (Below.heap_alloc _ _ _ i).trans m
  have j:∀ cs,Below w.heap.size w (w3.setRow w.heap.size cs):=fun cs=>by rw [← c];exact (f.alloc (Nat.le_of_lt i) _).trans ⟨rfl,rfl,rfl,by simp [World.setRow],fun k hk=>setRow_other _ _ _ _ (by omega)⟩
  have t:w3.cell? ⟨w2.heap.size,0,none⟩=some (.int .i64 h.v0):=cell_of_row _ _ _ _ _ _ a
  have u:w3.cell? ⟨w2.heap.size,1,none⟩=some (.int .i64 h.v1):=cell_of_row _ _ _ _ _ _ a
  have s:w3.cell? ⟨w2.heap.size,2,none⟩=some (.int .i64 h.v2):=cell_of_row _ _ _ _ _ _ a
  have z:w3.cell? ⟨w2.heap.size,3,none⟩=some (.int .i64 h.v3):=cell_of_row _ _ _ _ _ _ a
  have x:w3.cell? ⟨w2.heap.size,4,none⟩=some (.int .i64 h.v4):=cell_of_row _ _ _ _ _ _ a
  have o:w3.cell? ⟨w2.heap.size,5,none⟩=some (.int .i64 h.v5):=cell_of_row _ _ _ _ _ _ a
  have q:w3.cell? ⟨w2.heap.size,6,none⟩=some (.int .i64 h.v6):=cell_of_row _ _ _ _ _ _ a
  have y:w3.cell? ⟨w2.heap.size,7,none⟩=some (.int .i64 h.v7):=cell_of_row _ _ _ _ _ _ a
  clear a m f
  go_wp2_with (refine wpList_store_row rfl 125 _ _ rfl w.heap.size #[.bool false,.int .i64 0,.int .i64 0,.int .i64 0,.int .i64 0,.int .i64 0,.int .i64 0,.int .i64 0,.int .i64 0,.string ⟨#[]⟩] rfl rfl 125 _ g (by kernel_rfl) rfl (by simp [Value.oneCell']) ?_)
  exact told_ret _ w _ #[.bool false,.int .i64 0,.int .i64 0,.int .i64 0,.int .i64 0,.int .i64 0,.int .i64 0,.int .i64 0,.int .i64 0,.string ⟨#[]⟩] rfl (setRow_heap _ _ _ _ _ _ g) rfl (j _)
 ·have A:(E != 0)=true:=bne_iff_ne.2 hE
  simp only [hE,false_and,if_false]
  go_enter func91,ntmps91
  go_wp2_with fail
  refine (ho _ d.out).mono ?_
  rintro e w2 ⟨rfl,b⟩
  have m:w2.heap[w.heap.size]? = some (.cells #[.bool false,.int .i64 0,.int .i64 0,.int .i64 0,.int .i64 0,.int .i64 0,.int .i64 0,.int .i64 0,.int .i64 0,.string ⟨#[]⟩] 125 (0,0)):=(b.block w.heap.size (by simp)).trans l.out
  have i:w.heap.size<w2.heap.size:=lt_of_block m
  have f:Below w.heap.size w w2:=d.out.trans (b.mono (by simp))
  clear b ho d l
  obtain⟨w3,c⟩:∃ w3,w2.alloc (.cells #[.int .i64 h.v0,.int .i64 h.v1,.int .i64 h.v2,.int .i64 h.v3,.int .i64 h.v4,.int .i64 h.v5,.int .i64 h.v6,.int .i64 h.v7] 51)=w3:=⟨_,rfl⟩
  have a:w3.heap[w2.heap.size]? = some (.cells #[.int .i64 h.v0,.int .i64 h.v1,.int .i64 h.v2,.int .i64 h.v3,.int .i64 h.v4,.int .i64 h.v5,.int .i64 h.v6,.int .i64 h.v7] 51 (0,0)):=by rw [← c];exact heap_alloc_new w2 _
  have g:w3.heap[w.heap.size]? = some (.cells #[.bool false,.int .i64 0,.int .i64 0,.int .i64 0,.int .i64 0,.int .i64 0,.int .i64 0,.int .i64 0,.int .i64 0,.string ⟨#[]⟩] 125 (0,0)):=by rw [← c];exact (Below.heap_alloc _ _ _ i).trans m
  have j:∀ cs,Below w.heap.size w (w3.setRow w.heap.size cs):=fun cs=>by rw [← c];exact (f.alloc (Nat.le_of_lt i) _).trans ⟨rfl,rfl,rfl,by simp [World.setRow],fun k hk=>setRow_other _ _ _ _ (by omega)⟩
  have t:w3.cell? ⟨w2.heap.size,0,none⟩=some (.int .i64 h.v0):=cell_of_row _ _ _ _ _ _ a
  have u:w3.cell? ⟨w2.heap.size,1,none⟩=some (.int .i64 h.v1):=cell_of_row _ _ _ _ _ _ a
  have s:w3.cell? ⟨w2.heap.size,2,none⟩=some (.int .i64 h.v2):=cell_of_row _ _ _ _ _ _ a
  have z:w3.cell? ⟨w2.heap.size,3,none⟩=some (.int .i64 h.v3):=cell_of_row _ _ _ _ _ _ a
  have x:w3.cell? ⟨w2.heap.size,4,none⟩=some (.int .i64 h.v4):=cell_of_row _ _ _ _ _ _ a
  have o:w3.cell? ⟨w2.heap.size,5,none⟩=some (.int .i64 h.v5):=cell_of_row _ _ _ _ _ _ a
  have q:w3.cell? ⟨w2.heap.size,6,none⟩=some (.int .i64 h.v6):=cell_of_row _ _ _ _ _ _ a
  have y:w3.cell? ⟨w2.heap.size,7,none⟩=some (.int .i64 h.v7):=cell_of_row _ _ _ _ _ _ a
  clear a m f
  go_wp2_with (refine wpList_store_row rfl 125 _ _ rfl w.heap.size #[.bool false,.int .i64 0,.int .i64 0,.int .i64 0,.int .i64 0,.int .i64 0,.int .i64 0,.int .i64 0,.int .i64 0,.string ⟨#[]⟩] rfl rfl 125 _ g (by kernel_rfl) rfl (by simp [Value.oneCell']) ?_)
  exact told_ret _ w _ #[.bool false,.int .i64 0,.int .i64 0,.int .i64 0,.int .i64 0,.int .i64 0,.int .i64 0,.int .i64 0,.int .i64 0,.string ⟨#[]⟩] rfl (setRow_heap _ _ _ _ _ _ g) rfl (j _)
theorem told_any (B:Nat)(F:Nat→Prop)(S:VS)(r:ByteArray)(at_:Int)(hl:S.seals.length≤1000000)(w:World)(hp:Z29 w F B S) :
  Calls prog 91 #[.pointer (some ⟨B,0,none⟩),.string r,.int .i64 at_] w fun e w'=>e= .returned (.agg (if Z2i S r=0∧(Z41 S r).v1=at_ then Z4d true (Z41 S r) (Z2X S r) else Z5W))∧Below w.heap.size w w' :=
 told_gen _ r _ _ _ at_ w fun w' hb=>bopen_any B F S r hl w' (hp.below hb)
end
end Go.Proofs.YtijpgmkdnemmbaaGreatDoor
