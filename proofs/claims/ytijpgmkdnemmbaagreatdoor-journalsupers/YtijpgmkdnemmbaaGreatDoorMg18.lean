/- Part 18. -/
import Derived.Test.YtijpgmkdnemmbaaGreatDoorMg15
import Derived.Test.YtijpgmkdnemmbaaGreatDoorMg14
set_option maxRecDepth 20000
set_option maxHeartbeats 8000000
open Go.RowKit Go.Proofs.Tryz
namespace Go.Proofs.YtijpgmkdnemmbaaGreatDoor
def loadK (K:VK)(S:PS)(T:K.σ)(at_:Int):Array Value :=
 if (bget S at_).1.2.2=0∧(bget S at_).1.2.1=0∧K.oE T (bget S at_).1.1=0∧(K.oH T (bget S at_).1.1).v1=at_ then Z4d true (K.oH T (bget S at_).1.1) (K.oS T (bget S at_).1.1) else Z5W
theorem kload_ret (tmps:Array Value)(w w':World)(cs:Array Value)(R:Ending→World→Prop)(h1:tmps.getD 6 undef= .pointer (some ⟨w.heap.size,0,none⟩))(hg:w'.heap[w.heap.size]? = some (.cells cs 125 (0,0)))(hs:cs.size=10)(hR:R (.returned (.agg cs)) w') :
  bodyPost prog Tryz.f53 R .ret { tmps:=tmps,defers:= []} w' :=
 bodyPost_ret (v:= .agg cs) (results_cell_row Tryz.results53 tmps w' w.heap.size 125 cs (0,0) _ h1 hg underlying125 rfl (by rw [hs];kernel_rfl)) rfl hR
theorem kreadA_one (ok:Bool)(h:Hd)(s:ByteArray):(Z4d ok h s).all (·.oneCell')=true:=by simp [Z4d,Value.oneCell']
theorem kload_any (K:VK)(HK:VKOk K)(B:Nat)(F F':Nat→Prop)(S:PS)(T:K.σ)(at_:Int)(w:World)(hp:Z0d w F B S)(hw:S.wait.length≤1000000)(hg:ErrT w)(hF:¬ F 3)(hv:K.lies w F' T)(hl:K.room T 0)(hd:∀ k,F' k→¬ F k)(hb:∀ k,F k→k<w.heap.size) :
  Calls prog 53 #[.pointer (some ⟨B,0,none⟩),K.v,.int .i64 at_] w fun e w'=>e= .returned (.agg (loadK K S T at_))∧Z0d w' F B (bget S at_).2∧Z02 F w w':=by
 obtain⟨w0,d⟩:∃ w0,w.alloc (.cells #[.bool false,.int .i64 0,.int .i64 0,.int .i64 0,.int .i64 0,.int .i64 0,.int .i64 0,.int .i64 0,.int .i64 0,.string ⟨#[]⟩] 125)=w0:=⟨_,rfl⟩
 have D:w0.heap[w.heap.size]? = some (.cells #[.bool false,.int .i64 0,.int .i64 0,.int .i64 0,.int .i64 0,.int .i64 0,.int .i64 0,.int .i64 0,.int .i64 0,.string ⟨#[]⟩] 125 (0,0)):=by rw [← d];exact heap_alloc_new w _
 have b:Below w.heap.size w w0:=by rw [← d];exact (Below.refl _ _).alloc (Nat.le_refl _) _
 have c:=bget_any B F S at_ w0 (hp.below b) hw (hg.below b (Z0E hg)) hF
 have j:Hid (∀ w',Z02 F w0 w'→w'.heap[w.heap.size]? = some (.cells #[.bool false,.int .i64 0,.int .i64 0,.int .i64 0,.int .i64 0,.int .i64 0,.int .i64 0,.int .i64 0,.int .i64 0,.string ⟨#[]⟩] 125 (0,0))∧K.lies w' F' T∧Z02 F w w'):=fun w' h=>⟨(h.2 _ (lt_of_block D) (fun hf=>absurd (hb _ hf) (Nat.lt_irrefl _))).trans D,HK.keep (HK.below hv b) fun k hk hf=>h.2 k hk (hd k hf),⟨(b.mono (Nat.zero_le _)).trans h.1,fun k hk s=>(h.2 k (Nat.lt_of_lt_of_le hk b.size) s).trans (b.block k hk)⟩⟩
 have u:Hid (∀ w' cs,Z02 F w w'→Z0d w' F B (bget S at_).2→w'.heap[w.heap.size]?≠none→Z0d (w'.setRow w.heap.size cs) F B (bget S at_).2∧Z02 F w (w'.setRow w.heap.size cs)):=fun w' cs h hp' _=>⟨hp'.keep fun k _ hk=>setRow_other _ _ _ _ (Nat.ne_of_lt (hb k hk)),⟨h.1.trans ⟨rfl,rfl,rfl,by simp [World.setRow],fun k hk=>absurd hk (Nat.not_lt_zero k)⟩,fun k hk s=>(setRow_other _ _ _ _ (Nat.ne_of_lt hk)).trans (h.2 k hk s)⟩⟩
 have n:Hid (loadK K S T at_=if (bget S at_).1.2.2=0∧(bget S at_).1.2.1=0∧K.oE T (bget S at_).1.1=0∧(K.oH T (bget S at_).1.1).v1=at_ then Z4d true (K.oH T (bget S at_).1.1) (K.oS T (bget S at_).1.1) else Z5W):=rfl
 have a:=fun w h=>HK.told F' T (bget S at_).1.1 at_ w hl h
 simp only [toldK] at a
 generalize hr:(bget S at_).1.1=r at *
 generalize hm:(bget S at_).1.2.1=m at *
 generalize hy:(bget S at_).1.2.2=y at *
 generalize (bget S at_).2=S' at *
 generalize loadK K S T at_=A at *
 clear hp hg hv b D hr hm hy
 by_cases H:y=0∧m=0
 ·obtain⟨rfl,rfl⟩:=H
  simp only [true_and] at n
  rw [← n.out] at a
  have C:A.size=10:=by rw [n.out];split <;> rfl
  have G:A.all (·.oneCell')=true:=by rw [n.out];split;exact kreadA_one _ _ _;exact kreadA_one _ _ _
  clear n
  go_enter func53,ntmps53
  go_wp2_with fail
  try rw [d]
  refine c.mono ?_
  rintro e x ⟨rfl,i,f⟩
  obtain⟨o,t,g⟩:=j.out x f
  clear c f j d
  go_wp2_with fail
  refine (a _ t).mono ?_
  rintro e I ⟨rfl,l⟩
  have E:=(l.block _ (lt_of_block o)).trans o
  have z:Hid _:=u.out I A (g.trans (Z02.of_below l)) (i.below l) (by rw [E];simp)
  clear a t l o i g u
  go_wp2_with (refine wpList_store_row rfl 125 _ _ rfl w.heap.size A rfl rfl 125 _ E (by rw [C];kernel_rfl) (by rw [C];rfl) G ?_)
  exact kload_ret _ w _ A _ rfl (setRow_heap _ _ _ _ _ _ E) C ⟨rfl,z.out⟩
 ·have s:A=Z5W:=by rw [n.out,if_neg];exact fun h=>H ⟨h.1,h.2.1⟩
  subst s
  simp only [Z5W,Z4d,Hd.zero]
  clear n a
  have q:(y != 0)=true∨(y=0∧((m:Nat):Int)≠0):=by
   by_cases p:y=0
   ·exact .inr ⟨p,fun h=>H ⟨p,by omega⟩⟩
   ·exact .inl (bne_iff_ne.2 p)
  rcases q with p | ⟨rfl,p⟩
  case' inr=>have J:(((m:Nat):Int) != 0)=true:=bne_iff_ne.2 p
  all_goals
   go_enter func53,ntmps53
   go_wp2_with fail
   try rw [d]
   refine c.mono ?_
   rintro e x ⟨rfl,i,f⟩
   obtain⟨o,_,g⟩:=j.out x f
   have z:Hid _:=u.out x #[.bool false,.int .i64 0,.int .i64 0,.int .i64 0,.int .i64 0,.int .i64 0,.int .i64 0,.int .i64 0,.int .i64 0,.string ⟨#[]⟩] g i (by rw [o];simp)
   clear c f j d i g u
   go_wp2_with (refine wpList_store_row rfl 125 _ _ rfl w.heap.size #[.bool false,.int .i64 0,.int .i64 0,.int .i64 0,.int .i64 0,.int .i64 0,.int .i64 0,.int .i64 0,.int .i64 0,.string ⟨#[]⟩] rfl rfl 125 _ o (by kernel_rfl) rfl (by simp [Value.oneCell']) ?_)
   exact kload_ret _ w _ _ _ rfl (setRow_heap _ _ _ _ _ _ o) rfl ⟨rfl,z.out⟩
end Go.Proofs.YtijpgmkdnemmbaaGreatDoor
