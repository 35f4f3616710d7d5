/- Part 19. -/
import Derived.Test.YtijpgmkdnemmbaaGreatDoorMg00
import Derived.Shelf.Strings.Builder1
import Derived.Shelf.Strings.Builder2
set_option maxRecDepth 20000
set_option maxHeartbeats 8000000
open Go.RowKit Go.Proofs.Tryz
namespace Go.Proofs.YtijpgmkdnemmbaaGreatDoor
theorem up_num (a s:Nat)(ha:a≤6000000)(hs:0<s)(hs2:s≤1000):∃ k d:Nat,(a:Int)+s-1=(k:Int)∧k≤6001000∧(k:Int)/(s:Int)=(d:Int)∧d≤6001000∧d=(a+s-1)/s :=
 ⟨a+s-1,(a+s-1)/s,by omega,by omega,by norm_cast,Nat.le_trans (Nat.div_le_self _ _) (by omega),rfl⟩
theorem Z7A (a s:Nat)(ha:a≤6000000)(hs:0<s)(hs2:s≤1000)(w:World) :
  Calls prog 117 #[.int .i64 (a:Int),.int .i64 (s:Int)] w fun e w'=>e= .returned (.int .i64 (((a+s-1)/s:Nat):Int))∧w'=w:=by
 have g:(s:Int)≠0:=by omega
 obtain⟨k,d,i,f,c,h,b⟩:=up_num a s ha hs hs2
 rw [← b]
 clear b
 go_enter func117,ntmps117
 go_wp2
 go_ret
 exact⟨rfl,rfl⟩
theorem rup_any (a s:Nat)(ha:a≤6000000)(hs:0<s)(hs2:s≤1000)(w:World) :
  Calls prog 78 #[.int .i64 (a:Int),.int .i64 (s:Int)] w fun e w'=>e= .returned (.int .i64 (((a+s-1)/s:Nat):Int))∧w'=w:=by
 have g:(s:Int)≠0:=by omega
 obtain⟨k,d,i,f,c,h,b⟩:=up_num a s ha hs hs2
 rw [← b]
 clear b
 go_enter func78,ntmps78
 go_wp2
 go_ret
 exact⟨rfl,rfl⟩
def layA (n q s t:Nat):Array Value:=#[.int .i64 (n:Int),.int .i64 2,.int .i64 3,.int .i64 27,.int .i64 28,.int .i64 29,.int .i64 (q:Int),.int .i64 (29+(q:Int)),.int .i64 (s:Int),.int .i64 (29+(q:Int)+(s:Int)),.int .i64 (29+(q:Int)+(s:Int)+1),.int .i64 (n:Int),.int .i64 ((n:Int)+1),.int .i64 (t:Int),.int .i64 ((n:Int)+1+(t:Int)),.int .i64 ((n:Int)+1+(t:Int)+(n:Int))]
def layZ:Array Value:=#[.int .i64 0,.int .i64 0,.int .i64 0,.int .i64 0,.int .i64 0,.int .i64 0,.int .i64 0,.int .i64 0,.int .i64 0,.int .i64 0,.int .i64 0,.int .i64 0,.int .i64 0,.int .i64 0,.int .i64 0,.int .i64 0]
def layQ (n:Nat):Nat:=n/8
def layS (n:Nat):Nat:=(n/8+16-1)/16
def layT (n:Nat):Nat:=(n+64-1)/64
theorem lay_ret (tmps:Array Value)(w w':World)(y:Int)(cs:Array Value)(h1:tmps.getD 2 undef= .pointer (some ⟨w.heap.size,0,none⟩))(h3:tmps.getD 3 undef= .int .i64 y)(hg:w'.heap[w.heap.size]? = some (.cells cs 103 (0,0)))(hs:cs.size=16)(hb:Below w.heap.size w w') :
  bodyPost prog Tryz.f84 (fun e w''=>e= .returned (.tuple #[.agg cs,.int .i64 y])∧Below w.heap.size w w'') .ret { tmps:=tmps,defers:= []} w':=by
 have a:=run_loadVar_row (P:=prog) w' w.heap.size 103 103 cs (0,0) _ hg underlying103 rfl (by rw [hs];kernel_rfl)
 simp at h1 h3
 exact bodyPost_ret (v:= .tuple #[.agg cs,.int .i64 y]) (by simp [results,Tryz.results84,asAddr,a,h1,h3]) rfl ⟨rfl,hb⟩
theorem layout_any (n:Nat)(h0:48≤n)(h1:n≤1024)(w:World) :
  Calls prog 84 #[.int .i64 (n:Int)] w fun e w'=>e= .returned (.tuple #[.agg (layA n (layQ n) (layS n) (layT n)),.int .i64 0])∧Below w.heap.size w w':=by
 have i:¬ (n:Int)<48:=by omega
 have d:¬ (1024:Int)<n:=by omega
 have b:=Z7A (n/8) 16 (by omega) (by decide) (by decide)
 have a:=Z7A n 64 (by omega) (by decide) (by decide)
 have g:(n:Int)/8=((layQ n:Nat):Int):=rfl
 have j:layQ n≤128:=by unfold layQ;omega
 have f:layS n≤9:=by unfold layS;omega
 have h:layT n≤17:=by unfold layT;omega
 rw [show n/8=layQ n from rfl,show (layQ n+16-1)/16=layS n from rfl] at b
 rw [show (n+64-1)/64=layT n from rfl] at a
 generalize layQ n=q at *
 generalize layS n=s at *
 generalize layT n=t at *
 go_enter func84,ntmps84
 go_wp2_with fail
 refine (b _).mono ?_
 rintro e c ⟨rfl,rfl⟩
 go_wp2_with fail
 refine (a _).mono ?_
 rintro e c ⟨rfl,rfl⟩
 go_wp2_with fail
 exact lay_ret _ w _ 0 (layA n q s t) rfl rfl (heap_alloc2_old w _ _) rfl (((Below.refl _ _).alloc (Nat.le_refl _) _).alloc (by simp) _)
section
open Go.Shelf Go.RowKit
def ct169_ren:Go.Shelf.Ren:=⟨fun | 169=>61 | n=>n,fun | 70=>137 | 9=>9 | 0=>0 | 72=>139 | 37=>90 | 127=>200 | 3=>3 | 5=>5 | n=>n,fun | n=>n⟩
theorem ct169:Go.Proofs.Lays.n169 prog ct169_ren:= {
 mixed:=by kernel_rfl
 f169:=func61.trans (congrArg some (by kernel_rfl))
 t0:=underlying0
 a0:=Tryz.isAgg0
 z0:=Tryz.sizeOf0
 v0:=Tryz.zeroValue0
 t3:=underlying3
 a3:=Tryz.isAgg3
 z3:=Tryz.sizeOf3
 v3:=Tryz.zeroValue3
 t9:=underlying9
 a9:=Tryz.isAgg9
 z9:=Tryz.sizeOf9
 v9:=Tryz.zeroValue9
 t37:=underlying90
 a37:=Tryz.isAgg90
 z37:=Tryz.sizeOf90
 v37:=Tryz.zeroValue90
 t70:=underlying137
 a70:=Tryz.isAgg137
 z70:=Tryz.sizeOf137
 v70:=Tryz.zeroValue137
 t72:=underlying139
 a72:=Tryz.isAgg139
 z72:=Tryz.sizeOf139
 v72:=Tryz.zeroValue139
 t127:=underlying200
 a127:=Tryz.isAgg200
 z127:=Tryz.sizeOf200
 v127:=Tryz.zeroValue200 }
theorem ct169_extra:Builder.Extra prog ct169_ren:= {
 sizeBuilder:=by kernel_rfl
 liesBuilder:=by kernel_rfl
 t5:=underlying5
 a5:=Tryz.isAgg5
 z5:=Tryz.sizeOf5
 v5:=Tryz.zeroValue5
 infoByte:=by kernel_rfl
 cellsByte:=by kernel_rfl
 sizeByte:=by kernel_rfl
 neB5:=by decide }
def ct166_ren:Go.Shelf.Ren:=⟨fun | 166=>59 | 240=>100 | 276=>126 | n=>n,fun | 0=>0 | 3=>3 | 4=>4 | 9=>9 | 20=>20 | 37=>90 | 70=>137 | 72=>139 | 75=>113 | 164=>229 | 5=>5 | 80=>76 | n=>n,fun | n=>n⟩
theorem ct166:Go.Proofs.Lays.n166 prog ct166_ren:= {
 mixed:=by kernel_rfl
 f166:=func59.trans (congrArg some (by kernel_rfl))
 f240:=func100.trans (congrArg some (by kernel_rfl))
 f276:=func126.trans (congrArg some (by kernel_rfl))
 t0:=underlying0
 a0:=Tryz.isAgg0
 z0:=Tryz.sizeOf0
 v0:=Tryz.zeroValue0
 t3:=underlying3
 a3:=Tryz.isAgg3
 z3:=Tryz.sizeOf3
 v3:=Tryz.zeroValue3
 t4:=underlying4
 a4:=Tryz.isAgg4
 z4:=Tryz.sizeOf4
 v4:=Tryz.zeroValue4
 t9:=underlying9
 a9:=Tryz.isAgg9
 z9:=Tryz.sizeOf9
 v9:=Tryz.zeroValue9
 t20:=underlying20
 a20:=Tryz.isAgg20
 z20:=Tryz.sizeOf20
 v20:=Tryz.zeroValue20
 t37:=underlying90
 a37:=Tryz.isAgg90
 z37:=Tryz.sizeOf90
 v37:=Tryz.zeroValue90
 t70:=underlying137
 a70:=Tryz.isAgg137
 z70:=Tryz.sizeOf137
 v70:=Tryz.zeroValue137
 t72:=underlying139
 a72:=Tryz.isAgg139
 z72:=Tryz.sizeOf139
 v72:=Tryz.zeroValue139
 t75:=underlying113
 a75:=Tryz.isAgg113
 z75:=Tryz.sizeOf113
 v75:=Tryz.zeroValue113
 t164:=underlying229
 a164:=Tryz.isAgg229
 z164:=Tryz.sizeOf229
 v164:=Tryz.zeroValue229 }
theorem ct166_extra:Builder.Extra prog ct166_ren:= {
 sizeBuilder:=by kernel_rfl
 liesBuilder:=by kernel_rfl
 t5:=underlying5
 a5:=Tryz.isAgg5
 z5:=Tryz.sizeOf5
 v5:=Tryz.zeroValue5
 infoByte:=by kernel_rfl
 cellsByte:=by kernel_rfl
 sizeByte:=by kernel_rfl
 neB5:=by decide }
theorem ctString_any (B b:Nat)(l:List UInt8)(w:World)(h:Lib.IsBuilder 139 5 B b (Lib.byteCells l) w)(hBw:B≤w.heap.size) :
  Calls prog 61 #[.pointer (some ⟨b,0,none⟩)] w fun e w'=>e= .returned (.string ⟨l.toArray⟩)∧Below B w w':=Any.Builder_String_any ct169 ct169_extra B b l w h hBw
end
theorem rlay_ret (tmps:Array Value)(w w':World)(y:Int)(cs:Array Value)(h1:tmps.getD 2 undef= .pointer (some ⟨w.heap.size,0,none⟩))(h3:tmps.getD 3 undef= .int .i64 y)(hg:w'.heap[w.heap.size]? = some (.cells cs 103 (0,0)))(hs:cs.size=16)(hb:Below w.heap.size w w') :
  bodyPost prog Tryz.f38 (fun e w''=>e= .returned (.tuple #[.agg cs,.int .i64 y])∧Below w.heap.size w w'') .ret { tmps:=tmps,defers:= []} w':=by
 have a:=run_loadVar_row (P:=prog) w' w.heap.size 103 103 cs (0,0) _ hg underlying103 rfl (by rw [hs];kernel_rfl)
 simp at h1 h3
 exact bodyPost_ret (v:= .tuple #[.agg cs,.int .i64 y]) (by simp [results,Tryz.results38,asAddr,a,h1,h3]) rfl ⟨rfl,hb⟩
theorem rlayout_any (n:Nat)(h0:48≤n)(h1:n≤1024)(w:World) :
  Calls prog 38 #[.int .i64 (n:Int)] w fun e w'=>e= .returned (.tuple #[.agg (layA n (layQ n) (layS n) (layT n)),.int .i64 0])∧Below w.heap.size w w':=by
 have l:¬ (n:Int)<48:=by omega
 have h:¬ (1024:Int)<n:=by omega
 have f:=rup_any (n/8) 16 (by omega) (by decide) (by decide)
 have a:=rup_any n 64 (by omega) (by decide) (by decide)
 have j:(n:Int)/8=((layQ n:Nat):Int):=rfl
 have m:layQ n≤128:=by unfold layQ;omega
 have i:layS n≤9:=by unfold layS;omega
 have k:layT n≤17:=by unfold layT;omega
 rw [show n/8=layQ n from rfl,show (layQ n+16-1)/16=layS n from rfl] at f
 rw [show (n+64-1)/64=layT n from rfl] at a
 generalize layQ n=q at *
 generalize layS n=s at *
 generalize layT n=t at *
 have b:(30:Int)+q+s=29+q+s+1:=by omega
 have c:(2:Int)*n+1+t=n+1+t+n:=by omega
 have d:Hid ((30:Int)+q+s=29+q+s+1∧(2:Int)*n+1+t=n+1+t+n):=⟨b,c⟩
 clear b c
 go_enter func38,ntmps38
 go_wp2_with fail
 refine (f _).mono ?_
 rintro e g ⟨rfl,rfl⟩
 go_wp2_with fail
 refine (a _).mono ?_
 rintro e g ⟨rfl,rfl⟩
 go_wp2_with fail
 rw [d.out.1,d.out.2]
 exact rlay_ret _ w _ 0 (layA n q s t) rfl rfl (heap_alloc_new w _) rfl ((Below.refl _ _).alloc (Nat.le_refl _) _)
end Go.Proofs.YtijpgmkdnemmbaaGreatDoor
