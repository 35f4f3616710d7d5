/- Part 47. -/
import Derived.Test.YtijpgmkdnemmbaaGreatDoorMg46
set_option maxRecDepth 20000
set_option maxHeartbeats 8000000
open Go.RowKit Go.Proofs.Tryz
namespace Go.Proofs.YtijpgmkdnemmbaaGreatDoor
namespace Bx
theorem dig_zero (k:Nat):(digL 0 13).getD k 0=0:=by
 by_cases h:k<13
 ·rw [Z4m 0 13 k h,Nat.zero_div]
 ·rw [Z0W _ _ (by rw [Z15];omega)]
theorem Z0g.lift {w w':World}{g n:Nat}{L:List Nat}(h:Z0g w g n L)(hb:Below w.heap.size w w'):Z0g w' g n L:=h.below hb h.lt
theorem piece_of (s:ByteArray)(a e:Nat)(h:e=a+16∨(e=s.size∧s.size≤a+16)):Z00 (s.extract a e++⟨#[1]⟩)=(((Z00 s).drop a).take 16) ++ [1]:=by
 have b:Z00 (s.extract a e++⟨#[1]⟩)=Z00 (s.extract a e) ++ [1]:=by
  simp [Z00,ByteArray.data_append]
 rw [b,Z0h]
 rcases h with rfl | ⟨rfl,h⟩
 ·rw [show a+16-a=16 by omega]
 ·rw [List.take_of_length_le (by rw [List.length_drop,Z01];omega),List.take_of_length_le (by rw [List.length_drop,Z01];omega)]
theorem piece_lt (l:List Nat)(hl:Z03 l)(a:Nat):leN ((l.drop a).take 16 ++ [1])<1024 ^ 14:=by
 have h:=leN_lt ((l.drop a).take 16 ++ [1]) ((hl.drop a |>.take 16).append (fun x hx=>by rw [List.mem_singleton.1 hx];decide))
 have b:((l.drop a).take 16 ++ [1]).length≤17:=by simp;omega
 exact Nat.lt_of_lt_of_le h (Nat.le_trans (Nat.pow_le_pow_right (by decide) b) (by decide))
set_option maxRecDepth 10000 in
theorem rTag_ok (key s:ByteArray)(hk:key.size=32)(hs:s.size<1099511627776)(w:World) :
  Calls prog 137 #[.string key,.string s] w fun e w'=>e= .returned (.tuple #[.string (strN (Z64 (Z00 key) (Z00 s))),.int .i64 0])∧Below w.heap.size w w':=by
 obtain⟨i0,hi,d0,di,d7⟩:=info_parts Z1j
 obtain⟨i1,hj,d2,cz,de⟩:=info_parts Z2n
 have hm:∀ W,(Instr.makeSlice 67 (.int .i64 13) (.int .i64 13)).run prog W= .ok (.slice (some ⟨W.heap.size,0,none⟩) 13 13) (W.alloc (.cells (madeCells #[.int .i64 0] 13) 3)):=run_make_row' (P:=prog) 67 3 (.int .i64 0) 8 underlying67 Z1j rfl .i64 .i64 13 (by omega) (by omega)
 have bk:Hid (∀ W:World,Z0n (W.alloc (.cells (madeCells #[.int .i64 0] 13) 3)) W.heap.size 13 (fun _=> .int .i64 0)):=fun W=>Z4B W 13
 obtain⟨ms,I⟩:∃ ms,madeCells #[.int .i64 0] 13=ms:=⟨_,rfl⟩
 rw [I] at bk
 simp only [I] at hm
 clear I
 have bb:∀ W,(Instr.makeSlice 67 (.int .i64 14) (.int .i64 14)).run prog W= .ok (.slice (some ⟨W.heap.size,0,none⟩) 14 14) (W.alloc (.cells (madeCells #[.int .i64 0] 14) 3)):=run_make_row' (P:=prog) 67 3 (.int .i64 0) 8 underlying67 Z1j rfl .i64 .i64 14 (by omega) (by omega)
 have M:Hid (∀ W:World,Z0n (W.alloc (.cells (madeCells #[.int .i64 0] 14) 3)) W.heap.size 14 (fun _=> .int .i64 0)):=fun W=>Z4B W 14
 obtain⟨ms4,I⟩:∃ ms4,madeCells #[.int .i64 0] 14=ms4:=⟨_,rfl⟩
 rw [I] at M
 simp only [I] at bb
 clear I
 have cp:(Z00 key).length=32:=by rw [Z01];exact hk
 have ck:=fun W=>rclamped_any key hk W
 have bq:=fun W=>Z57 (strN (Z0O (Z00 key))) (by rw [Z0X,Z2b];decide) 13 (by omega) (by omega) W
 simp only [Z14 _ (Z3j _ (Z04 key))] at bq
 have ai:=fun W=>Z57 (key.extract 16 32) (by simp;omega) 13 (by omega) (by omega) W
 have co:Z00 (key.extract 16 32)=(Z00 key).drop 16:=by rw [Z0h,List.take_of_length_le (by rw [List.length_drop];omega)]
 simp only [co] at ai
 have HR:Hid (leN (Z0O (Z00 key))<1024 ^ 13):=by
  have h:=leN_lt (Z0O (Z00 key)) (Z3j _ (Z04 key))
  rw [Z2b] at h
  exact Nat.lt_trans h (by decide)
 have ce:Hid (leN ((Z00 key).drop 16)<1024 ^ 13):=by
  have h:=leN_lt ((Z00 key).drop 16) ((Z04 key).drop 16)
  rw [List.length_drop,cp] at h
  exact Nat.lt_trans h (by decide)
 obtain⟨X,hX⟩:∃ X,X=strN (Z64 (Z00 key) (Z00 s)):=⟨_,rfl⟩
 rw [← hX]
 have HX:Hid (X=strN (leB 16 (Z5F (leN (Z0O (Z00 key))) (Z00 s)+leN ((Z00 key).drop 16)))):=by rw [hX,Z64,last_leB];rfl
 have bm:Hid (∀ a,leN (((Z00 s).drop a).take 16 ++ [1])<1024 ^ 14):=fun a=>piece_lt _ (Z04 s) a
 have bj:Hid (∀ a e,(e=a+16∨(e=s.size∧s.size≤a+16))→Z00 (s.extract a e++⟨#[1]⟩)=(((Z00 s).drop a).take 16) ++ [1]):=fun a e h=>piece_of s a e h
 have b1:Hid _:=Z01 s
 clear hX co cp
 generalize leN (Z0O (Z00 key))=R at *
 generalize leN ((Z00 key).drop 16)=S at *
 generalize strN (Z0O (Z00 key))=CK at *
 generalize Z00 s=l at *
 go_enter func137,ntmps137
 go_wp2_with fail
 refine (ck _).mono ?_
 rintro e w1 ⟨rfl,b7⟩
 clear ck
 go_wp2_with fail
 refine (bq _).mono ?_
 rintro e w2 ⟨gr,cr,rfl,hO,G⟩
 clear bq
 have bo:=b7.trans (G.mono b7.size)
 have bv:=Z0g.of hO (Z15 R 13)
 have c6:=bo.alloc bo.size (.cells ms 3)
 have au:Z0g (w2.alloc (.cells ms 3)) gr 13 (digL R 13):=bv.lift ((Below.refl w2.heap.size w2).alloc (Nat.le_refl _) _)
 have hc:=bk.out w2
 have HA:Hid (Z0g (w2.alloc (.cells ms 3)) w2.heap.size 13 (digL (Z4J R l 0) 13)∧_∧_):=⟨⟨hc.lt,fun i hi=>by rw [hc.cells i hi,show Z4J R l 0=0 from rfl,dig_zero];rfl,hc.free⟩,au,c6⟩
 clear hc bv au bo c6 hO b7 G bk
 go_wp2_with fail
 go_loopw [7,8] (fun u v D=> ∃ k a Z ch:Nat,a=16*k∧a<s.size+16∧u= .slice (some ⟨Z,0,none⟩) 13 ch∧v= .int .i64 a∧Z0g D Z 13 (digL (Z4J R l k) 13)∧Z0g D gr 13 (digL R 13)∧Below w.heap.size w D) (fun _ v _=>s.size+16-(intOf v).toNat)
 case atStart=>exact⟨0,0,w2.heap.size,13,rfl,by omega,rfl,rfl,HA.out⟩
 case round =>
  clear HA hm
  obtain⟨k,a,Z,ch,ag,b4,rfl,rfl,hH,hR,A⟩:=hrel
  by_cases a8:a<s.size
  ·clear ai HX
   have HK:Hid _:=ag
   have HL:Hid (_∧_∧_):=⟨hH,hR,A⟩
   have d3:Hid (Z4J R l k<1024 ^ 13):=by
    cases k with
    | zero=>exact (show 0<1024 ^ 13 by decide)
    | succ k=>exact Nat.lt_trans (Nat.mod_lt _ (by decide)) (show Z0x<1024 ^ 13 by decide)
   have Q:Hid (Z4J R l (k+1)=Z3U R (Z4J R l k) ((l.drop a).take 16)):=by
    show _=_
    rw [ag];rfl
   clear hH hR A ag
   have cc:=bm.out a
   have dd:Hid _:=cc
   have cy:Hid (∀ h,(h+leN ((l.drop a).take 16 ++ [1]))%Z0x*R%Z0x=Z3U R h ((l.drop a).take 16)):=fun h=>step_times R h _
   have b8:Hid _:=bj.out a
   clear cc bm bj b1
   generalize (l.drop a).take 16=pc at *
   generalize Z4J R l k=H at *
   obtain⟨H',b6⟩:∃ H',H'=Z4J R l (k+1):=⟨_,rfl⟩
   rw [← b6] at Q
   have d6:Hid _:=b6.symm
   clear b6
   have bg:(∃ z e:Nat,z=a+16∧z=e∧¬ (s.size:Int)<z∧e≤s.size∧Z00 (s.extract a e++⟨#[1]⟩)=pc ++ [1])∨(∃ z e:Nat,z=a+16∧s.size=e∧(s.size:Int)<z∧e≤s.size∧Z00 (s.extract a e++⟨#[1]⟩)=pc ++ [1]):=by
    by_cases h:a+16≤s.size
    ·exact .inl ⟨a+16,a+16,rfl,rfl,by omega,h,b8.out _ (.inl rfl)⟩
    ·exact .inr ⟨a+16,s.size,rfl,rfl,by omega,Nat.le_refl _,b8.out _ (.inr ⟨rfl,by omega⟩)⟩
   clear b8
   rcases bg with ⟨z,e,hz,rfl,hzl,hel,hpq⟩ | ⟨z,e,hz,hse,hzl,hel,hpq⟩
   case' inl =>
    have wa:IntKind.i64.wrap ((a:Int)+16)=(z:Int):=by rw [IntKind.wrap_i64];omega
    have al:(a:Int)<s.size:=by omega
    have ae:(a:Int)≤(z:Int):=by omega
    have el:(z:Int)≤s.size:=by omega
    have br:(s.extract a z).size≤16:=by simp;omega
    have av:∀ w',(Op.stringOp .add (s.extract a z) ⟨#[1]⟩).run prog w'= .ok (.string (s.extract a z++⟨#[1]⟩)) w':=fun w'=>run_string_add_sum (P:=prog) (w:=w') (s.extract a z) ⟨#[1]⟩ (by show _+1≤_;omega)
    have cv:(s.extract a z++⟨#[1]⟩).size≤17:=by rw [ByteArray.size_append];show _+1≤_;omega
    generalize s.extract a z++⟨#[1]⟩=P at *
    have HZ:Hid _:=a8
    have aj:Hid _:=hz
    clear hz a8 hel br b4
    go_wp2_with fail
   case' inr =>
    have wa:IntKind.i64.wrap ((a:Int)+16)=(z:Int):=by rw [IntKind.wrap_i64];omega
    have HZ:Hid _:=a8
    rw [hse] at hzl a8 hs
    have al:(a:Int)<e:=by omega
    have ae:(a:Int)≤(e:Int):=by omega
    have br:(s.extract a e).size≤16:=by simp;omega
    have av:∀ w',(Op.stringOp .add (s.extract a e) ⟨#[1]⟩).run prog w'= .ok (.string (s.extract a e++⟨#[1]⟩)) w':=fun w'=>run_string_add_sum (P:=prog) (w:=w') (s.extract a e) ⟨#[1]⟩ (by show _+1≤_;omega)
    have cv:(s.extract a e++⟨#[1]⟩).size≤17:=by rw [ByteArray.size_append];show _+1≤_;omega
    generalize s.extract a e++⟨#[1]⟩=P at *
    have aj:Hid _:=hz
    clear hz a8 hel br b4
    go_wp2_with fail
   all_goals
    refine (Z57 P (by omega) 14 (by omega) (by omega) _).mono ?_
    rintro ee o ⟨gw,cw,rfl,b9,F⟩
    rw [hpq] at b9
    have bn:=Z0g.of b9 (Z15 _ 14)
    generalize leN (pc ++ [1])=W at *
    have bf:=HL.out.1.lift F
    have bh:=HL.out.2.1.lift F
    have K:=HL.out.2.2.trans (F.mono HL.out.2.2.size)
    have ac:=(Below.refl o.heap.size o).alloc (Nat.le_refl _) (.cells ms4 3)
    have aq:=M.out o
    have a3:=bn.lift ac
    have b0:=bf.lift ac
    have az:=bh.lift ac
    have b2:=K.alloc K.size (.cells ms4 3)
    have ab:gw≠o.heap.size:=by have:=bn.lt;omega
    have ao:Z≠o.heap.size:=by have:=bf.lt;omega
    have ap:gr≠o.heap.size:=by have:=bh.lt;omega
    have O:=K.size
    obtain⟨w4,db⟩:∃ w4,o.alloc (.cells ms4 3)=w4:=⟨_,rfl⟩
    rw [db] at aq a3 b0 az b2
    obtain⟨gt,df⟩:∃ gt,o.heap.size=gt:=⟨_,rfl⟩
    rw [df] at aq ab ao ap O
    have HA:Hid (Z0n w4 gt 14 (fun k=> .int .i64 ((if k<0 then addF W H k else 0:Nat):Int))∧Z0g w4 gw 14 (digL W 14)∧Z0g w4 Z 13 (digL H 13)∧Z0g w4 gr 13 (digL R 13)∧Below w.heap.size w w4):=⟨aq.congr fun q _=>by rw [if_neg (Nat.not_lt_zero q)];rfl,a3,b0,az,b2⟩
    clear aq a3 b0 az b2 ac bf bh K bn b9 F HL M hpq cv av ae
    go_wp2_with fail
    generalize wr=wr0 at *
    go_loopw [12] (fun v D=> ∃ i:Nat,i≤14∧v= .int .i64 i∧Z0n D gt 14 (fun k=> .int .i64 ((if k<i then addF W H k else 0:Nat):Int))∧Z0g D gw 14 (digL W 14)∧Z0g D Z 13 (digL H 13)∧Z0g D gr 13 (digL R 13)∧Below w.heap.size w D) (fun v _=>14-(intOf v).toNat)
    case atStart=>exact⟨0,Nat.zero_le _,rfl,HA.out⟩
    case round =>
     clear HA bb
     obtain⟨i,dj,rfl,hC,iW,iH,iR,U⟩:=hrel
     by_cases E:i<14
     ·have dt:(i:Int)<14:=by omega
      have cW:=iW.cells i E
      have ct:wr.cell? ⟨gt,i,none⟩=some (.int .i64 0):=by rw [hC.cells i E,if_neg (Nat.lt_irrefl i)];rfl
      have ft:=hC.free i E
      have ds:=dig14_lt W i
      by_cases T:i<13
      ·have d5:(i:Int)<13:=by omega
       have dw:=Z4C H i
       have a4:Hid (addF W H i=(digL W 14).getD i 0+(digL H 13).getD i 0):=by
        show _=_
        rw [addF,if_pos T]
       have a9:=hC.set i (.int .i64 ((digL W 14).getD i 0:Nat)) E
       have ay:Z0g (wr.setCell ⟨gt,i,none⟩ (.int .i64 ((digL W 14).getD i 0:Nat))) gw 14 (digL W 14):=Z0V iW ab
       have ar:Z0g (wr.setCell ⟨gt,i,none⟩ (.int .i64 ((digL W 14).getD i 0:Nat))) Z 13 (digL H 13):=Z0V iH ao
       have b3:Z0g (wr.setCell ⟨gt,i,none⟩ (.int .i64 ((digL W 14).getD i 0:Nat))) gr 13 (digL R 13):=Z0V iR ap
       have bc:=U.setCell (p:=⟨gt,i,none⟩) O (.int .i64 ((digL W 14).getD i 0:Nat))
       obtain⟨w5,d8⟩:∃ w5,wr.setCell ⟨gt,i,none⟩ (.int .i64 ((digL W 14).getD i 0:Nat))=w5:=⟨_,rfl⟩
       rw [d8] at a9 ay ar b3 bc
       have c5:w5.cell? ⟨gt,i,none⟩=some (.int .i64 ((digL W 14).getD i 0:Nat)):=by rw [a9.cells i E,if_pos rfl]
       have f5:=a9.free i E
       have cH:=ar.cells i T
       have L:Hid (∀ n,Z0n ((w5.setCell ⟨gt,i,none⟩ (.int .i64 (addF W H i:Nat))).drewN n) gt 14 (fun k=> .int .i64 ((if k<i+1 then addF W H k else 0:Nat):Int))∧Z0g ((w5.setCell ⟨gt,i,none⟩ (.int .i64 (addF W H i:Nat))).drewN n) gw 14 (digL W 14)∧Z0g ((w5.setCell ⟨gt,i,none⟩ (.int .i64 (addF W H i:Nat))).drewN n) Z 13 (digL H 13)∧Z0g ((w5.setCell ⟨gt,i,none⟩ (.int .i64 (addF W H i:Nat))).drewN n) gr 13 (digL R 13)∧Below w.heap.size w ((w5.setCell ⟨gt,i,none⟩ (.int .i64 (addF W H i:Nat))).drewN n)):=fun n=>⟨((a9.set i (.int .i64 (addF W H i:Nat)) E).congr fun k _=>by
        by_cases e:k=i
        ·subst e;rw [if_pos rfl,if_pos (by omega)]
        ·rw [if_neg e,if_neg e]
         by_cases h:k<i
         ·rw [if_pos h,if_pos (by omega)]
         ·rw [if_neg h,if_neg (by omega)]).drewN n,(Z0V ay ab).drewN n,(Z0V ar ao).drewN n,(Z0V b3 ap).drewN n,below_drewN (bc.setCell (p:=⟨gt,i,none⟩) O _) n⟩
       rw [a4.out] at L
       clear hC a9 iW iH iR ay ar b3 U bc a4
       generalize (digL W 14).getD i 0=x at *
       generalize (digL H 13).getD i 0=y at *
       obtain⟨q,hq⟩:∃ q,q=x+y:=⟨_,rfl⟩
       rw [← hq] at L
       have D:IntKind.i64.wrap ((x:Int)+(y:Int))=(q:Int):=by rw [IntKind.wrap_i64];omega
       clear hq
       go_wp2_with fail
       go_region
       all_goals
        go_wp2
        go_roundw
        case rel=>exact⟨i+1,by omega,by go_num,L.out 1⟩
        case measure=>simp [intOf];omega
      ·obtain rfl:i=13:=by omega
       have a4:Hid ((digL W 14).getD 13 0=addF W H 13):=by
        show _=_
        rw [addF,if_neg (by omega)];rfl
       have L:Hid (Z0n (wr.setCell ⟨gt,13,none⟩ (.int .i64 ((digL W 14).getD 13 0:Nat))) gt 14 (fun k=> .int .i64 ((if k<13+1 then addF W H k else 0:Nat):Int))∧Z0g (wr.setCell ⟨gt,13,none⟩ (.int .i64 ((digL W 14).getD 13 0:Nat))) gw 14 (digL W 14)∧Z0g (wr.setCell ⟨gt,13,none⟩ (.int .i64 ((digL W 14).getD 13 0:Nat))) Z 13 (digL H 13)∧Z0g (wr.setCell ⟨gt,13,none⟩ (.int .i64 ((digL W 14).getD 13 0:Nat))) gr 13 (digL R 13)∧Below w.heap.size w (wr.setCell ⟨gt,13,none⟩ (.int .i64 ((digL W 14).getD 13 0:Nat)))):=⟨(hC.set 13 (.int .i64 ((digL W 14).getD 13 0:Nat)) E).congr fun k hk=>by
        by_cases e:k=13
        ·subst e;rw [if_pos rfl,if_pos (by omega),a4.out]
        ·rw [if_neg e,if_pos (by omega),if_pos (by omega)],Z0V iW ab,Z0V iH ao,Z0V iR ap,U.setCell (p:=⟨gt,13,none⟩) O _⟩
       clear hC iW iH iR U a4
       generalize (digL W 14).getD 13 0=x at *
       go_wp2
       go_roundw
       case rel=>exact⟨14,by omega,rfl,L.out⟩
       case measure=>simp [intOf]
     ·obtain rfl:i=14:=by omega
      have c1:Z0g wr gt (addT W H).length (addT W H):=by
       rw [Z3a]
       exact⟨hC.lt,fun k hk=>by rw [hC.cells k hk,if_pos hk,addT_at W H k hk],hC.free⟩
      have a6:=Z6w (addT W H) (addT_small W H) (by rw [Z3a];decide) gt 14 (by rw [Z3a];decide) wr c1
      rw [Z3a,addT_big W H dd.out d3.out] at a6
      have aa:Hid (Z0g wr gr 13 (digL R 13)∧Below w.heap.size w wr):=⟨iR,U⟩
      clear hC iW iH iR U c1
      go_wp2_with fail
      refine a6.mono ?_
      rintro ee w6 ⟨gd,cd,rfl,c9,dc,bp⟩
      have aw:=aa.out.1.lift bp
      have ci:=aa.out.2.trans (bp.mono aa.out.2.size)
      have ba:=rtimes_any ((H+W)%Z0x) R (Nat.lt_trans (Nat.mod_lt _ (by decide)) (show Z0x<1024 ^ 13 by decide)) HR.out gd gr cd cr w6 c9 aw
      rw [cy.out H,← Q.out] at ba
      have af:Hid (Z0g w6 gr 13 (digL R 13)∧Below w.heap.size w w6):=⟨aw,ci⟩
      clear a6 c9 dc bp aw ci aa
      go_wp2_with fail
      refine ba.mono ?_
      rintro ee w7 ⟨g7,c7,rfl,bt,d4,bi⟩
      have bu:Hid (Z0g w7 g7 13 (digL H' 13)∧Z0g w7 gr 13 (digL R 13)∧Below w.heap.size w w7):=⟨bt,af.out.1.lift bi,af.out.2.trans (bi.mono af.out.2.size)⟩
      clear ba bt d4 bi af
      go_wp2
      go_roundw
      case rel=>exact⟨k+1,z,g7,c7,by rw [aj.out,HK.out];omega,by have:=aj.out;have:=HZ.out;omega,rfl,rfl,by rw [d6.out];exact bu.out.1,bu.out.2⟩
      case measure=>have:=aj.out;have:=HZ.out;simp [intOf];omega
  ·have HN:Hid (Z4J R l k=Z5F R l):=by
    show _=_
    rw [Z5F,b1.out,show (s.size+15)/16=k by omega]
   have hN:Z0g wr Z 13 (digL (Z5F R l) 13):=by rw [← HN.out];exact hH
   have cx:Hid (Z5F R l<1024 ^ 13):=Nat.lt_trans (polyN_lt R l) (show Z0x<1024 ^ 13 by decide)
   generalize Z5F R l=N at *
   have HL:Hid (Z0g wr Z 13 (digL N 13)∧Below w.heap.size w wr):=⟨hN,A⟩
   have dp:¬ (a:Int)<s.size:=by omega
   clear HN hN hH hR A bm bj b1 HR M bb ag b4
   go_wp2_with fail
   refine (ai _).mono ?_
   rintro ee o ⟨gs,cs,rfl,ca,F⟩
   have bw:Z0g o gs 13 (digL S 13):=Z0g.of ca (Z15 S 13)
   have cn:=HL.out.1.lift F
   have K:=HL.out.2.trans (F.mono HL.out.2.size)
   have b5:Hid (Below w.heap.size w o):=K
   have cj:Hid (∀ i,i<13→(Z0U (Z4K N S) i+Z4K N S i)%1024=(N+S)/1024 ^ i%1024):=fun i h=>last_dig N S i h cx.out ce.out
   have c0:Hid (∀ i,Z0U (Z4K N S) i<2):=last_carry N S
   have cf:Hid (∀ i,Z0U (Z4K N S) (i+1)=(Z0U (Z4K N S) i+Z4K N S i)/1024):=fun _=>rfl
   have cm:Hid (Z0U (Z4K N S) 0=0):=rfl
   have cg:Hid (∀ i,Z4K N S i=(digL N 13).getD i 0+(digL S 13).getD i 0):=fun _=>rfl
   generalize Z4K N S=f at *
   generalize N+S=V at *
   have HI:Hid (Z0g o Z 13 (digL N 13)∧Z0g o gs 13 (digL S 13)):=⟨cn,bw⟩
   clear ca bw cn K F HL ai
   go_wp2_with fail
   generalize wr=wr0 at *
   go_loopw [14,15,16] (fun c v iv D=> ∃ i:Nat,i≤13∧c= .int .i64 (Z0U f i:Nat)∧iv= .int .i64 i∧D.ownsRow o.heap.size 3 1 v (10*i) (intV (bitL V (10*i)))∧Below o.heap.size o D) (fun _ _ iv _=>13-(intOf iv).toNat)
   case atStart=>exact⟨0,Nat.zero_le _,by rw [cm.out];rfl,rfl,World.ownsRow_nil _ _ _ _,Below.refl _ _⟩
   case round =>
    obtain⟨i,dl,rfl,rfl,m,A⟩:=hrel
    by_cases T:i<13
    ·have d5:(i:Int)<13:=by omega
     have iN:=HI.out.1.lift A
     have iS:=HI.out.2.lift A
     have cN:=iN.cells i T
     have cS:=iS.cells i T
     have nl:=Z4C N i
     have sl:=Z4C S i
     have cl:=c0.out i
     have ad:Hid ((Z0U f i+f i)%1024=V/1024 ^ i%1024):=cj.out i T
     have ak:Hid (Z0U f (i+1)=(Z0U f i+f i)/1024):=cf.out i
     have bx:Hid (f i=(digL N 13).getD i 0+(digL S 13).getD i 0):=cg.out i
     have HO:Hid (∀ n,(wr.drewN n).ownsRow o.heap.size 3 1 u15 (10*i) (intV (bitL V (10*i)))∧Below o.heap.size o (wr.drewN n)):=fun n=>⟨m,below_drewN A n⟩
     clear m A iN iS
     rw [bx.out] at ad ak
     generalize Z0U f i=c at *
     generalize (digL N 13).getD i 0=x at *
     generalize (digL S 13).getD i 0=y at *
     clear bx
     rw [← Nat.add_assoc] at ad ak
     obtain⟨q,hq⟩:∃ q,q=c+x+y:=⟨_,rfl⟩
     rw [← hq] at ad ak
     have dr:IntKind.i64.wrap ((c:Int)+(x:Int))=(c:Int)+x:=by rw [IntKind.wrap_i64];omega
     have du:IntKind.i64.wrap ((c:Int)+(x:Int)+(y:Int))=(q:Int):=by rw [IntKind.wrap_i64];omega
     have ql:q<4096:=by omega
     clear hq nl sl cl
     go_wp2_with fail
     go_quiet (fail)
     go_wp2_with fail
     generalize wr=wr1 at *
     go_loopw [15,17] (fun v jv D=> ∃ j:Nat,j≤10∧jv= .int .i64 j∧D.ownsRow o.heap.size 3 1 v (10*i+j) (intV (bitL V (10*i+j)))∧Below o.heap.size o D) (fun _ jv _=>10-(intOf jv).toNat)
     case atStart=>exact⟨0,Nat.zero_le _,rfl,HO.out _⟩
     case round =>
      clear HO
      obtain⟨j,dm,rfl,m,A⟩:=hrel
      by_cases d1:j<10
      ·have dx:(j:Int)<10:=by omega
       have ah:Hid (intV (bitL V (10*i+(j+1)))=intV (bitL V (10*i+j)) ++ [.int .i64 ((q%1024/2 ^ j%2:Nat):Int)]):=by
        show _=_
        rw [show 10*i+(j+1)=10*i+j+1 by omega,bitL_snoc,ad.out,bit_dig V i j d1]
       obtain⟨d,hd⟩:∃ d,d=q%1024:=⟨_,rfl⟩
       rw [← hd] at ah
       have bd:d<1024:=by omega
       have a1:(q:Int)%1024=(d:Int):=by omega
       have a2:(q:Int).tmod 1024=(d:Int):=by rw [Int.tmod_eq_emod_of_nonneg (by omega)];exact a1
       have ha:=and_one10 d j bd
       generalize d/2 ^ j%2=b at *
       have k4:¬ (j:Int)<0:=by omega
       have k5:(0:Int)≤j:=by omega
       obtain⟨n,hn⟩:∃ n,10*i+j=n:=⟨_,rfl⟩
       have dz:n<1000:=by omega
       have cq:Hid (10*i+(j+1)=n+1):=by show _=_;omega
       rw [cq.out] at ah
       rw [hn] at m ah
       have a0:Hid (∀ g',u15.ownBlock=some g'→o.heap.size≤g'):=fun g' hg'=>(m.lt g' hg').1
       have Y:Hid (wr.ownsRow o.heap.size 3 1 u15 n (intV (bitL V n))∧Below o.heap.size o wr):=⟨m,A⟩
       clear hd hn m A
       go_wp2_with (at_builtin;refine wpList_append_lies _ rfl _ _ 67 rfl o.heap.size 3 i0 (.int .i64 0) 1 8 underlying67 hi d0 di d7 rfl (by decide) u15 n (intV (bitL V n)) rfl (Y.out.1.alloc _) ⟨_,0,none⟩ 1 1 [.int .i64 (b:Nat)] rfl rfl (World.news_of_block (heap_alloc_new _ _)) ?c2 (by decide) ?c3 ?c4 ?c5 _ rfl ?_)
       case c2=>first | rfl | (intro u hu;rw [List.mem_singleton] at hu;rw [hu];rfl)
       case c3=>unfold maxLen;omega
       case c4=>omega
       case c5=>have:=Y.out.2.size;simp;omega
       intro g1 bs w8 B r a7 a5
       have G:=(Y.out.2.alloc Y.out.2.size _).grown r (by have:=Y.out.2.size;simp;omega) (fun g hg=>a0.out g hg)
       have C:=ah.out ▸ B
       have L:Hid (_∧_):=⟨C,G⟩
       clear B C r a7 a5 G a0 Y
       go_wp2
       go_roundw
       case rel=>exact⟨j+1,by omega,by go_num,by rw [cq.out];exact L.out.1,L.out.2⟩
       case measure=>simp [intOf];omega
      ·obtain rfl:j=10:=by omega
       obtain⟨d,hd⟩:∃ d,d=q/1024:=⟨_,rfl⟩
       have s4:(q:Int)/1024=(d:Int):=by omega
       have s5:(q:Int).tdiv 1024=(d:Int):=by rw [Int.tdiv_eq_ediv_of_nonneg (by omega)];exact s4
       have HD:Hid (Z0U f (i+1)=d):=by show _=_;rw [ak.out,hd]
       have L:Hid (wr.ownsRow o.heap.size 3 1 u15 (10*(i+1)) (intV (bitL V (10*(i+1))))∧Below o.heap.size o wr):=⟨m,A⟩
       clear m A hd
       go_wp2
       go_roundw
       case rel=>exact⟨i+1,by omega,by rw [HD.out],by go_num,L.out⟩
       case measure=>simp [intOf];omega
    ·obtain rfl:i=13:=by omega
     obtain⟨gb,cb,rfl,bz⟩:=OwnC.of m (by decide)
     have bl:Z0g wr gb 130 (bitL V 130):=Z0g.of bz (bitL_length V 130)
     have c8:Below w.heap.size w wr:=b5.out.trans (A.mono b5.out.size)
     have dh:Hid (∀ t,t<130→wr.cell? ⟨gb,t,none⟩=some (.int .i64 ((V/2 ^ t%2:Nat):Int))):=fun t ht=>by rw [bl.cells t ht,bitL_at V 130 t ht]
     have ax:Hid (gb<wr.heap.size∧Below w.heap.size w wr):=⟨bl.lt,c8⟩
     generalize Z0U f 13=c at *
     generalize hwo:wr=w4 at *
     clear bl c8 bz m A HI cj c0 cf cm cg cx ce b5 hwo
     go_wp2_with fail
     go_loopw [18,19] (fun v iv D=> ∃ i:Nat,i≤16∧iv= .int .i64 i∧D.ownsRow w4.heap.size 5 1 v i (byV (leB i V))∧Below w4.heap.size w4 D) (fun _ iv _=>16-(intOf iv).toNat)
     case atStart=>exact⟨0,Nat.zero_le _,rfl,World.ownsRow_nil _ _ _ _,Below.refl _ _⟩
     case round =>
      obtain⟨i,dk,rfl,m,A⟩:=hrel
      by_cases dy:i<16
      ·have dv:(i:Int)<16:=by omega
       have cu:Hid (∀ t,t<130→wr.cell? ⟨gb,t,none⟩=some (.int .i64 ((V/2 ^ t%2:Nat):Int))):=fun t ht=>(A.cell (p:=⟨gb,t,none⟩) ax.out.1).trans (dh.out t ht)
       have HO:Hid (wr.ownsRow w4.heap.size 5 1 u18 i (byV (leB i V))∧Below w4.heap.size w4 wr):=⟨m,A⟩
       clear m A
       generalize hwo:wr=wo at *
       clear hwo
       go_wp2_with fail
       go_loopw [20,21] (fun d jv wz=> ∃ J:Nat,J≤8∧jv= .int .i64 ((J:Int)-1)∧d= .int .i64 ((V/2 ^ (8*i+J)%2 ^ (8-J):Nat):Int)∧wz=wo) (fun _ jv _=>(intOf jv+1).toNat)
       case atStart=>exact⟨8,Nat.le_refl _,rfl,by simp [Nat.mod_one],rfl⟩
       case round =>
        obtain⟨J,hJ,rfl,rfl,rfl⟩:=hrel
        cases J with
        | zero =>
         rw [show ((0:Nat):Int)-1= -1 from rfl,show 8*i+0=8*i from rfl,show 2 ^ (8-0)=256 from rfl]
         have HD:Hid (byV (leB (i+1) V)=byV (leB i V) ++ [.int .u8 ((V/2 ^ (8*i)%256:Nat):Int)]):=leB_snoc i V
         have bd:V/2 ^ (8*i)%256<256:=Nat.mod_lt _ (by decide)
         generalize V/2 ^ (8*i)%256=d at *
         have f0:IntKind.u8.wrap (d:Int)=(d:Int):=by rw [IntKind.wrap_u8];omega
         have m:=HO.out.1
         have A:=HO.out.2
         have a0:Hid (∀ g',u18.ownBlock=some g'→w4.heap.size≤g'):=fun g' hg'=>(m.lt g' hg').1
         clear HO cu
         go_wp2_with (at_builtin;refine wpList_append_lies _ rfl _ _ 90 rfl w4.heap.size 5 i1 (.int .u8 0) 1 1 underlying90 hj d2 cz de rfl (by decide) u18 i (byV (leB i V)) rfl (m.alloc _) ⟨_,0,none⟩ 1 1 [.int .u8 (d:Nat)] rfl rfl (World.news_of_block (heap_alloc_new _ _)) ?c2 (by decide) ?c3 ?c4 ?c5 _ rfl ?_)
         case c2=>first | rfl | (intro u hu;rw [List.mem_singleton] at hu;rw [hu];rfl)
         case c3=>unfold maxLen;omega
         case c4=>omega
         case c5=>have:=A.size;simp;omega
         intro g1 bs w8 B r a7 a5
         have G:=(A.alloc A.size _).grown r (by have:=A.size;simp;omega) (fun g hg=>a0.out g hg)
         have C:=HD.out ▸ B
         have L:Hid (_∧_):=⟨C,G⟩
         clear B C r a7 a5 G m A a0
         go_wp2
         go_roundw
         case rel =>
          repeat apply Exists.intro
          refine⟨?hrel,rfl⟩
          exact⟨i+1,by omega,by go_num,L.out.1,L.out.2⟩
         case measure=>simp [intOf];omega
        | succ J =>
         rw [show (((J+1:Nat):Int)-1)=(J:Int) by omega]
         have Q:=dig_step V (8*i+J) (7-J)
         rw [show 7-J+1=8-J by omega] at Q
         have bd:V/2 ^ (8*i+J+1)%2 ^ (7-J)<256:=Nat.lt_of_lt_of_le (Nat.mod_lt _ (Nat.pow_pos (by decide))) (Nat.le_trans (Nat.pow_le_pow_right (by decide) (show 7-J≤8 by omega)) (by decide))
         rw [show 8*i+(J+1)=8*i+J+1 by omega,show 8-(J+1)=7-J by omega]
         have dg:=cu.out (8*i+J) (by omega)
         have dq:V/2 ^ (8*i+J)%2<2:=Nat.mod_lt _ (by decide)
         have HS:Hid _:=Q
         clear Q
         generalize V/2 ^ (8*i+J+1)%2 ^ (7-J)=d at *
         generalize V/2 ^ (8*i+J)%2=x at *
         have e1:IntKind.i64.wrap (8*(i:Int))=8*i:=by rw [IntKind.wrap_i64];omega
         obtain⟨t,ht⟩:∃ t,t=8*i+J:=⟨_,rfl⟩
         have e2:IntKind.i64.wrap (8*(i:Int)+(J:Int))=(t:Int):=by rw [IntKind.wrap_i64];omega
         have e3:IntKind.i64.wrap (2*(d:Int))=2*d:=by rw [IntKind.wrap_i64];omega
         have e4:IntKind.i64.wrap (2*(d:Int)+(x:Int))=((2*d+x:Nat):Int):=by rw [IntKind.wrap_i64];omega
         rw [← ht] at HS dg
         have dn:(t:Int)<130:=by omega
         have HT:Hid (t=8*i+J):=ht
         clear ht
         go_wp2
         go_roundw
         case rel=>exact⟨J,by omega,rfl,congrArg (Value.int .i64) (by rw [← HT.out,← HS.out];omega),trivial⟩
         case measure=>simp [intOf]
      ·obtain rfl:i=16:=by omega
       obtain⟨g,da,rfl,_,_⟩:=m.form (by decide)
       have d9:=run_convert_bytes_arg (P:=prog) wr 90 5 underlying90 underlying5 g 0 16 da ((leB 16 V).map fun (x:Nat)=>(x:Int)) (by simp [Z11]) (fun i hi=>by
        rw [Nat.zero_add,m.cellAt i (by omega),Z0s _ _ (by rw [Z11];exact hi),Z0b _ _ (by rw [Z11];exact hi)]
        simp [List.getD,Z11,hi]) 9 underlying9
       rw [show strOfNums ((leB 16 V).map fun (x:Nat)=>(x:Int))=strN (leB 16 V) from rfl,← HX.out] at d9
       have L:Hid (Below w.heap.size w wr):=ax.out.2.trans (A.mono ax.out.2.size)
       clear m A
       go_wp2
       go_ret2
       exact⟨rfl,L.out⟩
set_option maxRecDepth 10000 in
theorem rTag_bad (key s:ByteArray)(hk:key.size≠32)(w:World) :
  Calls prog 137 #[.string key,.string s] w fun e w'=>e= .returned (.tuple #[.string ⟨#[]⟩,.int .i64 1])∧w'=w:=by
 have a:((key.size:Int) != 32)=true:=by simp;omega
 go_enter func137,ntmps137
 go_wp2
 go_ret2
 exact⟨rfl,rfl⟩
theorem rTag_any (key s:ByteArray)(hs:s.size<1099511627776)(w:World) :
  Calls prog 137 #[.string key,.string s] w fun e w'=>e= .returned (.tuple #[.string (tagS key s),.int .i64 (tagE key:Nat)])∧Below w.heap.size w w':=by
 unfold tagS tagE
 by_cases h:key.size=32
 ·rw [if_pos h,if_pos h]
  exact rTag_ok key s h hs w
 ·rw [if_neg h,if_neg h]
  refine (rTag_bad key s h w).mono ?_
  rintro e w' ⟨rfl,rfl⟩
  exact⟨rfl,Below.refl _ _⟩
theorem rlow_any (n:Nat)(h:n<9223372036854775808)(w:World) :
  Calls prog 157 #[.int .i64 n] w fun e w'=>e= .returned (.int .i64 ((n%4294967296:Nat):Int))∧w'=w:=by
 have a:bits .and .i64 (n:Int) 4294967295=((n%4294967296:Nat):Int):=by
  rw [show (4294967295:Int)=((4294967295:Nat):Int) from rfl,Z0q n _ h (by decide),nat_mask32]
 go_enter func157,ntmps157
 go_wp2
 go_ret
 exact⟨congrArg (fun z=>Ending.returned (.int .i64 z)) (by first | rfl | exact a),rfl⟩
theorem rlow_z (z:Int)(n:Nat)(hz:z=(n:Int))(h:n<9223372036854775808)(m:Nat)(hm:m=n%4294967296)(w:World) :
  Calls prog 157 #[.int .i64 z] w fun e w'=>e= .returned (.int .i64 (m:Int))∧w'=w:=by
 subst hz hm
 exact rlow_any n h w
theorem left_bits (x n:Nat)(hx:x<4294967296)(h2:n≤30):bits .or .i64 (IntKind.i64.wrap ((x:Int)*2 ^ n)) ((x:Int)/2 ^ (32-n))=((x*2 ^ n ||| x/2 ^ (32-n):Nat):Int)∧(x*2 ^ n ||| x/2 ^ (32-n))<9223372036854775808:=by
 have a:2 ^ n≤2 ^ 30:=Nat.pow_le_pow_right (by decide) h2
 have e:=Nat.mul_le_mul_left x a
 have d:x*2 ^ n<4611686018427387904:=by omega
 have f:x/2 ^ (32-n)≤x:=Nat.div_le_self _ _
 have b:(x:Int)*2 ^ n=((x*2 ^ n:Nat):Int):=by rw [Int.natCast_mul,Int.natCast_pow];rfl
 have c:(x:Int)/2 ^ (32-n)=((x/2 ^ (32-n):Nat):Int):=by rw [Int.natCast_ediv,Int.natCast_pow];rfl
 rw [b,c,Z0P _ (Int.natCast_nonneg _) (by omega),Z4t _ _ (by omega) (by omega)]
 exact⟨rfl,Nat.or_lt_two_pow (n:=63) (by omega) (by omega)⟩
theorem Z5K (x n:Nat)(hx:x<4294967296)(h1:1≤n)(h2:n≤30)(w:World) :
  Calls prog 177 #[.int .i64 x,.int .i64 n] w fun e w'=>e= .returned (.int .i64 (rotl x n:Nat))∧w'=w.drew:=by
 obtain⟨b,a⟩:=left_bits x n hx h2
 have f:IntKind.i64.wrap (32-(n:Int))=((32-n:Nat):Int):=by rw [IntKind.wrap_i64];omega
 have j:¬ (n:Int)<0:=by omega
 have h:¬ ((32-n:Nat):Int)<0:=by omega
 have d:(0:Int)≤((32-n:Nat):Int):=by omega
 have g:(0:Int)≤(n:Int):=by omega
 have c:=fun w=>rlow_z _ _ b a (rotl x n) rfl w
 clear b a
 go_enter func177,ntmps177
 go_wp2_with fail
 go_region_held3 (fun _=>True) (simp [go_sem, *]) (first | (go_at_call 157;refine (c _).mono ?_;rintro e i ⟨rfl,rfl⟩))
 go_wp2
 go_ret
 exact⟨rfl,rfl⟩
theorem rword_any (s:ByteArray)(p:Nat)(hp:p+4≤s.size)(hs:s.size≤1048576)(w:World) :
  Calls prog 155 #[.string s,.int .i64 p] w fun e w'=>e= .returned (.int .i64 (Z0w (Z00 s) p:Nat))∧∃ n,w'=w.drewN n:=by
 have c:p<s.size:=by omega
 have b:p+1<s.size:=by omega
 have d:p+2<s.size:=by omega
 have a:p+3<s.size:=by omega
 have u:=s[p].toNat_lt
 have y:=s[p+1].toNat_lt
 have t:=s[p+2].toNat_lt
 have m:=s[p+3].toNat_lt
 have f:Hid (((Z0w (Z00 s) p:Nat):Int)=(s[p].toNat:Int)+s[p+1].toNat*256+s[p+2].toNat*65536+s[p+3].toNat*16777216):=by
  show _=_
  unfold Z0w
  rw [Z2I s p c,Z2I s (p+1) b,Z2I s (p+2) d,Z2I s (p+3) a]
  omega
 have o:(p:Int)<s.size:=by omega
 have h:(p:Int)+1<s.size:=by omega
 have j:(p:Int)+2<s.size:=by omega
 have r:(p:Int)+3<s.size:=by omega
 have i:((p:Int)+1).toNat=p+1:=by omega
 have k:((p:Int)+2).toNat=p+2:=by omega
 have x:((p:Int)+3).toNat=p+3:=by omega
 have v:IntKind.i64.wrap ((p:Int)+1)=p+1:=by rw [IntKind.wrap_i64];omega
 have l:IntKind.i64.wrap ((p:Int)+2)=p+2:=by rw [IntKind.wrap_i64];omega
 have q:IntKind.i64.wrap ((p:Int)+3)=p+3:=by rw [IntKind.wrap_i64];omega
 have A:(0:Int)≤(p:Int)+1:=by omega
 have g:(0:Int)≤(p:Int)+2:=by omega
 have z:(0:Int)≤(p:Int)+3:=by omega
 rw [f.out]
 go_enter func155,ntmps155
 go_wp2_with fail
 go_quiet (fail)
 go_wp2
 go_ret
 exact⟨rfl,_,rfl⟩
end Bx
end Go.Proofs.YtijpgmkdnemmbaaGreatDoor
