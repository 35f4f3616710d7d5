/- The law JournalAll returns true. -/
import Derived.Test.YtbmjablmmlnieaaGreatDoorMg47
import Derived.Deep.RegionHeld3
import Derived.BigQuiet
import Derived.Deep.Cut
import Derived.Deep.CutBlock
namespace Go.Proofs.YtbmjablmmlnieaaGreatDoor
set_option maxRecDepth 20000
open Go.RowKit

set_option maxHeartbeats 16000000 in
theorem walk_journalAll (v0 : Value) (l : List Blk) (fz : Int) (kv : Value) (keep : List Bool) (v2 : Value) (cs : List CutT) (w : World) (hv : Blks w v0 l) (hB : ∀ x ∈ l, BlkF x ∧ x.At ≤ 9223372036854775807) (hll : l.length ≤ 9223372036854775807) (hk : Bools w (fun k => w.heap.size ≤ k) kv keep) (hfz : fz < 9223372036854775808) (hcs : Cuts w v2 cs) (hg : ErrT w) :
    Calls Tryz.prog 5 #[v0, .agg #[.int .i64 fz, kv], v2] w fun e w' => e = .returned (.bool true) ∧ Below w.heap.size w w' := by
  have hb0 := bel_alloc w (.cells #[.int .i64 fz, kv] 40)
  have g0 := heap_alloc_new w (.cells #[.int .i64 fz, kv] 40)
  obtain ⟨w0, hw0⟩ : ∃ w0, w.alloc (.cells #[.int .i64 fz, kv] 40) = w0 := ⟨_, rfl⟩
  rw [hw0] at hb0 g0
  have hz0 := lt_of_block g0
  have hk0 : Bools w0 (fun k => w0.heap.size ≤ k) kv keep := (hk.touch (Touch.of_below hb0)).mono fun k _ hk2 => by have := hb0.size; omega
  have hbl0 := blks_below hv hb0
  obtain ⟨oa2, ca2, rfl⟩ := hcs.form
  obtain ⟨N, hN⟩ : ∃ N, N = wrsL l := ⟨_, rfl⟩
  have hwr : ∀ W, Below w0.heap.size w0 W → Calls Tryz.prog 15 #[v0] W fun e w' => ∃ v', e = .returned v' ∧ WZ w' W.heap.size v' N ∧ Below W.heap.size W w' := fun W hW => by rw [hN]; exact writes_l_any v0 l W (blks_below hbl0 hW) hB hll
  have HWR : Hid (∀ W, Below w0.heap.size w0 W → Calls Tryz.prog 15 #[v0] W fun e w' => ∃ v', e = .returned v' ∧ WZ w' W.heap.size v' N ∧ Below W.heap.size W w') := hwr
  have hNz : ∀ x, x ∈ N → x.raw.size = 512 := fun x hx => wrs_size x (by rw [← hN]; exact hx)
  have hNl : N.length ≤ 30 := by rw [hN]; exact wrsL_length l
  have HW : Hid (w.alloc (.cells #[.int .i64 fz, kv] 40) = w0 ∧ Bools w0 (fun k => w0.heap.size ≤ k) kv keep ∧ Cuts w (.slice oa2 cs.length ca2) cs ∧ ErrT w0 ∧ Below w.heap.size w w0 ∧ w.heap.size < w0.heap.size ∧ w0.heap[w.heap.size]? = some (.cells #[.int .i64 fz, kv] 40 (0, 0)) ∧ (∀ x, x ∈ N → x.raw.size = 512)) := ⟨hw0, hk0, hcs, hg.bel hb0, hb0, hz0, g0, hNz⟩
  have hn : ∀ W, Calls Tryz.prog 7 #[.int .i64 784] W fun e w' => ∃ B, e = .returned (.tuple #[.pointer (some ⟨B, 0, none⟩), .int .i64 0]) ∧ Plate w' (fun k => W.heap.size ≤ k ∧ k < w'.heap.size) B (newP 784) ∧ Below W.heap.size W w' := fun W => new_any 784 (by decide) W
  clear hb0 g0 hw0 hz0 hk0 hbl0 hv hB hll hk hcs hg hN hNz hwr
  go_enter Tryz.func5, Tryz.ntmps5
  go_wp2_with fail
  rw [HW.out.1]
  refine (jsectors_any _).mono ?_
  rintro e w1 ⟨rfl, hb1⟩
  have HB1 : Hid (Below w0.heap.size w0 w1) := hb1
  clear hb1
  go_wp2_with fail
  refine (hn _).mono ?_
  rintro e w2 ⟨B, rfl, hp2, hb2⟩
  have HB2 : Hid (Plate w2 (fun k => w1.heap.size ≤ k ∧ k < w2.heap.size) B (newP 784) ∧ Below w1.heap.size w1 w2) := ⟨hp2, hb2⟩
  clear hn hp2 hb2
  go_wp2_with fail
  refine (ideal_any _).mono ?_
  rintro e w3 ⟨V, rfl, hv3, hb3⟩
  have hbw3 : Below w0.heap.size w0 w3 := (HB1.out.trans (HB2.out.2.mono HB1.out.size)).trans (hb3.mono (Nat.le_trans HB1.out.size HB2.out.2.size))
  have hD : ∃ F : Nat → Prop, LawD (fun _ _ => False) V B w0 w3 F (newP 784) newV := by
    refine ⟨fun k => w1.heap.size ≤ k ∧ k < w3.heap.size, ⟨⟨_, _, HB2.out.1.below hb3, hv3, ?_, ?_, ?_, ?_⟩, ?_, ?_, ?_, hbw3, fun _ _ h => h.elim⟩⟩
    · intro k h1 h2
      exact absurd h1.2 (by have := h2.1; omega)
    · exact fun k hk => ⟨hk.1, Nat.lt_of_lt_of_le hk.2 hb3.size⟩
    · exact fun k hk => ⟨Nat.le_trans HB2.out.2.size hk.1, hk.2⟩
    · exact fun k hk => hk.2
    · exact fun k hk => Nat.le_trans HB1.out.size hk.1
    · exact HW.out.2.2.2.1.bel hbw3
    · intro hk
      have q := lt_of_cell_ HW.out.2.2.2.1
      have q2 := Nat.le_trans HB1.out.size hk.1
      omega
  obtain ⟨F, hD⟩ := hD
  have HD : Hid (LawD (fun _ _ => False) V B w0 w3 F (newP 784) newV) := hD
  clear HB1 HB2 hv3 hb3 hD hbw3
  go_wp2_with fail
  refine (HWR.out _ HD.out.bel).mono ?_
  rintro e w4 ⟨v', rfl, hwz, hb4⟩
  obtain ⟨ov, cv, rfl⟩ := hwz.form
  have HB4 : Hid (Below w3.heap.size w3 w4) := hb4
  clear hb4
  go_wp2_with fail
  go_loopw [11] (fun iv wr => ∃ j : Nat, j ≤ N.length ∧ iv = .int .i64 (j : Int) ∧ WZ wr w3.heap.size (.slice ov N.length cv) (mixL N j) ∧ Hid (Below w3.heap.size w3 wr)) (fun iv _ => N.length - (intOf iv).toNat)
  case atStart => exact ⟨0, Nat.zero_le _, rfl, by rw [mixL_zero]; exact hwz, HB4.out⟩
  case round =>
    clear hwz
    obtain ⟨j, hj, rfl, hown, HBr⟩ := hrel
    by_cases hlt : j < N.length
    · have j1 : (j : Int) < (N.length : Nat) := by omega
      have j2 : (j : Int) + 1 ≤ 30 := by omega
      obtain ⟨g, hov, hbg, hgl, hx⟩ := hown.get (j := j) (by rw [mixL_length]; exact hlt)
      subst hov
      have hxj := List.getElem?_eq_getElem hlt
      obtain ⟨c0, c1, f1⟩ := hx _ (mixL_at hxj)
      have hR := HW.out.2.2.2.2.2.2.2 _ (List.getElem_mem hlt)
      have HM : Hid ((mixL N j).set j (oldW N[j]) = mixL N (j + 1) ∧ (mixL N j)[j]? = some N[j] ∧ WZ wr w3.heap.size (.slice (some ⟨g, 0, none⟩) N.length cv) (mixL N j) ∧ oldW N[j] = ⟨N[j].at_, N[j].raw.extract 0 48 ++ fillS 9 464⟩ ∧ w3.heap.size ≤ g ∧ g < wr.heap.size) := ⟨mixL_next hxj, mixL_at hxj, hown, rfl, hbg, hgl⟩
      have hT : ∀ W, Calls Tryz.prog 16 #[.int .u8 9, .int .i64 464] W fun e w' => e = .returned (.string (fillS 9 464)) ∧ Below W.heap.size W w' := fun W => jtext_any 9 464 (by decide) W
      have hf4 := fillS_size 9 464
      generalize N[j] = x at *
      generalize x.raw = R at *
      generalize fillS 9 464 = Z at *
      have hadd := fun w2 => run_string_add_sum (P := Tryz.prog) (w := w2) (R.extract 0 48) Z (by rw [ByteArray.size_extract, hR, hf4]; decide)
      clear hown hx hbg hxj c0
      go_wp2_with fail
      go_region_with (go_at_call 16; refine (hT _).mono ?_; rintro e w6 ⟨rfl, hb6⟩; have hk6 : Below wr.heap.size wr w6 := (by first | exact (Below.refl wr.heap.size wr).drew.trans hb6 | exact hb6); have hS6 : w6.cell? ⟨g, j * 2 + 1, none⟩ = some (.string R) := (hk6.cell (p := ⟨g, j * 2 + 1, none⟩) hgl).trans c1; have hown6 := HM.out.2.2.1.below hk6; have f6 : w6.frozen? ⟨g, j * 2 + 1, none⟩ = false := hown6.frozen (j * 2 + 1); have HB6 : Hid (Below w3.heap.size w3 w6) := HBr.out.trans (hk6.mono HBr.out.size); clear hb6 hk6)
      all_goals
        have HF : Hid (WZ (w6.setCell ⟨g, j * 2 + 1, none⟩ (.string (R.extract 0 48 ++ Z))) w3.heap.size (.slice (some ⟨g, 0, none⟩) N.length cv) (mixL N (j + 1)) ∧ Below w3.heap.size w3 (w6.setCell ⟨g, j * 2 + 1, none⟩ (.string (R.extract 0 48 ++ Z)))) := by
          refine ⟨?_, HB6.out.setCell (p := ⟨g, j * 2 + 1, none⟩) HM.out.2.2.2.2.1 _⟩
          rw [← HM.out.1, HM.out.2.2.2.1]
          exact hown6.set HM.out.2.1 _
        clear hown6 hS6 f6 HB6 HM
        go_wp2
        go_roundw
        case rel => exact ⟨j + 1, by omega, by go_num, HF.out.1, HF.out.2⟩
        case measure => simp [intOf]; omega
    · have hj2 : j = N.length := by omega
      subst hj2
      have j1 : ¬ ((N.length : Nat) : Int) < (N.length : Nat) := by omega
      rw [mixL_all] at hown
      obtain ⟨O, hO⟩ : ∃ O, O = N.map oldW := ⟨_, rfl⟩
      have hlo : O.length = N.length := by rw [hO, List.length_map]
      rw [← hO] at hown
      obtain ⟨K, hK⟩ : ∃ K, K = KeepL (.slice ov N.length cv) wr := ⟨_, rfl⟩
      have hw5 := hown.wts
      have hL5 : LawD K V B w0 wr F (newP 784) newV := by rw [hK]; exact HD.out.hold HBr.out (.slice ov N.length cv) fun g o len cap e => (hw5.2 g o len cap e).1
      have HX : Hid (K = KeepL (.slice ov N.length cv) wr ∧ Wts wr (.slice ov N.length cv) O ∧ O = N.map oldW ∧ O.length = N.length ∧ LawD K V B w0 wr F (newP 784) newV) := ⟨hK, hw5.1, hO, hlo, hL5⟩
      have hs := fun ep W => jlsup_any 48 ep W
      clear hown hK hw5 hL5 hO hlo HBr HD HB4
      go_wp2_with fail
      refine (hs _ _).mono ?_
      rintro e w6 ⟨rfl, hb6⟩
      have h7 := law_fmt K V B w0 w6 F (HX.out.2.2.2.2.below hb6)
      clear hb6
      go_wp2_with fail
      refine h7.mono ?_
      rintro e w7 ⟨rfl, hL7⟩
      generalize grow F w6 w7 = F7 at *
      have HL7 : Hid (LawD K V B w0 w7 F7 (aP1 V) (aS1 V)) := hL7
      clear h7 hL7
      go_wp2_with fail
      refine (hs _ _).mono ?_
      rintro e w8 ⟨rfl, hb8⟩
      have HL8 : Hid (LawD K V B w0 w8 F7 (aP1 V) (aS1 V)) := HL7.out.below hb8
      clear hb8 HL7
      have hwto : WtO F7 w8 (.slice ov N.length cv) O := by
        have q := HL8.out
        rw [HX.out.1] at q
        exact q.wto HX.out.2.1
      by_cases hok : OkL O
      case neg =>
        have h9 := com_bad F7 B V (aP1 V) (aS1 V) 1 O hok ov cv w8 HL8.out.duo (aP1_fine V).2.1.len (by rw [HX.out.2.2.2.1]; exact hwto.1)
        rw [HX.out.2.2.2.1] at h9
        clear hs hwto
        go_wp2_with fail
        refine h9.mono ?_
        rintro e w9 ⟨y, hy, rfl, hb9⟩
        have hy0 : (y != 0) = true := by rcases hy with rfl | rfl <;> rfl
        have HB9 : Hid (Below w.heap.size w w9 ∧ ErrT w9) := by
          have q := HL8.out.below hb9
          exact ⟨HW.out.2.2.2.2.1.trans (q.bel.mono HW.out.2.2.2.2.1.size), q.err⟩
        clear hy hb9 h9 HL8
        go_wp2_with fail
        refine (jawake_any _ HB9.out.2).mono ?_
        rintro e wz ⟨rfl, hbz⟩
        have HF : Hid (Below w.heap.size w wz) := HB9.out.1.trans (hbz.mono HB9.out.1.size)
        clear hbz HB9
        go_wp2
        go_ret
        exact ⟨rfl, HF.out⟩
      have h9 := one_com K V B w0 w8 F7 O hok ov cv HL8.out (by rw [HX.out.2.2.2.1]; exact hwto)
      rw [HX.out.2.2.2.1] at h9
      clear hwto
      go_wp2_with fail
      refine h9.mono ?_
      rintro e w9 ⟨rfl, hO9⟩
      have HO9 : Hid (One K V B w0 w9 O) := hO9
      clear h9 hO9 HL8
      have c0 : w9.cell? ⟨w.heap.size, 0, none⟩ = some (.int .i64 fz) := (HO9.out.bel.cell (p := ⟨w.heap.size, 0, none⟩) HW.out.2.2.2.2.2.1).trans (cell_of_row _ _ 0 _ _ _ HW.out.2.2.2.2.2.2.1)
      go_upto_if 64 with fail
      go_cut [7] from 22 (fun s7 wc => s7 = .pointer (some ⟨B, 0, none⟩) ∧ Hid (One K V B w0 wc O))
      case first =>
        by_cases hf0 : 0 ≤ fz
        · have ha := one_arm K V B w0 w9 O fz hfz HO9.out
          clear hs
          go_wp2_with fail
          refine ha.mono ?_
          rintro e wA ⟨y, rfl, hA⟩
          have HA : Hid (One K V B w0 wA O) := hA
          clear ha hA
          go_wp2_with fail
          go_meet
          case rel => exact ⟨rfl, HA⟩
        · clear hs
          go_wp2_with fail
          go_meet
          case rel => exact ⟨rfl, HO9⟩
      case rest =>
        obtain ⟨rfl, H1⟩ := hcut
        clear HO9 c0
        generalize wc = wa at *
        have hwq := HWR.out _ H1.out.bel
        go_wp2_with fail
        refine hwq.mono ?_
        rintro e wb ⟨v'', rfl, hwz, hbb⟩
        obtain ⟨ov2, cv2, rfl⟩ := hwz.form
        have HB : Hid (Wts wb (.slice ov2 N.length cv2) N ∧ (∀ g o len cap, (.slice ov2 N.length cv2 : Value) = .slice (some ⟨g, o, none⟩) len cap → wa.heap.size ≤ g) ∧ Below wa.heap.size wa wb) := ⟨hwz.wts.1, fun g o len cap e => (hwz.wts.2 g o len cap e).1, hbb⟩
        clear hwz hbb hwq
        go_wp2_with fail
        refine (hs _ _).mono ?_
        rintro e wd ⟨rfl, hbd⟩
        have HokN : Hid (OkL N) := by
          have q := oldW_tog N 27 48 HW.out.2.2.2.2.2.2.2
          rw [← HX.out.2.2.1, hok.tog] at q
          have q2 := hok.len
          rw [HX.out.2.2.2.1] at q2
          exact ⟨q.symm, q2⟩
        have hc2 := two_com K V B w0 wa wd O N hok HokN.out ov2 cv2 H1.out (HB.out.2.2.trans (hbd.mono HB.out.2.2.size)) (HB.out.1.below hbd) HB.out.2.1
        clear hbd HB H1
        go_wp2_with fail
        refine hc2.mono ?_
        rintro e we ⟨y, rfl, hM⟩
        obtain ⟨X, hXe⟩ : ∃ X, X = cX V O N := ⟨_, rfl⟩
        rw [← hXe] at hM
        have HXc : Hid (CxOk X ∧ X.old = O ∧ X.new = N) := by rw [hXe]; exact ⟨c_ok V hok HokN.out, rfl, rfl⟩
        have HM : Hid (MidG X K V B w0 we (y = 0) 800 Q2) := hM
        have c1 : we.cell? ⟨w.heap.size, 1, none⟩ = some kv := (HM.out.bel.cell (p := ⟨w.heap.size, 1, none⟩) HW.out.2.2.2.2.2.1).trans (cell_of_row _ _ 1 _ _ _ HW.out.2.2.2.2.2.2.1)
        have hst := mid_start X K V B w0 we (y = 0) 800 kv keep HW.out.2.1 HM.out
        clear hc2 hM hXe
        go_wp2_with fail
        refine hst.mono ?_
        rintro e wf ⟨rfl, hM⟩
        have HM2 : Hid (MidG X K V B w0 wf (y = 0) 800 Q0) := hM
        clear hst hM c1 HM
        go_upto_block 2 with fail
        go_cut [13] from 22 (fun s13 wc => Hid (MidG X K V B w0 wc (y = 0) 100 Q0))
        case first =>
          go_wp2_with fail
          go_loopw [13] (fun iv wr => ∃ i : Nat, i ≤ 6 ∧ i ≤ cs.length ∧ iv = .int .i64 (i : Int) ∧ Hid (MidG X K V B w0 wr (y = 0) (100 + 2 * (7 - i)) Q0)) (fun iv _ => 7 - (intOf iv).toNat)
          case atStart => exact ⟨0, Nat.zero_le _, Nat.zero_le _, rfl, HM2.out.less (by omega)⟩
          case round =>
            clear HM2 hs
            obtain ⟨i, hi6, hil, rfl, HMr⟩ := hrel
            by_cases h1 : i < cs.length
            case neg =>
              have i1 : ¬ (i : Int) < (cs.length : Nat) := by omega
              go_wp2_with fail
              go_meet
              case rel => exact HMr.out.less (by omega)
            have i1 : (i : Int) < (cs.length : Nat) := by omega
            by_cases h2 : i < 6
            case neg =>
              have i2 : ¬ (i : Int) < 6 := by omega
              go_wp2_with fail
              go_meet
              case rel => exact HMr.out.less (by omega)
            have i2 : (i : Int) < 6 := by omega
            obtain ⟨g, o, hoa, hgl, hx⟩ := HW.out.2.2.1.get h1
            have hxi := hx i _ (List.getElem?_eq_getElem h1)
            have hcell : ∀ W, Below w0.heap.size w0 W → W.cell? ⟨g, o + i * 2, none⟩ = some (.int .i64 cs[i].fuse) ∧ W.cell? ⟨g, o + i * 2 + 1, none⟩ = some cs[i].kv := fun W hW => hxi.cells ((HW.out.2.2.2.2.1.trans (hW.mono HW.out.2.2.2.2.1.size)).block g hgl)
            have hkb : Bools w0 (fun k => w0.heap.size ≤ k) cs[i].kv cs[i].keep := (hxi.bools.touch (Touch.of_below HW.out.2.2.2.2.1)).mono fun k _ hk2 => by have := HW.out.2.2.2.2.2.1; omega
            have hwf := hxi.wf
            subst hoa
            generalize cs[i].fuse = fu at *
            generalize cs[i].kv = kv2 at *
            generalize cs[i].keep = keep2 at *
            have HC : Hid (∀ W, Below w0.heap.size w0 W → W.cell? ⟨g, o + i * 2, none⟩ = some (.int .i64 fu) ∧ W.cell? ⟨g, o + i * 2 + 1, none⟩ = some kv2) := hcell
            have HKB : Hid (Bools w0 (fun k => w0.heap.size ≤ k) kv2 keep2) := hkb
            have hk7 : 100 + 2 * (7 - i) = 100 + 2 * (7 - (i + 1)) + 2 := by omega
            rw [hk7] at HMr
            clear hx hxi hcell hkb hk7
            obtain ⟨d0, d1⟩ := HC.out wr HMr.out.bel
            by_cases hf0 : 0 ≤ fu
            · have ha := mid_arm X K V B w0 wr (y = 0) _ fu hwf HMr.out
              go_wp2_with fail
              refine ha.mono ?_
              rintro e wA ⟨y2, rfl, hA⟩
              have HA : Hid (MidG X K V B w0 wA (y = 0) (100 + 2 * (7 - (i + 1)) + 2) Q1) := hA
              have hr := mid_rec HXc.out.1 K V B w0 wA (y = 0) _ HA.out
              clear ha hA d0 d1 HMr
              go_wp2_with fail
              refine hr.mono ?_
              rintro e wB ⟨s, n, E, rfl, hB⟩
              have HB : Hid (MidG X K V B w0 wB (y = 0) (100 + 2 * (7 - (i + 1))) Q2) := hB
              obtain ⟨d0, d1⟩ := HC.out wB HB.out.bel
              have hst := mid_start X K V B w0 wB (y = 0) _ kv2 keep2 HKB.out HB.out
              clear hr hB HA
              go_wp2_with fail
              refine hst.mono ?_
              rintro e wC ⟨rfl, hC⟩
              have HF : Hid (MidG X K V B w0 wC (y = 0) (100 + 2 * (7 - (i + 1))) Q0) := hC
              clear hst hC HB d0 d1
              go_wp2
              go_roundw
              case rel => exact ⟨i + 1, by omega, by omega, by go_num, HF.out⟩
              case measure => simp [intOf]; omega
            · have hr := mid_rec HXc.out.1 K V B w0 wr (y = 0) _ (HMr.out.weak q0_q1)
              go_wp2_with fail
              refine hr.mono ?_
              rintro e wB ⟨s, n, E, rfl, hB⟩
              have HB : Hid (MidG X K V B w0 wB (y = 0) (100 + 2 * (7 - (i + 1))) Q2) := hB
              clear d0 d1
              obtain ⟨d0, d1⟩ := HC.out wB HB.out.bel
              have hst := mid_start X K V B w0 wB (y = 0) _ kv2 keep2 HKB.out HB.out
              clear hr hB HMr
              go_wp2_with fail
              refine hst.mono ?_
              rintro e wC ⟨rfl, hC⟩
              have HF : Hid (MidG X K V B w0 wC (y = 0) (100 + 2 * (7 - (i + 1))) Q0) := hC
              clear hst hC HB d0 d1
              go_wp2
              go_roundw
              case rel => exact ⟨i + 1, by omega, by omega, by go_num, HF.out⟩
              case measure => simp [intOf]; omega
        case rest =>
          clear HM2
          have HM3 : Hid (MidG X K V B w0 wc (y = 0) 100 Q0) := hcut
          clear hcut
          have hl := mid_last HXc.out.1 K V B w0 wc (y = 0) 98 HM3.out
          simp only [lawSp, Sp.arr] at hl hs
          generalize fillS 3 32 = rt at *
          clear HM3
          generalize wc = wg at *
          go_wp2_with fail
          refine hl.mono ?_
          rintro e wh ⟨n, ep, rfl, hbh, hway⟩
          have HWY : Hid (Below w0.heap.size w0 wh ∧ ((ep = 1 ∧ ¬ y = 0 ∧ Fin_ K V B w0 wh X.old) ∨ (ep = 2 ∧ Fin_ K V B w0 wh X.new))) := ⟨hbh, hway⟩
          clear hl hbh hway
          rcases HWY.out.2 with ⟨rfl, hy, hfin⟩ | ⟨rfl, hfin⟩
          · -- the superblock 1
            have hy0 : (y == 0) = false := by simp [hy]
            have HFin : Hid (Below w0.heap.size w0 wh ∧ Fin_ K V B w0 wh O) := ⟨HWY.out.1, by rw [← HXc.out.2.1]; exact hfin⟩
            clear hy hfin HWY
            obtain ⟨X0, hX0⟩ : ∃ X0, wh.alloc (.cells #[.int .i64 7, .int .i64 1, .int .i64 5, .int .i64 48, .string rt] 33) = X0 := ⟨_, rfl⟩
            have gX := heap_alloc_new wh (.cells #[.int .i64 7, .int .i64 1, .int .i64 5, .int .i64 48, .string rt] 33)
            have hbX := bel_alloc wh (.cells #[.int .i64 7, .int .i64 1, .int .i64 5, .int .i64 48, .string rt] 33)
            rw [hX0] at gX hbX
            have hXl := lt_of_block gX
            have hS0 : X0.cell? ⟨wh.heap.size, 0, none⟩ = some (.int .i64 7) ∧ X0.cell? ⟨wh.heap.size, 1, none⟩ = some (.int .i64 1) ∧ X0.cell? ⟨wh.heap.size, 2, none⟩ = some (.int .i64 5) ∧ X0.cell? ⟨wh.heap.size, 3, none⟩ = some (.int .i64 48) ∧ X0.cell? ⟨wh.heap.size, 4, none⟩ = some (.string rt) := ⟨cell_of_row _ _ 0 _ _ _ gX, cell_of_row _ _ 1 _ _ _ gX, cell_of_row _ _ 2 _ _ _ gX, cell_of_row _ _ 3 _ _ _ gX, cell_of_row _ _ 4 _ _ _ gX⟩
            have HS : Hid (∀ W, Below X0.heap.size X0 W → W.cell? ⟨wh.heap.size, 0, none⟩ = some (.int .i64 7) ∧ W.cell? ⟨wh.heap.size, 1, none⟩ = some (.int .i64 1) ∧ W.cell? ⟨wh.heap.size, 2, none⟩ = some (.int .i64 5) ∧ W.cell? ⟨wh.heap.size, 3, none⟩ = some (.int .i64 48) ∧ W.cell? ⟨wh.heap.size, 4, none⟩ = some (.string rt)) := fun W hW => ⟨(hW.cell (p := ⟨wh.heap.size, 0, none⟩) hXl).trans hS0.1, (hW.cell (p := ⟨wh.heap.size, 1, none⟩) hXl).trans hS0.2.1, (hW.cell (p := ⟨wh.heap.size, 2, none⟩) hXl).trans hS0.2.2.1, (hW.cell (p := ⟨wh.heap.size, 3, none⟩) hXl).trans hS0.2.2.2.1, (hW.cell (p := ⟨wh.heap.size, 4, none⟩) hXl).trans hS0.2.2.2.2⟩
            have HBX : Hid (Below wh.heap.size wh X0) := hbX
            go_wp2_with fail
            clear gX hbX hX0 hXl
            go_cut [141] from 22 (fun s141 wc => s141 = .bool false ∧ Hid (Below X0.heap.size X0 wc))
            case first =>
              go_region_held3 (fun w' => w'.cell? ⟨wh.heap.size, 0, none⟩ = some (.int .i64 7) ∧ w'.cell? ⟨wh.heap.size, 1, none⟩ = some (.int .i64 1) ∧ w'.cell? ⟨wh.heap.size, 2, none⟩ = some (.int .i64 5) ∧ w'.cell? ⟨wh.heap.size, 3, none⟩ = some (.int .i64 48) ∧ w'.cell? ⟨wh.heap.size, 4, none⟩ = some (.string rt)) (first | exact hSi | exact hS0 | exact HS.out _ (Below.refl _ _).drew | simp [go_sem, *]) (first
                | (go_at_call 18; refine (hs _ _).mono ?_; rintro e wi ⟨rfl, hbi⟩; have hki : Below X0.heap.size X0 wi := (by first | exact (Below.refl X0.heap.size X0).drew.trans hbi | exact hbi); have hSi := HS.out wi hki; have HKi : Hid (Below X0.heap.size X0 wi) := hki; clear hbi hki))
              all_goals
                go_wp2_with fail
                go_meet
                exact ⟨rfl, HKi⟩
            case rest =>
              obtain ⟨rfl, HBc⟩ := hcut
              obtain ⟨e0, e1, e2, e3, e4⟩ := HS.out wc HBc.out
              have hb2 : Below wh.heap.size wh wc := HBX.out.trans (HBc.out.mono HBX.out.size)
              have hall := fin_all K V B w0 wh wc O hok HFin.out.2 hb2
              clear HBc HS HBX hb2 hS0 hy0 hs e0 e2 e3 e4
              go_wp2_with fail
              refine hall.mono ?_
              rintro e wj ⟨raws, masks, oa, ob, ca, cb, rfl, hl1, hl2, hat, hbj, hgj, hKj, _⟩
              have hWts : Wts wj (.slice ov O.length cv) O := by
                rw [HX.out.2.2.2.1]
                exact wts_keepL HX.out.2.1 (by rw [← HX.out.1]; exact hKj)
              clear hall hKj e1
              have hlen : O.length = N.length := HX.out.2.2.2.1
              have HAT : Hid (∀ W x, x ∈ O → List1 Value.string W (.slice oa raws.length ca) raws → List1 (Value.int .i64) W (.slice ob masks.length cb) masks → Calls Tryz.prog 24 #[.agg #[.slice oa raws.length ca, .slice ob masks.length cb], .int .i64 x.at_] W fun e w' => e = .returned (.tuple #[.string x.raw, .int .i64 0]) ∧ Below W.heap.size W w') := fun W x hx q1 q2 => by
                have q := at_any W oa ob ca cb raws masks x.at_ q1 q2
                rw [(hat x hx).1, (hat x hx).2] at q
                exact q
              have gI := heap_alloc_new wj (.cells #[.slice oa raws.length ca, .slice ob masks.length cb] 60)
              have hbI := bel_alloc wj (.cells #[.slice oa raws.length ca, .slice ob masks.length cb] 60)
              obtain ⟨X1, hX1⟩ : ∃ X1, wj.alloc (.cells #[.slice oa raws.length ca, .slice ob masks.length cb] 60) = X1 := ⟨_, rfl⟩
              rw [hX1] at gI hbI
              have HT : Hid (List1 Value.string X1 (.slice oa raws.length ca) raws ∧ List1 (Value.int .i64) X1 (.slice ob masks.length cb) masks ∧ Wts X1 (.slice ov O.length cv) O ∧ Below w0.heap.size w0 X1 ∧ ErrT X1 ∧ X1.heap[wj.heap.size]? = some (.cells #[.slice oa raws.length ca, .slice ob masks.length cb] 60 (0, 0))) := ⟨hl1.below hbI, hl2.below hbI, hWts.below hbI, hbj.trans (hbI.mono hbj.size), hgj.bel hbI, gI⟩
              clear hl1 hl2 hWts hbj hgj gI hbI hat
              go_wp2_with fail
              clear hX1
              go_loopw [19, 20, 21] (fun iv rv mv wr => ∃ i : Nat, i ≤ N.length ∧ iv = .int .i64 (i : Int) ∧ rv = rv ∧ mv = mv ∧ Hid (Below X1.heap.size X1 wr)) (fun iv _ _ _ => N.length - (intOf iv).toNat)
              case atStart => exact ⟨0, Nat.zero_le _, rfl, rfl, rfl, Below.refl _ _⟩
              case round =>
                obtain ⟨i, hi, rfl, _, _, HBi⟩ := hrel
                by_cases hlt : i < N.length
                · have i1 : (i : Int) < (N.length : Nat) := by omega
                  have hil : i < O.length := by omega
                  obtain ⟨gl, ol, hov, hgl, hx⟩ := HT.out.2.2.1.get hil
                  subst hov
                  obtain ⟨c0, c1⟩ := (hx i _ (List.getElem?_eq_getElem hil)).keep (HBi.out.block gl hgl)
                  have hXl := lt_of_block HT.out.2.2.2.2.2
                  have gW := (HBi.out.block wj.heap.size hXl).trans HT.out.2.2.2.2.2
                  have d0 : wr.cell? ⟨wj.heap.size, 0, none⟩ = some (.slice oa raws.length ca) := cell_of_row _ _ 0 _ _ _ gW
                  have d1 : wr.cell? ⟨wj.heap.size, 1, none⟩ = some (.slice ob masks.length cb) := cell_of_row _ _ 1 _ _ _ gW
                  have hatw := fun W (hW : Below X1.heap.size X1 W) => HAT.out W O[i] (List.getElem_mem hil) (HT.out.1.below hW) (HT.out.2.1.below hW)
                  have HQ : Hid (∀ W, Below X1.heap.size X1 W → W.cell? ⟨gl, ol + i * 2 + 1, none⟩ = some (.string O[i].raw)) := fun W hW => ((hx i _ (List.getElem?_eq_getElem hil)).keep (hW.block gl hgl)).c1
                  clear hx gW hgl hXl
                  generalize O[i].at_ = at_ at *
                  generalize O[i].raw = R at *
                  generalize raws.length = rl at *
                  generalize masks.length = ml at *
                  have hSd : wr.drew.cell? ⟨wj.heap.size, 0, none⟩ = some (.slice oa rl ca) ∧ wr.drew.cell? ⟨wj.heap.size, 1, none⟩ = some (.slice ob ml cb) ∧ wr.drew.cell? ⟨gl, ol + i * 2, none⟩ = some (.int .i64 at_) := ⟨d0, d1, c0⟩
                  clear c1
                  go_wp2_with fail
                  go_region_held3 (fun w' => w'.cell? ⟨wj.heap.size, 0, none⟩ = some (.slice oa rl ca) ∧ w'.cell? ⟨wj.heap.size, 1, none⟩ = some (.slice ob ml cb) ∧ w'.cell? ⟨gl, ol + i * 2, none⟩ = some (.int .i64 at_)) (first | exact hSk | exact hSd | exact ⟨d0, d1, c0⟩ | simp [go_sem, *]) (first
                    | (go_at_call 24; refine (hatw _ (HBi.out.trans ((Below.refl wr.heap.size wr).drew.mono HBi.out.size))).mono ?_; rintro e wk ⟨rfl, hbk⟩; have hk6 : Below wr.heap.size wr wk := (Below.refl wr.heap.size wr).drew.trans hbk; have hSk : wk.cell? ⟨wj.heap.size, 0, none⟩ = some (.slice oa rl ca) ∧ wk.cell? ⟨wj.heap.size, 1, none⟩ = some (.slice ob ml cb) ∧ wk.cell? ⟨gl, ol + i * 2, none⟩ = some (.int .i64 at_) := ⟨(hk6.cell (p := ⟨wj.heap.size, 0, none⟩) (lt_of_cell_ d0)).trans d0, (hk6.cell (p := ⟨wj.heap.size, 1, none⟩) (lt_of_cell_ d1)).trans d1, (hk6.cell (p := ⟨gl, ol + i * 2, none⟩) (lt_of_cell_ c0)).trans c0⟩; have HBk : Hid (Below X1.heap.size X1 wk) := HBi.out.trans (hk6.mono HBi.out.size); clear hbk hk6))
                  all_goals
                    have c1 := HQ.out wk HBk.out
                    clear hatw hSk hSd d0 d1 c0 HQ
                    go_wp2
                    go_roundw
                    case rel => exact ⟨i + 1, by omega, by go_num, trivial, trivial, HBk⟩
                    case measure => simp [intOf]; omega
                · have hi2 : i = N.length := by omega
                  subst hi2
                  have i1 : ¬ ((N.length : Nat) : Int) < (N.length : Nat) := by omega
                  have HE : Hid (Below w.heap.size w wr ∧ ErrT wr) := by
                    have q := HT.out.2.2.2.1.trans (HBi.out.mono HT.out.2.2.2.1.size)
                    exact ⟨HW.out.2.2.2.2.1.trans (q.mono HW.out.2.2.2.2.1.size), HT.out.2.2.2.2.1.bel HBi.out⟩
                  clear HBi HT HAT
                  go_wp2_with fail
                  refine (jawake_any _ HE.out.2).mono ?_
                  rintro e wz ⟨rfl, hbz⟩
                  have HF : Hid (Below w.heap.size w wz) := HE.out.1.trans (hbz.mono HE.out.1.size)
                  clear hbz HE
                  go_wp2
                  go_ret
                  exact ⟨rfl, HF.out⟩
          · -- the superblock 2
            have HFin : Hid (Below w0.heap.size w0 wh ∧ Fin_ K V B w0 wh N) := ⟨HWY.out.1, by rw [← HXc.out.2.2]; exact hfin⟩
            clear hfin HWY
            obtain ⟨X0, hX0⟩ : ∃ X0, wh.alloc (.cells #[.int .i64 7, .int .i64 2, .int .i64 5, .int .i64 48, .string rt] 33) = X0 := ⟨_, rfl⟩
            have gX := heap_alloc_new wh (.cells #[.int .i64 7, .int .i64 2, .int .i64 5, .int .i64 48, .string rt] 33)
            have hbX := bel_alloc wh (.cells #[.int .i64 7, .int .i64 2, .int .i64 5, .int .i64 48, .string rt] 33)
            rw [hX0] at gX hbX
            have hXl := lt_of_block gX
            have hS0 : X0.cell? ⟨wh.heap.size, 0, none⟩ = some (.int .i64 7) ∧ X0.cell? ⟨wh.heap.size, 1, none⟩ = some (.int .i64 2) ∧ X0.cell? ⟨wh.heap.size, 2, none⟩ = some (.int .i64 5) ∧ X0.cell? ⟨wh.heap.size, 3, none⟩ = some (.int .i64 48) ∧ X0.cell? ⟨wh.heap.size, 4, none⟩ = some (.string rt) := ⟨cell_of_row _ _ 0 _ _ _ gX, cell_of_row _ _ 1 _ _ _ gX, cell_of_row _ _ 2 _ _ _ gX, cell_of_row _ _ 3 _ _ _ gX, cell_of_row _ _ 4 _ _ _ gX⟩
            have HS : Hid (∀ W, Below X0.heap.size X0 W → W.cell? ⟨wh.heap.size, 0, none⟩ = some (.int .i64 7) ∧ W.cell? ⟨wh.heap.size, 1, none⟩ = some (.int .i64 2) ∧ W.cell? ⟨wh.heap.size, 2, none⟩ = some (.int .i64 5) ∧ W.cell? ⟨wh.heap.size, 3, none⟩ = some (.int .i64 48) ∧ W.cell? ⟨wh.heap.size, 4, none⟩ = some (.string rt)) := fun W hW => ⟨(hW.cell (p := ⟨wh.heap.size, 0, none⟩) hXl).trans hS0.1, (hW.cell (p := ⟨wh.heap.size, 1, none⟩) hXl).trans hS0.2.1, (hW.cell (p := ⟨wh.heap.size, 2, none⟩) hXl).trans hS0.2.2.1, (hW.cell (p := ⟨wh.heap.size, 3, none⟩) hXl).trans hS0.2.2.2.1, (hW.cell (p := ⟨wh.heap.size, 4, none⟩) hXl).trans hS0.2.2.2.2⟩
            have HBX : Hid (Below wh.heap.size wh X0) := hbX
            go_wp2_with fail
            clear gX hbX hX0 hXl
            go_cut [141] from 22 (fun s141 wc => s141 = .bool false ∧ Hid (Below X0.heap.size X0 wc))
            case first =>
              have hSd : X0.drew.cell? ⟨wh.heap.size, 0, none⟩ = some (.int .i64 7) ∧ X0.drew.cell? ⟨wh.heap.size, 1, none⟩ = some (.int .i64 2) ∧ X0.drew.cell? ⟨wh.heap.size, 2, none⟩ = some (.int .i64 5) ∧ X0.drew.cell? ⟨wh.heap.size, 3, none⟩ = some (.int .i64 48) ∧ X0.drew.cell? ⟨wh.heap.size, 4, none⟩ = some (.string rt) := HS.out _ (Below.refl X0.heap.size X0).drew
              refine wp_region_noPanic ?_
              refine wp_region_held_drew (S := fun w' => w'.cell? ⟨wh.heap.size, 0, none⟩ = some (.int .i64 7) ∧ w'.cell? ⟨wh.heap.size, 1, none⟩ = some (.int .i64 2) ∧ w'.cell? ⟨wh.heap.size, 2, none⟩ = some (.int .i64 5) ∧ w'.cell? ⟨wh.heap.size, 3, none⟩ = some (.int .i64 48) ∧ w'.cell? ⟨wh.heap.size, 4, none⟩ = some (.string rt)) (by kernel_rfl) hSd (fun _ => ?_)
              refine wpAnyH_take (i := 0) (v := .int .i64 0) (by simp only [List.getElem?_toArray, List.getElem?_cons_zero]; rfl) (by kernel_rfl) (by kernel_rfl) (by kernel_rfl) (by exact fun _ _ _ h => h) (Or.inl ⟨by rfl, fun w' _ => by go_simp⟩) hSd ?_
              try simp only [Act.put, List.setIfInBounds_toArray, List.set_cons_zero, List.set_cons_succ]
              refine wpAnyH_take (i := 1) (v := .bool false) (by simp only [List.getElem?_toArray, List.getElem?_cons_zero, List.getElem?_cons_succ]; rfl) (by kernel_rfl) (by kernel_rfl) (by kernel_rfl) (by exact fun _ _ _ h => h) (Or.inl ⟨by rfl, fun w' _ => by go_simp⟩) hSd ?_
              try simp only [Act.put, List.setIfInBounds_toArray, List.set_cons_zero, List.set_cons_succ]
              refine wpAnyH_take (i := 2) (v := .bool false) (by simp only [List.getElem?_toArray, List.getElem?_cons_zero, List.getElem?_cons_succ]; rfl) (by kernel_rfl) (by kernel_rfl) (by kernel_rfl) (by exact fun _ _ _ h => h) (Or.inl ⟨by rfl, fun w' _ => by go_simp⟩) hSd ?_
              try simp only [Act.put, List.setIfInBounds_toArray, List.set_cons_zero, List.set_cons_succ]
              refine wpAnyH_take (i := 3) (v := .agg #[.int .i64 7, .int .i64 2, .int .i64 5, .int .i64 48, .string rt]) (by simp only [List.getElem?_toArray, List.getElem?_cons_zero, List.getElem?_cons_succ]; rfl) (by kernel_rfl) (by kernel_rfl) (by kernel_rfl) (by exact fun _ _ _ h => h) (Or.inl ⟨by rfl, fun w' hS => by obtain ⟨r0, r1, r2, r3, r4⟩ := hS; simp [go_sem, *]⟩) hSd ?_
              try simp only [Act.put, List.setIfInBounds_toArray, List.set_cons_zero, List.set_cons_succ]
              refine wpAnyH_take (i := 4) (v := .pointer (some ⟨wh.heap.size, 1, none⟩)) (by simp only [List.getElem?_toArray, List.getElem?_cons_zero, List.getElem?_cons_succ]; rfl) (by kernel_rfl) (by kernel_rfl) (by kernel_rfl) (by exact fun _ _ _ h => h) (Or.inl ⟨by rfl, fun w' _ => by go_simp⟩) hSd ?_
              try simp only [Act.put, List.setIfInBounds_toArray, List.set_cons_zero, List.set_cons_succ]
              refine wpAnyH_take (i := 5) (v := .int .i64 2) (by simp only [List.getElem?_toArray, List.getElem?_cons_zero, List.getElem?_cons_succ]; rfl) (by kernel_rfl) (by kernel_rfl) (by kernel_rfl) (by exact fun _ _ _ h => h) (Or.inl ⟨by rfl, fun w' hS => by obtain ⟨r0, r1, r2, r3, r4⟩ := hS; simp [go_sem, *]⟩) hSd ?_
              try simp only [Act.put, List.setIfInBounds_toArray, List.set_cons_zero, List.set_cons_succ]
              refine wpAnyH_ready (rs := [6]) (by kernel_rfl) (by simp) (AllReadyH.cons (by simp only [List.getElem?_toArray, List.getElem?_cons_zero, List.getElem?_cons_succ]; rfl) (fun K hK => ?_) AllReadyH.nil)
              rw [if_pos (by rfl)]
              go_simp
              refine (hs _ _).mono ?_
              rintro e wi ⟨rfl, hbi⟩
              have hki : Below X0.heap.size X0 wi := (Below.refl X0.heap.size X0).drew.trans hbi
              have hSi := HS.out wi hki
              have HKi : Hid (Below X0.heap.size X0 wi) := hki
              clear hbi hki
              refine hK.out _ _ hSi (fun _ => ?_)
              try simp only [Act.put, List.setIfInBounds_toArray, List.set_cons_zero, List.set_cons_succ]
              refine wpAnyH_take (i := 7) (v := .bool false) (by simp only [List.getElem?_toArray, List.getElem?_cons_zero, List.getElem?_cons_succ]; rfl) (by kernel_rfl) (by kernel_rfl) (by kernel_rfl) (by exact fun _ _ _ h => h) (Or.inl ⟨by rfl, fun w' _ => by go_simp⟩) hSi ?_
              try simp only [Act.put, List.setIfInBounds_toArray, List.set_cons_zero, List.set_cons_succ]
              refine wpAnyH_take (i := 8) (v := .bool false) (by simp only [List.getElem?_toArray, List.getElem?_cons_zero, List.getElem?_cons_succ]; rfl) (by kernel_rfl) (by kernel_rfl) (by kernel_rfl) (by exact fun _ _ _ h => h) (Or.inl ⟨by rfl, fun w' _ => by go_simp⟩) hSi ?_
              try simp only [Act.put, List.setIfInBounds_toArray, List.set_cons_zero, List.set_cons_succ]
              refine wpAnyH_take (i := 9) (v := .bool false) (by simp only [List.getElem?_toArray, List.getElem?_cons_zero, List.getElem?_cons_succ]; rfl) (by kernel_rfl) (by kernel_rfl) (by kernel_rfl) (by exact fun _ _ _ h => h) (Or.inl ⟨by rfl, fun w' _ => by go_simp⟩) hSi ?_
              try simp only [Act.put, List.setIfInBounds_toArray, List.set_cons_zero, List.set_cons_succ]
              refine wpAnyH_take (i := 10) (v := .pointer (some ⟨wh.heap.size, 1, none⟩)) (by simp only [List.getElem?_toArray, List.getElem?_cons_zero, List.getElem?_cons_succ]; rfl) (by kernel_rfl) (by kernel_rfl) (by kernel_rfl) (by exact fun _ _ _ h => h) (Or.inl ⟨by rfl, fun w' _ => by go_simp⟩) hSi ?_
              try simp only [Act.put, List.setIfInBounds_toArray, List.set_cons_zero, List.set_cons_succ]
              refine wpAnyH_take (i := 11) (v := .int .i64 2) (by simp only [List.getElem?_toArray, List.getElem?_cons_zero, List.getElem?_cons_succ]; rfl) (by kernel_rfl) (by kernel_rfl) (by kernel_rfl) (by exact fun _ _ _ h => h) (Or.inl ⟨by rfl, fun w' hS => by obtain ⟨r0, r1, r2, r3, r4⟩ := hS; simp [go_sem, *]⟩) hSi ?_
              try simp only [Act.put, List.setIfInBounds_toArray, List.set_cons_zero, List.set_cons_succ]
              refine wpAnyH_take (i := 12) (v := .bool false) (by simp only [List.getElem?_toArray, List.getElem?_cons_zero, List.getElem?_cons_succ]; rfl) (by kernel_rfl) (by kernel_rfl) (by kernel_rfl) (by exact fun _ _ _ h => h) (Or.inl ⟨by rfl, fun w' _ => by go_simp⟩) hSi ?_
              try simp only [Act.put, List.setIfInBounds_toArray, List.set_cons_zero, List.set_cons_succ]
              refine wpAnyH_take (i := 13) (v := .bool false) (by simp only [List.getElem?_toArray, List.getElem?_cons_zero, List.getElem?_cons_succ]; rfl) (by kernel_rfl) (by kernel_rfl) (by kernel_rfl) (by exact fun _ _ _ h => h) (Or.inl ⟨by rfl, fun w' _ => by go_simp⟩) hSi ?_
              try simp only [Act.put, List.setIfInBounds_toArray, List.set_cons_zero, List.set_cons_succ]
              refine wpAnyH_take (i := 14) (v := undef) (by simp only [List.getElem?_toArray, List.getElem?_cons_zero, List.getElem?_cons_succ]; rfl) (by kernel_rfl) (by kernel_rfl) (by kernel_rfl) (by exact fun _ _ _ h => h) (Or.inr ⟨by rfl, rfl⟩) hSi ?_
              try simp only [Act.put, List.setIfInBounds_toArray, List.set_cons_zero, List.set_cons_succ]
              refine wpAnyH_take (i := 15) (v := undef) (by simp only [List.getElem?_toArray, List.getElem?_cons_zero, List.getElem?_cons_succ]; rfl) (by kernel_rfl) (by kernel_rfl) (by kernel_rfl) (by exact fun _ _ _ h => h) (Or.inr ⟨by rfl, rfl⟩) hSi ?_
              try simp only [Act.put, List.setIfInBounds_toArray, List.set_cons_zero, List.set_cons_succ]
              refine wpAnyH_take (i := 16) (v := undef) (by simp only [List.getElem?_toArray, List.getElem?_cons_zero, List.getElem?_cons_succ]; rfl) (by kernel_rfl) (by kernel_rfl) (by kernel_rfl) (by exact fun _ _ _ h => h) (Or.inr ⟨by rfl, rfl⟩) hSi ?_
              try simp only [Act.put, List.setIfInBounds_toArray, List.set_cons_zero, List.set_cons_succ]
              refine wpAnyH_take (i := 17) (v := undef) (by simp only [List.getElem?_toArray, List.getElem?_cons_zero, List.getElem?_cons_succ]; rfl) (by kernel_rfl) (by kernel_rfl) (by kernel_rfl) (by exact fun _ _ _ h => h) (Or.inr ⟨by rfl, rfl⟩) hSi ?_
              try simp only [Act.put, List.setIfInBounds_toArray, List.set_cons_zero, List.set_cons_succ]
              refine wpAnyH_take (i := 18) (v := undef) (by simp only [List.getElem?_toArray, List.getElem?_cons_zero, List.getElem?_cons_succ]; rfl) (by kernel_rfl) (by kernel_rfl) (by kernel_rfl) (by exact fun _ _ _ h => h) (Or.inr ⟨by rfl, rfl⟩) hSi ?_
              try simp only [Act.put, List.setIfInBounds_toArray, List.set_cons_zero, List.set_cons_succ]
              refine wpAnyH_take (i := 19) (v := undef) (by simp only [List.getElem?_toArray, List.getElem?_cons_zero, List.getElem?_cons_succ]; rfl) (by kernel_rfl) (by kernel_rfl) (by kernel_rfl) (by exact fun _ _ _ h => h) (Or.inr ⟨by rfl, rfl⟩) hSi ?_
              try simp only [Act.put, List.setIfInBounds_toArray, List.set_cons_zero, List.set_cons_succ]
              refine wpAnyH_take (i := 20) (v := .bool false) (by simp only [List.getElem?_toArray, List.getElem?_cons_zero, List.getElem?_cons_succ]; rfl) (by kernel_rfl) (by kernel_rfl) (by kernel_rfl) (by exact fun _ _ _ h => h) (Or.inl ⟨by rfl, fun w' _ => by go_simp⟩) hSi ?_
              try simp only [Act.put, List.setIfInBounds_toArray, List.set_cons_zero, List.set_cons_succ]
              refine wpAnyH_take (i := 21) (v := .bool false) (by simp only [List.getElem?_toArray, List.getElem?_cons_zero, List.getElem?_cons_succ]; rfl) (by kernel_rfl) (by kernel_rfl) (by kernel_rfl) (by exact fun _ _ _ h => h) (Or.inl ⟨by rfl, fun w' _ => by go_simp⟩) hSi ?_
              try simp only [Act.put, List.setIfInBounds_toArray, List.set_cons_zero, List.set_cons_succ]
              refine wpAnyH_done (by kernel_rfl) ?_ _
              refine NoPanic.normal ?_
              go_wp2_with fail
              go_meet
              exact ⟨rfl, HKi⟩
            case rest =>
              obtain ⟨rfl, HBc⟩ := hcut
              obtain ⟨e0, e1, e2, e3, e4⟩ := HS.out wc HBc.out
              have hb2 : Below wh.heap.size wh wc := HBX.out.trans (HBc.out.mono HBX.out.size)
              have hwq := HWR.out wc (HFin.out.1.trans (hb2.mono HFin.out.1.size))
              have HB2 : Hid (Below wh.heap.size wh wc) := hb2
              clear HBc HS HBX hb2 hS0 hs e0 e2 e3 e4
              go_wp2_with fail
              refine hwq.mono ?_
              rintro e wi ⟨v3, rfl, hwz, hbi⟩
              obtain ⟨ov3, cv3, rfl⟩ := hwz.form
              have hall := fin_all K V B w0 wh wi N HokN.out HFin.out.2 (HB2.out.trans (hbi.mono HB2.out.size))
              have HZ : Hid (Wts wi (.slice ov3 N.length cv3) N ∧ ∀ g o len cap, (.slice ov3 N.length cv3 : Value) = .slice (some ⟨g, o, none⟩) len cap → wh.heap.size ≤ g) := ⟨hwz.wts.1, fun g o len cap e => Nat.le_trans HB2.out.size (hwz.wts.2 g o len cap e).1⟩
              clear hwq hwz hbi e1
              go_wp2_with fail
              refine hall.mono ?_
              rintro e wj ⟨raws, masks, oa, ob, ca, cb, rfl, hl1, hl2, hat, hbj, hgj, _, hkj⟩
              have hWts : Wts wj (.slice ov3 N.length cv3) N := wts_keepL HZ.out.1 fun g c ⟨⟨o, len, cap, e⟩, hc⟩ => (hkj g (HZ.out.2 g o len cap e) (lt_of_block hc)).trans hc
              clear hall hkj
              have hlen : N.length = N.length := rfl
              have HAT : Hid (∀ W x, x ∈ N → List1 Value.string W (.slice oa raws.length ca) raws → List1 (Value.int .i64) W (.slice ob masks.length cb) masks → Calls Tryz.prog 24 #[.agg #[.slice oa raws.length ca, .slice ob masks.length cb], .int .i64 x.at_] W fun e w' => e = .returned (.tuple #[.string x.raw, .int .i64 0]) ∧ Below W.heap.size W w') := fun W x hx q1 q2 => by
                have q := at_any W oa ob ca cb raws masks x.at_ q1 q2
                rw [(hat x hx).1, (hat x hx).2] at q
                exact q
              have gI := heap_alloc_new wj (.cells #[.slice oa raws.length ca, .slice ob masks.length cb] 60)
              have hbI := bel_alloc wj (.cells #[.slice oa raws.length ca, .slice ob masks.length cb] 60)
              obtain ⟨X1, hX1⟩ : ∃ X1, wj.alloc (.cells #[.slice oa raws.length ca, .slice ob masks.length cb] 60) = X1 := ⟨_, rfl⟩
              rw [hX1] at gI hbI
              have HT : Hid (List1 Value.string X1 (.slice oa raws.length ca) raws ∧ List1 (Value.int .i64) X1 (.slice ob masks.length cb) masks ∧ Wts X1 (.slice ov3 N.length cv3) N ∧ Below w0.heap.size w0 X1 ∧ ErrT X1 ∧ X1.heap[wj.heap.size]? = some (.cells #[.slice oa raws.length ca, .slice ob masks.length cb] 60 (0, 0))) := ⟨hl1.below hbI, hl2.below hbI, hWts.below hbI, hbj.trans (hbI.mono hbj.size), hgj.bel hbI, gI⟩
              clear hl1 hl2 hWts hbj hgj gI hbI hat
              go_wp2_with fail
              clear hX1
              go_loopw [19, 20, 21] (fun iv rv mv wr => ∃ i : Nat, i ≤ N.length ∧ iv = .int .i64 (i : Int) ∧ rv = rv ∧ mv = mv ∧ Hid (Below X1.heap.size X1 wr)) (fun iv _ _ _ => N.length - (intOf iv).toNat)
              case atStart => exact ⟨0, Nat.zero_le _, rfl, rfl, rfl, Below.refl _ _⟩
              case round =>
                obtain ⟨i, hi, rfl, _, _, HBi⟩ := hrel
                by_cases hlt : i < N.length
                · have i1 : (i : Int) < (N.length : Nat) := by omega
                  have hil : i < N.length := by omega
                  obtain ⟨gl, ol, hov, hgl, hx⟩ := HT.out.2.2.1.get hil
                  subst hov
                  obtain ⟨c0, c1⟩ := (hx i _ (List.getElem?_eq_getElem hil)).keep (HBi.out.block gl hgl)
                  have hXl := lt_of_block HT.out.2.2.2.2.2
                  have gW := (HBi.out.block wj.heap.size hXl).trans HT.out.2.2.2.2.2
                  have d0 : wr.cell? ⟨wj.heap.size, 0, none⟩ = some (.slice oa raws.length ca) := cell_of_row _ _ 0 _ _ _ gW
                  have d1 : wr.cell? ⟨wj.heap.size, 1, none⟩ = some (.slice ob masks.length cb) := cell_of_row _ _ 1 _ _ _ gW
                  have hatw := fun W (hW : Below X1.heap.size X1 W) => HAT.out W N[i] (List.getElem_mem hil) (HT.out.1.below hW) (HT.out.2.1.below hW)
                  have HQ : Hid (∀ W, Below X1.heap.size X1 W → W.cell? ⟨gl, ol + i * 2 + 1, none⟩ = some (.string N[i].raw)) := fun W hW => ((hx i _ (List.getElem?_eq_getElem hil)).keep (hW.block gl hgl)).c1
                  clear hx gW hgl hXl
                  generalize N[i].at_ = at_ at *
                  generalize N[i].raw = R at *
                  generalize raws.length = rl at *
                  generalize masks.length = ml at *
                  have hSd : wr.drew.cell? ⟨wj.heap.size, 0, none⟩ = some (.slice oa rl ca) ∧ wr.drew.cell? ⟨wj.heap.size, 1, none⟩ = some (.slice ob ml cb) ∧ wr.drew.cell? ⟨gl, ol + i * 2, none⟩ = some (.int .i64 at_) := ⟨d0, d1, c0⟩
                  clear c1
                  go_wp2_with fail
                  go_region_held3 (fun w' => w'.cell? ⟨wj.heap.size, 0, none⟩ = some (.slice oa rl ca) ∧ w'.cell? ⟨wj.heap.size, 1, none⟩ = some (.slice ob ml cb) ∧ w'.cell? ⟨gl, ol + i * 2, none⟩ = some (.int .i64 at_)) (first | exact hSk | exact hSd | exact ⟨d0, d1, c0⟩ | simp [go_sem, *]) (first
                    | (go_at_call 24; refine (hatw _ (HBi.out.trans ((Below.refl wr.heap.size wr).drew.mono HBi.out.size))).mono ?_; rintro e wk ⟨rfl, hbk⟩; have hk6 : Below wr.heap.size wr wk := (Below.refl wr.heap.size wr).drew.trans hbk; have hSk : wk.cell? ⟨wj.heap.size, 0, none⟩ = some (.slice oa rl ca) ∧ wk.cell? ⟨wj.heap.size, 1, none⟩ = some (.slice ob ml cb) ∧ wk.cell? ⟨gl, ol + i * 2, none⟩ = some (.int .i64 at_) := ⟨(hk6.cell (p := ⟨wj.heap.size, 0, none⟩) (lt_of_cell_ d0)).trans d0, (hk6.cell (p := ⟨wj.heap.size, 1, none⟩) (lt_of_cell_ d1)).trans d1, (hk6.cell (p := ⟨gl, ol + i * 2, none⟩) (lt_of_cell_ c0)).trans c0⟩; have HBk : Hid (Below X1.heap.size X1 wk) := HBi.out.trans (hk6.mono HBi.out.size); clear hbk hk6))
                  all_goals
                    have c1 := HQ.out wk HBk.out
                    clear hatw hSk hSd d0 d1 c0 HQ
                    go_wp2
                    go_roundw
                    case rel => exact ⟨i + 1, by omega, by go_num, trivial, trivial, HBk⟩
                    case measure => simp [intOf]; omega
                · have hi2 : i = N.length := by omega
                  subst hi2
                  have i1 : ¬ ((N.length : Nat) : Int) < (N.length : Nat) := by omega
                  have HE : Hid (Below w.heap.size w wr ∧ ErrT wr) := by
                    have q := HT.out.2.2.2.1.trans (HBi.out.mono HT.out.2.2.2.1.size)
                    exact ⟨HW.out.2.2.2.2.1.trans (q.mono HW.out.2.2.2.2.1.size), HT.out.2.2.2.2.1.bel HBi.out⟩
                  clear HBi HT HAT
                  go_wp2_with fail
                  refine (jawake_any _ HE.out.2).mono ?_
                  rintro e wz ⟨rfl, hbz⟩
                  have HF : Hid (Below w.heap.size w wz) := HE.out.1.trans (hbz.mono HE.out.1.size)
                  clear hbz HE
                  go_wp2
                  go_ret
                  exact ⟨rfl, HF.out⟩
end Go.Proofs.YtbmjablmmlnieaaGreatDoor
