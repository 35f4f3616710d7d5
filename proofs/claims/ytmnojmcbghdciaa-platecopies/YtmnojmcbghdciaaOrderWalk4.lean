/- The law PlateOrder, called with any bytes and any truth values, returns true, and changes nothing that was there. -/
import Derived.Test.YtmnojmcbghdciaaPlArgs
namespace Go.Proofs.Ytmnojmcbghdciaa
open Go.RowKit

theorem rep_get (v : Value) (n i : Nat) (h : i < n) : (List.replicate n v)[i]? = some v := by simp [h]
theorem rep_getD (n i : Nat) (h : i < n) : ((List.replicate n 0).map fun (x : Nat) => (x : Int)).getD i 0 = 0 := by
  rw [List.getD_eq_getElem?_getD, List.getElem?_map, List.getElem?_replicate, if_pos h]; rfl

set_option maxHeartbeats 400000 in
theorem blank_any (w : World) : Calls Try.prog 27 #[] w fun e w' => e = .returned (.string (fillS 0 64)) ∧ Below w.heap.size w w' := by
  have hm : ∀ w, (Instr.makeSlice 50 (.int .i64 64) (.int .i64 64)).run Try.prog w = .ok (.slice (some ⟨w.heap.size, 0, none⟩) 64 64) (w.alloc (.cells (madeCells #[.int .u8 0] 64) 5)) := run_make_row' (P := Try.prog) 50 5 (.int .u8 0) 1 Try.underlying50 info_u8 rfl .i64 .i64 64 (by omega) (by omega)
  have hr : Row (w.alloc (.cells (madeCells #[.int .u8 0] 64) 5)) w.heap.size 5 (List.replicate 64 (.int .u8 0)) := made_row (heap_alloc_new w _)
  have hb := (Below.refl w.heap.size w).alloc (Nat.le_refl _) (.cells (madeCells #[.int .u8 0] 64) 5)
  obtain ⟨ms, hms⟩ : ∃ ms, madeCells #[.int .u8 0] 64 = ms := ⟨_, rfl⟩
  rw [hms] at hr hb
  simp only [hms] at hm
  clear hms
  obtain ⟨w0, hw0⟩ : ∃ w0, w.alloc (.cells ms 5) = w0 := ⟨_, rfl⟩
  rw [hw0] at hr hb
  have hcv := run_convert_bytes_arg (P := Try.prog) w0 50 5 Try.underlying50 Try.underlying5 w.heap.size 0 64 64 ((List.replicate 64 0).map fun (x : Nat) => (x : Int)) (by simp) (fun i hi => by
    rw [Nat.zero_add, hr.cell, rep_get _ _ _ hi, rep_getD _ _ hi]) 9 Try.underlying9
  rw [← fillS_num] at hcv
  have HF : Hid (Below w.heap.size w w0) := hb
  clear hr hb
  obtain ⟨X, hX⟩ : ∃ X, X = fillS 0 64 := ⟨_, rfl⟩
  rw [← hX] at hcv
  have HX : Hid (X = fillS 0 64) := hX
  clear hX
  go_enter Try.func27, Try.ntmps27
  go_wp2
  first
    | (rw [hcv]; go_wp2)
    | skip
  go_ret
  exact ⟨by rw [← HX.out]; rfl, HF.out⟩

/-- Behind j writes, and what the sector must say then. -/
def orderS (l : List Nat) (j : Nat) : PS := ⟨[fillS 0 64], (List.range j).map fun i => (0, fillS (l.getD i 0) 64), -1, true, 0, (j : Nat)⟩
def wantS (l : List Nat) (k : List Bool) : Nat → ByteArray
  | 0 => fillS 0 64
  | j + 1 => if lastsB k j = true then fillS (l.getD j 0) 64 else wantS l k j
theorem wantS_size (l : List Nat) (k : List Bool) : ∀ j, (wantS l k j).size = 64
  | 0 => fillS_size _ _
  | j + 1 => by
    simp only [wantS]
    split
    · exact fillS_size _ _
    · exact wantS_size l k j
theorem orderS_wait (l : List Nat) (j : Nat) : (orderS l j).wait.length = j := by simp [orderS]
theorem orderS_step (l : List Nat) (j : Nat) (hj : j < 60) : writeP (orderS l j) 0 (fillS (l.getD j 0) 64) = orderS l (j + 1) := by
  have hb : hasB (orderS l j) 0 = true := by simp [hasB, orderS]
  have hf1 : (orderS l j).fuse = -1 := rfl
  have hu : (orderS l j).up = true := rfl
  have hw : wrap64 ((orderS l j).writes + 1) = ((j + 1 : Nat) : Int) := by simp only [orderS, wrap64]; omega
  simp only [writeP, fillS_size, hu, hb, hf1, if_true, hw]
  simp only [orderS, List.range_succ, List.map_append, List.map_cons, List.map_nil]
  rfl
theorem order_kept (l : List Nat) (k : List Bool) (J : Nat) : ∀ j, j ≤ J → keptAt (lastsB k) (orderS l J).wait [fillS 0 64] j = [wantS l k j]
  | 0, _ => rfl
  | j + 1, hj => by
    have ih := order_kept l k J j (by omega)
    have hw : (orderS l J).wait[j]? = some (0, fillS (l.getD j 0) 64) := by
      show ((List.range J).map _)[j]? = _
      rw [List.getElem?_map, List.getElem?_range (by omega)]
      rfl
    rw [keptAt_step hw, ih, wantS]
    split <;> rfl
theorem order_end (l : List Nat) (k : List Bool) (J : Nat) : readS (startP k (orderS l J)) 0 = wantS l k J ∧ readE (startP k (orderS l J)) 0 = 0 ∧ (startP k (orderS l J)).wait.length = 0 := by
  have e : startP k (orderS l J) = ⟨[wantS l k J], [], -1, true, 0, (J : Nat)⟩ := by
    have h1 := order_kept l k J J (Nat.le_refl _)
    have h2 : (orderS l J).kept = [fillS 0 64] := rfl
    simp only [startP, settleP, orderS_wait, h2, h1]
    rfl
  rw [e]
  refine ⟨by simp [readS, hasB, textOf, textR, heldS, keptS], by simp [readE, hasB, textOf, textR, heldE, keptS, wantS_size], rfl⟩

set_option maxRecDepth 10000 in
set_option maxHeartbeats 2000000 in
theorem walk_plateOrder (v0 : Value) (l : List Nat) (v1 : Value) (k : List Bool) (w : World) (hl : Nums8 w v0 l) (hk : Bools w (fun k => w.heap.size ≤ k) v1 k) :
    Calls Try.prog 7 #[v0, v1] w fun e w' => e = .returned (.bool true) ∧ Below w.heap.size w w' := by
  have hlv : ∃ oa cap, v0 = .slice oa l.length cap := by
    rcases hl with ⟨oa, cap, rfl, rfl⟩ | ⟨g, o, cap, rfl, _⟩
    · exact ⟨_, _, rfl⟩
    · exact ⟨_, _, rfl⟩
  have hkv : ∃ oa cap, v1 = .slice oa k.length cap := by
    rcases hk with ⟨oa, cap, rfl, rfl⟩ | ⟨g, o, cap, rfl, _⟩
    · exact ⟨_, _, rfl⟩
    · exact ⟨_, _, rfl⟩
  obtain ⟨oa, ca, rfl⟩ := hlv
  obtain ⟨ob, cb, rfl⟩ := hkv
  have HL : Hid (Nums8 w (.slice oa l.length ca) l) := hl
  have HK : Hid (Bools w (fun k => w.heap.size ≤ k) (.slice ob k.length cb) k) := hk
  clear hl hk
  obtain ⟨J, hJ⟩ : ∃ J, J = min l.length 60 := ⟨_, rfl⟩
  have hn := new_on 1 (by decide) w
  have e0 : newP 1 = orderS l 0 := rfl
  rw [e0] at hn
  go_enter Try.func7, Try.ntmps7
  go_wp2_with fail
  refine hn.mono ?_
  rintro e wa ⟨B, rfl, hp, hT⟩
  clear hn
  go_wp2_with fail
  refine (blank_any _).mono ?_
  rintro e wb ⟨rfl, hb⟩
  have HB : Hid (OnB w.heap.size wb B (orderS l 0) ∧ Below w.heap.size w wb) := ⟨hp.below hb, hT.trans (hb.mono hT.size)⟩
  clear hp hT hb e0
  go_wp2_with fail
  go_loopw [7, 8] (fun u v wr => ∃ j : Nat, j ≤ J ∧ u = .string (wantS l k j) ∧ v = .int .i64 j ∧ OnB w.heap.size wr B (orderS l j) ∧ Below w.heap.size w wr) (fun _ v _ => J - (intOf v).toNat)
  case atStart => exact ⟨0, Nat.zero_le _, rfl, rfl, HB.out.1, HB.out.2⟩
  case round =>
    clear HB
    obtain ⟨j, hj, rfl, rfl, hp, hT⟩ := hrel
    by_cases hlt : j < J
    · have j1 : (j : Int) < (l.length : Nat) := by omega
      have j2 : (j : Int) < 60 := by omega
      obtain ⟨x, hx⟩ : ∃ x, l[j]? = some x := ⟨l[j]'(by omega), List.getElem?_eq_getElem (by omega)⟩
      have hxd : l.getD j 0 = x := by rw [List.getD_eq_getElem?_getD, hx]; rfl
      have hbx : ∀ w, Calls Try.prog 14 #[.int .u8 (x : Nat), .int .i64 64] w fun e w' => e = .returned (.string (fillS x 64)) ∧ Below w.heap.size w w' := bytes_any x 64 (by decide)
      obtain ⟨g, o, ca', hv, hg, hc⟩ : ∃ g o ca', (Value.slice oa l.length ca) = .slice (some ⟨g, o, none⟩) l.length ca' ∧ g < w.heap.size ∧ ∀ i x, l[i]? = some x → w.cell? ⟨g, o + i, none⟩ = some (.int .u8 (x : Nat)) := by
        rcases HL.out with ⟨oa', cap, e, e2⟩ | ⟨g, o, cap, e, h1, h2⟩
        · exact absurd hlt (by have : l.length = 0 := by rw [e2]; rfl
                               omega)
        · exact ⟨g, o, cap, e, h1, h2⟩
      obtain ⟨rfl, rfl⟩ : oa = some ⟨g, o, none⟩ ∧ ca = ca' := by cases hv; exact ⟨rfl, rfl⟩
      have c0 : ∀ w', Below w.heap.size w w' → w'.cell? ⟨g, o + j, none⟩ = some (.int .u8 (x : Nat)) := fun w' h => by rw [World.cell?_of_block (a := ⟨g, o + j, none⟩) (h.block g hg)]; exact hc j x hx
      have c1 := c0 wr hT
      have HS : Hid (writeP (orderS l j) 0 (fillS x 64) = orderS l (j + 1) ∧ wantS l k (j + 1) = if lastsB k j = true then fillS x 64 else wantS l k j) := ⟨by rw [← hxd]; exact orderS_step l j (by omega), by rw [wantS, hxd]⟩
      have HC : Hid (∀ w', Below w.heap.size w w' → w'.cell? ⟨g, o + j, none⟩ = some (.int .u8 (x : Nat))) := c0
      clear hc c0 hv hx hxd hg
      go_wp2_with fail
      refine (hbx _).mono ?_
      rintro e wd ⟨rfl, hd⟩
      have hpd := hp.below hd
      have hTd := hT.trans (hd.mono hT.size)
      clear hp hT hd c1
      go_wp2_with fail
      refine (write_on _ B _ 0 (fillS x 64) wd hpd (by rw [orderS_wait]; omega)).mono ?_
      rintro e we ⟨rfl, hpe, he⟩
      generalize writeE (orderS l j) 0 (fillS x 64) = z1
      rw [HS.out.1] at hpe
      have hTe := hTd.trans he
      have c2 := HC.out we hTe
      clear hpd hTd he
      by_cases hkj : j < k.length
      · have k1 : (j : Int) < (k.length : Nat) := by omega
        obtain ⟨b, hb⟩ : ∃ b, k[j]? = some b := ⟨k[j], List.getElem?_eq_getElem hkj⟩
        have hbd : lastsB k j = b := by rw [lastsB, List.getD_eq_getElem?_getD, hb]; rfl
        obtain ⟨g2, o2, cb', hv2, hg2, hc2⟩ : ∃ g o cb', (Value.slice ob k.length cb) = .slice (some ⟨g, o, none⟩) k.length cb' ∧ g < w.heap.size ∧ ∀ i b, k[i]? = some b → w.cell? ⟨g, o + i, none⟩ = some (.bool b) := by
          rcases HK.out with ⟨oa', cap, e, e2⟩ | ⟨g, o, cap, e, h1, _, h2⟩
          · exact absurd hkj (by have : k.length = 0 := by rw [e2]; rfl
                                 omega)
          · exact ⟨g, o, cap, e, h1, h2⟩
        obtain ⟨rfl, rfl⟩ : ob = some ⟨g2, o2, none⟩ ∧ cb = cb' := by cases hv2; exact ⟨rfl, rfl⟩
        have c3 : we.cell? ⟨g2, o2 + j, none⟩ = some (.bool b) := by rw [World.cell?_of_block (a := ⟨g2, o2 + j, none⟩) (hTe.block g2 hg2)]; exact hc2 j b hb
        clear hc2 hv2 hg2 hb
        cases b
        · have HF : Hid (wantS l k (j + 1) = wantS l k j ∧ OnB w.heap.size we B (orderS l (j + 1)) ∧ Below w.heap.size w we) := ⟨by rw [HS.out.2, hbd]; rfl, hpe, hTe⟩
          clear hpe hTe hbd HS
          go_wp2
          go_roundw
          case rel => exact ⟨j + 1, by omega, by rw [HF.out.1], by go_num, HF.out.2.1, HF.out.2.2⟩
          case measure => simp [intOf]; omega
        · have hW : wantS l k (j + 1) = fillS x 64 := by rw [HS.out.2, hbd]; rfl
          have HH : Hid (wantS l k (j + 1) = fillS x 64) := hW
          clear hW hbd HS
          go_wp2_with fail
          refine (hbx _).mono ?_
          rintro e wf ⟨rfl, hf⟩
          have HF : Hid (OnB w.heap.size wf B (orderS l (j + 1)) ∧ Below w.heap.size w wf) := ⟨hpe.below hf, hTe.trans (hf.mono hTe.size)⟩
          clear hpe hTe hf c2 c3
          go_wp2
          go_roundw
          case rel => exact ⟨j + 1, by omega, by rw [HH.out], by go_num, HF.out.1, HF.out.2⟩
          case measure => simp [intOf]; omega
      · have k1 : ¬ (j : Int) < (k.length : Nat) := by omega
        have hbd : lastsB k j = false := by rw [lastsB, List.getD_eq_getElem?_getD, List.getElem?_eq_none (by omega)]; rfl
        have HF : Hid (wantS l k (j + 1) = wantS l k j ∧ OnB w.heap.size we B (orderS l (j + 1)) ∧ Below w.heap.size w we) := ⟨by rw [HS.out.2, hbd]; rfl, hpe, hTe⟩
        clear hpe hTe hbd HS
        go_wp2
        go_roundw
        case rel => exact ⟨j + 1, by omega, by rw [HF.out.1], by go_num, HF.out.2.1, HF.out.2.2⟩
        case measure => simp [intOf]; omega
    · obtain rfl : j = J := by omega
      have hend : (¬ (j : Int) < (l.length : Nat)) ∨ ((j : Int) < (l.length : Nat) ∧ ¬ (j : Int) < 60) := by omega
      have hkw : Bools wr (fun k => w.heap.size ≤ k) (.slice ob k.length cb) k := HK.out.touch ⟨hT.mono (Nat.zero_le _), fun k hk hn => hT.block k (by omega)⟩
      have HE : Hid (readS (startP k (orderS l j)) 0 = wantS l k j ∧ readE (startP k (orderS l j)) 0 = 0 ∧ (startP k (orderS l j)).wait.length = 0) := order_end l k j
      have hs := start_on _ B _ _ k wr hp (by rw [orderS_wait]; omega) hkw
      have HT : Hid (Below w.heap.size w wr) := hT
      clear hp hT hkw
      generalize wantS l k j = X at *
      rcases hend with h1 | ⟨h1, h2⟩
      all_goals
        go_wp2_with fail
        refine hs.mono ?_
        rintro e wa ⟨rfl, hpa, ha⟩
        have hTa := HT.out.trans ha
        clear hs ha
        go_wp2_with fail
        refine (read_on _ B _ 0 wa hpa (by rw [HE.out.2.2]; omega)).mono ?_
        rintro e wb ⟨rfl, hpb, hb⟩
        rw [HE.out.1, HE.out.2.1]
        have hTb := hTa.trans hb
        clear hpa hTa hb hpb
        go_wp2_with fail
        refine (awake_any _).mono ?_
        rintro e wc ⟨rfl, hk⟩
        have HF : Hid (Below w.heap.size w wc) := hTb.trans (hk.mono hTb.size)
        clear hTb hk
        go_wp2
        go_ret
        exact ⟨rfl, HF.out⟩
end Go.Proofs.Ytmnojmcbghdciaa
