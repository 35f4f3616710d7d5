/- The document's Tag. · The document's low, left and word. -/
import Derived.Test.YtoopaigpjefonaaGreatDoorMg45
import Derived.BigQuiet
import Derived.Test.YtoopaigpjefonaaGreatDoorMg39
namespace Go.Proofs.YtoopaigpjefonaaGreatDoor.Bx
set_option maxRecDepth 20000
open Go.RowKit

theorem dig_zero (k : Nat) : (digL 0 13).getD k 0 = 0 := by
  by_cases h : k < 13
  · rw [digL_at 0 13 k h, Nat.zero_div]
  · rw [getD_beyond _ _ (by rw [digL_length]; omega)]
theorem IntsN.lift {w w' : World} {g n : Nat} {L : List Nat} (h : IntsN w g n L) (hb : Below w.heap.size w w') : IntsN w' g n L := h.below hb h.lt
theorem piece_of (s : ByteArray) (a e : Nat) (h : e = a + 16 ∨ (e = s.size ∧ s.size ≤ a + 16)) : numsOf (s.extract a e ++ ⟨#[1]⟩) = (((numsOf s).drop a).take 16) ++ [1] := by
  have e1 : numsOf (s.extract a e ++ ⟨#[1]⟩) = numsOf (s.extract a e) ++ [1] := by
    simp [numsOf, ByteArray.data_append]
  rw [e1, numsOf_extract]
  rcases h with rfl | ⟨rfl, h⟩
  · rw [show a + 16 - a = 16 by omega]
  · rw [List.take_of_length_le (by rw [List.length_drop, numsOf_length]; omega), List.take_of_length_le (by rw [List.length_drop, numsOf_length]; omega)]
theorem piece_lt (l : List Nat) (hl : Bytes l) (a : Nat) : leN ((l.drop a).take 16 ++ [1]) < 1024 ^ 14 := by
  have h := leN_lt ((l.drop a).take 16 ++ [1]) ((hl.drop a |>.take 16).append (fun x hx => by rw [List.mem_singleton.1 hx]; decide))
  have h2 : ((l.drop a).take 16 ++ [1]).length ≤ 17 := by simp; omega
  exact Nat.lt_of_lt_of_le h (Nat.le_trans (Nat.pow_le_pow_right (by decide) h2) (by decide))

set_option maxRecDepth 10000 in
set_option maxHeartbeats 8000000 in
theorem rTag_ok (key s : ByteArray) (hk : key.size = 32) (hs : s.size < 1099511627776) (w : World) :
    Calls Tryz.prog 190 #[.string key, .string s] w fun e w' => e = .returned (.tuple #[.string (strN (polyT (numsOf key) (numsOf s))), .int .i64 0]) ∧ Below w.heap.size w w' := by
  obtain ⟨i0, hi, hz0, hz1, hz2⟩ := info_parts info_int
  obtain ⟨i1, hj, hy0, hy1, hy2⟩ := info_parts info_u8
  have hm : ∀ W, (Instr.makeSlice 92 (.int .i64 13) (.int .i64 13)).run Tryz.prog W = .ok (.slice (some ⟨W.heap.size, 0, none⟩) 13 13) (W.alloc (.cells (madeCells #[.int .i64 0] 13) 3)) := run_make_row' (P := Tryz.prog) 92 3 (.int .i64 0) 8 Tryz.underlying92 info_int rfl .i64 .i64 13 (by omega) (by omega)
  have HCM : Hid (∀ W : World, CellsF (W.alloc (.cells (madeCells #[.int .i64 0] 13) 3)) W.heap.size 13 (fun _ => .int .i64 0)) := fun W => cells_made W 13
  obtain ⟨ms, hms⟩ : ∃ ms, madeCells #[.int .i64 0] 13 = ms := ⟨_, rfl⟩
  rw [hms] at HCM
  simp only [hms] at hm
  clear hms
  have hm4 : ∀ W, (Instr.makeSlice 92 (.int .i64 14) (.int .i64 14)).run Tryz.prog W = .ok (.slice (some ⟨W.heap.size, 0, none⟩) 14 14) (W.alloc (.cells (madeCells #[.int .i64 0] 14) 3)) := run_make_row' (P := Tryz.prog) 92 3 (.int .i64 0) 8 Tryz.underlying92 info_int rfl .i64 .i64 14 (by omega) (by omega)
  have HCM4 : Hid (∀ W : World, CellsF (W.alloc (.cells (madeCells #[.int .i64 0] 14) 3)) W.heap.size 14 (fun _ => .int .i64 0)) := fun W => cells_made W 14
  obtain ⟨ms4, hms⟩ : ∃ ms4, madeCells #[.int .i64 0] 14 = ms4 := ⟨_, rfl⟩
  rw [hms] at HCM4
  simp only [hms] at hm4
  clear hms
  have hkl : (numsOf key).length = 32 := by rw [numsOf_length]; exact hk
  have hcl := fun W => rclamped_any key hk W
  have hdr := fun W => rdigits_any (strN (clampL (numsOf key))) (by rw [strN_size, clampL_length]; decide) 13 (by omega) (by omega) W
  simp only [numsOf_strN _ (clampL_bytes _ (numsOf_bytes key))] at hdr
  have hds := fun W => rdigits_any (key.extract 16 32) (by simp; omega) 13 (by omega) (by omega) W
  have hex : numsOf (key.extract 16 32) = (numsOf key).drop 16 := by rw [numsOf_extract, List.take_of_length_le (by rw [List.length_drop]; omega)]
  simp only [hex] at hds
  have HR : Hid (leN (clampL (numsOf key)) < 1024 ^ 13) := by
    have h := leN_lt (clampL (numsOf key)) (clampL_bytes _ (numsOf_bytes key))
    rw [clampL_length] at h
    exact Nat.lt_trans h (by decide)
  have HSL : Hid (leN ((numsOf key).drop 16) < 1024 ^ 13) := by
    have h := leN_lt ((numsOf key).drop 16) ((numsOf_bytes key).drop 16)
    rw [List.length_drop, hkl] at h
    exact Nat.lt_trans h (by decide)
  obtain ⟨X, hX⟩ : ∃ X, X = strN (polyT (numsOf key) (numsOf s)) := ⟨_, rfl⟩
  rw [← hX]
  have HX : Hid (X = strN (leB 16 (polyN (leN (clampL (numsOf key))) (numsOf s) + leN ((numsOf key).drop 16)))) := by rw [hX, polyT, last_leB]; rfl
  have HPL : Hid (∀ a, leN (((numsOf s).drop a).take 16 ++ [1]) < 1024 ^ 14) := fun a => piece_lt _ (numsOf_bytes s) a
  have HPC : Hid (∀ a e, (e = a + 16 ∨ (e = s.size ∧ s.size ≤ a + 16)) → numsOf (s.extract a e ++ ⟨#[1]⟩) = (((numsOf s).drop a).take 16) ++ [1]) := fun a e h => piece_of s a e h
  have HLL : Hid ((numsOf s).length = s.size) := numsOf_length s
  clear hX hex hkl
  generalize leN (clampL (numsOf key)) = R at *
  generalize leN ((numsOf key).drop 16) = S at *
  generalize strN (clampL (numsOf key)) = CK at *
  generalize numsOf s = l at *
  go_enter Tryz.func190, Tryz.ntmps190
  go_wp2_with fail
  refine (hcl _).mono ?_
  rintro e w1 ⟨rfl, hb1⟩
  clear hcl
  go_wp2_with fail
  refine (hdr _).mono ?_
  rintro e w2 ⟨gr, cr, rfl, hO, hb2⟩
  clear hdr
  have hT2 := hb1.trans (hb2.mono hb1.size)
  have hIr : IntsN w2 gr 13 (digL R 13) := IntsN.of hO (digL_length R 13)
  have hT3 := hT2.alloc hT2.size (.cells ms 3)
  have hIr3 : IntsN (w2.alloc (.cells ms 3)) gr 13 (digL R 13) := hIr.lift ((Below.refl w2.heap.size w2).alloc (Nat.le_refl _) _)
  have hc := HCM.out w2
  have HA : Hid (IntsN (w2.alloc (.cells ms 3)) w2.heap.size 13 (digL (polyH R l 0) 13) ∧ IntsN (w2.alloc (.cells ms 3)) gr 13 (digL R 13) ∧ Below w.heap.size w (w2.alloc (.cells ms 3))) := ⟨⟨hc.lt, fun i hi => by rw [hc.cells i hi, show polyH R l 0 = 0 from rfl, dig_zero]; rfl, hc.free⟩, hIr3, hT3⟩
  clear hc hIr hIr3 hT2 hT3 hO hb1 hb2 HCM
  go_wp2_with fail
  go_loopw [7, 8] (fun u v wq => ∃ k a gh ch : Nat, a = 16 * k ∧ a < s.size + 16 ∧ u = .slice (some ⟨gh, 0, none⟩) 13 ch ∧ v = .int .i64 a ∧ IntsN wq gh 13 (digL (polyH R l k) 13) ∧ IntsN wq gr 13 (digL R 13) ∧ Below w.heap.size w wq) (fun _ v _ => s.size + 16 - (intOf v).toNat)
  case atStart => exact ⟨0, 0, w2.heap.size, 13, rfl, by omega, rfl, rfl, HA.out⟩
  case round =>
    clear HA hm
    obtain ⟨k, a, gh, ch, hak, has, rfl, rfl, hH, hR, hb⟩ := hrel
    by_cases hlt : a < s.size
    · clear hds HX
      have HK : Hid (a = 16 * k) := hak
      have HL : Hid (IntsN wr gh 13 (digL (polyH R l k) 13) ∧ IntsN wr gr 13 (digL R 13) ∧ Below w.heap.size w wr) := ⟨hH, hR, hb⟩
      have HPH : Hid (polyH R l k < 1024 ^ 13) := by
        cases k with
        | zero => exact (show 0 < 1024 ^ 13 by decide)
        | succ k => exact Nat.lt_trans (Nat.mod_lt _ (by decide)) (show polyP < 1024 ^ 13 by decide)
      have HST : Hid (polyH R l (k + 1) = polyStep R (polyH R l k) ((l.drop a).take 16)) := by
        show _ = _
        rw [hak]; rfl
      clear hH hR hb hak
      have HPA := HPL.out a
      have HPP : Hid (leN ((l.drop a).take 16 ++ [1]) < 1024 ^ 14) := HPA
      have HTI : Hid (∀ h, (h + leN ((l.drop a).take 16 ++ [1])) % polyP * R % polyP = polyStep R h ((l.drop a).take 16)) := fun h => step_times R h _
      have HPQ : Hid (∀ e, (e = a + 16 ∨ (e = s.size ∧ s.size ≤ a + 16)) → numsOf (s.extract a e ++ ⟨#[1]⟩) = ((l.drop a).take 16) ++ [1]) := HPC.out a
      clear HPA HPL HPC HLL
      generalize (l.drop a).take 16 = pc at *
      generalize polyH R l k = H at *
      obtain ⟨H', hH'⟩ : ∃ H', H' = polyH R l (k + 1) := ⟨_, rfl⟩
      rw [← hH'] at HST
      have HSN : Hid (polyH R l (k + 1) = H') := hH'.symm
      clear hH'
      have hcase : (∃ z e : Nat, z = a + 16 ∧ z = e ∧ ¬ (s.size : Int) < z ∧ e ≤ s.size ∧ numsOf (s.extract a e ++ ⟨#[1]⟩) = pc ++ [1]) ∨ (∃ z e : Nat, z = a + 16 ∧ s.size = e ∧ (s.size : Int) < z ∧ e ≤ s.size ∧ numsOf (s.extract a e ++ ⟨#[1]⟩) = pc ++ [1]) := by
        by_cases h : a + 16 ≤ s.size
        · exact .inl ⟨a + 16, a + 16, rfl, rfl, by omega, h, HPQ.out _ (.inl rfl)⟩
        · exact .inr ⟨a + 16, s.size, rfl, rfl, by omega, Nat.le_refl _, HPQ.out _ (.inr ⟨rfl, by omega⟩)⟩
      clear HPQ
      rcases hcase with ⟨z, e, hz, rfl, hzl, hel, hpq⟩ | ⟨z, e, hz, hse, hzl, hel, hpq⟩
      case' inl =>
        have wa : IntKind.i64.wrap ((a : Int) + 16) = (z : Int) := by rw [IntKind.wrap_i64]; omega
        have al : (a : Int) < s.size := by omega
        have ae : (a : Int) ≤ (z : Int) := by omega
        have el : (z : Int) ≤ s.size := by omega
        have hxs : (s.extract a z).size ≤ 16 := by simp; omega
        have hadd : ∀ w', (Op.stringOp .add (s.extract a z) ⟨#[1]⟩).run Tryz.prog w' = .ok (.string (s.extract a z ++ ⟨#[1]⟩)) w' := fun w' => run_string_add_sum (P := Tryz.prog) (w := w') (s.extract a z) ⟨#[1]⟩ (by show _ + 1 ≤ _; omega)
        have hPs : (s.extract a z ++ ⟨#[1]⟩).size ≤ 17 := by rw [ByteArray.size_append]; show _ + 1 ≤ _; omega
        generalize s.extract a z ++ ⟨#[1]⟩ = P at *
        have HZ : Hid (a < s.size) := hlt
        have HZE : Hid (z = a + 16) := hz
        clear hz hlt hel hxs has
        go_wp2_with fail
      case' inr =>
        have wa : IntKind.i64.wrap ((a : Int) + 16) = (z : Int) := by rw [IntKind.wrap_i64]; omega
        have HZ : Hid (a < s.size) := hlt
        rw [hse] at hzl hlt hs
        have al : (a : Int) < e := by omega
        have ae : (a : Int) ≤ (e : Int) := by omega
        have hxs : (s.extract a e).size ≤ 16 := by simp; omega
        have hadd : ∀ w', (Op.stringOp .add (s.extract a e) ⟨#[1]⟩).run Tryz.prog w' = .ok (.string (s.extract a e ++ ⟨#[1]⟩)) w' := fun w' => run_string_add_sum (P := Tryz.prog) (w := w') (s.extract a e) ⟨#[1]⟩ (by show _ + 1 ≤ _; omega)
        have hPs : (s.extract a e ++ ⟨#[1]⟩).size ≤ 17 := by rw [ByteArray.size_append]; show _ + 1 ≤ _; omega
        generalize s.extract a e ++ ⟨#[1]⟩ = P at *
        have HZE : Hid (z = a + 16) := hz
        clear hz hlt hel hxs has
        go_wp2_with fail
      all_goals
        refine (rdigits_any P (by omega) 14 (by omega) (by omega) _).mono ?_
        rintro ee w3 ⟨gw, cw, rfl, hOw, hb3⟩
        rw [hpq] at hOw
        have hIw : IntsN w3 gw 14 (digL (leN (pc ++ [1])) 14) := IntsN.of hOw (digL_length _ 14)
        generalize leN (pc ++ [1]) = W at *
        have hH3 := HL.out.1.lift hb3
        have hR3 := HL.out.2.1.lift hb3
        have hB3 := HL.out.2.2.trans (hb3.mono HL.out.2.2.size)
        have hba := (Below.refl w3.heap.size w3).alloc (Nat.le_refl _) (.cells ms4 3)
        have hc4 := HCM4.out w3
        have hIw4 := hIw.lift hba
        have hH4 := hH3.lift hba
        have hR4 := hR3.lift hba
        have hB4 := hB3.alloc hB3.size (.cells ms4 3)
        have hgw : gw ≠ w3.heap.size := by have := hIw.lt; omega
        have hgh : gh ≠ w3.heap.size := by have := hH3.lt; omega
        have hgr : gr ≠ w3.heap.size := by have := hR3.lt; omega
        have hlow : w.heap.size ≤ w3.heap.size := hB3.size
        obtain ⟨w4, hw4⟩ : ∃ w4, w3.alloc (.cells ms4 3) = w4 := ⟨_, rfl⟩
        rw [hw4] at hc4 hIw4 hH4 hR4 hB4
        obtain ⟨gt, hgt⟩ : ∃ gt, w3.heap.size = gt := ⟨_, rfl⟩
        rw [hgt] at hc4 hgw hgh hgr hlow
        have HA : Hid (CellsF w4 gt 14 (fun k => .int .i64 ((if k < 0 then addF W H k else 0 : Nat) : Int)) ∧ IntsN w4 gw 14 (digL W 14) ∧ IntsN w4 gh 13 (digL H 13) ∧ IntsN w4 gr 13 (digL R 13) ∧ Below w.heap.size w w4) := ⟨hc4.congr fun q _ => by rw [if_neg (Nat.not_lt_zero q)]; rfl, hIw4, hH4, hR4, hB4⟩
        clear hc4 hIw4 hH4 hR4 hB4 hba hH3 hR3 hB3 hIw hOw hb3 HL HCM4 hpq hPs hadd ae
        go_wp2_with fail
        generalize wr = wr0 at *
        go_loopw [12] (fun v wq => ∃ i : Nat, i ≤ 14 ∧ v = .int .i64 i ∧ CellsF wq gt 14 (fun k => .int .i64 ((if k < i then addF W H k else 0 : Nat) : Int)) ∧ IntsN wq gw 14 (digL W 14) ∧ IntsN wq gh 13 (digL H 13) ∧ IntsN wq gr 13 (digL R 13) ∧ Below w.heap.size w wq) (fun v _ => 14 - (intOf v).toNat)
        case atStart => exact ⟨0, Nat.zero_le _, rfl, HA.out⟩
        case round =>
          clear HA hm4
          obtain ⟨i, hi14, rfl, hC, iW, iH, iR, hbb⟩ := hrel
          by_cases h14 : i < 14
          · have i14 : (i : Int) < 14 := by omega
            have cW := iW.cells i h14
            have ct : wr.cell? ⟨gt, i, none⟩ = some (.int .i64 0) := by rw [hC.cells i h14, if_neg (Nat.lt_irrefl i)]; rfl
            have ft := hC.free i h14
            have hwl := dig14_lt W i
            by_cases h13 : i < 13
            · have i13 : (i : Int) < 13 := by omega
              have hhl := dig13_lt H i
              have HAD : Hid (addF W H i = (digL W 14).getD i 0 + (digL H 13).getD i 0) := by
                show _ = _
                rw [addF, if_pos h13]
              have hC5 := hC.set i (.int .i64 ((digL W 14).getD i 0 : Nat)) h14
              have iW5 : IntsN (wr.setCell ⟨gt, i, none⟩ (.int .i64 ((digL W 14).getD i 0 : Nat))) gw 14 (digL W 14) := ints_other iW hgw
              have iH5 : IntsN (wr.setCell ⟨gt, i, none⟩ (.int .i64 ((digL W 14).getD i 0 : Nat))) gh 13 (digL H 13) := ints_other iH hgh
              have iR5 : IntsN (wr.setCell ⟨gt, i, none⟩ (.int .i64 ((digL W 14).getD i 0 : Nat))) gr 13 (digL R 13) := ints_other iR hgr
              have hb5 := hbb.setCell (p := ⟨gt, i, none⟩) hlow (.int .i64 ((digL W 14).getD i 0 : Nat))
              obtain ⟨w5, hw5⟩ : ∃ w5, wr.setCell ⟨gt, i, none⟩ (.int .i64 ((digL W 14).getD i 0 : Nat)) = w5 := ⟨_, rfl⟩
              rw [hw5] at hC5 iW5 iH5 iR5 hb5
              have c5 : w5.cell? ⟨gt, i, none⟩ = some (.int .i64 ((digL W 14).getD i 0 : Nat)) := by rw [hC5.cells i h14, if_pos rfl]
              have f5 := hC5.free i h14
              have cH := iH5.cells i h13
              have HF : Hid (∀ n, CellsF ((w5.setCell ⟨gt, i, none⟩ (.int .i64 (addF W H i : Nat))).drewN n) gt 14 (fun k => .int .i64 ((if k < i + 1 then addF W H k else 0 : Nat) : Int)) ∧ IntsN ((w5.setCell ⟨gt, i, none⟩ (.int .i64 (addF W H i : Nat))).drewN n) gw 14 (digL W 14) ∧ IntsN ((w5.setCell ⟨gt, i, none⟩ (.int .i64 (addF W H i : Nat))).drewN n) gh 13 (digL H 13) ∧ IntsN ((w5.setCell ⟨gt, i, none⟩ (.int .i64 (addF W H i : Nat))).drewN n) gr 13 (digL R 13) ∧ Below w.heap.size w ((w5.setCell ⟨gt, i, none⟩ (.int .i64 (addF W H i : Nat))).drewN n)) := fun n => ⟨((hC5.set i (.int .i64 (addF W H i : Nat)) h14).congr fun k _ => by
                by_cases e : k = i
                · subst e; rw [if_pos rfl, if_pos (by omega)]
                · rw [if_neg e, if_neg e]
                  by_cases h : k < i
                  · rw [if_pos h, if_pos (by omega)]
                  · rw [if_neg h, if_neg (by omega)]).drewN n, (ints_other iW5 hgw).drewN n, (ints_other iH5 hgh).drewN n, (ints_other iR5 hgr).drewN n, below_drewN (hb5.setCell (p := ⟨gt, i, none⟩) hlow _) n⟩
              rw [HAD.out] at HF
              clear hC hC5 iW iH iR iW5 iH5 iR5 hbb hb5 HAD
              generalize (digL W 14).getD i 0 = x at *
              generalize (digL H 13).getD i 0 = y at *
              obtain ⟨q, hq⟩ : ∃ q, q = x + y := ⟨_, rfl⟩
              rw [← hq] at HF
              have wq : IntKind.i64.wrap ((x : Int) + (y : Int)) = (q : Int) := by rw [IntKind.wrap_i64]; omega
              clear hq
              go_wp2_with fail
              go_region
              all_goals
                go_wp2
                go_roundw
                case rel => exact ⟨i + 1, by omega, by go_num, HF.out 1⟩
                case measure => simp [intOf]; omega
            · obtain rfl : i = 13 := by omega
              have HAD : Hid ((digL W 14).getD 13 0 = addF W H 13) := by
                show _ = _
                rw [addF, if_neg (by omega)]; rfl
              have HF : Hid (CellsF (wr.setCell ⟨gt, 13, none⟩ (.int .i64 ((digL W 14).getD 13 0 : Nat))) gt 14 (fun k => .int .i64 ((if k < 13 + 1 then addF W H k else 0 : Nat) : Int)) ∧ IntsN (wr.setCell ⟨gt, 13, none⟩ (.int .i64 ((digL W 14).getD 13 0 : Nat))) gw 14 (digL W 14) ∧ IntsN (wr.setCell ⟨gt, 13, none⟩ (.int .i64 ((digL W 14).getD 13 0 : Nat))) gh 13 (digL H 13) ∧ IntsN (wr.setCell ⟨gt, 13, none⟩ (.int .i64 ((digL W 14).getD 13 0 : Nat))) gr 13 (digL R 13) ∧ Below w.heap.size w (wr.setCell ⟨gt, 13, none⟩ (.int .i64 ((digL W 14).getD 13 0 : Nat)))) := ⟨(hC.set 13 (.int .i64 ((digL W 14).getD 13 0 : Nat)) h14).congr fun k hk => by
                by_cases e : k = 13
                · subst e; rw [if_pos rfl, if_pos (by omega), HAD.out]
                · rw [if_neg e, if_pos (by omega), if_pos (by omega)], ints_other iW hgw, ints_other iH hgh, ints_other iR hgr, hbb.setCell (p := ⟨gt, 13, none⟩) hlow _⟩
              clear hC iW iH iR hbb HAD
              generalize (digL W 14).getD 13 0 = x at *
              go_wp2
              go_roundw
              case rel => exact ⟨14, by omega, rfl, HF.out⟩
              case measure => simp [intOf]
          · obtain rfl : i = 14 := by omega
            have hIn : IntsN wr gt (addT W H).length (addT W H) := by
              rw [addT_length]
              exact ⟨hC.lt, fun k hk => by rw [hC.cells k hk, if_pos hk, addT_at W H k hk], hC.free⟩
            have hred := rreduced_any (addT W H) (addT_small W H) (by rw [addT_length]; decide) gt 14 (by rw [addT_length]; decide) wr hIn
            rw [addT_length, addT_big W H HPP.out HPH.out] at hred
            have HL6 : Hid (IntsN wr gr 13 (digL R 13) ∧ Below w.heap.size w wr) := ⟨iR, hbb⟩
            clear hC iW iH iR hbb hIn
            go_wp2_with fail
            refine hred.mono ?_
            rintro ee w6 ⟨gd, cd, rfl, hd6, hg6, hb6⟩
            have hR6 := HL6.out.1.lift hb6
            have hB6 := HL6.out.2.trans (hb6.mono HL6.out.2.size)
            have hti := rtimes_any ((H + W) % polyP) R (Nat.lt_trans (Nat.mod_lt _ (by decide)) (show polyP < 1024 ^ 13 by decide)) HR.out gd gr cd cr w6 hd6 hR6
            rw [HTI.out H, ← HST.out] at hti
            have HL7 : Hid (IntsN w6 gr 13 (digL R 13) ∧ Below w.heap.size w w6) := ⟨hR6, hB6⟩
            clear hred hd6 hg6 hb6 hR6 hB6 HL6
            go_wp2_with fail
            refine hti.mono ?_
            rintro ee w7 ⟨g7, c7, rfl, hd7, hg7, hb7⟩
            have HL8 : Hid (IntsN w7 g7 13 (digL H' 13) ∧ IntsN w7 gr 13 (digL R 13) ∧ Below w.heap.size w w7) := ⟨hd7, HL7.out.1.lift hb7, HL7.out.2.trans (hb7.mono HL7.out.2.size)⟩
            clear hti hd7 hg7 hb7 HL7
            go_wp2
            go_roundw
            case rel => exact ⟨k + 1, z, g7, c7, by rw [HZE.out, HK.out]; omega, by have := HZE.out; have := HZ.out; omega, rfl, rfl, by rw [HSN.out]; exact HL8.out.1, HL8.out.2⟩
            case measure => have := HZE.out; have := HZ.out; simp [intOf]; omega
    · have HN : Hid (polyH R l k = polyN R l) := by
        show _ = _
        rw [polyN, HLL.out, show (s.size + 15) / 16 = k by omega]
      have hN : IntsN wr gh 13 (digL (polyN R l) 13) := by rw [← HN.out]; exact hH
      have HNL : Hid (polyN R l < 1024 ^ 13) := Nat.lt_trans (polyN_lt R l) (show polyP < 1024 ^ 13 by decide)
      generalize polyN R l = N at *
      have HL : Hid (IntsN wr gh 13 (digL N 13) ∧ Below w.heap.size w wr) := ⟨hN, hb⟩
      have hlt' : ¬ (a : Int) < s.size := by omega
      clear HN hN hH hR hb HPL HPC HLL HR HCM4 hm4 hak has
      go_wp2_with fail
      refine (hds _).mono ?_
      rintro ee w3 ⟨gs, cs, rfl, hOs, hb3⟩
      have hIs : IntsN w3 gs 13 (digL S 13) := IntsN.of hOs (digL_length S 13)
      have hIh := HL.out.1.lift hb3
      have hB3 := HL.out.2.trans (hb3.mono HL.out.2.size)
      have HB3 : Hid (Below w.heap.size w w3) := hB3
      have HDG : Hid (∀ i, i < 13 → (carryC (lastF N S) i + lastF N S i) % 1024 = (N + S) / 1024 ^ i % 1024) := fun i h => last_dig N S i h HNL.out HSL.out
      have HCL : Hid (∀ i, carryC (lastF N S) i < 2) := last_carry N S
      have HCN : Hid (∀ i, carryC (lastF N S) (i + 1) = (carryC (lastF N S) i + lastF N S i) / 1024) := fun _ => rfl
      have HC0 : Hid (carryC (lastF N S) 0 = 0) := rfl
      have HLF : Hid (∀ i, lastF N S i = (digL N 13).getD i 0 + (digL S 13).getD i 0) := fun _ => rfl
      generalize lastF N S = f at *
      generalize N + S = V at *
      have HI : Hid (IntsN w3 gh 13 (digL N 13) ∧ IntsN w3 gs 13 (digL S 13)) := ⟨hIh, hIs⟩
      clear hOs hIs hIh hB3 hb3 HL hds
      go_wp2_with fail
      generalize wr = wr0 at *
      go_loopw [14, 15, 16] (fun c v iv wq => ∃ i : Nat, i ≤ 13 ∧ c = .int .i64 (carryC f i : Nat) ∧ iv = .int .i64 i ∧ wq.ownsRow w3.heap.size 3 1 v (10 * i) (intV (bitL V (10 * i))) ∧ Below w3.heap.size w3 wq) (fun _ _ iv _ => 13 - (intOf iv).toNat)
      case atStart => exact ⟨0, Nat.zero_le _, by rw [HC0.out]; rfl, rfl, World.ownsRow_nil _ _ _ _, Below.refl _ _⟩
      case round =>
        obtain ⟨i, hi13, rfl, rfl, hown, hb⟩ := hrel
        by_cases h13 : i < 13
        · have i13 : (i : Int) < 13 := by omega
          have iN := HI.out.1.lift hb
          have iS := HI.out.2.lift hb
          have cN := iN.cells i h13
          have cS := iS.cells i h13
          have nl := dig13_lt N i
          have sl := dig13_lt S i
          have cl := HCL.out i
          have HDI : Hid ((carryC f i + f i) % 1024 = V / 1024 ^ i % 1024) := HDG.out i h13
          have HCI : Hid (carryC f (i + 1) = (carryC f i + f i) / 1024) := HCN.out i
          have HFI : Hid (f i = (digL N 13).getD i 0 + (digL S 13).getD i 0) := HLF.out i
          have HO : Hid (∀ n, (wr.drewN n).ownsRow w3.heap.size 3 1 u15 (10 * i) (intV (bitL V (10 * i))) ∧ Below w3.heap.size w3 (wr.drewN n)) := fun n => ⟨hown, below_drewN hb n⟩
          clear hown hb iN iS
          rw [HFI.out] at HDI HCI
          generalize carryC f i = c at *
          generalize (digL N 13).getD i 0 = x at *
          generalize (digL S 13).getD i 0 = y at *
          clear HFI
          rw [← Nat.add_assoc] at HDI HCI
          obtain ⟨q, hq⟩ : ∃ q, q = c + x + y := ⟨_, rfl⟩
          rw [← hq] at HDI HCI
          have w1' : IntKind.i64.wrap ((c : Int) + (x : Int)) = (c : Int) + x := by rw [IntKind.wrap_i64]; omega
          have w2' : IntKind.i64.wrap ((c : Int) + (x : Int) + (y : Int)) = (q : Int) := by rw [IntKind.wrap_i64]; omega
          have ql : q < 4096 := by omega
          clear hq nl sl cl
          go_wp2_with fail
          go_quiet (fail)
          go_wp2_with fail
          generalize wr = wr1 at *
          go_loopw [15, 17] (fun v jv wq => ∃ j : Nat, j ≤ 10 ∧ jv = .int .i64 j ∧ wq.ownsRow w3.heap.size 3 1 v (10 * i + j) (intV (bitL V (10 * i + j))) ∧ Below w3.heap.size w3 wq) (fun _ jv _ => 10 - (intOf jv).toNat)
          case atStart => exact ⟨0, Nat.zero_le _, rfl, HO.out _⟩
          case round =>
            clear HO
            obtain ⟨j, hj10, rfl, hown, hb⟩ := hrel
            by_cases h10 : j < 10
            · have j10 : (j : Int) < 10 := by omega
              have HBS : Hid (intV (bitL V (10 * i + (j + 1))) = intV (bitL V (10 * i + j)) ++ [.int .i64 ((q % 1024 / 2 ^ j % 2 : Nat) : Int)]) := by
                show _ = _
                rw [show 10 * i + (j + 1) = 10 * i + j + 1 by omega, bitL_snoc, HDI.out, bit_dig V i j h10]
              obtain ⟨d, hd⟩ : ∃ d, d = q % 1024 := ⟨_, rfl⟩
              rw [← hd] at HBS
              have hdl : d < 1024 := by omega
              have a1 : (q : Int) % 1024 = (d : Int) := by omega
              have a2 : (q : Int).tmod 1024 = (d : Int) := by rw [Int.tmod_eq_emod_of_nonneg (by omega)]; exact a1
              have ha := and_one10 d j hdl
              generalize d / 2 ^ j % 2 = b at *
              have k4 : ¬ (j : Int) < 0 := by omega
              have k5 : (0 : Int) ≤ j := by omega
              obtain ⟨n, hn⟩ : ∃ n, 10 * i + j = n := ⟨_, rfl⟩
              have hnl : n < 1000 := by omega
              have HNN : Hid (10 * i + (j + 1) = n + 1) := by show _ = _; omega
              rw [HNN.out] at HBS
              rw [hn] at hown HBS
              have HNE : Hid (∀ g', u15.ownBlock = some g' → w3.heap.size ≤ g') := fun g' hg' => (hown.lt g' hg').1
              have HOO : Hid (wr.ownsRow w3.heap.size 3 1 u15 n (intV (bitL V n)) ∧ Below w3.heap.size w3 wr) := ⟨hown, hb⟩
              clear hd hn hown hb
              go_wp2_with (at_builtin; refine wpList_append_lies _ rfl _ _ 92 rfl w3.heap.size 3 i0 (.int .i64 0) 1 8 Tryz.underlying92 hi hz0 hz1 hz2 rfl (by decide) u15 n (intV (bitL V n)) rfl (HOO.out.1.alloc _) ⟨_, 0, none⟩ 1 1 [.int .i64 (b : Nat)] rfl rfl (World.news_of_block (heap_alloc_new _ _)) ?c2 (by decide) ?c3 ?c4 ?c5 _ rfl ?_)
              case c2 => first | rfl | (intro u hu; rw [List.mem_singleton] at hu; rw [hu]; rfl)
              case c3 => unfold maxLen; omega
              case c4 => omega
              case c5 => have := HOO.out.2.size; simp; omega
              intro g1 cap1 w8 hown1 hgrow1 hat1 hlt1
              have hb2 := (HOO.out.2.alloc HOO.out.2.size _).grown hgrow1 (by have := HOO.out.2.size; simp; omega) (fun g hg => HNE.out g hg)
              have hown2 := HBS.out ▸ hown1
              have HF : Hid (_ ∧ _) := ⟨hown2, hb2⟩
              clear hown1 hown2 hgrow1 hat1 hlt1 hb2 HNE HOO
              go_wp2
              go_roundw
              case rel => exact ⟨j + 1, by omega, by go_num, by rw [HNN.out]; exact HF.out.1, HF.out.2⟩
              case measure => simp [intOf]; omega
            · obtain rfl : j = 10 := by omega
              obtain ⟨d, hd⟩ : ∃ d, d = q / 1024 := ⟨_, rfl⟩
              have s4 : (q : Int) / 1024 = (d : Int) := by omega
              have s5 : (q : Int).tdiv 1024 = (d : Int) := by rw [Int.tdiv_eq_ediv_of_nonneg (by omega)]; exact s4
              have HD : Hid (carryC f (i + 1) = d) := by show _ = _; rw [HCI.out, hd]
              have HF : Hid (wr.ownsRow w3.heap.size 3 1 u15 (10 * (i + 1)) (intV (bitL V (10 * (i + 1)))) ∧ Below w3.heap.size w3 wr) := ⟨hown, hb⟩
              clear hown hb hd
              go_wp2
              go_roundw
              case rel => exact ⟨i + 1, by omega, by rw [HD.out], by go_num, HF.out⟩
              case measure => simp [intOf]; omega
        · obtain rfl : i = 13 := by omega
          obtain ⟨gb, cb, rfl, hCb⟩ := OwnC.of hown (by decide)
          have hIb : IntsN wr gb 130 (bitL V 130) := IntsN.of hCb (bitL_length V 130)
          have hTT : Below w.heap.size w wr := HB3.out.trans (hb.mono HB3.out.size)
          have HBT : Hid (∀ t, t < 130 → wr.cell? ⟨gb, t, none⟩ = some (.int .i64 ((V / 2 ^ t % 2 : Nat) : Int))) := fun t ht => by rw [hIb.cells t ht, bitL_at V 130 t ht]
          have HGB : Hid (gb < wr.heap.size ∧ Below w.heap.size w wr) := ⟨hIb.lt, hTT⟩
          generalize carryC f 13 = c at *
          generalize hwo : wr = w4 at *
          clear hIb hTT hCb hown hb HI HDG HCL HCN HC0 HLF HNL HSL HB3 hwo
          go_wp2_with fail
          go_loopw [18, 19] (fun v iv wq => ∃ i : Nat, i ≤ 16 ∧ iv = .int .i64 i ∧ wq.ownsRow w4.heap.size 5 1 v i (byV (leB i V)) ∧ Below w4.heap.size w4 wq) (fun _ iv _ => 16 - (intOf iv).toNat)
          case atStart => exact ⟨0, Nat.zero_le _, rfl, World.ownsRow_nil _ _ _ _, Below.refl _ _⟩
          case round =>
            obtain ⟨i, hi16, rfl, hown, hb⟩ := hrel
            by_cases h16 : i < 16
            · have i16 : (i : Int) < 16 := by omega
              have HBQ : Hid (∀ t, t < 130 → wr.cell? ⟨gb, t, none⟩ = some (.int .i64 ((V / 2 ^ t % 2 : Nat) : Int))) := fun t ht => (hb.cell (p := ⟨gb, t, none⟩) HGB.out.1).trans (HBT.out t ht)
              have HO : Hid (wr.ownsRow w4.heap.size 5 1 u18 i (byV (leB i V)) ∧ Below w4.heap.size w4 wr) := ⟨hown, hb⟩
              clear hown hb
              generalize hwo : wr = wo at *
              clear hwo
              go_wp2_with fail
              go_loopw [20, 21] (fun d jv wz => ∃ J : Nat, J ≤ 8 ∧ jv = .int .i64 ((J : Int) - 1) ∧ d = .int .i64 ((V / 2 ^ (8 * i + J) % 2 ^ (8 - J) : Nat) : Int) ∧ wz = wo) (fun _ jv _ => (intOf jv + 1).toNat)
              case atStart => exact ⟨8, Nat.le_refl _, rfl, by simp [Nat.mod_one], rfl⟩
              case round =>
                obtain ⟨J, hJ, rfl, rfl, rfl⟩ := hrel
                cases J with
                | zero =>
                  rw [show ((0 : Nat) : Int) - 1 = -1 from rfl, show 8 * i + 0 = 8 * i from rfl, show 2 ^ (8 - 0) = 256 from rfl]
                  have HD : Hid (byV (leB (i + 1) V) = byV (leB i V) ++ [.int .u8 ((V / 2 ^ (8 * i) % 256 : Nat) : Int)]) := leB_snoc i V
                  have hdl : V / 2 ^ (8 * i) % 256 < 256 := Nat.mod_lt _ (by decide)
                  generalize V / 2 ^ (8 * i) % 256 = d at *
                  have f0 : IntKind.u8.wrap (d : Int) = (d : Int) := by rw [IntKind.wrap_u8]; omega
                  have hown := HO.out.1
                  have hb := HO.out.2
                  have HNE : Hid (∀ g', u18.ownBlock = some g' → w4.heap.size ≤ g') := fun g' hg' => (hown.lt g' hg').1
                  clear HO HBQ
                  go_wp2_with (at_builtin; refine wpList_append_lies _ rfl _ _ 143 rfl w4.heap.size 5 i1 (.int .u8 0) 1 1 Tryz.underlying143 hj hy0 hy1 hy2 rfl (by decide) u18 i (byV (leB i V)) rfl (hown.alloc _) ⟨_, 0, none⟩ 1 1 [.int .u8 (d : Nat)] rfl rfl (World.news_of_block (heap_alloc_new _ _)) ?c2 (by decide) ?c3 ?c4 ?c5 _ rfl ?_)
                  case c2 => first | rfl | (intro u hu; rw [List.mem_singleton] at hu; rw [hu]; rfl)
                  case c3 => unfold maxLen; omega
                  case c4 => omega
                  case c5 => have := hb.size; simp; omega
                  intro g1 cap1 w8 hown1 hgrow1 hat1 hlt1
                  have hb2 := (hb.alloc hb.size _).grown hgrow1 (by have := hb.size; simp; omega) (fun g hg => HNE.out g hg)
                  have hown2 := HD.out ▸ hown1
                  have HF : Hid (_ ∧ _) := ⟨hown2, hb2⟩
                  clear hown1 hown2 hgrow1 hat1 hlt1 hb2 hown hb HNE
                  go_wp2
                  go_roundw
                  case rel =>
                    repeat apply Exists.intro
                    refine ⟨?hrel, rfl⟩
                    exact ⟨i + 1, by omega, by go_num, HF.out.1, HF.out.2⟩
                  case measure => simp [intOf]; omega
                | succ J =>
                  rw [show (((J + 1 : Nat) : Int) - 1) = (J : Int) by omega]
                  have HST := dig_step V (8 * i + J) (7 - J)
                  rw [show 7 - J + 1 = 8 - J by omega] at HST
                  have hdl : V / 2 ^ (8 * i + J + 1) % 2 ^ (7 - J) < 256 := Nat.lt_of_lt_of_le (Nat.mod_lt _ (Nat.pow_pos (by decide))) (Nat.le_trans (Nat.pow_le_pow_right (by decide) (show 7 - J ≤ 8 by omega)) (by decide))
                  rw [show 8 * i + (J + 1) = 8 * i + J + 1 by omega, show 8 - (J + 1) = 7 - J by omega]
                  have hcb := HBQ.out (8 * i + J) (by omega)
                  have hd2 : V / 2 ^ (8 * i + J) % 2 < 2 := Nat.mod_lt _ (by decide)
                  have HS : Hid _ := HST
                  clear HST
                  generalize V / 2 ^ (8 * i + J + 1) % 2 ^ (7 - J) = d at *
                  generalize V / 2 ^ (8 * i + J) % 2 = x at *
                  have e1 : IntKind.i64.wrap (8 * (i : Int)) = 8 * i := by rw [IntKind.wrap_i64]; omega
                  obtain ⟨t, ht⟩ : ∃ t, t = 8 * i + J := ⟨_, rfl⟩
                  have e2 : IntKind.i64.wrap (8 * (i : Int) + (J : Int)) = (t : Int) := by rw [IntKind.wrap_i64]; omega
                  have e3 : IntKind.i64.wrap (2 * (d : Int)) = 2 * d := by rw [IntKind.wrap_i64]; omega
                  have e4 : IntKind.i64.wrap (2 * (d : Int) + (x : Int)) = ((2 * d + x : Nat) : Int) := by rw [IntKind.wrap_i64]; omega
                  rw [← ht] at HS hcb
                  have t130 : (t : Int) < 130 := by omega
                  have HT : Hid (t = 8 * i + J) := ht
                  clear ht
                  go_wp2
                  go_roundw
                  case rel => exact ⟨J, by omega, rfl, congrArg (Value.int .i64) (by rw [← HT.out, ← HS.out]; omega), trivial⟩
                  case measure => simp [intOf]
            · obtain rfl : i = 16 := by omega
              obtain ⟨g, cap, rfl, _, _⟩ := hown.form (by decide)
              have hcv := run_convert_bytes_arg (P := Tryz.prog) wr 143 5 Tryz.underlying143 Tryz.underlying5 g 0 16 cap ((leB 16 V).map fun (x : Nat) => (x : Int)) (by simp [leB_length]) (fun i hi => by
                rw [Nat.zero_add, hown.cellAt i (by omega), byV_get _ _ (by rw [leB_length]; exact hi), getD_at _ _ (by rw [leB_length]; exact hi)]
                simp [List.getD, leB_length, hi]) 9 Tryz.underlying9
              rw [show strOfNums ((leB 16 V).map fun (x : Nat) => (x : Int)) = strN (leB 16 V) from rfl, ← HX.out] at hcv
              have HF : Hid (Below w.heap.size w wr) := HGB.out.2.trans (hb.mono HGB.out.2.size)
              clear hown hb
              go_wp2
              go_ret2
              exact ⟨rfl, HF.out⟩

set_option maxRecDepth 10000 in
set_option maxHeartbeats 1000000 in
theorem rTag_bad (key s : ByteArray) (hk : key.size ≠ 32) (w : World) :
    Calls Tryz.prog 190 #[.string key, .string s] w fun e w' => e = .returned (.tuple #[.string ⟨#[]⟩, .int .i64 1]) ∧ w' = w := by
  have h1 : ((key.size : Int) != 32) = true := by simp; omega
  go_enter Tryz.func190, Tryz.ntmps190
  go_wp2
  go_ret2
  exact ⟨rfl, rfl⟩

theorem rTag_any (key s : ByteArray) (hs : s.size < 1099511627776) (w : World) :
    Calls Tryz.prog 190 #[.string key, .string s] w fun e w' => e = .returned (.tuple #[.string (tagS key s), .int .i64 (tagE key : Nat)]) ∧ Below w.heap.size w w' := by
  unfold tagS tagE
  by_cases h : key.size = 32
  · rw [if_pos h, if_pos h]
    exact rTag_ok key s h hs w
  · rw [if_neg h, if_neg h]
    refine (rTag_bad key s h w).mono ?_
    rintro e w' ⟨rfl, rfl⟩
    exact ⟨rfl, Below.refl _ _⟩
end Go.Proofs.YtoopaigpjefonaaGreatDoor.Bx

namespace Go.Proofs.YtoopaigpjefonaaGreatDoor.Bx
set_option maxRecDepth 20000
open Go.RowKit

theorem rlow_any (n : Nat) (h : n < 9223372036854775808) (w : World) :
    Calls Tryz.prog 199 #[.int .i64 n] w fun e w' => e = .returned (.int .i64 ((n % 4294967296 : Nat) : Int)) ∧ w' = w := by
  have hb : bits .and .i64 (n : Int) 4294967295 = ((n % 4294967296 : Nat) : Int) := by
    rw [show (4294967295 : Int) = ((4294967295 : Nat) : Int) from rfl, i64_and_nat n _ h (by decide), nat_mask32]
  go_enter Tryz.func199, Tryz.ntmps199
  go_wp2
  go_ret
  exact ⟨congrArg (fun z => Ending.returned (.int .i64 z)) (by first | rfl | exact hb), rfl⟩
theorem rlow_z (z : Int) (n : Nat) (hz : z = (n : Int)) (h : n < 9223372036854775808) (m : Nat) (hm : m = n % 4294967296) (w : World) :
    Calls Tryz.prog 199 #[.int .i64 z] w fun e w' => e = .returned (.int .i64 (m : Int)) ∧ w' = w := by
  subst hz hm
  exact rlow_any n h w
theorem left_bits (x n : Nat) (hx : x < 4294967296) (h2 : n ≤ 30) : bits .or .i64 (IntKind.i64.wrap ((x : Int) * 2 ^ n)) ((x : Int) / 2 ^ (32 - n)) = ((x * 2 ^ n ||| x / 2 ^ (32 - n) : Nat) : Int) ∧ (x * 2 ^ n ||| x / 2 ^ (32 - n)) < 9223372036854775808 := by
  have h3 : 2 ^ n ≤ 2 ^ 30 := Nat.pow_le_pow_right (by decide) h2
  have h4 : x * 2 ^ n ≤ x * 2 ^ 30 := Nat.mul_le_mul_left x h3
  have h5 : x * 2 ^ n < 4611686018427387904 := by omega
  have hd : x / 2 ^ (32 - n) ≤ x := Nat.div_le_self _ _
  have e1 : (x : Int) * 2 ^ n = ((x * 2 ^ n : Nat) : Int) := by rw [Int.natCast_mul, Int.natCast_pow]; rfl
  have e2 : (x : Int) / 2 ^ (32 - n) = ((x / 2 ^ (32 - n) : Nat) : Int) := by rw [Int.natCast_ediv, Int.natCast_pow]; rfl
  rw [e1, e2, wraps_i64 _ (Int.natCast_nonneg _) (by omega), i64_or_nat _ _ (by omega) (by omega)]
  exact ⟨rfl, Nat.or_lt_two_pow (n := 63) (by omega) (by omega)⟩

set_option maxHeartbeats 400000 in
theorem rleft_any (x n : Nat) (hx : x < 4294967296) (h1 : 1 ≤ n) (h2 : n ≤ 30) (w : World) :
    Calls Tryz.prog 211 #[.int .i64 x, .int .i64 n] w fun e w' => e = .returned (.int .i64 (rotl x n : Nat)) ∧ w' = w.drew := by
  obtain ⟨hb, hlt⟩ := left_bits x n hx h2
  have e1 : IntKind.i64.wrap (32 - (n : Int)) = ((32 - n : Nat) : Int) := by rw [IntKind.wrap_i64]; omega
  have e2 : ¬ (n : Int) < 0 := by omega
  have e3 : ¬ ((32 - n : Nat) : Int) < 0 := by omega
  have e4 : (0 : Int) ≤ ((32 - n : Nat) : Int) := by omega
  have e5 : (0 : Int) ≤ (n : Int) := by omega
  have hc := fun w => rlow_z _ _ hb hlt (rotl x n) rfl w
  clear hb hlt
  go_enter Tryz.func211, Tryz.ntmps211
  go_wp2_with fail
  go_region_held3 (fun _ => True) (simp [go_sem, *]) (first | (go_at_call 199; refine (hc _).mono ?_; rintro e w1 ⟨rfl, rfl⟩))
  go_wp2
  go_ret
  exact ⟨rfl, rfl⟩

set_option maxHeartbeats 1000000 in
theorem rword_any (s : ByteArray) (p : Nat) (hp : p + 4 ≤ s.size) (hs : s.size ≤ 1048576) (w : World) :
    Calls Tryz.prog 197 #[.string s, .int .i64 p] w fun e w' => e = .returned (.int .i64 (wordL (numsOf s) p : Nat)) ∧ ∃ n, w' = w.drewN n := by
  have p0 : p < s.size := by omega
  have p1 : p + 1 < s.size := by omega
  have p2 : p + 2 < s.size := by omega
  have p3 : p + 3 < s.size := by omega
  have b0 := s[p].toNat_lt
  have b1 := s[p + 1].toNat_lt
  have b2 := s[p + 2].toNat_lt
  have b3 := s[p + 3].toNat_lt
  have HE : Hid (((wordL (numsOf s) p : Nat) : Int) = (s[p].toNat : Int) + s[p + 1].toNat * 256 + s[p + 2].toNat * 65536 + s[p + 3].toNat * 16777216) := by
    show _ = _
    unfold wordL
    rw [nums_at s p p0, nums_at s (p + 1) p1, nums_at s (p + 2) p2, nums_at s (p + 3) p3]
    omega
  have i0 : (p : Int) < s.size := by omega
  have i1 : (p : Int) + 1 < s.size := by omega
  have i2 : (p : Int) + 2 < s.size := by omega
  have i3 : (p : Int) + 3 < s.size := by omega
  have t1 : ((p : Int) + 1).toNat = p + 1 := by omega
  have t2 : ((p : Int) + 2).toNat = p + 2 := by omega
  have t3 : ((p : Int) + 3).toNat = p + 3 := by omega
  have q1 : IntKind.i64.wrap ((p : Int) + 1) = p + 1 := by rw [IntKind.wrap_i64]; omega
  have q2 : IntKind.i64.wrap ((p : Int) + 2) = p + 2 := by rw [IntKind.wrap_i64]; omega
  have q3 : IntKind.i64.wrap ((p : Int) + 3) = p + 3 := by rw [IntKind.wrap_i64]; omega
  have r1 : (0 : Int) ≤ (p : Int) + 1 := by omega
  have r2 : (0 : Int) ≤ (p : Int) + 2 := by omega
  have r3 : (0 : Int) ≤ (p : Int) + 3 := by omega
  rw [HE.out]
  go_enter Tryz.func197, Tryz.ntmps197
  go_wp2_with fail
  go_quiet (fail)
  go_wp2
  go_ret
  exact ⟨rfl, _, rfl⟩
end Go.Proofs.YtoopaigpjefonaaGreatDoor.Bx
