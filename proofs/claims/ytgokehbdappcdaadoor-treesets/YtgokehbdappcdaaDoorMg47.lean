/- The document's Stretch. -/
import Derived.Test.YtgokehbdappcdaaDoorMg40
import Derived.Test.YtgokehbdappcdaaDoorMg46
namespace Go.Proofs.YtgokehbdappcdaaDoor.Sm
set_option maxRecDepth 20000
open Go.RowKit

/-- 32 bytes in block B, told by their cells. -/
def Cells32 (w : World) (B : Nat) (l : List Nat) : Prop := (∀ x, x < 32 → w.cell? ⟨B, x, none⟩ = some (.int .u8 (l.getD x 0 : Nat))) ∧ ∀ x, x < 32 → w.frozen? ⟨B, x, none⟩ = false
theorem Cells32.kept {w w' : World} {B : Nat} {l : List Nat} (h : Cells32 w B l) (hb : w'.heap[B]? = w.heap[B]?) : Cells32 w' B l :=
  ⟨fun x hx => (World.cell?_of_block (a := ⟨B, x, none⟩) hb).trans (h.1 x hx), fun x hx => (World.frozen?_of_block (a := ⟨B, x, none⟩) hb).trans (h.2 x hx)⟩
theorem getD_set (l : List Nat) (r v x : Nat) (hl : r < l.length) : (l.set r v).getD x 0 = if x = r then v else l.getD x 0 := by
  rw [List.getD_eq_getElem?_getD, List.getElem?_set]
  by_cases h : r = x
  · subst h; simp [hl]
  · rw [if_neg h, if_neg (fun e => h e.symm), List.getD_eq_getElem?_getD]
theorem Cells32.set {w : World} {B : Nat} {l : List Nat} (h : Cells32 w B l) (hl : l.length = 32) (r v : Nat) (hr : r < 32) : Cells32 (w.setCell ⟨B, r, none⟩ (.int .u8 (v : Nat))) B (l.set r v) := by
  refine ⟨fun x hx => ?_, fun x hx => by rw [World.frozen?_setCell]; exact h.2 x hx⟩
  rw [getD_set l r v x (by omega)]
  by_cases e : x = r
  · subst e
    rw [if_pos rfl]
    exact World.cell?_setCell_same w _ _ (h.1 x hx)
  · have hne : (⟨B, r, none⟩ : Addr) ≠ ⟨B, x, none⟩ := fun q => by injection q with _ q2 _; exact e q2.symm
    rw [if_neg e, World.cell?_setCell_other w _ _ _ hne]
    exact h.1 x hx
/-- The first r of two rows of numbers against each other, the rest of the first. -/
def xorP (a u : List Nat) (r : Nat) : List Nat := xorB (a.take r) (u.take r) ++ a.drop r
theorem xorP_length (a u : List Nat) (r : Nat) (ha : a.length = 32) (hu : u.length = 32) (hr : r ≤ 32) : (xorP a u r).length = 32 := by
  simp [xorP, xorB]; omega
theorem xorP_at (a u : List Nat) (r : Nat) (ha : a.length = 32) (hu : u.length = 32) (hr : r < 32) : (xorP a u r).getD r 0 = a.getD r 0 := by
  have h1 : (xorB (a.take r) (u.take r)).length = r := by simp [xorB]; omega
  rw [xorP, getD_right _ _ _ _ (by omega), h1, Nat.sub_self, List.getD_eq_getElem?_getD, List.getElem?_drop, Nat.add_zero, ← List.getD_eq_getElem?_getD]
theorem xorP_step (a u : List Nat) (r : Nat) (ha : a.length = 32) (hu : u.length = 32) (hr : r < 32) : (xorP a u r).set r (a.getD r 0 ^^^ u.getD r 0) = xorP a u (r + 1) := by
  have h1 : (xorB (a.take r) (u.take r)).length = r := by simp [xorB]; omega
  have e : a.drop r = a.getD r 0 :: a.drop (r + 1) := by rw [List.drop_eq_getElem_cons (by omega), getD_at _ _ (by omega)]
  have e2 : xorB (a.take (r + 1)) (u.take (r + 1)) = xorB (a.take r) (u.take r) ++ [a.getD r 0 ^^^ u.getD r 0] := by
    rw [List.take_succ_eq_append_getElem (by omega), List.take_succ_eq_append_getElem (by omega), xorB, xorB, List.zipWith_append (by simp; omega), getD_at _ _ (by omega), getD_at _ _ (by omega)]
    rfl
  rw [xorP, xorP, List.set_append_right _ _ (by omega), h1, Nat.sub_self, e, e2]
  simp

set_option maxRecDepth 10000 in
set_option maxHeartbeats 1000000 in
theorem rStretch_in (pass salt : ByteArray) (rounds n : Nat) (hr1 : 1 ≤ rounds) (hr2 : rounds ≤ 1000) (hn : n ≤ 1024) (hk : pass.size < 1099511627776) (hi : salt.size ≤ 1048576) (w : World) :
    Calls Tryd.prog 34 #[.string pass, .string salt, .int .i64 rounds, .int .i64 n] w fun e w' => e = .returned (.tuple #[.string (strS pass salt rounds n), .int .i64 0]) ∧ Below w.heap.size w w' := by
  have h1 : ¬ (n : Int) < 0 := by omega
  have h2 : ¬ (1024 : Int) < n := by omega
  have h3 : ¬ (rounds : Int) < 1 := by omega
  have h4 : ¬ (1000 : Int) < rounds := by omega
  obtain ⟨m, hm⟩ : ∃ m, m = (n + 31) / 32 := ⟨_, rfl⟩
  have hm1 : m ≤ 32 := by omega
  have hmn : n ≤ 32 * m := by omega
  have hnm : 32 * m ≤ n + 31 := by omega
  obtain ⟨D, hD⟩ : ∃ D : Nat → List Nat, D = fun i => strB (keyP (numsOf pass)) (numsOf salt) rounds (i + 1) := ⟨_, rfl⟩
  have hDl : ∀ i, (D i).length = 32 := fun i => by rw [hD]; exact strB_length _ _ _ _
  have hDb : ∀ i, Bytes (D i) := fun i => by rw [hD]; exact strB_bytes _ _ _ _
  obtain ⟨O, hO⟩ : ∃ O : Nat → ByteArray, O = fun j => strOfNums ((catD D j).map fun (x : Nat) => (x : Int)) := ⟨_, rfl⟩
  have hOs : ∀ j, (O j).size = 32 * j := fun j => by
    rw [hO, ← numsOf_length]
    show (numsOf (strOfNums _)).length = _
    have hb : Bytes (catD D j) := by
      induction j with
      | zero => intro x hx; simp [catD] at hx
      | succ j ih => rw [catD]; exact ih.append (hDb j)
    rw [numsOf_str _ hb, catD_length _ hDl]
  have hO1 : ∀ j, O j ++ strOfNums ((D j).map fun (x : Nat) => (x : Int)) = O (j + 1) := fun j => by rw [hO]; exact strOf_append _ _
  have HX : Hid ((O m).extract 0 n = strS pass salt rounds n ∧ O 0 = ByteArray.empty) := ⟨by
    rw [hO, hD, hm]; exact strOf_take _ n, by rw [hO]; rfl⟩
  have HU : Hid ((∀ j, O j ++ strOfNums ((D j).map fun (x : Nat) => (x : Int)) = O (j + 1)) ∧ (∀ j, (O j).size = 32 * j) ∧ (∀ j, D j = aL (keyP (numsOf pass)) (macL (keyP (numsOf pass)) (numsOf salt ++ be4 (j + 1))) (rounds - 1))) := ⟨hO1, hOs, fun j => by rw [hD]; rfl⟩
  clear hD hO hO1 hOs hm hDl hDb
  go_enter Tryd.func34, Tryd.ntmps34
  go_wp2_with fail
  go_loopw [10, 11] (fun out i wr => ∃ j : Nat, j ≤ m ∧ i = .int .i64 ((j : Int) + 1) ∧ out = .string (O j) ∧ Below w.heap.size w wr) (fun _ i _ => m + 1 - (intOf i).toNat)
  case atStart => exact ⟨0, Nat.zero_le _, rfl, by rw [HX.out.2]; rfl, Below.refl _ _⟩
  case round =>
    obtain ⟨j, hj, rfl, rfl, hb⟩ := hrel
    have hsj := HU.out.2.1 j
    by_cases hlt : j < m
    · obtain ⟨Oj, hOj⟩ : ∃ Oj, Oj = O j := ⟨_, rfl⟩
      rw [← hOj] at hsj
      rw [← hOj]
      have hjn : ((Oj.size : Nat) : Int) < n := by omega
      have HJ : Hid (Oj = O j ∧ Oj.size = 32 * j) := ⟨hOj, hsj⟩
      clear hOj hsj
      have d0 : ((j : Int) + 1) / 256 = 0 := by omega
      have d1 : bits .and .i64 ((j : Int) + 1) 255 = (j : Int) + 1 := by
        rw [show ((j : Int) + 1) = ((j + 1 : Nat) : Int) by omega, show (255 : Int) = ((255 : Nat) : Int) from rfl, i64_and_nat _ _ (by omega) (by decide), mask8]; omega
      have d2 : ((j : Int) + 1) % 256 = (j : Int) + 1 := by omega
      have hcv := run_convert_bytes_arg (P := Tryd.prog) (wr.alloc (.cells #[.int .u8 0, .int .u8 0, .int .u8 0, .int .u8 ((j : Int) + 1)] 5)) 107 5 Tryd.underlying107 Tryd.underlying5 wr.heap.size 0 4 4 [0, 0, 0, (j : Int) + 1] rfl (fun i hi => by
        rw [cell_of_row _ _ _ _ _ _ (heap_alloc_new wr _), Nat.zero_add]
        match i, hi with
        | 0, _ => rfl
        | 1, _ => rfl
        | 2, _ => rfl
        | 3, _ => rfl) 9 Tryd.underlying9
      obtain ⟨nb, hnb⟩ : ∃ nb, nb = strOfNums [0, 0, 0, (j : Int) + 1] := ⟨_, rfl⟩
      rw [← hnb] at hcv
      have hbe : be4 (j + 1) = [0, 0, 0, j + 1] := by
        have h1 : (j + 1) / 16777216 % 256 = 0 := by omega
        have h2 : (j + 1) / 65536 % 256 = 0 := by omega
        have h3 : (j + 1) / 256 % 256 = 0 := by omega
        have h4 : (j + 1) % 256 = j + 1 := by omega
        rw [be4, h1, h2, h3, h4]
      have hbn : numsOf nb = be4 (j + 1) := by
        rw [hnb, hbe]
        exact numsOf_str [0, 0, 0, j + 1] (fun x hx => by simp only [List.mem_cons, List.not_mem_nil, or_false] at hx; omega)
      have hnbs : nb.size = 4 := by rw [← numsOf_length, hbn]; rfl
      obtain ⟨q1, hq1⟩ : ∃ q1, q1 = salt ++ nb := ⟨_, rfl⟩
      have hadd1 : ∀ w', (Op.stringOp .add salt nb).run Tryd.prog w' = .ok (.string q1) w' := fun w' => by rw [hq1]; exact run_string_add_sum (P := Tryd.prog) (w := w') salt nb (by omega)
      have hq1s : q1.size ≤ 1048580 := by rw [hq1, ByteArray.size_append]; omega
      obtain ⟨K, hK⟩ : ∃ K, K = keyP (numsOf pass) := ⟨_, rfl⟩
      obtain ⟨D0, hD0⟩ : ∃ D0, D0 = macL K (numsOf salt ++ be4 (j + 1)) := ⟨_, rfl⟩
      have hDl : D0.length = 32 := by rw [hD0]; exact macL_length _ _
      have hDb : Bytes D0 := by rw [hD0]; exact macL_bytes _ _
      have HMac : Hid (macS pass q1 = strOfNums (D0.map fun (x : Nat) => (x : Int)) ∧ (∀ t : ByteArray, macS pass t = strOfNums ((macL K (numsOf t)).map fun (x : Nat) => (x : Int))) ∧ D j = aL K D0 (rounds - 1)) := ⟨by
        rw [macS, hD0, hK, hq1, numsOf_append, hbn], fun t => by rw [macS, hK], by rw [HU.out.2.2 j, hD0, hK]⟩
      have hb1 := hb.alloc hb.size (.cells #[.int .u8 0, .int .u8 0, .int .u8 0, .int .u8 ((j : Int) + 1)] 5)
      clear hnb hbn hbe hq1 hb hK hD0
      go_wp2_with fail
      first
        | (rw [hcv]; go_wp2_with fail)
        | skip
      refine (rMac_any pass q1 hk (by omega) _).mono ?_
      rintro e w2 ⟨rfl, hb2⟩
      rw [HMac.out.1]
      have hb2' := hb1.trans (hb2.mono hb1.size)
      clear hb1 hb2 hcv hadd1
      obtain ⟨u0, hu0⟩ : ∃ u0, u0 = strOfNums (D0.map fun (x : Nat) => (x : Int)) := ⟨_, rfl⟩
      have hu0n : numsOf u0 = D0 := by rw [hu0]; exact numsOf_str _ hDb
      have hu0s : u0.size = 32 := by rw [← numsOf_length, hu0n, hDl]
      rw [← hu0]
      have hcv2 := fun w' => Lib.run_convert_string_bytes (P := Tryd.prog) w' 9 107 5 u0 Tryd.underlying9 Tryd.underlying107 Tryd.underlying5
      rw [hu0s] at hcv2
      have hO := bytesWorld_own w2 5 u0 (by rw [hu0s]; unfold maxLen; decide)
      rw [numsV, hu0n] at hO
      have hge := grownCap_ge w2 u0.size 0 5
      rw [hu0s] at hge hO
      have hB3 := bytesWorld_below w2 5 u0
      have hT3 : Cells32 (Lib.bytesWorld w2 5 u0) w2.heap.size D0 := ⟨fun x hx => hO.cells x _ (byV_get D0 x (by omega)), fun x hx => hO.free x (by omega)⟩
      have hlt3 := hO.lt
      obtain ⟨cp, hcp⟩ : ∃ cp, cp = grownCap w2 32 0 5 := ⟨_, rfl⟩
      have hcv3 := hcv2 w2
      rw [← hcp] at hcv3 hge
      obtain ⟨w3, hw3⟩ : ∃ w3, Lib.bytesWorld w2 5 u0 = w3 := ⟨_, rfl⟩
      rw [hw3] at hcv3 hB3 hT3 hlt3
      have hb3 := hb2'.trans (hB3.mono hb2'.size)
      have hTB : w.heap.size ≤ w2.heap.size := hb2'.size
      have H3 : Hid (Cells32 w3 w2.heap.size D0 ∧ Below w.heap.size w w3 ∧ u0 = strOfNums (D0.map fun (x : Nat) => (x : Int)) ∧ w2.heap.size < w3.heap.size) := ⟨hT3, hb3, hu0, hlt3⟩
      clear hcv2 hO hB3 hT3 hlt3 hcp hw3 hb2' hb3 hu0 hu0n
      go_wp2_with fail
      first
        | (rw [hcv3]; go_wp2_with fail)
        | skip
      go_loopw [12, 14] (fun u c wz => ∃ q : Nat, 1 ≤ q ∧ q ≤ rounds ∧ c = .int .i64 q ∧ u = .string (strOfNums ((uL K D0 (q - 1)).map fun (x : Nat) => (x : Int))) ∧ Cells32 wz w2.heap.size (aL K D0 (q - 1)) ∧ Below w.heap.size w wz ∧ w2.heap.size < wz.heap.size) (fun _ c _ => rounds - (intOf c).toNat)
      case atStart => exact ⟨1, Nat.le_refl _, hr1, rfl, by rw [H3.out.2.2.1]; rfl, H3.out.1, H3.out.2.1, H3.out.2.2.2⟩
      case round =>
        clear H3
        obtain ⟨q, hq1, hq2, rfl, rfl, hT, hbz, hltz⟩ := hrel
        by_cases hqr : q < rounds
        · have hqr' : (q : Int) < rounds := by omega
          have hul := uL_length K hDl (q - 1)
          have hub := uL_bytes K hDb (q - 1)
          have hal := aL_length K hDl (q - 1)
          have hab := aL_bytes K hDb (q - 1)
          have HN : Hid (uL K D0 (q + 1 - 1) = macL K (uL K D0 (q - 1)) ∧ aL K D0 (q + 1 - 1) = xorB (aL K D0 (q - 1)) (macL K (uL K D0 (q - 1)))) := by
            obtain ⟨q', rfl⟩ : ∃ q', q = q' + 1 := ⟨q - 1, by omega⟩
            exact ⟨rfl, rfl⟩
          generalize uL K D0 (q - 1) = uj at *
          generalize aL K D0 (q - 1) = aj at *
          obtain ⟨su, hsu⟩ : ∃ su, su = strOfNums (uj.map fun (x : Nat) => (x : Int)) := ⟨_, rfl⟩
          have hsn : numsOf su = uj := by rw [hsu]; exact numsOf_str _ hub
          have hss : su.size = 32 := by rw [← numsOf_length, hsn, hul]
          rw [← hsu]
          have H5 : Hid (Cells32 wr w2.heap.size aj ∧ Below w.heap.size w wr ∧ w2.heap.size < wr.heap.size ∧ numsOf su = uj) := ⟨hT, hbz, hltz, hsn⟩
          clear hT hbz hltz hsu hsn
          go_wp2_with fail
          refine (rMac_any pass su hk (by omega) wr).mono ?_
          rintro e w5 ⟨rfl, hb5⟩
          rw [HMac.out.2.1 su, H5.out.2.2.2]
          obtain ⟨un, hun⟩ : ∃ un, un = macL K uj := ⟨_, rfl⟩
          have hunl : un.length = 32 := by rw [hun]; exact macL_length _ _
          have hunb : Bytes un := by rw [hun]; exact macL_bytes _ _
          rw [← hun]
          rw [← hun] at HN
          clear hun
          obtain ⟨sn, hsn⟩ : ∃ sn, sn = strOfNums (un.map fun (x : Nat) => (x : Int)) := ⟨_, rfl⟩
          have hsnn : numsOf sn = un := by rw [hsn]; exact numsOf_str _ hunb
          have hsns : sn.size = 32 := by rw [← numsOf_length, hsnn, hunl]
          rw [← hsn]
          have H6 : Hid (Cells32 w5 w2.heap.size aj ∧ Below w.heap.size w w5 ∧ w2.heap.size < w5.heap.size ∧ numsOf sn = un ∧ sn = strOfNums (un.map fun (x : Nat) => (x : Int))) := ⟨H5.out.1.kept (hb5.block _ H5.out.2.2.1), H5.out.2.1.trans (hb5.mono H5.out.2.1.size), Nat.lt_of_lt_of_le H5.out.2.2.1 hb5.size, hsnn, hsn⟩
          clear hsn hsnn hb5 H5
          go_wp2_with fail
          go_loopw [15] (fun c wz => ∃ r : Nat, r ≤ 32 ∧ c = .int .i64 r ∧ Cells32 wz w2.heap.size (xorP aj un r) ∧ Only w2.heap.size w5 wz) (fun c _ => 32 - (intOf c).toNat)
          case atStart => exact ⟨0, Nat.zero_le _, rfl, H6.out.1, Only.refl _ _⟩
          case round =>
            obtain ⟨r, hr, rfl, hz, ho⟩ := hrel
            by_cases hr32 : r < 32
            · obtain ⟨x, hx⟩ : ∃ x, x = aj.getD r 0 := ⟨_, rfl⟩
              obtain ⟨y, hy⟩ : ∃ y, y = un.getD r 0 := ⟨_, rfl⟩
              have lx : x < 256 := by rw [hx]; exact getD_lt (by decide) hab r
              have ly : y < 256 := by rw [hy]; exact getD_lt (by decide) hunb r
              have cx : wr.cell? ⟨w2.heap.size, r, none⟩ = some (.int .u8 (x : Nat)) := by
                have h1 := hz.1 r hr32
                rw [xorP_at aj un r hal hunl hr32, ← hx] at h1
                exact h1
              have fx : wr.frozen? ⟨w2.heap.size, r, none⟩ = false := hz.2 r hr32
              have hrs : r < sn.size := by omega
              have hyb : sn[r].toNat = y := by
                rw [hy, ← H6.out.2.2.2.1]
                have h2 : r < (numsOf sn).length := by rw [numsOf_length]; exact hrs
                rw [getD_at _ _ h2]
                simp [numsOf]
                rfl
              have bx : bits .xor .u8 (x : Int) (y : Int) = ((x ^^^ y : Nat) : Int) := u8_xor_nat x y lx ly
              obtain ⟨b1, hb1⟩ : ∃ b1, b1 = x ^^^ y := ⟨_, rfl⟩
              rw [← hb1] at bx
              have hz2 := hz.set (xorP_length aj un r hal hunl hr) r b1 hr32
              rw [hb1, hx, hy, xorP_step aj un r hal hunl hr32] at hz2
              rw [← hx, ← hy, ← hb1] at hz2
              have HZ : Hid (Cells32 (wr.setCell ⟨w2.heap.size, r, none⟩ (.int .u8 (b1 : Nat))) w2.heap.size (xorP aj un (r + 1)) ∧ Only w2.heap.size w5 (wr.setCell ⟨w2.heap.size, r, none⟩ (.int .u8 (b1 : Nat)))) := ⟨hz2, ho.setCell _ _⟩
              have r32 : (r : Int) < 32 := by omega
              have rss : (r : Int) < sn.size := by omega
              clear hz ho hz2 hb1 hx hy
              go_wp2_with fail
              go_region_with (fail)
              all_goals
                go_wp2
                go_roundw
                case rel => exact ⟨r + 1, by omega, by go_num, HZ.out.1, HZ.out.2.drew⟩
                case measure => simp [intOf]; omega
            · obtain rfl : r = 32 := by omega
              have HF : Hid (Cells32 wr w2.heap.size (aL K D0 (q + 1 - 1)) ∧ Below w.heap.size w wr ∧ w2.heap.size < wr.heap.size ∧ sn = strOfNums ((uL K D0 (q + 1 - 1)).map fun (x : Nat) => (x : Int))) := by
                refine ⟨?_, H6.out.2.1.trans ((ho.below (Nat.le_of_lt H6.out.2.2.1)).mono hTB), Nat.lt_of_lt_of_le H6.out.2.2.1 ho.size, by rw [HN.out.1]; exact H6.out.2.2.2.2⟩
                rw [HN.out.2]
                have h2 := hz
                rw [xorP, List.take_of_length_le (by omega), List.take_of_length_le (by omega), List.drop_eq_nil_of_le (by omega), List.append_nil] at h2
                exact h2
              clear hz ho
              go_wp2
              go_roundw
              case rel => exact ⟨q + 1, by omega, by omega, by go_num, by rw [HF.out.2.2.2], HF.out.1, HF.out.2.1, HF.out.2.2.1⟩
              case measure => simp [intOf]; omega
        · obtain rfl : q = rounds := by omega
          have hqr' : ¬ (q : Int) < q := by omega
          have hcv4 := run_convert_bytes_arg (P := Tryd.prog) wr 107 5 Tryd.underlying107 Tryd.underlying5 w2.heap.size 0 32 cp ((D j).map fun (x : Nat) => (x : Int)) (by rw [HMac.out.2.2, List.length_map]; exact aL_length K hDl _) (fun i hi => by
            rw [Nat.zero_add, hT.1 i hi, ← HMac.out.2.2]
            have h1 : i < (D j).length := by rw [HMac.out.2.2, aL_length K hDl]; exact hi
            rw [List.getD_eq_getElem?_getD, List.getD_eq_getElem?_getD, List.getElem?_map, List.getElem?_eq_getElem h1]; rfl) 9 Tryd.underlying9
          obtain ⟨sd, hsd⟩ : ∃ sd, sd = strOfNums ((D j).map fun (x : Nat) => (x : Int)) := ⟨_, rfl⟩
          rw [← hsd] at hcv4
          have hsds : sd.size = 32 := by
            rw [hsd, ← numsOf_length, numsOf_str _ (by rw [HMac.out.2.2]; exact aL_bytes K hDb _), HMac.out.2.2, aL_length K hDl]
          obtain ⟨On, hOn⟩ : ∃ On, On = O (j + 1) := ⟨_, rfl⟩
          have hadd3 : ∀ w', (Op.stringOp .add Oj sd).run Tryd.prog w' = .ok (.string On) w' := fun w' => by
            rw [hOn, ← HU.out.1 j, ← hsd, ← HJ.out.1]
            exact run_string_add_sum (P := Tryd.prog) (w := w') Oj sd (by omega)
          have HF : Hid (On = O (j + 1) ∧ Below w.heap.size w wr) := ⟨hOn, hbz⟩
          clear hT hbz hltz hsd hOn
          go_wp2_with fail
          first
            | (rw [hcv4]; go_wp2_with fail)
            | skip
          go_roundw
          case rel => exact ⟨j + 1, by omega, by go_num, by rw [HF.out.1], HF.out.2⟩
          case measure => simp [intOf]; omega
    · obtain rfl : j = m := by omega
      obtain ⟨Oj, hOj⟩ : ∃ Oj, Oj = O j := ⟨_, rfl⟩
      rw [← hOj] at hsj
      rw [← hOj]
      have hjn : ¬ ((Oj.size : Nat) : Int) < n := by omega
      have hnO : (n : Int) ≤ Oj.size := by omega
      have HX2 : Hid (Oj.extract 0 n = strS pass salt rounds n) := by show _ = _; rw [hOj]; exact HX.out.1
      clear hOj hsj
      go_wp2
      go_ret2
      exact ⟨by first | (rw [HX2.out]; rfl) | (rw [← HX2.out]; rfl), hb⟩

theorem rStretch_out (pass salt : ByteArray) (rounds n : Int) (h : rounds < 1 ∨ 1000 < rounds ∨ n < 0 ∨ 1024 < n) (w : World) :
    Calls Tryd.prog 34 #[.string pass, .string salt, .int .i64 rounds, .int .i64 n] w fun e w' => e = .returned (.tuple #[.string ⟨#[]⟩, .int .i64 1]) ∧ Below w.heap.size w w' := by
  by_cases h1 : rounds < 1
  · go_enter Tryd.func34, Tryd.ntmps34
    go_wp2
    go_ret2
    exact ⟨rfl, Below.refl _ _⟩
  by_cases h2 : 1000 < rounds
  · go_enter Tryd.func34, Tryd.ntmps34
    go_wp2
    go_ret2
    exact ⟨rfl, Below.refl _ _⟩
  by_cases h3 : n < 0
  · go_enter Tryd.func34, Tryd.ntmps34
    go_wp2
    go_ret2
    exact ⟨rfl, Below.refl _ _⟩
  · have h4 : 1024 < n := by omega
    go_enter Tryd.func34, Tryd.ntmps34
    go_wp2
    go_ret2
    exact ⟨rfl, Below.refl _ _⟩
end Go.Proofs.YtgokehbdappcdaaDoor.Sm
