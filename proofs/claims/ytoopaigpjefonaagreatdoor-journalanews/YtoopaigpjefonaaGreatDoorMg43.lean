/- The document's Stretch. · Lists of ints as cells; a new slice; draws. · The document's even, long and prime. · The document's digits: a number of bytes as digits of ten bits. -/
import Derived.Test.YtoopaigpjefonaaGreatDoorMg34
import Derived.Test.YtoopaigpjefonaaGreatDoorMg42
import Derived.Test.YtoopaigpjefonaaGreatDoorMg36
import Derived.Test.YtoopaigpjefonaaGreatDoorMg37
import Derived.Test.YtoopaigpjefonaaGreatDoorMg39
namespace Go.Proofs.YtoopaigpjefonaaGreatDoor.Sm
set_option maxRecDepth 20000
open Go.RowKit

/-- 32 bytes in block B, told by their cells. -/
def Cells32 (w : World) (B : Nat) (l : List Nat) : Prop := (∀ x, x < 32 → w.cell? ⟨B, x, none⟩ = some (.int .u8 (l.getD x 0 : Nat))) ∧ ∀ x, x < 32 → w.frozen? ⟨B, x, none⟩ = false
theorem Cells32.kept {w w' : World} {B : Nat} {l : List Nat} (h : Cells32 w B l) (hb : w'.heap[B]? = w.heap[B]?) : Cells32 w' B l :=
  ⟨fun x hx => (World.cell?_of_block (a := ⟨B, x, none⟩) hb).trans (h.1 x hx), fun x hx => (World.frozen?_of_block (a := ⟨B, x, none⟩) hb).trans (h.2 x hx)⟩
theorem getD_set (l : List Nat) (r v x : Nat) (hl : r < l.length) : (l.set r v).getD x 0 = if x = r then v else l.getD x 0 := by
  rw [List.getD_eq_getElem?_getD, List.getElem?_set]
  by_cases h : r = x
  · subst h; simp [hl]
  · rw [if_neg h, if_neg (fun e => h e.symm), List.getD_eq_getElem?_getD]
theorem Cells32.set {w : World} {B : Nat} {l : List Nat} (h : Cells32 w B l) (hl : l.length = 32) (r v : Nat) (hr : r < 32) : Cells32 (w.setCell ⟨B, r, none⟩ (.int .u8 (v : Nat))) B (l.set r v) := by
  refine ⟨fun x hx => ?_, fun x hx => by rw [World.frozen?_setCell]; exact h.2 x hx⟩
  rw [getD_set l r v x (by omega)]
  by_cases e : x = r
  · subst e
    rw [if_pos rfl]
    exact World.cell?_setCell_same w _ _ (h.1 x hx)
  · have hne : (⟨B, r, none⟩ : Addr) ≠ ⟨B, x, none⟩ := fun q => by injection q with _ q2 _; exact e q2.symm
    rw [if_neg e, World.cell?_setCell_other w _ _ _ hne]
    exact h.1 x hx
/-- The first r of two rows of numbers against each other, the rest of the first. -/
def xorP (a u : List Nat) (r : Nat) : List Nat := xorB (a.take r) (u.take r) ++ a.drop r
theorem xorP_length (a u : List Nat) (r : Nat) (ha : a.length = 32) (hu : u.length = 32) (hr : r ≤ 32) : (xorP a u r).length = 32 := by
  simp [xorP, xorB]; omega
theorem xorP_at (a u : List Nat) (r : Nat) (ha : a.length = 32) (hu : u.length = 32) (hr : r < 32) : (xorP a u r).getD r 0 = a.getD r 0 := by
  have h1 : (xorB (a.take r) (u.take r)).length = r := by simp [xorB]; omega
  rw [xorP, getD_right _ _ _ _ (by omega), h1, Nat.sub_self, List.getD_eq_getElem?_getD, List.getElem?_drop, Nat.add_zero, ← List.getD_eq_getElem?_getD]
theorem xorP_step (a u : List Nat) (r : Nat) (ha : a.length = 32) (hu : u.length = 32) (hr : r < 32) : (xorP a u r).set r (a.getD r 0 ^^^ u.getD r 0) = xorP a u (r + 1) := by
  have h1 : (xorB (a.take r) (u.take r)).length = r := by simp [xorB]; omega
  have e : a.drop r = a.getD r 0 :: a.drop (r + 1) := by rw [List.drop_eq_getElem_cons (by omega), getD_at _ _ (by omega)]
  have e2 : xorB (a.take (r + 1)) (u.take (r + 1)) = xorB (a.take r) (u.take r) ++ [a.getD r 0 ^^^ u.getD r 0] := by
    rw [List.take_succ_eq_append_getElem (by omega), List.take_succ_eq_append_getElem (by omega), xorB, xorB, List.zipWith_append (by simp; omega), getD_at _ _ (by omega), getD_at _ _ (by omega)]
    rfl
  rw [xorP, xorP, List.set_append_right _ _ (by omega), h1, Nat.sub_self, e, e2]
  simp

set_option maxRecDepth 10000 in
set_option maxHeartbeats 1000000 in
theorem rStretch_in (pass salt : ByteArray) (rounds n : Nat) (hr1 : 1 ≤ rounds) (hr2 : rounds ≤ 1000) (hn : n ≤ 1024) (hk : pass.size < 1099511627776) (hi : salt.size ≤ 1048576) (w : World) :
    Calls Tryz.prog 49 #[.string pass, .string salt, .int .i64 rounds, .int .i64 n] w fun e w' => e = .returned (.tuple #[.string (strS pass salt rounds n), .int .i64 0]) ∧ Below w.heap.size w w' := by
  have h1 : ¬ (n : Int) < 0 := by omega
  have h2 : ¬ (1024 : Int) < n := by omega
  have h3 : ¬ (rounds : Int) < 1 := by omega
  have h4 : ¬ (1000 : Int) < rounds := by omega
  obtain ⟨m, hm⟩ : ∃ m, m = (n + 31) / 32 := ⟨_, rfl⟩
  have hm1 : m ≤ 32 := by omega
  have hmn : n ≤ 32 * m := by omega
  have hnm : 32 * m ≤ n + 31 := by omega
  obtain ⟨D, hD⟩ : ∃ D : Nat → List Nat, D = fun i => strB (keyP (numsOf pass)) (numsOf salt) rounds (i + 1) := ⟨_, rfl⟩
  have hDl : ∀ i, (D i).length = 32 := fun i => by rw [hD]; exact strB_length _ _ _ _
  have hDb : ∀ i, Bytes (D i) := fun i => by rw [hD]; exact strB_bytes _ _ _ _
  obtain ⟨O, hO⟩ : ∃ O : Nat → ByteArray, O = fun j => strOfNums ((catD D j).map fun (x : Nat) => (x : Int)) := ⟨_, rfl⟩
  have hOs : ∀ j, (O j).size = 32 * j := fun j => by
    rw [hO, ← numsOf_length]
    show (numsOf (strOfNums _)).length = _
    have hb : Bytes (catD D j) := by
      induction j with
      | zero => intro x hx; simp [catD] at hx
      | succ j ih => rw [catD]; exact ih.append (hDb j)
    rw [numsOf_str _ hb, catD_length _ hDl]
  have hO1 : ∀ j, O j ++ strOfNums ((D j).map fun (x : Nat) => (x : Int)) = O (j + 1) := fun j => by rw [hO]; exact strOf_append _ _
  have HX : Hid ((O m).extract 0 n = strS pass salt rounds n ∧ O 0 = ByteArray.empty) := ⟨by
    rw [hO, hD, hm]; exact strOf_take _ n, by rw [hO]; rfl⟩
  have HU : Hid ((∀ j, O j ++ strOfNums ((D j).map fun (x : Nat) => (x : Int)) = O (j + 1)) ∧ (∀ j, (O j).size = 32 * j) ∧ (∀ j, D j = aL (keyP (numsOf pass)) (macL (keyP (numsOf pass)) (numsOf salt ++ be4 (j + 1))) (rounds - 1))) := ⟨hO1, hOs, fun j => by rw [hD]; rfl⟩
  clear hD hO hO1 hOs hm hDl hDb
  go_enter Tryz.func49, Tryz.ntmps49
  go_wp2_with fail
  go_loopw [10, 11] (fun out i wr => ∃ j : Nat, j ≤ m ∧ i = .int .i64 ((j : Int) + 1) ∧ out = .string (O j) ∧ Below w.heap.size w wr) (fun _ i _ => m + 1 - (intOf i).toNat)
  case atStart => exact ⟨0, Nat.zero_le _, rfl, by rw [HX.out.2]; rfl, Below.refl _ _⟩
  case round =>
    obtain ⟨j, hj, rfl, rfl, hb⟩ := hrel
    have hsj := HU.out.2.1 j
    by_cases hlt : j < m
    · obtain ⟨Oj, hOj⟩ : ∃ Oj, Oj = O j := ⟨_, rfl⟩
      rw [← hOj] at hsj
      rw [← hOj]
      have hjn : ((Oj.size : Nat) : Int) < n := by omega
      have HJ : Hid (Oj = O j ∧ Oj.size = 32 * j) := ⟨hOj, hsj⟩
      clear hOj hsj
      have d0 : ((j : Int) + 1) / 256 = 0 := by omega
      have d1 : bits .and .i64 ((j : Int) + 1) 255 = (j : Int) + 1 := by
        rw [show ((j : Int) + 1) = ((j + 1 : Nat) : Int) by omega, show (255 : Int) = ((255 : Nat) : Int) from rfl, i64_and_nat _ _ (by omega) (by decide), mask8]; omega
      have d2 : ((j : Int) + 1) % 256 = (j : Int) + 1 := by omega
      have hcv := run_convert_bytes_arg (P := Tryz.prog) (wr.alloc (.cells #[.int .u8 0, .int .u8 0, .int .u8 0, .int .u8 ((j : Int) + 1)] 5)) 143 5 Tryz.underlying143 Tryz.underlying5 wr.heap.size 0 4 4 [0, 0, 0, (j : Int) + 1] rfl (fun i hi => by
        rw [cell_of_row _ _ _ _ _ _ (heap_alloc_new wr _), Nat.zero_add]
        match i, hi with
        | 0, _ => rfl
        | 1, _ => rfl
        | 2, _ => rfl
        | 3, _ => rfl) 9 Tryz.underlying9
      obtain ⟨nb, hnb⟩ : ∃ nb, nb = strOfNums [0, 0, 0, (j : Int) + 1] := ⟨_, rfl⟩
      rw [← hnb] at hcv
      have hbe : be4 (j + 1) = [0, 0, 0, j + 1] := by
        have h1 : (j + 1) / 16777216 % 256 = 0 := by omega
        have h2 : (j + 1) / 65536 % 256 = 0 := by omega
        have h3 : (j + 1) / 256 % 256 = 0 := by omega
        have h4 : (j + 1) % 256 = j + 1 := by omega
        rw [be4, h1, h2, h3, h4]
      have hbn : numsOf nb = be4 (j + 1) := by
        rw [hnb, hbe]
        exact numsOf_str [0, 0, 0, j + 1] (fun x hx => by simp only [List.mem_cons, List.not_mem_nil, or_false] at hx; omega)
      have hnbs : nb.size = 4 := by rw [← numsOf_length, hbn]; rfl
      obtain ⟨q1, hq1⟩ : ∃ q1, q1 = salt ++ nb := ⟨_, rfl⟩
      have hadd1 : ∀ w', (Op.stringOp .add salt nb).run Tryz.prog w' = .ok (.string q1) w' := fun w' => by rw [hq1]; exact run_string_add_sum (P := Tryz.prog) (w := w') salt nb (by omega)
      have hq1s : q1.size ≤ 1048580 := by rw [hq1, ByteArray.size_append]; omega
      obtain ⟨K, hK⟩ : ∃ K, K = keyP (numsOf pass) := ⟨_, rfl⟩
      obtain ⟨D0, hD0⟩ : ∃ D0, D0 = macL K (numsOf salt ++ be4 (j + 1)) := ⟨_, rfl⟩
      have hDl : D0.length = 32 := by rw [hD0]; exact macL_length _ _
      have hDb : Bytes D0 := by rw [hD0]; exact macL_bytes _ _
      have HMac : Hid (macS pass q1 = strOfNums (D0.map fun (x : Nat) => (x : Int)) ∧ (∀ t : ByteArray, macS pass t = strOfNums ((macL K (numsOf t)).map fun (x : Nat) => (x : Int))) ∧ D j = aL K D0 (rounds - 1)) := ⟨by
        rw [macS, hD0, hK, hq1, numsOf_append, hbn], fun t => by rw [macS, hK], by rw [HU.out.2.2 j, hD0, hK]⟩
      have hb1 := hb.alloc hb.size (.cells #[.int .u8 0, .int .u8 0, .int .u8 0, .int .u8 ((j : Int) + 1)] 5)
      clear hnb hbn hbe hq1 hb hK hD0
      go_wp2_with fail
      first
        | (rw [hcv]; go_wp2_with fail)
        | skip
      refine (rMac_any pass q1 hk (by omega) _).mono ?_
      rintro e w2 ⟨rfl, hb2⟩
      rw [HMac.out.1]
      have hb2' := hb1.trans (hb2.mono hb1.size)
      clear hb1 hb2 hcv hadd1
      obtain ⟨u0, hu0⟩ : ∃ u0, u0 = strOfNums (D0.map fun (x : Nat) => (x : Int)) := ⟨_, rfl⟩
      have hu0n : numsOf u0 = D0 := by rw [hu0]; exact numsOf_str _ hDb
      have hu0s : u0.size = 32 := by rw [← numsOf_length, hu0n, hDl]
      rw [← hu0]
      have hcv2 := fun w' => Lib.run_convert_string_bytes (P := Tryz.prog) w' 9 143 5 u0 Tryz.underlying9 Tryz.underlying143 Tryz.underlying5
      rw [hu0s] at hcv2
      have hO := bytesWorld_own w2 5 u0 (by rw [hu0s]; unfold maxLen; decide)
      rw [numsV, hu0n] at hO
      have hge := grownCap_ge w2 u0.size 0 5
      rw [hu0s] at hge hO
      have hB3 := bytesWorld_below w2 5 u0
      have hT3 : Cells32 (Lib.bytesWorld w2 5 u0) w2.heap.size D0 := ⟨fun x hx => hO.cells x _ (byV_get D0 x (by omega)), fun x hx => hO.free x (by omega)⟩
      have hlt3 := hO.lt
      obtain ⟨cp, hcp⟩ : ∃ cp, cp = grownCap w2 32 0 5 := ⟨_, rfl⟩
      have hcv3 := hcv2 w2
      rw [← hcp] at hcv3 hge
      obtain ⟨w3, hw3⟩ : ∃ w3, Lib.bytesWorld w2 5 u0 = w3 := ⟨_, rfl⟩
      rw [hw3] at hcv3 hB3 hT3 hlt3
      have hb3 := hb2'.trans (hB3.mono hb2'.size)
      have hTB : w.heap.size ≤ w2.heap.size := hb2'.size
      have H3 : Hid (Cells32 w3 w2.heap.size D0 ∧ Below w.heap.size w w3 ∧ u0 = strOfNums (D0.map fun (x : Nat) => (x : Int)) ∧ w2.heap.size < w3.heap.size) := ⟨hT3, hb3, hu0, hlt3⟩
      clear hcv2 hO hB3 hT3 hlt3 hcp hw3 hb2' hb3 hu0 hu0n
      go_wp2_with fail
      first
        | (rw [hcv3]; go_wp2_with fail)
        | skip
      go_loopw [12, 14] (fun u c wz => ∃ q : Nat, 1 ≤ q ∧ q ≤ rounds ∧ c = .int .i64 q ∧ u = .string (strOfNums ((uL K D0 (q - 1)).map fun (x : Nat) => (x : Int))) ∧ Cells32 wz w2.heap.size (aL K D0 (q - 1)) ∧ Below w.heap.size w wz ∧ w2.heap.size < wz.heap.size) (fun _ c _ => rounds - (intOf c).toNat)
      case atStart => exact ⟨1, Nat.le_refl _, hr1, rfl, by rw [H3.out.2.2.1]; rfl, H3.out.1, H3.out.2.1, H3.out.2.2.2⟩
      case round =>
        clear H3
        obtain ⟨q, hq1, hq2, rfl, rfl, hT, hbz, hltz⟩ := hrel
        by_cases hqr : q < rounds
        · have hqr' : (q : Int) < rounds := by omega
          have hul := uL_length K hDl (q - 1)
          have hub := uL_bytes K hDb (q - 1)
          have hal := aL_length K hDl (q - 1)
          have hab := aL_bytes K hDb (q - 1)
          have HN : Hid (uL K D0 (q + 1 - 1) = macL K (uL K D0 (q - 1)) ∧ aL K D0 (q + 1 - 1) = xorB (aL K D0 (q - 1)) (macL K (uL K D0 (q - 1)))) := by
            obtain ⟨q', rfl⟩ : ∃ q', q = q' + 1 := ⟨q - 1, by omega⟩
            exact ⟨rfl, rfl⟩
          generalize uL K D0 (q - 1) = uj at *
          generalize aL K D0 (q - 1) = aj at *
          obtain ⟨su, hsu⟩ : ∃ su, su = strOfNums (uj.map fun (x : Nat) => (x : Int)) := ⟨_, rfl⟩
          have hsn : numsOf su = uj := by rw [hsu]; exact numsOf_str _ hub
          have hss : su.size = 32 := by rw [← numsOf_length, hsn, hul]
          rw [← hsu]
          have H5 : Hid (Cells32 wr w2.heap.size aj ∧ Below w.heap.size w wr ∧ w2.heap.size < wr.heap.size ∧ numsOf su = uj) := ⟨hT, hbz, hltz, hsn⟩
          clear hT hbz hltz hsu hsn
          go_wp2_with fail
          refine (rMac_any pass su hk (by omega) wr).mono ?_
          rintro e w5 ⟨rfl, hb5⟩
          rw [HMac.out.2.1 su, H5.out.2.2.2]
          obtain ⟨un, hun⟩ : ∃ un, un = macL K uj := ⟨_, rfl⟩
          have hunl : un.length = 32 := by rw [hun]; exact macL_length _ _
          have hunb : Bytes un := by rw [hun]; exact macL_bytes _ _
          rw [← hun]
          rw [← hun] at HN
          clear hun
          obtain ⟨sn, hsn⟩ : ∃ sn, sn = strOfNums (un.map fun (x : Nat) => (x : Int)) := ⟨_, rfl⟩
          have hsnn : numsOf sn = un := by rw [hsn]; exact numsOf_str _ hunb
          have hsns : sn.size = 32 := by rw [← numsOf_length, hsnn, hunl]
          rw [← hsn]
          have H6 : Hid (Cells32 w5 w2.heap.size aj ∧ Below w.heap.size w w5 ∧ w2.heap.size < w5.heap.size ∧ numsOf sn = un ∧ sn = strOfNums (un.map fun (x : Nat) => (x : Int))) := ⟨H5.out.1.kept (hb5.block _ H5.out.2.2.1), H5.out.2.1.trans (hb5.mono H5.out.2.1.size), Nat.lt_of_lt_of_le H5.out.2.2.1 hb5.size, hsnn, hsn⟩
          clear hsn hsnn hb5 H5
          go_wp2_with fail
          go_loopw [15] (fun c wz => ∃ r : Nat, r ≤ 32 ∧ c = .int .i64 r ∧ Cells32 wz w2.heap.size (xorP aj un r) ∧ Only w2.heap.size w5 wz) (fun c _ => 32 - (intOf c).toNat)
          case atStart => exact ⟨0, Nat.zero_le _, rfl, H6.out.1, Only.refl _ _⟩
          case round =>
            obtain ⟨r, hr, rfl, hz, ho⟩ := hrel
            by_cases hr32 : r < 32
            · obtain ⟨x, hx⟩ : ∃ x, x = aj.getD r 0 := ⟨_, rfl⟩
              obtain ⟨y, hy⟩ : ∃ y, y = un.getD r 0 := ⟨_, rfl⟩
              have lx : x < 256 := by rw [hx]; exact getD_lt (by decide) hab r
              have ly : y < 256 := by rw [hy]; exact getD_lt (by decide) hunb r
              have cx : wr.cell? ⟨w2.heap.size, r, none⟩ = some (.int .u8 (x : Nat)) := by
                have h1 := hz.1 r hr32
                rw [xorP_at aj un r hal hunl hr32, ← hx] at h1
                exact h1
              have fx : wr.frozen? ⟨w2.heap.size, r, none⟩ = false := hz.2 r hr32
              have hrs : r < sn.size := by omega
              have hyb : sn[r].toNat = y := by
                rw [hy, ← H6.out.2.2.2.1]
                have h2 : r < (numsOf sn).length := by rw [numsOf_length]; exact hrs
                rw [getD_at _ _ h2]
                simp [numsOf]
                rfl
              have bx : bits .xor .u8 (x : Int) (y : Int) = ((x ^^^ y : Nat) : Int) := u8_xor_nat x y lx ly
              obtain ⟨b1, hb1⟩ : ∃ b1, b1 = x ^^^ y := ⟨_, rfl⟩
              rw [← hb1] at bx
              have hz2 := hz.set (xorP_length aj un r hal hunl hr) r b1 hr32
              rw [hb1, hx, hy, xorP_step aj un r hal hunl hr32] at hz2
              rw [← hx, ← hy, ← hb1] at hz2
              have HZ : Hid (Cells32 (wr.setCell ⟨w2.heap.size, r, none⟩ (.int .u8 (b1 : Nat))) w2.heap.size (xorP aj un (r + 1)) ∧ Only w2.heap.size w5 (wr.setCell ⟨w2.heap.size, r, none⟩ (.int .u8 (b1 : Nat)))) := ⟨hz2, ho.setCell _ _⟩
              have r32 : (r : Int) < 32 := by omega
              have rss : (r : Int) < sn.size := by omega
              clear hz ho hz2 hb1 hx hy
              go_wp2_with fail
              go_region_with (fail)
              all_goals
                go_wp2
                go_roundw
                case rel => exact ⟨r + 1, by omega, by go_num, HZ.out.1, HZ.out.2.drew⟩
                case measure => simp [intOf]; omega
            · obtain rfl : r = 32 := by omega
              have HF : Hid (Cells32 wr w2.heap.size (aL K D0 (q + 1 - 1)) ∧ Below w.heap.size w wr ∧ w2.heap.size < wr.heap.size ∧ sn = strOfNums ((uL K D0 (q + 1 - 1)).map fun (x : Nat) => (x : Int))) := by
                refine ⟨?_, H6.out.2.1.trans ((ho.below (Nat.le_of_lt H6.out.2.2.1)).mono hTB), Nat.lt_of_lt_of_le H6.out.2.2.1 ho.size, by rw [HN.out.1]; exact H6.out.2.2.2.2⟩
                rw [HN.out.2]
                have h2 := hz
                rw [xorP, List.take_of_length_le (by omega), List.take_of_length_le (by omega), List.drop_eq_nil_of_le (by omega), List.append_nil] at h2
                exact h2
              clear hz ho
              go_wp2
              go_roundw
              case rel => exact ⟨q + 1, by omega, by omega, by go_num, by rw [HF.out.2.2.2], HF.out.1, HF.out.2.1, HF.out.2.2.1⟩
              case measure => simp [intOf]; omega
        · obtain rfl : q = rounds := by omega
          have hqr' : ¬ (q : Int) < q := by omega
          have hcv4 := run_convert_bytes_arg (P := Tryz.prog) wr 143 5 Tryz.underlying143 Tryz.underlying5 w2.heap.size 0 32 cp ((D j).map fun (x : Nat) => (x : Int)) (by rw [HMac.out.2.2, List.length_map]; exact aL_length K hDl _) (fun i hi => by
            rw [Nat.zero_add, hT.1 i hi, ← HMac.out.2.2]
            have h1 : i < (D j).length := by rw [HMac.out.2.2, aL_length K hDl]; exact hi
            rw [List.getD_eq_getElem?_getD, List.getD_eq_getElem?_getD, List.getElem?_map, List.getElem?_eq_getElem h1]; rfl) 9 Tryz.underlying9
          obtain ⟨sd, hsd⟩ : ∃ sd, sd = strOfNums ((D j).map fun (x : Nat) => (x : Int)) := ⟨_, rfl⟩
          rw [← hsd] at hcv4
          have hsds : sd.size = 32 := by
            rw [hsd, ← numsOf_length, numsOf_str _ (by rw [HMac.out.2.2]; exact aL_bytes K hDb _), HMac.out.2.2, aL_length K hDl]
          obtain ⟨On, hOn⟩ : ∃ On, On = O (j + 1) := ⟨_, rfl⟩
          have hadd3 : ∀ w', (Op.stringOp .add Oj sd).run Tryz.prog w' = .ok (.string On) w' := fun w' => by
            rw [hOn, ← HU.out.1 j, ← hsd, ← HJ.out.1]
            exact run_string_add_sum (P := Tryz.prog) (w := w') Oj sd (by omega)
          have HF : Hid (On = O (j + 1) ∧ Below w.heap.size w wr) := ⟨hOn, hbz⟩
          clear hT hbz hltz hsd hOn
          go_wp2_with fail
          first
            | (rw [hcv4]; go_wp2_with fail)
            | skip
          go_roundw
          case rel => exact ⟨j + 1, by omega, by go_num, by rw [HF.out.1], HF.out.2⟩
          case measure => simp [intOf]; omega
    · obtain rfl : j = m := by omega
      obtain ⟨Oj, hOj⟩ : ∃ Oj, Oj = O j := ⟨_, rfl⟩
      rw [← hOj] at hsj
      rw [← hOj]
      have hjn : ¬ ((Oj.size : Nat) : Int) < n := by omega
      have hnO : (n : Int) ≤ Oj.size := by omega
      have HX2 : Hid (Oj.extract 0 n = strS pass salt rounds n) := by show _ = _; rw [hOj]; exact HX.out.1
      clear hOj hsj
      go_wp2
      go_ret2
      exact ⟨by first | (rw [HX2.out]; rfl) | (rw [← HX2.out]; rfl), hb⟩

theorem rStretch_out (pass salt : ByteArray) (rounds n : Int) (h : rounds < 1 ∨ 1000 < rounds ∨ n < 0 ∨ 1024 < n) (w : World) :
    Calls Tryz.prog 49 #[.string pass, .string salt, .int .i64 rounds, .int .i64 n] w fun e w' => e = .returned (.tuple #[.string ⟨#[]⟩, .int .i64 1]) ∧ Below w.heap.size w w' := by
  by_cases h1 : rounds < 1
  · go_enter Tryz.func49, Tryz.ntmps49
    go_wp2
    go_ret2
    exact ⟨rfl, Below.refl _ _⟩
  by_cases h2 : 1000 < rounds
  · go_enter Tryz.func49, Tryz.ntmps49
    go_wp2
    go_ret2
    exact ⟨rfl, Below.refl _ _⟩
  by_cases h3 : n < 0
  · go_enter Tryz.func49, Tryz.ntmps49
    go_wp2
    go_ret2
    exact ⟨rfl, Below.refl _ _⟩
  · have h4 : 1024 < n := by omega
    go_enter Tryz.func49, Tryz.ntmps49
    go_wp2
    go_ret2
    exact ⟨rfl, Below.refl _ _⟩
end Go.Proofs.YtoopaigpjefonaaGreatDoor.Sm

namespace Go.Proofs.YtoopaigpjefonaaGreatDoor.Bx
set_option maxRecDepth 20000
open Go.RowKit

theorem info_int : (Tryz.prog.info? 3).map (fun i => (i.zero, i.size, i.bytes)) = some (some (.int .i64 0), 1, 8) := by kernel_rfl
def intV (l : List Nat) : List Value := l.map fun (x : Nat) => Value.int .i64 (x : Int)
theorem intV_one (l : List Nat) : ∀ u ∈ intV l, u.oneCell' = true := fun u hu => by
  obtain ⟨x, _, rfl⟩ := List.mem_map.1 hu
  rfl
theorem intV_at (l : List Nat) (i : Nat) (h : i < l.length) : (intV l)[i]? = some (.int .i64 (l.getD i 0 : Nat)) := by
  rw [intV, List.getElem?_map, List.getElem?_eq_getElem h, getD_at _ _ h]; rfl
theorem OwnC.fresh (w : World) (t : TypeId) (vs : List Value) (n : Nat) (hl : vs.length = n) (hm : n ≤ maxLen) : OwnC (w.alloc (.cells vs.toArray t)) w.heap.size w.heap.size n n vs := by
  have hr : Row (w.alloc (.cells vs.toArray t)) w.heap.size t vs := heap_alloc_new w _
  refine ⟨hl, Nat.le_refl _, by simp, Nat.le_refl _, hm, fun i hi => ?_, fun i hi => hr.frozen i, fun i u hu => (hr.cell i).trans hu⟩
  rw [hr.cell, List.getElem?_eq_getElem (by omega)]; rfl
theorem below_drewN {B : Nat} {w w' : World} (h : Below B w w') (n : Nat) : Below B w (w'.drewN n) := h.trans ⟨rfl, rfl, rfl, Nat.le_refl _, fun _ _ => rfl⟩
theorem OwnC.drewN {w : World} {base g n cap : Nat} {xs : List Value} (h : OwnC w base g n cap xs) (k : Nat) : OwnC (w.drewN k) base g n cap xs := h.kept rfl (Nat.le_refl _)
theorem strN_nums (s : ByteArray) : strN (numsOf s) = s := by
  unfold strN strOfNums numsOf
  rw [List.map_map, List.map_map]
  have : ((fun (n : Int) => UInt8.ofNat n.toNat) ∘ (fun (x : Nat) => (x : Int))) ∘ (fun (x : UInt8) => x.toNat) = id := by
    funext x
    simp
  rw [this, List.map_id]
theorem strN_app (a b : List Nat) : strN a ++ strN b = strN (a ++ b) := by
  unfold strN strOfNums
  apply ByteArray.ext
  simp
theorem numsAt (s : ByteArray) (i : Nat) (h : i < s.size) : (numsOf s).getD i 0 = s[i].toNat := by
  rw [getD_at _ _ (by rw [numsOf_length]; exact h)]
  simp [numsOf]
  rfl
end Go.Proofs.YtoopaigpjefonaaGreatDoor.Bx

namespace Go.Proofs.YtoopaigpjefonaaGreatDoor.Bx
set_option maxRecDepth 20000
open Go.RowKit

set_option maxRecDepth 100000 in
set_option maxHeartbeats 1000000 in
theorem reven_any (s : ByteArray) (hs : s.size ≤ 1048576) (w : World) :
    Calls Tryz.prog 191 #[.string s] w fun e w' => e = .returned (.string (strN (fill16 (numsOf s)))) ∧ w' = w := by
  have HL : Hid (fill16 (numsOf s) = numsOf s ++ List.replicate ((16 - s.size % 16) % 16) 0) := by show _ = _; rw [fill16, numsOf_length]
  have HS : Hid (s = strN (numsOf s ++ List.replicate 0 0)) := by show _ = _; rw [List.replicate_zero, List.append_nil, strN_nums]
  have HZ : Hid (∀ j, (strN (numsOf s ++ List.replicate j 0)).size = s.size + j ∧ strN (numsOf s ++ List.replicate j 0) ++ ⟨#[0]⟩ = strN (numsOf s ++ List.replicate (j + 1) 0)) := fun j => ⟨by rw [strN_size]; simp [numsOf_length], by rw [List.replicate_succ', ← List.append_assoc]; exact strN_app _ [0]⟩
  obtain ⟨R, hR⟩ : ∃ R, R = strN (fill16 (numsOf s)) := ⟨_, rfl⟩
  rw [← hR]
  have HR : Hid (R = strN (fill16 (numsOf s))) := hR
  clear hR
  go_enter Tryz.func191, Tryz.ntmps191
  go_wp2_with fail
  go_loopw [0] (fun v wr => ∃ j : Nat, j ≤ (16 - s.size % 16) % 16 ∧ v = .string (strN (numsOf s ++ List.replicate j 0)) ∧ wr = w) (fun v _ => 1048600 - strSize v)
  case atStart => exact ⟨0, Nat.zero_le _, congrArg Value.string HS.out, rfl⟩
  case round =>
    clear HS
    obtain ⟨j, hj, rfl, rfl⟩ := hrel
    obtain ⟨hz, ha⟩ := HZ.out j
    by_cases hlt : j < (16 - s.size % 16) % 16
    · obtain ⟨hz1, _⟩ := HZ.out (j + 1)
      have HM : Hid ((strN (numsOf s ++ List.replicate (j + 1) 0)).size = s.size + (j + 1)) := hz1
      have HM0 : Hid ((strN (numsOf s ++ List.replicate j 0)).size = s.size + j) := hz
      obtain ⟨B, hB⟩ : ∃ B, B = strN (numsOf s ++ List.replicate (j + 1) 0) := ⟨_, rfl⟩
      rw [← hB] at ha
      have HB : Hid (B = strN (numsOf s ++ List.replicate (j + 1) 0)) := hB
      clear hB hz1 HZ HL
      generalize strN (numsOf s ++ List.replicate j 0) = A at *
      have hadd : ∀ w', (Op.stringOp .add A ⟨#[0]⟩).run Tryz.prog w' = .ok (.string B) w' := fun w' => by rw [← ha]; exact run_string_add_sum (P := Tryz.prog) (w := w') A ⟨#[0]⟩ (by rw [hz]; show _ + 1 ≤ _; omega)
      have c1 : ¬ (A.size : Int) % 16 = 0 := by omega
      have c2 : ¬ A.size % 16 = 0 := by omega
      clear hz ha
      go_wp2
      go_roundw
      case rel => exact ⟨j + 1, by omega, by rw [HB.out], trivial⟩
      case measure =>
        have h1 := HM.out
        rw [← HB.out] at h1
        have h2 := HM0.out
        simp [strSize]
        omega
    · obtain rfl : j = (16 - s.size % 16) % 16 := by omega
      rw [← HL.out, ← HR.out] at hz ⊢
      have c1 : (R.size : Int) % 16 = 0 := by omega
      have c2 : R.size % 16 = 0 := by omega
      clear hz ha HZ HL hj hlt HR
      go_wp2
      go_ret
      exact ⟨rfl, rfl⟩

theorem leB_snoc (k n : Nat) : byV (leB (k + 1) n) = byV (leB k n) ++ [.int .u8 ((n / 2 ^ (8 * k) % 256 : Nat) : Int)] := by
  rw [leB, List.range_succ, List.map_append, byV_append]
  rfl
set_option maxRecDepth 100000 in
set_option maxHeartbeats 1000000 in
theorem rlong_any (n : Nat) (hn : n < 9223372036854775808) (w : World) :
    Calls Tryz.prog 192 #[.int .i64 n] w fun e w' => e = .returned (.string (strN (leB 8 n))) ∧ Below w.heap.size w w' := by
  obtain ⟨i1, hj, hy0, hy1, hy2⟩ := info_parts info_u8
  obtain ⟨X, hX⟩ : ∃ X, X = strN (leB 8 n) := ⟨_, rfl⟩
  rw [← hX]
  have HX : Hid (X = strN (leB 8 n)) := hX
  clear hX
  go_enter Tryz.func192, Tryz.ntmps192
  go_wp2_with fail
  go_loopw [0, 3, 4] (fun m v i wz => ∃ j : Nat, j ≤ 8 ∧ i = .int .i64 j ∧ m = .int .i64 (n / 2 ^ (8 * j) : Nat) ∧ wz.ownsRow w.heap.size 5 1 v j (byV (leB j n)) ∧ Below w.heap.size w wz) (fun _ _ i _ => 8 - (intOf i).toNat)
  case atStart => exact ⟨0, Nat.zero_le _, rfl, by simp, World.ownsRow_nil _ _ _ _, Below.refl _ _⟩
  case round =>
    obtain ⟨j, hj8, rfl, rfl, hown, hb⟩ := hrel
    by_cases hlt : j < 8
    · have HN : Hid (n / 2 ^ (8 * (j + 1)) = n / 2 ^ (8 * j) / 256) := by
        show _ = _
        rw [Nat.div_div_eq_div_mul, show 8 * (j + 1) = 8 * j + 8 by omega, Nat.pow_add]
      have HB : Hid (byV (leB (j + 1) n) = byV (leB j n) ++ [.int .u8 ((n / 2 ^ (8 * j) % 256 : Nat) : Int)]) := leB_snoc j n
      have hm : n / 2 ^ (8 * j) ≤ n := Nat.div_le_self _ _
      generalize n / 2 ^ (8 * j) = m at *
      have hw' : wrap64 ((m : Int) / 256) = ((m / 256 : Nat) : Int) := by
        unfold wrap64
        omega
      have HW : Hid (wrap64 ((m : Int) / 256) = ((m / 256 : Nat) : Int)) := hw'
      clear hw'
      obtain ⟨y, hy⟩ : ∃ y, y = m % 256 := ⟨_, rfl⟩
      have f0 : IntKind.u8.wrap ((m : Int) % 256) = (y : Int) := by rw [IntKind.wrap_u8, hy]; omega
      rw [← hy] at HB
      clear hy hm
      have HNE : Hid (∀ g', u3.ownBlock = some g' → w.heap.size ≤ g') := fun g' hg' => (hown.lt g' hg').1
      go_wp2_with (at_builtin; refine wpList_append_lies _ rfl _ _ 143 rfl w.heap.size 5 i1 (.int .u8 0) 1 1 Tryz.underlying143 hj hy0 hy1 hy2 rfl (by decide) u3 j (byV (leB j n)) rfl (hown.alloc _) ⟨wr.heap.size, 0, none⟩ 1 1 [.int .u8 (y : Nat)] rfl rfl (World.news_of_block (heap_alloc_new _ _)) ?c2 (by decide) ?c3 ?c4 ?c5 _ rfl ?_)
      case c2 => intro u hu; rw [List.mem_singleton] at hu; rw [hu]; rfl
      case c3 => unfold maxLen; omega
      case c4 => omega
      case c5 => have := hb.size; simp; omega
      intro g1 cap1 w1 hown1 hgrow1 hat1 hlt1
      have hb2 := (hb.alloc hb.size _).grown hgrow1 (by have := hb.size; simp; omega) (fun g hg => HNE.out g hg)
      have hown2 := HB.out ▸ hown1
      have HF : Hid (_ ∧ _) := ⟨hown2, hb2⟩
      clear hown1 hown2 hgrow1 hat1 hlt1 hb2 hown hb f0 HNE
      go_wp2
      go_roundw
      case rel => exact ⟨j + 1, by omega, by go_num, by rw [HN.out, HW.out], HF.out.1, HF.out.2⟩
      case measure => simp [intOf]; omega
    · obtain rfl : j = 8 := by omega
      obtain ⟨g, cap, rfl, _, _⟩ := hown.form (by decide)
      have hcv := run_convert_bytes_arg (P := Tryz.prog) wr 143 5 Tryz.underlying143 Tryz.underlying5 g 0 8 cap ((leB 8 n).map fun (x : Nat) => (x : Int)) (by simp [leB_length]) (fun i hi => by
        rw [Nat.zero_add, hown.cellAt i (by omega), byV_get _ _ (by rw [leB_length]; exact hi), getD_at _ _ (by rw [leB_length]; exact hi)]
        simp [List.getD, leB_length, hi]) 9 Tryz.underlying9
      rw [show strOfNums ((leB 8 n).map fun (x : Nat) => (x : Int)) = strN (leB 8 n) from rfl, ← HX.out] at hcv
      have HF : Hid (Below w.heap.size w wr) := hb
      clear hown hb
      generalize n / 2 ^ (8 * 8) = m at *
      go_wp2
      go_ret
      exact ⟨rfl, HF.out⟩
end Go.Proofs.YtoopaigpjefonaaGreatDoor.Bx

namespace Go.Proofs.YtoopaigpjefonaaGreatDoor.Bx
set_option maxRecDepth 20000
open Go.RowKit

theorem leN_digit : ∀ (l : List Nat) (_ : Bytes l) (k : Nat), leN l / 256 ^ k % 256 = l.getD k 0
  | [], _, k => by simp [leN]
  | x :: l, h, 0 => by
    have := h x (List.mem_cons_self ..)
    show (x + 256 * leN l) / 256 ^ 0 % 256 = x
    rw [Nat.pow_zero, Nat.div_one]
    omega
  | x :: l, h, k + 1 => by
    have h1 := h x (List.mem_cons_self ..)
    have h2 := leN_digit l (fun y hy => h y (List.mem_cons_of_mem _ hy)) k
    show (x + 256 * leN l) / 256 ^ (k + 1) % 256 = l.getD k 0
    rw [show 256 ^ (k + 1) = 256 * 256 ^ k by rw [Nat.pow_succ, Nat.mul_comm], ← Nat.div_div_eq_div_mul, show (x + 256 * leN l) / 256 = leN l by omega]
    exact h2
theorem bit_of (y r : Nat) (hr : r < 8) : y / 2 ^ r % 2 = y % 256 / 2 ^ r % 2 := by
  have : r = 0 ∨ r = 1 ∨ r = 2 ∨ r = 3 ∨ r = 4 ∨ r = 5 ∨ r = 6 ∨ r = 7 := by omega
  rcases this with rfl | rfl | rfl | rfl | rfl | rfl | rfl | rfl <;> simp only [Nat.reducePow] <;> omega
theorem leN_bit (l : List Nat) (h : Bytes l) (t : Nat) : leN l / 2 ^ t % 2 = l.getD (t / 8) 0 / 2 ^ (t % 8) % 2 := by
  have e : 2 ^ t = 256 ^ (t / 8) * 2 ^ (t % 8) := by
    rw [show (256 : Nat) = 2 ^ 8 from rfl, ← Nat.pow_mul, ← Nat.pow_add]
    congr 1
    omega
  rw [e, ← Nat.div_div_eq_div_mul, bit_of _ _ (Nat.mod_lt _ (by decide)), leN_digit l h]
theorem dig_step (V t m : Nat) : 2 * (V / 2 ^ (t + 1) % 2 ^ m) + V / 2 ^ t % 2 = V / 2 ^ t % 2 ^ (m + 1) := by
  rw [Nat.pow_succ 2 t, ← Nat.div_div_eq_div_mul, Nat.pow_succ 2 m, Nat.mul_comm (2 ^ m) 2, Nat.mod_mul]
  omega
/-- A number's first digits of ten bits. -/
def digL (V n : Nat) : List Nat := (List.range n).map fun i => V / 2 ^ (10 * i) % 1024
theorem digL_length (V n : Nat) : (digL V n).length = n := by simp [digL]
theorem digL_snoc (V n : Nat) : intV (digL V (n + 1)) = intV (digL V n) ++ [.int .i64 ((V / 2 ^ (10 * n) % 1024 : Nat) : Int)] := by
  rw [digL, List.range_succ, List.map_append, intV, List.map_append]
  rfl
theorem and_one (b r : Nat) (h : b < 256) : bits .and .i64 ((b : Int) / 2 ^ r) 1 = ((b / 2 ^ r % 2 : Nat) : Int) := by
  have e2 : (b : Int) / 2 ^ r = ((b / 2 ^ r : Nat) : Int) := by rw [Int.natCast_ediv, Int.natCast_pow]; rfl
  have hd : b / 2 ^ r ≤ b := Nat.div_le_self _ _
  rw [e2, show (1 : Int) = ((1 : Nat) : Int) from rfl, i64_and_nat _ _ (by omega) (by decide), Nat.and_one_is_mod]

set_option maxRecDepth 10000 in
set_option maxHeartbeats 2000000 in
theorem rdigits_any (b : ByteArray) (hs : b.size ≤ 1048576) (n : Nat) (h0 : 0 < n) (hn : n ≤ 1000) (w : World) :
    Calls Tryz.prog 200 #[.string b, .int .i64 n] w fun e w' => ∃ g cap, e = .returned (.slice (some ⟨g, 0, none⟩) n cap) ∧ OwnC w' w.heap.size g n cap (intV (digL (leN (numsOf b)) n)) ∧ Below w.heap.size w w' := by
  obtain ⟨i0, hi, hz0, hz1, hz2⟩ := info_parts info_int
  have HBIT : Hid (∀ t, leN (numsOf b) / 2 ^ t % 2 = (numsOf b).getD (t / 8) 0 / 2 ^ (t % 8) % 2) := fun t => leN_bit _ (numsOf_bytes b) t
  generalize leN (numsOf b) = V at *
  go_enter Tryz.func200, Tryz.ntmps200
  go_wp2_with fail
  go_loopw [5, 6] (fun v i wz => ∃ I : Nat, I ≤ n ∧ i = .int .i64 I ∧ wz.ownsRow w.heap.size 3 1 v I (intV (digL V I)) ∧ Below w.heap.size w wz) (fun _ i _ => n - (intOf i).toNat)
  case atStart => exact ⟨0, Nat.zero_le _, rfl, World.ownsRow_nil _ _ _ _, Below.refl _ _⟩
  case round =>
    obtain ⟨I, hI, rfl, hown, hb⟩ := hrel
    by_cases hlt : I < n
    · have HO : Hid (wr.ownsRow w.heap.size 3 1 u5 I (intV (digL V I)) ∧ Below w.heap.size w wr) := ⟨hown, hb⟩
      clear hown hb
      have hlti : (I : Int) < n := by omega
      generalize hwo : wr = wo at *
      clear hwo
      go_wp2_with fail
      go_loopw [7, 8] (fun d jv wz => ∃ J : Nat, J ≤ 10 ∧ jv = .int .i64 ((J : Int) - 1) ∧ d = .int .i64 ((V / 2 ^ (10 * I + J) % 2 ^ (10 - J) : Nat) : Int) ∧ wz = wo) (fun _ jv _ => (intOf jv + 1).toNat)
      case atStart => exact ⟨10, Nat.le_refl _, rfl, by simp [Nat.mod_one], rfl⟩
      case round =>
        obtain ⟨J, hJ, rfl, rfl, rfl⟩ := hrel
        cases J with
        | zero =>
          rw [show ((0 : Nat) : Int) - 1 = -1 from rfl, show 10 * I + 0 = 10 * I from rfl, show 2 ^ (10 - 0) = 1024 from rfl]
          have HD : Hid (intV (digL V (I + 1)) = intV (digL V I) ++ [.int .i64 ((V / 2 ^ (10 * I) % 1024 : Nat) : Int)]) := digL_snoc V I
          generalize V / 2 ^ (10 * I) % 1024 = d at *
          have hown := HO.out.1
          have hb := HO.out.2
          have HNE : Hid (∀ g', u5.ownBlock = some g' → w.heap.size ≤ g') := fun g' hg' => (hown.lt g' hg').1
          clear HO HBIT
          go_wp2_with (at_builtin; refine wpList_append_lies _ rfl _ _ 92 rfl w.heap.size 3 i0 (.int .i64 0) 1 8 Tryz.underlying92 hi hz0 hz1 hz2 rfl (by decide) u5 I (intV (digL V I)) rfl (hown.alloc _) ⟨_, 0, none⟩ 1 1 [.int .i64 (d : Nat)] rfl rfl (World.news_of_block (heap_alloc_new _ _)) ?c2 (by decide) ?c3 ?c4 ?c5 _ rfl ?_)
          case c2 => intro u hu; rw [List.mem_singleton] at hu; rw [hu]; rfl
          case c3 => unfold maxLen; omega
          case c4 => omega
          case c5 => have := hb.size; simp; omega
          intro g1 cap1 w1 hown1 hgrow1 hat1 hlt1
          have hb2 := (hb.alloc hb.size _).grown hgrow1 (by have := hb.size; simp; omega) (fun g hg => HNE.out g hg)
          have hown2 := HD.out ▸ hown1
          have HF : Hid (_ ∧ _) := ⟨hown2, hb2⟩
          clear hown1 hown2 hgrow1 hat1 hlt1 hb2 hown hb HNE
          go_wp2
          go_roundw
          case rel => exact ⟨I + 1, by omega, by go_num, HF.out.1, HF.out.2⟩
          case measure => simp [intOf]; omega
        | succ J =>
          rw [show (((J + 1 : Nat) : Int) - 1) = (J : Int) by omega]
          have HST := dig_step V (10 * I + J) (9 - J)
          rw [show 9 - J + 1 = 10 - J by omega] at HST
          have hdl : V / 2 ^ (10 * I + J + 1) % 2 ^ (9 - J) < 1024 := Nat.lt_of_lt_of_le (Nat.mod_lt _ (Nat.pow_pos (by decide))) (Nat.le_trans (Nat.pow_le_pow_right (by decide) (show 9 - J ≤ 10 by omega)) (by decide))
          rw [show 10 * I + (J + 1) = 10 * I + J + 1 by omega, show 10 - (J + 1) = 9 - J by omega]
          rw [HBIT.out] at HST
          have HS : Hid _ := HST
          clear HST
          generalize V / 2 ^ (10 * I + J + 1) % 2 ^ (9 - J) = d at *
          have e1 : IntKind.i64.wrap (10 * (I : Int)) = 10 * I := by rw [IntKind.wrap_i64]; omega
          obtain ⟨t, ht⟩ : ∃ t, t = 10 * I + J := ⟨_, rfl⟩
          have e2 : IntKind.i64.wrap (10 * (I : Int) + (J : Int)) = (t : Int) := by rw [IntKind.wrap_i64]; omega
          have e3 : IntKind.i64.wrap (2 * (d : Int)) = 2 * d := by rw [IntKind.wrap_i64]; omega
          obtain ⟨k, hk⟩ : ∃ k, k = t / 8 := ⟨_, rfl⟩
          obtain ⟨r, hr⟩ : ∃ r, r = t % 8 := ⟨_, rfl⟩
          have k1 : (t : Int) / 8 = (k : Int) := by omega
          have k2 : (t : Int) % 8 = (r : Int) := by omega
          rw [← ht, ← hk, ← hr] at HS
          have tl : (t : Int) < 100000 := by omega
          have rl : r < 8 := by omega
          have HT : Hid (t = 10 * I + J) := ht
          clear ht hk hr
          by_cases hkb : k < b.size
          · have k3 : (k : Int) < b.size := by omega
            have hbl := b[k].toNat_lt
            have ha := and_one b[k].toNat r hbl
            rw [numsAt b k hkb] at HS
            have hd2 : b[k].toNat / 2 ^ r % 2 < 2 := Nat.mod_lt _ (by decide)
            generalize b[k].toNat / 2 ^ r % 2 = x at *
            have e4 : IntKind.i64.wrap (2 * (d : Int) + (x : Int)) = ((2 * d + x : Nat) : Int) := by rw [IntKind.wrap_i64]; omega
            have k4 : ¬ (r : Int) < 0 := by omega
            have k5 : (0 : Int) ≤ r := by omega
            go_wp2
            go_roundw
            case rel => exact ⟨J, by omega, rfl, congrArg (Value.int .i64) (by rw [← HT.out, ← HS.out]; omega), trivial⟩
            case measure => simp [intOf]
          · have k3 : ¬ (k : Int) < b.size := by omega
            rw [getD_beyond _ _ (by rw [numsOf_length]; omega), Nat.zero_div, Nat.zero_mod] at HS
            go_wp2
            go_roundw
            case rel => exact ⟨J, by omega, rfl, congrArg (Value.int .i64) (by rw [← HT.out, ← HS.out]; omega), trivial⟩
            case measure => simp [intOf]
    · obtain rfl : I = n := by omega
      obtain ⟨g, cap, rfl, hC⟩ := OwnC.of hown h0
      have HF : Hid (OwnC wr w.heap.size g I cap (intV (digL V I)) ∧ Below w.heap.size w wr) := ⟨hC, hb⟩
      clear hC hown hb HBIT
      go_wp2
      go_ret
      exact ⟨g, cap, rfl, HF.out⟩
end Go.Proofs.YtoopaigpjefonaaGreatDoor.Bx
