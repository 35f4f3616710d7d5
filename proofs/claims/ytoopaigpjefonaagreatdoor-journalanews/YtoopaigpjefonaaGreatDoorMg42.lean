/- The document's Mac: of any key and text the HMAC. · The laws' cut: a text, or its first bytes. · The law SumKeys, called with any key, text and number where the program's two tables stand, returns true, and changes nothing that was there. · The document's Mac: of any key and text the HMAC. · The document's Expand. -/
import Derived.Test.YtoopaigpjefonaaGreatDoorMg41
import Derived.Test.YtoopaigpjefonaaGreatDoorMg34
import Derived.Test.YtoopaigpjefonaaGreatDoorMg31
import Derived.Test.YtoopaigpjefonaaGreatDoorMg40
namespace Go.Proofs.YtoopaigpjefonaaGreatDoor.Sm
set_option maxRecDepth 20000
open Go.RowKit

theorem zeroRow {w : World} {g : Nat} {t : TypeId} {A : List Value} {j : Nat} (h : Row w g t (A ++ List.replicate (64 - j) (.int .u8 0))) (hj : j < 64) : Row w g t (A ++ [.int .u8 0] ++ List.replicate (64 - (j + 1)) (.int .u8 0)) := by
  have e : List.replicate (64 - j) (Value.int .u8 0) = [.int .u8 0] ++ List.replicate (64 - (j + 1)) (.int .u8 0) := by
    rw [show 64 - j = (64 - (j + 1)) + 1 by omega, List.replicate_succ]; rfl
  rw [e, ← List.append_assoc] at h
  exact h
theorem xorNext (K : List Nat) (j : Nat) (v : Value) (c : Nat) (hl : K.length = 64) (hj : j < 64) (hv : v = .int .u8 ((K.getD j 0 ^^^ c : Nat) : Int)) : byV (xorL c (K.take j)) ++ [v] ++ List.replicate (64 - (j + 1)) (.int .u8 0) = byV (xorL c (K.take (j + 1))) ++ List.replicate (64 - (j + 1)) (.int .u8 0) := by
  rw [List.take_succ_eq_append_getElem (by omega), xorL, xorL, List.map_append, byV_append, hv, getD_at _ _ (by omega)]
  rfl
theorem padK_in (key : ByteArray) (j : Nat) (h : j < key.size) : key[j].toNat = (padK (numsOf key)).getD j 0 := by
  have h2 : j < (numsOf key).length := by rw [numsOf_length]; exact h
  rw [padK, getD_left _ _ _ _ h2, getD_at _ _ h2]
  simp [numsOf]
  rfl
theorem padK_out (key : ByteArray) (j : Nat) (h : key.size ≤ j) : (padK (numsOf key)).getD j 0 = 0 := by
  have h2 : (numsOf key).length ≤ j := by rw [numsOf_length]; exact h
  rw [padK, getD_right _ _ _ _ h2]
  by_cases h3 : j - (numsOf key).length < 64 - (numsOf key).length
  · rw [getD_at _ _ (by simpa using h3)]; simp
  · rw [getD_beyond _ _ (by simpa using h3)]
theorem made_row {w : World} {base : Nat} {g : Nat} (h : w.ownsRow base 5 1 (.slice (some ⟨g, 0, none⟩) 64 64) 64 (madeCells #[Value.int .u8 0] 64).toList) : Row w g 5 (List.replicate 64 (.int .u8 0)) := by
  rcases h.2 with ⟨h', _⟩ | ⟨g', cap, cur, h', _, hg, _, _, hcs, htake⟩
  · simp at h'
  · simp only [Value.slice.injEq, Option.some.injEq, Addr.mk.injEq, and_true, true_and] at h'
    obtain ⟨rfl, rfl⟩ := h'
    have hl : cur.toList.length = 64 := by simpa using hcs
    rw [List.take_of_length_le (by omega)] at htake
    have h3 : cur.toList = List.replicate 64 (.int .u8 0) := by rw [htake]; simp [toList_madeCells_one]
    have h2 : cur = (List.replicate 64 (Value.int .u8 0)).toArray := by rw [← h3]
    rw [Row, hg, h2]

set_option maxRecDepth 10000 in
set_option maxHeartbeats 1000000 in
theorem rMac_short (key s : ByteArray) (hk : key.size ≤ 64) (hs : s.size < 549755813888) (w : World) :
    Calls Tryz.prog 88 #[.string key, .string s] w fun e w' => e = .returned (.string (macS key s)) ∧ Below w.heap.size w w' := by
  obtain ⟨i0, hi, hz0, hz1, hz2⟩ := info_parts info_u8
  have h64 : ¬ (64 : Int) < key.size := by omega
  obtain ⟨K, hK⟩ : ∃ K, K = padK (numsOf key) := ⟨_, rfl⟩
  have hKb : Bytes K := by rw [hK]; exact padK_bytes (numsOf_bytes key)
  have hKl : K.length = 64 := by rw [hK]; exact padK_length _ (by rw [numsOf_length]; exact hk)
  have HK : Hid (K = padK (numsOf key)) := hK
  clear hK
  go_enter Tryz.func88, Tryz.ntmps88
  go_wp2_with (at_make; refine wpList_make_full _ rfl _ _ 143 rfl w.heap.size 5 i0 (.int .u8 0) 1 Tryz.underlying143 hi hz0 hz1 .i64 .i64 _ _ 64 rfl rfl rfl rfl ?c1 ?c2 (Nat.le_refl _) ?_)
  case c2 => unfold maxLen; decide
  intro w1 hown1 hgrow1
  have hb1 : Below w.heap.size w w1 := (Below.refl _ _).grown hgrow1 (Nat.le_refl _) (fun k hk => by simp at hk)
  have hx1 := made_row hown1
  clear hown1 hgrow1
  go_wp2_with (at_make; refine wpList_make_full _ rfl _ _ 143 rfl w1.heap.size 5 i0 (.int .u8 0) 1 Tryz.underlying143 hi hz0 hz1 .i64 .i64 _ _ 64 rfl rfl rfl rfl ?d1 ?d2 (Nat.le_refl _) ?_)
  case d1 => rw [hz2]; decide
  case d2 => unfold maxLen; decide
  intro w2 hown2 hgrow2
  have hb2 : Below w1.heap.size w1 w2 := (Below.refl _ _).grown hgrow2 (Nat.le_refl _) (fun k hk => by simp at hk)
  have hy2 := made_row hown2
  have hx2 := hx1.below hb2 hx1.lt
  have hXY : w.heap.size < w1.heap.size := hx1.lt
  have hb2' := hb1.trans (hb2.mono hb1.size)
  have H2 : Hid (Row w2 w.heap.size 5 (List.replicate 64 (.int .u8 0)) ∧ Row w2 w1.heap.size 5 (List.replicate 64 (.int .u8 0)) ∧ Below w.heap.size w w2) := ⟨hx2, hy2, hb2'⟩
  clear hown2 hgrow2 hx1 hx2 hy2 hb1 hb2 hb2'
  go_wp2_with fail
  go_loopw [7] (fun i wr => ∃ j : Nat, j ≤ 64 ∧ i = .int .i64 j ∧ Row wr w.heap.size 5 (byV (xorL 54 (K.take j)) ++ List.replicate (64 - j) (.int .u8 0)) ∧ Row wr w1.heap.size 5 (byV (xorL 92 (K.take j)) ++ List.replicate (64 - j) (.int .u8 0)) ∧ Below w.heap.size w wr) (fun i _ => 64 - (intOf i).toNat)
  case atStart => exact ⟨0, Nat.zero_le _, rfl, H2.out.1, H2.out.2.1, H2.out.2.2⟩
  case round =>
    clear H2
    obtain ⟨j, hj, rfl, hx, hy, hb⟩ := hrel
    by_cases hlt : j < 64
    · have j64 : (j : Int) < 64 := by omega
      have hxr := zeroRow hx hlt
      have hyr := zeroRow hy hlt
      have lx : ∀ c, (byV (xorL c (K.take j))).length = j := fun c => by simp [byV, xorL_length]; omega
      have cx := hxr.at (lx 54).symm
      have cy := hyr.at (lx 92).symm
      have fx : wr.frozen? ⟨w.heap.size, j, none⟩ = false := hx.frozen j
      have fy : wr.frozen? ⟨w1.heap.size, j, none⟩ = false := hy.frozen j
      by_cases hin : j < key.size
      · have jin : (j : Int) < key.size := by omega
        obtain ⟨b, hbj⟩ : ∃ b, b = K.getD j 0 := ⟨_, rfl⟩
        have lb : b < 256 := by rw [hbj]; exact getD_lt (by decide) hKb j
        have hkb : key[j].toNat = b := by rw [hbj, HK.out]; exact padK_in key j hin
        have bx : bits .xor .u8 (b : Int) 54 = ((b ^^^ 54 : Nat) : Int) := u8_xor_nat b 54 lb (by decide)
        have by' : bits .xor .u8 (b : Int) 92 = ((b ^^^ 92 : Nat) : Int) := u8_xor_nat b 92 lb (by decide)
        obtain ⟨b1, hb1⟩ : ∃ b1, b1 = b ^^^ 54 := ⟨_, rfl⟩
        obtain ⟨b2, hb2⟩ : ∃ b2, b2 = b ^^^ 92 := ⟨_, rfl⟩
        rw [← hb1] at bx
        rw [← hb2] at by'
        have HB1 : Hid (Value.int .u8 (b1 : Nat) = .int .u8 ((K.getD j 0 ^^^ 54 : Nat) : Int)) := by show _ = _; rw [hb1, hbj]
        have HB2 : Hid (Value.int .u8 (b2 : Nat) = .int .u8 ((K.getD j 0 ^^^ 92 : Nat) : Int)) := by show _ = _; rw [hb2, hbj]
        clear hb1 hb2 hbj
        have hx2 := hxr.set (.int .u8 (b1 : Nat)) (lx 54).symm
        have ho2 : Only w.heap.size wr (wr.setCell ⟨w.heap.size, j, none⟩ (.int .u8 (b1 : Nat))) := (Only.refl _ _).setCell _ _
        obtain ⟨w3, hw3⟩ : ∃ w3, wr.setCell ⟨w.heap.size, j, none⟩ (.int .u8 (b1 : Nat)) = w3 := ⟨_, rfl⟩
        rw [hw3] at hx2 ho2
        have hyr3 := hyr.only ho2 (by omega)
        have cy3 := hyr3.at (lx 92).symm
        have fy3 : w3.frozen? ⟨w1.heap.size, j, none⟩ = false := hyr3.frozen j
        have hy3 := hyr3.set (.int .u8 (b2 : Nat)) (lx 92).symm
        have ho3 : Only w1.heap.size w3 (w3.setCell ⟨w1.heap.size, j, none⟩ (.int .u8 (b2 : Nat))) := (Only.refl _ _).setCell _ _
        obtain ⟨w4, hw4⟩ : ∃ w4, w3.setCell ⟨w1.heap.size, j, none⟩ (.int .u8 (b2 : Nat)) = w4 := ⟨_, rfl⟩
        rw [hw4] at hy3 ho3
        have hx4 := hx2.only ho3 (by omega)
        have hb4 : Below w.heap.size w w4 := (hb.trans ((ho2.below (Nat.le_of_lt hxr.lt)))).trans ((ho3.below (Nat.le_of_lt hyr3.lt)).mono (by omega))
        rw [xorNext K j _ 54 hKl hlt HB1.out] at hx4
        rw [xorNext K j _ 92 hKl hlt HB2.out] at hy3
        have HF : Hid (Row w4 w.heap.size 5 (byV (xorL 54 (K.take (j + 1))) ++ List.replicate (64 - (j + 1)) (.int .u8 0)) ∧ Row w4 w1.heap.size 5 (byV (xorL 92 (K.take (j + 1))) ++ List.replicate (64 - (j + 1)) (.int .u8 0)) ∧ Below w.heap.size w w4) := ⟨hx4, hy3, hb4⟩
        clear hx hy hb hxr hyr hx2 ho2 hyr3 hy3 ho3 hx4 hb4 lx cy fy
        go_wp2_with fail
        go_roundw
        case rel => exact ⟨j + 1, by omega, by go_num, HF.out.1, HF.out.2.1, HF.out.2.2⟩
        case measure => simp [intOf]; omega
      · have jin : ¬ (j : Int) < key.size := by omega
        have hK0 : K.getD j 0 = 0 := by rw [HK.out]; exact padK_out key j (by omega)
        have HB1 : Hid (Value.int .u8 54 = .int .u8 ((K.getD j 0 ^^^ 54 : Nat) : Int)) := by show _ = _; rw [hK0]; rfl
        have HB2 : Hid (Value.int .u8 92 = .int .u8 ((K.getD j 0 ^^^ 92 : Nat) : Int)) := by show _ = _; rw [hK0]; rfl
        have bx : bits .xor .u8 0 54 = 54 := u8_xor_nat 0 54 (by decide) (by decide)
        have by' : bits .xor .u8 0 92 = 92 := u8_xor_nat 0 92 (by decide) (by decide)
        clear hK0
        have hx2 := hxr.set (.int .u8 54) (lx 54).symm
        have ho2 : Only w.heap.size wr (wr.setCell ⟨w.heap.size, j, none⟩ (.int .u8 54)) := (Only.refl _ _).setCell _ _
        obtain ⟨w3, hw3⟩ : ∃ w3, wr.setCell ⟨w.heap.size, j, none⟩ (.int .u8 54) = w3 := ⟨_, rfl⟩
        rw [hw3] at hx2 ho2
        have hyr3 := hyr.only ho2 (by omega)
        have cy3 := hyr3.at (lx 92).symm
        have fy3 : w3.frozen? ⟨w1.heap.size, j, none⟩ = false := hyr3.frozen j
        have hy3 := hyr3.set (.int .u8 92) (lx 92).symm
        have ho3 : Only w1.heap.size w3 (w3.setCell ⟨w1.heap.size, j, none⟩ (.int .u8 92)) := (Only.refl _ _).setCell _ _
        obtain ⟨w4, hw4⟩ : ∃ w4, w3.setCell ⟨w1.heap.size, j, none⟩ (.int .u8 92) = w4 := ⟨_, rfl⟩
        rw [hw4] at hy3 ho3
        have hx4 := hx2.only ho3 (by omega)
        have hb4 : Below w.heap.size w w4 := (hb.trans ((ho2.below (Nat.le_of_lt hxr.lt)))).trans ((ho3.below (Nat.le_of_lt hyr3.lt)).mono (by omega))
        rw [xorNext K j _ 54 hKl hlt HB1.out] at hx4
        rw [xorNext K j _ 92 hKl hlt HB2.out] at hy3
        have HF : Hid (Row w4 w.heap.size 5 (byV (xorL 54 (K.take (j + 1))) ++ List.replicate (64 - (j + 1)) (.int .u8 0)) ∧ Row w4 w1.heap.size 5 (byV (xorL 92 (K.take (j + 1))) ++ List.replicate (64 - (j + 1)) (.int .u8 0)) ∧ Below w.heap.size w w4) := ⟨hx4, hy3, hb4⟩
        clear hx hy hb hxr hyr hx2 ho2 hyr3 hy3 ho3 hx4 hb4 lx cy fy
        go_wp2_with fail
        go_roundw
        case rel => exact ⟨j + 1, by omega, by go_num, HF.out.1, HF.out.2.1, HF.out.2.2⟩
        case measure => simp [intOf]; omega
    · obtain rfl : j = 64 := by omega
      rw [List.take_of_length_le (by omega)] at hx hy
      have hx' : Row wr w.heap.size 5 (byV (xorL 54 K)) := by simpa using hx
      have hy' : Row wr w1.heap.size 5 (byV (xorL 92 K)) := by simpa using hy
      have hipl : (xorL 54 K).length = 64 := by rw [xorL_length]; exact hKl
      have hopl : (xorL 92 K).length = 64 := by rw [xorL_length]; exact hKl
      have hipb : Bytes (xorL 54 K) := xorL_bytes (by decide) hKb
      have hopb : Bytes (xorL 92 K) := xorL_bytes (by decide) hKb
      have HML : Hid (macL K (numsOf s) = shaL (xorL 92 K ++ shaL (xorL 54 K ++ numsOf s)) ∧ macS key s = strOfNums ((macL K (numsOf s)).map fun (x : Nat) => (x : Int))) := ⟨rfl, by
        have h1 : keyP (numsOf key) = K := by rw [HK.out, keyP, if_neg (by rw [numsOf_length]; omega)]
        rw [macS, h1]⟩
      generalize xorL 54 K = ip at *
      generalize xorL 92 K = op at *
      have hcx := fun W (h : Row W w.heap.size 5 (byV ip)) => bytes_text W w.heap.size 5 ip hipl h
      have hcy := bytes_text wr w1.heap.size 5 op hopl hy'
      obtain ⟨sx, hsx⟩ : ∃ sx, sx = strOfNums (ip.map fun (x : Nat) => (x : Int)) := ⟨_, rfl⟩
      obtain ⟨sy, hsy⟩ : ∃ sy, sy = strOfNums (op.map fun (x : Nat) => (x : Int)) := ⟨_, rfl⟩
      have hcx' := hcx wr hx'
      rw [← hsx] at hcx'
      rw [← hsy] at hcy
      have hnx : numsOf sx = ip := by rw [hsx]; exact numsOf_str ip hipb
      have hny : numsOf sy = op := by rw [hsy]; exact numsOf_str op hopb
      have hsxs : sx.size = 64 := by rw [← numsOf_length, hnx, hipl]
      have hsys : sy.size = 64 := by rw [← numsOf_length, hny, hopl]
      have H9 : Hid (Row wr w.heap.size 5 (byV ip) ∧ Row wr w1.heap.size 5 (byV op) ∧ Below w.heap.size w wr ∧ numsOf sx = ip ∧ numsOf sy = op) := ⟨hx', hy', hb, hnx, hny⟩
      obtain ⟨m1, hm1⟩ : ∃ m1, m1 = sx ++ s := ⟨_, rfl⟩
      have hadd1 : ∀ w', (Op.stringOp .add sx s).run Tryz.prog w' = .ok (.string m1) w' := fun w' => by rw [hm1]; exact run_string_add_sum (P := Tryz.prog) (w := w') sx s (by omega)
      have hm1s : m1.size < 1099511627776 := by rw [hm1, ByteArray.size_append]; omega
      obtain ⟨X1, hX1⟩ : ∃ X1, X1 = shaS (numsOf m1) := ⟨_, rfl⟩
      have hX1n : numsOf X1 = shaL (ip ++ numsOf s) := by
        rw [hX1, show numsOf (shaS (numsOf m1)) = shaL (numsOf m1) from numsOf_str _ (shaL_bytes _), hm1, numsOf_append, hnx]
      have hX1s : X1.size = 32 := by rw [← numsOf_length, hX1n, shaL_length]
      obtain ⟨m2, hm2⟩ : ∃ m2, m2 = sy ++ X1 := ⟨_, rfl⟩
      have hadd2 : ∀ w', (Op.stringOp .add sy X1).run Tryz.prog w' = .ok (.string m2) w' := fun w' => by rw [hm2]; exact run_string_add_sum (P := Tryz.prog) (w := w') sy X1 (by omega)
      have hm2s : m2.size < 1099511627776 := by rw [hm2, ByteArray.size_append]; omega
      have HX : Hid (shaS (numsOf m1) = X1 ∧ shaS (numsOf m2) = macS key s) := ⟨hX1.symm, by
        rw [HML.out.2, HML.out.1, hm2, numsOf_append, hny, hX1n]; rfl⟩
      have hcxa : ∀ W, Row W w.heap.size 5 (byV ip) → (convert 143 9 (.slice (some ⟨w.heap.size, 0, none⟩) 64 64)).run Tryz.prog W = .ok (.string sx) W := fun W h => by rw [hsx]; exact hcx W h
      have hcya : ∀ W, Row W w1.heap.size 5 (byV op) → (convert 143 9 (.slice (some ⟨w1.heap.size, 0, none⟩) 64 64)).run Tryz.prog W = .ok (.string sy) W := fun W h => by rw [hsy]; exact bytes_text W w1.heap.size 5 op hopl h
      clear hx hy hx' hy' hb hcx hsx hsy hnx hny hcx' hcy hm1 hX1 hX1n hm2
      go_wp2_with fail
      go_region_held3 (fun w' => Row w' w.heap.size 5 (byV ip) ∧ Row w' w1.heap.size 5 (byV op)) (first | exact ⟨H9.out.1, H9.out.2.1⟩ | exact ⟨hxA, hyA⟩) (first | (go_at_call 129; refine (rsum_any _ (by assumption) _).mono ?_; rintro e wA ⟨rfl, hbA⟩; (first | rw [HX.out.1] | rw [HX.out.2]); have hxA : Row wA w.heap.size 5 (byV ip) := (by first | exact hxA.below hbA hxA.lt | exact Row.below (w := wr.drew) H9.out.1 hbA H9.out.1.lt); have hyA : Row wA w1.heap.size 5 (byV op) := (by first | exact hyA.below hbA hyA.lt | exact Row.below (w := wr.drew) H9.out.2.1 hbA H9.out.2.1.lt); have hbT : Below w.heap.size w wA := (by first | exact hbT.trans (hbA.mono hbT.size) | exact H9.out.2.2.1.drew.trans (hbA.mono H9.out.2.2.1.size))))
      have HF : Hid (Below w.heap.size w wA) := hbT
      clear hbT hxA hyA
      go_wp2
      go_ret
      exact ⟨rfl, HF.out⟩
end Go.Proofs.YtoopaigpjefonaaGreatDoor.Sm

namespace Go.Proofs.YtoopaigpjefonaaGreatDoor.Sm
set_option maxRecDepth 20000
open Go.RowKit

def cutS (s : ByteArray) (n : Nat) : ByteArray := if n < s.size then s.extract 0 n else s
theorem cutS_size (s : ByteArray) (n : Nat) : (cutS s n).size ≤ n := by
  unfold cutS
  split
  · simp; omega
  · omega
end Go.Proofs.YtoopaigpjefonaaGreatDoor.Sm

namespace Go.Proofs.YtoopaigpjefonaaGreatDoor.Sm
set_option maxRecDepth 20000
open Go.RowKit

theorem keyP_sum (k : List Nat) (h : 64 < k.length) : keyP (shaL k) = keyP k := by
  unfold keyP
  rw [if_pos h, if_neg (by rw [shaL_length]; decide)]
theorem keyP_zeros (k : List Nat) (n : Nat) (h : k.length + n ≤ 64) : keyP (k ++ List.replicate n 0) = keyP k := by
  unfold keyP
  rw [if_neg (by simp; omega), if_neg (by omega), padK, padK, List.append_assoc, List.replicate_append_replicate]
  congr 2
  simp
  omega
theorem macS_sum (key s : ByteArray) (h : 64 < key.size) : macS (shaS (numsOf key)) s = macS key s := by
  unfold macS
  rw [show numsOf (shaS (numsOf key)) = shaL (numsOf key) from numsOf_str _ (shaL_bytes _), keyP_sum _ (by rw [numsOf_length]; exact h)]
def zerosS (n : Nat) : ByteArray := strOfNums (List.replicate n 0)
theorem numsOf_zerosS (n : Nat) : numsOf (zerosS n) = List.replicate n 0 := by
  simp [numsOf, zerosS, strOfNums]
theorem macS_zeros (key s : ByteArray) (n : Nat) (h : key.size + n ≤ 64) : macS (key ++ zerosS n) s = macS key s := by
  unfold macS
  rw [show numsOf (key ++ zerosS n) = numsOf key ++ List.replicate n 0 by rw [numsOf_append, numsOf_zerosS], keyP_zeros _ _ (by rw [numsOf_length]; exact h)]

end Go.Proofs.YtoopaigpjefonaaGreatDoor.Sm

namespace Go.Proofs.YtoopaigpjefonaaGreatDoor.Sm
set_option maxRecDepth 20000
open Go.RowKit

set_option maxRecDepth 10000 in
set_option maxHeartbeats 1000000 in
theorem rMac_long (key0 s : ByteArray) (hk0 : 64 < key0.size) (hk1 : key0.size < 1099511627776) (hs : s.size < 549755813888) (w0 : World) :
    Calls Tryz.prog 88 #[.string key0, .string s] w0 fun e w' => e = .returned (.string (macS key0 s)) ∧ Below w0.heap.size w0 w' := by
  obtain ⟨i0, hi, hz0, hz1, hz2⟩ := info_parts info_u8
  have h64 : (64 : Int) < key0.size := by omega
  go_enter Tryz.func88, Tryz.ntmps88
  go_wp2_with fail
  refine (rsum_any key0 hk1 w0).mono ?_
  rintro e w ⟨rfl, hb0⟩
  have HMK : Hid (macS (shaS (numsOf key0)) s = macS key0 s) := macS_sum key0 s hk0
  have hk : (shaS (numsOf key0)).size ≤ 64 := by rw [← numsOf_length, show numsOf (shaS (numsOf key0)) = shaL (numsOf key0) from numsOf_str _ (shaL_bytes _), shaL_length]; decide
  generalize shaS (numsOf key0) = key at *
  have HB0 : Hid (Below w0.heap.size w0 w) := hb0
  clear hb0
  obtain ⟨K, hK⟩ : ∃ K, K = padK (numsOf key) := ⟨_, rfl⟩
  have hKb : Bytes K := by rw [hK]; exact padK_bytes (numsOf_bytes key)
  have hKl : K.length = 64 := by rw [hK]; exact padK_length _ (by rw [numsOf_length]; exact hk)
  have HK : Hid (K = padK (numsOf key)) := hK
  clear hK
  go_wp2_with (at_make; refine wpList_make_full _ rfl _ _ 143 rfl w.heap.size 5 i0 (.int .u8 0) 1 Tryz.underlying143 hi hz0 hz1 .i64 .i64 _ _ 64 rfl rfl rfl rfl ?c1 ?c2 (Nat.le_refl _) ?_)
  case c1 => rw [hz2]; decide
  case c2 => unfold maxLen; decide
  intro w1 hown1 hgrow1
  have hb1 : Below w.heap.size w w1 := (Below.refl _ _).grown hgrow1 (Nat.le_refl _) (fun k hk => by simp at hk)
  have hx1 := made_row hown1
  clear hown1 hgrow1
  go_wp2_with (at_make; refine wpList_make_full _ rfl _ _ 143 rfl w1.heap.size 5 i0 (.int .u8 0) 1 Tryz.underlying143 hi hz0 hz1 .i64 .i64 _ _ 64 rfl rfl rfl rfl ?d1 ?d2 (Nat.le_refl _) ?_)
  case d1 => rw [hz2]; decide
  case d2 => unfold maxLen; decide
  intro w2 hown2 hgrow2
  have hb2 : Below w1.heap.size w1 w2 := (Below.refl _ _).grown hgrow2 (Nat.le_refl _) (fun k hk => by simp at hk)
  have hy2 := made_row hown2
  have hx2 := hx1.below hb2 hx1.lt
  have hXY : w.heap.size < w1.heap.size := hx1.lt
  have hb2' := hb1.trans (hb2.mono hb1.size)
  have H2 : Hid (Row w2 w.heap.size 5 (List.replicate 64 (.int .u8 0)) ∧ Row w2 w1.heap.size 5 (List.replicate 64 (.int .u8 0)) ∧ Below w.heap.size w w2) := ⟨hx2, hy2, hb2'⟩
  clear hown2 hgrow2 hx1 hx2 hy2 hb1 hb2 hb2'
  go_wp2_with fail
  go_loopw [7] (fun i wr => ∃ j : Nat, j ≤ 64 ∧ i = .int .i64 j ∧ Row wr w.heap.size 5 (byV (xorL 54 (K.take j)) ++ List.replicate (64 - j) (.int .u8 0)) ∧ Row wr w1.heap.size 5 (byV (xorL 92 (K.take j)) ++ List.replicate (64 - j) (.int .u8 0)) ∧ Below w.heap.size w wr) (fun i _ => 64 - (intOf i).toNat)
  case atStart => exact ⟨0, Nat.zero_le _, rfl, H2.out.1, H2.out.2.1, H2.out.2.2⟩
  case round =>
    clear H2
    obtain ⟨j, hj, rfl, hx, hy, hb⟩ := hrel
    by_cases hlt : j < 64
    · have j64 : (j : Int) < 64 := by omega
      have hxr := zeroRow hx hlt
      have hyr := zeroRow hy hlt
      have lx : ∀ c, (byV (xorL c (K.take j))).length = j := fun c => by simp [byV, xorL_length]; omega
      have cx := hxr.at (lx 54).symm
      have cy := hyr.at (lx 92).symm
      have fx : wr.frozen? ⟨w.heap.size, j, none⟩ = false := hx.frozen j
      have fy : wr.frozen? ⟨w1.heap.size, j, none⟩ = false := hy.frozen j
      by_cases hin : j < key.size
      · have jin : (j : Int) < key.size := by omega
        obtain ⟨b, hbj⟩ : ∃ b, b = K.getD j 0 := ⟨_, rfl⟩
        have lb : b < 256 := by rw [hbj]; exact getD_lt (by decide) hKb j
        have hkb : key[j].toNat = b := by rw [hbj, HK.out]; exact padK_in key j hin
        have bx : bits .xor .u8 (b : Int) 54 = ((b ^^^ 54 : Nat) : Int) := u8_xor_nat b 54 lb (by decide)
        have by' : bits .xor .u8 (b : Int) 92 = ((b ^^^ 92 : Nat) : Int) := u8_xor_nat b 92 lb (by decide)
        obtain ⟨b1, hb1⟩ : ∃ b1, b1 = b ^^^ 54 := ⟨_, rfl⟩
        obtain ⟨b2, hb2⟩ : ∃ b2, b2 = b ^^^ 92 := ⟨_, rfl⟩
        rw [← hb1] at bx
        rw [← hb2] at by'
        have HB1 : Hid (Value.int .u8 (b1 : Nat) = .int .u8 ((K.getD j 0 ^^^ 54 : Nat) : Int)) := by show _ = _; rw [hb1, hbj]
        have HB2 : Hid (Value.int .u8 (b2 : Nat) = .int .u8 ((K.getD j 0 ^^^ 92 : Nat) : Int)) := by show _ = _; rw [hb2, hbj]
        clear hb1 hb2 hbj
        have hx2 := hxr.set (.int .u8 (b1 : Nat)) (lx 54).symm
        have ho2 : Only w.heap.size wr (wr.setCell ⟨w.heap.size, j, none⟩ (.int .u8 (b1 : Nat))) := (Only.refl _ _).setCell _ _
        obtain ⟨w3, hw3⟩ : ∃ w3, wr.setCell ⟨w.heap.size, j, none⟩ (.int .u8 (b1 : Nat)) = w3 := ⟨_, rfl⟩
        rw [hw3] at hx2 ho2
        have hyr3 := hyr.only ho2 (by omega)
        have cy3 := hyr3.at (lx 92).symm
        have fy3 : w3.frozen? ⟨w1.heap.size, j, none⟩ = false := hyr3.frozen j
        have hy3 := hyr3.set (.int .u8 (b2 : Nat)) (lx 92).symm
        have ho3 : Only w1.heap.size w3 (w3.setCell ⟨w1.heap.size, j, none⟩ (.int .u8 (b2 : Nat))) := (Only.refl _ _).setCell _ _
        obtain ⟨w4, hw4⟩ : ∃ w4, w3.setCell ⟨w1.heap.size, j, none⟩ (.int .u8 (b2 : Nat)) = w4 := ⟨_, rfl⟩
        rw [hw4] at hy3 ho3
        have hx4 := hx2.only ho3 (by omega)
        have hb4 : Below w.heap.size w w4 := (hb.trans ((ho2.below (Nat.le_of_lt hxr.lt)))).trans ((ho3.below (Nat.le_of_lt hyr3.lt)).mono (by omega))
        rw [xorNext K j _ 54 hKl hlt HB1.out] at hx4
        rw [xorNext K j _ 92 hKl hlt HB2.out] at hy3
        have HF : Hid (Row w4 w.heap.size 5 (byV (xorL 54 (K.take (j + 1))) ++ List.replicate (64 - (j + 1)) (.int .u8 0)) ∧ Row w4 w1.heap.size 5 (byV (xorL 92 (K.take (j + 1))) ++ List.replicate (64 - (j + 1)) (.int .u8 0)) ∧ Below w.heap.size w w4) := ⟨hx4, hy3, hb4⟩
        clear hx hy hb hxr hyr hx2 ho2 hyr3 hy3 ho3 hx4 hb4 lx cy fy
        go_wp2_with fail
        go_roundw
        case rel => exact ⟨j + 1, by omega, by go_num, HF.out.1, HF.out.2.1, HF.out.2.2⟩
        case measure => simp [intOf]; omega
      · have jin : ¬ (j : Int) < key.size := by omega
        have hK0 : K.getD j 0 = 0 := by rw [HK.out]; exact padK_out key j (by omega)
        have HB1 : Hid (Value.int .u8 54 = .int .u8 ((K.getD j 0 ^^^ 54 : Nat) : Int)) := by show _ = _; rw [hK0]; rfl
        have HB2 : Hid (Value.int .u8 92 = .int .u8 ((K.getD j 0 ^^^ 92 : Nat) : Int)) := by show _ = _; rw [hK0]; rfl
        have bx : bits .xor .u8 0 54 = 54 := u8_xor_nat 0 54 (by decide) (by decide)
        have by' : bits .xor .u8 0 92 = 92 := u8_xor_nat 0 92 (by decide) (by decide)
        clear hK0
        have hx2 := hxr.set (.int .u8 54) (lx 54).symm
        have ho2 : Only w.heap.size wr (wr.setCell ⟨w.heap.size, j, none⟩ (.int .u8 54)) := (Only.refl _ _).setCell _ _
        obtain ⟨w3, hw3⟩ : ∃ w3, wr.setCell ⟨w.heap.size, j, none⟩ (.int .u8 54) = w3 := ⟨_, rfl⟩
        rw [hw3] at hx2 ho2
        have hyr3 := hyr.only ho2 (by omega)
        have cy3 := hyr3.at (lx 92).symm
        have fy3 : w3.frozen? ⟨w1.heap.size, j, none⟩ = false := hyr3.frozen j
        have hy3 := hyr3.set (.int .u8 92) (lx 92).symm
        have ho3 : Only w1.heap.size w3 (w3.setCell ⟨w1.heap.size, j, none⟩ (.int .u8 92)) := (Only.refl _ _).setCell _ _
        obtain ⟨w4, hw4⟩ : ∃ w4, w3.setCell ⟨w1.heap.size, j, none⟩ (.int .u8 92) = w4 := ⟨_, rfl⟩
        rw [hw4] at hy3 ho3
        have hx4 := hx2.only ho3 (by omega)
        have hb4 : Below w.heap.size w w4 := (hb.trans ((ho2.below (Nat.le_of_lt hxr.lt)))).trans ((ho3.below (Nat.le_of_lt hyr3.lt)).mono (by omega))
        rw [xorNext K j _ 54 hKl hlt HB1.out] at hx4
        rw [xorNext K j _ 92 hKl hlt HB2.out] at hy3
        have HF : Hid (Row w4 w.heap.size 5 (byV (xorL 54 (K.take (j + 1))) ++ List.replicate (64 - (j + 1)) (.int .u8 0)) ∧ Row w4 w1.heap.size 5 (byV (xorL 92 (K.take (j + 1))) ++ List.replicate (64 - (j + 1)) (.int .u8 0)) ∧ Below w.heap.size w w4) := ⟨hx4, hy3, hb4⟩
        clear hx hy hb hxr hyr hx2 ho2 hyr3 hy3 ho3 hx4 hb4 lx cy fy
        go_wp2_with fail
        go_roundw
        case rel => exact ⟨j + 1, by omega, by go_num, HF.out.1, HF.out.2.1, HF.out.2.2⟩
        case measure => simp [intOf]; omega
    · obtain rfl : j = 64 := by omega
      rw [List.take_of_length_le (by omega)] at hx hy
      have hx' : Row wr w.heap.size 5 (byV (xorL 54 K)) := by simpa using hx
      have hy' : Row wr w1.heap.size 5 (byV (xorL 92 K)) := by simpa using hy
      have hipl : (xorL 54 K).length = 64 := by rw [xorL_length]; exact hKl
      have hopl : (xorL 92 K).length = 64 := by rw [xorL_length]; exact hKl
      have hipb : Bytes (xorL 54 K) := xorL_bytes (by decide) hKb
      have hopb : Bytes (xorL 92 K) := xorL_bytes (by decide) hKb
      have HML : Hid (macL K (numsOf s) = shaL (xorL 92 K ++ shaL (xorL 54 K ++ numsOf s)) ∧ macS key s = strOfNums ((macL K (numsOf s)).map fun (x : Nat) => (x : Int))) := ⟨rfl, by
        have h1 : keyP (numsOf key) = K := by rw [HK.out, keyP, if_neg (by rw [numsOf_length]; omega)]
        rw [macS, h1]⟩
      generalize xorL 54 K = ip at *
      generalize xorL 92 K = op at *
      have hcx := fun W (h : Row W w.heap.size 5 (byV ip)) => bytes_text W w.heap.size 5 ip hipl h
      have hcy := bytes_text wr w1.heap.size 5 op hopl hy'
      obtain ⟨sx, hsx⟩ : ∃ sx, sx = strOfNums (ip.map fun (x : Nat) => (x : Int)) := ⟨_, rfl⟩
      obtain ⟨sy, hsy⟩ : ∃ sy, sy = strOfNums (op.map fun (x : Nat) => (x : Int)) := ⟨_, rfl⟩
      have hcx' := hcx wr hx'
      rw [← hsx] at hcx'
      rw [← hsy] at hcy
      have hnx : numsOf sx = ip := by rw [hsx]; exact numsOf_str ip hipb
      have hny : numsOf sy = op := by rw [hsy]; exact numsOf_str op hopb
      have hsxs : sx.size = 64 := by rw [← numsOf_length, hnx, hipl]
      have hsys : sy.size = 64 := by rw [← numsOf_length, hny, hopl]
      have H9 : Hid (Row wr w.heap.size 5 (byV ip) ∧ Row wr w1.heap.size 5 (byV op) ∧ Below w.heap.size w wr ∧ numsOf sx = ip ∧ numsOf sy = op) := ⟨hx', hy', hb, hnx, hny⟩
      obtain ⟨m1, hm1⟩ : ∃ m1, m1 = sx ++ s := ⟨_, rfl⟩
      have hadd1 : ∀ w', (Op.stringOp .add sx s).run Tryz.prog w' = .ok (.string m1) w' := fun w' => by rw [hm1]; exact run_string_add_sum (P := Tryz.prog) (w := w') sx s (by omega)
      have hm1s : m1.size < 1099511627776 := by rw [hm1, ByteArray.size_append]; omega
      obtain ⟨X1, hX1⟩ : ∃ X1, X1 = shaS (numsOf m1) := ⟨_, rfl⟩
      have hX1n : numsOf X1 = shaL (ip ++ numsOf s) := by
        rw [hX1, show numsOf (shaS (numsOf m1)) = shaL (numsOf m1) from numsOf_str _ (shaL_bytes _), hm1, numsOf_append, hnx]
      have hX1s : X1.size = 32 := by rw [← numsOf_length, hX1n, shaL_length]
      obtain ⟨m2, hm2⟩ : ∃ m2, m2 = sy ++ X1 := ⟨_, rfl⟩
      have hadd2 : ∀ w', (Op.stringOp .add sy X1).run Tryz.prog w' = .ok (.string m2) w' := fun w' => by rw [hm2]; exact run_string_add_sum (P := Tryz.prog) (w := w') sy X1 (by omega)
      have hm2s : m2.size < 1099511627776 := by rw [hm2, ByteArray.size_append]; omega
      have HX : Hid (shaS (numsOf m1) = X1 ∧ shaS (numsOf m2) = macS key s) := ⟨hX1.symm, by
        rw [HML.out.2, HML.out.1, hm2, numsOf_append, hny, hX1n]; rfl⟩
      have hcxa : ∀ W, Row W w.heap.size 5 (byV ip) → (convert 143 9 (.slice (some ⟨w.heap.size, 0, none⟩) 64 64)).run Tryz.prog W = .ok (.string sx) W := fun W h => by rw [hsx]; exact hcx W h
      have hcya : ∀ W, Row W w1.heap.size 5 (byV op) → (convert 143 9 (.slice (some ⟨w1.heap.size, 0, none⟩) 64 64)).run Tryz.prog W = .ok (.string sy) W := fun W h => by rw [hsy]; exact bytes_text W w1.heap.size 5 op hopl h
      clear hx hy hx' hy' hb hcx hsx hsy hnx hny hcx' hcy hm1 hX1 hX1n hm2
      go_wp2_with fail
      go_region_held3 (fun w' => Row w' w.heap.size 5 (byV ip) ∧ Row w' w1.heap.size 5 (byV op)) (first | exact ⟨H9.out.1, H9.out.2.1⟩ | exact ⟨hxA, hyA⟩) (first | (go_at_call 129; refine (rsum_any _ (by assumption) _).mono ?_; rintro e wA ⟨rfl, hbA⟩; (first | rw [HX.out.1] | rw [HX.out.2]); have hxA : Row wA w.heap.size 5 (byV ip) := (by first | exact hxA.below hbA hxA.lt | exact Row.below (w := wr.drew) H9.out.1 hbA H9.out.1.lt); have hyA : Row wA w1.heap.size 5 (byV op) := (by first | exact hyA.below hbA hyA.lt | exact Row.below (w := wr.drew) H9.out.2.1 hbA H9.out.2.1.lt); have hbT : Below w.heap.size w wA := (by first | exact hbT.trans (hbA.mono hbT.size) | exact H9.out.2.2.1.drew.trans (hbA.mono H9.out.2.2.1.size))))
      have HF : Hid (Below w.heap.size w wA) := hbT
      clear hbT hxA hyA
      go_wp2
      go_ret
      exact ⟨by rw [HMK.out]; rfl, HB0.out.trans (HF.out.mono HB0.out.size)⟩

theorem rMac_any (key s : ByteArray) (hk : key.size < 1099511627776) (hs : s.size < 549755813888) (w : World) :
    Calls Tryz.prog 88 #[.string key, .string s] w fun e w' => e = .returned (.string (macS key s)) ∧ Below w.heap.size w w' := by
  by_cases h : 64 < key.size
  · exact rMac_long key s h hk hs w
  · exact rMac_short key s (by omega) hs w
end Go.Proofs.YtoopaigpjefonaaGreatDoor.Sm

namespace Go.Proofs.YtoopaigpjefonaaGreatDoor.Sm
set_option maxRecDepth 20000
open Go.RowKit

theorem strOf_append (a b : List Nat) : strOfNums (a.map fun (x : Nat) => (x : Int)) ++ strOfNums (b.map fun (x : Nat) => (x : Int)) = strOfNums ((a ++ b).map fun (x : Nat) => (x : Int)) := by
  have h : ∀ x y : ByteArray, x.data ++ y.data = (x ++ y).data := fun x y => by simp
  apply ByteArray.ext
  rw [← h]
  simp [strOfNums]

theorem strOf_take (l : List Nat) (n : Nat) : (strOfNums (l.map fun (x : Nat) => (x : Int))).extract 0 n = strOfNums ((l.take n).map fun (x : Nat) => (x : Int)) := by
  apply ByteArray.ext
  apply Array.toList_inj.1
  rw [Lib.extract_data]
  simp [strOfNums, List.map_take]

set_option maxRecDepth 10000 in
set_option maxHeartbeats 1000000 in
theorem rExpand_in (key info : ByteArray) (n : Nat) (hn : n ≤ 8160) (hk : key.size < 1099511627776) (hi : info.size ≤ 1048576) (w : World) :
    Calls Tryz.prog 174 #[.string key, .string info, .int .i64 n] w fun e w' => e = .returned (.tuple #[.string (expS key info n), .int .i64 0]) ∧ Below w.heap.size w w' := by
  have h1 : ¬ (n : Int) < 0 := by omega
  have h2 : ¬ (8160 : Int) < n := by omega
  obtain ⟨m, hm⟩ : ∃ m, m = (n + 31) / 32 := ⟨_, rfl⟩
  have hm1 : m ≤ 255 := by omega
  have hmn : n ≤ 32 * m := by omega
  have hnm : 32 * m ≤ n + 31 := by omega
  obtain ⟨T, hT⟩ : ∃ T : Nat → List Nat, T = expT (keyP (numsOf key)) (numsOf info) := ⟨_, rfl⟩
  obtain ⟨U, hU⟩ : ∃ U : Nat → ByteArray, U = fun i => strOfNums ((T i).map fun (x : Nat) => (x : Int)) := ⟨_, rfl⟩
  obtain ⟨O, hO⟩ : ∃ O : Nat → ByteArray, O = fun j => strOfNums ((catD (fun i => T (i + 1)) j).map fun (x : Nat) => (x : Int)) := ⟨_, rfl⟩
  have hUs : ∀ i, (U i).size ≤ 32 := fun i => by rw [hU, hT]; exact tS_size _ _ i
  have hOs : ∀ j, (O j).size = 32 * j := fun j => by
    rw [hO, ← numsOf_length]
    show (numsOf (strOfNums _)).length = _
    have hb : Bytes (catD (fun i => T (i + 1)) j) := by
      induction j with
      | zero => intro x hx; simp [catD] at hx
      | succ j ih => rw [catD]; exact ih.append (by rw [hT]; exact expT_bytes _ _ _)
    rw [numsOf_str _ hb, catD_length _ (fun i => by rw [hT]; exact expT_length _ _ _)]
  have hO1 : ∀ j, O j ++ U (j + 1) = O (j + 1) := fun j => by rw [hO, hU]; exact strOf_append _ _
  have hU1 : ∀ j, j < 255 → ∀ bs : ByteArray, numsOf bs = [j + 1] → macS key (U j ++ info ++ bs) = U (j + 1) := fun j hj bs hbs => by
    rw [hU, hT, macS]
    show strOfNums _ = strOfNums _
    rw [numsOf_append, numsOf_append, show numsOf (strOfNums _) = _ from tS_nums _ _ j, hbs]
    show _ = strOfNums ((macL _ (_ ++ _ ++ [(j + 1) % 256])).map _)
    rw [Nat.mod_eq_of_lt (by omega)]
  have HX : Hid ((O m).extract 0 n = expS key info n ∧ U 0 = ByteArray.empty ∧ O 0 = ByteArray.empty) := ⟨by
    rw [hO, hT, hm]; exact strOf_take _ n, by rw [hU, hT]; rfl, by rw [hO]; rfl⟩
  have HU : Hid ((∀ j, O j ++ U (j + 1) = O (j + 1)) ∧ (∀ j, j < 255 → ∀ bs : ByteArray, numsOf bs = [j + 1] → macS key (U j ++ info ++ bs) = U (j + 1)) ∧ (∀ j, (O j).size = 32 * j)) := ⟨hO1, hU1, hOs⟩
  clear hT hU hO hO1 hU1 hOs hm
  go_enter Tryz.func174, Tryz.ntmps174
  go_wp2_with fail
  go_loopw [8, 9, 10] (fun out t i wr => ∃ j : Nat, j ≤ m ∧ i = .int .i64 ((j : Int) + 1) ∧ out = .string (O j) ∧ t = .string (U j) ∧ Below w.heap.size w wr) (fun _ _ i _ => m + 1 - (intOf i).toNat)
  case atStart => exact ⟨0, Nat.zero_le _, rfl, by rw [HX.out.2.2]; rfl, by rw [HX.out.2.1]; rfl, Below.refl _ _⟩
  case round =>
    obtain ⟨j, hj, rfl, rfl, rfl, hb⟩ := hrel
    have hsj := HU.out.2.2 j
    by_cases hlt : j < m
    · obtain ⟨Oj, hOj⟩ : ∃ Oj, Oj = O j := ⟨_, rfl⟩
      obtain ⟨Uj, hUj⟩ : ∃ Uj, Uj = U j := ⟨_, rfl⟩
      have hUjs := hUs j
      rw [← hOj] at hsj
      rw [← hUj] at hUjs
      rw [← hOj, ← hUj]
      have hjn : ((Oj.size : Nat) : Int) < n := by omega
      have HJ : Hid (Oj = O j ∧ Uj = U j ∧ Oj.size = 32 * j) := ⟨hOj, hUj, hsj⟩
      clear hOj hUj hsj
      have zi : IntKind.u8.wrap ((j : Int) + 1) = j + 1 := by rw [IntKind.wrap_u8]; omega
      have hcv := run_convert_bytes_arg (P := Tryz.prog) (wr.alloc (.cells #[.int .u8 ((j : Int) + 1)] 5)) 143 5 Tryz.underlying143 Tryz.underlying5 wr.heap.size 0 1 1 [(j : Int) + 1] rfl (fun i hi => by
        obtain rfl : i = 0 := by omega
        exact (cell_of_row _ _ _ _ _ _ (heap_alloc_new wr _))) 9 Tryz.underlying9
      obtain ⟨bs, hbs⟩ : ∃ bs, bs = strOfNums [(j : Int) + 1] := ⟨_, rfl⟩
      rw [← hbs] at hcv
      have hbn : numsOf bs = [j + 1] := by rw [hbs]; exact numsOf_str [j + 1] (fun x hx => by rw [List.mem_singleton] at hx; omega)
      have hbl : bs.size = 1 := by rw [← numsOf_length, hbn]; rfl
      obtain ⟨q1, hq1⟩ : ∃ q1, q1 = Uj ++ info := ⟨_, rfl⟩
      have hadd1 : ∀ w', (Op.stringOp .add Uj info).run Tryz.prog w' = .ok (.string q1) w' := fun w' => by rw [hq1]; exact run_string_add_sum (P := Tryz.prog) (w := w') Uj info (by omega)
      have hq1s : q1.size ≤ 1048608 := by rw [hq1, ByteArray.size_append]; omega
      obtain ⟨q2, hq2⟩ : ∃ q2, q2 = q1 ++ bs := ⟨_, rfl⟩
      have hadd2 : ∀ w', (Op.stringOp .add q1 bs).run Tryz.prog w' = .ok (.string q2) w' := fun w' => by rw [hq2]; exact run_string_add_sum (P := Tryz.prog) (w := w') q1 bs (by omega)
      have hq2s : q2.size ≤ 1048609 := by rw [hq2, ByteArray.size_append]; omega
      have HQ : Hid (macS key q2 = U (j + 1)) := by
        show _ = _
        rw [hq2, hq1, HJ.out.2.1]
        exact HU.out.2.1 j (by omega) bs hbn
      have hb1 := hb.alloc hb.size (.cells #[.int .u8 ((j : Int) + 1)] 5)
      clear hbs hbn hq1 hq2 hb
      go_wp2_with fail
      first
        | (rw [hcv]; go_wp2_with fail)
        | skip
      refine (rMac_any key q2 hk (by omega) _).mono ?_
      rintro e w2 ⟨rfl, hb2⟩
      rw [HQ.out]
      have hb2' := hb1.trans (hb2.mono hb1.size)
      clear hb1 hb2 HQ hcv hadd1 hadd2
      obtain ⟨Un, hUn⟩ : ∃ Un, Un = U (j + 1) := ⟨_, rfl⟩
      obtain ⟨On, hOn⟩ : ∃ On, On = O (j + 1) := ⟨_, rfl⟩
      have hUns : Un.size ≤ 32 := by rw [hUn]; exact hUs _
      have hadd3 : ∀ w', (Op.stringOp .add Oj Un).run Tryz.prog w' = .ok (.string On) w' := fun w' => by
        rw [hOn, ← HU.out.1 j, hUn, ← HJ.out.1]
        rw [← hUn]
        exact run_string_add_sum (P := Tryz.prog) (w := w') Oj Un (by omega)
      rw [← hUn]
      have HN : Hid (Un = U (j + 1) ∧ On = O (j + 1)) := ⟨hUn, hOn⟩
      clear hUn hOn
      go_wp2
      go_roundw
      case rel => exact ⟨j + 1, by omega, by go_num, by rw [HN.out.2], by rw [HN.out.1], hb2'⟩
      case measure => simp [intOf]; omega
    · obtain rfl : j = m := by omega
      obtain ⟨Oj, hOj⟩ : ∃ Oj, Oj = O j := ⟨_, rfl⟩
      rw [← hOj] at hsj
      rw [← hOj]
      have hjn : ¬ ((Oj.size : Nat) : Int) < n := by omega
      have hnO : (n : Int) ≤ Oj.size := by omega
      have HX2 : Hid (Oj.extract 0 n = expS key info n) := by show _ = _; rw [hOj]; exact HX.out.1
      clear hOj hsj
      go_wp2
      go_ret2
      exact ⟨by first | (rw [HX2.out]; rfl) | (rw [← HX2.out]; rfl), hb⟩

theorem rExpand_out (key info : ByteArray) (n : Int) (hn : n < 0 ∨ 8160 < n) (w : World) :
    Calls Tryz.prog 174 #[.string key, .string info, .int .i64 n] w fun e w' => e = .returned (.tuple #[.string ⟨#[]⟩, .int .i64 1]) ∧ Below w.heap.size w w' := by
  rcases hn with h | h
  · go_enter Tryz.func174, Tryz.ntmps174
    go_wp2
    go_ret2
    exact ⟨rfl, Below.refl _ _⟩
  · have h1 : ¬ n < 0 := by omega
    go_enter Tryz.func174, Tryz.ntmps174
    go_wp2
    go_ret2
    exact ⟨rfl, Below.refl _ _⟩
end Go.Proofs.YtoopaigpjefonaaGreatDoor.Sm
