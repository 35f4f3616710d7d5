/- sum.keyOf of a key of over 64 bytes: the two mixes that have taken its sum. · sum.New: a mix of nothing yet, in a block of its own. · Mixes and slices of texts, for the laws that feed part by part. · (*sum.macKey).mac: the HMAC of the parts, one behind the other. -/
import Derived.Test.YtoopaigpjefonaaGreatDoorMg31
namespace Go.Proofs.YtoopaigpjefonaaGreatDoor.Sm
set_option maxRecDepth 20000
open Go.RowKit

set_option maxRecDepth 10000 in
set_option maxHeartbeats 1000000 in
theorem keyOf_long (s0 : ByteArray) (hs0 : 64 < s0.size) (hs1 : s0.size < 1099511627776) (w : World) (hf : First w) (hq : Cubes w) :
    Calls Tryz.prog 84 #[.string s0] w fun e w' => ∃ R1 R2, RestOk R1 ∧ RestOk R2 ∧ e = .returned (.agg (keyV (padK (shaL (numsOf s0))) R1 R2).toArray) ∧ Below w.heap.size w w' := by
  have h1 : (64 : Int) < s0.size := by omega
  obtain ⟨zb, hzb⟩ : ∃ zb : Array Value, zb = (List.replicate 64 (Value.int .u8 0)).toArray := ⟨_, rfl⟩
  have hzv : ∀ w, (zeroValue 164).run Tryz.prog w = .ok (.agg zb) w := by rw [hzb]; exact (zero_of_info (n := 64) (by kernel_rfl)).1
  have hzn : zb.size = 64 := by rw [hzb]; rfl
  obtain ⟨zk, hzk⟩ : ∃ zk : Array Value, zk = (mixZ ++ mixZ).toArray := ⟨_, rfl⟩
  have hkv : ∀ w, (zeroValue 168).run Tryz.prog w = .ok (.agg zk) w := by rw [hzk]; exact (zero_of_info (n := 150) (by kernel_rfl)).1
  have hkn : zk.size = 150 := by rw [hzk]; rfl
  have hA : Below w.heap.size w (w.alloc (.cells zk 168)) := (Below.refl _ _).alloc (Nat.le_refl _) _
  have hkA : Row (w.alloc (.cells zk 168)) w.heap.size 168 (mixZ ++ mixZ) := by rw [hzk]; exact heap_alloc_new w _
  have hfA : First (w.alloc (.cells zk 168)) := hf.below hA hf.1
  have hqA : Cubes (w.alloc (.cells zk 168)) := hq.below hA hq.1
  have HS : Hid (Calls Tryz.prog 124 #[.string s0] (w.alloc (.cells zk 168)) fun e w' => e = .returned (.string (shaS (numsOf s0))) ∧ Below (w.alloc (.cells zk 168)).heap.size (w.alloc (.cells zk 168)) w') := sum_any s0 hs1 _ hfA hqA
  have HZK : Hid (zk = (mixZ ++ mixZ).toArray ∧ zb = (List.replicate 64 (Value.int .u8 0)).toArray) := ⟨hzk, hzb⟩
  clear hzk hzb
  go_enter Tryz.func84, Tryz.ntmps84
  go_wp2_with fail
  refine HS.out.mono ?_
  rintro e wB ⟨rfl, hbB⟩
  obtain ⟨s, hsd⟩ : ∃ s, s = shaS (numsOf s0) := ⟨_, rfl⟩
  have hns : numsOf s = shaL (numsOf s0) := by rw [hsd]; exact numsOf_str _ (shaL_bytes _)
  have hs : s.size ≤ 64 := by rw [← numsOf_length, hns, shaL_length]; decide
  rw [← hsd]
  have HNS : Hid (numsOf s = shaL (numsOf s0)) := hns
  clear hsd hns HS
  obtain ⟨H, hH⟩ : ∃ H, H = w.heap.size := ⟨_, rfl⟩
  obtain ⟨X, hX⟩ : ∃ X, X = wB.heap.size := ⟨_, rfl⟩
  have hHX : H < X := by have := hbB.size; simp at this; omega
  have hx0 : Row ((wB.alloc (.cells zb 164)).alloc (.cells zb 164)) X 164 (List.replicate 64 (Value.int .u8 0)) := by
    rw [hX, HZK.out.2]; exact heap_alloc2_old wB _ _
  have hy0 : Row ((wB.alloc (.cells zb 164)).alloc (.cells zb 164)) (X + 1) 164 (List.replicate 64 (Value.int .u8 0)) := by
    rw [hX, HZK.out.2]; exact heap_alloc2_new wB _ _
  have hbC : Below wB.heap.size wB ((wB.alloc (.cells zb 164)).alloc (.cells zb 164)) := ((Below.refl _ _).alloc (Nat.le_refl _) _).alloc (by simp) _
  have hk0 : Row ((wB.alloc (.cells zb 164)).alloc (.cells zb 164)) H 168 (mixZ ++ mixZ) := by
    rw [← hH] at hkA
    exact (hkA.below hbB (by simp; omega)).below hbC (by omega)
  have hb0 : Below H w ((wB.alloc (.cells zb 164)).alloc (.cells zb 164)) := by
    rw [← hH] at hA
    exact (hA.trans (hbB.mono (by simp; omega))).trans (hbC.mono (by omega))
  clear hA hkA hfA hqA hbB hbC
  obtain ⟨w0, hw0⟩ : ∃ w0, (wB.alloc (.cells zb 164)).alloc (.cells zb 164) = w0 := ⟨_, rfl⟩
  rw [hw0] at hx0 hy0 hk0 hb0
  -- the first copy
  have hn : (byV (numsOf s)).length = s.size := by simp [byV, numsOf_length]
  have hv : (s.data.toList.map fun x => Value.int .u8 (x.toNat : Int)) = byV (numsOf s) := by simp [byV, numsOf]
  have hpk : byV (padK (numsOf s)) = byV (numsOf s) ++ List.replicate (64 - s.size) (Value.int .u8 0) := by rw [padK, byV_append, byV_zeros, numsOf_length]
  have hrep : List.replicate 64 (Value.int .u8 0) = [] ++ List.replicate s.size (Value.int .u8 0) ++ List.replicate (64 - s.size) (Value.int .u8 0) := by
    rw [List.nil_append, List.replicate_append_replicate]; congr 1; omega
  have hcp := run_copy_string (P := Tryz.prog) w0 143 9 3 5 (X) 0 64 64 s Tryz.underlying143 size_u8 hs (fun j hj => by
    rw [hx0.cell, List.getElem?_eq_getElem (by simp; omega)]; rfl) (fun j _ => hx0.frozen _)
  rw [hv] at hcp
  have hx1 : Row (w0.setCells (X) 0 (byV (numsOf s))) (X) 164 (byV (padK (numsOf s))) := by
    rw [hrep] at hx0
    have := Row.setCells (byV (numsOf s)) _ _ w0 0 (by rw [hn]; simp) rfl hx0
    rw [hpk]; simpa using this
  have ho1 : Only (X) w0 (w0.setCells (X) 0 (byV (numsOf s))) := Only.setCells _ _ _ (Only.refl _ _)
  obtain ⟨w1, hw1⟩ : ∃ w1, w0.setCells (X) 0 (byV (numsOf s)) = w1 := ⟨_, rfl⟩
  rw [hw1] at hcp hx1 ho1
  have hy1 := hy0.only ho1 (by omega)
  have hk1 := hk0.only ho1 (by omega)
  -- the second copy
  have hcp2 := run_copy_string (P := Tryz.prog) w1 143 9 3 5 (X + 1) 0 64 64 s Tryz.underlying143 size_u8 hs (fun j hj => by
    rw [hy1.cell, List.getElem?_eq_getElem (by simp; omega)]; rfl) (fun j _ => hy1.frozen _)
  rw [hv] at hcp2
  have hy2 : Row (w1.setCells (X + 1) 0 (byV (numsOf s))) (X + 1) 164 (byV (padK (numsOf s))) := by
    rw [hrep] at hy1
    have := Row.setCells (byV (numsOf s)) _ _ w1 0 (by rw [hn]; simp) rfl hy1
    rw [hpk]; simpa using this
  have ho2 : Only (X + 1) w1 (w1.setCells (X + 1) 0 (byV (numsOf s))) := Only.setCells _ _ _ (Only.refl _ _)
  obtain ⟨w2, hw2⟩ : ∃ w2, w1.setCells (X + 1) 0 (byV (numsOf s)) = w2 := ⟨_, rfl⟩
  rw [hw2] at hcp2 hy2 ho2
  have hx2 := hx1.only ho2 (by omega)
  have hk2 := hk1.only ho2 (by omega)
  have hb2 : Below H w w2 := (hb0.trans ((ho1.below (Nat.le_of_lt hx0.lt)).mono (by omega))).trans ((ho2.below (Nat.le_of_lt hy1.lt)).mono (by omega))
  obtain ⟨K, hK⟩ : ∃ K, K = padK (numsOf s) := ⟨_, rfl⟩
  have hKb : Bytes K := by rw [hK]; exact padK_bytes (numsOf_bytes s)
  have hKl : K.length = 64 := by rw [hK]; exact padK_length _ (by rw [numsOf_length]; exact hs)
  rw [← hK] at hx2 hy2
  have HW : Hid (H = w.heap.size ∧ K = padK (numsOf s) ∧ Row w2 (X) 164 (byV K) ∧ Row w2 (X + 1) 164 (byV K) ∧ Row w2 H 168 (mixZ ++ mixZ) ∧ Below H w w2) := ⟨hH, hK, hx2, hy2, hk2, hb2⟩
  have hHs : w.heap.size = H := hH.symm
  have hXs : wB.heap.size = X := hX.symm
  clear hx0 hy0 hk0 hb0 hx1 hy1 hk1 ho1 ho2 hx2 hy2 hk2 hb2 hw1 hw2 hn hv hpk hrep hK hH hX
  go_wp2_with fail
  go_loopw [18] (fun i wr => ∃ j : Nat, j ≤ 64 ∧ i = .int .i64 j ∧ Row wr (X) 164 (byV (xorL 54 (K.take j) ++ K.drop j)) ∧ Row wr (X + 1) 164 (byV (xorL 92 (K.take j) ++ K.drop j)) ∧ Row wr H 168 (mixZ ++ mixZ) ∧ Below H w wr) (fun i _ => 64 - (intOf i).toNat)
  case atStart => exact ⟨0, Nat.zero_le _, rfl, HW.out.2.2.1, HW.out.2.2.2.1, HW.out.2.2.2.2.1, HW.out.2.2.2.2.2⟩
  case round =>
    obtain ⟨j, hj, rfl, hx, hy, hk, hb⟩ := hrel
    by_cases hlt : j < 64
    · obtain ⟨b, hbj⟩ : ∃ b, b = K.getD j 0 := ⟨_, rfl⟩
      have lb : b < 256 := by rw [hbj]; exact getD_lt (by decide) hKb j
      have hxr := (xorRow hx hKl hlt)
      have hyr := (xorRow hy hKl hlt)
      rw [← hbj] at hxr hyr
      have lx : ∀ c, (byV (xorL c (K.take j))).length = j := fun c => by simp [byV, xorL_length]; omega
      have cx := hxr.at (lx 54).symm
      have cy := hyr.at (lx 92).symm
      have fx : wr.frozen? ⟨X, j, none⟩ = false := hx.frozen j
      have fy : wr.frozen? ⟨X + 1, j, none⟩ = false := hy.frozen j
      have bx : bits .xor .u8 (b : Int) 54 = ((b ^^^ 54 : Nat) : Int) := u8_xor_nat b 54 lb (by decide)
      have by' : bits .xor .u8 (b : Int) 92 = ((b ^^^ 92 : Nat) : Int) := u8_xor_nat b 92 lb (by decide)
      obtain ⟨b1, hb1⟩ : ∃ b1, b1 = b ^^^ 54 := ⟨_, rfl⟩
      obtain ⟨b2, hb2⟩ : ∃ b2, b2 = b ^^^ 92 := ⟨_, rfl⟩
      rw [← hb1] at bx
      rw [← hb2] at by'
      have hx2 := hxr.set (.int .u8 (b1 : Nat)) (lx 54).symm
      have ho2 : Only (X) wr (wr.setCell ⟨X, j, none⟩ (.int .u8 (b1 : Nat))) := (Only.refl _ _).setCell _ _
      obtain ⟨w3, hw3⟩ : ∃ w3, wr.setCell ⟨X, j, none⟩ (.int .u8 (b1 : Nat)) = w3 := ⟨_, rfl⟩
      rw [hw3] at hx2 ho2
      have hyr3 := hyr.only ho2 (by omega)
      have cy3 := hyr3.at (lx 92).symm
      have fy3 : w3.frozen? ⟨X + 1, j, none⟩ = false := hyr3.frozen j
      have hy3 := hyr3.set (.int .u8 (b2 : Nat)) (lx 92).symm
      have ho3 : Only (X + 1) w3 (w3.setCell ⟨X + 1, j, none⟩ (.int .u8 (b2 : Nat))) := (Only.refl _ _).setCell _ _
      obtain ⟨w4, hw4⟩ : ∃ w4, w3.setCell ⟨X + 1, j, none⟩ (.int .u8 (b2 : Nat)) = w4 := ⟨_, rfl⟩
      rw [hw4] at hy3 ho3
      have hx4 := hx2.only ho3 (by omega)
      have hk4 := (hk.only ho2 (by omega)).only ho3 (by omega)
      have hb4 : Below H w w4 := (hb.trans ((ho2.below (Nat.le_of_lt hxr.lt)).mono (by omega))).trans ((ho3.below (Nat.le_of_lt hyr3.lt)).mono (by omega))
      rw [xorStep K j b b1 54 hKl hlt hbj hb1] at hx4
      rw [xorStep K j b b2 92 hKl hlt hbj hb2] at hy3
      have HF : Hid (Row w4 (X) 164 (byV (xorL 54 (K.take (j + 1)) ++ K.drop (j + 1))) ∧ Row w4 (X + 1) 164 (byV (xorL 92 (K.take (j + 1)) ++ K.drop (j + 1))) ∧ Row w4 H 168 (mixZ ++ mixZ) ∧ Below H w w4) := ⟨hx4, hy3, hk4, hb4⟩
      have j64 : (j : Int) < 64 := by omega
      clear hx hy hk hb hxr hyr hx2 ho2 hyr3 hy3 ho3 hx4 hk4 hb4 hb1 hb2 hbj lx cy fy
      go_wp2_with fail
      go_roundw
      case rel => exact ⟨j + 1, by omega, by go_num, HF.out.1, HF.out.2.1, HF.out.2.2.1, HF.out.2.2.2⟩
      case measure => simp [intOf]; omega
    · obtain rfl : j = 64 := by omega
      rw [List.take_of_length_le (by omega), List.drop_eq_nil_of_le (by omega), List.append_nil] at hx hy
      have HF : Hid (Row wr (X) 164 (byV (xorL 54 K)) ∧ Row wr (X + 1) 164 (byV (xorL 92 K)) ∧ Row wr H 168 (mixZ ++ mixZ) ∧ Below H w wr) := ⟨hx, hy, hk, hb⟩
      clear hx hy hk hb
      have hst := fun w' (h : First w') => start_any w' h
      obtain ⟨ms, hms⟩ : ∃ ms, ms = (mixV st0 (List.replicate 64 (.int .u8 0)) 0 0).toArray := ⟨_, rfl⟩
      rw [← hms] at hst
      have HST : Hid (∀ w', First w' → Calls Tryz.prog 125 #[] w' fun e w'' => e = .returned (.agg ms) ∧ Below w'.heap.size w' w'') := hst
      have hmn : ms.size = 75 := by rw [hms]; rfl
      obtain ⟨k1, hk1⟩ : ∃ k1, k1 = (mix0 ++ mixZ).toArray := ⟨_, rfl⟩
      obtain ⟨k2, hk2⟩ : ∃ k2, k2 = (mix0 ++ mix0).toArray := ⟨_, rfl⟩
      have hfo1 : Array.foldl (fun cs x => cs.setIfInBounds x.snd x.fst) zk ms.zipIdx 0 75 = k1 := by rw [hk1, hms, HZK.out.1]; exact fold_one
      have hfo2 : Array.foldl (fun cs x => cs.setIfInBounds (75 + x.snd) x.fst) k1 ms.zipIdx 0 75 = k2 := by rw [hk1, hk2, hms]; exact fold_two
      have hk1n : k1.size = 150 := by rw [hk1]; rfl
      have hk2n : k2.size = 150 := by rw [hk2]; rfl
      have hone : k2.all (·.oneCell') = true := by rw [hk2]; exact mix0_one
      have hinfo : (Tryz.prog.info? 168).map (·.size) = some k2.size := by rw [hk2n]; kernel_rfl
      have hs0 : zk.size = k2.size := by rw [hkn, hk2n]
      have HK2 : Hid (k2 = (mix0 ++ mix0).toArray) := hk2
      clear hst hms hk1 hk2
      have hbw := HF.out.2.2.2
      have hfr : First wr := hf.below hbw (by have := hf.1; omega)
      go_wp2_with fail
      refine (HST.out wr hfr).mono ?_
      rintro e w5 ⟨rfl, hb5⟩
      have hf5 : First w5 := hfr.below hb5 hfr.1
      go_wp2_with fail
      refine (HST.out w5 hf5).mono ?_
      rintro e w6 ⟨rfl, hb6⟩
      have hb6' := hb5.trans (hb6.mono hb5.size)
      clear hb5 hb6 hf5
      go_wp2_with (refine wpList_store_row rfl 168 _ _ rfl w6.heap.size k2 rfl rfl 168 _ (heap_alloc_new w6 _) hinfo hs0 hone ?_)
      rw [World.setRow_alloc_new]
      have k7 : Row (w6.alloc (.cells k2 168)) w6.heap.size 168 (mix0 ++ mix0) := by rw [HK2.out]; exact heap_alloc_new w6 _
      have hb7 := hb6'.alloc hb6'.size (.cells k2 168)
      obtain ⟨KB, hKB⟩ : ∃ KB, KB = w6.heap.size := ⟨_, rfl⟩
      have hKB1 : wr.heap.size ≤ KB := by rw [hKB]; exact hb6'.size
      rw [← hKB] at k7
      rw [← hKB]
      obtain ⟨w7, hw7⟩ : ∃ w7, w6.alloc (.cells k2 168) = w7 := ⟨_, rfl⟩
      rw [hw7] at k7 hb7
      rw [hw7]
      clear hw7 hKB hb6' hinfo hs0 hone hk1n hfo1 hfo2 HST hmn hk2n
      have hx7 := HF.out.1.below hb7 HF.out.1.lt
      have hy7 := HF.out.2.1.below hb7 HF.out.2.1.lt
      have hH7 := HF.out.2.2.1.below hb7 HF.out.2.2.1.lt
      have hq7 : Cubes w7 := (hq.below hbw (by have := hq.1; omega)).below hb7 (hq.below hbw (by have := hq.1; omega)).1
      have hb7w : Below H w w7 := hbw.trans (hb7.mono (by have := hbw.size; omega))
      have hmi : MixIn w7 KB 168 [] mix0 [] 0 := ⟨List.replicate 64 (.int .u8 0), rfl, zeros_one, k7⟩
      have hipl : (xorL 54 K).length = 64 := by rw [xorL_length]; exact hKl
      have hopl : (xorL 92 K).length = 64 := by rw [xorL_length]; exact hKl
      have hipb : Bytes (xorL 54 K) := xorL_bytes (by decide) hKb
      have hopb : Bytes (xorL 92 K) := xorL_bytes (by decide) hKb
      obtain ⟨ip, hip⟩ : ∃ ip, ip = xorL 54 K := ⟨_, rfl⟩
      obtain ⟨op, hop⟩ : ∃ op, op = xorL 92 K := ⟨_, rfl⟩
      rw [← hip] at hx7 hipl hipb
      rw [← hop] at hy7 hopl hopb
      have hKB2 : X + 1 < KB := by have := HF.out.2.1.lt; omega
      have hB1 : 2 < KB := by have := hq.1; omega
      have hcvx := bytes_text w7 (X) 164 ip hipl hx7
      obtain ⟨sx, hsx⟩ : ∃ sx, sx = strOfNums (ip.map fun (x : Nat) => (x : Int)) := ⟨_, rfl⟩
      have hnx : numsOf sx = ip := by rw [hsx]; exact numsOf_str ip hipb
      rw [← hsx] at hcvx
      have H7 : Hid (MixIn w7 KB 168 [] mix0 [] 0 ∧ Row w7 (X + 1) 164 (byV op) ∧ Row w7 H 168 (mixZ ++ mixZ) ∧ Cubes w7 ∧ Below H w w7 ∧ numsOf sx = ip ∧ ip = xorL 54 K ∧ op = xorL 92 K) := ⟨hmi, hy7, hH7, hq7, hb7w, hnx, hip, hop⟩
      clear hx7 hy7 hH7 hq7 hb7w hmi hip hop hsx hnx k7 hb7 hbw
      have hsz : sx.size = 64 := by rw [← numsOf_length, H7.out.2.2.2.2.2.1, hipl]
      go_wp2_with fail
      rw [hcvx]
      go_wp2_with fail
      refine (feed_mid KB 0 168 [] mix0 rfl [] (fun x hx => by simp at hx) sx (by simp; omega) w7 H7.out.2.2.2.1 hB1 H7.out.1).mono ?_
      rintro e w8 ⟨rfl, hm8, ho8⟩
      rw [List.nil_append, H7.out.2.2.2.2.2.1] at hm8
      have hy8 := H7.out.2.1.only ho8 (by omega)
      have hH8 := H7.out.2.2.1.only ho8 (by omega)
      have hq8 := H7.out.2.2.2.1.only ho8 hB1
      obtain ⟨R1, hR1, hR1o, hr8⟩ := hm8
      have hb8w : Below H w w8 := H7.out.2.2.2.2.1.trans ((ho8.below (mixIn_le H7.out.1)).mono (by omega))
      rw [hipl] at hr8 hR1
      have hd1 : ip.drop (64 * (64 / 64)) = [] := List.drop_eq_nil_of_le (by omega)
      rw [hd1] at hr8
      have hA75 : (mixV (absorb ip (64 / 64)) (byV [] ++ R1) (64 % 64) 64).length = 75 := by simp [mixV, mixA, mixT, byV, hR1]
      have hmo : MixIn w8 KB 168 (mixV (absorb ip (64 / 64)) (byV [] ++ R1) (64 % 64) 64) [] [] 0 := ⟨List.replicate 64 (.int .u8 0), rfl, zeros_one, by
        rw [List.append_nil]
        exact hr8⟩
      obtain ⟨AA, hAA⟩ : ∃ AA, AA = mixV (absorb ip (64 / 64)) (byV [] ++ R1) (64 % 64) 64 := ⟨_, rfl⟩
      rw [← hAA] at hmo hA75
      have hcvy := bytes_text w8 (X + 1) 164 op hopl hy8
      obtain ⟨sy, hsy⟩ : ∃ sy, sy = strOfNums (op.map fun (x : Nat) => (x : Int)) := ⟨_, rfl⟩
      have hny : numsOf sy = op := by rw [hsy]; exact numsOf_str op hopb
      rw [← hsy] at hcvy
      have H8 : Hid (MixIn w8 KB 168 AA [] [] 0 ∧ Row w8 H 168 (mixZ ++ mixZ) ∧ Cubes w8 ∧ Below H w w8 ∧ numsOf sy = op ∧ AA = mixV (absorb ip (64 / 64)) (byV [] ++ R1) (64 % 64) 64 ∧ 75 = AA.length) := ⟨hmo, hH8, hq8, hb8w, hny, hAA, hA75.symm⟩
      clear hy8 hH8 hq8 hr8 hb8w hd1 hA75 hmo hAA hsy hny ho8 hcvx
      have hszy : sy.size = 64 := by rw [← numsOf_length, H8.out.2.2.2.2.1, hopl]
      go_wp2_with fail
      refine (feed_mid KB 75 168 AA [] H8.out.2.2.2.2.2.2 [] (fun x hx => by simp at hx) sy (by simp; omega) w8 H8.out.2.2.1 hB1 H8.out.1).mono ?_
      rintro e w9 ⟨rfl, hm9, ho9⟩
      rw [List.nil_append, H8.out.2.2.2.2.1] at hm9
      have hH9 := H8.out.2.1.only ho9 (by omega)
      obtain ⟨R2, hR2, hR2o, hr9⟩ := hm9
      have hb9w : Below H w w9 := H8.out.2.2.2.1.trans ((ho9.below (mixIn_le H8.out.1)).mono (by omega))
      rw [hopl] at hr9 hR2
      have hd2 : op.drop (64 * (64 / 64)) = [] := List.drop_eq_nil_of_le (by omega)
      rw [hd2, List.append_nil] at hr9
      obtain ⟨cs, hcs⟩ : ∃ cs, cs = (AA ++ mixV (absorb op (64 / 64)) (byV [] ++ R2) (64 % 64) 64).toArray := ⟨_, rfl⟩
      have hk9 : w9.heap[KB]? = some (.cells cs 168 (0, 0)) := by rw [hcs]; exact hr9
      have hcn : cs.size = 150 := by
        have := H8.out.2.2.2.2.2.2
        rw [hcs]; simp [mixV, mixA, mixT, byV, hR2]; omega
      have hone : cs.all (·.oneCell') = true := by rw [hcs]; rw [H8.out.2.2.2.2.2.1]; exact key_one ip op R1 R2 hR1o hR2o
      have HCS : Hid (cs = (keyV (padK (shaL (numsOf s0))) R1 R2).toArray ∧ RestOk R1 ∧ RestOk R2) := ⟨by
        rw [hcs, H8.out.2.2.2.2.2.1, H7.out.2.2.2.2.2.2.1, H7.out.2.2.2.2.2.2.2, HW.out.2.1, HNS.out]; rfl, ⟨hR1, hR1o⟩, ⟨hR2, hR2o⟩⟩
      have hinfo : (Tryz.prog.info? 168).map (·.size) = some cs.size := by rw [hcn]; kernel_rfl
      have hH9' : w9.heap[H]? = some (.cells (mixZ ++ mixZ).toArray 168 (0, 0)) := hH9
      have hs0 : (mixZ ++ mixZ).toArray.size = cs.size := by rw [hcn]; rfl
      have hba := below_rowH hb9w (Nat.le_refl H) cs
      have hl0 := run_loadVar_row (P := Tryz.prog) (w9.setRow H cs) H 168 168 cs (0, 0) _ (setRow_heap _ _ _ _ _ _ hH9') Tryz.underlying168 rfl hinfo
      have HB : Hid (Below w.heap.size w (w9.setRow H cs)) := by
        show Below _ _ _
        rw [← HW.out.1]
        exact hba
      clear hr9 hR2 hd2 hcs hb9w ho9 hba hcvy hH9
      go_wp2_with (first | refine wpList_load_row rfl 168 _ rfl KB rfl 168 _ (0, 0) _ hk9 Tryz.underlying168 rfl hinfo ?_ | refine wpList_store_row rfl 168 _ _ rfl H cs rfl rfl 168 _ hH9' hinfo hs0 hone ?_)
      exact bodyPost_ret (v := .agg cs) (by simp [results, Tryz.results84, asAddr, Act.put, hl0]) rfl ⟨R1, R2, HCS.out.2.1, HCS.out.2.2, by rw [HCS.out.1], HB.out⟩
end Go.Proofs.YtoopaigpjefonaaGreatDoor.Sm

namespace Go.Proofs.YtoopaigpjefonaaGreatDoor.Sm
set_option maxRecDepth 20000
open Go.RowKit

end Go.Proofs.YtoopaigpjefonaaGreatDoor.Sm

namespace Go.Proofs.YtoopaigpjefonaaGreatDoor.Sm
set_option maxRecDepth 20000
open Go.RowKit

theorem numsOf_append (s t : ByteArray) : numsOf (s ++ t) = numsOf s ++ numsOf t := by
  simp [numsOf]

/-- A slice of n texts, S 0, S 1 and so on; if it is empty, wherever it lies. -/
def Strs (w : World) (v : Value) (n : Nat) (S : Nat → ByteArray) : Prop :=
  ∃ a cap, v = .slice a n cap ∧ n ≤ maxLen ∧ (n = 0 ∨ ∃ b off, a = some ⟨b, off, none⟩ ∧ b < w.heap.size ∧ ∀ i, i < n → w.cell? ⟨b, off + i, none⟩ = some (.string (S i)))

theorem mixAt_only {w w' : World} {B C : Nat} {l : List Nat} {n : Nat} (h : MixAt w C l n) (ho : Only B w w') (hne : C ≠ B) : MixAt w' C l n := by
  obtain ⟨R, hR, hr⟩ := h
  exact ⟨R, hR, hr.only ho hne⟩
theorem mixAt_below {w w' : World} {B : Nat} {l : List Nat} {n : Nat} (h : MixAt w B l n) (hb : Below w.heap.size w w') : MixAt w' B l n := by
  obtain ⟨R, hR, hr⟩ := h
  exact ⟨R, hR, hr.below hb hr.lt⟩
theorem mixAt_lt {w : World} {B : Nat} {l : List Nat} {n : Nat} (h : MixAt w B l n) : B < w.heap.size := by
  obtain ⟨R, _, hr⟩ := h
  exact hr.lt
theorem mixAt_le {w : World} {B : Nat} {l : List Nat} {n : Nat} (h : MixAt w B l n) : B ≤ w.heap.size := by
  obtain ⟨R, _, hr⟩ := h
  exact Nat.le_of_lt hr.lt
end Go.Proofs.YtoopaigpjefonaaGreatDoor.Sm

namespace Go.Proofs.YtoopaigpjefonaaGreatDoor.Sm
set_option maxRecDepth 20000
open Go.RowKit

/-- A key as HMAC takes it. -/
def keyP (k : List Nat) : List Nat := padK (if 64 < k.length then shaL k else k)
def macL (K m : List Nat) : List Nat := shaL (xorL 92 K ++ shaL (xorL 54 K ++ m))
/-- The first n texts, one behind the other. -/
def catS (S : Nat → ByteArray) : Nat → List Nat
  | 0 => []
  | n + 1 => catS S n ++ numsOf (S n)
theorem catS_bytes (S : Nat → ByteArray) : ∀ n, Bytes (catS S n)
  | 0 => fun x hx => by simp [catS] at hx
  | n + 1 => (catS_bytes S n).append (numsOf_bytes _)
theorem keyP_length (k : List Nat) : (keyP k).length = 64 := by
  unfold keyP
  split
  · exact padK_length _ (by rw [shaL_length]; decide)
  · exact padK_length _ (by omega)
theorem keyP_bytes {k : List Nat} (h : Bytes k) : Bytes (keyP k) := by
  unfold keyP
  split
  · exact padK_bytes (shaL_bytes _)
  · exact padK_bytes h
theorem keyOf_any (s : ByteArray) (hs : s.size < 1099511627776) (w : World) (hf : First w) (hq : Cubes w) :
    Calls Tryz.prog 84 #[.string s] w fun e w' => ∃ R1 R2, RestOk R1 ∧ RestOk R2 ∧ e = .returned (.agg (keyV (keyP (numsOf s)) R1 R2).toArray) ∧ Below w.heap.size w w' := by
  unfold keyP
  by_cases h : 64 < s.size
  · rw [if_pos (by rw [numsOf_length]; exact h)]
    exact keyOf_long s h hs w hf hq
  · rw [if_neg (by rw [numsOf_length]; exact h)]
    exact keyOf_short s (by omega) w hf hq

theorem mixV_one (st : St) (R : List Value) (h n : Nat) (hR : ∀ v ∈ R, v.oneCell' = true) : ∀ v ∈ mixV st R h n, v.oneCell' = true := by
  intro v hv
  simp only [mixV, mixA, mixT, List.mem_append, List.mem_cons, List.not_mem_nil, or_false] at hv
  rcases hv with ((rfl | rfl | rfl | rfl | rfl | rfl | rfl | rfl | rfl) | hv) | rfl | rfl
  all_goals first
    | exact hR v hv
    | rfl

theorem mixAt_key {w : World} {B : Nat} {ip : List Nat} {R : List Value} (h : Row w B 166 (mixV (absorb ip 1) R 0 64)) (hR : R.length = 64) (hl : ip.length = 64) : MixAt w B ip ip.length := by
  refine ⟨R, by rw [hl]; exact hR, ?_⟩
  have hd : ip.drop (64 * (64 / 64)) = [] := List.drop_eq_nil_of_le (by omega)
  rw [hl, hd]
  exact h
theorem rangeAt_of {w w' : World} {b o : Nat} {cs : List Value} (h : w.rangeAt b o cs) (hb : w'.heap[b]? = w.heap[b]?) : w'.rangeAt b o cs := fun j v hj => (World.cell?_of_block (a := ⟨b, o + j, none⟩) hb).trans (h j v hj)
theorem macStores (w0 : World) (zs : Array Value) (hz : zs.size = 75) (t : TypeId) (M1 M2 : List Value) (h1 : M1.length = 75) (h2 : M2.length = 75) (I O : Nat)
    (hIO : (I = w0.heap.size ∧ O = w0.heap.size + 1) ∨ (I = w0.heap.size + 1 ∧ O = w0.heap.size)) (W : World) (hW : W = ((w0.alloc (.cells zs t)).alloc (.cells zs t)).drew) :
    W.there I 0 75 ∧ (W.setCells I 0 M1).there O 0 75 ∧ Row ((W.setCells I 0 M1).setCells O 0 M2) I t M1 ∧ Row ((W.setCells I 0 M1).setCells O 0 M2) O t M2 ∧ Below w0.heap.size w0 ((W.setCells I 0 M1).setCells O 0 M2) ∧ ((∀ k, k < w0.heap.size → (W.setCells I 0 M1).heap[k]? = w0.heap[k]?) ∧ True) := by
  have hI : Row W I t zs.toList := by
    rw [hW]
    rcases hIO with ⟨rfl, _⟩ | ⟨rfl, _⟩
    · exact heap_alloc2_old w0 _ _
    · exact heap_alloc2_new w0 _ _
  have hO : Row W O t zs.toList := by
    rw [hW]
    rcases hIO with ⟨_, rfl⟩ | ⟨_, rfl⟩
    · exact heap_alloc2_new w0 _ _
    · exact heap_alloc2_old w0 _ _
  have hb : Below w0.heap.size w0 W := by rw [hW]; exact (((Below.refl _ _).alloc (Nat.le_refl _) _).alloc (by simp) _).drew
  have hzl : zs.toList.length = 75 := by simpa using hz
  have o1 : Only I W (W.setCells I 0 M1) := Only.setCells _ _ _ (Only.refl _ _)
  have hI1 : Row (W.setCells I 0 M1) I t M1 := by
    have := Row.setCells (C := []) M1 zs.toList [] W 0 (by omega) rfl (by simpa using hI)
    simpa using this
  have hO1 : Row (W.setCells I 0 M1) O t zs.toList := hO.only o1 (by omega)
  have o2 : Only O (W.setCells I 0 M1) ((W.setCells I 0 M1).setCells O 0 M2) := Only.setCells _ _ _ (Only.refl _ _)
  have hO2 : Row ((W.setCells I 0 M1).setCells O 0 M2) O t M2 := by
    have := Row.setCells (C := []) M2 zs.toList [] (W.setCells I 0 M1) 0 (by omega) rfl (by simpa using hO1)
    simpa using this
  have hI2 := hI1.only o2 (by omega)
  have hb1 : Below w0.heap.size w0 (W.setCells I 0 M1) := hb.trans ((o1.below (Nat.le_of_lt hI.lt)).mono (by omega))
  refine ⟨fun j hj => ⟨by rw [hI.cell, Nat.zero_add, List.getElem?_eq_getElem (by omega)]; rfl, hI.frozen _⟩, fun j hj => ⟨by rw [hO1.cell, Nat.zero_add, List.getElem?_eq_getElem (by omega)]; rfl, hO1.frozen _⟩, hI2, hO2, hb1.trans ((o2.below (Nat.le_of_lt hO1.lt)).mono (by omega)), fun k hk => hb1.block k hk, trivial⟩

set_option maxRecDepth 10000 in
set_option maxHeartbeats 1000000 in
theorem mac_any (KB : Nat) (K : List Nat) (hKl : K.length = 64) (hKb : Bytes K) (R1 R2 : List Value) (hR1 : RestOk R1) (hR2 : RestOk R2) (v : Value) (n : Nat) (S : Nat → ByteArray) (w : World) (hv : Strs w v n S) (hsz : ∀ j, j ≤ n → (catS S j).length < 549755813888) (hq : Cubes w) (hr : Row w KB 168 (keyV K R1 R2)) :
    Calls Tryz.prog 128 #[.pointer (some ⟨KB, 0, none⟩), v] w fun e w' => e = .returned (.agg (byV (macL K (catS S n))).toArray) ∧ Below w.heap.size w w' := by
  obtain ⟨a, cap, rfl, hn0, hc⟩ := hv
  have hn : n ≤ 9223372036854775807 := by unfold maxLen at hn0; omega
  clear hn0
  obtain ⟨zs, hzs⟩ : ∃ zs, zs = (mixZ).toArray := ⟨_, rfl⟩
  have hzv : ∀ w, (zeroValue 166).run Tryz.prog w = .ok (.agg zs) w := by rw [hzs]; exact mix_zero
  have hzn : zs.size = 75 := by rw [hzs]; rfl
  obtain ⟨M1, hM1⟩ : ∃ M1, M1 = mixV (absorb (xorL 54 K) 1) R1 0 64 := ⟨_, rfl⟩
  obtain ⟨M2, hM2⟩ : ∃ M2, M2 = mixV (absorb (xorL 92 K) 1) R2 0 64 := ⟨_, rfl⟩
  have l1 : M1.length = 75 := by rw [hM1]; simp [mixV, mixA, mixT, hR1.1]
  have l2 : M2.length = 75 := by rw [hM2]; simp [mixV, mixA, mixT, hR2.1]
  have s1 : M1.toArray.size = 75 := by simpa using l1
  have s2 : M2.toArray.size = 75 := by simpa using l2
  have o1 : ∀ v ∈ M1, v.oneCell' = true := by rw [hM1]; exact mixV_one _ _ _ _ hR1.2
  have o2 : ∀ v ∈ M2, v.oneCell' = true := by rw [hM2]; exact mixV_one _ _ _ _ hR2.2
  have hr' : Row w KB 168 (M1 ++ M2) := by rw [hM1, hM2]; exact hr
  have i1 : (Tryz.prog.info? 166).map (·.size) = some M1.length := by rw [l1]; exact mix_info
  have i2 : (Tryz.prog.info? 166).map (·.size) = some M2.length := by rw [l2]; exact mix_info
  have uM := Tryz.underlying166
  obtain ⟨zd, hzd⟩ : ∃ zd : Array Value, zd = (digV []).toArray := ⟨_, rfl⟩
  have hdv : ∀ w, (zeroValue 172).run Tryz.prog w = .ok (.agg zd) w := by rw [hzd]; exact (zero_of_info (n := 32) (by kernel_rfl)).1
  have hrk : ∀ o, (w.alloc o).rangeAt KB 0 M1 ∧ (w.alloc o).rangeAt KB 75 M2 := fun o => by
    have h2 : Row (w.alloc o) KB 168 (M1 ++ M2) := (Below.heap_alloc w o KB (by have := hr'.lt; omega)).trans hr'
    exact ⟨fun j v hj => by rw [h2.cell, Nat.zero_add, List.getElem?_append_left (List.getElem?_eq_some_iff.1 hj).1, hj], fun j v hj => by rw [h2.cell, List.getElem?_append_right (by omega), l1, Nat.add_sub_cancel_left, hj]⟩
  have HM : Hid (M1 = mixV (absorb (xorL 54 K) 1) R1 0 64 ∧ M2 = mixV (absorb (xorL 92 K) 1) R2 0 64 ∧ zd = (digV []).toArray) := ⟨hM1, hM2, hzd⟩
  clear hM1 hM2 hr hzd hzs
  go_enter Tryz.func128, Tryz.ntmps128
  go_wp2_with fail
  have hr1 := (hrk (.cells zd 172)).1
  have hr2 := (hrk (.cells zd 172)).2
  obtain ⟨w0, hw0⟩ : ∃ w0, w.alloc (.cells zd 172) = w0 := ⟨_, rfl⟩
  rw [hw0] at hr1 hr2
  rw [hw0]
  have hKB0 : KB < w0.heap.size := by rw [← hw0]; have := hr'.lt; simp; omega
  have hww0 : w.heap.size < w0.heap.size := by rw [← hw0]; simp
  have hbw0 : Below w.heap.size w w0 := by rw [← hw0]; exact (Below.refl _ _).alloc (Nat.le_refl _) _
  have hq0 : Cubes w0 := hq.below hbw0 hq.1
  have hd0 : Row w0 w.heap.size 172 (digV []) := by rw [← hw0, HM.out.2.2]; exact heap_alloc_new w _
  have hzd32 : zd.size = 32 := by rw [HM.out.2.2]; rfl
  clear hrk
  refine wp_region_noPanic ?_
  refine wp_region_held_drew (S := fun w' => w'.rangeAt KB 0 M1 ∧ w'.rangeAt KB 75 M2) (by kernel_rfl) ⟨hr1, hr2⟩ (fun hHeld => ?_)
  refine wpAnyH_take (i := 0) (v := .pointer (some ⟨KB, 0, none⟩)) rfl (by kernel_rfl) (by kernel_rfl) (by kernel_rfl) (fun _ _ _ h => h) (Or.inl ⟨by rfl, ?_⟩) (by assumption) ?_
  · intro w' hSw; (try dsimp only at hSw); go_simp
  simp only [Act.put]
  refine wpAnyH_take (i := 1) (v := .pointer (some ⟨KB, 0, none⟩)) rfl (by kernel_rfl) (by kernel_rfl) (by kernel_rfl) (fun _ _ _ h => h) (Or.inl ⟨by rfl, ?_⟩) (by assumption) ?_
  · intro w' hSw; (try dsimp only at hSw); go_simp
  simp only [Act.put]
  refine wpAnyH_take (i := 2) (v := .pointer (some ⟨KB, 0, none⟩)) rfl (by kernel_rfl) (by kernel_rfl) (by kernel_rfl) (fun _ _ _ h => h) (Or.inl ⟨by rfl, ?_⟩) (by assumption) ?_
  · intro w' hSw; (try dsimp only at hSw); go_simp
  simp only [Act.put]
  refine wpAnyH_take (i := 3) (v := .agg M1.toArray) rfl (by kernel_rfl) (by kernel_rfl) (by kernel_rfl) (fun _ _ _ h => h) (yieldsIf_load_mid (by rfl) _ _ rfl _ _ rfl _ _ (fun w h => h.1) uM rfl i1) (by assumption) ?_
  simp only [Act.put]
  refine wpAnyH_take (i := 4) (v := .pointer (some ⟨KB, 0, none⟩)) rfl (by kernel_rfl) (by kernel_rfl) (by kernel_rfl) (fun _ _ _ h => h) (Or.inl ⟨by rfl, ?_⟩) (by assumption) ?_
  · intro w' hSw; (try dsimp only at hSw); go_simp
  simp only [Act.put]
  refine wpAnyH_take (i := 5) (v := .pointer (some ⟨KB, 0, none⟩)) rfl (by kernel_rfl) (by kernel_rfl) (by kernel_rfl) (fun _ _ _ h => h) (Or.inl ⟨by rfl, ?_⟩) (by assumption) ?_
  · intro w' hSw; (try dsimp only at hSw); go_simp
  simp only [Act.put]
  refine wpAnyH_take (i := 6) (v := .pointer (some ⟨KB, 75, none⟩)) rfl (by kernel_rfl) (by kernel_rfl) (by kernel_rfl) (fun _ _ _ h => h) (Or.inl ⟨by rfl, ?_⟩) (by assumption) ?_
  · intro w' hSw; (try dsimp only at hSw); go_simp
  simp only [Act.put]
  refine wpAnyH_take (i := 7) (v := .agg M2.toArray) rfl (by kernel_rfl) (by kernel_rfl) (by kernel_rfl) (fun _ _ _ h => h) (yieldsIf_load_mid (by rfl) _ _ rfl _ _ rfl _ _ (fun w h => h.2) uM rfl i2) (by assumption) ?_
  simp only [Act.put]
  refine wpAnyH_ready (rs := [8, 9]) (by kernel_rfl) (by simp) ?_
  refine AllReadyH.cons rfl (fun K hK => ?_) (AllReadyH.cons rfl (fun K hK => ?_) AllReadyH.nil)
  · go_simp
    refine hK.out _ _ ⟨rangeAt_of (w := w0) hr1 (Below.heap_alloc w0 _ KB (by omega)), rangeAt_of (w := w0) hr2 (Below.heap_alloc w0 _ KB (by omega))⟩ (fun _ => ?_)
    clear hK K
    refine wpAnyH_ready (rs := [9]) (by kernel_rfl) (by simp) ?_
    refine AllReadyH.cons rfl (fun K hK => ?_) AllReadyH.nil
    go_simp
    have hS2 := (Below.heap_alloc (w0.alloc (.cells zs 166)) (.cells zs 166) KB (by simp; omega)).trans (Below.heap_alloc w0 (.cells zs 166) KB (by omega))
    refine hK.out _ _ ⟨rangeAt_of (w := w0) hr1 hS2, rangeAt_of (w := w0) hr2 hS2⟩ (fun _ => ?_)
    clear hK K
    obtain ⟨t1, t2, g1, g2, g3, g4⟩ := macStores w0 zs hzn 166 M1 M2 l1 l2 (w0.heap.size) (w0.heap.size + 1) (by omega) _ rfl
    refine wpAnyH_ready (rs := [10]) (by kernel_rfl) (by simp) ?_
    refine AllReadyH.cons rfl (fun K hK => ?_) AllReadyH.nil
    rw [if_pos (by rfl)]
    refine wp_store_mid 166 _ _ rfl (w0.heap.size) 0 M1.toArray rfl rfl (by rw [s1]; exact t1) (by rw [s1, ← l1]; exact i1) (all_oneCell_toArray o1) ?_
    refine hK.out _ _ ⟨rangeAt_of (w := w0) hr1 (g4.1 KB hKB0), rangeAt_of (w := w0) hr2 (g4.1 KB hKB0)⟩ (fun _ => ?_)
    clear hK K
    refine wpAnyH_ready (rs := [11]) (by kernel_rfl) (by simp) ?_
    refine AllReadyH.cons rfl (fun K hK => ?_) AllReadyH.nil
    rw [if_pos (by rfl)]
    refine wp_store_mid 166 _ _ rfl (w0.heap.size + 1) 0 M2.toArray rfl rfl (by rw [s2]; exact t2) (by rw [s2, ← l2]; exact i2) (all_oneCell_toArray o2) ?_
    refine hK.out _ _ ⟨rangeAt_of (w := w0) hr1 (g3.block KB hKB0), rangeAt_of (w := w0) hr2 (g3.block KB hKB0)⟩ (fun _ => ?_)
    clear hK K
    refine wpAnyH_done (by kernel_rfl) ?_ _
    refine NoPanic.normal ?_
    generalize hW5 : ((((w0.alloc (.cells zs 166)).alloc (.cells zs 166)).drew.setCells (w0.heap.size) 0 M1).setCells (w0.heap.size + 1) 0 M2) = w5 at *
    clear hW5
    go_wp2_with fail
    have hmI := mixAt_key (R := R1) (by rw [← HM.out.1]; exact g1) hR1.1 (show (xorL 54 K).length = 64 by rw [xorL_length]; exact hKl)
    have hmO := mixAt_key (R := R2) (by rw [← HM.out.2.1]; exact g2) hR2.1 (show (xorL 92 K).length = 64 by rw [xorL_length]; exact hKl)
    have hipb : Bytes (xorL 54 K) := xorL_bytes (by decide) hKb
    have hopb : Bytes (xorL 92 K) := xorL_bytes (by decide) hKb
    have hipl : (xorL 54 K).length = 64 := by rw [xorL_length]; exact hKl
    have hopl : (xorL 92 K).length = 64 := by rw [xorL_length]; exact hKl
    have HML : Hid (shaL (xorL 92 K ++ shaL (xorL 54 K ++ catS S n)) = macL K (catS S n)) := rfl
    generalize xorL 54 K = ip at *
    generalize xorL 92 K = op at *
    have HL : Hid (MixAt w5 (w0.heap.size) ip ip.length ∧ MixAt w5 (w0.heap.size + 1) op op.length ∧ Below w0.heap.size w0 w5) := ⟨hmI, hmO, g3⟩
    have HQ : Hid (Cubes w0 ∧ Below w.heap.size w w0 ∧ (n = 0 ∨ ∃ b off, a = some ⟨b, off, none⟩ ∧ b < w.heap.size ∧ ∀ i, i < n → w.cell? ⟨b, off + i, none⟩ = some (.string (S i))) ∧ Row w0 w.heap.size 172 (digV []) ∧ (∀ j, j ≤ n → (catS S j).length < 549755813888)) := ⟨hq0, hbw0, hc, hd0, hsz⟩
    have hB1 : 2 < w0.heap.size := hq0.1
    have hww : w.heap.size < w0.heap.size := hww0
    clear hmI hmO g1 g2 g3 g4 t1 t2 hq0 hbw0 hc hd0 hww0 hsz hr1 hr2 hw0 hr' i1 i2 o1 o2 hq HM
    go_loopw [20] (fun i wr => ∃ j : Nat, j ≤ n ∧ i = .int .i64 j ∧ MixAt wr (w0.heap.size) (ip ++ catS S j) (ip ++ catS S j).length ∧ MixAt wr (w0.heap.size + 1) op op.length ∧ Below w0.heap.size w0 wr) (fun i _ => n - (intOf i).toNat)
    case atStart => exact ⟨0, Nat.zero_le _, rfl, by rw [catS, List.append_nil]; exact HL.out.1, HL.out.2.1, HL.out.2.2⟩
    case round =>
      clear HL
      obtain ⟨j, hj, rfl, hmI, hmO, hb⟩ := hrel
      by_cases hlt : j < n
      · obtain ⟨b, off, rfl, hbl, hcell⟩ : ∃ b off, a = some ⟨b, off, none⟩ ∧ b < w.heap.size ∧ ∀ i, i < n → w.cell? ⟨b, off + i, none⟩ = some (.string (S i)) := by
          rcases HQ.out.2.2.1 with h0 | h
          · omega
          · exact h
        have ck := (hb.cell (p := ⟨b, off + j, none⟩) (Nat.lt_trans hbl hww)).trans ((HQ.out.2.1.cell (p := ⟨b, off + j, none⟩) hbl).trans (hcell j hlt))
        have i1 : (j : Int) < n := by omega
        have hs1 := HQ.out.2.2.2.2 (j + 1) (by omega)
        rw [catS, List.length_append, numsOf_length] at hs1
        have HM : Hid (MixAt wr (w0.heap.size) (ip ++ catS S j) (ip ++ catS S j).length ∧ MixAt wr (w0.heap.size + 1) op op.length ∧ Below w0.heap.size w0 wr ∧ (ip ++ catS S j).length + (S j).size < 1099511627776) := ⟨hmI, hmO, hb, by rw [List.length_append, hipl]; omega⟩
        clear hmI hmO hb hcell hs1
        go_wp2_with fail
        refine (feed_any (w0.heap.size) (ip ++ catS S j) (hipb.append (catS_bytes S j)) (S j) HM.out.2.2.2 wr (HQ.out.1.below HM.out.2.2.1 HQ.out.1.1) (by omega) HM.out.1).mono ?_
        rintro e w6 ⟨rfl, hm6, ho6⟩
        rw [List.append_assoc] at hm6
        have HF : Hid (MixAt w6 (w0.heap.size) (ip ++ catS S (j + 1)) (ip ++ catS S (j + 1)).length ∧ MixAt w6 (w0.heap.size + 1) op op.length ∧ Below w0.heap.size w0 w6) := ⟨hm6, mixAt_only HM.out.2.1 ho6 (by omega), HM.out.2.2.1.trans ((ho6.below (mixAt_le HM.out.1)).mono (by omega))⟩
        clear hm6 ho6 ck
        go_wp2
        go_roundw
        case rel => exact ⟨j + 1, by omega, by go_num, HF.out.1, HF.out.2.1, HF.out.2.2⟩
        case measure => simp [intOf]; omega
      · obtain rfl : j = n := by omega
        obtain ⟨R, hR, hrI⟩ := hmI
        obtain ⟨L, hL⟩ : ∃ L, L = ip ++ catS S j := ⟨_, rfl⟩
        have hLb : Bytes L := by rw [hL]; exact hipb.append (catS_bytes S j)
        have hLs : L.length < 1099511627776 := by have := HQ.out.2.2.2.2 j (Nat.le_refl _); rw [hL, List.length_append, hipl]; omega
        rw [← hL] at hR hrI HML
        obtain ⟨cs, hcs⟩ : ∃ cs, cs = (mixV (absorb L (L.length / 64)) (byV (L.drop (64 * (L.length / 64))) ++ R) (L.length % 64) L.length).toArray := ⟨_, rfl⟩
        have hcn : cs.size = 75 := by
          have := mix_len L R hR
          rw [hcs, mixV]
          simp at this ⊢
          rw [mixT]; simp; omega
        have hk : wr.heap[w0.heap.size]? = some (.cells cs 166 (0, 0)) := by rw [hcs]; exact hrI
        have hinfo : (Tryz.prog.info? 166).map (·.size) = some cs.size := by rw [hcn]; exact mix_info
        have HFin : Hid (Calls Tryz.prog 157 #[.agg cs] wr fun e w' => e = .returned (.agg (byV (shaL L)).toArray) ∧ Below wr.heap.size wr w') := by
          have h := finish_any L hLb R hR hLs wr (HQ.out.1.below hb HQ.out.1.1)
          rw [← hcs] at h
          exact h
        have HM : Hid (MixAt wr (w0.heap.size + 1) op op.length ∧ Below w0.heap.size w0 wr) := ⟨hmO, hb⟩
        clear hR hrI hcs hmO hb hLb hLs hL
        go_wp2_with (refine wpList_load_row rfl 166 _ rfl (w0.heap.size) rfl 166 _ (0, 0) _ hk Tryz.underlying166 rfl hinfo ?_)
        refine HFin.out.mono ?_
        rintro e w6 ⟨rfl, hb6⟩
        clear HFin hk hinfo hcn
        obtain ⟨ds, hds⟩ : ∃ ds, ds = (byV (shaL L)).toArray := ⟨_, rfl⟩
        have hsz2 : ds.size = 32 := by rw [hds]; simp [byV, shaL_length]
        have hone : ds.all (·.oneCell') = true := by rw [hds]; simp [byV, Value.oneCell']
        have hinfo : (Tryz.prog.info? 172).map (·.size) = some ds.size := by rw [hsz2]; kernel_rfl
        have hz32 : zd.size = ds.size := by rw [hzd32, hsz2]
        rw [← hds]
        have HDS : Hid (ds = (byV (shaL L)).toArray) := hds
        clear hds
        go_wp2_with (refine wpList_store_row rfl 172 _ _ rfl w6.heap.size ds rfl rfl 172 _ (heap_alloc_new w6 _) hinfo hz32 hone ?_)
        rw [World.setRow_alloc_new]
        have k7 : Row (w6.alloc (.cells ds 172)) w6.heap.size 172 (byV (shaL L)) := by rw [HDS.out]; exact heap_alloc_new w6 _
        have hb7 := hb6.alloc hb6.size (.cells ds 172)
        generalize w6.alloc (.cells ds 172) = w7 at *
        have hcv := run_convert_bytes_arg (P := Tryz.prog) w7 143 5 Tryz.underlying143 Tryz.underlying5 w6.heap.size 0 32 32 ((shaL L).map fun (x : Nat) => (x : Int)) (by simp [shaL_length]) (fun i hi => by
          rw [Nat.zero_add, k7.cell, byV_get _ _ (by rw [shaL_length]; exact hi)]
          simp [List.getD, shaL_length, hi]) 9 Tryz.underlying9
        obtain ⟨sd, hsd⟩ : ∃ sd, sd = strOfNums ((shaL L).map fun (x : Nat) => (x : Int)) := ⟨_, rfl⟩
        have hnd : numsOf sd = shaL L := by rw [hsd]; exact numsOf_str _ (shaL_bytes _)
        rw [← hsd] at hcv
        have hsds : sd.size = 32 := by rw [← numsOf_length, hnd, shaL_length]
        have H7 : Hid (MixAt w7 (w0.heap.size + 1) op op.length ∧ Below w0.heap.size w0 w7 ∧ numsOf sd = shaL L) := ⟨mixAt_below HM.out.1 hb7, HM.out.2.trans (hb7.mono HM.out.2.size), hnd⟩
        clear hsd hnd k7 hb6 hb7 hone hinfo hz32 hsz2 HDS
        go_wp2_with fail
        first
          | (rw [hcv]; go_wp2_with fail)
          | skip
        refine (feed_any (w0.heap.size + 1) op hopb sd (by omega) w7 (HQ.out.1.below H7.out.2.1 HQ.out.1.1) (by omega) H7.out.1).mono ?_
        rintro e w8 ⟨rfl, hm8, ho8⟩
        rw [H7.out.2.2] at hm8
        have hb8 : Below w0.heap.size w0 w8 := H7.out.2.1.trans ((ho8.below (mixAt_le H7.out.1)).mono (by omega))
        clear ho8 hcv
        obtain ⟨R', hR', hrO⟩ := hm8
        obtain ⟨L2, hL2⟩ : ∃ L2, L2 = op ++ shaL L := ⟨_, rfl⟩
        have hLb : Bytes L2 := by rw [hL2]; exact hopb.append (shaL_bytes _)
        have hLs : L2.length < 1099511627776 := by rw [hL2, List.length_append, hopl, shaL_length]; decide
        rw [← hL2] at hR' hrO HML
        obtain ⟨cs2, hcs⟩ : ∃ cs2, cs2 = (mixV (absorb L2 (L2.length / 64)) (byV (L2.drop (64 * (L2.length / 64))) ++ R') (L2.length % 64) L2.length).toArray := ⟨_, rfl⟩
        have hcn : cs2.size = 75 := by
          have := mix_len L2 R' hR'
          rw [hcs, mixV]
          simp at this ⊢
          rw [mixT]; simp; omega
        have hk : w8.heap[w0.heap.size + 1]? = some (.cells cs2 166 (0, 0)) := by rw [hcs]; exact hrO
        have hinfo : (Tryz.prog.info? 166).map (·.size) = some cs2.size := by rw [hcn]; exact mix_info
        have HFin : Hid (Calls Tryz.prog 157 #[.agg cs2] w8 fun e w' => e = .returned (.agg (byV (shaL L2)).toArray) ∧ Below w8.heap.size w8 w') := by
          have h := finish_any L2 hLb R' hR' hLs w8 (HQ.out.1.below hb8 HQ.out.1.1)
          rw [← hcs] at h
          exact h
        have HB8 : Hid (Below w0.heap.size w0 w8) := hb8
        clear hR' hrO hcs hb8 hLb hLs hL2
        go_wp2_with (refine wpList_load_row rfl 166 _ rfl (w0.heap.size + 1) rfl 166 _ (0, 0) _ hk Tryz.underlying166 rfl hinfo ?_)
        refine HFin.out.mono ?_
        rintro e w9 ⟨rfl, hb9⟩
        clear HFin hk hinfo hcn
        have hb9' := HB8.out.trans (hb9.mono HB8.out.size)
        have hd9 : w9.heap[w.heap.size]? = some (.cells (digV []).toArray 172 (0, 0)) := HQ.out.2.2.2.1.below hb9' hww
        obtain ⟨ds, hds⟩ : ∃ ds, ds = (byV (shaL L2)).toArray := ⟨_, rfl⟩
        have hsz2 : ds.size = 32 := by rw [hds]; simp [byV, shaL_length]
        have hone : ds.all (·.oneCell') = true := by rw [hds]; simp [byV, Value.oneCell']
        have hinfo : (Tryz.prog.info? 172).map (·.size) = some ds.size := by rw [hsz2]; kernel_rfl
        have hs0 : (digV []).toArray.size = ds.size := by rw [hsz2]; rfl
        have HDS : Hid (ds = (byV (macL K (catS S j))).toArray) := by show _ = _; rw [hds, HML.out]
        rw [← hds]
        have HB : Hid (Below w.heap.size w (w9.setRow w.heap.size ds)) := below_rowH (HQ.out.2.1.trans (hb9'.mono (Nat.le_of_lt hww))) (Nat.le_refl _) ds
        have hl0 := run_loadVar_row (P := Tryz.prog) (w9.setRow w.heap.size ds) w.heap.size 172 172 ds (0, 0) _ (setRow_heap _ _ _ _ _ _ hd9) Tryz.underlying172 rfl hinfo
        clear hds hb9 hb9'
        go_wp2_with (refine wpList_store_row rfl 172 _ _ rfl w.heap.size ds rfl rfl 172 _ hd9 hinfo hs0 hone ?_)
        exact bodyPost_ret (v := .agg ds) (by simp [results, Tryz.results128, asAddr, Act.put, hl0]) rfl ⟨by rw [HDS.out], HB.out⟩
  · go_simp
    refine hK.out _ _ ⟨rangeAt_of (w := w0) hr1 (Below.heap_alloc w0 _ KB (by omega)), rangeAt_of (w := w0) hr2 (Below.heap_alloc w0 _ KB (by omega))⟩ (fun _ => ?_)
    clear hK K
    refine wpAnyH_ready (rs := [8]) (by kernel_rfl) (by simp) ?_
    refine AllReadyH.cons rfl (fun K hK => ?_) AllReadyH.nil
    go_simp
    have hS2 := (Below.heap_alloc (w0.alloc (.cells zs 166)) (.cells zs 166) KB (by simp; omega)).trans (Below.heap_alloc w0 (.cells zs 166) KB (by omega))
    refine hK.out _ _ ⟨rangeAt_of (w := w0) hr1 hS2, rangeAt_of (w := w0) hr2 hS2⟩ (fun _ => ?_)
    clear hK K
    obtain ⟨t1, t2, g1, g2, g3, g4⟩ := macStores w0 zs hzn 166 M1 M2 l1 l2 (w0.heap.size + 1) (w0.heap.size) (by omega) _ rfl
    refine wpAnyH_ready (rs := [10]) (by kernel_rfl) (by simp) ?_
    refine AllReadyH.cons rfl (fun K hK => ?_) AllReadyH.nil
    rw [if_pos (by rfl)]
    refine wp_store_mid 166 _ _ rfl (w0.heap.size + 1) 0 M1.toArray rfl rfl (by rw [s1]; exact t1) (by rw [s1, ← l1]; exact i1) (all_oneCell_toArray o1) ?_
    refine hK.out _ _ ⟨rangeAt_of (w := w0) hr1 (g4.1 KB hKB0), rangeAt_of (w := w0) hr2 (g4.1 KB hKB0)⟩ (fun _ => ?_)
    clear hK K
    refine wpAnyH_ready (rs := [11]) (by kernel_rfl) (by simp) ?_
    refine AllReadyH.cons rfl (fun K hK => ?_) AllReadyH.nil
    rw [if_pos (by rfl)]
    refine wp_store_mid 166 _ _ rfl (w0.heap.size) 0 M2.toArray rfl rfl (by rw [s2]; exact t2) (by rw [s2, ← l2]; exact i2) (all_oneCell_toArray o2) ?_
    refine hK.out _ _ ⟨rangeAt_of (w := w0) hr1 (g3.block KB hKB0), rangeAt_of (w := w0) hr2 (g3.block KB hKB0)⟩ (fun _ => ?_)
    clear hK K
    refine wpAnyH_done (by kernel_rfl) ?_ _
    refine NoPanic.normal ?_
    generalize hW5 : ((((w0.alloc (.cells zs 166)).alloc (.cells zs 166)).drew.setCells (w0.heap.size + 1) 0 M1).setCells (w0.heap.size) 0 M2) = w5 at *
    clear hW5
    go_wp2_with fail
    have hmI := mixAt_key (R := R1) (by rw [← HM.out.1]; exact g1) hR1.1 (show (xorL 54 K).length = 64 by rw [xorL_length]; exact hKl)
    have hmO := mixAt_key (R := R2) (by rw [← HM.out.2.1]; exact g2) hR2.1 (show (xorL 92 K).length = 64 by rw [xorL_length]; exact hKl)
    have hipb : Bytes (xorL 54 K) := xorL_bytes (by decide) hKb
    have hopb : Bytes (xorL 92 K) := xorL_bytes (by decide) hKb
    have hipl : (xorL 54 K).length = 64 := by rw [xorL_length]; exact hKl
    have hopl : (xorL 92 K).length = 64 := by rw [xorL_length]; exact hKl
    have HML : Hid (shaL (xorL 92 K ++ shaL (xorL 54 K ++ catS S n)) = macL K (catS S n)) := rfl
    generalize xorL 54 K = ip at *
    generalize xorL 92 K = op at *
    have HL : Hid (MixAt w5 (w0.heap.size + 1) ip ip.length ∧ MixAt w5 (w0.heap.size) op op.length ∧ Below w0.heap.size w0 w5) := ⟨hmI, hmO, g3⟩
    have HQ : Hid (Cubes w0 ∧ Below w.heap.size w w0 ∧ (n = 0 ∨ ∃ b off, a = some ⟨b, off, none⟩ ∧ b < w.heap.size ∧ ∀ i, i < n → w.cell? ⟨b, off + i, none⟩ = some (.string (S i))) ∧ Row w0 w.heap.size 172 (digV []) ∧ (∀ j, j ≤ n → (catS S j).length < 549755813888)) := ⟨hq0, hbw0, hc, hd0, hsz⟩
    have hB1 : 2 < w0.heap.size := hq0.1
    have hww : w.heap.size < w0.heap.size := hww0
    clear hmI hmO g1 g2 g3 g4 t1 t2 hq0 hbw0 hc hd0 hww0 hsz hr1 hr2 hw0 hr' i1 i2 o1 o2 hq HM
    go_loopw [20] (fun i wr => ∃ j : Nat, j ≤ n ∧ i = .int .i64 j ∧ MixAt wr (w0.heap.size + 1) (ip ++ catS S j) (ip ++ catS S j).length ∧ MixAt wr (w0.heap.size) op op.length ∧ Below w0.heap.size w0 wr) (fun i _ => n - (intOf i).toNat)
    case atStart => exact ⟨0, Nat.zero_le _, rfl, by rw [catS, List.append_nil]; exact HL.out.1, HL.out.2.1, HL.out.2.2⟩
    case round =>
      clear HL
      obtain ⟨j, hj, rfl, hmI, hmO, hb⟩ := hrel
      by_cases hlt : j < n
      · obtain ⟨b, off, rfl, hbl, hcell⟩ : ∃ b off, a = some ⟨b, off, none⟩ ∧ b < w.heap.size ∧ ∀ i, i < n → w.cell? ⟨b, off + i, none⟩ = some (.string (S i)) := by
          rcases HQ.out.2.2.1 with h0 | h
          · omega
          · exact h
        have ck := (hb.cell (p := ⟨b, off + j, none⟩) (Nat.lt_trans hbl hww)).trans ((HQ.out.2.1.cell (p := ⟨b, off + j, none⟩) hbl).trans (hcell j hlt))
        have i1 : (j : Int) < n := by omega
        have hs1 := HQ.out.2.2.2.2 (j + 1) (by omega)
        rw [catS, List.length_append, numsOf_length] at hs1
        have HM : Hid (MixAt wr (w0.heap.size + 1) (ip ++ catS S j) (ip ++ catS S j).length ∧ MixAt wr (w0.heap.size) op op.length ∧ Below w0.heap.size w0 wr ∧ (ip ++ catS S j).length + (S j).size < 1099511627776) := ⟨hmI, hmO, hb, by rw [List.length_append, hipl]; omega⟩
        clear hmI hmO hb hcell hs1
        go_wp2_with fail
        refine (feed_any (w0.heap.size + 1) (ip ++ catS S j) (hipb.append (catS_bytes S j)) (S j) HM.out.2.2.2 wr (HQ.out.1.below HM.out.2.2.1 HQ.out.1.1) (by omega) HM.out.1).mono ?_
        rintro e w6 ⟨rfl, hm6, ho6⟩
        rw [List.append_assoc] at hm6
        have HF : Hid (MixAt w6 (w0.heap.size + 1) (ip ++ catS S (j + 1)) (ip ++ catS S (j + 1)).length ∧ MixAt w6 (w0.heap.size) op op.length ∧ Below w0.heap.size w0 w6) := ⟨hm6, mixAt_only HM.out.2.1 ho6 (by omega), HM.out.2.2.1.trans ((ho6.below (mixAt_le HM.out.1)).mono (by omega))⟩
        clear hm6 ho6 ck
        go_wp2
        go_roundw
        case rel => exact ⟨j + 1, by omega, by go_num, HF.out.1, HF.out.2.1, HF.out.2.2⟩
        case measure => simp [intOf]; omega
      · obtain rfl : j = n := by omega
        obtain ⟨R, hR, hrI⟩ := hmI
        obtain ⟨L, hL⟩ : ∃ L, L = ip ++ catS S j := ⟨_, rfl⟩
        have hLb : Bytes L := by rw [hL]; exact hipb.append (catS_bytes S j)
        have hLs : L.length < 1099511627776 := by have := HQ.out.2.2.2.2 j (Nat.le_refl _); rw [hL, List.length_append, hipl]; omega
        rw [← hL] at hR hrI HML
        obtain ⟨cs, hcs⟩ : ∃ cs, cs = (mixV (absorb L (L.length / 64)) (byV (L.drop (64 * (L.length / 64))) ++ R) (L.length % 64) L.length).toArray := ⟨_, rfl⟩
        have hcn : cs.size = 75 := by
          have := mix_len L R hR
          rw [hcs, mixV]
          simp at this ⊢
          rw [mixT]; simp; omega
        have hk : wr.heap[w0.heap.size + 1]? = some (.cells cs 166 (0, 0)) := by rw [hcs]; exact hrI
        have hinfo : (Tryz.prog.info? 166).map (·.size) = some cs.size := by rw [hcn]; exact mix_info
        have HFin : Hid (Calls Tryz.prog 157 #[.agg cs] wr fun e w' => e = .returned (.agg (byV (shaL L)).toArray) ∧ Below wr.heap.size wr w') := by
          have h := finish_any L hLb R hR hLs wr (HQ.out.1.below hb HQ.out.1.1)
          rw [← hcs] at h
          exact h
        have HM : Hid (MixAt wr (w0.heap.size) op op.length ∧ Below w0.heap.size w0 wr) := ⟨hmO, hb⟩
        clear hR hrI hcs hmO hb hLb hLs hL
        go_wp2_with (refine wpList_load_row rfl 166 _ rfl (w0.heap.size + 1) rfl 166 _ (0, 0) _ hk Tryz.underlying166 rfl hinfo ?_)
        refine HFin.out.mono ?_
        rintro e w6 ⟨rfl, hb6⟩
        clear HFin hk hinfo hcn
        obtain ⟨ds, hds⟩ : ∃ ds, ds = (byV (shaL L)).toArray := ⟨_, rfl⟩
        have hsz2 : ds.size = 32 := by rw [hds]; simp [byV, shaL_length]
        have hone : ds.all (·.oneCell') = true := by rw [hds]; simp [byV, Value.oneCell']
        have hinfo : (Tryz.prog.info? 172).map (·.size) = some ds.size := by rw [hsz2]; kernel_rfl
        have hz32 : zd.size = ds.size := by rw [hzd32, hsz2]
        rw [← hds]
        have HDS : Hid (ds = (byV (shaL L)).toArray) := hds
        clear hds
        go_wp2_with (refine wpList_store_row rfl 172 _ _ rfl w6.heap.size ds rfl rfl 172 _ (heap_alloc_new w6 _) hinfo hz32 hone ?_)
        rw [World.setRow_alloc_new]
        have k7 : Row (w6.alloc (.cells ds 172)) w6.heap.size 172 (byV (shaL L)) := by rw [HDS.out]; exact heap_alloc_new w6 _
        have hb7 := hb6.alloc hb6.size (.cells ds 172)
        generalize w6.alloc (.cells ds 172) = w7 at *
        have hcv := run_convert_bytes_arg (P := Tryz.prog) w7 143 5 Tryz.underlying143 Tryz.underlying5 w6.heap.size 0 32 32 ((shaL L).map fun (x : Nat) => (x : Int)) (by simp [shaL_length]) (fun i hi => by
          rw [Nat.zero_add, k7.cell, byV_get _ _ (by rw [shaL_length]; exact hi)]
          simp [List.getD, shaL_length, hi]) 9 Tryz.underlying9
        obtain ⟨sd, hsd⟩ : ∃ sd, sd = strOfNums ((shaL L).map fun (x : Nat) => (x : Int)) := ⟨_, rfl⟩
        have hnd : numsOf sd = shaL L := by rw [hsd]; exact numsOf_str _ (shaL_bytes _)
        rw [← hsd] at hcv
        have hsds : sd.size = 32 := by rw [← numsOf_length, hnd, shaL_length]
        have H7 : Hid (MixAt w7 (w0.heap.size) op op.length ∧ Below w0.heap.size w0 w7 ∧ numsOf sd = shaL L) := ⟨mixAt_below HM.out.1 hb7, HM.out.2.trans (hb7.mono HM.out.2.size), hnd⟩
        clear hsd hnd k7 hb6 hb7 hone hinfo hz32 hsz2 HDS
        go_wp2_with fail
        first
          | (rw [hcv]; go_wp2_with fail)
          | skip
        refine (feed_any (w0.heap.size) op hopb sd (by omega) w7 (HQ.out.1.below H7.out.2.1 HQ.out.1.1) (by omega) H7.out.1).mono ?_
        rintro e w8 ⟨rfl, hm8, ho8⟩
        rw [H7.out.2.2] at hm8
        have hb8 : Below w0.heap.size w0 w8 := H7.out.2.1.trans ((ho8.below (mixAt_le H7.out.1)).mono (by omega))
        clear ho8 hcv
        obtain ⟨R', hR', hrO⟩ := hm8
        obtain ⟨L2, hL2⟩ : ∃ L2, L2 = op ++ shaL L := ⟨_, rfl⟩
        have hLb : Bytes L2 := by rw [hL2]; exact hopb.append (shaL_bytes _)
        have hLs : L2.length < 1099511627776 := by rw [hL2, List.length_append, hopl, shaL_length]; decide
        rw [← hL2] at hR' hrO HML
        obtain ⟨cs2, hcs⟩ : ∃ cs2, cs2 = (mixV (absorb L2 (L2.length / 64)) (byV (L2.drop (64 * (L2.length / 64))) ++ R') (L2.length % 64) L2.length).toArray := ⟨_, rfl⟩
        have hcn : cs2.size = 75 := by
          have := mix_len L2 R' hR'
          rw [hcs, mixV]
          simp at this ⊢
          rw [mixT]; simp; omega
        have hk : w8.heap[w0.heap.size]? = some (.cells cs2 166 (0, 0)) := by rw [hcs]; exact hrO
        have hinfo : (Tryz.prog.info? 166).map (·.size) = some cs2.size := by rw [hcn]; exact mix_info
        have HFin : Hid (Calls Tryz.prog 157 #[.agg cs2] w8 fun e w' => e = .returned (.agg (byV (shaL L2)).toArray) ∧ Below w8.heap.size w8 w') := by
          have h := finish_any L2 hLb R' hR' hLs w8 (HQ.out.1.below hb8 HQ.out.1.1)
          rw [← hcs] at h
          exact h
        have HB8 : Hid (Below w0.heap.size w0 w8) := hb8
        clear hR' hrO hcs hb8 hLb hLs hL2
        go_wp2_with (refine wpList_load_row rfl 166 _ rfl (w0.heap.size) rfl 166 _ (0, 0) _ hk Tryz.underlying166 rfl hinfo ?_)
        refine HFin.out.mono ?_
        rintro e w9 ⟨rfl, hb9⟩
        clear HFin hk hinfo hcn
        have hb9' := HB8.out.trans (hb9.mono HB8.out.size)
        have hd9 : w9.heap[w.heap.size]? = some (.cells (digV []).toArray 172 (0, 0)) := HQ.out.2.2.2.1.below hb9' hww
        obtain ⟨ds, hds⟩ : ∃ ds, ds = (byV (shaL L2)).toArray := ⟨_, rfl⟩
        have hsz2 : ds.size = 32 := by rw [hds]; simp [byV, shaL_length]
        have hone : ds.all (·.oneCell') = true := by rw [hds]; simp [byV, Value.oneCell']
        have hinfo : (Tryz.prog.info? 172).map (·.size) = some ds.size := by rw [hsz2]; kernel_rfl
        have hs0 : (digV []).toArray.size = ds.size := by rw [hsz2]; rfl
        have HDS : Hid (ds = (byV (macL K (catS S j))).toArray) := by show _ = _; rw [hds, HML.out]
        rw [← hds]
        have HB : Hid (Below w.heap.size w (w9.setRow w.heap.size ds)) := below_rowH (HQ.out.2.1.trans (hb9'.mono (Nat.le_of_lt hww))) (Nat.le_refl _) ds
        have hl0 := run_loadVar_row (P := Tryz.prog) (w9.setRow w.heap.size ds) w.heap.size 172 172 ds (0, 0) _ (setRow_heap _ _ _ _ _ _ hd9) Tryz.underlying172 rfl hinfo
        clear hds hb9 hb9'
        go_wp2_with (refine wpList_store_row rfl 172 _ _ rfl w.heap.size ds rfl rfl 172 _ hd9 hinfo hs0 hone ?_)
        exact bodyPost_ret (v := .agg ds) (by simp [results, Tryz.results128, asAddr, Act.put, hl0]) rfl ⟨by rw [HDS.out], HB.out⟩
end Go.Proofs.YtoopaigpjefonaaGreatDoor.Sm
