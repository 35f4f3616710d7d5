/- sum.keyOf of a key of over 64 bytes: the two mixes that have taken its sum. · sum.New: a mix of nothing yet, in a block of its own. · Mixes and slices of texts, for the laws that feed part by part. -/
import Derived.Test.YtdhiopbomnfmnaaGreatDoorMg21
import Derived.Test.YtdhiopbomnfmnaaGreatDoorMg20
namespace Go.Proofs.YtdhiopbomnfmnaaGreatDoor.Sm
set_option maxRecDepth 20000
open Go.RowKit

set_option maxRecDepth 10000 in
set_option maxHeartbeats 1000000 in
theorem keyOf_long (s0 : ByteArray) (hs0 : 64 < s0.size) (hs1 : s0.size < 1099511627776) (w : World) (hf : First w) (hq : Cubes w) :
    Calls Tryz.prog 24 #[.string s0] w fun e w' => ∃ R1 R2, RestOk R1 ∧ RestOk R2 ∧ e = .returned (.agg (keyV (padK (shaL (numsOf s0))) R1 R2).toArray) ∧ Below w.heap.size w w' := by
  have h1 : (64 : Int) < s0.size := by omega
  obtain ⟨zb, hzb⟩ : ∃ zb : Array Value, zb = (List.replicate 64 (Value.int .u8 0)).toArray := ⟨_, rfl⟩
  have hzv : ∀ w, (zeroValue 67).run Tryz.prog w = .ok (.agg zb) w := by rw [hzb]; exact (zero_of_info (n := 64) (by kernel_rfl)).1
  have hzn : zb.size = 64 := by rw [hzb]; rfl
  obtain ⟨zk, hzk⟩ : ∃ zk : Array Value, zk = (mixZ ++ mixZ).toArray := ⟨_, rfl⟩
  have hkv : ∀ w, (zeroValue 71).run Tryz.prog w = .ok (.agg zk) w := by rw [hzk]; exact (zero_of_info (n := 150) (by kernel_rfl)).1
  have hkn : zk.size = 150 := by rw [hzk]; rfl
  have hA : Below w.heap.size w (w.alloc (.cells zk 71)) := (Below.refl _ _).alloc (Nat.le_refl _) _
  have hkA : Row (w.alloc (.cells zk 71)) w.heap.size 71 (mixZ ++ mixZ) := by rw [hzk]; exact heap_alloc_new w _
  have hfA : First (w.alloc (.cells zk 71)) := hf.below hA hf.1
  have hqA : Cubes (w.alloc (.cells zk 71)) := hq.below hA hq.1
  have HS : Hid (Calls Tryz.prog 48 #[.string s0] (w.alloc (.cells zk 71)) fun e w' => e = .returned (.string (shaS (numsOf s0))) ∧ Below (w.alloc (.cells zk 71)).heap.size (w.alloc (.cells zk 71)) w') := sum_any s0 hs1 _ hfA hqA
  have HZK : Hid (zk = (mixZ ++ mixZ).toArray ∧ zb = (List.replicate 64 (Value.int .u8 0)).toArray) := ⟨hzk, hzb⟩
  clear hzk hzb
  go_enter Tryz.func24, Tryz.ntmps24
  go_wp2_with fail
  refine HS.out.mono ?_
  rintro e wB ⟨rfl, hbB⟩
  obtain ⟨s, hsd⟩ : ∃ s, s = shaS (numsOf s0) := ⟨_, rfl⟩
  have hns : numsOf s = shaL (numsOf s0) := by rw [hsd]; exact numsOf_str _ (shaL_bytes _)
  have hs : s.size ≤ 64 := by rw [← numsOf_length, hns, shaL_length]; decide
  rw [← hsd]
  have HNS : Hid (numsOf s = shaL (numsOf s0)) := hns
  clear hsd hns HS
  obtain ⟨H, hH⟩ : ∃ H, H = w.heap.size := ⟨_, rfl⟩
  obtain ⟨X, hX⟩ : ∃ X, X = wB.heap.size := ⟨_, rfl⟩
  have hHX : H < X := by have := hbB.size; simp at this; omega
  have hx0 : Row ((wB.alloc (.cells zb 67)).alloc (.cells zb 67)) X 67 (List.replicate 64 (Value.int .u8 0)) := by
    rw [hX, HZK.out.2]; exact heap_alloc2_old wB _ _
  have hy0 : Row ((wB.alloc (.cells zb 67)).alloc (.cells zb 67)) (X + 1) 67 (List.replicate 64 (Value.int .u8 0)) := by
    rw [hX, HZK.out.2]; exact heap_alloc2_new wB _ _
  have hbC : Below wB.heap.size wB ((wB.alloc (.cells zb 67)).alloc (.cells zb 67)) := ((Below.refl _ _).alloc (Nat.le_refl _) _).alloc (by simp) _
  have hk0 : Row ((wB.alloc (.cells zb 67)).alloc (.cells zb 67)) H 71 (mixZ ++ mixZ) := by
    rw [← hH] at hkA
    exact (hkA.below hbB (by simp; omega)).below hbC (by omega)
  have hb0 : Below H w ((wB.alloc (.cells zb 67)).alloc (.cells zb 67)) := by
    rw [← hH] at hA
    exact (hA.trans (hbB.mono (by simp; omega))).trans (hbC.mono (by omega))
  clear hA hkA hfA hqA hbB hbC
  obtain ⟨w0, hw0⟩ : ∃ w0, (wB.alloc (.cells zb 67)).alloc (.cells zb 67) = w0 := ⟨_, rfl⟩
  rw [hw0] at hx0 hy0 hk0 hb0
  -- the first copy
  have hn : (byV (numsOf s)).length = s.size := by simp [byV, numsOf_length]
  have hv : (s.data.toList.map fun x => Value.int .u8 (x.toNat : Int)) = byV (numsOf s) := by simp [byV, numsOf]
  have hpk : byV (padK (numsOf s)) = byV (numsOf s) ++ List.replicate (64 - s.size) (Value.int .u8 0) := by rw [padK, byV_append, byV_zeros, numsOf_length]
  have hrep : List.replicate 64 (Value.int .u8 0) = [] ++ List.replicate s.size (Value.int .u8 0) ++ List.replicate (64 - s.size) (Value.int .u8 0) := by
    rw [List.nil_append, List.replicate_append_replicate]; congr 1; omega
  have hcp := run_copy_string (P := Tryz.prog) w0 55 9 3 5 (X) 0 64 64 s Tryz.underlying55 size_u8 hs (fun j hj => by
    rw [hx0.cell, List.getElem?_eq_getElem (by simp; omega)]; rfl) (fun j _ => hx0.frozen _)
  rw [hv] at hcp
  have hx1 : Row (w0.setCells (X) 0 (byV (numsOf s))) (X) 67 (byV (padK (numsOf s))) := by
    rw [hrep] at hx0
    have := Row.setCells (byV (numsOf s)) _ _ w0 0 (by rw [hn]; simp) rfl hx0
    rw [hpk]; simpa using this
  have ho1 : Only (X) w0 (w0.setCells (X) 0 (byV (numsOf s))) := Only.setCells _ _ _ (Only.refl _ _)
  obtain ⟨w1, hw1⟩ : ∃ w1, w0.setCells (X) 0 (byV (numsOf s)) = w1 := ⟨_, rfl⟩
  rw [hw1] at hcp hx1 ho1
  have hy1 := hy0.only ho1 (by omega)
  have hk1 := hk0.only ho1 (by omega)
  -- the second copy
  have hcp2 := run_copy_string (P := Tryz.prog) w1 55 9 3 5 (X + 1) 0 64 64 s Tryz.underlying55 size_u8 hs (fun j hj => by
    rw [hy1.cell, List.getElem?_eq_getElem (by simp; omega)]; rfl) (fun j _ => hy1.frozen _)
  rw [hv] at hcp2
  have hy2 : Row (w1.setCells (X + 1) 0 (byV (numsOf s))) (X + 1) 67 (byV (padK (numsOf s))) := by
    rw [hrep] at hy1
    have := Row.setCells (byV (numsOf s)) _ _ w1 0 (by rw [hn]; simp) rfl hy1
    rw [hpk]; simpa using this
  have ho2 : Only (X + 1) w1 (w1.setCells (X + 1) 0 (byV (numsOf s))) := Only.setCells _ _ _ (Only.refl _ _)
  obtain ⟨w2, hw2⟩ : ∃ w2, w1.setCells (X + 1) 0 (byV (numsOf s)) = w2 := ⟨_, rfl⟩
  rw [hw2] at hcp2 hy2 ho2
  have hx2 := hx1.only ho2 (by omega)
  have hk2 := hk1.only ho2 (by omega)
  have hb2 : Below H w w2 := (hb0.trans ((ho1.below (Nat.le_of_lt hx0.lt)).mono (by omega))).trans ((ho2.below (Nat.le_of_lt hy1.lt)).mono (by omega))
  obtain ⟨K, hK⟩ : ∃ K, K = padK (numsOf s) := ⟨_, rfl⟩
  have hKb : Bytes K := by rw [hK]; exact padK_bytes (numsOf_bytes s)
  have hKl : K.length = 64 := by rw [hK]; exact padK_length _ (by rw [numsOf_length]; exact hs)
  rw [← hK] at hx2 hy2
  have HW : Hid (H = w.heap.size ∧ K = padK (numsOf s) ∧ Row w2 (X) 67 (byV K) ∧ Row w2 (X + 1) 67 (byV K) ∧ Row w2 H 71 (mixZ ++ mixZ) ∧ Below H w w2) := ⟨hH, hK, hx2, hy2, hk2, hb2⟩
  have hHs : w.heap.size = H := hH.symm
  have hXs : wB.heap.size = X := hX.symm
  clear hx0 hy0 hk0 hb0 hx1 hy1 hk1 ho1 ho2 hx2 hy2 hk2 hb2 hw1 hw2 hn hv hpk hrep hK hH hX
  go_wp2_with fail
  go_loopw [18] (fun i wr => ∃ j : Nat, j ≤ 64 ∧ i = .int .i64 j ∧ Row wr (X) 67 (byV (xorL 54 (K.take j) ++ K.drop j)) ∧ Row wr (X + 1) 67 (byV (xorL 92 (K.take j) ++ K.drop j)) ∧ Row wr H 71 (mixZ ++ mixZ) ∧ Below H w wr) (fun i _ => 64 - (intOf i).toNat)
  case atStart => exact ⟨0, Nat.zero_le _, rfl, HW.out.2.2.1, HW.out.2.2.2.1, HW.out.2.2.2.2.1, HW.out.2.2.2.2.2⟩
  case round =>
    obtain ⟨j, hj, rfl, hx, hy, hk, hb⟩ := hrel
    by_cases hlt : j < 64
    · obtain ⟨b, hbj⟩ : ∃ b, b = K.getD j 0 := ⟨_, rfl⟩
      have lb : b < 256 := by rw [hbj]; exact getD_lt (by decide) hKb j
      have hxr := (xorRow hx hKl hlt)
      have hyr := (xorRow hy hKl hlt)
      rw [← hbj] at hxr hyr
      have lx : ∀ c, (byV (xorL c (K.take j))).length = j := fun c => by simp [byV, xorL_length]; omega
      have cx := hxr.at (lx 54).symm
      have cy := hyr.at (lx 92).symm
      have fx : wr.frozen? ⟨X, j, none⟩ = false := hx.frozen j
      have fy : wr.frozen? ⟨X + 1, j, none⟩ = false := hy.frozen j
      have bx : bits .xor .u8 (b : Int) 54 = ((b ^^^ 54 : Nat) : Int) := u8_xor_nat b 54 lb (by decide)
      have by' : bits .xor .u8 (b : Int) 92 = ((b ^^^ 92 : Nat) : Int) := u8_xor_nat b 92 lb (by decide)
      obtain ⟨b1, hb1⟩ : ∃ b1, b1 = b ^^^ 54 := ⟨_, rfl⟩
      obtain ⟨b2, hb2⟩ : ∃ b2, b2 = b ^^^ 92 := ⟨_, rfl⟩
      rw [← hb1] at bx
      rw [← hb2] at by'
      have hx2 := hxr.set (.int .u8 (b1 : Nat)) (lx 54).symm
      have ho2 : Only (X) wr (wr.setCell ⟨X, j, none⟩ (.int .u8 (b1 : Nat))) := (Only.refl _ _).setCell _ _
      obtain ⟨w3, hw3⟩ : ∃ w3, wr.setCell ⟨X, j, none⟩ (.int .u8 (b1 : Nat)) = w3 := ⟨_, rfl⟩
      rw [hw3] at hx2 ho2
      have hyr3 := hyr.only ho2 (by omega)
      have cy3 := hyr3.at (lx 92).symm
      have fy3 : w3.frozen? ⟨X + 1, j, none⟩ = false := hyr3.frozen j
      have hy3 := hyr3.set (.int .u8 (b2 : Nat)) (lx 92).symm
      have ho3 : Only (X + 1) w3 (w3.setCell ⟨X + 1, j, none⟩ (.int .u8 (b2 : Nat))) := (Only.refl _ _).setCell _ _
      obtain ⟨w4, hw4⟩ : ∃ w4, w3.setCell ⟨X + 1, j, none⟩ (.int .u8 (b2 : Nat)) = w4 := ⟨_, rfl⟩
      rw [hw4] at hy3 ho3
      have hx4 := hx2.only ho3 (by omega)
      have hk4 := (hk.only ho2 (by omega)).only ho3 (by omega)
      have hb4 : Below H w w4 := (hb.trans ((ho2.below (Nat.le_of_lt hxr.lt)).mono (by omega))).trans ((ho3.below (Nat.le_of_lt hyr3.lt)).mono (by omega))
      rw [xorStep K j b b1 54 hKl hlt hbj hb1] at hx4
      rw [xorStep K j b b2 92 hKl hlt hbj hb2] at hy3
      have HF : Hid (Row w4 (X) 67 (byV (xorL 54 (K.take (j + 1)) ++ K.drop (j + 1))) ∧ Row w4 (X + 1) 67 (byV (xorL 92 (K.take (j + 1)) ++ K.drop (j + 1))) ∧ Row w4 H 71 (mixZ ++ mixZ) ∧ Below H w w4) := ⟨hx4, hy3, hk4, hb4⟩
      have j64 : (j : Int) < 64 := by omega
      clear hx hy hk hb hxr hyr hx2 ho2 hyr3 hy3 ho3 hx4 hk4 hb4 hb1 hb2 hbj lx cy fy
      go_wp2_with fail
      go_roundw
      case rel => exact ⟨j + 1, by omega, by go_num, HF.out.1, HF.out.2.1, HF.out.2.2.1, HF.out.2.2.2⟩
      case measure => simp [intOf]; omega
    · obtain rfl : j = 64 := by omega
      rw [List.take_of_length_le (by omega), List.drop_eq_nil_of_le (by omega), List.append_nil] at hx hy
      have HF : Hid (Row wr (X) 67 (byV (xorL 54 K)) ∧ Row wr (X + 1) 67 (byV (xorL 92 K)) ∧ Row wr H 71 (mixZ ++ mixZ) ∧ Below H w wr) := ⟨hx, hy, hk, hb⟩
      clear hx hy hk hb
      have hst := fun w' (h : First w') => start_any w' h
      obtain ⟨ms, hms⟩ : ∃ ms, ms = (mixV st0 (List.replicate 64 (.int .u8 0)) 0 0).toArray := ⟨_, rfl⟩
      rw [← hms] at hst
      have HST : Hid (∀ w', First w' → Calls Tryz.prog 49 #[] w' fun e w'' => e = .returned (.agg ms) ∧ Below w'.heap.size w' w'') := hst
      have hmn : ms.size = 75 := by rw [hms]; rfl
      obtain ⟨k1, hk1⟩ : ∃ k1, k1 = (mix0 ++ mixZ).toArray := ⟨_, rfl⟩
      obtain ⟨k2, hk2⟩ : ∃ k2, k2 = (mix0 ++ mix0).toArray := ⟨_, rfl⟩
      have hfo1 : Array.foldl (fun cs x => cs.setIfInBounds x.snd x.fst) zk ms.zipIdx 0 75 = k1 := by rw [hk1, hms, HZK.out.1]; exact fold_one
      have hfo2 : Array.foldl (fun cs x => cs.setIfInBounds (75 + x.snd) x.fst) k1 ms.zipIdx 0 75 = k2 := by rw [hk1, hk2, hms]; exact fold_two
      have hk1n : k1.size = 150 := by rw [hk1]; rfl
      have hk2n : k2.size = 150 := by rw [hk2]; rfl
      have hone : k2.all (·.oneCell') = true := by rw [hk2]; exact mix0_one
      have hinfo : (Tryz.prog.info? 71).map (·.size) = some k2.size := by rw [hk2n]; kernel_rfl
      have hs0 : zk.size = k2.size := by rw [hkn, hk2n]
      have HK2 : Hid (k2 = (mix0 ++ mix0).toArray) := hk2
      clear hst hms hk1 hk2
      have hbw := HF.out.2.2.2
      have hfr : First wr := hf.below hbw (by have := hf.1; omega)
      go_wp2_with fail
      refine (HST.out wr hfr).mono ?_
      rintro e w5 ⟨rfl, hb5⟩
      have hf5 : First w5 := hfr.below hb5 hfr.1
      go_wp2_with fail
      refine (HST.out w5 hf5).mono ?_
      rintro e w6 ⟨rfl, hb6⟩
      have hb6' := hb5.trans (hb6.mono hb5.size)
      clear hb5 hb6 hf5
      go_wp2_with (refine wpList_store_row rfl 71 _ _ rfl w6.heap.size k2 rfl rfl 71 _ (heap_alloc_new w6 _) hinfo hs0 hone ?_)
      rw [World.setRow_alloc_new]
      have k7 : Row (w6.alloc (.cells k2 71)) w6.heap.size 71 (mix0 ++ mix0) := by rw [HK2.out]; exact heap_alloc_new w6 _
      have hb7 := hb6'.alloc hb6'.size (.cells k2 71)
      obtain ⟨KB, hKB⟩ : ∃ KB, KB = w6.heap.size := ⟨_, rfl⟩
      have hKB1 : wr.heap.size ≤ KB := by rw [hKB]; exact hb6'.size
      rw [← hKB] at k7
      rw [← hKB]
      obtain ⟨w7, hw7⟩ : ∃ w7, w6.alloc (.cells k2 71) = w7 := ⟨_, rfl⟩
      rw [hw7] at k7 hb7
      rw [hw7]
      clear hw7 hKB hb6' hinfo hs0 hone hk1n hfo1 hfo2 HST hmn hk2n
      have hx7 := HF.out.1.below hb7 HF.out.1.lt
      have hy7 := HF.out.2.1.below hb7 HF.out.2.1.lt
      have hH7 := HF.out.2.2.1.below hb7 HF.out.2.2.1.lt
      have hq7 : Cubes w7 := (hq.below hbw (by have := hq.1; omega)).below hb7 (hq.below hbw (by have := hq.1; omega)).1
      have hb7w : Below H w w7 := hbw.trans (hb7.mono (by have := hbw.size; omega))
      have hmi : MixIn w7 KB 71 [] mix0 [] 0 := ⟨List.replicate 64 (.int .u8 0), rfl, zeros_one, k7⟩
      have hipl : (xorL 54 K).length = 64 := by rw [xorL_length]; exact hKl
      have hopl : (xorL 92 K).length = 64 := by rw [xorL_length]; exact hKl
      have hipb : Bytes (xorL 54 K) := xorL_bytes (by decide) hKb
      have hopb : Bytes (xorL 92 K) := xorL_bytes (by decide) hKb
      obtain ⟨ip, hip⟩ : ∃ ip, ip = xorL 54 K := ⟨_, rfl⟩
      obtain ⟨op, hop⟩ : ∃ op, op = xorL 92 K := ⟨_, rfl⟩
      rw [← hip] at hx7 hipl hipb
      rw [← hop] at hy7 hopl hopb
      have hKB2 : X + 1 < KB := by have := HF.out.2.1.lt; omega
      have hB1 : 1 < KB := by have := hq.1; omega
      have hcvx := bytes_text w7 (X) 67 ip hipl hx7
      obtain ⟨sx, hsx⟩ : ∃ sx, sx = strOfNums (ip.map fun (x : Nat) => (x : Int)) := ⟨_, rfl⟩
      have hnx : numsOf sx = ip := by rw [hsx]; exact numsOf_str ip hipb
      rw [← hsx] at hcvx
      have H7 : Hid (MixIn w7 KB 71 [] mix0 [] 0 ∧ Row w7 (X + 1) 67 (byV op) ∧ Row w7 H 71 (mixZ ++ mixZ) ∧ Cubes w7 ∧ Below H w w7 ∧ numsOf sx = ip ∧ ip = xorL 54 K ∧ op = xorL 92 K) := ⟨hmi, hy7, hH7, hq7, hb7w, hnx, hip, hop⟩
      clear hx7 hy7 hH7 hq7 hb7w hmi hip hop hsx hnx k7 hb7 hbw
      have hsz : sx.size = 64 := by rw [← numsOf_length, H7.out.2.2.2.2.2.1, hipl]
      go_wp2_with fail
      rw [hcvx]
      go_wp2_with fail
      refine (feed_mid KB 0 71 [] mix0 rfl [] (fun x hx => by simp at hx) sx (by simp; omega) w7 H7.out.2.2.2.1 hB1 H7.out.1).mono ?_
      rintro e w8 ⟨rfl, hm8, ho8⟩
      rw [List.nil_append, H7.out.2.2.2.2.2.1] at hm8
      have hy8 := H7.out.2.1.only ho8 (by omega)
      have hH8 := H7.out.2.2.1.only ho8 (by omega)
      have hq8 := H7.out.2.2.2.1.only ho8 hB1
      obtain ⟨R1, hR1, hR1o, hr8⟩ := hm8
      have hb8w : Below H w w8 := H7.out.2.2.2.2.1.trans ((ho8.below (mixIn_le H7.out.1)).mono (by omega))
      rw [hipl] at hr8 hR1
      have hd1 : ip.drop (64 * (64 / 64)) = [] := List.drop_eq_nil_of_le (by omega)
      rw [hd1] at hr8
      have hA75 : (mixV (absorb ip (64 / 64)) (byV [] ++ R1) (64 % 64) 64).length = 75 := by simp [mixV, mixA, mixT, byV, hR1]
      have hmo : MixIn w8 KB 71 (mixV (absorb ip (64 / 64)) (byV [] ++ R1) (64 % 64) 64) [] [] 0 := ⟨List.replicate 64 (.int .u8 0), rfl, zeros_one, by
        rw [List.append_nil]
        exact hr8⟩
      obtain ⟨AA, hAA⟩ : ∃ AA, AA = mixV (absorb ip (64 / 64)) (byV [] ++ R1) (64 % 64) 64 := ⟨_, rfl⟩
      rw [← hAA] at hmo hA75
      have hcvy := bytes_text w8 (X + 1) 67 op hopl hy8
      obtain ⟨sy, hsy⟩ : ∃ sy, sy = strOfNums (op.map fun (x : Nat) => (x : Int)) := ⟨_, rfl⟩
      have hny : numsOf sy = op := by rw [hsy]; exact numsOf_str op hopb
      rw [← hsy] at hcvy
      have H8 : Hid (MixIn w8 KB 71 AA [] [] 0 ∧ Row w8 H 71 (mixZ ++ mixZ) ∧ Cubes w8 ∧ Below H w w8 ∧ numsOf sy = op ∧ AA = mixV (absorb ip (64 / 64)) (byV [] ++ R1) (64 % 64) 64 ∧ 75 = AA.length) := ⟨hmo, hH8, hq8, hb8w, hny, hAA, hA75.symm⟩
      clear hy8 hH8 hq8 hr8 hb8w hd1 hA75 hmo hAA hsy hny ho8 hcvx
      have hszy : sy.size = 64 := by rw [← numsOf_length, H8.out.2.2.2.2.1, hopl]
      go_wp2_with fail
      refine (feed_mid KB 75 71 AA [] H8.out.2.2.2.2.2.2 [] (fun x hx => by simp at hx) sy (by simp; omega) w8 H8.out.2.2.1 hB1 H8.out.1).mono ?_
      rintro e w9 ⟨rfl, hm9, ho9⟩
      rw [List.nil_append, H8.out.2.2.2.2.1] at hm9
      have hH9 := H8.out.2.1.only ho9 (by omega)
      obtain ⟨R2, hR2, hR2o, hr9⟩ := hm9
      have hb9w : Below H w w9 := H8.out.2.2.2.1.trans ((ho9.below (mixIn_le H8.out.1)).mono (by omega))
      rw [hopl] at hr9 hR2
      have hd2 : op.drop (64 * (64 / 64)) = [] := List.drop_eq_nil_of_le (by omega)
      rw [hd2, List.append_nil] at hr9
      obtain ⟨cs, hcs⟩ : ∃ cs, cs = (AA ++ mixV (absorb op (64 / 64)) (byV [] ++ R2) (64 % 64) 64).toArray := ⟨_, rfl⟩
      have hk9 : w9.heap[KB]? = some (.cells cs 71 (0, 0)) := by rw [hcs]; exact hr9
      have hcn : cs.size = 150 := by
        have := H8.out.2.2.2.2.2.2
        rw [hcs]; simp [mixV, mixA, mixT, byV, hR2]; omega
      have hone : cs.all (·.oneCell') = true := by rw [hcs]; rw [H8.out.2.2.2.2.2.1]; exact key_one ip op R1 R2 hR1o hR2o
      have HCS : Hid (cs = (keyV (padK (shaL (numsOf s0))) R1 R2).toArray ∧ RestOk R1 ∧ RestOk R2) := ⟨by
        rw [hcs, H8.out.2.2.2.2.2.1, H7.out.2.2.2.2.2.2.1, H7.out.2.2.2.2.2.2.2, HW.out.2.1, HNS.out]; rfl, ⟨hR1, hR1o⟩, ⟨hR2, hR2o⟩⟩
      have hinfo : (Tryz.prog.info? 71).map (·.size) = some cs.size := by rw [hcn]; kernel_rfl
      have hH9' : w9.heap[H]? = some (.cells (mixZ ++ mixZ).toArray 71 (0, 0)) := hH9
      have hs0 : (mixZ ++ mixZ).toArray.size = cs.size := by rw [hcn]; rfl
      have hba := below_rowH hb9w (Nat.le_refl H) cs
      have hl0 := run_loadVar_row (P := Tryz.prog) (w9.setRow H cs) H 71 71 cs (0, 0) _ (setRow_heap _ _ _ _ _ _ hH9') Tryz.underlying71 rfl hinfo
      have HB : Hid (Below w.heap.size w (w9.setRow H cs)) := by
        show Below _ _ _
        rw [← HW.out.1]
        exact hba
      clear hr9 hR2 hd2 hcs hb9w ho9 hba hcvy hH9
      go_wp2_with (first | refine wpList_load_row rfl 71 _ rfl KB rfl 71 _ (0, 0) _ hk9 Tryz.underlying71 rfl hinfo ?_ | refine wpList_store_row rfl 71 _ _ rfl H cs rfl rfl 71 _ hH9' hinfo hs0 hone ?_)
      exact bodyPost_ret (v := .agg cs) (by simp [results, Tryz.results24, asAddr, Act.put, hl0]) rfl ⟨R1, R2, HCS.out.2.1, HCS.out.2.2, by rw [HCS.out.1], HB.out⟩
end Go.Proofs.YtdhiopbomnfmnaaGreatDoor.Sm

namespace Go.Proofs.YtdhiopbomnfmnaaGreatDoor.Sm
set_option maxRecDepth 20000
open Go.RowKit

end Go.Proofs.YtdhiopbomnfmnaaGreatDoor.Sm

namespace Go.Proofs.YtdhiopbomnfmnaaGreatDoor.Sm
set_option maxRecDepth 20000
open Go.RowKit

theorem numsOf_append (s t : ByteArray) : numsOf (s ++ t) = numsOf s ++ numsOf t := by
  simp [numsOf]

/-- A slice of n texts, S 0, S 1 and so on; if it is empty, wherever it lies. -/
def Strs (w : World) (v : Value) (n : Nat) (S : Nat → ByteArray) : Prop :=
  ∃ a cap, v = .slice a n cap ∧ n ≤ maxLen ∧ (n = 0 ∨ ∃ b off, a = some ⟨b, off, none⟩ ∧ b < w.heap.size ∧ ∀ i, i < n → w.cell? ⟨b, off + i, none⟩ = some (.string (S i)))

theorem mixAt_only {w w' : World} {B C : Nat} {l : List Nat} {n : Nat} (h : MixAt w C l n) (ho : Only B w w') (hne : C ≠ B) : MixAt w' C l n := by
  obtain ⟨R, hR, hr⟩ := h
  exact ⟨R, hR, hr.only ho hne⟩
theorem mixAt_below {w w' : World} {B : Nat} {l : List Nat} {n : Nat} (h : MixAt w B l n) (hb : Below w.heap.size w w') : MixAt w' B l n := by
  obtain ⟨R, hR, hr⟩ := h
  exact ⟨R, hR, hr.below hb hr.lt⟩
theorem mixAt_lt {w : World} {B : Nat} {l : List Nat} {n : Nat} (h : MixAt w B l n) : B < w.heap.size := by
  obtain ⟨R, _, hr⟩ := h
  exact hr.lt
theorem mixAt_le {w : World} {B : Nat} {l : List Nat} {n : Nat} (h : MixAt w B l n) : B ≤ w.heap.size := by
  obtain ⟨R, _, hr⟩ := h
  exact Nat.le_of_lt hr.lt
end Go.Proofs.YtdhiopbomnfmnaaGreatDoor.Sm
