/- box.word and stateOf: the words of a key and a nonce. -/
import Derived.Test.YtfmaajfohieneaaDoorBxChaBlock
namespace Go.Proofs.YtfmaajfohieneaaDoor.Bx
set_option maxRecDepth 20000
open Go.RowKit

theorem or_step32 (i n x k : Nat) (hk : k = 2 ^ i) (hn : n < 2 ^ i) (hx : x < 256) (hi : i ≤ 24) : bits .or .u32 (n : Int) ((x : Int) * (k : Int)) = ((n + x * k : Nat) : Int) := by
  subst hk
  have h1 : 2 ^ i ≤ 2 ^ 24 := Nat.pow_le_pow_right (by decide) hi
  have h2 : x * 2 ^ i ≤ 255 * 2 ^ i := Nat.mul_le_mul_right _ (by omega)
  rw [← Int.natCast_mul, u32_or_nat _ _ (by omega) (by omega), Nat.or_comm, nat_join i _ _ (Nat.mul_mod_left _ _) hn, Nat.add_comm]
theorem word_bits (x0 x1 x2 x3 : Nat) (h0 : x0 < 256) (h1 : x1 < 256) (h2 : x2 < 256) (h3 : x3 < 256) :
    ∃ n1 n2 : Nat, bits .or .u32 (x0 : Int) ((x1 : Int) * 256) = (n1 : Int) ∧ bits .or .u32 (n1 : Int) ((x2 : Int) * 65536) = (n2 : Int) ∧ bits .or .u32 (n2 : Int) ((x3 : Int) * 16777216) = ((x0 + x1 * 256 + x2 * 65536 + x3 * 16777216 : Nat) : Int) :=
  ⟨x0 + x1 * 256, x0 + x1 * 256 + x2 * 65536, or_step32 8 _ x1 256 rfl (by omega) h1 (by decide), or_step32 16 _ x2 65536 rfl (by omega) h2 (by decide), or_step32 24 _ x3 16777216 rfl (by omega) h3 (by decide)⟩
theorem nums_at (s : ByteArray) (i : Nat) (h : i < s.size) : (numsOf s).getD i 0 = s[i].toNat := by
  rw [getD_at _ _ (by rw [numsOf_length]; exact h)]
  simp [numsOf]
  rfl

set_option maxHeartbeats 1000000 in
theorem word_any (s : ByteArray) (hs : 4 ≤ s.size) (w : World) :
    Calls Tryd.prog 67 #[.string s] w fun e w' => e = .returned (.int .u32 (wordL (numsOf s) 0 : Nat)) ∧ ∃ n, w' = w.drewN n := by
  obtain ⟨n1, n2, v1, v2, v3⟩ := word_bits s[0].toNat s[1].toNat s[2].toNat s[3].toNat s[0].toNat_lt s[1].toNat_lt s[2].toNat_lt s[3].toNat_lt
  have e : wordL (numsOf s) 0 = s[0].toNat + s[1].toNat * 256 + s[2].toNat * 65536 + s[3].toNat * 16777216 := by
    unfold wordL
    rw [nums_at s 0 (by omega), nums_at s (0 + 1) (by omega), nums_at s (0 + 2) (by omega), nums_at s (0 + 3) (by omega)]
  rw [← e] at v3
  generalize wordL (numsOf s) 0 = W at *
  clear e
  have b0 := s[0].toNat_lt
  have b1 := s[1].toNat_lt
  have b2 := s[2].toNat_lt
  have b3 := s[3].toNat_lt
  have i0 : (0 : Int) < s.size := by omega
  have i1 : (1 : Int) < s.size := by omega
  have i2 : (2 : Int) < s.size := by omega
  have i3 : (3 : Int) < s.size := by omega
  have j0 : 0 < s.size := by omega
  have j1 : 1 < s.size := by omega
  have j2 : 2 < s.size := by omega
  have j3 : 3 < s.size := by omega
  go_enter Tryd.func67, Tryd.ntmps67
  go_wp2_with fail
  go_quiet (fail)
  go_wp2
  go_ret
  exact ⟨rfl, _, rfl⟩

/-- The sixteen words, of which some are laid. -/
def stF (K N : List Nat) (i j k : Nat) : Nat := if k = 0 then 0x61707865 else if k = 1 then 0x3320646e else if k = 2 then 0x79622d32 else if k = 3 then 0x6b206574 else if 4 ≤ k ∧ k < 4 + i then wordL K (4 * (k - 4)) else if 13 ≤ k ∧ k < 13 + j then wordL N (4 * (k - 13)) else 0
theorem stF_key (K N : List Nat) (i k : Nat) (h : i < 8) : (if k = 4 + i then wordL K (4 * i) else stF K N i 0 k) = stF K N (i + 1) 0 k := by
  unfold stF
  by_cases e : k = 4 + i
  · subst e
    rw [if_pos rfl, if_neg (by omega), if_neg (by omega), if_neg (by omega), if_neg (by omega), if_pos (by omega), show 4 + i - 4 = i by omega]
  · rw [if_neg e]
    have h1 : (4 ≤ k ∧ k < 4 + (i + 1)) = (4 ≤ k ∧ k < 4 + i) := propext ⟨fun h => by omega, fun h => by omega⟩
    simp only [h1]
theorem stF_nonce (K N : List Nat) (j k : Nat) : (if k = 13 + j then wordL N (4 * j) else stF K N 8 j k) = stF K N 8 (j + 1) k := by
  unfold stF
  by_cases e : k = 13 + j
  · subst e
    rw [if_pos rfl, if_neg (by omega), if_neg (by omega), if_neg (by omega), if_neg (by omega), if_neg (by omega), if_pos (by omega), show 13 + j - 13 = j by omega]
  · rw [if_neg e]
    have h1 : (13 ≤ k ∧ k < 13 + (j + 1)) = (13 ≤ k ∧ k < 13 + j) := propext ⟨fun h => by omega, fun h => by omega⟩
    simp only [h1]
theorem stF_all (K N : List Nat) : (rowF 16 fun k => .int .u32 (stF K N 8 3 k : Nat)) = wdV (st16 K N 0).toL := rfl
theorem wordL_drop (l : List Nat) (p : Nat) : wordL (l.drop p) 0 = wordL l p := by
  unfold wordL
  have h : ∀ i, (l.drop p).getD i 0 = l.getD (p + i) 0 := fun i => by rw [List.getD_eq_getElem?_getD, List.getD_eq_getElem?_getD, List.getElem?_drop]
  rw [h, h, h, h]
  rfl
theorem wordL_extract (s : ByteArray) (p : Nat) : wordL (numsOf (s.extract p s.size)) 0 = wordL (numsOf s) p := by
  rw [numsOf_extract, List.take_of_length_le (by simp [numsOf_length]), wordL_drop]

set_option maxRecDepth 10000 in
set_option maxHeartbeats 2000000 in
theorem stateOf_any (key nonce : ByteArray) (hk : key.size = 32) (hn : nonce.size = 12) (w : World) :
    Calls Tryd.prog 62 #[.string key, .string nonce] w fun e w' => e = .returned (.agg (wdV (st16 (numsOf key) (numsOf nonce) 0).toL).toArray) ∧ Below w.heap.size w w' := by
  have HK : Hid (∀ i, i < 8 → 4 ≤ (key.extract (4 * i) key.size).size ∧ wordL (numsOf (key.extract (4 * i) key.size)) 0 = wordL (numsOf key) (4 * i)) := fun i hi => ⟨by simp; omega, wordL_extract _ _⟩
  have HN : Hid (∀ i, i < 3 → 4 ≤ (nonce.extract (4 * i) nonce.size).size ∧ wordL (numsOf (nonce.extract (4 * i) nonce.size)) 0 = wordL (numsOf nonce) (4 * i)) := fun i hi => ⟨by simp; omega, wordL_extract _ _⟩
  have HB : Hid (∀ o1 o2, Below w.heap.size w ((w.alloc o1).alloc o2)) := fun o1 o2 => ((Below.refl _ _).alloc (Nat.le_refl _) _).alloc (by simp) _
  generalize numsOf key = K at *
  generalize numsOf nonce = N at *
  go_enter Tryd.func62, Tryd.ntmps62
  go_wp2_with fail
  go_loopw [9] (fun i wr => ∃ j : Nat, j ≤ 8 ∧ i = .int .i64 j ∧ Row wr (w.heap.size + 1) 104 (rowF 16 fun k => .int .u32 (stF K N j 0 k : Nat)) ∧ Row wr w.heap.size 104 (wdV (List.replicate 16 0)) ∧ Below w.heap.size w wr) (fun i _ => 8 - (intOf i).toNat)
  case atStart => exact ⟨0, Nat.zero_le _, rfl, heap_alloc2_new w _ _, heap_alloc2_old w _ _, HB.out _ _⟩
  case round =>
    clear HB
    obtain ⟨j, hj, rfl, k1, k0, hbw⟩ := hrel
    by_cases hlt : j < 8
    · obtain ⟨hsz, hwd⟩ := HK.out j hlt
      have hW := fun w => word_any (key.extract (4 * j) key.size) hsz w
      rw [hwd] at hW
      rw [hk] at hW
      have hst : (rowF 16 fun k => if k = 4 + j then Value.int .u32 (wordL K (4 * j) : Nat) else .int .u32 (stF K N j 0 k : Nat)) = rowF 16 fun k => .int .u32 (stF K N (j + 1) 0 k : Nat) := rowF_congr fun k _ => by rw [← stF_key K N j k hlt]; split <;> rfl
      have q0 : IntKind.i64.wrap (4 * (j : Int)) = 4 * j := by rw [IntKind.wrap_i64]; omega
      have q1 : IntKind.i64.wrap (4 + (j : Int)) = 4 + j := by rw [IntKind.wrap_i64]; omega
      have t0 : (4 * (j : Int)).toNat = 4 * j := by omega
      have t1 : (4 + (j : Int)).toNat = 4 + j := by omega
      have r0 : (0 : Int) ≤ 4 * (j : Int) := by omega
      have r1 : (0 : Int) ≤ 4 + (j : Int) := by omega
      have s0 : 4 * (j : Int) ≤ 32 := by omega
      have s1 : 4 + (j : Int) < 16 := by omega
      have d1 := k1.cellF (4 + j) (by omega)
      have d2 : wr.frozen? ⟨w.heap.size + 1, 4 + j, none⟩ = false := k1.frozen _
      have k3 := k1.setF (4 + j) (.int .u32 (wordL K (4 * j) : Nat))
      rw [hst] at k3
      have k0' : Row (wr.setCell ⟨w.heap.size + 1, 4 + j, none⟩ (.int .u32 (wordL K (4 * j) : Nat))) w.heap.size 104 (wdV (List.replicate 16 0)) := (Below.heap_setCell _ _ _ _ (by simp)).trans k0
      have hbw' := hbw.setCell (p := ⟨w.heap.size + 1, 4 + j, none⟩) (by simp) (.int .u32 (wordL K (4 * j) : Nat))
      have HR : Hid (∀ n, Row ((wr.setCell ⟨w.heap.size + 1, 4 + j, none⟩ (.int .u32 (wordL K (4 * j) : Nat))).drewN n) (w.heap.size + 1) 104 (rowF 16 fun k => .int .u32 (stF K N (j + 1) 0 k : Nat)) ∧ Row ((wr.setCell ⟨w.heap.size + 1, 4 + j, none⟩ (.int .u32 (wordL K (4 * j) : Nat))).drewN n) w.heap.size 104 (wdV (List.replicate 16 0)) ∧ Below w.heap.size w ((wr.setCell ⟨w.heap.size + 1, 4 + j, none⟩ (.int .u32 (wordL K (4 * j) : Nat))).drewN n)) := fun n => ⟨k3, k0', hbw'.trans ⟨rfl, rfl, rfl, Nat.le_refl _, fun _ _ => rfl⟩⟩
      clear hst k3 k0' hbw' k1 k0 hbw hwd hsz HK HN
      generalize wordL K (4 * j) = W at *
      go_wp2_with fail
      refine (hW _).mono ?_
      rintro e w' ⟨rfl, n, rfl⟩
      clear hW
      go_wp2
      go_roundw
      case rel => exact ⟨j + 1, by omega, by go_num, HR.out _⟩
      case measure => simp [intOf]; omega
    · obtain rfl : j = 8 := by omega
      have HL : Hid (Row wr (w.heap.size + 1) 104 (rowF 16 fun k => .int .u32 (stF K N 8 0 k : Nat)) ∧ Row wr w.heap.size 104 (wdV (List.replicate 16 0)) ∧ Below w.heap.size w wr) := ⟨k1, k0, hbw⟩
      clear k1 k0 hbw HK
      rw [show ((8 : Nat) : Int) = 8 from rfl]
      go_wp2_with fail
      go_loopw [21] (fun i wr => ∃ j : Nat, j ≤ 3 ∧ i = .int .i64 j ∧ Row wr (w.heap.size + 1) 104 (rowF 16 fun k => .int .u32 (stF K N 8 j k : Nat)) ∧ Row wr w.heap.size 104 (wdV (List.replicate 16 0)) ∧ Below w.heap.size w wr) (fun i _ => 3 - (intOf i).toNat)
      case atStart => exact ⟨0, Nat.zero_le _, rfl, HL.out⟩
      case round =>
        clear HL
        obtain ⟨j, hj, rfl, k1, k0, hbw⟩ := hrel
        by_cases hlt : j < 3
        · obtain ⟨hsz, hwd⟩ := HN.out j hlt
          have hW := fun w => word_any (nonce.extract (4 * j) nonce.size) hsz w
          rw [hwd] at hW
          rw [hn] at hW
          have hst : (rowF 16 fun k => if k = 13 + j then Value.int .u32 (wordL N (4 * j) : Nat) else .int .u32 (stF K N 8 j k : Nat)) = rowF 16 fun k => .int .u32 (stF K N 8 (j + 1) k : Nat) := rowF_congr fun k _ => by rw [← stF_nonce K N j k]; split <;> rfl
          have q0 : IntKind.i64.wrap (4 * (j : Int)) = 4 * j := by rw [IntKind.wrap_i64]; omega
          have q1 : IntKind.i64.wrap (13 + (j : Int)) = 13 + j := by rw [IntKind.wrap_i64]; omega
          have t0 : (4 * (j : Int)).toNat = 4 * j := by omega
          have t1 : (13 + (j : Int)).toNat = 13 + j := by omega
          have r0 : (0 : Int) ≤ 4 * (j : Int) := by omega
          have r1 : (0 : Int) ≤ 13 + (j : Int) := by omega
          have s0 : 4 * (j : Int) ≤ 12 := by omega
          have s1 : 13 + (j : Int) < 16 := by omega
          have d1 := k1.cellF (13 + j) (by omega)
          have d2 : wr.frozen? ⟨w.heap.size + 1, 13 + j, none⟩ = false := k1.frozen _
          have k3 := k1.setF (13 + j) (.int .u32 (wordL N (4 * j) : Nat))
          rw [hst] at k3
          have k0' : Row (wr.setCell ⟨w.heap.size + 1, 13 + j, none⟩ (.int .u32 (wordL N (4 * j) : Nat))) w.heap.size 104 (wdV (List.replicate 16 0)) := (Below.heap_setCell _ _ _ _ (by simp)).trans k0
          have hbw' := hbw.setCell (p := ⟨w.heap.size + 1, 13 + j, none⟩) (by simp) (.int .u32 (wordL N (4 * j) : Nat))
          have HR : Hid (∀ n, Row ((wr.setCell ⟨w.heap.size + 1, 13 + j, none⟩ (.int .u32 (wordL N (4 * j) : Nat))).drewN n) (w.heap.size + 1) 104 (rowF 16 fun k => .int .u32 (stF K N 8 (j + 1) k : Nat)) ∧ Row ((wr.setCell ⟨w.heap.size + 1, 13 + j, none⟩ (.int .u32 (wordL N (4 * j) : Nat))).drewN n) w.heap.size 104 (wdV (List.replicate 16 0)) ∧ Below w.heap.size w ((wr.setCell ⟨w.heap.size + 1, 13 + j, none⟩ (.int .u32 (wordL N (4 * j) : Nat))).drewN n)) := fun n => ⟨k3, k0', hbw'.trans ⟨rfl, rfl, rfl, Nat.le_refl _, fun _ _ => rfl⟩⟩
          clear hst k3 k0' hbw' k1 k0 hbw hwd hsz HN
          generalize wordL N (4 * j) = W at *
          go_wp2_with fail
          refine (hW _).mono ?_
          rintro e w' ⟨rfl, n, rfl⟩
          clear hW
          go_wp2
          go_roundw
          case rel => exact ⟨j + 1, by omega, by go_num, HR.out _⟩
          case measure => simp [intOf]; omega
        · obtain rfl : j = 3 := by omega
          rw [stF_all] at k1
          obtain ⟨ds, hds⟩ : ∃ ds, ds = (wdV (st16 K N 0).toL).toArray := ⟨_, rfl⟩
          have hsz : ds.size = 16 := by rw [hds]; rfl
          have hone : ds.all (·.oneCell') = true := by rw [hds]; simp [wdV, Value.oneCell']
          have k1' : wr.heap[w.heap.size + 1]? = some (.cells ds 104 (0, 0)) := by rw [hds]; exact k1
          have HDS : Hid (ds = (wdV (st16 K N 0).toL).toArray) := hds
          clear hds k1 HN
          have k0' : wr.heap[w.heap.size]? = some (.cells (wdV (List.replicate 16 0)).toArray 104 (0, 0)) := k0
          have hs0 : (wdV (List.replicate 16 0)).toArray.size = ds.size := by rw [hsz]; rfl
          have hinfo : (Tryd.prog.info? 104).map (·.size) = some ds.size := by rw [hsz]; kernel_rfl
          have hba := below_rowH hbw (Nat.le_refl _) ds
          have hl0 := run_loadVar_row (P := Tryd.prog) (wr.setRow w.heap.size ds) w.heap.size 104 104 ds (0, 0) _ (setRow_heap _ _ _ _ _ _ k0') Tryd.underlying104 rfl hinfo
          go_wp2_with (first | refine wpList_load_row rfl 104 _ rfl (w.heap.size + 1) rfl 104 _ (0, 0) _ k1' Tryd.underlying104 rfl hinfo ?_ | refine wpList_store_row rfl 104 _ _ rfl w.heap.size ds rfl rfl 104 _ k0' hinfo hs0 hone ?_)
          exact bodyPost_ret (v := .agg ds) (by simp [results, Tryd.results62, asAddr, Act.put, hl0]) rfl ⟨by rw [HDS.out], hba⟩
end Go.Proofs.YtfmaajfohieneaaDoor.Bx
