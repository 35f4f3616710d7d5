/- box.put: two words' sixteen bytes. -/
import Derived.Test.YtolmfhgpdcmhlaaPolyLow
import Derived.Test.YtolmfhgpdcmhlaaBxRow
namespace Go.Proofs.Ytolmfhgpdcmhlaa
open Go.RowKit

theorem leB_two (x y : Nat) (hx : x < 18446744073709551616) : leB 16 (x + y * 18446744073709551616) = leB 8 x ++ leB 8 y := by
  have hb : ∀ z ∈ leB 8 x ++ leB 8 y, z < 256 := fun z hz => by
    rcases List.mem_append.1 hz with h | h
    · exact leB_bytes _ _ _ h
    · exact leB_bytes _ _ _ h
  have h1 := leB_leN _ hb
  rw [List.length_append, leB_length, leB_length, leN_append, leB_length, leN_leB, leN_leB, Nat.mod_eq_of_lt (a := x) hx] at h1
  rw [← h1]
  unfold leB
  refine List.map_congr_left fun i hi => ?_
  have hi := List.mem_range.1 hi
  have e : x + y * 18446744073709551616 = x + 256 ^ 8 * (y % 256 ^ 8) + 2 ^ (8 * i) * (2 ^ (128 - 8 * i) * (y / 256 ^ 8)) := by
    rw [← Nat.mul_assoc, ← Nat.pow_add, show 8 * i + (128 - 8 * i) = 128 by omega]
    omega
  rw [e, Nat.add_mul_div_left _ _ (Nat.two_pow_pos _)]
  have h2 : 2 ^ (128 - 8 * i) * (y / 256 ^ 8) = 256 * (2 ^ (120 - 8 * i) * (y / 256 ^ 8)) := by
    rw [← Nat.mul_assoc, show (256 : Nat) = 2 ^ 8 from rfl, ← Nat.pow_add, show 8 + (120 - 8 * i) = 128 - 8 * i by omega]
  rw [h2, Nat.add_mul_mod_self_left]

/-- The bytes of two words, j of each. -/
def putF (x y j k : Nat) : Value := if k < 8 then (if k < j then .int .u8 ((x / 2 ^ (8 * k) % 256 : Nat) : Int) else .int .u8 0) else if k - 8 < j then .int .u8 ((y / 2 ^ (8 * (k - 8)) % 256 : Nat) : Int) else .int .u8 0
theorem putF_step (x y j : Nat) (hj : j < 8) (k : Nat) (hk : k < 16) : (if k = 8 + j then Value.int .u8 ((y / 2 ^ (8 * j) % 256 : Nat) : Int) else if k = j then Value.int .u8 ((x / 2 ^ (8 * j) % 256 : Nat) : Int) else putF x y j k) = putF x y (j + 1) k := by
  unfold putF
  by_cases h1 : k = 8 + j
  · subst h1
    rw [if_pos rfl, if_neg (by omega), if_pos (by omega), show 8 + j - 8 = j by omega]
  · rw [if_neg h1]
    by_cases h2 : k = j
    · subst h2
      rw [if_pos rfl, if_pos hj, if_pos (by omega)]
    · rw [if_neg h2]
      by_cases h3 : k < 8
      · rw [if_pos h3, if_pos h3]
        by_cases h4 : k < j
        · rw [if_pos h4, if_pos (by omega)]
        · rw [if_neg h4, if_neg (by omega)]
      · rw [if_neg h3, if_neg h3]
        by_cases h4 : k - 8 < j
        · rw [if_pos h4, if_pos (by omega)]
        · rw [if_neg h4, if_neg (by omega)]
theorem putF_all (x y : Nat) : rowF 16 (putF x y 8) = byV (leB 8 x ++ leB 8 y) := by
  simp [rowF, byV, leB, putF, List.range, List.range.loop]

set_option maxHeartbeats 1000000 in
theorem put_any (x y : Nat) (w : World) :
    Calls Try.prog 46 #[.int .u64 x, .int .u64 y] w fun e w' => e = .returned (.agg (byV (leB 8 x ++ leB 8 y)).toArray) ∧ Below w.heap.size w w' := by
  go_enter Try.func46, Try.ntmps46
  have HB : Hid (∀ o1 o2, Below w.heap.size w ((w.alloc o1).alloc o2)) := fun o1 o2 => ((Below.refl _ _).alloc (Nat.le_refl _) _).alloc (by simp) _
  go_wp2_with fail
  go_loopw [7] (fun i wr => ∃ j : Nat, j ≤ 8 ∧ i = .int .i64 j ∧ Row wr (w.heap.size + 1) 71 (rowF 16 (putF x y j)) ∧ Row wr w.heap.size 71 (byV (List.replicate 16 0)) ∧ Below w.heap.size w wr) (fun i _ => 8 - (intOf i).toNat)
  case atStart => exact ⟨0, Nat.zero_le _, rfl, heap_alloc2_new w _ _, heap_alloc2_old w _ _, HB.out _ _⟩
  case round =>
    obtain ⟨j, hj, rfl, k1, k0, hbw⟩ := hrel
    by_cases hlt : j < 8
    · have d1 := k1.cellF j (by omega)
      have d2 := k1.cellF (8 + j) (by omega)
      have d3 : ∀ i, wr.frozen? ⟨w.heap.size + 1, i, none⟩ = false := fun i => k1.frozen i
      have q0 : IntKind.i64.wrap (8 * (j : Int)) = 8 * j := by rw [IntKind.wrap_i64]; omega
      have q1 : IntKind.i64.wrap (8 + (j : Int)) = 8 + j := by rw [IntKind.wrap_i64]; omega
      have t0 : (8 * (j : Int)).toNat = 8 * j := by omega
      have t1 : (8 + (j : Int)).toNat = 8 + j := by omega
      have s0 : (j : Int) < 16 := by omega
      have s1 : (8 : Int) + (j : Int) < 16 := by omega
      have s2 : (0 : Int) ≤ 8 + (j : Int) := by omega
      have s3 : (0 : Int) ≤ 8 * (j : Int) := by omega
      have k2 := (k1.setF j (.int .u8 ((x : Int) / 2 ^ (8 * j) % 256))).setF (8 + j) (.int .u8 ((y : Int) / 2 ^ (8 * j) % 256))
      have hst := rowF_congr fun k hk => putF_step x y j hlt k hk
      have k3 : Row ((wr.setCell ⟨w.heap.size + 1, j, none⟩ (.int .u8 ((x : Int) / 2 ^ (8 * j) % 256))).setCell ⟨w.heap.size + 1, 8 + j, none⟩ (.int .u8 ((y : Int) / 2 ^ (8 * j) % 256))) (w.heap.size + 1) 71 (rowF 16 (putF x y (j + 1))) := by
        rw [← hst]; exact k2
      have k0' : Row ((wr.setCell ⟨w.heap.size + 1, j, none⟩ (.int .u8 ((x : Int) / 2 ^ (8 * j) % 256))).setCell ⟨w.heap.size + 1, 8 + j, none⟩ (.int .u8 ((y : Int) / 2 ^ (8 * j) % 256))) w.heap.size 71 (byV (List.replicate 16 0)) := (Below.heap_setCell _ _ _ _ (by simp)).trans ((Below.heap_setCell _ _ _ _ (by simp)).trans k0)
      have hbw' := (hbw.setCell (p := ⟨w.heap.size + 1, j, none⟩) (by simp) (.int .u8 ((x : Int) / 2 ^ (8 * j) % 256))).setCell (p := ⟨w.heap.size + 1, 8 + j, none⟩) (by simp) (.int .u8 ((y : Int) / 2 ^ (8 * j) % 256))
      have HK : Hid (Row ((wr.setCell ⟨w.heap.size + 1, j, none⟩ (.int .u8 ((x : Int) / 2 ^ (8 * j) % 256))).setCell ⟨w.heap.size + 1, 8 + j, none⟩ (.int .u8 ((y : Int) / 2 ^ (8 * j) % 256))) (w.heap.size + 1) 71 (rowF 16 (putF x y (j + 1))) ∧ Row ((wr.setCell ⟨w.heap.size + 1, j, none⟩ (.int .u8 ((x : Int) / 2 ^ (8 * j) % 256))).setCell ⟨w.heap.size + 1, 8 + j, none⟩ (.int .u8 ((y : Int) / 2 ^ (8 * j) % 256))) w.heap.size 71 (byV (List.replicate 16 0)) ∧ Below w.heap.size w ((wr.setCell ⟨w.heap.size + 1, j, none⟩ (.int .u8 ((x : Int) / 2 ^ (8 * j) % 256))).setCell ⟨w.heap.size + 1, 8 + j, none⟩ (.int .u8 ((y : Int) / 2 ^ (8 * j) % 256)))) := ⟨k3, k0', hbw'⟩
      clear k2 hst k3 k0' hbw' k1 k0 hbw
      go_wp2
      go_roundw
      case rel => exact ⟨j + 1, by omega, by go_num, HK.out.1, HK.out.2.1, HK.out.2.2⟩
      case measure => simp [intOf]; omega
    · obtain rfl : j = 8 := by omega
      rw [putF_all] at k1
      obtain ⟨ds, hds⟩ : ∃ ds, ds = (byV (leB 8 x ++ leB 8 y)).toArray := ⟨_, rfl⟩
      have hsz : ds.size = 16 := by rw [hds]; simp [byV, leB]
      have hone : ds.all (·.oneCell') = true := by rw [hds]; simp [byV, Value.oneCell']
      have k1' : wr.heap[w.heap.size + 1]? = some (.cells ds 71 (0, 0)) := by rw [hds]; exact k1
      have HDS : Hid (ds = (byV (leB 8 x ++ leB 8 y)).toArray) := hds
      clear hds k1
      have k0' : wr.heap[w.heap.size]? = some (.cells (byV (List.replicate 16 0)).toArray 71 (0, 0)) := k0
      have hs0 : (byV (List.replicate 16 0)).toArray.size = ds.size := by rw [hsz]; rfl
      have hinfo : (Try.prog.info? 71).map (·.size) = some ds.size := by rw [hsz]; kernel_rfl
      have hba := below_rowH hbw (Nat.le_refl _) ds
      have hl0 := run_loadVar_row (P := Try.prog) (wr.setRow w.heap.size ds) w.heap.size 71 71 ds (0, 0) _ (setRow_heap _ _ _ _ _ _ k0') Try.underlying71 rfl hinfo
      go_wp2_with (first | refine wpList_load_row rfl 71 _ rfl (w.heap.size + 1) rfl 71 _ (0, 0) _ k1' Try.underlying71 rfl hinfo ?_ | refine wpList_store_row rfl 71 _ _ rfl w.heap.size ds rfl rfl 71 _ k0' hinfo hs0 hone ?_)
      exact bodyPost_ret (v := .agg ds) (by simp [results, Try.results46, asAddr, Act.put, hl0]) rfl ⟨by rw [HDS.out], hba⟩
end Go.Proofs.Ytolmfhgpdcmhlaa
