/- box.low, pair and put: eight bytes and their number, sixteen bytes and their two words. · box.put: two words' sixteen bytes. -/
import Derived.Test.YtfmaajfohieneaaDoorBxPolyProd
import Derived.Test.YtfmaajfohieneaaDoorMg35
namespace Go.Proofs.YtfmaajfohieneaaDoor.Bx
set_option maxRecDepth 20000
open Go.RowKit

theorem or_step (i n x k : Nat) (hk : k = 2 ^ i) (hn : n < 2 ^ i) (hx : x < 256) (hi : i ≤ 56) : bits .or .u64 (n : Int) ((x : Int) * (k : Int)) = ((n + x * k : Nat) : Int) := by
  subst hk
  have h1 : 2 ^ i ≤ 2 ^ 56 := Nat.pow_le_pow_right (by decide) hi
  have h2 : x * 2 ^ i ≤ 255 * 2 ^ i := Nat.mul_le_mul_right _ (by omega)
  rw [← Int.natCast_mul, u64_or_nat _ _ (by omega) (by omega), Nat.or_comm, nat_join i _ _ (Nat.mul_mod_left _ _) hn, Nat.add_comm]
theorem low_bits (x0 x1 x2 x3 x4 x5 x6 x7 : Nat) (h0 : x0 < 256) (h1 : x1 < 256) (h2 : x2 < 256) (h3 : x3 < 256) (h4 : x4 < 256) (h5 : x5 < 256) (h6 : x6 < 256) (h7 : x7 < 256) :
    ∃ n1 n2 n3 n4 n5 n6 : Nat, bits .or .u64 (x0 : Int) ((x1 : Int) * 256) = (n1 : Int) ∧ bits .or .u64 (n1 : Int) ((x2 : Int) * 65536) = (n2 : Int) ∧ bits .or .u64 (n2 : Int) ((x3 : Int) * 16777216) = (n3 : Int) ∧ bits .or .u64 (n3 : Int) ((x4 : Int) * 4294967296) = (n4 : Int) ∧ bits .or .u64 (n4 : Int) ((x5 : Int) * 1099511627776) = (n5 : Int) ∧ bits .or .u64 (n5 : Int) ((x6 : Int) * 281474976710656) = (n6 : Int) ∧ bits .or .u64 (n6 : Int) ((x7 : Int) * 72057594037927936) = ((leN [x0, x1, x2, x3, x4, x5, x6, x7] : Nat) : Int) := by
  refine ⟨x0 + x1 * 256, x0 + x1 * 256 + x2 * 65536, x0 + x1 * 256 + x2 * 65536 + x3 * 16777216, x0 + x1 * 256 + x2 * 65536 + x3 * 16777216 + x4 * 4294967296, x0 + x1 * 256 + x2 * 65536 + x3 * 16777216 + x4 * 4294967296 + x5 * 1099511627776, x0 + x1 * 256 + x2 * 65536 + x3 * 16777216 + x4 * 4294967296 + x5 * 1099511627776 + x6 * 281474976710656, ?_, ?_, ?_, ?_, ?_, ?_, ?_⟩
  · exact or_step 8 _ x1 256 rfl (by omega) h1 (by decide)
  · exact or_step 16 _ x2 65536 rfl (by omega) h2 (by decide)
  · exact or_step 24 _ x3 16777216 rfl (by omega) h3 (by decide)
  · exact or_step 32 _ x4 4294967296 rfl (by omega) h4 (by decide)
  · exact or_step 40 _ x5 1099511627776 rfl (by omega) h5 (by decide)
  · exact or_step 48 _ x6 281474976710656 rfl (by omega) h6 (by decide)
  · refine (or_step 56 _ x7 72057594037927936 rfl (by omega) h7 (by decide)).trans (congrArg _ ?_)
    simp only [leN]
    omega

set_option maxHeartbeats 1000000 in
theorem low_any (x0 x1 x2 x3 x4 x5 x6 x7 : Nat) (hb : Bytes [x0, x1, x2, x3, x4, x5, x6, x7]) (g o cap : Nat) (w : World)
    (c0 : w.cell? ⟨g, o, none⟩ = some (.int .u8 x0)) (c1 : w.cell? ⟨g, o + 1, none⟩ = some (.int .u8 x1)) (c2 : w.cell? ⟨g, o + 2, none⟩ = some (.int .u8 x2)) (c3 : w.cell? ⟨g, o + 3, none⟩ = some (.int .u8 x3)) (c4 : w.cell? ⟨g, o + 4, none⟩ = some (.int .u8 x4)) (c5 : w.cell? ⟨g, o + 5, none⟩ = some (.int .u8 x5)) (c6 : w.cell? ⟨g, o + 6, none⟩ = some (.int .u8 x6)) (c7 : w.cell? ⟨g, o + 7, none⟩ = some (.int .u8 x7)) :
    Calls Tryd.prog 89 #[.slice (some ⟨g, o, none⟩) 8 cap] w fun e w' => e = .returned (.int .u64 (leN [x0, x1, x2, x3, x4, x5, x6, x7] : Nat)) ∧ ∃ n, w' = w.drewN n := by
  have b : x0 < 256 ∧ x1 < 256 ∧ x2 < 256 ∧ x3 < 256 ∧ x4 < 256 ∧ x5 < 256 ∧ x6 < 256 ∧ x7 < 256 := by simpa [Bytes] using hb
  obtain ⟨b0, b1, b2, b3, b4, b5, b6, b7⟩ := b
  obtain ⟨n1, n2, n3, n4, n5, n6, v1, v2, v3, v4, v5, v6, v7⟩ := low_bits x0 x1 x2 x3 x4 x5 x6 x7 b0 b1 b2 b3 b4 b5 b6 b7
  generalize leN [x0, x1, x2, x3, x4, x5, x6, x7] = N at *
  clear hb
  go_enter Tryd.func89, Tryd.ntmps89
  go_wp2_with fail
  go_quiet (fail)
  go_wp2
  go_ret
  exact ⟨rfl, _, rfl⟩

theorem list16 (l : List Nat) (h : l.length = 16) : ∃ a b c d e f g h a' b' c' d' e' f' g' h' : Nat, l = [a, b, c, d, e, f, g, h, a', b', c', d', e', f', g', h'] := by
  match l, h with
  | [a, b, c, d, e, f, g, h, a', b', c', d', e', f', g', h'], _ => exact ⟨a, b, c, d, e, f, g, h, a', b', c', d', e', f', g', h', rfl⟩
theorem bdrewN {B : Nat} {a w : World} (h : Below B a w) (n : Nat) : Below B a (w.drewN n) := h.trans ⟨rfl, rfl, rfl, Nat.le_refl _, fun _ _ => rfl⟩
/-- The word at a place of sixteen bytes. -/
def wordAt (l : List Nat) (o : Nat) : Nat := leN ((l.drop o).take 8)
theorem low_at (l : List Nat) (hl : l.length = 16) (hb : Bytes l) (g t cap o : Nat) (ho : o ≤ 8) (w : World) (hr : w.heap[g]? = some (.cells (byV l).toArray t (0, 0))) :
    Calls Tryd.prog 89 #[.slice (some ⟨g, o, none⟩) 8 cap] w fun e w' => e = .returned (.int .u64 (wordAt l o : Nat)) ∧ ∃ n, w' = w.drewN n := by
  have hl8 : ((l.drop o).take 8).length = 8 := by simp; omega
  have hb8 : Bytes ((l.drop o).take 8) := (hb.drop o).take 8
  have hc : ∀ i, i < 8 → w.cell? ⟨g, o + i, none⟩ = some (.int .u8 (((l.drop o).take 8).getD i 0 : Nat)) := fun i hi => by
    have hr' : Row w g t (byV l) := hr
    rw [hr'.cell, byV_get _ _ (by omega)]
    congr 3
    rw [List.getD_eq_getElem?_getD, List.getD_eq_getElem?_getD, List.getElem?_take, if_pos hi, List.getElem?_drop]
  unfold wordAt
  generalize (l.drop o).take 8 = m at *
  match m, hl8 with
  | [x0, x1, x2, x3, x4, x5, x6, x7], _ => exact low_any x0 x1 x2 x3 x4 x5 x6 x7 hb8 g o cap w (hc 0 (by decide)) (hc 1 (by decide)) (hc 2 (by decide)) (hc 3 (by decide)) (hc 4 (by decide)) (hc 5 (by decide)) (hc 6 (by decide)) (hc 7 (by decide))

set_option maxHeartbeats 1000000 in
theorem pair_any (l : List Nat) (hl : l.length = 16) (hb : Bytes l) (g t : Nat) (w : World) (hr : Row w g t (byV l)) :
    Calls Tryd.prog 78 #[.pointer (some ⟨g, 0, none⟩)] w fun e w' => e = .returned (.agg #[.int .u64 (wordAt l 0 : Nat), .int .u64 (wordAt l 8 : Nat)]) ∧ Below w.heap.size w w' := by
  have hg := hr.lt
  have hlo := fun cap o ho w hr => low_at l hl hb g t cap o ho w hr
  obtain ⟨cs, hcs⟩ : ∃ cs, cs = (byV l).toArray := ⟨_, rfl⟩
  rw [← hcs] at hlo
  have hk : w.heap[g]? = some (.cells cs t (0, 0)) := by rw [hcs]; exact hr
  clear hr hcs
  generalize wordAt l = V at *
  have hk1 : ∀ o, (w.alloc o).heap[g]? = some (.cells cs t (0, 0)) := fun o => (Below.heap_alloc w o g hg).trans hk
  have hne : g ≠ w.heap.size := by omega
  have hk2 : ∀ (w' : World) v v', w'.heap[g]? = some (.cells cs t (0, 0)) → ((w'.setCell ⟨w.heap.size, 0, none⟩ v).setCell ⟨w.heap.size, 1, none⟩ v').heap[g]? = some (.cells cs t (0, 0)) := fun w' v v' h => (Below.heap_setCell _ _ _ _ hne).trans ((Below.heap_setCell _ _ _ _ hne).trans h)
  go_enter Tryd.func78, Tryd.ntmps78
  go_wp2_with fail
  go_region_held3 (fun w' => w'.heap[g]? = some (.cells cs t (0, 0))) (first | exact hk1 _ | assumption | exact hk2 _ _ _ (hk1 _)) (first | (go_at_call 89; refine (hlo _ _ (by decide) _ (by first | exact hk1 _ | assumption)).mono ?_; rintro e w' ⟨rfl, n, rfl⟩))
  clear hlo hk1 hk2
  go_wp2
  exact bodyPost_ret (v := .agg #[.int .u64 (V 0 : Nat), .int .u64 (V 8 : Nat)]) (by simp [results, Tryd.results78, go_sem]) rfl ⟨rfl, ((bdrewN ((Below.refl _ _).alloc (Nat.le_refl _) _) _).setCell (Nat.le_refl _) _).setCell (Nat.le_refl _) _⟩
end Go.Proofs.YtfmaajfohieneaaDoor.Bx

namespace Go.Proofs.YtfmaajfohieneaaDoor.Bx
set_option maxRecDepth 20000
open Go.RowKit

theorem leB_two (x y : Nat) (hx : x < 18446744073709551616) : leB 16 (x + y * 18446744073709551616) = leB 8 x ++ leB 8 y := by
  have hb : ∀ z ∈ leB 8 x ++ leB 8 y, z < 256 := fun z hz => by
    rcases List.mem_append.1 hz with h | h
    · exact leB_bytes _ _ _ h
    · exact leB_bytes _ _ _ h
  have h1 := leB_leN _ hb
  rw [List.length_append, leB_length, leB_length, leN_append, leB_length, leN_leB, leN_leB, Nat.mod_eq_of_lt (a := x) hx] at h1
  rw [← h1]
  unfold leB
  refine List.map_congr_left fun i hi => ?_
  have hi := List.mem_range.1 hi
  have e : x + y * 18446744073709551616 = x + 256 ^ 8 * (y % 256 ^ 8) + 2 ^ (8 * i) * (2 ^ (128 - 8 * i) * (y / 256 ^ 8)) := by
    rw [← Nat.mul_assoc, ← Nat.pow_add, show 8 * i + (128 - 8 * i) = 128 by omega]
    omega
  rw [e, Nat.add_mul_div_left _ _ (Nat.two_pow_pos _)]
  have h2 : 2 ^ (128 - 8 * i) * (y / 256 ^ 8) = 256 * (2 ^ (120 - 8 * i) * (y / 256 ^ 8)) := by
    rw [← Nat.mul_assoc, show (256 : Nat) = 2 ^ 8 from rfl, ← Nat.pow_add, show 8 + (120 - 8 * i) = 128 - 8 * i by omega]
  rw [h2, Nat.add_mul_mod_self_left]

/-- The bytes of two words, j of each. -/
def putF (x y j k : Nat) : Value := if k < 8 then (if k < j then .int .u8 ((x / 2 ^ (8 * k) % 256 : Nat) : Int) else .int .u8 0) else if k - 8 < j then .int .u8 ((y / 2 ^ (8 * (k - 8)) % 256 : Nat) : Int) else .int .u8 0
theorem putF_step (x y j : Nat) (hj : j < 8) (k : Nat) (hk : k < 16) : (if k = 8 + j then Value.int .u8 ((y / 2 ^ (8 * j) % 256 : Nat) : Int) else if k = j then Value.int .u8 ((x / 2 ^ (8 * j) % 256 : Nat) : Int) else putF x y j k) = putF x y (j + 1) k := by
  unfold putF
  by_cases h1 : k = 8 + j
  · subst h1
    rw [if_pos rfl, if_neg (by omega), if_pos (by omega), show 8 + j - 8 = j by omega]
  · rw [if_neg h1]
    by_cases h2 : k = j
    · subst h2
      rw [if_pos rfl, if_pos hj, if_pos (by omega)]
    · rw [if_neg h2]
      by_cases h3 : k < 8
      · rw [if_pos h3, if_pos h3]
        by_cases h4 : k < j
        · rw [if_pos h4, if_pos (by omega)]
        · rw [if_neg h4, if_neg (by omega)]
      · rw [if_neg h3, if_neg h3]
        by_cases h4 : k - 8 < j
        · rw [if_pos h4, if_pos (by omega)]
        · rw [if_neg h4, if_neg (by omega)]
theorem putF_all (x y : Nat) : rowF 16 (putF x y 8) = byV (leB 8 x ++ leB 8 y) := by
  simp [rowF, byV, leB, putF, List.range, List.range.loop]

set_option maxHeartbeats 1000000 in
theorem put_any (x y : Nat) (w : World) :
    Calls Tryd.prog 81 #[.int .u64 x, .int .u64 y] w fun e w' => e = .returned (.agg (byV (leB 8 x ++ leB 8 y)).toArray) ∧ Below w.heap.size w w' := by
  go_enter Tryd.func81, Tryd.ntmps81
  have HB : Hid (∀ o1 o2, Below w.heap.size w ((w.alloc o1).alloc o2)) := fun o1 o2 => ((Below.refl _ _).alloc (Nat.le_refl _) _).alloc (by simp) _
  go_wp2_with fail
  go_loopw [7] (fun i wr => ∃ j : Nat, j ≤ 8 ∧ i = .int .i64 j ∧ Row wr (w.heap.size + 1) 127 (rowF 16 (putF x y j)) ∧ Row wr w.heap.size 127 (byV (List.replicate 16 0)) ∧ Below w.heap.size w wr) (fun i _ => 8 - (intOf i).toNat)
  case atStart => exact ⟨0, Nat.zero_le _, rfl, heap_alloc2_new w _ _, heap_alloc2_old w _ _, HB.out _ _⟩
  case round =>
    obtain ⟨j, hj, rfl, k1, k0, hbw⟩ := hrel
    by_cases hlt : j < 8
    · have d1 := k1.cellF j (by omega)
      have d2 := k1.cellF (8 + j) (by omega)
      have d3 : ∀ i, wr.frozen? ⟨w.heap.size + 1, i, none⟩ = false := fun i => k1.frozen i
      have q0 : IntKind.i64.wrap (8 * (j : Int)) = 8 * j := by rw [IntKind.wrap_i64]; omega
      have q1 : IntKind.i64.wrap (8 + (j : Int)) = 8 + j := by rw [IntKind.wrap_i64]; omega
      have t0 : (8 * (j : Int)).toNat = 8 * j := by omega
      have t1 : (8 + (j : Int)).toNat = 8 + j := by omega
      have s0 : (j : Int) < 16 := by omega
      have s1 : (8 : Int) + (j : Int) < 16 := by omega
      have s2 : (0 : Int) ≤ 8 + (j : Int) := by omega
      have s3 : (0 : Int) ≤ 8 * (j : Int) := by omega
      have k2 := (k1.setF j (.int .u8 ((x : Int) / 2 ^ (8 * j) % 256))).setF (8 + j) (.int .u8 ((y : Int) / 2 ^ (8 * j) % 256))
      have hst := rowF_congr fun k hk => putF_step x y j hlt k hk
      have k3 : Row ((wr.setCell ⟨w.heap.size + 1, j, none⟩ (.int .u8 ((x : Int) / 2 ^ (8 * j) % 256))).setCell ⟨w.heap.size + 1, 8 + j, none⟩ (.int .u8 ((y : Int) / 2 ^ (8 * j) % 256))) (w.heap.size + 1) 127 (rowF 16 (putF x y (j + 1))) := by
        rw [← hst]; exact k2
      have k0' : Row ((wr.setCell ⟨w.heap.size + 1, j, none⟩ (.int .u8 ((x : Int) / 2 ^ (8 * j) % 256))).setCell ⟨w.heap.size + 1, 8 + j, none⟩ (.int .u8 ((y : Int) / 2 ^ (8 * j) % 256))) w.heap.size 127 (byV (List.replicate 16 0)) := (Below.heap_setCell _ _ _ _ (by simp)).trans ((Below.heap_setCell _ _ _ _ (by simp)).trans k0)
      have hbw' := (hbw.setCell (p := ⟨w.heap.size + 1, j, none⟩) (by simp) (.int .u8 ((x : Int) / 2 ^ (8 * j) % 256))).setCell (p := ⟨w.heap.size + 1, 8 + j, none⟩) (by simp) (.int .u8 ((y : Int) / 2 ^ (8 * j) % 256))
      have HK : Hid (Row ((wr.setCell ⟨w.heap.size + 1, j, none⟩ (.int .u8 ((x : Int) / 2 ^ (8 * j) % 256))).setCell ⟨w.heap.size + 1, 8 + j, none⟩ (.int .u8 ((y : Int) / 2 ^ (8 * j) % 256))) (w.heap.size + 1) 127 (rowF 16 (putF x y (j + 1))) ∧ Row ((wr.setCell ⟨w.heap.size + 1, j, none⟩ (.int .u8 ((x : Int) / 2 ^ (8 * j) % 256))).setCell ⟨w.heap.size + 1, 8 + j, none⟩ (.int .u8 ((y : Int) / 2 ^ (8 * j) % 256))) w.heap.size 127 (byV (List.replicate 16 0)) ∧ Below w.heap.size w ((wr.setCell ⟨w.heap.size + 1, j, none⟩ (.int .u8 ((x : Int) / 2 ^ (8 * j) % 256))).setCell ⟨w.heap.size + 1, 8 + j, none⟩ (.int .u8 ((y : Int) / 2 ^ (8 * j) % 256)))) := ⟨k3, k0', hbw'⟩
      clear k2 hst k3 k0' hbw' k1 k0 hbw
      go_wp2
      go_roundw
      case rel => exact ⟨j + 1, by omega, by go_num, HK.out.1, HK.out.2.1, HK.out.2.2⟩
      case measure => simp [intOf]; omega
    · obtain rfl : j = 8 := by omega
      rw [putF_all] at k1
      obtain ⟨ds, hds⟩ : ∃ ds, ds = (byV (leB 8 x ++ leB 8 y)).toArray := ⟨_, rfl⟩
      have hsz : ds.size = 16 := by rw [hds]; simp [byV, leB]
      have hone : ds.all (·.oneCell') = true := by rw [hds]; simp [byV, Value.oneCell']
      have k1' : wr.heap[w.heap.size + 1]? = some (.cells ds 127 (0, 0)) := by rw [hds]; exact k1
      have HDS : Hid (ds = (byV (leB 8 x ++ leB 8 y)).toArray) := hds
      clear hds k1
      have k0' : wr.heap[w.heap.size]? = some (.cells (byV (List.replicate 16 0)).toArray 127 (0, 0)) := k0
      have hs0 : (byV (List.replicate 16 0)).toArray.size = ds.size := by rw [hsz]; rfl
      have hinfo : (Tryd.prog.info? 127).map (·.size) = some ds.size := by rw [hsz]; kernel_rfl
      have hba := below_rowH hbw (Nat.le_refl _) ds
      have hl0 := run_loadVar_row (P := Tryd.prog) (wr.setRow w.heap.size ds) w.heap.size 127 127 ds (0, 0) _ (setRow_heap _ _ _ _ _ _ k0') Tryd.underlying127 rfl hinfo
      go_wp2_with (first | refine wpList_load_row rfl 127 _ rfl (w.heap.size + 1) rfl 127 _ (0, 0) _ k1' Tryd.underlying127 rfl hinfo ?_ | refine wpList_store_row rfl 127 _ _ rfl w.heap.size ds rfl rfl 127 _ k0' hinfo hs0 hone ?_)
      exact bodyPost_ret (v := .agg ds) (by simp [results, Tryd.results81, asAddr, Act.put, hl0]) rfl ⟨by rw [HDS.out], hba⟩
end Go.Proofs.YtfmaajfohieneaaDoor.Bx
