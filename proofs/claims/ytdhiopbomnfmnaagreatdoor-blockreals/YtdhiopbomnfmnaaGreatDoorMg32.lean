/- box.low, pair and put: eight bytes and their number, sixteen bytes and their two words. · box.put: two words' sixteen bytes. · box.taggerOf: the key's halves, bits taken away from the first. -/
import Derived.Test.YtdhiopbomnfmnaaGreatDoorMg31
import Derived.Test.YtdhiopbomnfmnaaGreatDoorMg27
import Derived.Test.YtdhiopbomnfmnaaGreatDoorMg30
namespace Go.Proofs.YtdhiopbomnfmnaaGreatDoor.Bx
set_option maxRecDepth 20000
open Go.RowKit

theorem or_step (i n x k : Nat) (hk : k = 2 ^ i) (hn : n < 2 ^ i) (hx : x < 256) (hi : i ≤ 56) : bits .or .u64 (n : Int) ((x : Int) * (k : Int)) = ((n + x * k : Nat) : Int) := by
  subst hk
  have h1 : 2 ^ i ≤ 2 ^ 56 := Nat.pow_le_pow_right (by decide) hi
  have h2 : x * 2 ^ i ≤ 255 * 2 ^ i := Nat.mul_le_mul_right _ (by omega)
  rw [← Int.natCast_mul, u64_or_nat _ _ (by omega) (by omega), Nat.or_comm, nat_join i _ _ (Nat.mul_mod_left _ _) hn, Nat.add_comm]
theorem low_bits (x0 x1 x2 x3 x4 x5 x6 x7 : Nat) (h0 : x0 < 256) (h1 : x1 < 256) (h2 : x2 < 256) (h3 : x3 < 256) (h4 : x4 < 256) (h5 : x5 < 256) (h6 : x6 < 256) (h7 : x7 < 256) :
    ∃ n1 n2 n3 n4 n5 n6 : Nat, bits .or .u64 (x0 : Int) ((x1 : Int) * 256) = (n1 : Int) ∧ bits .or .u64 (n1 : Int) ((x2 : Int) * 65536) = (n2 : Int) ∧ bits .or .u64 (n2 : Int) ((x3 : Int) * 16777216) = (n3 : Int) ∧ bits .or .u64 (n3 : Int) ((x4 : Int) * 4294967296) = (n4 : Int) ∧ bits .or .u64 (n4 : Int) ((x5 : Int) * 1099511627776) = (n5 : Int) ∧ bits .or .u64 (n5 : Int) ((x6 : Int) * 281474976710656) = (n6 : Int) ∧ bits .or .u64 (n6 : Int) ((x7 : Int) * 72057594037927936) = ((leN [x0, x1, x2, x3, x4, x5, x6, x7] : Nat) : Int) := by
  refine ⟨x0 + x1 * 256, x0 + x1 * 256 + x2 * 65536, x0 + x1 * 256 + x2 * 65536 + x3 * 16777216, x0 + x1 * 256 + x2 * 65536 + x3 * 16777216 + x4 * 4294967296, x0 + x1 * 256 + x2 * 65536 + x3 * 16777216 + x4 * 4294967296 + x5 * 1099511627776, x0 + x1 * 256 + x2 * 65536 + x3 * 16777216 + x4 * 4294967296 + x5 * 1099511627776 + x6 * 281474976710656, ?_, ?_, ?_, ?_, ?_, ?_, ?_⟩
  · exact or_step 8 _ x1 256 rfl (by omega) h1 (by decide)
  · exact or_step 16 _ x2 65536 rfl (by omega) h2 (by decide)
  · exact or_step 24 _ x3 16777216 rfl (by omega) h3 (by decide)
  · exact or_step 32 _ x4 4294967296 rfl (by omega) h4 (by decide)
  · exact or_step 40 _ x5 1099511627776 rfl (by omega) h5 (by decide)
  · exact or_step 48 _ x6 281474976710656 rfl (by omega) h6 (by decide)
  · refine (or_step 56 _ x7 72057594037927936 rfl (by omega) h7 (by decide)).trans (congrArg _ ?_)
    simp only [leN]
    omega

set_option maxHeartbeats 1000000 in
theorem low_any (x0 x1 x2 x3 x4 x5 x6 x7 : Nat) (hb : Bytes [x0, x1, x2, x3, x4, x5, x6, x7]) (g o cap : Nat) (w : World)
    (c0 : w.cell? ⟨g, o, none⟩ = some (.int .u8 x0)) (c1 : w.cell? ⟨g, o + 1, none⟩ = some (.int .u8 x1)) (c2 : w.cell? ⟨g, o + 2, none⟩ = some (.int .u8 x2)) (c3 : w.cell? ⟨g, o + 3, none⟩ = some (.int .u8 x3)) (c4 : w.cell? ⟨g, o + 4, none⟩ = some (.int .u8 x4)) (c5 : w.cell? ⟨g, o + 5, none⟩ = some (.int .u8 x5)) (c6 : w.cell? ⟨g, o + 6, none⟩ = some (.int .u8 x6)) (c7 : w.cell? ⟨g, o + 7, none⟩ = some (.int .u8 x7)) :
    Calls Tryz.prog 163 #[.slice (some ⟨g, o, none⟩) 8 cap] w fun e w' => e = .returned (.int .u64 (leN [x0, x1, x2, x3, x4, x5, x6, x7] : Nat)) ∧ ∃ n, w' = w.drewN n := by
  have b : x0 < 256 ∧ x1 < 256 ∧ x2 < 256 ∧ x3 < 256 ∧ x4 < 256 ∧ x5 < 256 ∧ x6 < 256 ∧ x7 < 256 := by simpa [Bytes] using hb
  obtain ⟨b0, b1, b2, b3, b4, b5, b6, b7⟩ := b
  obtain ⟨n1, n2, n3, n4, n5, n6, v1, v2, v3, v4, v5, v6, v7⟩ := low_bits x0 x1 x2 x3 x4 x5 x6 x7 b0 b1 b2 b3 b4 b5 b6 b7
  generalize leN [x0, x1, x2, x3, x4, x5, x6, x7] = N at *
  clear hb
  go_enter Tryz.func163, Tryz.ntmps163
  go_wp2_with fail
  go_quiet (fail)
  go_wp2
  go_ret
  exact ⟨rfl, _, rfl⟩

theorem list16 (l : List Nat) (h : l.length = 16) : ∃ a b c d e f g h a' b' c' d' e' f' g' h' : Nat, l = [a, b, c, d, e, f, g, h, a', b', c', d', e', f', g', h'] := by
  match l, h with
  | [a, b, c, d, e, f, g, h, a', b', c', d', e', f', g', h'], _ => exact ⟨a, b, c, d, e, f, g, h, a', b', c', d', e', f', g', h', rfl⟩
theorem bdrewN {B : Nat} {a w : World} (h : Below B a w) (n : Nat) : Below B a (w.drewN n) := h.trans ⟨rfl, rfl, rfl, Nat.le_refl _, fun _ _ => rfl⟩
/-- The word at a place of sixteen bytes. -/
def wordAt (l : List Nat) (o : Nat) : Nat := leN ((l.drop o).take 8)
theorem low_at (l : List Nat) (hl : l.length = 16) (hb : Bytes l) (g t cap o : Nat) (ho : o ≤ 8) (w : World) (hr : w.heap[g]? = some (.cells (byV l).toArray t (0, 0))) :
    Calls Tryz.prog 163 #[.slice (some ⟨g, o, none⟩) 8 cap] w fun e w' => e = .returned (.int .u64 (wordAt l o : Nat)) ∧ ∃ n, w' = w.drewN n := by
  have hl8 : ((l.drop o).take 8).length = 8 := by simp; omega
  have hb8 : Bytes ((l.drop o).take 8) := (hb.drop o).take 8
  have hc : ∀ i, i < 8 → w.cell? ⟨g, o + i, none⟩ = some (.int .u8 (((l.drop o).take 8).getD i 0 : Nat)) := fun i hi => by
    have hr' : Row w g t (byV l) := hr
    rw [hr'.cell, byV_get _ _ (by omega)]
    congr 3
    rw [List.getD_eq_getElem?_getD, List.getD_eq_getElem?_getD, List.getElem?_take, if_pos hi, List.getElem?_drop]
  unfold wordAt
  generalize (l.drop o).take 8 = m at *
  match m, hl8 with
  | [x0, x1, x2, x3, x4, x5, x6, x7], _ => exact low_any x0 x1 x2 x3 x4 x5 x6 x7 hb8 g o cap w (hc 0 (by decide)) (hc 1 (by decide)) (hc 2 (by decide)) (hc 3 (by decide)) (hc 4 (by decide)) (hc 5 (by decide)) (hc 6 (by decide)) (hc 7 (by decide))

set_option maxHeartbeats 1000000 in
theorem pair_any (l : List Nat) (hl : l.length = 16) (hb : Bytes l) (g t : Nat) (w : World) (hr : Row w g t (byV l)) :
    Calls Tryz.prog 153 #[.pointer (some ⟨g, 0, none⟩)] w fun e w' => e = .returned (.agg #[.int .u64 (wordAt l 0 : Nat), .int .u64 (wordAt l 8 : Nat)]) ∧ Below w.heap.size w w' := by
  have hg := hr.lt
  have hlo := fun cap o ho w hr => low_at l hl hb g t cap o ho w hr
  obtain ⟨cs, hcs⟩ : ∃ cs, cs = (byV l).toArray := ⟨_, rfl⟩
  rw [← hcs] at hlo
  have hk : w.heap[g]? = some (.cells cs t (0, 0)) := by rw [hcs]; exact hr
  clear hr hcs
  generalize wordAt l = V at *
  have hk1 : ∀ o, (w.alloc o).heap[g]? = some (.cells cs t (0, 0)) := fun o => (Below.heap_alloc w o g hg).trans hk
  have hne : g ≠ w.heap.size := by omega
  have hk2 : ∀ (w' : World) v v', w'.heap[g]? = some (.cells cs t (0, 0)) → ((w'.setCell ⟨w.heap.size, 0, none⟩ v).setCell ⟨w.heap.size, 1, none⟩ v').heap[g]? = some (.cells cs t (0, 0)) := fun w' v v' h => (Below.heap_setCell _ _ _ _ hne).trans ((Below.heap_setCell _ _ _ _ hne).trans h)
  go_enter Tryz.func153, Tryz.ntmps153
  go_wp2_with fail
  go_region_held3 (fun w' => w'.heap[g]? = some (.cells cs t (0, 0))) (first | exact hk1 _ | assumption | exact hk2 _ _ _ (hk1 _)) (first | (go_at_call 163; refine (hlo _ _ (by decide) _ (by first | exact hk1 _ | assumption)).mono ?_; rintro e w' ⟨rfl, n, rfl⟩))
  clear hlo hk1 hk2
  go_wp2
  exact bodyPost_ret (v := .agg #[.int .u64 (V 0 : Nat), .int .u64 (V 8 : Nat)]) (by simp [results, Tryz.results153, go_sem]) rfl ⟨rfl, ((bdrewN ((Below.refl _ _).alloc (Nat.le_refl _) _) _).setCell (Nat.le_refl _) _).setCell (Nat.le_refl _) _⟩
end Go.Proofs.YtdhiopbomnfmnaaGreatDoor.Bx

namespace Go.Proofs.YtdhiopbomnfmnaaGreatDoor.Bx
set_option maxRecDepth 20000
open Go.RowKit

theorem leB_two (x y : Nat) (hx : x < 18446744073709551616) : leB 16 (x + y * 18446744073709551616) = leB 8 x ++ leB 8 y := by
  have hb : ∀ z ∈ leB 8 x ++ leB 8 y, z < 256 := fun z hz => by
    rcases List.mem_append.1 hz with h | h
    · exact leB_bytes _ _ _ h
    · exact leB_bytes _ _ _ h
  have h1 := leB_leN _ hb
  rw [List.length_append, leB_length, leB_length, leN_append, leB_length, leN_leB, leN_leB, Nat.mod_eq_of_lt (a := x) hx] at h1
  rw [← h1]
  unfold leB
  refine List.map_congr_left fun i hi => ?_
  have hi := List.mem_range.1 hi
  have e : x + y * 18446744073709551616 = x + 256 ^ 8 * (y % 256 ^ 8) + 2 ^ (8 * i) * (2 ^ (128 - 8 * i) * (y / 256 ^ 8)) := by
    rw [← Nat.mul_assoc, ← Nat.pow_add, show 8 * i + (128 - 8 * i) = 128 by omega]
    omega
  rw [e, Nat.add_mul_div_left _ _ (Nat.two_pow_pos _)]
  have h2 : 2 ^ (128 - 8 * i) * (y / 256 ^ 8) = 256 * (2 ^ (120 - 8 * i) * (y / 256 ^ 8)) := by
    rw [← Nat.mul_assoc, show (256 : Nat) = 2 ^ 8 from rfl, ← Nat.pow_add, show 8 + (120 - 8 * i) = 128 - 8 * i by omega]
  rw [h2, Nat.add_mul_mod_self_left]

/-- The bytes of two words, j of each. -/
def putF (x y j k : Nat) : Value := if k < 8 then (if k < j then .int .u8 ((x / 2 ^ (8 * k) % 256 : Nat) : Int) else .int .u8 0) else if k - 8 < j then .int .u8 ((y / 2 ^ (8 * (k - 8)) % 256 : Nat) : Int) else .int .u8 0
theorem putF_step (x y j : Nat) (hj : j < 8) (k : Nat) (hk : k < 16) : (if k = 8 + j then Value.int .u8 ((y / 2 ^ (8 * j) % 256 : Nat) : Int) else if k = j then Value.int .u8 ((x / 2 ^ (8 * j) % 256 : Nat) : Int) else putF x y j k) = putF x y (j + 1) k := by
  unfold putF
  by_cases h1 : k = 8 + j
  · subst h1
    rw [if_pos rfl, if_neg (by omega), if_pos (by omega), show 8 + j - 8 = j by omega]
  · rw [if_neg h1]
    by_cases h2 : k = j
    · subst h2
      rw [if_pos rfl, if_pos hj, if_pos (by omega)]
    · rw [if_neg h2]
      by_cases h3 : k < 8
      · rw [if_pos h3, if_pos h3]
        by_cases h4 : k < j
        · rw [if_pos h4, if_pos (by omega)]
        · rw [if_neg h4, if_neg (by omega)]
      · rw [if_neg h3, if_neg h3]
        by_cases h4 : k - 8 < j
        · rw [if_pos h4, if_pos (by omega)]
        · rw [if_neg h4, if_neg (by omega)]
theorem putF_all (x y : Nat) : rowF 16 (putF x y 8) = byV (leB 8 x ++ leB 8 y) := by
  simp [rowF, byV, leB, putF, List.range, List.range.loop]

set_option maxHeartbeats 1000000 in
theorem put_any (x y : Nat) (w : World) :
    Calls Tryz.prog 156 #[.int .u64 x, .int .u64 y] w fun e w' => e = .returned (.agg (byV (leB 8 x ++ leB 8 y)).toArray) ∧ Below w.heap.size w w' := by
  go_enter Tryz.func156, Tryz.ntmps156
  have HB : Hid (∀ o1 o2, Below w.heap.size w ((w.alloc o1).alloc o2)) := fun o1 o2 => ((Below.refl _ _).alloc (Nat.le_refl _) _).alloc (by simp) _
  go_wp2_with fail
  go_loopw [7] (fun i wr => ∃ j : Nat, j ≤ 8 ∧ i = .int .i64 j ∧ Row wr (w.heap.size + 1) 205 (rowF 16 (putF x y j)) ∧ Row wr w.heap.size 205 (byV (List.replicate 16 0)) ∧ Below w.heap.size w wr) (fun i _ => 8 - (intOf i).toNat)
  case atStart => exact ⟨0, Nat.zero_le _, rfl, heap_alloc2_new w _ _, heap_alloc2_old w _ _, HB.out _ _⟩
  case round =>
    obtain ⟨j, hj, rfl, k1, k0, hbw⟩ := hrel
    by_cases hlt : j < 8
    · have d1 := k1.cellF j (by omega)
      have d2 := k1.cellF (8 + j) (by omega)
      have d3 : ∀ i, wr.frozen? ⟨w.heap.size + 1, i, none⟩ = false := fun i => k1.frozen i
      have q0 : IntKind.i64.wrap (8 * (j : Int)) = 8 * j := by rw [IntKind.wrap_i64]; omega
      have q1 : IntKind.i64.wrap (8 + (j : Int)) = 8 + j := by rw [IntKind.wrap_i64]; omega
      have t0 : (8 * (j : Int)).toNat = 8 * j := by omega
      have t1 : (8 + (j : Int)).toNat = 8 + j := by omega
      have s0 : (j : Int) < 16 := by omega
      have s1 : (8 : Int) + (j : Int) < 16 := by omega
      have s2 : (0 : Int) ≤ 8 + (j : Int) := by omega
      have s3 : (0 : Int) ≤ 8 * (j : Int) := by omega
      have k2 := (k1.setF j (.int .u8 ((x : Int) / 2 ^ (8 * j) % 256))).setF (8 + j) (.int .u8 ((y : Int) / 2 ^ (8 * j) % 256))
      have hst := rowF_congr fun k hk => putF_step x y j hlt k hk
      have k3 : Row ((wr.setCell ⟨w.heap.size + 1, j, none⟩ (.int .u8 ((x : Int) / 2 ^ (8 * j) % 256))).setCell ⟨w.heap.size + 1, 8 + j, none⟩ (.int .u8 ((y : Int) / 2 ^ (8 * j) % 256))) (w.heap.size + 1) 205 (rowF 16 (putF x y (j + 1))) := by
        rw [← hst]; exact k2
      have k0' : Row ((wr.setCell ⟨w.heap.size + 1, j, none⟩ (.int .u8 ((x : Int) / 2 ^ (8 * j) % 256))).setCell ⟨w.heap.size + 1, 8 + j, none⟩ (.int .u8 ((y : Int) / 2 ^ (8 * j) % 256))) w.heap.size 205 (byV (List.replicate 16 0)) := (Below.heap_setCell _ _ _ _ (by simp)).trans ((Below.heap_setCell _ _ _ _ (by simp)).trans k0)
      have hbw' := (hbw.setCell (p := ⟨w.heap.size + 1, j, none⟩) (by simp) (.int .u8 ((x : Int) / 2 ^ (8 * j) % 256))).setCell (p := ⟨w.heap.size + 1, 8 + j, none⟩) (by simp) (.int .u8 ((y : Int) / 2 ^ (8 * j) % 256))
      have HK : Hid (Row ((wr.setCell ⟨w.heap.size + 1, j, none⟩ (.int .u8 ((x : Int) / 2 ^ (8 * j) % 256))).setCell ⟨w.heap.size + 1, 8 + j, none⟩ (.int .u8 ((y : Int) / 2 ^ (8 * j) % 256))) (w.heap.size + 1) 205 (rowF 16 (putF x y (j + 1))) ∧ Row ((wr.setCell ⟨w.heap.size + 1, j, none⟩ (.int .u8 ((x : Int) / 2 ^ (8 * j) % 256))).setCell ⟨w.heap.size + 1, 8 + j, none⟩ (.int .u8 ((y : Int) / 2 ^ (8 * j) % 256))) w.heap.size 205 (byV (List.replicate 16 0)) ∧ Below w.heap.size w ((wr.setCell ⟨w.heap.size + 1, j, none⟩ (.int .u8 ((x : Int) / 2 ^ (8 * j) % 256))).setCell ⟨w.heap.size + 1, 8 + j, none⟩ (.int .u8 ((y : Int) / 2 ^ (8 * j) % 256)))) := ⟨k3, k0', hbw'⟩
      clear k2 hst k3 k0' hbw' k1 k0 hbw
      go_wp2
      go_roundw
      case rel => exact ⟨j + 1, by omega, by go_num, HK.out.1, HK.out.2.1, HK.out.2.2⟩
      case measure => simp [intOf]; omega
    · obtain rfl : j = 8 := by omega
      rw [putF_all] at k1
      obtain ⟨ds, hds⟩ : ∃ ds, ds = (byV (leB 8 x ++ leB 8 y)).toArray := ⟨_, rfl⟩
      have hsz : ds.size = 16 := by rw [hds]; simp [byV, leB]
      have hone : ds.all (·.oneCell') = true := by rw [hds]; simp [byV, Value.oneCell']
      have k1' : wr.heap[w.heap.size + 1]? = some (.cells ds 205 (0, 0)) := by rw [hds]; exact k1
      have HDS : Hid (ds = (byV (leB 8 x ++ leB 8 y)).toArray) := hds
      clear hds k1
      have k0' : wr.heap[w.heap.size]? = some (.cells (byV (List.replicate 16 0)).toArray 205 (0, 0)) := k0
      have hs0 : (byV (List.replicate 16 0)).toArray.size = ds.size := by rw [hsz]; rfl
      have hinfo : (Tryz.prog.info? 205).map (·.size) = some ds.size := by rw [hsz]; kernel_rfl
      have hba := below_rowH hbw (Nat.le_refl _) ds
      have hl0 := run_loadVar_row (P := Tryz.prog) (wr.setRow w.heap.size ds) w.heap.size 205 205 ds (0, 0) _ (setRow_heap _ _ _ _ _ _ k0') Tryz.underlying205 rfl hinfo
      go_wp2_with (first | refine wpList_load_row rfl 205 _ rfl (w.heap.size + 1) rfl 205 _ (0, 0) _ k1' Tryz.underlying205 rfl hinfo ?_ | refine wpList_store_row rfl 205 _ _ rfl w.heap.size ds rfl rfl 205 _ k0' hinfo hs0 hone ?_)
      exact bodyPost_ret (v := .agg ds) (by simp [results, Tryz.results156, asAddr, Act.put, hl0]) rfl ⟨by rw [HDS.out], hba⟩
end Go.Proofs.YtdhiopbomnfmnaaGreatDoor.Bx

namespace Go.Proofs.YtdhiopbomnfmnaaGreatDoor.Bx
set_option maxRecDepth 20000
open Go.RowKit

/-- Sixteen bytes, of which some have lost bits. -/
def clN (l : List Nat) (i j k : Nat) : Nat := if k % 4 = 3 ∧ k < 4 * i then l.getD k 0 % 16 else if k % 4 = 0 ∧ 0 < k ∧ k ≤ 4 * j then l.getD k 0 - l.getD k 0 % 4 else l.getD k 0
theorem clN_3 (l : List Nat) (i k : Nat) : (if k = 4 * i + 3 then l.getD (4 * i + 3) 0 % 16 else clN l i 0 k) = clN l (i + 1) 0 k := by
  unfold clN
  by_cases h : k = 4 * i + 3
  · subst h
    rw [if_pos rfl, if_pos (by omega)]
  · rw [if_neg h]
    have e : (k % 4 = 3 ∧ k < 4 * (i + 1)) = (k % 4 = 3 ∧ k < 4 * i) := propext ⟨fun h => by omega, fun h => by omega⟩
    simp only [e]
theorem clN_4 (l : List Nat) (j k : Nat) : (if k = 4 * j + 4 then l.getD (4 * j + 4) 0 - l.getD (4 * j + 4) 0 % 4 else clN l 4 j k) = clN l 4 (j + 1) k := by
  unfold clN
  by_cases h : k = 4 * j + 4
  · subst h
    rw [if_pos rfl, if_neg (by omega), if_pos (by omega)]
  · rw [if_neg h]
    have e : (k % 4 = 0 ∧ 0 < k ∧ k ≤ 4 * (j + 1)) = (k % 4 = 0 ∧ 0 < k ∧ k ≤ 4 * j) := propext ⟨fun h => by omega, fun h => by omega⟩
    simp only [e]
theorem clN_all (l : List Nat) (k : Nat) (hk : k < 16) : clN l 4 3 k = clampB k (l.getD k 0) := by
  unfold clN clampB
  have e1 : (k % 4 = 3 ∧ k < 4 * 4) = (k % 4 = 3) := propext ⟨fun h => by omega, fun h => by omega⟩
  have e2 : (k % 4 = 0 ∧ 0 < k ∧ k ≤ 4 * 3) = (k % 4 = 0 ∧ 0 < k) := propext ⟨fun h => by omega, fun h => by omega⟩
  simp only [e1, e2]
theorem clampL_length (l : List Nat) : (clampL l).length = 16 := by simp [clampL]
theorem clampB_lt (i x : Nat) (h : x < 256) : clampB i x < 256 := by unfold clampB; split <;> (try split) <;> omega
theorem clampL_bytes (l : List Nat) (h : Bytes l) : Bytes (clampL l) := fun x hx => by
  obtain ⟨i, _, rfl⟩ := List.mem_map.1 hx
  exact clampB_lt _ _ (getD_lt (by decide) h i)
theorem clF_all (l : List Nat) : rowF 16 (fun k => .int .u8 (clN l 4 3 k : Nat)) = byV (clampL l) := by
  rw [rowF_congr (f' := fun k => .int .u8 (clampB k (l.getD k 0) : Nat)) (fun k hk => by rw [clN_all l k hk])]
  simp [rowF, byV, clampL]
theorem and15 (x : Nat) (h : x < 256) : bits .and .u8 (x : Int) 15 = ((x % 16 : Nat) : Int) := by
  rw [show (15 : Int) = ((15 : Nat) : Int) from rfl, u8_and_nat x 15 h (by decide), nat_mask4]
theorem and252 (x : Nat) (h : x < 256) : bits .and .u8 (x : Int) 252 = ((x - x % 4 : Nat) : Int) := by
  have all : ∀ a : Fin 256, a.val &&& 252 = a.val - a.val % 4 := by decide +kernel
  rw [show (252 : Int) = ((252 : Nat) : Int) from rfl, u8_and_nat x 252 h (by decide)]
  exact congrArg _ (all ⟨x, h⟩)

/-- A tagger's cells. -/
def tagC (r0 r1 s0 s1 h0 h1 h2 : Nat) : List Value := [.int .u64 r0, .int .u64 r1, .int .u64 s0, .int .u64 s1, .int .u64 h0, .int .u64 h1, .int .u64 h2]

set_option maxRecDepth 10000 in
set_option maxHeartbeats 2000000 in
theorem taggerOf_any (key : ByteArray) (hk : key.size = 32) (w : World) :
    Calls Tryz.prog 144 #[.string key] w fun e w' => e = .returned (.agg (tagC (wordAt (clampL (numsOf key)) 0) (wordAt (clampL (numsOf key)) 8) (wordAt ((numsOf key).drop 16) 0) (wordAt ((numsOf key).drop 16) 8) 0 0 0).toArray) ∧ Below w.heap.size w w' := by
  obtain ⟨w0, hw0⟩ : ∃ w0, ((w.alloc (.cells #[.int .u64 0, .int .u64 0, .int .u64 0, .int .u64 0, .int .u64 0, .int .u64 0, .int .u64 0] 194)).alloc (.cells #[.int .u8 0, .int .u8 0, .int .u8 0, .int .u8 0, .int .u8 0, .int .u8 0, .int .u8 0, .int .u8 0, .int .u8 0, .int .u8 0, .int .u8 0, .int .u8 0, .int .u8 0, .int .u8 0, .int .u8 0, .int .u8 0] 205)).alloc (.cells #[.int .u8 0, .int .u8 0, .int .u8 0, .int .u8 0, .int .u8 0, .int .u8 0, .int .u8 0, .int .u8 0, .int .u8 0, .int .u8 0, .int .u8 0, .int .u8 0, .int .u8 0, .int .u8 0, .int .u8 0, .int .u8 0] 205) = w0 := ⟨_, rfl⟩
  have a0 : Row w0 w.heap.size 194 (tagC 0 0 0 0 0 0 0) := by rw [← hw0]; exact (Below.heap_alloc _ _ _ (by simp; omega)).trans (heap_alloc2_old w _ _)
  have a1 : Row w0 (w.heap.size + 1) 205 (byV (List.replicate 16 0)) := by rw [← hw0]; exact (Below.heap_alloc _ _ _ (by simp)).trans (heap_alloc2_new w _ _)
  have a2 : Row w0 (w.heap.size + 1 + 1) 205 (byV (List.replicate 16 0)) := by
    rw [← hw0]
    have := heap_alloc_new ((w.alloc (.cells #[.int .u64 0, .int .u64 0, .int .u64 0, .int .u64 0, .int .u64 0, .int .u64 0, .int .u64 0] 194)).alloc (.cells #[.int .u8 0, .int .u8 0, .int .u8 0, .int .u8 0, .int .u8 0, .int .u8 0, .int .u8 0, .int .u8 0, .int .u8 0, .int .u8 0, .int .u8 0, .int .u8 0, .int .u8 0, .int .u8 0, .int .u8 0, .int .u8 0] 205)) (.cells #[.int .u8 0, .int .u8 0, .int .u8 0, .int .u8 0, .int .u8 0, .int .u8 0, .int .u8 0, .int .u8 0, .int .u8 0, .int .u8 0, .int .u8 0, .int .u8 0, .int .u8 0, .int .u8 0, .int .u8 0, .int .u8 0] 205)
    simpa [Row, byV] using this
  have ab : Below w.heap.size w w0 := by rw [← hw0]; exact (((Below.refl _ _).alloc (Nat.le_refl _) _).alloc (by simp) _).alloc (by simp; omega) _
  obtain ⟨w1, hcp1, b1, o1⟩ := copy_row w0 (w.heap.size + 1) 205 16 _ rfl a1 key
  have b0 := a0.only o1 (by omega)
  have b2 := a2.only o1 (by omega)
  have bb := ab.trans ((o1.below (Nat.le_of_lt a1.lt)).mono (by omega))
  rw [show min key.size 16 = 16 by omega] at hcp1 b1
  obtain ⟨u, hu⟩ : ∃ u, u = key.extract 16 key.size := ⟨_, rfl⟩
  have hus : u.size = 16 := by rw [hu]; simp; omega
  have hun : numsOf u = (numsOf key).drop 16 := by rw [hu, numsOf_extract, List.take_of_length_le (by simp [numsOf_length])]
  obtain ⟨w2, hcp2, c2, o2⟩ := copy_row w1.drew (w.heap.size + 1 + 1) 205 16 _ rfl b2 u
  rw [show min u.size 16 = 16 by omega] at hcp2 c2
  have c0 : Row w2 w.heap.size 194 (tagC 0 0 0 0 0 0 0) := Row.only (w := w1.drew) b0 o2 (by omega)
  have c1 : Row w2 (w.heap.size + 1) 205 _ := Row.only (w := w1.drew) b1 o2 (by omega)
  have cb : Below w.heap.size w w2 := bb.drew.trans ((o2.below (Nat.le_of_lt b2.lt)).mono (by omega))
  rw [List.take_of_length_le (by rw [numsOf_length]; omega), hun] at c2
  have hu' : key.extract 16 32 = u := by rw [hu, hk]
  have hc1 : Row w2 (w.heap.size + 1) 205 (rowF 16 fun k => .int .u8 (clN (numsOf key) 0 0 k : Nat)) := by
    refine c1.congr ?_
    have hl : ((numsOf key).take 16).length = 16 := by simp [numsOf_length]; omega
    rw [show List.drop 16 (byV (List.replicate 16 0)) = [] from rfl, List.append_nil, byV_rowF, hl]
    refine rowF_congr fun k hk => ?_
    rw [List.getD_eq_getElem?_getD, List.getElem?_take, if_pos hk, ← List.getD_eq_getElem?_getD]
    unfold clN
    rw [if_neg (by omega), if_neg (by omega)]
  have hc2 : Row w2 (w.heap.size + 1 + 1) 205 (byV ((numsOf key).drop 16)) := c2.congr (by rw [show List.drop 16 (byV (List.replicate 16 0)) = [] from rfl, List.append_nil])
  have hb0 : ∀ k, (numsOf key).getD k 0 < 256 := fun k => getD_lt (by decide) (numsOf_bytes key) k
  have hbk := numsOf_bytes key
  have hlk : (numsOf key).length = 32 := by rw [numsOf_length, hk]
  obtain ⟨N, hN⟩ : ∃ N, N = numsOf key := ⟨_, rfl⟩
  rw [← hN] at hc1 hc2 hb0 hbk hlk
  rw [← hN]
  have HK : Hid (Row w2 (w.heap.size + 1) 205 (rowF 16 fun k => .int .u8 (clN N 0 0 k : Nat)) ∧ Row w2 (w.heap.size + 1 + 1) 205 (byV (N.drop 16)) ∧ Row w2 w.heap.size 194 (tagC 0 0 0 0 0 0 0) ∧ Below w.heap.size w w2) := ⟨hc1, hc2, c0, cb⟩
  clear a0 a1 a2 ab b0 b1 b2 bb c0 c1 c2 cb o1 o2 hun hu hus hN hc1 hc2
  have hp1 := fun g t w hr => pair_any (clampL N) (clampL_length N) (clampL_bytes N hbk) g t w hr
  have hp2 := fun g t w hr => pair_any (N.drop 16) (by simp [hlk]) (hbk.drop 16) g t w hr
  generalize wordAt (clampL N) 0 = r0 at *
  generalize wordAt (clampL N) 8 = r1 at *
  generalize wordAt (N.drop 16) 0 = s0 at *
  generalize wordAt (N.drop 16) 8 = s1 at *
  go_enter Tryz.func144, Tryz.ntmps144
  go_wp2_with fail
  go_region_held3 (fun _ => True) (simp [go_sem, *]) (fail)
  clear hcp1 hcp2 hw0 hu'
  go_wp2_with fail
  go_loopw [14] (fun i wr => ∃ j : Nat, j ≤ 4 ∧ i = .int .i64 j ∧ Row wr (w.heap.size + 1) 205 (rowF 16 fun k => .int .u8 (clN N j 0 k : Nat)) ∧ Row wr (w.heap.size + 1 + 1) 205 (byV (N.drop 16)) ∧ Row wr w.heap.size 194 (tagC 0 0 0 0 0 0 0) ∧ Below w.heap.size w wr) (fun i _ => 4 - (intOf i).toNat)
  case atStart => exact ⟨0, Nat.zero_le _, rfl, HK.out⟩
  case round =>
    clear HK
    obtain ⟨j, hj, rfl, k1, k2, k0, hbw⟩ := hrel
    by_cases hlt : j < 4
    · have d1 := k1.cellF (4 * j + 3) (by omega)
      rw [show clN N j 0 (4 * j + 3) = N.getD (4 * j + 3) 0 by unfold clN; rw [if_neg (by omega), if_neg (by omega)]] at d1
      have hx := hb0 (4 * j + 3)
      have k3 := k1.setF (4 * j + 3) (.int .u8 ((N.getD (4 * j + 3) 0 % 16 : Nat) : Int))
      have hst : (rowF 16 fun k => if k = 4 * j + 3 then Value.int .u8 ((N.getD (4 * j + 3) 0 % 16 : Nat) : Int) else Value.int .u8 (clN N j 0 k : Nat)) = rowF 16 fun k => .int .u8 (clN N (j + 1) 0 k : Nat) := rowF_congr fun k _ => by rw [← clN_3 N j k]; split <;> rfl
      rw [hst] at k3
      clear hst
      have k2' : Row (wr.setCell ⟨w.heap.size + 1, 4 * j + 3, none⟩ (.int .u8 ((N.getD (4 * j + 3) 0 % 16 : Nat) : Int))) (w.heap.size + 1 + 1) 205 (byV (N.drop 16)) := (Below.heap_setCell _ _ _ _ (by simp)).trans k2
      have k0' : Row (wr.setCell ⟨w.heap.size + 1, 4 * j + 3, none⟩ (.int .u8 ((N.getD (4 * j + 3) 0 % 16 : Nat) : Int))) w.heap.size 194 (tagC 0 0 0 0 0 0 0) := (Below.heap_setCell _ _ _ _ (by simp)).trans k0
      have hbw' := hbw.setCell (p := ⟨w.heap.size + 1, 4 * j + 3, none⟩) (by simp) (.int .u8 ((N.getD (4 * j + 3) 0 % 16 : Nat) : Int))
      have v1 := and15 _ hx
      have d3 : ∀ i, wr.frozen? ⟨w.heap.size + 1, i, none⟩ = false := fun i => k1.frozen i
      generalize N.getD (4 * j + 3) 0 = x at *
      generalize hy : x % 16 = y at *
      have q0 : IntKind.i64.wrap (4 * (j : Int)) = 4 * j := by rw [IntKind.wrap_i64]; omega
      have q1 : IntKind.i64.wrap (4 * (j : Int) + 3) = 4 * j + 3 := by rw [IntKind.wrap_i64]; omega
      have t1 : (4 * (j : Int) + 3).toNat = 4 * j + 3 := by omega
      have s1 : 4 * (j : Int) + 3 < 16 := by omega
      have s2 : (0 : Int) ≤ 4 * (j : Int) + 3 := by omega
      have HR : Hid (Row (wr.setCell ⟨w.heap.size + 1, 4 * j + 3, none⟩ (.int .u8 (y : Int))) (w.heap.size + 1) 205 (rowF 16 fun k => .int .u8 (clN N (j + 1) 0 k : Nat)) ∧ Row (wr.setCell ⟨w.heap.size + 1, 4 * j + 3, none⟩ (.int .u8 (y : Int))) (w.heap.size + 1 + 1) 205 (byV (N.drop 16)) ∧ Row (wr.setCell ⟨w.heap.size + 1, 4 * j + 3, none⟩ (.int .u8 (y : Int))) w.heap.size 194 (tagC 0 0 0 0 0 0 0) ∧ Below w.heap.size w (wr.setCell ⟨w.heap.size + 1, 4 * j + 3, none⟩ (.int .u8 (y : Int)))) := ⟨k3, k2', k0', hbw'⟩
      clear k3 k2' k0' hbw' k1 k2 k0 hbw hb0 hy
      go_wp2
      go_roundw
      case rel => exact ⟨j + 1, by omega, by go_num, HR.out⟩
      case measure => simp [intOf]; omega
    · obtain rfl : j = 4 := by omega
      have HK : Hid (Row wr (w.heap.size + 1) 205 (rowF 16 fun k => .int .u8 (clN N 4 0 k : Nat)) ∧ Row wr (w.heap.size + 1 + 1) 205 (byV (N.drop 16)) ∧ Row wr w.heap.size 194 (tagC 0 0 0 0 0 0 0) ∧ Below w.heap.size w wr) := ⟨k1, k2, k0, hbw⟩
      clear k1 k2 k0 hbw
      go_wp2_with fail
      go_loopw [25] (fun i wr => ∃ j : Nat, j ≤ 3 ∧ i = .int .i64 j ∧ Row wr (w.heap.size + 1) 205 (rowF 16 fun k => .int .u8 (clN N 4 j k : Nat)) ∧ Row wr (w.heap.size + 1 + 1) 205 (byV (N.drop 16)) ∧ Row wr w.heap.size 194 (tagC 0 0 0 0 0 0 0) ∧ Below w.heap.size w wr) (fun i _ => 3 - (intOf i).toNat)
      case atStart => exact ⟨0, Nat.zero_le _, rfl, HK.out⟩
      case round =>
        clear HK
        obtain ⟨j, hj, rfl, k1, k2, k0, hbw⟩ := hrel
        by_cases hlt : j < 3
        · have d1 := k1.cellF (4 * j + 4) (by omega)
          rw [show clN N 4 j (4 * j + 4) = N.getD (4 * j + 4) 0 by unfold clN; rw [if_neg (by omega), if_neg (by omega)]] at d1
          have hx := hb0 (4 * j + 4)
          have k3 := k1.setF (4 * j + 4) (.int .u8 ((N.getD (4 * j + 4) 0 - N.getD (4 * j + 4) 0 % 4 : Nat) : Int))
          have hst : (rowF 16 fun k => if k = 4 * j + 4 then Value.int .u8 ((N.getD (4 * j + 4) 0 - N.getD (4 * j + 4) 0 % 4 : Nat) : Int) else Value.int .u8 (clN N 4 j k : Nat)) = rowF 16 fun k => .int .u8 (clN N 4 (j + 1) k : Nat) := rowF_congr fun k _ => by rw [← clN_4 N j k]; split <;> rfl
          rw [hst] at k3
          clear hst
          have k2' : Row (wr.setCell ⟨w.heap.size + 1, 4 * j + 4, none⟩ (.int .u8 ((N.getD (4 * j + 4) 0 - N.getD (4 * j + 4) 0 % 4 : Nat) : Int))) (w.heap.size + 1 + 1) 205 (byV (N.drop 16)) := (Below.heap_setCell _ _ _ _ (by simp)).trans k2
          have k0' : Row (wr.setCell ⟨w.heap.size + 1, 4 * j + 4, none⟩ (.int .u8 ((N.getD (4 * j + 4) 0 - N.getD (4 * j + 4) 0 % 4 : Nat) : Int))) w.heap.size 194 (tagC 0 0 0 0 0 0 0) := (Below.heap_setCell _ _ _ _ (by simp)).trans k0
          have hbw' := hbw.setCell (p := ⟨w.heap.size + 1, 4 * j + 4, none⟩) (by simp) (.int .u8 ((N.getD (4 * j + 4) 0 - N.getD (4 * j + 4) 0 % 4 : Nat) : Int))
          have v1 := and252 _ hx
          have d3 : ∀ i, wr.frozen? ⟨w.heap.size + 1, i, none⟩ = false := fun i => k1.frozen i
          generalize N.getD (4 * j + 4) 0 = x at *
          generalize hy : x - x % 4 = y at *
          have q0 : IntKind.i64.wrap (4 * (j : Int)) = 4 * j := by rw [IntKind.wrap_i64]; omega
          have q1 : IntKind.i64.wrap (4 * (j : Int) + 4) = 4 * j + 4 := by rw [IntKind.wrap_i64]; omega
          have t1 : (4 * (j : Int) + 4).toNat = 4 * j + 4 := by omega
          have s1 : 4 * (j : Int) + 4 < 16 := by omega
          have s2 : (0 : Int) ≤ 4 * (j : Int) + 4 := by omega
          have HR : Hid (Row (wr.setCell ⟨w.heap.size + 1, 4 * j + 4, none⟩ (.int .u8 (y : Int))) (w.heap.size + 1) 205 (rowF 16 fun k => .int .u8 (clN N 4 (j + 1) k : Nat)) ∧ Row (wr.setCell ⟨w.heap.size + 1, 4 * j + 4, none⟩ (.int .u8 (y : Int))) (w.heap.size + 1 + 1) 205 (byV (N.drop 16)) ∧ Row (wr.setCell ⟨w.heap.size + 1, 4 * j + 4, none⟩ (.int .u8 (y : Int))) w.heap.size 194 (tagC 0 0 0 0 0 0 0) ∧ Below w.heap.size w (wr.setCell ⟨w.heap.size + 1, 4 * j + 4, none⟩ (.int .u8 (y : Int)))) := ⟨k3, k2', k0', hbw'⟩
          clear k3 k2' k0' hbw' k1 k2 k0 hbw hb0 hy
          go_wp2
          go_roundw
          case rel => exact ⟨j + 1, by omega, by go_num, HR.out⟩
          case measure => simp [intOf]; omega
        · obtain rfl : j = 3 := by omega
          rw [clF_all] at k1
          have hlt0 := k2.lt
          go_wp2_with fail
          refine (hp1 (w.heap.size + 1) _ _ k1).mono ?_
          rintro e w3 ⟨rfl, hb3⟩
          have m2 := k2.below hb3 k2.lt
          have m0 := k0.below hb3 k0.lt
          have hbw3 := hbw.trans (hb3.mono hbw.size)
          clear k1 k2 k0 hbw
          go_wp2_with fail
          refine (hp2 (w.heap.size + 1 + 1) _ _ m2).mono ?_
          rintro e w4 ⟨rfl, hb4⟩
          have n0 := m0.below hb4 m0.lt
          have hbw4 := hbw3.trans (hb4.mono hbw3.size)
          clear m2 m0 hbw3 hb3 hb4
          obtain ⟨ds, hds⟩ : ∃ ds : Array Value, ds = (tagC r0 r1 s0 s1 0 0 0).toArray := ⟨_, rfl⟩
          have hds' : #[Value.int .u64 r0, .int .u64 r1, .int .u64 s0, .int .u64 s1, .int .u64 0, .int .u64 0, .int .u64 0] = ds := by rw [hds]; rfl
          have hsz : ds.size = 7 := by rw [hds]; rfl
          have hone : ds.all (·.oneCell') = true := by rw [hds]; simp [tagC, Value.oneCell']
          have k0' : w4.heap[w.heap.size]? = some (.cells (tagC 0 0 0 0 0 0 0).toArray 194 (0, 0)) := n0
          have hs0 : (tagC 0 0 0 0 0 0 0).toArray.size = ds.size := by rw [hsz]; rfl
          have hinfo : (Tryz.prog.info? 194).map (·.size) = some ds.size := by rw [hsz]; kernel_rfl
          have hba := below_rowH hbw4 (Nat.le_refl _) ds
          have hl0 := run_loadVar_row (P := Tryz.prog) (w4.setRow w.heap.size ds) w.heap.size 194 194 ds (0, 0) _ (setRow_heap _ _ _ _ _ _ k0') Tryz.underlying194 rfl hinfo
          have HDS : Hid (ds = (tagC r0 r1 s0 s1 0 0 0).toArray) := hds
          clear hds n0 hbw4
          go_wp2_with (refine wpList_store_row rfl 194 _ _ rfl w.heap.size ds rfl rfl 194 _ k0' hinfo hs0 hone ?_)
          exact bodyPost_ret (v := .agg ds) (by simp [results, Tryz.results144, asAddr, Act.put, hl0]) rfl ⟨by rw [HDS.out], hba⟩
end Go.Proofs.YtdhiopbomnfmnaaGreatDoor.Bx
