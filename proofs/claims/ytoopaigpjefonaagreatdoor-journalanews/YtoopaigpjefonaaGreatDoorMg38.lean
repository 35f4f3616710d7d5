/- box.low, pair and put: eight bytes and their number, sixteen bytes and their two words. · box.put: two words' sixteen bytes. · box.taggerOf: the key's halves, bits taken away from the first. · box's wide.least: the two low words of a number modulo 2^130 - 5. · box's tagger.tag: the tag of what was taken. · box's tagger.add: a piece more. · box's tagger.take: a text more, behind whole pieces. -/
import Derived.Test.YtoopaigpjefonaaGreatDoorMg37
import Derived.Test.YtoopaigpjefonaaGreatDoorMg35
import Derived.Deep.RegionWith
namespace Go.Proofs.YtoopaigpjefonaaGreatDoor.Bx
set_option maxRecDepth 20000
open Go.RowKit

theorem or_step (i n x k : Nat) (hk : k = 2 ^ i) (hn : n < 2 ^ i) (hx : x < 256) (hi : i ≤ 56) : bits .or .u64 (n : Int) ((x : Int) * (k : Int)) = ((n + x * k : Nat) : Int) := by
  subst hk
  have h1 : 2 ^ i ≤ 2 ^ 56 := Nat.pow_le_pow_right (by decide) hi
  have h2 : x * 2 ^ i ≤ 255 * 2 ^ i := Nat.mul_le_mul_right _ (by omega)
  rw [← Int.natCast_mul, u64_or_nat _ _ (by omega) (by omega), Nat.or_comm, nat_join i _ _ (Nat.mul_mod_left _ _) hn, Nat.add_comm]
theorem low_bits (x0 x1 x2 x3 x4 x5 x6 x7 : Nat) (h0 : x0 < 256) (h1 : x1 < 256) (h2 : x2 < 256) (h3 : x3 < 256) (h4 : x4 < 256) (h5 : x5 < 256) (h6 : x6 < 256) (h7 : x7 < 256) :
    ∃ n1 n2 n3 n4 n5 n6 : Nat, bits .or .u64 (x0 : Int) ((x1 : Int) * 256) = (n1 : Int) ∧ bits .or .u64 (n1 : Int) ((x2 : Int) * 65536) = (n2 : Int) ∧ bits .or .u64 (n2 : Int) ((x3 : Int) * 16777216) = (n3 : Int) ∧ bits .or .u64 (n3 : Int) ((x4 : Int) * 4294967296) = (n4 : Int) ∧ bits .or .u64 (n4 : Int) ((x5 : Int) * 1099511627776) = (n5 : Int) ∧ bits .or .u64 (n5 : Int) ((x6 : Int) * 281474976710656) = (n6 : Int) ∧ bits .or .u64 (n6 : Int) ((x7 : Int) * 72057594037927936) = ((leN [x0, x1, x2, x3, x4, x5, x6, x7] : Nat) : Int) := by
  refine ⟨x0 + x1 * 256, x0 + x1 * 256 + x2 * 65536, x0 + x1 * 256 + x2 * 65536 + x3 * 16777216, x0 + x1 * 256 + x2 * 65536 + x3 * 16777216 + x4 * 4294967296, x0 + x1 * 256 + x2 * 65536 + x3 * 16777216 + x4 * 4294967296 + x5 * 1099511627776, x0 + x1 * 256 + x2 * 65536 + x3 * 16777216 + x4 * 4294967296 + x5 * 1099511627776 + x6 * 281474976710656, ?_, ?_, ?_, ?_, ?_, ?_, ?_⟩
  · exact or_step 8 _ x1 256 rfl (by omega) h1 (by decide)
  · exact or_step 16 _ x2 65536 rfl (by omega) h2 (by decide)
  · exact or_step 24 _ x3 16777216 rfl (by omega) h3 (by decide)
  · exact or_step 32 _ x4 4294967296 rfl (by omega) h4 (by decide)
  · exact or_step 40 _ x5 1099511627776 rfl (by omega) h5 (by decide)
  · exact or_step 48 _ x6 281474976710656 rfl (by omega) h6 (by decide)
  · refine (or_step 56 _ x7 72057594037927936 rfl (by omega) h7 (by decide)).trans (congrArg _ ?_)
    simp only [leN]
    omega

set_option maxHeartbeats 1000000 in
theorem low_any (x0 x1 x2 x3 x4 x5 x6 x7 : Nat) (hb : Bytes [x0, x1, x2, x3, x4, x5, x6, x7]) (g o cap : Nat) (w : World)
    (c0 : w.cell? ⟨g, o, none⟩ = some (.int .u8 x0)) (c1 : w.cell? ⟨g, o + 1, none⟩ = some (.int .u8 x1)) (c2 : w.cell? ⟨g, o + 2, none⟩ = some (.int .u8 x2)) (c3 : w.cell? ⟨g, o + 3, none⟩ = some (.int .u8 x3)) (c4 : w.cell? ⟨g, o + 4, none⟩ = some (.int .u8 x4)) (c5 : w.cell? ⟨g, o + 5, none⟩ = some (.int .u8 x5)) (c6 : w.cell? ⟨g, o + 6, none⟩ = some (.int .u8 x6)) (c7 : w.cell? ⟨g, o + 7, none⟩ = some (.int .u8 x7)) :
    Calls Tryz.prog 276 #[.slice (some ⟨g, o, none⟩) 8 cap] w fun e w' => e = .returned (.int .u64 (leN [x0, x1, x2, x3, x4, x5, x6, x7] : Nat)) ∧ ∃ n, w' = w.drewN n := by
  have b : x0 < 256 ∧ x1 < 256 ∧ x2 < 256 ∧ x3 < 256 ∧ x4 < 256 ∧ x5 < 256 ∧ x6 < 256 ∧ x7 < 256 := by simpa [Bytes] using hb
  obtain ⟨b0, b1, b2, b3, b4, b5, b6, b7⟩ := b
  obtain ⟨n1, n2, n3, n4, n5, n6, v1, v2, v3, v4, v5, v6, v7⟩ := low_bits x0 x1 x2 x3 x4 x5 x6 x7 b0 b1 b2 b3 b4 b5 b6 b7
  generalize leN [x0, x1, x2, x3, x4, x5, x6, x7] = N at *
  clear hb
  go_enter Tryz.func276, Tryz.ntmps276
  go_wp2_with fail
  go_quiet (fail)
  go_wp2
  go_ret
  exact ⟨rfl, _, rfl⟩

theorem list16 (l : List Nat) (h : l.length = 16) : ∃ a b c d e f g h a' b' c' d' e' f' g' h' : Nat, l = [a, b, c, d, e, f, g, h, a', b', c', d', e', f', g', h'] := by
  match l, h with
  | [a, b, c, d, e, f, g, h, a', b', c', d', e', f', g', h'], _ => exact ⟨a, b, c, d, e, f, g, h, a', b', c', d', e', f', g', h', rfl⟩
theorem bdrewN {B : Nat} {a w : World} (h : Below B a w) (n : Nat) : Below B a (w.drewN n) := h.trans ⟨rfl, rfl, rfl, Nat.le_refl _, fun _ _ => rfl⟩
/-- The word at a place of sixteen bytes. -/
def wordAt (l : List Nat) (o : Nat) : Nat := leN ((l.drop o).take 8)
theorem low_at (l : List Nat) (hl : l.length = 16) (hb : Bytes l) (g t cap o : Nat) (ho : o ≤ 8) (w : World) (hr : w.heap[g]? = some (.cells (byV l).toArray t (0, 0))) :
    Calls Tryz.prog 276 #[.slice (some ⟨g, o, none⟩) 8 cap] w fun e w' => e = .returned (.int .u64 (wordAt l o : Nat)) ∧ ∃ n, w' = w.drewN n := by
  have hl8 : ((l.drop o).take 8).length = 8 := by simp; omega
  have hb8 : Bytes ((l.drop o).take 8) := (hb.drop o).take 8
  have hc : ∀ i, i < 8 → w.cell? ⟨g, o + i, none⟩ = some (.int .u8 (((l.drop o).take 8).getD i 0 : Nat)) := fun i hi => by
    have hr' : Row w g t (byV l) := hr
    rw [hr'.cell, byV_get _ _ (by omega)]
    congr 3
    rw [List.getD_eq_getElem?_getD, List.getD_eq_getElem?_getD, List.getElem?_take, if_pos hi, List.getElem?_drop]
  unfold wordAt
  generalize (l.drop o).take 8 = m at *
  match m, hl8 with
  | [x0, x1, x2, x3, x4, x5, x6, x7], _ => exact low_any x0 x1 x2 x3 x4 x5 x6 x7 hb8 g o cap w (hc 0 (by decide)) (hc 1 (by decide)) (hc 2 (by decide)) (hc 3 (by decide)) (hc 4 (by decide)) (hc 5 (by decide)) (hc 6 (by decide)) (hc 7 (by decide))

set_option maxHeartbeats 1000000 in
theorem pair_any (l : List Nat) (hl : l.length = 16) (hb : Bytes l) (g t : Nat) (w : World) (hr : Row w g t (byV l)) :
    Calls Tryz.prog 268 #[.pointer (some ⟨g, 0, none⟩)] w fun e w' => e = .returned (.agg #[.int .u64 (wordAt l 0 : Nat), .int .u64 (wordAt l 8 : Nat)]) ∧ Below w.heap.size w w' := by
  have hg := hr.lt
  have hlo := fun cap o ho w hr => low_at l hl hb g t cap o ho w hr
  obtain ⟨cs, hcs⟩ : ∃ cs, cs = (byV l).toArray := ⟨_, rfl⟩
  rw [← hcs] at hlo
  have hk : w.heap[g]? = some (.cells cs t (0, 0)) := by rw [hcs]; exact hr
  clear hr hcs
  generalize wordAt l = V at *
  have hk1 : ∀ o, (w.alloc o).heap[g]? = some (.cells cs t (0, 0)) := fun o => (Below.heap_alloc w o g hg).trans hk
  have hne : g ≠ w.heap.size := by omega
  have hk2 : ∀ (w' : World) v v', w'.heap[g]? = some (.cells cs t (0, 0)) → ((w'.setCell ⟨w.heap.size, 0, none⟩ v).setCell ⟨w.heap.size, 1, none⟩ v').heap[g]? = some (.cells cs t (0, 0)) := fun w' v v' h => (Below.heap_setCell _ _ _ _ hne).trans ((Below.heap_setCell _ _ _ _ hne).trans h)
  go_enter Tryz.func268, Tryz.ntmps268
  go_wp2_with fail
  go_region_held3 (fun w' => w'.heap[g]? = some (.cells cs t (0, 0))) (first | exact hk1 _ | assumption | exact hk2 _ _ _ (hk1 _)) (first | (go_at_call 276; refine (hlo _ _ (by decide) _ (by first | exact hk1 _ | assumption)).mono ?_; rintro e w' ⟨rfl, n, rfl⟩))
  clear hlo hk1 hk2
  go_wp2
  exact bodyPost_ret (v := .agg #[.int .u64 (V 0 : Nat), .int .u64 (V 8 : Nat)]) (by simp [results, Tryz.results268, go_sem]) rfl ⟨rfl, ((bdrewN ((Below.refl _ _).alloc (Nat.le_refl _) _) _).setCell (Nat.le_refl _) _).setCell (Nat.le_refl _) _⟩
end Go.Proofs.YtoopaigpjefonaaGreatDoor.Bx

namespace Go.Proofs.YtoopaigpjefonaaGreatDoor.Bx
set_option maxRecDepth 20000
open Go.RowKit

theorem leB_two (x y : Nat) (hx : x < 18446744073709551616) : leB 16 (x + y * 18446744073709551616) = leB 8 x ++ leB 8 y := by
  have hb : ∀ z ∈ leB 8 x ++ leB 8 y, z < 256 := fun z hz => by
    rcases List.mem_append.1 hz with h | h
    · exact leB_bytes _ _ _ h
    · exact leB_bytes _ _ _ h
  have h1 := leB_leN _ hb
  rw [List.length_append, leB_length, leB_length, leN_append, leB_length, leN_leB, leN_leB, Nat.mod_eq_of_lt (a := x) hx] at h1
  rw [← h1]
  unfold leB
  refine List.map_congr_left fun i hi => ?_
  have hi := List.mem_range.1 hi
  have e : x + y * 18446744073709551616 = x + 256 ^ 8 * (y % 256 ^ 8) + 2 ^ (8 * i) * (2 ^ (128 - 8 * i) * (y / 256 ^ 8)) := by
    rw [← Nat.mul_assoc, ← Nat.pow_add, show 8 * i + (128 - 8 * i) = 128 by omega]
    omega
  rw [e, Nat.add_mul_div_left _ _ (Nat.two_pow_pos _)]
  have h2 : 2 ^ (128 - 8 * i) * (y / 256 ^ 8) = 256 * (2 ^ (120 - 8 * i) * (y / 256 ^ 8)) := by
    rw [← Nat.mul_assoc, show (256 : Nat) = 2 ^ 8 from rfl, ← Nat.pow_add, show 8 + (120 - 8 * i) = 128 - 8 * i by omega]
  rw [h2, Nat.add_mul_mod_self_left]

/-- The bytes of two words, j of each. -/
def putF (x y j k : Nat) : Value := if k < 8 then (if k < j then .int .u8 ((x / 2 ^ (8 * k) % 256 : Nat) : Int) else .int .u8 0) else if k - 8 < j then .int .u8 ((y / 2 ^ (8 * (k - 8)) % 256 : Nat) : Int) else .int .u8 0
theorem putF_step (x y j : Nat) (hj : j < 8) (k : Nat) (hk : k < 16) : (if k = 8 + j then Value.int .u8 ((y / 2 ^ (8 * j) % 256 : Nat) : Int) else if k = j then Value.int .u8 ((x / 2 ^ (8 * j) % 256 : Nat) : Int) else putF x y j k) = putF x y (j + 1) k := by
  unfold putF
  by_cases h1 : k = 8 + j
  · subst h1
    rw [if_pos rfl, if_neg (by omega), if_pos (by omega), show 8 + j - 8 = j by omega]
  · rw [if_neg h1]
    by_cases h2 : k = j
    · subst h2
      rw [if_pos rfl, if_pos hj, if_pos (by omega)]
    · rw [if_neg h2]
      by_cases h3 : k < 8
      · rw [if_pos h3, if_pos h3]
        by_cases h4 : k < j
        · rw [if_pos h4, if_pos (by omega)]
        · rw [if_neg h4, if_neg (by omega)]
      · rw [if_neg h3, if_neg h3]
        by_cases h4 : k - 8 < j
        · rw [if_pos h4, if_pos (by omega)]
        · rw [if_neg h4, if_neg (by omega)]
theorem putF_all (x y : Nat) : rowF 16 (putF x y 8) = byV (leB 8 x ++ leB 8 y) := by
  simp [rowF, byV, leB, putF, List.range, List.range.loop]

set_option maxHeartbeats 1000000 in
theorem put_any (x y : Nat) (w : World) :
    Calls Tryz.prog 271 #[.int .u64 x, .int .u64 y] w fun e w' => e = .returned (.agg (byV (leB 8 x ++ leB 8 y)).toArray) ∧ Below w.heap.size w w' := by
  go_enter Tryz.func271, Tryz.ntmps271
  have HB : Hid (∀ o1 o2, Below w.heap.size w ((w.alloc o1).alloc o2)) := fun o1 o2 => ((Below.refl _ _).alloc (Nat.le_refl _) _).alloc (by simp) _
  go_wp2_with fail
  go_loopw [7] (fun i wr => ∃ j : Nat, j ≤ 8 ∧ i = .int .i64 j ∧ Row wr (w.heap.size + 1) 357 (rowF 16 (putF x y j)) ∧ Row wr w.heap.size 357 (byV (List.replicate 16 0)) ∧ Below w.heap.size w wr) (fun i _ => 8 - (intOf i).toNat)
  case atStart => exact ⟨0, Nat.zero_le _, rfl, heap_alloc2_new w _ _, heap_alloc2_old w _ _, HB.out _ _⟩
  case round =>
    obtain ⟨j, hj, rfl, k1, k0, hbw⟩ := hrel
    by_cases hlt : j < 8
    · have d1 := k1.cellF j (by omega)
      have d2 := k1.cellF (8 + j) (by omega)
      have d3 : ∀ i, wr.frozen? ⟨w.heap.size + 1, i, none⟩ = false := fun i => k1.frozen i
      have q0 : IntKind.i64.wrap (8 * (j : Int)) = 8 * j := by rw [IntKind.wrap_i64]; omega
      have q1 : IntKind.i64.wrap (8 + (j : Int)) = 8 + j := by rw [IntKind.wrap_i64]; omega
      have t0 : (8 * (j : Int)).toNat = 8 * j := by omega
      have t1 : (8 + (j : Int)).toNat = 8 + j := by omega
      have s0 : (j : Int) < 16 := by omega
      have s1 : (8 : Int) + (j : Int) < 16 := by omega
      have s2 : (0 : Int) ≤ 8 + (j : Int) := by omega
      have s3 : (0 : Int) ≤ 8 * (j : Int) := by omega
      have k2 := (k1.setF j (.int .u8 ((x : Int) / 2 ^ (8 * j) % 256))).setF (8 + j) (.int .u8 ((y : Int) / 2 ^ (8 * j) % 256))
      have hst := rowF_congr fun k hk => putF_step x y j hlt k hk
      have k3 : Row ((wr.setCell ⟨w.heap.size + 1, j, none⟩ (.int .u8 ((x : Int) / 2 ^ (8 * j) % 256))).setCell ⟨w.heap.size + 1, 8 + j, none⟩ (.int .u8 ((y : Int) / 2 ^ (8 * j) % 256))) (w.heap.size + 1) 357 (rowF 16 (putF x y (j + 1))) := by
        rw [← hst]; exact k2
      have k0' : Row ((wr.setCell ⟨w.heap.size + 1, j, none⟩ (.int .u8 ((x : Int) / 2 ^ (8 * j) % 256))).setCell ⟨w.heap.size + 1, 8 + j, none⟩ (.int .u8 ((y : Int) / 2 ^ (8 * j) % 256))) w.heap.size 357 (byV (List.replicate 16 0)) := (Below.heap_setCell _ _ _ _ (by simp)).trans ((Below.heap_setCell _ _ _ _ (by simp)).trans k0)
      have hbw' := (hbw.setCell (p := ⟨w.heap.size + 1, j, none⟩) (by simp) (.int .u8 ((x : Int) / 2 ^ (8 * j) % 256))).setCell (p := ⟨w.heap.size + 1, 8 + j, none⟩) (by simp) (.int .u8 ((y : Int) / 2 ^ (8 * j) % 256))
      have HK : Hid (Row ((wr.setCell ⟨w.heap.size + 1, j, none⟩ (.int .u8 ((x : Int) / 2 ^ (8 * j) % 256))).setCell ⟨w.heap.size + 1, 8 + j, none⟩ (.int .u8 ((y : Int) / 2 ^ (8 * j) % 256))) (w.heap.size + 1) 357 (rowF 16 (putF x y (j + 1))) ∧ Row ((wr.setCell ⟨w.heap.size + 1, j, none⟩ (.int .u8 ((x : Int) / 2 ^ (8 * j) % 256))).setCell ⟨w.heap.size + 1, 8 + j, none⟩ (.int .u8 ((y : Int) / 2 ^ (8 * j) % 256))) w.heap.size 357 (byV (List.replicate 16 0)) ∧ Below w.heap.size w ((wr.setCell ⟨w.heap.size + 1, j, none⟩ (.int .u8 ((x : Int) / 2 ^ (8 * j) % 256))).setCell ⟨w.heap.size + 1, 8 + j, none⟩ (.int .u8 ((y : Int) / 2 ^ (8 * j) % 256)))) := ⟨k3, k0', hbw'⟩
      clear k2 hst k3 k0' hbw' k1 k0 hbw
      go_wp2
      go_roundw
      case rel => exact ⟨j + 1, by omega, by go_num, HK.out.1, HK.out.2.1, HK.out.2.2⟩
      case measure => simp [intOf]; omega
    · obtain rfl : j = 8 := by omega
      rw [putF_all] at k1
      obtain ⟨ds, hds⟩ : ∃ ds, ds = (byV (leB 8 x ++ leB 8 y)).toArray := ⟨_, rfl⟩
      have hsz : ds.size = 16 := by rw [hds]; simp [byV, leB]
      have hone : ds.all (·.oneCell') = true := by rw [hds]; simp [byV, Value.oneCell']
      have k1' : wr.heap[w.heap.size + 1]? = some (.cells ds 357 (0, 0)) := by rw [hds]; exact k1
      have HDS : Hid (ds = (byV (leB 8 x ++ leB 8 y)).toArray) := hds
      clear hds k1
      have k0' : wr.heap[w.heap.size]? = some (.cells (byV (List.replicate 16 0)).toArray 357 (0, 0)) := k0
      have hs0 : (byV (List.replicate 16 0)).toArray.size = ds.size := by rw [hsz]; rfl
      have hinfo : (Tryz.prog.info? 357).map (·.size) = some ds.size := by rw [hsz]; kernel_rfl
      have hba := below_rowH hbw (Nat.le_refl _) ds
      have hl0 := run_loadVar_row (P := Tryz.prog) (wr.setRow w.heap.size ds) w.heap.size 357 357 ds (0, 0) _ (setRow_heap _ _ _ _ _ _ k0') Tryz.underlying357 rfl hinfo
      go_wp2_with (first | refine wpList_load_row rfl 357 _ rfl (w.heap.size + 1) rfl 357 _ (0, 0) _ k1' Tryz.underlying357 rfl hinfo ?_ | refine wpList_store_row rfl 357 _ _ rfl w.heap.size ds rfl rfl 357 _ k0' hinfo hs0 hone ?_)
      exact bodyPost_ret (v := .agg ds) (by simp [results, Tryz.results271, asAddr, Act.put, hl0]) rfl ⟨by rw [HDS.out], hba⟩
end Go.Proofs.YtoopaigpjefonaaGreatDoor.Bx

namespace Go.Proofs.YtoopaigpjefonaaGreatDoor.Bx
set_option maxRecDepth 20000
open Go.RowKit

/-- Sixteen bytes, of which some have lost bits. -/
def clN (l : List Nat) (i j k : Nat) : Nat := if k % 4 = 3 ∧ k < 4 * i then l.getD k 0 % 16 else if k % 4 = 0 ∧ 0 < k ∧ k ≤ 4 * j then l.getD k 0 - l.getD k 0 % 4 else l.getD k 0
theorem clN_3 (l : List Nat) (i k : Nat) : (if k = 4 * i + 3 then l.getD (4 * i + 3) 0 % 16 else clN l i 0 k) = clN l (i + 1) 0 k := by
  unfold clN
  by_cases h : k = 4 * i + 3
  · subst h
    rw [if_pos rfl, if_pos (by omega)]
  · rw [if_neg h]
    have e : (k % 4 = 3 ∧ k < 4 * (i + 1)) = (k % 4 = 3 ∧ k < 4 * i) := propext ⟨fun h => by omega, fun h => by omega⟩
    simp only [e]
theorem clN_4 (l : List Nat) (j k : Nat) : (if k = 4 * j + 4 then l.getD (4 * j + 4) 0 - l.getD (4 * j + 4) 0 % 4 else clN l 4 j k) = clN l 4 (j + 1) k := by
  unfold clN
  by_cases h : k = 4 * j + 4
  · subst h
    rw [if_pos rfl, if_neg (by omega), if_pos (by omega)]
  · rw [if_neg h]
    have e : (k % 4 = 0 ∧ 0 < k ∧ k ≤ 4 * (j + 1)) = (k % 4 = 0 ∧ 0 < k ∧ k ≤ 4 * j) := propext ⟨fun h => by omega, fun h => by omega⟩
    simp only [e]
theorem clN_all (l : List Nat) (k : Nat) (hk : k < 16) : clN l 4 3 k = clampB k (l.getD k 0) := by
  unfold clN clampB
  have e1 : (k % 4 = 3 ∧ k < 4 * 4) = (k % 4 = 3) := propext ⟨fun h => by omega, fun h => by omega⟩
  have e2 : (k % 4 = 0 ∧ 0 < k ∧ k ≤ 4 * 3) = (k % 4 = 0 ∧ 0 < k) := propext ⟨fun h => by omega, fun h => by omega⟩
  simp only [e1, e2]
theorem clampL_length (l : List Nat) : (clampL l).length = 16 := by simp [clampL]
theorem clampB_lt (i x : Nat) (h : x < 256) : clampB i x < 256 := by unfold clampB; split <;> (try split) <;> omega
theorem clampL_bytes (l : List Nat) (h : Bytes l) : Bytes (clampL l) := fun x hx => by
  obtain ⟨i, _, rfl⟩ := List.mem_map.1 hx
  exact clampB_lt _ _ (getD_lt (by decide) h i)
theorem clF_all (l : List Nat) : rowF 16 (fun k => .int .u8 (clN l 4 3 k : Nat)) = byV (clampL l) := by
  rw [rowF_congr (f' := fun k => .int .u8 (clampB k (l.getD k 0) : Nat)) (fun k hk => by rw [clN_all l k hk])]
  simp [rowF, byV, clampL]
theorem and15 (x : Nat) (h : x < 256) : bits .and .u8 (x : Int) 15 = ((x % 16 : Nat) : Int) := by
  rw [show (15 : Int) = ((15 : Nat) : Int) from rfl, u8_and_nat x 15 h (by decide), nat_mask4]
theorem and252 (x : Nat) (h : x < 256) : bits .and .u8 (x : Int) 252 = ((x - x % 4 : Nat) : Int) := by
  have all : ∀ a : Fin 256, a.val &&& 252 = a.val - a.val % 4 := by decide +kernel
  rw [show (252 : Int) = ((252 : Nat) : Int) from rfl, u8_and_nat x 252 h (by decide)]
  exact congrArg _ (all ⟨x, h⟩)

/-- A tagger's cells. -/
def tagC (r0 r1 s0 s1 h0 h1 h2 : Nat) : List Value := [.int .u64 r0, .int .u64 r1, .int .u64 s0, .int .u64 s1, .int .u64 h0, .int .u64 h1, .int .u64 h2]

set_option maxRecDepth 10000 in
set_option maxHeartbeats 2000000 in
theorem taggerOf_any (key : ByteArray) (hk : key.size = 32) (w : World) :
    Calls Tryz.prog 261 #[.string key] w fun e w' => e = .returned (.agg (tagC (wordAt (clampL (numsOf key)) 0) (wordAt (clampL (numsOf key)) 8) (wordAt ((numsOf key).drop 16) 0) (wordAt ((numsOf key).drop 16) 8) 0 0 0).toArray) ∧ Below w.heap.size w w' := by
  obtain ⟨w0, hw0⟩ : ∃ w0, ((w.alloc (.cells #[.int .u64 0, .int .u64 0, .int .u64 0, .int .u64 0, .int .u64 0, .int .u64 0, .int .u64 0] 353)).alloc (.cells #[.int .u8 0, .int .u8 0, .int .u8 0, .int .u8 0, .int .u8 0, .int .u8 0, .int .u8 0, .int .u8 0, .int .u8 0, .int .u8 0, .int .u8 0, .int .u8 0, .int .u8 0, .int .u8 0, .int .u8 0, .int .u8 0] 357)).alloc (.cells #[.int .u8 0, .int .u8 0, .int .u8 0, .int .u8 0, .int .u8 0, .int .u8 0, .int .u8 0, .int .u8 0, .int .u8 0, .int .u8 0, .int .u8 0, .int .u8 0, .int .u8 0, .int .u8 0, .int .u8 0, .int .u8 0] 357) = w0 := ⟨_, rfl⟩
  have a0 : Row w0 w.heap.size 353 (tagC 0 0 0 0 0 0 0) := by rw [← hw0]; exact (Below.heap_alloc _ _ _ (by simp; omega)).trans (heap_alloc2_old w _ _)
  have a1 : Row w0 (w.heap.size + 1) 357 (byV (List.replicate 16 0)) := by rw [← hw0]; exact (Below.heap_alloc _ _ _ (by simp)).trans (heap_alloc2_new w _ _)
  have a2 : Row w0 (w.heap.size + 1 + 1) 357 (byV (List.replicate 16 0)) := by
    rw [← hw0]
    have := heap_alloc_new ((w.alloc (.cells #[.int .u64 0, .int .u64 0, .int .u64 0, .int .u64 0, .int .u64 0, .int .u64 0, .int .u64 0] 353)).alloc (.cells #[.int .u8 0, .int .u8 0, .int .u8 0, .int .u8 0, .int .u8 0, .int .u8 0, .int .u8 0, .int .u8 0, .int .u8 0, .int .u8 0, .int .u8 0, .int .u8 0, .int .u8 0, .int .u8 0, .int .u8 0, .int .u8 0] 357)) (.cells #[.int .u8 0, .int .u8 0, .int .u8 0, .int .u8 0, .int .u8 0, .int .u8 0, .int .u8 0, .int .u8 0, .int .u8 0, .int .u8 0, .int .u8 0, .int .u8 0, .int .u8 0, .int .u8 0, .int .u8 0, .int .u8 0] 357)
    simpa [Row, byV] using this
  have ab : Below w.heap.size w w0 := by rw [← hw0]; exact (((Below.refl _ _).alloc (Nat.le_refl _) _).alloc (by simp) _).alloc (by simp; omega) _
  obtain ⟨w1, hcp1, b1, o1⟩ := copy_row w0 (w.heap.size + 1) 357 16 _ rfl a1 key
  have b0 := a0.only o1 (by omega)
  have b2 := a2.only o1 (by omega)
  have bb := ab.trans ((o1.below (Nat.le_of_lt a1.lt)).mono (by omega))
  rw [show min key.size 16 = 16 by omega] at hcp1 b1
  obtain ⟨u, hu⟩ : ∃ u, u = key.extract 16 key.size := ⟨_, rfl⟩
  have hus : u.size = 16 := by rw [hu]; simp; omega
  have hun : numsOf u = (numsOf key).drop 16 := by rw [hu, numsOf_extract, List.take_of_length_le (by simp [numsOf_length])]
  obtain ⟨w2, hcp2, c2, o2⟩ := copy_row w1.drew (w.heap.size + 1 + 1) 357 16 _ rfl b2 u
  rw [show min u.size 16 = 16 by omega] at hcp2 c2
  have c0 : Row w2 w.heap.size 353 (tagC 0 0 0 0 0 0 0) := Row.only (w := w1.drew) b0 o2 (by omega)
  have c1 : Row w2 (w.heap.size + 1) 357 _ := Row.only (w := w1.drew) b1 o2 (by omega)
  have cb : Below w.heap.size w w2 := bb.drew.trans ((o2.below (Nat.le_of_lt b2.lt)).mono (by omega))
  rw [List.take_of_length_le (by rw [numsOf_length]; omega), hun] at c2
  have hu' : key.extract 16 32 = u := by rw [hu, hk]
  have hc1 : Row w2 (w.heap.size + 1) 357 (rowF 16 fun k => .int .u8 (clN (numsOf key) 0 0 k : Nat)) := by
    refine c1.congr ?_
    have hl : ((numsOf key).take 16).length = 16 := by simp [numsOf_length]; omega
    rw [show List.drop 16 (byV (List.replicate 16 0)) = [] from rfl, List.append_nil, byV_rowF, hl]
    refine rowF_congr fun k hk => ?_
    rw [List.getD_eq_getElem?_getD, List.getElem?_take, if_pos hk, ← List.getD_eq_getElem?_getD]
    unfold clN
    rw [if_neg (by omega), if_neg (by omega)]
  have hc2 : Row w2 (w.heap.size + 1 + 1) 357 (byV ((numsOf key).drop 16)) := c2.congr (by rw [show List.drop 16 (byV (List.replicate 16 0)) = [] from rfl, List.append_nil])
  have hb0 : ∀ k, (numsOf key).getD k 0 < 256 := fun k => getD_lt (by decide) (numsOf_bytes key) k
  have hbk := numsOf_bytes key
  have hlk : (numsOf key).length = 32 := by rw [numsOf_length, hk]
  obtain ⟨N, hN⟩ : ∃ N, N = numsOf key := ⟨_, rfl⟩
  rw [← hN] at hc1 hc2 hb0 hbk hlk
  rw [← hN]
  have HK : Hid (Row w2 (w.heap.size + 1) 357 (rowF 16 fun k => .int .u8 (clN N 0 0 k : Nat)) ∧ Row w2 (w.heap.size + 1 + 1) 357 (byV (N.drop 16)) ∧ Row w2 w.heap.size 353 (tagC 0 0 0 0 0 0 0) ∧ Below w.heap.size w w2) := ⟨hc1, hc2, c0, cb⟩
  clear a0 a1 a2 ab b0 b1 b2 bb c0 c1 c2 cb o1 o2 hun hu hus hN hc1 hc2
  have hp1 := fun g t w hr => pair_any (clampL N) (clampL_length N) (clampL_bytes N hbk) g t w hr
  have hp2 := fun g t w hr => pair_any (N.drop 16) (by simp [hlk]) (hbk.drop 16) g t w hr
  generalize wordAt (clampL N) 0 = r0 at *
  generalize wordAt (clampL N) 8 = r1 at *
  generalize wordAt (N.drop 16) 0 = s0 at *
  generalize wordAt (N.drop 16) 8 = s1 at *
  go_enter Tryz.func261, Tryz.ntmps261
  go_wp2_with fail
  go_region_held3 (fun _ => True) (simp [go_sem, *]) (fail)
  clear hcp1 hcp2 hw0 hu'
  go_wp2_with fail
  go_loopw [14] (fun i wr => ∃ j : Nat, j ≤ 4 ∧ i = .int .i64 j ∧ Row wr (w.heap.size + 1) 357 (rowF 16 fun k => .int .u8 (clN N j 0 k : Nat)) ∧ Row wr (w.heap.size + 1 + 1) 357 (byV (N.drop 16)) ∧ Row wr w.heap.size 353 (tagC 0 0 0 0 0 0 0) ∧ Below w.heap.size w wr) (fun i _ => 4 - (intOf i).toNat)
  case atStart => exact ⟨0, Nat.zero_le _, rfl, HK.out⟩
  case round =>
    clear HK
    obtain ⟨j, hj, rfl, k1, k2, k0, hbw⟩ := hrel
    by_cases hlt : j < 4
    · have d1 := k1.cellF (4 * j + 3) (by omega)
      rw [show clN N j 0 (4 * j + 3) = N.getD (4 * j + 3) 0 by unfold clN; rw [if_neg (by omega), if_neg (by omega)]] at d1
      have hx := hb0 (4 * j + 3)
      have k3 := k1.setF (4 * j + 3) (.int .u8 ((N.getD (4 * j + 3) 0 % 16 : Nat) : Int))
      have hst : (rowF 16 fun k => if k = 4 * j + 3 then Value.int .u8 ((N.getD (4 * j + 3) 0 % 16 : Nat) : Int) else Value.int .u8 (clN N j 0 k : Nat)) = rowF 16 fun k => .int .u8 (clN N (j + 1) 0 k : Nat) := rowF_congr fun k _ => by rw [← clN_3 N j k]; split <;> rfl
      rw [hst] at k3
      clear hst
      have k2' : Row (wr.setCell ⟨w.heap.size + 1, 4 * j + 3, none⟩ (.int .u8 ((N.getD (4 * j + 3) 0 % 16 : Nat) : Int))) (w.heap.size + 1 + 1) 357 (byV (N.drop 16)) := (Below.heap_setCell _ _ _ _ (by simp)).trans k2
      have k0' : Row (wr.setCell ⟨w.heap.size + 1, 4 * j + 3, none⟩ (.int .u8 ((N.getD (4 * j + 3) 0 % 16 : Nat) : Int))) w.heap.size 353 (tagC 0 0 0 0 0 0 0) := (Below.heap_setCell _ _ _ _ (by simp)).trans k0
      have hbw' := hbw.setCell (p := ⟨w.heap.size + 1, 4 * j + 3, none⟩) (by simp) (.int .u8 ((N.getD (4 * j + 3) 0 % 16 : Nat) : Int))
      have v1 := and15 _ hx
      have d3 : ∀ i, wr.frozen? ⟨w.heap.size + 1, i, none⟩ = false := fun i => k1.frozen i
      generalize N.getD (4 * j + 3) 0 = x at *
      generalize hy : x % 16 = y at *
      have q0 : IntKind.i64.wrap (4 * (j : Int)) = 4 * j := by rw [IntKind.wrap_i64]; omega
      have q1 : IntKind.i64.wrap (4 * (j : Int) + 3) = 4 * j + 3 := by rw [IntKind.wrap_i64]; omega
      have t1 : (4 * (j : Int) + 3).toNat = 4 * j + 3 := by omega
      have s1 : 4 * (j : Int) + 3 < 16 := by omega
      have s2 : (0 : Int) ≤ 4 * (j : Int) + 3 := by omega
      have HR : Hid (Row (wr.setCell ⟨w.heap.size + 1, 4 * j + 3, none⟩ (.int .u8 (y : Int))) (w.heap.size + 1) 357 (rowF 16 fun k => .int .u8 (clN N (j + 1) 0 k : Nat)) ∧ Row (wr.setCell ⟨w.heap.size + 1, 4 * j + 3, none⟩ (.int .u8 (y : Int))) (w.heap.size + 1 + 1) 357 (byV (N.drop 16)) ∧ Row (wr.setCell ⟨w.heap.size + 1, 4 * j + 3, none⟩ (.int .u8 (y : Int))) w.heap.size 353 (tagC 0 0 0 0 0 0 0) ∧ Below w.heap.size w (wr.setCell ⟨w.heap.size + 1, 4 * j + 3, none⟩ (.int .u8 (y : Int)))) := ⟨k3, k2', k0', hbw'⟩
      clear k3 k2' k0' hbw' k1 k2 k0 hbw hb0 hy
      go_wp2
      go_roundw
      case rel => exact ⟨j + 1, by omega, by go_num, HR.out⟩
      case measure => simp [intOf]; omega
    · obtain rfl : j = 4 := by omega
      have HK : Hid (Row wr (w.heap.size + 1) 357 (rowF 16 fun k => .int .u8 (clN N 4 0 k : Nat)) ∧ Row wr (w.heap.size + 1 + 1) 357 (byV (N.drop 16)) ∧ Row wr w.heap.size 353 (tagC 0 0 0 0 0 0 0) ∧ Below w.heap.size w wr) := ⟨k1, k2, k0, hbw⟩
      clear k1 k2 k0 hbw
      go_wp2_with fail
      go_loopw [25] (fun i wr => ∃ j : Nat, j ≤ 3 ∧ i = .int .i64 j ∧ Row wr (w.heap.size + 1) 357 (rowF 16 fun k => .int .u8 (clN N 4 j k : Nat)) ∧ Row wr (w.heap.size + 1 + 1) 357 (byV (N.drop 16)) ∧ Row wr w.heap.size 353 (tagC 0 0 0 0 0 0 0) ∧ Below w.heap.size w wr) (fun i _ => 3 - (intOf i).toNat)
      case atStart => exact ⟨0, Nat.zero_le _, rfl, HK.out⟩
      case round =>
        clear HK
        obtain ⟨j, hj, rfl, k1, k2, k0, hbw⟩ := hrel
        by_cases hlt : j < 3
        · have d1 := k1.cellF (4 * j + 4) (by omega)
          rw [show clN N 4 j (4 * j + 4) = N.getD (4 * j + 4) 0 by unfold clN; rw [if_neg (by omega), if_neg (by omega)]] at d1
          have hx := hb0 (4 * j + 4)
          have k3 := k1.setF (4 * j + 4) (.int .u8 ((N.getD (4 * j + 4) 0 - N.getD (4 * j + 4) 0 % 4 : Nat) : Int))
          have hst : (rowF 16 fun k => if k = 4 * j + 4 then Value.int .u8 ((N.getD (4 * j + 4) 0 - N.getD (4 * j + 4) 0 % 4 : Nat) : Int) else Value.int .u8 (clN N 4 j k : Nat)) = rowF 16 fun k => .int .u8 (clN N 4 (j + 1) k : Nat) := rowF_congr fun k _ => by rw [← clN_4 N j k]; split <;> rfl
          rw [hst] at k3
          clear hst
          have k2' : Row (wr.setCell ⟨w.heap.size + 1, 4 * j + 4, none⟩ (.int .u8 ((N.getD (4 * j + 4) 0 - N.getD (4 * j + 4) 0 % 4 : Nat) : Int))) (w.heap.size + 1 + 1) 357 (byV (N.drop 16)) := (Below.heap_setCell _ _ _ _ (by simp)).trans k2
          have k0' : Row (wr.setCell ⟨w.heap.size + 1, 4 * j + 4, none⟩ (.int .u8 ((N.getD (4 * j + 4) 0 - N.getD (4 * j + 4) 0 % 4 : Nat) : Int))) w.heap.size 353 (tagC 0 0 0 0 0 0 0) := (Below.heap_setCell _ _ _ _ (by simp)).trans k0
          have hbw' := hbw.setCell (p := ⟨w.heap.size + 1, 4 * j + 4, none⟩) (by simp) (.int .u8 ((N.getD (4 * j + 4) 0 - N.getD (4 * j + 4) 0 % 4 : Nat) : Int))
          have v1 := and252 _ hx
          have d3 : ∀ i, wr.frozen? ⟨w.heap.size + 1, i, none⟩ = false := fun i => k1.frozen i
          generalize N.getD (4 * j + 4) 0 = x at *
          generalize hy : x - x % 4 = y at *
          have q0 : IntKind.i64.wrap (4 * (j : Int)) = 4 * j := by rw [IntKind.wrap_i64]; omega
          have q1 : IntKind.i64.wrap (4 * (j : Int) + 4) = 4 * j + 4 := by rw [IntKind.wrap_i64]; omega
          have t1 : (4 * (j : Int) + 4).toNat = 4 * j + 4 := by omega
          have s1 : 4 * (j : Int) + 4 < 16 := by omega
          have s2 : (0 : Int) ≤ 4 * (j : Int) + 4 := by omega
          have HR : Hid (Row (wr.setCell ⟨w.heap.size + 1, 4 * j + 4, none⟩ (.int .u8 (y : Int))) (w.heap.size + 1) 357 (rowF 16 fun k => .int .u8 (clN N 4 (j + 1) k : Nat)) ∧ Row (wr.setCell ⟨w.heap.size + 1, 4 * j + 4, none⟩ (.int .u8 (y : Int))) (w.heap.size + 1 + 1) 357 (byV (N.drop 16)) ∧ Row (wr.setCell ⟨w.heap.size + 1, 4 * j + 4, none⟩ (.int .u8 (y : Int))) w.heap.size 353 (tagC 0 0 0 0 0 0 0) ∧ Below w.heap.size w (wr.setCell ⟨w.heap.size + 1, 4 * j + 4, none⟩ (.int .u8 (y : Int)))) := ⟨k3, k2', k0', hbw'⟩
          clear k3 k2' k0' hbw' k1 k2 k0 hbw hb0 hy
          go_wp2
          go_roundw
          case rel => exact ⟨j + 1, by omega, by go_num, HR.out⟩
          case measure => simp [intOf]; omega
        · obtain rfl : j = 3 := by omega
          rw [clF_all] at k1
          have hlt0 := k2.lt
          go_wp2_with fail
          refine (hp1 (w.heap.size + 1) _ _ k1).mono ?_
          rintro e w3 ⟨rfl, hb3⟩
          have m2 := k2.below hb3 k2.lt
          have m0 := k0.below hb3 k0.lt
          have hbw3 := hbw.trans (hb3.mono hbw.size)
          clear k1 k2 k0 hbw
          go_wp2_with fail
          refine (hp2 (w.heap.size + 1 + 1) _ _ m2).mono ?_
          rintro e w4 ⟨rfl, hb4⟩
          have n0 := m0.below hb4 m0.lt
          have hbw4 := hbw3.trans (hb4.mono hbw3.size)
          clear m2 m0 hbw3 hb3 hb4
          obtain ⟨ds, hds⟩ : ∃ ds : Array Value, ds = (tagC r0 r1 s0 s1 0 0 0).toArray := ⟨_, rfl⟩
          have hds' : #[Value.int .u64 r0, .int .u64 r1, .int .u64 s0, .int .u64 s1, .int .u64 0, .int .u64 0, .int .u64 0] = ds := by rw [hds]; rfl
          have hsz : ds.size = 7 := by rw [hds]; rfl
          have hone : ds.all (·.oneCell') = true := by rw [hds]; simp [tagC, Value.oneCell']
          have k0' : w4.heap[w.heap.size]? = some (.cells (tagC 0 0 0 0 0 0 0).toArray 353 (0, 0)) := n0
          have hs0 : (tagC 0 0 0 0 0 0 0).toArray.size = ds.size := by rw [hsz]; rfl
          have hinfo : (Tryz.prog.info? 353).map (·.size) = some ds.size := by rw [hsz]; kernel_rfl
          have hba := below_rowH hbw4 (Nat.le_refl _) ds
          have hl0 := run_loadVar_row (P := Tryz.prog) (w4.setRow w.heap.size ds) w.heap.size 353 353 ds (0, 0) _ (setRow_heap _ _ _ _ _ _ k0') Tryz.underlying353 rfl hinfo
          have HDS : Hid (ds = (tagC r0 r1 s0 s1 0 0 0).toArray) := hds
          clear hds n0 hbw4
          go_wp2_with (refine wpList_store_row rfl 353 _ _ rfl w.heap.size ds rfl rfl 353 _ k0' hinfo hs0 hone ?_)
          exact bodyPost_ret (v := .agg ds) (by simp [results, Tryz.results261, asAddr, Act.put, hl0]) rfl ⟨by rw [HDS.out], hba⟩
end Go.Proofs.YtoopaigpjefonaaGreatDoor.Bx

namespace Go.Proofs.YtoopaigpjefonaaGreatDoor.Bx
set_option maxRecDepth 20000
open Go.RowKit

theorem least_math (h0 h1 h2 x y z k1 k2 k3 : Nat) (l0 : h0 < 18446744073709551616) (l1 : h1 < 18446744073709551616) (l2 : h2 ≤ 4) (lx : x < 18446744073709551616) (ly : y < 18446744073709551616) (lz : z < 18446744073709551616) (lk : k3 ≤ 1)
    (e1 : h0 + k1 * 18446744073709551616 = 18446744073709551611 + x) (e2 : h1 + k2 * 18446744073709551616 = 18446744073709551615 + k1 + y) (e3 : h2 + k3 * 18446744073709551616 = 3 + k2 + z) :
    (k3 = 1 → h0 + h1 * 18446744073709551616 = (h0 + h1 * 18446744073709551616 + h2 * 340282366920938463463374607431768211456) % polyP % 340282366920938463463374607431768211456) ∧
    (k3 = 0 → x + y * 18446744073709551616 = (h0 + h1 * 18446744073709551616 + h2 * 340282366920938463463374607431768211456) % polyP % 340282366920938463463374607431768211456) := by
  constructor
  · rintro rfl
    have h : h0 + h1 * 18446744073709551616 + h2 * 340282366920938463463374607431768211456 < polyP := by unfold polyP; omega
    rw [Nat.mod_eq_of_lt h]
    clear e1 e2 e3 h
    omega
  · rintro rfl
    have h : h0 + h1 * 18446744073709551616 + h2 * 340282366920938463463374607431768211456 = polyP + (x + y * 18446744073709551616 + z * 340282366920938463463374607431768211456) := by unfold polyP; omega
    have h' : x + y * 18446744073709551616 + z * 340282366920938463463374607431768211456 < polyP := by unfold polyP at h ⊢; omega
    rw [h, Nat.add_mod_left, Nat.mod_eq_of_lt h']
    clear e1 e2 e3 h h'
    omega
theorem xor_back (x y : Nat) (hx : x < 18446744073709551616) (hy : y < 18446744073709551616) : ∃ e : Nat, bits .xor .u64 (x : Int) (y : Int) = e ∧ bits .and .u64 (e : Int) 18446744073709551615 = e ∧ bits .and .u64 (e : Int) 0 = 0 ∧ bits .xor .u64 (x : Int) (e : Int) = y ∧ bits .xor .u64 (x : Int) 0 = x := by
  have he : x ^^^ y < 18446744073709551616 := Nat.xor_lt_two_pow (n := 64) hx hy
  refine ⟨x ^^^ y, u64_xor_nat x y hx hy, ?_, ?_, ?_, ?_⟩
  · have h := u64_and_nat (x ^^^ y) 18446744073709551615 he (by decide)
    rw [show (x ^^^ y) &&& 18446744073709551615 = (x ^^^ y) % 18446744073709551616 from Nat.and_two_pow_sub_one_eq_mod _ 64, Nat.mod_eq_of_lt he] at h
    exact h
  · have h := u64_and_nat (x ^^^ y) 0 he (by decide)
    rw [Nat.and_zero] at h
    exact h
  · rw [u64_xor_nat x _ hx he, ← Nat.xor_assoc, Nat.xor_self, Nat.zero_xor]
  · have h := u64_xor_nat x 0 hx (by decide)
    rw [Nat.xor_zero] at h
    exact h

set_option maxHeartbeats 1000000 in
theorem least_any (h0 h1 h2 : Nat) (l0 : h0 < 18446744073709551616) (l1 : h1 < 18446744073709551616) (l2 : h2 ≤ 4) : ∃ a b : Nat, a < 18446744073709551616 ∧ b < 18446744073709551616 ∧ a + b * 18446744073709551616 = (h0 + h1 * 18446744073709551616 + h2 * 340282366920938463463374607431768211456) % polyP % 340282366920938463463374607431768211456 ∧
    ∀ (B o : Nat) (w : World), w.cell? ⟨B, o, none⟩ = some (.int .u64 h0) → w.cell? ⟨B, o + 1, none⟩ = some (.int .u64 h1) → w.cell? ⟨B, o + 2, none⟩ = some (.int .u64 h2) →
    Calls Tryz.prog 272 #[.pointer (some ⟨B, o, none⟩)] w fun e w' => e = .returned (.tuple #[.int .u64 a, .int .u64 b]) ∧ ∃ n, w' = w.drewN n := by
  obtain ⟨k1, x, r1, e1, lx, g1⟩ := sub64_c h0 18446744073709551611 0 l0 (by decide) (by decide)
  obtain ⟨k2, y, r2, e2, ly, g2⟩ := sub64_c h1 18446744073709551615 k1 l1 (by decide) g1
  obtain ⟨k3, z, r3, e3, lz, g3⟩ := sub64_c h2 3 k2 (by clear e1 e2; omega) (by decide) g2
  obtain ⟨m1, m0⟩ := least_math h0 h1 h2 x y z k1 k2 k3 l0 l1 l2 lx ly lz g3 (by clear e2 e3; omega) e2 e3
  obtain ⟨ex, p1, p2, p3, p4, p5⟩ := xor_back x h0 lx l0
  obtain ⟨ey, q1, q2, q3, q4, q5⟩ := xor_back y h1 ly l1
  have r1' : ∀ w, (callFunc 278 #[.int .u64 h0, .int .u64 18446744073709551611, .int .u64 0]).run Tryz.prog w = .ok (.value (.tuple #[.int .u64 x, .int .u64 k1])) w := r1
  have r2' : ∀ w, (callFunc 278 #[.int .u64 h1, .int .u64 18446744073709551615, .int .u64 k1]).run Tryz.prog w = .ok (.value (.tuple #[.int .u64 y, .int .u64 k2])) w := r2
  have r3' : ∀ w, (callFunc 278 #[.int .u64 h2, .int .u64 3, .int .u64 k2]).run Tryz.prog w = .ok (.value (.tuple #[.int .u64 z, .int .u64 k3])) w := r3
  clear r1 r2 r3 e1 e2 e3
  have hk : k3 = 1 ∨ k3 = 0 := by clear m1 m0; omega
  rcases hk with rfl | rfl
  · refine ⟨h0, h1, l0, l1, m1 rfl, fun B o w c0 c1 c2 => ?_⟩
    clear m0 m1
    have v : IntKind.u64.wrap (-1) = 18446744073709551615 := by rw [IntKind.wrap_u64]; rfl
    go_enter Tryz.func272, Tryz.ntmps272
    go_wp2_with fail
    go_quiet (fail)
    go_wp2
    go_ret2
    exact ⟨rfl, _, rfl⟩
  · refine ⟨x, y, lx, ly, m0 rfl, fun B o w c0 c1 c2 => ?_⟩
    clear m0 m1
    have v : IntKind.u64.wrap 0 = 0 := by rw [IntKind.wrap_u64]; rfl
    go_enter Tryz.func272, Tryz.ntmps272
    go_wp2_with fail
    go_quiet (fail)
    go_wp2
    go_ret2
    exact ⟨rfl, _, rfl⟩
end Go.Proofs.YtoopaigpjefonaaGreatDoor.Bx

namespace Go.Proofs.YtoopaigpjefonaaGreatDoor.Bx
set_option maxRecDepth 20000
open Go.RowKit


theorem tag_math (a b s0 s1 V x c t y : Nat) (hx : x < 18446744073709551616) (h : a + b * 18446744073709551616 = V % 340282366920938463463374607431768211456)
    (e1 : a + s0 = c * 18446744073709551616 + x) (e2 : t = (s1 + c) % 18446744073709551616) (e3 : y = (b + t) % 18446744073709551616) :
    x + y * 18446744073709551616 = (V + (s0 + s1 * 18446744073709551616)) % 340282366920938463463374607431768211456 := by
  rw [Nat.add_mod, ← h, Nat.add_mod_mod]
  subst e2 e3
  clear h
  omega

set_option maxRecDepth 10000 in
set_option maxHeartbeats 1000000 in
theorem tag_any (B r0 r1 s0 s1 h0 h1 h2 : Nat) (l0 : h0 < 18446744073709551616) (l1 : h1 < 18446744073709551616) (l2 : h2 ≤ 4) (hs0 : s0 < 18446744073709551616) (w : World) (hr : Row w B 353 (tagC r0 r1 s0 s1 h0 h1 h2)) :
    Calls Tryz.prog 264 #[.pointer (some ⟨B, 0, none⟩)] w fun e w' => e = .returned (.string (strN (leB 16 (((h0 + h1 * 18446744073709551616 + h2 * 340282366920938463463374607431768211456) % polyP + (s0 + s1 * 18446744073709551616)) % 340282366920938463463374607431768211456)))) ∧ Below w.heap.size w w' := by
  obtain ⟨a, b, la, lb, hab, hleast⟩ := least_any h0 h1 h2 l0 l1 l2
  obtain ⟨c, x, ra, e1, lx, lc⟩ := add64_0 a s0 la hs0
  obtain ⟨t, ht⟩ : ∃ t, t = (s1 + c) % 18446744073709551616 := ⟨_, rfl⟩
  obtain ⟨y, hy⟩ : ∃ y, y = (b + t) % 18446744073709551616 := ⟨_, rfl⟩
  have hm := tag_math a b s0 s1 _ x c t y lx hab e1 ht hy
  rw [← hm, leB_two x y lx]
  have v1 : IntKind.u64.wrap ((s1 : Int) + c) = t := by rw [IntKind.wrap_u64, ht]; rfl
  have v2 : IntKind.u64.wrap ((b : Int) + t) = y := by rw [IntKind.wrap_u64, hy]; rfl
  clear hm hab ht hy e1
  have c0 : w.cell? ⟨B, 4, none⟩ = some (.int .u64 h0) := hr.cell 4
  have c1 : w.cell? ⟨B, 4 + 1, none⟩ = some (.int .u64 h1) := hr.cell 5
  have c2 : w.cell? ⟨B, 4 + 2, none⟩ = some (.int .u64 h2) := hr.cell 6
  have HL := hleast B 4 w c0 c1 c2
  clear hleast c0 c1 c2
  have d0 : w.cell? ⟨B, 2, none⟩ = some (.int .u64 s0) := hr.cell 2
  have d1 : w.cell? ⟨B, 3, none⟩ = some (.int .u64 s1) := hr.cell 3
  clear hr
  go_enter Tryz.func264, Tryz.ntmps264
  go_wp2_with fail
  refine HL.mono ?_
  rintro e w1 ⟨rfl, n, rfl⟩
  clear HL
  go_wp2_with fail
  refine (put_any x y _).mono ?_
  rintro e w1 ⟨rfl, hb1⟩
  have hb1' : Below w.heap.size w w1 := (bdrewN (Below.refl _ _) n).trans hb1
  clear hb1
  obtain ⟨ds, hds⟩ : ∃ ds, ds = (byV (leB 8 x ++ leB 8 y)).toArray := ⟨_, rfl⟩
  have hsz : ds.size = 16 := by rw [hds]; simp [byV, leB]
  have hone : ds.all (·.oneCell') = true := by rw [hds]; simp [byV, Value.oneCell']
  have hinfo : (Tryz.prog.info? 357).map (·.size) = some ds.size := by rw [hsz]; kernel_rfl
  rw [← hds]
  have HDS : Hid (ds = (byV (leB 8 x ++ leB 8 y)).toArray) := hds
  clear hds
  go_wp2_with (refine wpList_store_row rfl 357 _ _ rfl w1.heap.size ds rfl rfl 357 _ (heap_alloc_new w1 _) hinfo (by rw [hsz]; rfl) hone ?_)
  rw [World.setRow_alloc_new]
  have k2 : Row (w1.alloc (.cells ds 357)) w1.heap.size 357 (byV (leB 8 x ++ leB 8 y)) := by rw [HDS.out]; exact heap_alloc_new w1 _
  have hb2 := hb1'.alloc hb1'.size (.cells ds 357)
  generalize w1.alloc (.cells ds 357) = w2 at *
  have hl16 : (leB 8 x ++ leB 8 y).length = 16 := by simp [leB]
  have hcv := run_convert_bytes_arg (P := Tryz.prog) w2 143 5 Tryz.underlying143 Tryz.underlying5 w1.heap.size 0 16 16 ((leB 8 x ++ leB 8 y).map fun (x : Nat) => (x : Int)) (by simp [leB]) (fun i hi => by
    rw [Nat.zero_add, k2.cell, byV_get _ _ (by rw [hl16]; exact hi)]
    simp only [List.getD_eq_getElem?_getD, List.getElem?_map]
    rw [List.getElem?_eq_getElem (by rw [hl16]; exact hi)]
    rfl) 9 Tryz.underlying9
  have HCV : Hid (strOfNums ((leB 8 x ++ leB 8 y).map fun (x : Nat) => (x : Int)) = strN (leB 8 x ++ leB 8 y)) := rfl
  rw [HCV.out] at hcv
  clear k2 hone hinfo hsz
  go_wp2
  rw [hcv]
  go_wp2
  go_ret
  exact ⟨rfl, hb2⟩
end Go.Proofs.YtoopaigpjefonaaGreatDoor.Bx

namespace Go.Proofs.YtoopaigpjefonaaGreatDoor.Bx
set_option maxRecDepth 20000
open Go.RowKit

theorem wordAt_lt (l : List Nat) (h : Bytes l) (o : Nat) : wordAt l o < 18446744073709551616 := by
  have h1 := leN_lt ((l.drop o).take 8) ((h.drop o).take 8)
  have h2 : 256 ^ ((l.drop o).take 8).length ≤ 256 ^ 8 := Nat.pow_le_pow_right (by decide) (by simp; omega)
  exact Nat.lt_of_lt_of_le h1 h2
theorem leN_words (l : List Nat) (h : l.length = 16) : leN l = wordAt l 0 + wordAt l 8 * 18446744073709551616 := by
  have e : l = (l.drop 0).take 8 ++ (l.drop 8).take 8 := by
    rw [List.drop_zero, List.take_of_length_le (l := l.drop 8) (by simp; omega), List.take_append_drop]
  have h8 : ((l.drop 0).take 8).length = 8 := by simp; omega
  unfold wordAt
  conv => lhs; rw [e, leN_append, h8]
  rw [Nat.mul_comm]
theorem Only.drewN {b : Nat} {w w' : World} (h : Only b w w') (n : Nat) : Only b w (w'.drewN n) := ⟨bdrewN h.1 n, fun k hk hb => h.2 k hk hb⟩
theorem add_math (h0 h1 h2 n0 n1 c1 x c2 y z high : Nat) (e1 : h0 + n0 = c1 * 18446744073709551616 + x) (e2 : h1 + n1 + c1 = c2 * 18446744073709551616 + y) (ez : z = h2 + high + c2) :
    x + y * 18446744073709551616 + z * 340282366920938463463374607431768211456 = h0 + h1 * 18446744073709551616 + h2 * 340282366920938463463374607431768211456 + (n0 + n1 * 18446744073709551616) + high * 340282366920938463463374607431768211456 := by
  subst ez
  omega
theorem store_all (w : World) (B r0 r1 s0 s1 h0 h1 h2 a b c : Nat) (hr : Row w B 353 (tagC r0 r1 s0 s1 h0 h1 h2)) :
    (w.cell? ⟨B, 4, none⟩ = some (.int .u64 h0) ∧ w.cell? ⟨B, 5, none⟩ = some (.int .u64 h1) ∧ w.cell? ⟨B, 6, none⟩ = some (.int .u64 h2) ∧ ∀ i, w.frozen? ⟨B, i, none⟩ = false) ∧
    Row (((w.setCell ⟨B, 4, none⟩ (.int .u64 a)).setCell ⟨B, 5, none⟩ (.int .u64 b)).setCell ⟨B, 6, none⟩ (.int .u64 c)) B 353 (tagC r0 r1 s0 s1 a b c) ∧ Only B w (((w.setCell ⟨B, 4, none⟩ (.int .u64 a)).setCell ⟨B, 5, none⟩ (.int .u64 b)).setCell ⟨B, 6, none⟩ (.int .u64 c)) := by
  refine ⟨⟨hr.cell 4, hr.cell 5, hr.cell 6, fun i => hr.frozen i⟩, ?_, (((Only.refl _ _).setCell _ _).setCell _ _).setCell _ _⟩
  have k1 : Row (w.setCell ⟨B, 4, none⟩ (.int .u64 a)) B 353 (tagC r0 r1 s0 s1 a h1 h2) := Row.set (A := [.int .u64 r0, .int .u64 r1, .int .u64 s0, .int .u64 s1]) (C := [.int .u64 h1, .int .u64 h2]) hr _ rfl
  have k2 : Row ((w.setCell ⟨B, 4, none⟩ (.int .u64 a)).setCell ⟨B, 5, none⟩ (.int .u64 b)) B 353 (tagC r0 r1 s0 s1 a b h2) := Row.set (A := [.int .u64 r0, .int .u64 r1, .int .u64 s0, .int .u64 s1, .int .u64 a]) (C := [.int .u64 h2]) k1 _ rfl
  exact Row.set (A := [.int .u64 r0, .int .u64 r1, .int .u64 s0, .int .u64 s1, .int .u64 a, .int .u64 b]) (C := []) k2 _ rfl

set_option maxRecDepth 10000 in
set_option maxHeartbeats 2000000 in
theorem add_any (r0 r1 s0 s1 h0 h1 h2 : Nat) (hr0 : r0 < 1152921504606846976) (hr1 : r1 < 1152921504606846976) (l0 : h0 < 18446744073709551616) (l1 : h1 < 18446744073709551616) (l2 : h2 ≤ 4) (l : List Nat) (hl : l.length = 16) (hb : Bytes l) (high : Nat) (hh : high ≤ 1) :
    ∃ a b c : Nat, a < 18446744073709551616 ∧ b < 18446744073709551616 ∧ c ≤ 4 ∧
    (a + b * 18446744073709551616 + c * 340282366920938463463374607431768211456) % polyP = ((h0 + h1 * 18446744073709551616 + h2 * 340282366920938463463374607431768211456 + leN l + high * 340282366920938463463374607431768211456) * (r0 + r1 * 18446744073709551616)) % polyP ∧
    ∀ (B g t : Nat) (w : World), Row w B 353 (tagC r0 r1 s0 s1 h0 h1 h2) → Row w g t (byV l) →
    Calls Tryz.prog 270 #[.pointer (some ⟨B, 0, none⟩), .pointer (some ⟨g, 0, none⟩), .int .u64 high] w fun e w' => e = .returned (.tuple #[]) ∧ Row w' B 353 (tagC r0 r1 s0 s1 a b c) ∧ Only B w w' := by
  have hpair := fun g t w hr => pair_any l hl hb g t w hr
  have hn0 := wordAt_lt l hb 0
  have hn1 := wordAt_lt l hb 8
  have hw := leN_words l hl
  generalize wordAt l 0 = n0 at *
  generalize wordAt l 8 = n1 at *
  obtain ⟨c1, x, ra, e1, lx, g1⟩ := add64_0 h0 n0 l0 hn0
  obtain ⟨c2, y, rb, e2, ly, g2⟩ := add64_c h1 n1 c1 l1 hn1 g1
  obtain ⟨z, hz⟩ : ∃ z, z = h2 + high + c2 := ⟨_, rfl⟩
  have lz : z < 8 := by clear e1 e2 hw; omega
  have hm := add_math h0 h1 h2 n0 n1 c1 x c2 y z high e1 e2 hz
  obtain ⟨a, b, c, la, lb, lc, hmod, hprod⟩ := product_any x y z r0 r1 lx ly lz hr0 hr1
  refine ⟨a, b, c, la, lb, lc, by rw [hmod, hm, hw], fun B g t w hrB hrg => ?_⟩
  have v1 : IntKind.u64.wrap ((h2 : Int) + high) = h2 + high := wrap_sum2 _ _ (by clear hmod hm hw e1 e2; omega)
  have v2 : IntKind.u64.wrap ((h2 : Int) + high + c2) = z := by rw [wrap_sum3 _ _ _ (by clear hmod hm hw e1 e2; omega), hz]; rfl
  clear hmod hm hw e1 e2 hz lz
  have HG : Hid (Row w g t (byV l)) := hrg
  have HBR : Hid (Row w B 353 (tagC r0 r1 s0 s1 h0 h1 h2)) := hrB
  clear hrB hrg
  go_enter Tryz.func270, Tryz.ntmps270
  go_wp2_with fail
  refine (hpair g t _ HG.out).mono ?_
  rintro e w1 ⟨rfl, hb1⟩
  have hB1 := HBR.out.below hb1 HBR.out.lt
  have hlt1 := hb1.size
  clear hpair
  go_wp2_with fail
  obtain ⟨w2, hw2⟩ : ∃ w2, w1.alloc (.cells #[.int .u64 n0, .int .u64 n1] 349) = w2 := ⟨_, rfl⟩
  have hB2 : Row w2 B 353 (tagC r0 r1 s0 s1 h0 h1 h2) := by rw [← hw2]; exact (Below.heap_alloc _ _ _ hB1.lt).trans hB1
  have hN2 : Row w2 w1.heap.size 349 [.int .u64 n0, .int .u64 n1] := by rw [← hw2]; exact heap_alloc_new w1 _
  have hb2 : Below w.heap.size w w2 := by rw [← hw2]; exact hb1.alloc hlt1 _
  rw [hw2]
  have d0 : w2.cell? ⟨B, 0, none⟩ = some (.int .u64 r0) := hB2.cell 0
  have d1 : w2.cell? ⟨B, 1, none⟩ = some (.int .u64 r1) := hB2.cell 1
  have d4 : w2.cell? ⟨B, 4, none⟩ = some (.int .u64 h0) := hB2.cell 4
  have d5 : w2.cell? ⟨B, 5, none⟩ = some (.int .u64 h1) := hB2.cell 5
  have d6 : w2.cell? ⟨B, 6, none⟩ = some (.int .u64 h2) := hB2.cell 6
  have f0 : w2.cell? ⟨w1.heap.size, 0, none⟩ = some (.int .u64 n0) := hN2.cell 0
  have f1 : w2.cell? ⟨w1.heap.size, 1, none⟩ = some (.int .u64 n1) := hN2.cell 1
  clear hw2 hN2 hB1
  have HB2 : Hid (Row w2 B 353 (tagC r0 r1 s0 s1 h0 h1 h2) ∧ Below w.heap.size w w2) := ⟨hB2, hb2⟩
  clear hB2 hb2
  go_quiet (fail)
  go_wp2_with fail
  go_quiet (fail)
  go_wp2_with fail
  clear ra rb f0 f1 d4 d5
  go_region_with (first | (go_at_call 277; refine (hprod _).mono ?_; rintro e w4 ⟨rfl, hb4⟩; have HS := store_all w4 B r0 r1 s0 s1 h0 h1 h2 a b c (Row.below (w := w2.drewN _) HB2.out.1 hb4 HB2.out.1.lt); obtain ⟨⟨t4, t5, t6, tf⟩, HS2⟩ := HS; have H5 : Hid _ := HS2; clear HS2))
  all_goals
    have hO := (((Only.of_below HB2.out.2).drewN _).trans (Only.of_below (b := B) hb4)).trans H5.out.2
    have hR := H5.out.1
    clear t4 t5 t6 tf hb4
    go_end0
    exact ⟨rfl, hR, hO⟩
end Go.Proofs.YtoopaigpjefonaaGreatDoor.Bx

namespace Go.Proofs.YtoopaigpjefonaaGreatDoor.Bx
set_option maxRecDepth 20000
open Go.RowKit

theorem wordAt_top (l : List Nat) (hb : Bytes l) (o : Nat) (ho : o + 8 ≤ l.length) (h : l.getD (o + 7) 0 < 16) : wordAt l o < 1152921504606846976 := by
  have e : (l.drop o).take 8 = (l.drop o).take 7 ++ [l.getD (o + 7) 0] := by
    rw [List.take_succ_eq_append_getElem (by simp; omega), getD_at _ _ (by omega)]
    simp
  have h7 : ((l.drop o).take 7).length = 7 := by simp; omega
  have h1 := leN_lt ((l.drop o).take 7) ((hb.drop o).take 7)
  unfold wordAt
  rw [e, leN_append, h7]
  rw [h7] at h1
  simp only [leN]
  omega
theorem clamp_top (key : List Nat) (hb : Bytes key) : wordAt (clampL key) 0 < 1152921504606846976 ∧ wordAt (clampL key) 8 < 1152921504606846976 := by
  have hl := clampL_length key
  have hc := clampL_bytes key hb
  have g : ∀ i, i < 16 → i % 4 = 3 → (clampL key).getD i 0 < 16 := fun i hi h3 => by
    rw [List.getD_eq_getElem?_getD, clampL, List.getElem?_map, List.getElem?_range hi]
    show clampB i _ < 16
    unfold clampB
    rw [if_pos h3]
    omega
  exact ⟨wordAt_top _ hc 0 (by omega) (g 7 (by decide) (by decide)), wordAt_top _ hc 8 (by omega) (g 15 (by decide) (by decide))⟩

/-- The tagger in block B, under a key, has taken the bytes l. -/
def TagIn (w : World) (B : Nat) (key l : List Nat) : Prop := ∃ h0 h1 h2 : Nat, h0 < 18446744073709551616 ∧ h1 < 18446744073709551616 ∧ h2 ≤ 4 ∧ (h0 + h1 * 18446744073709551616 + h2 * 340282366920938463463374607431768211456) % polyP = polyN (polyR key) l ∧
  Row w B 353 (tagC (wordAt (clampL key) 0) (wordAt (clampL key) 8) (wordAt (key.drop 16) 0) (wordAt (key.drop 16) 8) h0 h1 h2)
theorem TagIn.below {w w' : World} {B : Nat} {key l : List Nat} (h : TagIn w B key l) {C : Nat} (hb : Below C w w') (hB : B < C) : TagIn w' B key l := by
  obtain ⟨h0, h1, h2, l0, l1, l2, e, hr⟩ := h
  exact ⟨h0, h1, h2, l0, l1, l2, e, hr.below hb hB⟩
theorem TagIn.only {w w' : World} {B g : Nat} {key l : List Nat} (h : TagIn w B key l) (ho : Only g w w') (hB : B ≠ g) : TagIn w' B key l := by
  obtain ⟨h0, h1, h2, l0, l1, l2, e, hr⟩ := h
  exact ⟨h0, h1, h2, l0, l1, l2, e, hr.only ho hB⟩
theorem TagIn.lt {w : World} {B : Nat} {key l : List Nat} (h : TagIn w B key l) : B < w.heap.size := by
  obtain ⟨h0, h1, h2, l0, l1, l2, e, hr⟩ := h
  exact hr.lt

/-- One piece more, laid as sixteen bytes and a bit: the piece's bytes and a byte 1 behind have that number. -/
theorem add_step (key : List Nat) (hk : Bytes key) (l m a : List Nat) (high : Nat) (hh : high ≤ 1) (hl : l.length % 16 = 0) (hm0 : 0 < m.length) (hm : m.length ≤ 16) (ha : a.length = 16) (hab : Bytes a) (hv : leN a + high * 340282366920938463463374607431768211456 = leN (m ++ [1]))
    (B g t : Nat) (w : World) (hT : TagIn w B key l) (hg : Row w g t (byV a)) :
    Calls Tryz.prog 270 #[.pointer (some ⟨B, 0, none⟩), .pointer (some ⟨g, 0, none⟩), .int .u64 high] w fun e w' => e = .returned (.tuple #[]) ∧ TagIn w' B key (l ++ m) ∧ Only B w w' := by
  obtain ⟨h0, h1, h2, l0, l1, l2, e, hr⟩ := hT
  obtain ⟨hr0, hr1⟩ := clamp_top key hk
  obtain ⟨x, y, z, lx, ly, lz, hmod, hadd⟩ := add_any _ _ (wordAt (key.drop 16) 0) (wordAt (key.drop 16) 8) h0 h1 h2 hr0 hr1 l0 l1 l2 a ha hab high hh
  refine (hadd B g t w hr hg).mono ?_
  rintro e' w' ⟨rfl, hr', ho⟩
  refine ⟨rfl, ⟨x, y, z, lx, ly, lz, ?_, hr'⟩, ho⟩
  rw [hmod, polyN_snoc _ l m (l.length / 16) (by omega) hm0 hm, polyStep, ← e, polyR, leN_words (clampL key) (clampL_length key), Nat.add_assoc _ (leN a), hv]
  rw [Nat.mul_mod, Nat.mul_mod (_ % polyP + _), Nat.mod_add_mod]

theorem piece_full (m : List Nat) (hm : m.length = 16) : leN m + 1 * 340282366920938463463374607431768211456 = leN (m ++ [1]) := by
  rw [leN_append, hm]
  simp [leN]
theorem leN_zeros (n : Nat) : leN (List.replicate n 0) = 0 := by
  induction n with
  | zero => rfl
  | succ n ih => rw [List.replicate_succ, leN, ih]
theorem piece_part (m : List Nat) (n : Nat) : leN (m ++ 1 :: List.replicate n 0) + 0 * 340282366920938463463374607431768211456 = leN (m ++ [1]) := by
  rw [leN_append, leN_append, leN, leN, leN_zeros]
  simp [leN]

theorem extract_extract (s : ByteArray) (p q : Nat) : (s.extract p s.size).extract q (s.extract p s.size).size = s.extract (p + q) s.size := by
  rw [ByteArray.extract_extract]
  congr 1
  simp
  omega

set_option maxRecDepth 10000 in
set_option maxHeartbeats 1000000 in
theorem take_any (key : List Nat) (hk : Bytes key) (B : Nat) (l : List Nat) (hl : l.length % 16 = 0) (s : ByteArray) (w : World) (hT : TagIn w B key l) :
    Calls Tryz.prog 269 #[.pointer (some ⟨B, 0, none⟩), .string s] w fun e w' => e = .returned (.tuple #[]) ∧ TagIn w' B key (l ++ numsOf s) ∧ Only B w w' := by
  have HT : Hid (TagIn w B key l) := hT
  clear hT
  go_enter Tryz.func269, Tryz.ntmps269
  go_wp2_with fail
  go_loopw [1] (fun v wr => ∃ p : Nat, p % 16 = 0 ∧ p ≤ s.size ∧ v = .string (s.extract p s.size) ∧ TagIn wr B key (l ++ (numsOf s).take p) ∧ Only B w wr) (fun v _ => strSize v)
  case atStart => exact ⟨0, rfl, Nat.zero_le _, by simp, by simpa using HT.out, Only.refl _ _⟩
  case round =>
    clear HT
    obtain ⟨p, hp, hps, rfl, hT, ho⟩ := hrel
    obtain ⟨u, hu⟩ : ∃ u, u = s.extract p s.size := ⟨_, rfl⟩
    have hus : u.size = s.size - p := by rw [hu]; simp
    have hun : numsOf u = (numsOf s).drop p := by rw [hu, numsOf_extract, List.take_of_length_le (by simp [numsOf_length])]
    have hlp : (l ++ (numsOf s).take p).length % 16 = 0 := by rw [List.length_append, List.length_take, numsOf_length]; omega
    have hub := numsOf_bytes u
    have hul := numsOf_length u
    have hBlt := hT.lt
    rw [← hu]
    obtain ⟨w0, hw0⟩ : ∃ w0, wr.alloc (.cells #[.int .u8 0, .int .u8 0, .int .u8 0, .int .u8 0, .int .u8 0, .int .u8 0, .int .u8 0, .int .u8 0, .int .u8 0, .int .u8 0, .int .u8 0, .int .u8 0, .int .u8 0, .int .u8 0, .int .u8 0, .int .u8 0] 357) = w0 := ⟨_, rfl⟩
    have a1 : Row w0 wr.heap.size 357 (byV (List.replicate 16 0)) := by
      rw [← hw0]
      have := heap_alloc_new wr (.cells #[.int .u8 0, .int .u8 0, .int .u8 0, .int .u8 0, .int .u8 0, .int .u8 0, .int .u8 0, .int .u8 0, .int .u8 0, .int .u8 0, .int .u8 0, .int .u8 0, .int .u8 0, .int .u8 0, .int .u8 0, .int .u8 0] 357)
      simpa [Row, byV] using this
    have ab : Below wr.heap.size wr w0 := by rw [← hw0]; exact (Below.refl _ _).alloc (Nat.le_refl _) _
    obtain ⟨w1, hcp1, b1, o1⟩ := copy_row w0 wr.heap.size 357 16 _ rfl a1 u
    have hB1 : Below wr.heap.size wr w1 := ab.trans (o1.below (Nat.le_of_lt a1.lt))
    have hT1 : TagIn w1 B key (l ++ (numsOf s).take p) := hT.below hB1 hBlt
    have ho1 : Only B w w1 := ho.trans (Only.of_below hB1)
    have HT0 : Hid (TagIn wr B key (l ++ (numsOf s).take p) ∧ Only B w wr) := ⟨hT, ho⟩
    clear ab o1 a1 hT ho
    by_cases h16 : p + 16 ≤ s.size
    · have hx := extract_extract s p 16
      rw [← hu] at hx
      rw [show min u.size 16 = 16 by omega, show List.drop 16 (byV (List.replicate 16 0)) = [] from rfl, List.append_nil] at b1
      rw [show min u.size 16 = 16 by omega] at hcp1
      have hm : ((numsOf u).take 16).length = 16 := by rw [List.length_take]; omega
      have HA := add_step key hk _ ((numsOf u).take 16) _ 1 (by decide) hlp (by omega) (by omega) hm (hub.take 16) (piece_full _ hm) B wr.heap.size _ w1 hT1 b1
      have e : l ++ (numsOf s).take p ++ (numsOf u).take 16 = l ++ (numsOf s).take (p + 16) := by rw [hun, List.append_assoc, List.take_add]
      rw [e] at HA
      have c1 : (16 : Int) ≤ u.size := by omega
      have HX : Hid (u.extract 16 u.size = s.extract (p + 16) s.size ∧ u.size = s.size - p ∧ Only B w w1) := ⟨hx, hus, ho1⟩
      clear hx hus ho1 hu hun hlp hub hul hm e b1 hT1 hBlt hB1 HT0
      go_wp2_with fail
      refine HA.mono ?_
      rintro e w2 ⟨rfl, hT2, ho2⟩
      clear HA hcp1 hw0
      go_wp2
      go_roundw
      case rel => exact ⟨p + 16, by omega, h16, by rw [HX.out.1], hT2, HX.out.2.2.trans ho2⟩
      case measure => simp [strSize]; have := HX.out.2.1; omega
    · have hmin : min u.size 16 = u.size := by omega
      rw [hmin] at hcp1 b1
      have c1 : ¬ (16 : Int) ≤ u.size := by omega
      by_cases h0 : u.size = 0
      · have c2 : ¬ (0 : Int) < u.size := by omega
        have e : (numsOf s).take p = numsOf s := List.take_of_length_le (by rw [numsOf_length]; omega)
        rw [e] at HT0
        clear hcp1 b1 hT1 ho1 hw0 hlp hub hul hun hu hB1
        go_wp2_with fail
        go_end0
        exact ⟨rfl, HT0.out⟩
      · have c2 : (0 : Int) < u.size := by omega
        have c3 : (u.size : Int) < 16 := by omega
        have hn : (numsOf u).take 16 = numsOf u := List.take_of_length_le (by omega)
        have hz : List.drop u.size (byV (List.replicate 16 0)) = Value.int .u8 0 :: byV (List.replicate (15 - u.size) 0) := by
          rw [byV_zeros, byV_zeros, List.drop_replicate, show 16 - u.size = (15 - u.size) + 1 by omega, List.replicate_succ]
        rw [hn, hz] at b1
        have b2 : Row w1 wr.heap.size 357 (byV (numsOf u) ++ [.int .u8 0] ++ byV (List.replicate (15 - u.size) 0)) := by simpa using b1
        have d1 : w1.cell? ⟨wr.heap.size, u.size, none⟩ = some (.int .u8 0) := by
          rw [b2.cell, List.append_assoc, List.getElem?_append_right (by simp [byV, hul]), show u.size - (byV (numsOf u)).length = 0 by simp [byV, hul]]
          rfl
        have d2 : w1.frozen? ⟨wr.heap.size, u.size, none⟩ = false := b2.frozen _
        have b3 := b2.set (n := u.size) (.int .u8 1) (by simp [byV, hul])
        have b4 : Row (w1.setCell ⟨wr.heap.size, u.size, none⟩ (.int .u8 1)) wr.heap.size 357 (byV (numsOf u ++ 1 :: List.replicate (15 - u.size) 0)) := by
          rw [byV_append]
          simpa [byV] using b3
        have o3 : Only wr.heap.size w1 (w1.setCell ⟨wr.heap.size, u.size, none⟩ (.int .u8 1)) := (Only.refl _ _).setCell _ _
        have hT3 := hT1.only o3 (by omega)
        have hB3 : Only B w (w1.setCell ⟨wr.heap.size, u.size, none⟩ (.int .u8 1)) := HT0.out.2.trans (Only.of_below (hB1.setCell (p := ⟨wr.heap.size, u.size, none⟩) (Nat.le_refl _) _))
        have HA := add_step key hk _ (numsOf u) _ 0 (by decide) hlp (by omega) (by omega) (by rw [List.length_append, List.length_cons, List.length_replicate]; omega) (hub.append (Bytes.cons (by decide) (Bytes.zeros _))) (piece_part _ _) B wr.heap.size _ _ hT3 b4
        have e : l ++ (numsOf s).take p ++ numsOf u = l ++ numsOf s := by rw [hun, List.append_assoc, List.take_append_drop]
        rw [e] at HA
        have HO : Hid (Only B w (w1.setCell ⟨wr.heap.size, u.size, none⟩ (.int .u8 1))) := hB3
        clear hB3 hT3 o3 b4 b3 b2 b1 hn hz e hT1 ho1 HT0 hB1 hlp hub hul hun hu hus
        go_wp2_with fail
        refine HA.mono ?_
        rintro e w2 ⟨rfl, hT2, ho2⟩
        clear HA hcp1 hw0 d1 d2
        go_wp2_with fail
        go_end0
        exact ⟨rfl, hT2, HO.out.trans ho2⟩
end Go.Proofs.YtoopaigpjefonaaGreatDoor.Bx
