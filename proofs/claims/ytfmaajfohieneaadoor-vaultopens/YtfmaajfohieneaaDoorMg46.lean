/- box's wide.least: the two low words of a number modulo 2^130 - 5. · box's tagger.tag: the tag of what was taken. · box's tagger.add: a piece more. -/
import Derived.Test.YtfmaajfohieneaaDoorBxPolyOf
import Derived.Deep.RegionWith
namespace Go.Proofs.YtfmaajfohieneaaDoor.Bx
set_option maxRecDepth 20000
open Go.RowKit

theorem least_math (h0 h1 h2 x y z k1 k2 k3 : Nat) (l0 : h0 < 18446744073709551616) (l1 : h1 < 18446744073709551616) (l2 : h2 ≤ 4) (lx : x < 18446744073709551616) (ly : y < 18446744073709551616) (lz : z < 18446744073709551616) (lk : k3 ≤ 1)
    (e1 : h0 + k1 * 18446744073709551616 = 18446744073709551611 + x) (e2 : h1 + k2 * 18446744073709551616 = 18446744073709551615 + k1 + y) (e3 : h2 + k3 * 18446744073709551616 = 3 + k2 + z) :
    (k3 = 1 → h0 + h1 * 18446744073709551616 = (h0 + h1 * 18446744073709551616 + h2 * 340282366920938463463374607431768211456) % polyP % 340282366920938463463374607431768211456) ∧
    (k3 = 0 → x + y * 18446744073709551616 = (h0 + h1 * 18446744073709551616 + h2 * 340282366920938463463374607431768211456) % polyP % 340282366920938463463374607431768211456) := by
  constructor
  · rintro rfl
    have h : h0 + h1 * 18446744073709551616 + h2 * 340282366920938463463374607431768211456 < polyP := by unfold polyP; omega
    rw [Nat.mod_eq_of_lt h]
    clear e1 e2 e3 h
    omega
  · rintro rfl
    have h : h0 + h1 * 18446744073709551616 + h2 * 340282366920938463463374607431768211456 = polyP + (x + y * 18446744073709551616 + z * 340282366920938463463374607431768211456) := by unfold polyP; omega
    have h' : x + y * 18446744073709551616 + z * 340282366920938463463374607431768211456 < polyP := by unfold polyP at h ⊢; omega
    rw [h, Nat.add_mod_left, Nat.mod_eq_of_lt h']
    clear e1 e2 e3 h h'
    omega
theorem xor_back (x y : Nat) (hx : x < 18446744073709551616) (hy : y < 18446744073709551616) : ∃ e : Nat, bits .xor .u64 (x : Int) (y : Int) = e ∧ bits .and .u64 (e : Int) 18446744073709551615 = e ∧ bits .and .u64 (e : Int) 0 = 0 ∧ bits .xor .u64 (x : Int) (e : Int) = y ∧ bits .xor .u64 (x : Int) 0 = x := by
  have he : x ^^^ y < 18446744073709551616 := Nat.xor_lt_two_pow (n := 64) hx hy
  refine ⟨x ^^^ y, u64_xor_nat x y hx hy, ?_, ?_, ?_, ?_⟩
  · have h := u64_and_nat (x ^^^ y) 18446744073709551615 he (by decide)
    rw [show (x ^^^ y) &&& 18446744073709551615 = (x ^^^ y) % 18446744073709551616 from Nat.and_two_pow_sub_one_eq_mod _ 64, Nat.mod_eq_of_lt he] at h
    exact h
  · have h := u64_and_nat (x ^^^ y) 0 he (by decide)
    rw [Nat.and_zero] at h
    exact h
  · rw [u64_xor_nat x _ hx he, ← Nat.xor_assoc, Nat.xor_self, Nat.zero_xor]
  · have h := u64_xor_nat x 0 hx (by decide)
    rw [Nat.xor_zero] at h
    exact h

set_option maxHeartbeats 1000000 in
theorem least_any (h0 h1 h2 : Nat) (l0 : h0 < 18446744073709551616) (l1 : h1 < 18446744073709551616) (l2 : h2 ≤ 4) : ∃ a b : Nat, a < 18446744073709551616 ∧ b < 18446744073709551616 ∧ a + b * 18446744073709551616 = (h0 + h1 * 18446744073709551616 + h2 * 340282366920938463463374607431768211456) % polyP % 340282366920938463463374607431768211456 ∧
    ∀ (B o : Nat) (w : World), w.cell? ⟨B, o, none⟩ = some (.int .u64 h0) → w.cell? ⟨B, o + 1, none⟩ = some (.int .u64 h1) → w.cell? ⟨B, o + 2, none⟩ = some (.int .u64 h2) →
    Calls Tryd.prog 82 #[.pointer (some ⟨B, o, none⟩)] w fun e w' => e = .returned (.tuple #[.int .u64 a, .int .u64 b]) ∧ ∃ n, w' = w.drewN n := by
  obtain ⟨k1, x, r1, e1, lx, g1⟩ := sub64_c h0 18446744073709551611 0 l0 (by decide) (by decide)
  obtain ⟨k2, y, r2, e2, ly, g2⟩ := sub64_c h1 18446744073709551615 k1 l1 (by decide) g1
  obtain ⟨k3, z, r3, e3, lz, g3⟩ := sub64_c h2 3 k2 (by clear e1 e2; omega) (by decide) g2
  obtain ⟨m1, m0⟩ := least_math h0 h1 h2 x y z k1 k2 k3 l0 l1 l2 lx ly lz g3 (by clear e2 e3; omega) e2 e3
  obtain ⟨ex, p1, p2, p3, p4, p5⟩ := xor_back x h0 lx l0
  obtain ⟨ey, q1, q2, q3, q4, q5⟩ := xor_back y h1 ly l1
  have r1' : ∀ w, (callFunc 91 #[.int .u64 h0, .int .u64 18446744073709551611, .int .u64 0]).run Tryd.prog w = .ok (.value (.tuple #[.int .u64 x, .int .u64 k1])) w := r1
  have r2' : ∀ w, (callFunc 91 #[.int .u64 h1, .int .u64 18446744073709551615, .int .u64 k1]).run Tryd.prog w = .ok (.value (.tuple #[.int .u64 y, .int .u64 k2])) w := r2
  have r3' : ∀ w, (callFunc 91 #[.int .u64 h2, .int .u64 3, .int .u64 k2]).run Tryd.prog w = .ok (.value (.tuple #[.int .u64 z, .int .u64 k3])) w := r3
  clear r1 r2 r3 e1 e2 e3
  have hk : k3 = 1 ∨ k3 = 0 := by clear m1 m0; omega
  rcases hk with rfl | rfl
  · refine ⟨h0, h1, l0, l1, m1 rfl, fun B o w c0 c1 c2 => ?_⟩
    clear m0 m1
    have v : IntKind.u64.wrap (-1) = 18446744073709551615 := by rw [IntKind.wrap_u64]; rfl
    go_enter Tryd.func82, Tryd.ntmps82
    go_wp2_with fail
    go_quiet (fail)
    go_wp2
    go_ret2
    exact ⟨rfl, _, rfl⟩
  · refine ⟨x, y, lx, ly, m0 rfl, fun B o w c0 c1 c2 => ?_⟩
    clear m0 m1
    have v : IntKind.u64.wrap 0 = 0 := by rw [IntKind.wrap_u64]; rfl
    go_enter Tryd.func82, Tryd.ntmps82
    go_wp2_with fail
    go_quiet (fail)
    go_wp2
    go_ret2
    exact ⟨rfl, _, rfl⟩
end Go.Proofs.YtfmaajfohieneaaDoor.Bx

namespace Go.Proofs.YtfmaajfohieneaaDoor.Bx
set_option maxRecDepth 20000
open Go.RowKit


theorem tag_math (a b s0 s1 V x c t y : Nat) (hx : x < 18446744073709551616) (h : a + b * 18446744073709551616 = V % 340282366920938463463374607431768211456)
    (e1 : a + s0 = c * 18446744073709551616 + x) (e2 : t = (s1 + c) % 18446744073709551616) (e3 : y = (b + t) % 18446744073709551616) :
    x + y * 18446744073709551616 = (V + (s0 + s1 * 18446744073709551616)) % 340282366920938463463374607431768211456 := by
  rw [Nat.add_mod, ← h, Nat.add_mod_mod]
  subst e2 e3
  clear h
  omega

set_option maxRecDepth 10000 in
set_option maxHeartbeats 1000000 in
theorem tag_any (B r0 r1 s0 s1 h0 h1 h2 : Nat) (l0 : h0 < 18446744073709551616) (l1 : h1 < 18446744073709551616) (l2 : h2 ≤ 4) (hs0 : s0 < 18446744073709551616) (w : World) (hr : Row w B 114 (tagC r0 r1 s0 s1 h0 h1 h2)) :
    Calls Tryd.prog 72 #[.pointer (some ⟨B, 0, none⟩)] w fun e w' => e = .returned (.string (strN (leB 16 (((h0 + h1 * 18446744073709551616 + h2 * 340282366920938463463374607431768211456) % polyP + (s0 + s1 * 18446744073709551616)) % 340282366920938463463374607431768211456)))) ∧ Below w.heap.size w w' := by
  obtain ⟨a, b, la, lb, hab, hleast⟩ := least_any h0 h1 h2 l0 l1 l2
  obtain ⟨c, x, ra, e1, lx, lc⟩ := add64_0 a s0 la hs0
  obtain ⟨t, ht⟩ : ∃ t, t = (s1 + c) % 18446744073709551616 := ⟨_, rfl⟩
  obtain ⟨y, hy⟩ : ∃ y, y = (b + t) % 18446744073709551616 := ⟨_, rfl⟩
  have hm := tag_math a b s0 s1 _ x c t y lx hab e1 ht hy
  rw [← hm, leB_two x y lx]
  have v1 : IntKind.u64.wrap ((s1 : Int) + c) = t := by rw [IntKind.wrap_u64, ht]; rfl
  have v2 : IntKind.u64.wrap ((b : Int) + t) = y := by rw [IntKind.wrap_u64, hy]; rfl
  clear hm hab ht hy e1
  have c0 : w.cell? ⟨B, 4, none⟩ = some (.int .u64 h0) := hr.cell 4
  have c1 : w.cell? ⟨B, 4 + 1, none⟩ = some (.int .u64 h1) := hr.cell 5
  have c2 : w.cell? ⟨B, 4 + 2, none⟩ = some (.int .u64 h2) := hr.cell 6
  have HL := hleast B 4 w c0 c1 c2
  clear hleast c0 c1 c2
  have d0 : w.cell? ⟨B, 2, none⟩ = some (.int .u64 s0) := hr.cell 2
  have d1 : w.cell? ⟨B, 3, none⟩ = some (.int .u64 s1) := hr.cell 3
  clear hr
  go_enter Tryd.func72, Tryd.ntmps72
  go_wp2_with fail
  refine HL.mono ?_
  rintro e w1 ⟨rfl, n, rfl⟩
  clear HL
  go_wp2_with fail
  refine (put_any x y _).mono ?_
  rintro e w1 ⟨rfl, hb1⟩
  have hb1' : Below w.heap.size w w1 := (bdrewN (Below.refl _ _) n).trans hb1
  clear hb1
  obtain ⟨ds, hds⟩ : ∃ ds, ds = (byV (leB 8 x ++ leB 8 y)).toArray := ⟨_, rfl⟩
  have hsz : ds.size = 16 := by rw [hds]; simp [byV, leB]
  have hone : ds.all (·.oneCell') = true := by rw [hds]; simp [byV, Value.oneCell']
  have hinfo : (Tryd.prog.info? 127).map (·.size) = some ds.size := by rw [hsz]; kernel_rfl
  rw [← hds]
  have HDS : Hid (ds = (byV (leB 8 x ++ leB 8 y)).toArray) := hds
  clear hds
  go_wp2_with (refine wpList_store_row rfl 127 _ _ rfl w1.heap.size ds rfl rfl 127 _ (heap_alloc_new w1 _) hinfo (by rw [hsz]; rfl) hone ?_)
  rw [World.setRow_alloc_new]
  have k2 : Row (w1.alloc (.cells ds 127)) w1.heap.size 127 (byV (leB 8 x ++ leB 8 y)) := by rw [HDS.out]; exact heap_alloc_new w1 _
  have hb2 := hb1'.alloc hb1'.size (.cells ds 127)
  generalize w1.alloc (.cells ds 127) = w2 at *
  have hl16 : (leB 8 x ++ leB 8 y).length = 16 := by simp [leB]
  have hcv := run_convert_bytes_arg (P := Tryd.prog) w2 61 5 Tryd.underlying61 Tryd.underlying5 w1.heap.size 0 16 16 ((leB 8 x ++ leB 8 y).map fun (x : Nat) => (x : Int)) (by simp [leB]) (fun i hi => by
    rw [Nat.zero_add, k2.cell, byV_get _ _ (by rw [hl16]; exact hi)]
    simp only [List.getD_eq_getElem?_getD, List.getElem?_map]
    rw [List.getElem?_eq_getElem (by rw [hl16]; exact hi)]
    rfl) 9 Tryd.underlying9
  have HCV : Hid (strOfNums ((leB 8 x ++ leB 8 y).map fun (x : Nat) => (x : Int)) = strN (leB 8 x ++ leB 8 y)) := rfl
  rw [HCV.out] at hcv
  clear k2 hone hinfo hsz
  go_wp2
  rw [hcv]
  go_wp2
  go_ret
  exact ⟨rfl, hb2⟩
end Go.Proofs.YtfmaajfohieneaaDoor.Bx

namespace Go.Proofs.YtfmaajfohieneaaDoor.Bx
set_option maxRecDepth 20000
open Go.RowKit

theorem wordAt_lt (l : List Nat) (h : Bytes l) (o : Nat) : wordAt l o < 18446744073709551616 := by
  have h1 := leN_lt ((l.drop o).take 8) ((h.drop o).take 8)
  have h2 : 256 ^ ((l.drop o).take 8).length ≤ 256 ^ 8 := Nat.pow_le_pow_right (by decide) (by simp; omega)
  exact Nat.lt_of_lt_of_le h1 h2
theorem leN_words (l : List Nat) (h : l.length = 16) : leN l = wordAt l 0 + wordAt l 8 * 18446744073709551616 := by
  have e : l = (l.drop 0).take 8 ++ (l.drop 8).take 8 := by
    rw [List.drop_zero, List.take_of_length_le (l := l.drop 8) (by simp; omega), List.take_append_drop]
  have h8 : ((l.drop 0).take 8).length = 8 := by simp; omega
  unfold wordAt
  conv => lhs; rw [e, leN_append, h8]
  rw [Nat.mul_comm]
theorem Only.drewN {b : Nat} {w w' : World} (h : Only b w w') (n : Nat) : Only b w (w'.drewN n) := ⟨bdrewN h.1 n, fun k hk hb => h.2 k hk hb⟩
theorem add_math (h0 h1 h2 n0 n1 c1 x c2 y z high : Nat) (e1 : h0 + n0 = c1 * 18446744073709551616 + x) (e2 : h1 + n1 + c1 = c2 * 18446744073709551616 + y) (ez : z = h2 + high + c2) :
    x + y * 18446744073709551616 + z * 340282366920938463463374607431768211456 = h0 + h1 * 18446744073709551616 + h2 * 340282366920938463463374607431768211456 + (n0 + n1 * 18446744073709551616) + high * 340282366920938463463374607431768211456 := by
  subst ez
  omega
theorem store_all (w : World) (B r0 r1 s0 s1 h0 h1 h2 a b c : Nat) (hr : Row w B 114 (tagC r0 r1 s0 s1 h0 h1 h2)) :
    (w.cell? ⟨B, 4, none⟩ = some (.int .u64 h0) ∧ w.cell? ⟨B, 5, none⟩ = some (.int .u64 h1) ∧ w.cell? ⟨B, 6, none⟩ = some (.int .u64 h2) ∧ ∀ i, w.frozen? ⟨B, i, none⟩ = false) ∧
    Row (((w.setCell ⟨B, 4, none⟩ (.int .u64 a)).setCell ⟨B, 5, none⟩ (.int .u64 b)).setCell ⟨B, 6, none⟩ (.int .u64 c)) B 114 (tagC r0 r1 s0 s1 a b c) ∧ Only B w (((w.setCell ⟨B, 4, none⟩ (.int .u64 a)).setCell ⟨B, 5, none⟩ (.int .u64 b)).setCell ⟨B, 6, none⟩ (.int .u64 c)) := by
  refine ⟨⟨hr.cell 4, hr.cell 5, hr.cell 6, fun i => hr.frozen i⟩, ?_, (((Only.refl _ _).setCell _ _).setCell _ _).setCell _ _⟩
  have k1 : Row (w.setCell ⟨B, 4, none⟩ (.int .u64 a)) B 114 (tagC r0 r1 s0 s1 a h1 h2) := Row.set (A := [.int .u64 r0, .int .u64 r1, .int .u64 s0, .int .u64 s1]) (C := [.int .u64 h1, .int .u64 h2]) hr _ rfl
  have k2 : Row ((w.setCell ⟨B, 4, none⟩ (.int .u64 a)).setCell ⟨B, 5, none⟩ (.int .u64 b)) B 114 (tagC r0 r1 s0 s1 a b h2) := Row.set (A := [.int .u64 r0, .int .u64 r1, .int .u64 s0, .int .u64 s1, .int .u64 a]) (C := [.int .u64 h2]) k1 _ rfl
  exact Row.set (A := [.int .u64 r0, .int .u64 r1, .int .u64 s0, .int .u64 s1, .int .u64 a, .int .u64 b]) (C := []) k2 _ rfl

set_option maxRecDepth 10000 in
set_option maxHeartbeats 2000000 in
theorem add_any (r0 r1 s0 s1 h0 h1 h2 : Nat) (hr0 : r0 < 1152921504606846976) (hr1 : r1 < 1152921504606846976) (l0 : h0 < 18446744073709551616) (l1 : h1 < 18446744073709551616) (l2 : h2 ≤ 4) (l : List Nat) (hl : l.length = 16) (hb : Bytes l) (high : Nat) (hh : high ≤ 1) :
    ∃ a b c : Nat, a < 18446744073709551616 ∧ b < 18446744073709551616 ∧ c ≤ 4 ∧
    (a + b * 18446744073709551616 + c * 340282366920938463463374607431768211456) % polyP = ((h0 + h1 * 18446744073709551616 + h2 * 340282366920938463463374607431768211456 + leN l + high * 340282366920938463463374607431768211456) * (r0 + r1 * 18446744073709551616)) % polyP ∧
    ∀ (B g t : Nat) (w : World), Row w B 114 (tagC r0 r1 s0 s1 h0 h1 h2) → Row w g t (byV l) →
    Calls Tryd.prog 80 #[.pointer (some ⟨B, 0, none⟩), .pointer (some ⟨g, 0, none⟩), .int .u64 high] w fun e w' => e = .returned (.tuple #[]) ∧ Row w' B 114 (tagC r0 r1 s0 s1 a b c) ∧ Only B w w' := by
  have hpair := fun g t w hr => pair_any l hl hb g t w hr
  have hn0 := wordAt_lt l hb 0
  have hn1 := wordAt_lt l hb 8
  have hw := leN_words l hl
  generalize wordAt l 0 = n0 at *
  generalize wordAt l 8 = n1 at *
  obtain ⟨c1, x, ra, e1, lx, g1⟩ := add64_0 h0 n0 l0 hn0
  obtain ⟨c2, y, rb, e2, ly, g2⟩ := add64_c h1 n1 c1 l1 hn1 g1
  obtain ⟨z, hz⟩ : ∃ z, z = h2 + high + c2 := ⟨_, rfl⟩
  have lz : z < 8 := by clear e1 e2 hw; omega
  have hm := add_math h0 h1 h2 n0 n1 c1 x c2 y z high e1 e2 hz
  obtain ⟨a, b, c, la, lb, lc, hmod, hprod⟩ := product_any x y z r0 r1 lx ly lz hr0 hr1
  refine ⟨a, b, c, la, lb, lc, by rw [hmod, hm, hw], fun B g t w hrB hrg => ?_⟩
  have v1 : IntKind.u64.wrap ((h2 : Int) + high) = h2 + high := wrap_sum2 _ _ (by clear hmod hm hw e1 e2; omega)
  have v2 : IntKind.u64.wrap ((h2 : Int) + high + c2) = z := by rw [wrap_sum3 _ _ _ (by clear hmod hm hw e1 e2; omega), hz]; rfl
  clear hmod hm hw e1 e2 hz lz
  have HG : Hid (Row w g t (byV l)) := hrg
  have HBR : Hid (Row w B 114 (tagC r0 r1 s0 s1 h0 h1 h2)) := hrB
  clear hrB hrg
  go_enter Tryd.func80, Tryd.ntmps80
  go_wp2_with fail
  refine (hpair g t _ HG.out).mono ?_
  rintro e w1 ⟨rfl, hb1⟩
  have hB1 := HBR.out.below hb1 HBR.out.lt
  have hlt1 := hb1.size
  clear hpair
  go_wp2_with fail
  obtain ⟨w2, hw2⟩ : ∃ w2, w1.alloc (.cells #[.int .u64 n0, .int .u64 n1] 110) = w2 := ⟨_, rfl⟩
  have hB2 : Row w2 B 114 (tagC r0 r1 s0 s1 h0 h1 h2) := by rw [← hw2]; exact (Below.heap_alloc _ _ _ hB1.lt).trans hB1
  have hN2 : Row w2 w1.heap.size 110 [.int .u64 n0, .int .u64 n1] := by rw [← hw2]; exact heap_alloc_new w1 _
  have hb2 : Below w.heap.size w w2 := by rw [← hw2]; exact hb1.alloc hlt1 _
  rw [hw2]
  have d0 : w2.cell? ⟨B, 0, none⟩ = some (.int .u64 r0) := hB2.cell 0
  have d1 : w2.cell? ⟨B, 1, none⟩ = some (.int .u64 r1) := hB2.cell 1
  have d4 : w2.cell? ⟨B, 4, none⟩ = some (.int .u64 h0) := hB2.cell 4
  have d5 : w2.cell? ⟨B, 5, none⟩ = some (.int .u64 h1) := hB2.cell 5
  have d6 : w2.cell? ⟨B, 6, none⟩ = some (.int .u64 h2) := hB2.cell 6
  have f0 : w2.cell? ⟨w1.heap.size, 0, none⟩ = some (.int .u64 n0) := hN2.cell 0
  have f1 : w2.cell? ⟨w1.heap.size, 1, none⟩ = some (.int .u64 n1) := hN2.cell 1
  clear hw2 hN2 hB1
  have HB2 : Hid (Row w2 B 114 (tagC r0 r1 s0 s1 h0 h1 h2) ∧ Below w.heap.size w w2) := ⟨hB2, hb2⟩
  clear hB2 hb2
  go_quiet (fail)
  go_wp2_with fail
  go_quiet (fail)
  go_wp2_with fail
  clear ra rb f0 f1 d4 d5
  go_region_with (first | (go_at_call 90; refine (hprod _).mono ?_; rintro e w4 ⟨rfl, hb4⟩; have HS := store_all w4 B r0 r1 s0 s1 h0 h1 h2 a b c (Row.below (w := w2.drewN _) HB2.out.1 hb4 HB2.out.1.lt); obtain ⟨⟨t4, t5, t6, tf⟩, HS2⟩ := HS; have H5 : Hid _ := HS2; clear HS2))
  all_goals
    have hO := (((Only.of_below HB2.out.2).drewN _).trans (Only.of_below (b := B) hb4)).trans H5.out.2
    have hR := H5.out.1
    clear t4 t5 t6 tf hb4
    go_end0
    exact ⟨rfl, hR, hO⟩
end Go.Proofs.YtfmaajfohieneaaDoor.Bx
