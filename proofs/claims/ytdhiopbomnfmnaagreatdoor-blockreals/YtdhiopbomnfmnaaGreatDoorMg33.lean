/- box's wide.least: the two low words of a number modulo 2^130 - 5. · box's tagger.tag: the tag of what was taken. · box's tagger.add: a piece more. · box's tagger.take: a text more, behind whole pieces. -/
import Derived.Test.YtdhiopbomnfmnaaGreatDoorMg32
import Derived.Deep.RegionWith
namespace Go.Proofs.YtdhiopbomnfmnaaGreatDoor.Bx
set_option maxRecDepth 20000
open Go.RowKit

theorem least_math (h0 h1 h2 x y z k1 k2 k3 : Nat) (l0 : h0 < 18446744073709551616) (l1 : h1 < 18446744073709551616) (l2 : h2 ≤ 4) (lx : x < 18446744073709551616) (ly : y < 18446744073709551616) (lz : z < 18446744073709551616) (lk : k3 ≤ 1)
    (e1 : h0 + k1 * 18446744073709551616 = 18446744073709551611 + x) (e2 : h1 + k2 * 18446744073709551616 = 18446744073709551615 + k1 + y) (e3 : h2 + k3 * 18446744073709551616 = 3 + k2 + z) :
    (k3 = 1 → h0 + h1 * 18446744073709551616 = (h0 + h1 * 18446744073709551616 + h2 * 340282366920938463463374607431768211456) % polyP % 340282366920938463463374607431768211456) ∧
    (k3 = 0 → x + y * 18446744073709551616 = (h0 + h1 * 18446744073709551616 + h2 * 340282366920938463463374607431768211456) % polyP % 340282366920938463463374607431768211456) := by
  constructor
  · rintro rfl
    have h : h0 + h1 * 18446744073709551616 + h2 * 340282366920938463463374607431768211456 < polyP := by unfold polyP; omega
    rw [Nat.mod_eq_of_lt h]
    clear e1 e2 e3 h
    omega
  · rintro rfl
    have h : h0 + h1 * 18446744073709551616 + h2 * 340282366920938463463374607431768211456 = polyP + (x + y * 18446744073709551616 + z * 340282366920938463463374607431768211456) := by unfold polyP; omega
    have h' : x + y * 18446744073709551616 + z * 340282366920938463463374607431768211456 < polyP := by unfold polyP at h ⊢; omega
    rw [h, Nat.add_mod_left, Nat.mod_eq_of_lt h']
    clear e1 e2 e3 h h'
    omega
theorem xor_back (x y : Nat) (hx : x < 18446744073709551616) (hy : y < 18446744073709551616) : ∃ e : Nat, bits .xor .u64 (x : Int) (y : Int) = e ∧ bits .and .u64 (e : Int) 18446744073709551615 = e ∧ bits .and .u64 (e : Int) 0 = 0 ∧ bits .xor .u64 (x : Int) (e : Int) = y ∧ bits .xor .u64 (x : Int) 0 = x := by
  have he : x ^^^ y < 18446744073709551616 := Nat.xor_lt_two_pow (n := 64) hx hy
  refine ⟨x ^^^ y, u64_xor_nat x y hx hy, ?_, ?_, ?_, ?_⟩
  · have h := u64_and_nat (x ^^^ y) 18446744073709551615 he (by decide)
    rw [show (x ^^^ y) &&& 18446744073709551615 = (x ^^^ y) % 18446744073709551616 from Nat.and_two_pow_sub_one_eq_mod _ 64, Nat.mod_eq_of_lt he] at h
    exact h
  · have h := u64_and_nat (x ^^^ y) 0 he (by decide)
    rw [Nat.and_zero] at h
    exact h
  · rw [u64_xor_nat x _ hx he, ← Nat.xor_assoc, Nat.xor_self, Nat.zero_xor]
  · have h := u64_xor_nat x 0 hx (by decide)
    rw [Nat.xor_zero] at h
    exact h

set_option maxHeartbeats 1000000 in
theorem least_any (h0 h1 h2 : Nat) (l0 : h0 < 18446744073709551616) (l1 : h1 < 18446744073709551616) (l2 : h2 ≤ 4) : ∃ a b : Nat, a < 18446744073709551616 ∧ b < 18446744073709551616 ∧ a + b * 18446744073709551616 = (h0 + h1 * 18446744073709551616 + h2 * 340282366920938463463374607431768211456) % polyP % 340282366920938463463374607431768211456 ∧
    ∀ (B o : Nat) (w : World), w.cell? ⟨B, o, none⟩ = some (.int .u64 h0) → w.cell? ⟨B, o + 1, none⟩ = some (.int .u64 h1) → w.cell? ⟨B, o + 2, none⟩ = some (.int .u64 h2) →
    Calls Tryz.prog 157 #[.pointer (some ⟨B, o, none⟩)] w fun e w' => e = .returned (.tuple #[.int .u64 a, .int .u64 b]) ∧ ∃ n, w' = w.drewN n := by
  obtain ⟨k1, x, r1, e1, lx, g1⟩ := sub64_c h0 18446744073709551611 0 l0 (by decide) (by decide)
  obtain ⟨k2, y, r2, e2, ly, g2⟩ := sub64_c h1 18446744073709551615 k1 l1 (by decide) g1
  obtain ⟨k3, z, r3, e3, lz, g3⟩ := sub64_c h2 3 k2 (by clear e1 e2; omega) (by decide) g2
  obtain ⟨m1, m0⟩ := least_math h0 h1 h2 x y z k1 k2 k3 l0 l1 l2 lx ly lz g3 (by clear e2 e3; omega) e2 e3
  obtain ⟨ex, p1, p2, p3, p4, p5⟩ := xor_back x h0 lx l0
  obtain ⟨ey, q1, q2, q3, q4, q5⟩ := xor_back y h1 ly l1
  have r1' : ∀ w, (callFunc 165 #[.int .u64 h0, .int .u64 18446744073709551611, .int .u64 0]).run Tryz.prog w = .ok (.value (.tuple #[.int .u64 x, .int .u64 k1])) w := r1
  have r2' : ∀ w, (callFunc 165 #[.int .u64 h1, .int .u64 18446744073709551615, .int .u64 k1]).run Tryz.prog w = .ok (.value (.tuple #[.int .u64 y, .int .u64 k2])) w := r2
  have r3' : ∀ w, (callFunc 165 #[.int .u64 h2, .int .u64 3, .int .u64 k2]).run Tryz.prog w = .ok (.value (.tuple #[.int .u64 z, .int .u64 k3])) w := r3
  clear r1 r2 r3 e1 e2 e3
  have hk : k3 = 1 ∨ k3 = 0 := by clear m1 m0; omega
  rcases hk with rfl | rfl
  · refine ⟨h0, h1, l0, l1, m1 rfl, fun B o w c0 c1 c2 => ?_⟩
    clear m0 m1
    have v : IntKind.u64.wrap (-1) = 18446744073709551615 := by rw [IntKind.wrap_u64]; rfl
    go_enter Tryz.func157, Tryz.ntmps157
    go_wp2_with fail
    go_quiet (fail)
    go_wp2
    go_ret2
    exact ⟨rfl, _, rfl⟩
  · refine ⟨x, y, lx, ly, m0 rfl, fun B o w c0 c1 c2 => ?_⟩
    clear m0 m1
    have v : IntKind.u64.wrap 0 = 0 := by rw [IntKind.wrap_u64]; rfl
    go_enter Tryz.func157, Tryz.ntmps157
    go_wp2_with fail
    go_quiet (fail)
    go_wp2
    go_ret2
    exact ⟨rfl, _, rfl⟩
end Go.Proofs.YtdhiopbomnfmnaaGreatDoor.Bx

namespace Go.Proofs.YtdhiopbomnfmnaaGreatDoor.Bx
set_option maxRecDepth 20000
open Go.RowKit


theorem tag_math (a b s0 s1 V x c t y : Nat) (hx : x < 18446744073709551616) (h : a + b * 18446744073709551616 = V % 340282366920938463463374607431768211456)
    (e1 : a + s0 = c * 18446744073709551616 + x) (e2 : t = (s1 + c) % 18446744073709551616) (e3 : y = (b + t) % 18446744073709551616) :
    x + y * 18446744073709551616 = (V + (s0 + s1 * 18446744073709551616)) % 340282366920938463463374607431768211456 := by
  rw [Nat.add_mod, ← h, Nat.add_mod_mod]
  subst e2 e3
  clear h
  omega

set_option maxRecDepth 10000 in
set_option maxHeartbeats 1000000 in
theorem tag_any (B r0 r1 s0 s1 h0 h1 h2 : Nat) (l0 : h0 < 18446744073709551616) (l1 : h1 < 18446744073709551616) (l2 : h2 ≤ 4) (hs0 : s0 < 18446744073709551616) (w : World) (hr : Row w B 194 (tagC r0 r1 s0 s1 h0 h1 h2)) :
    Calls Tryz.prog 147 #[.pointer (some ⟨B, 0, none⟩)] w fun e w' => e = .returned (.string (strN (leB 16 (((h0 + h1 * 18446744073709551616 + h2 * 340282366920938463463374607431768211456) % polyP + (s0 + s1 * 18446744073709551616)) % 340282366920938463463374607431768211456)))) ∧ Below w.heap.size w w' := by
  obtain ⟨a, b, la, lb, hab, hleast⟩ := least_any h0 h1 h2 l0 l1 l2
  obtain ⟨c, x, ra, e1, lx, lc⟩ := add64_0 a s0 la hs0
  obtain ⟨t, ht⟩ : ∃ t, t = (s1 + c) % 18446744073709551616 := ⟨_, rfl⟩
  obtain ⟨y, hy⟩ : ∃ y, y = (b + t) % 18446744073709551616 := ⟨_, rfl⟩
  have hm := tag_math a b s0 s1 _ x c t y lx hab e1 ht hy
  rw [← hm, leB_two x y lx]
  have v1 : IntKind.u64.wrap ((s1 : Int) + c) = t := by rw [IntKind.wrap_u64, ht]; rfl
  have v2 : IntKind.u64.wrap ((b : Int) + t) = y := by rw [IntKind.wrap_u64, hy]; rfl
  clear hm hab ht hy e1
  have c0 : w.cell? ⟨B, 4, none⟩ = some (.int .u64 h0) := hr.cell 4
  have c1 : w.cell? ⟨B, 4 + 1, none⟩ = some (.int .u64 h1) := hr.cell 5
  have c2 : w.cell? ⟨B, 4 + 2, none⟩ = some (.int .u64 h2) := hr.cell 6
  have HL := hleast B 4 w c0 c1 c2
  clear hleast c0 c1 c2
  have d0 : w.cell? ⟨B, 2, none⟩ = some (.int .u64 s0) := hr.cell 2
  have d1 : w.cell? ⟨B, 3, none⟩ = some (.int .u64 s1) := hr.cell 3
  clear hr
  go_enter Tryz.func147, Tryz.ntmps147
  go_wp2_with fail
  refine HL.mono ?_
  rintro e w1 ⟨rfl, n, rfl⟩
  clear HL
  go_wp2_with fail
  refine (put_any x y _).mono ?_
  rintro e w1 ⟨rfl, hb1⟩
  have hb1' : Below w.heap.size w w1 := (bdrewN (Below.refl _ _) n).trans hb1
  clear hb1
  obtain ⟨ds, hds⟩ : ∃ ds, ds = (byV (leB 8 x ++ leB 8 y)).toArray := ⟨_, rfl⟩
  have hsz : ds.size = 16 := by rw [hds]; simp [byV, leB]
  have hone : ds.all (·.oneCell') = true := by rw [hds]; simp [byV, Value.oneCell']
  have hinfo : (Tryz.prog.info? 205).map (·.size) = some ds.size := by rw [hsz]; kernel_rfl
  rw [← hds]
  have HDS : Hid (ds = (byV (leB 8 x ++ leB 8 y)).toArray) := hds
  clear hds
  go_wp2_with (refine wpList_store_row rfl 205 _ _ rfl w1.heap.size ds rfl rfl 205 _ (heap_alloc_new w1 _) hinfo (by rw [hsz]; rfl) hone ?_)
  rw [World.setRow_alloc_new]
  have k2 : Row (w1.alloc (.cells ds 205)) w1.heap.size 205 (byV (leB 8 x ++ leB 8 y)) := by rw [HDS.out]; exact heap_alloc_new w1 _
  have hb2 := hb1'.alloc hb1'.size (.cells ds 205)
  generalize w1.alloc (.cells ds 205) = w2 at *
  have hl16 : (leB 8 x ++ leB 8 y).length = 16 := by simp [leB]
  have hcv := run_convert_bytes_arg (P := Tryz.prog) w2 55 5 Tryz.underlying55 Tryz.underlying5 w1.heap.size 0 16 16 ((leB 8 x ++ leB 8 y).map fun (x : Nat) => (x : Int)) (by simp [leB]) (fun i hi => by
    rw [Nat.zero_add, k2.cell, byV_get _ _ (by rw [hl16]; exact hi)]
    simp only [List.getD_eq_getElem?_getD, List.getElem?_map]
    rw [List.getElem?_eq_getElem (by rw [hl16]; exact hi)]
    rfl) 9 Tryz.underlying9
  have HCV : Hid (strOfNums ((leB 8 x ++ leB 8 y).map fun (x : Nat) => (x : Int)) = strN (leB 8 x ++ leB 8 y)) := rfl
  rw [HCV.out] at hcv
  clear k2 hone hinfo hsz
  go_wp2
  rw [hcv]
  go_wp2
  go_ret
  exact ⟨rfl, hb2⟩
end Go.Proofs.YtdhiopbomnfmnaaGreatDoor.Bx

namespace Go.Proofs.YtdhiopbomnfmnaaGreatDoor.Bx
set_option maxRecDepth 20000
open Go.RowKit

theorem wordAt_lt (l : List Nat) (h : Bytes l) (o : Nat) : wordAt l o < 18446744073709551616 := by
  have h1 := leN_lt ((l.drop o).take 8) ((h.drop o).take 8)
  have h2 : 256 ^ ((l.drop o).take 8).length ≤ 256 ^ 8 := Nat.pow_le_pow_right (by decide) (by simp; omega)
  exact Nat.lt_of_lt_of_le h1 h2
theorem leN_words (l : List Nat) (h : l.length = 16) : leN l = wordAt l 0 + wordAt l 8 * 18446744073709551616 := by
  have e : l = (l.drop 0).take 8 ++ (l.drop 8).take 8 := by
    rw [List.drop_zero, List.take_of_length_le (l := l.drop 8) (by simp; omega), List.take_append_drop]
  have h8 : ((l.drop 0).take 8).length = 8 := by simp; omega
  unfold wordAt
  conv => lhs; rw [e, leN_append, h8]
  rw [Nat.mul_comm]
theorem Only.drewN {b : Nat} {w w' : World} (h : Only b w w') (n : Nat) : Only b w (w'.drewN n) := ⟨bdrewN h.1 n, fun k hk hb => h.2 k hk hb⟩
theorem add_math (h0 h1 h2 n0 n1 c1 x c2 y z high : Nat) (e1 : h0 + n0 = c1 * 18446744073709551616 + x) (e2 : h1 + n1 + c1 = c2 * 18446744073709551616 + y) (ez : z = h2 + high + c2) :
    x + y * 18446744073709551616 + z * 340282366920938463463374607431768211456 = h0 + h1 * 18446744073709551616 + h2 * 340282366920938463463374607431768211456 + (n0 + n1 * 18446744073709551616) + high * 340282366920938463463374607431768211456 := by
  subst ez
  omega
theorem store_all (w : World) (B r0 r1 s0 s1 h0 h1 h2 a b c : Nat) (hr : Row w B 194 (tagC r0 r1 s0 s1 h0 h1 h2)) :
    (w.cell? ⟨B, 4, none⟩ = some (.int .u64 h0) ∧ w.cell? ⟨B, 5, none⟩ = some (.int .u64 h1) ∧ w.cell? ⟨B, 6, none⟩ = some (.int .u64 h2) ∧ ∀ i, w.frozen? ⟨B, i, none⟩ = false) ∧
    Row (((w.setCell ⟨B, 4, none⟩ (.int .u64 a)).setCell ⟨B, 5, none⟩ (.int .u64 b)).setCell ⟨B, 6, none⟩ (.int .u64 c)) B 194 (tagC r0 r1 s0 s1 a b c) ∧ Only B w (((w.setCell ⟨B, 4, none⟩ (.int .u64 a)).setCell ⟨B, 5, none⟩ (.int .u64 b)).setCell ⟨B, 6, none⟩ (.int .u64 c)) := by
  refine ⟨⟨hr.cell 4, hr.cell 5, hr.cell 6, fun i => hr.frozen i⟩, ?_, (((Only.refl _ _).setCell _ _).setCell _ _).setCell _ _⟩
  have k1 : Row (w.setCell ⟨B, 4, none⟩ (.int .u64 a)) B 194 (tagC r0 r1 s0 s1 a h1 h2) := Row.set (A := [.int .u64 r0, .int .u64 r1, .int .u64 s0, .int .u64 s1]) (C := [.int .u64 h1, .int .u64 h2]) hr _ rfl
  have k2 : Row ((w.setCell ⟨B, 4, none⟩ (.int .u64 a)).setCell ⟨B, 5, none⟩ (.int .u64 b)) B 194 (tagC r0 r1 s0 s1 a b h2) := Row.set (A := [.int .u64 r0, .int .u64 r1, .int .u64 s0, .int .u64 s1, .int .u64 a]) (C := [.int .u64 h2]) k1 _ rfl
  exact Row.set (A := [.int .u64 r0, .int .u64 r1, .int .u64 s0, .int .u64 s1, .int .u64 a, .int .u64 b]) (C := []) k2 _ rfl

set_option maxRecDepth 10000 in
set_option maxHeartbeats 2000000 in
theorem add_any (r0 r1 s0 s1 h0 h1 h2 : Nat) (hr0 : r0 < 1152921504606846976) (hr1 : r1 < 1152921504606846976) (l0 : h0 < 18446744073709551616) (l1 : h1 < 18446744073709551616) (l2 : h2 ≤ 4) (l : List Nat) (hl : l.length = 16) (hb : Bytes l) (high : Nat) (hh : high ≤ 1) :
    ∃ a b c : Nat, a < 18446744073709551616 ∧ b < 18446744073709551616 ∧ c ≤ 4 ∧
    (a + b * 18446744073709551616 + c * 340282366920938463463374607431768211456) % polyP = ((h0 + h1 * 18446744073709551616 + h2 * 340282366920938463463374607431768211456 + leN l + high * 340282366920938463463374607431768211456) * (r0 + r1 * 18446744073709551616)) % polyP ∧
    ∀ (B g t : Nat) (w : World), Row w B 194 (tagC r0 r1 s0 s1 h0 h1 h2) → Row w g t (byV l) →
    Calls Tryz.prog 155 #[.pointer (some ⟨B, 0, none⟩), .pointer (some ⟨g, 0, none⟩), .int .u64 high] w fun e w' => e = .returned (.tuple #[]) ∧ Row w' B 194 (tagC r0 r1 s0 s1 a b c) ∧ Only B w w' := by
  have hpair := fun g t w hr => pair_any l hl hb g t w hr
  have hn0 := wordAt_lt l hb 0
  have hn1 := wordAt_lt l hb 8
  have hw := leN_words l hl
  generalize wordAt l 0 = n0 at *
  generalize wordAt l 8 = n1 at *
  obtain ⟨c1, x, ra, e1, lx, g1⟩ := add64_0 h0 n0 l0 hn0
  obtain ⟨c2, y, rb, e2, ly, g2⟩ := add64_c h1 n1 c1 l1 hn1 g1
  obtain ⟨z, hz⟩ : ∃ z, z = h2 + high + c2 := ⟨_, rfl⟩
  have lz : z < 8 := by clear e1 e2 hw; omega
  have hm := add_math h0 h1 h2 n0 n1 c1 x c2 y z high e1 e2 hz
  obtain ⟨a, b, c, la, lb, lc, hmod, hprod⟩ := product_any x y z r0 r1 lx ly lz hr0 hr1
  refine ⟨a, b, c, la, lb, lc, by rw [hmod, hm, hw], fun B g t w hrB hrg => ?_⟩
  have v1 : IntKind.u64.wrap ((h2 : Int) + high) = h2 + high := wrap_sum2 _ _ (by clear hmod hm hw e1 e2; omega)
  have v2 : IntKind.u64.wrap ((h2 : Int) + high + c2) = z := by rw [wrap_sum3 _ _ _ (by clear hmod hm hw e1 e2; omega), hz]; rfl
  clear hmod hm hw e1 e2 hz lz
  have HG : Hid (Row w g t (byV l)) := hrg
  have HBR : Hid (Row w B 194 (tagC r0 r1 s0 s1 h0 h1 h2)) := hrB
  clear hrB hrg
  go_enter Tryz.func155, Tryz.ntmps155
  go_wp2_with fail
  refine (hpair g t _ HG.out).mono ?_
  rintro e w1 ⟨rfl, hb1⟩
  have hB1 := HBR.out.below hb1 HBR.out.lt
  have hlt1 := hb1.size
  clear hpair
  go_wp2_with fail
  obtain ⟨w2, hw2⟩ : ∃ w2, w1.alloc (.cells #[.int .u64 n0, .int .u64 n1] 190) = w2 := ⟨_, rfl⟩
  have hB2 : Row w2 B 194 (tagC r0 r1 s0 s1 h0 h1 h2) := by rw [← hw2]; exact (Below.heap_alloc _ _ _ hB1.lt).trans hB1
  have hN2 : Row w2 w1.heap.size 190 [.int .u64 n0, .int .u64 n1] := by rw [← hw2]; exact heap_alloc_new w1 _
  have hb2 : Below w.heap.size w w2 := by rw [← hw2]; exact hb1.alloc hlt1 _
  rw [hw2]
  have d0 : w2.cell? ⟨B, 0, none⟩ = some (.int .u64 r0) := hB2.cell 0
  have d1 : w2.cell? ⟨B, 1, none⟩ = some (.int .u64 r1) := hB2.cell 1
  have d4 : w2.cell? ⟨B, 4, none⟩ = some (.int .u64 h0) := hB2.cell 4
  have d5 : w2.cell? ⟨B, 5, none⟩ = some (.int .u64 h1) := hB2.cell 5
  have d6 : w2.cell? ⟨B, 6, none⟩ = some (.int .u64 h2) := hB2.cell 6
  have f0 : w2.cell? ⟨w1.heap.size, 0, none⟩ = some (.int .u64 n0) := hN2.cell 0
  have f1 : w2.cell? ⟨w1.heap.size, 1, none⟩ = some (.int .u64 n1) := hN2.cell 1
  clear hw2 hN2 hB1
  have HB2 : Hid (Row w2 B 194 (tagC r0 r1 s0 s1 h0 h1 h2) ∧ Below w.heap.size w w2) := ⟨hB2, hb2⟩
  clear hB2 hb2
  go_quiet (fail)
  go_wp2_with fail
  go_quiet (fail)
  go_wp2_with fail
  clear ra rb f0 f1 d4 d5
  go_region_with (first | (go_at_call 164; refine (hprod _).mono ?_; rintro e w4 ⟨rfl, hb4⟩; have HS := store_all w4 B r0 r1 s0 s1 h0 h1 h2 a b c (Row.below (w := w2.drewN _) HB2.out.1 hb4 HB2.out.1.lt); obtain ⟨⟨t4, t5, t6, tf⟩, HS2⟩ := HS; have H5 : Hid _ := HS2; clear HS2))
  all_goals
    have hO := (((Only.of_below HB2.out.2).drewN _).trans (Only.of_below (b := B) hb4)).trans H5.out.2
    have hR := H5.out.1
    clear t4 t5 t6 tf hb4
    go_end0
    exact ⟨rfl, hR, hO⟩
end Go.Proofs.YtdhiopbomnfmnaaGreatDoor.Bx

namespace Go.Proofs.YtdhiopbomnfmnaaGreatDoor.Bx
set_option maxRecDepth 20000
open Go.RowKit

theorem wordAt_top (l : List Nat) (hb : Bytes l) (o : Nat) (ho : o + 8 ≤ l.length) (h : l.getD (o + 7) 0 < 16) : wordAt l o < 1152921504606846976 := by
  have e : (l.drop o).take 8 = (l.drop o).take 7 ++ [l.getD (o + 7) 0] := by
    rw [List.take_succ_eq_append_getElem (by simp; omega), getD_at _ _ (by omega)]
    simp
  have h7 : ((l.drop o).take 7).length = 7 := by simp; omega
  have h1 := leN_lt ((l.drop o).take 7) ((hb.drop o).take 7)
  unfold wordAt
  rw [e, leN_append, h7]
  rw [h7] at h1
  simp only [leN]
  omega
theorem clamp_top (key : List Nat) (hb : Bytes key) : wordAt (clampL key) 0 < 1152921504606846976 ∧ wordAt (clampL key) 8 < 1152921504606846976 := by
  have hl := clampL_length key
  have hc := clampL_bytes key hb
  have g : ∀ i, i < 16 → i % 4 = 3 → (clampL key).getD i 0 < 16 := fun i hi h3 => by
    rw [List.getD_eq_getElem?_getD, clampL, List.getElem?_map, List.getElem?_range hi]
    show clampB i _ < 16
    unfold clampB
    rw [if_pos h3]
    omega
  exact ⟨wordAt_top _ hc 0 (by omega) (g 7 (by decide) (by decide)), wordAt_top _ hc 8 (by omega) (g 15 (by decide) (by decide))⟩

/-- The tagger in block B, under a key, has taken the bytes l. -/
def TagIn (w : World) (B : Nat) (key l : List Nat) : Prop := ∃ h0 h1 h2 : Nat, h0 < 18446744073709551616 ∧ h1 < 18446744073709551616 ∧ h2 ≤ 4 ∧ (h0 + h1 * 18446744073709551616 + h2 * 340282366920938463463374607431768211456) % polyP = polyN (polyR key) l ∧
  Row w B 194 (tagC (wordAt (clampL key) 0) (wordAt (clampL key) 8) (wordAt (key.drop 16) 0) (wordAt (key.drop 16) 8) h0 h1 h2)
theorem TagIn.below {w w' : World} {B : Nat} {key l : List Nat} (h : TagIn w B key l) {C : Nat} (hb : Below C w w') (hB : B < C) : TagIn w' B key l := by
  obtain ⟨h0, h1, h2, l0, l1, l2, e, hr⟩ := h
  exact ⟨h0, h1, h2, l0, l1, l2, e, hr.below hb hB⟩
theorem TagIn.only {w w' : World} {B g : Nat} {key l : List Nat} (h : TagIn w B key l) (ho : Only g w w') (hB : B ≠ g) : TagIn w' B key l := by
  obtain ⟨h0, h1, h2, l0, l1, l2, e, hr⟩ := h
  exact ⟨h0, h1, h2, l0, l1, l2, e, hr.only ho hB⟩
theorem TagIn.lt {w : World} {B : Nat} {key l : List Nat} (h : TagIn w B key l) : B < w.heap.size := by
  obtain ⟨h0, h1, h2, l0, l1, l2, e, hr⟩ := h
  exact hr.lt

/-- One piece more, laid as sixteen bytes and a bit: the piece's bytes and a byte 1 behind have that number. -/
theorem add_step (key : List Nat) (hk : Bytes key) (l m a : List Nat) (high : Nat) (hh : high ≤ 1) (hl : l.length % 16 = 0) (hm0 : 0 < m.length) (hm : m.length ≤ 16) (ha : a.length = 16) (hab : Bytes a) (hv : leN a + high * 340282366920938463463374607431768211456 = leN (m ++ [1]))
    (B g t : Nat) (w : World) (hT : TagIn w B key l) (hg : Row w g t (byV a)) :
    Calls Tryz.prog 155 #[.pointer (some ⟨B, 0, none⟩), .pointer (some ⟨g, 0, none⟩), .int .u64 high] w fun e w' => e = .returned (.tuple #[]) ∧ TagIn w' B key (l ++ m) ∧ Only B w w' := by
  obtain ⟨h0, h1, h2, l0, l1, l2, e, hr⟩ := hT
  obtain ⟨hr0, hr1⟩ := clamp_top key hk
  obtain ⟨x, y, z, lx, ly, lz, hmod, hadd⟩ := add_any _ _ (wordAt (key.drop 16) 0) (wordAt (key.drop 16) 8) h0 h1 h2 hr0 hr1 l0 l1 l2 a ha hab high hh
  refine (hadd B g t w hr hg).mono ?_
  rintro e' w' ⟨rfl, hr', ho⟩
  refine ⟨rfl, ⟨x, y, z, lx, ly, lz, ?_, hr'⟩, ho⟩
  rw [hmod, polyN_snoc _ l m (l.length / 16) (by omega) hm0 hm, polyStep, ← e, polyR, leN_words (clampL key) (clampL_length key), Nat.add_assoc _ (leN a), hv]
  rw [Nat.mul_mod, Nat.mul_mod (_ % polyP + _), Nat.mod_add_mod]

theorem piece_full (m : List Nat) (hm : m.length = 16) : leN m + 1 * 340282366920938463463374607431768211456 = leN (m ++ [1]) := by
  rw [leN_append, hm]
  simp [leN]
theorem leN_zeros (n : Nat) : leN (List.replicate n 0) = 0 := by
  induction n with
  | zero => rfl
  | succ n ih => rw [List.replicate_succ, leN, ih]
theorem piece_part (m : List Nat) (n : Nat) : leN (m ++ 1 :: List.replicate n 0) + 0 * 340282366920938463463374607431768211456 = leN (m ++ [1]) := by
  rw [leN_append, leN_append, leN, leN, leN_zeros]
  simp [leN]

theorem extract_extract (s : ByteArray) (p q : Nat) : (s.extract p s.size).extract q (s.extract p s.size).size = s.extract (p + q) s.size := by
  rw [ByteArray.extract_extract]
  congr 1
  simp
  omega

set_option maxRecDepth 10000 in
set_option maxHeartbeats 1000000 in
theorem take_any (key : List Nat) (hk : Bytes key) (B : Nat) (l : List Nat) (hl : l.length % 16 = 0) (s : ByteArray) (w : World) (hT : TagIn w B key l) :
    Calls Tryz.prog 154 #[.pointer (some ⟨B, 0, none⟩), .string s] w fun e w' => e = .returned (.tuple #[]) ∧ TagIn w' B key (l ++ numsOf s) ∧ Only B w w' := by
  have HT : Hid (TagIn w B key l) := hT
  clear hT
  go_enter Tryz.func154, Tryz.ntmps154
  go_wp2_with fail
  go_loopw [1] (fun v wr => ∃ p : Nat, p % 16 = 0 ∧ p ≤ s.size ∧ v = .string (s.extract p s.size) ∧ TagIn wr B key (l ++ (numsOf s).take p) ∧ Only B w wr) (fun v _ => strSize v)
  case atStart => exact ⟨0, rfl, Nat.zero_le _, by simp, by simpa using HT.out, Only.refl _ _⟩
  case round =>
    clear HT
    obtain ⟨p, hp, hps, rfl, hT, ho⟩ := hrel
    obtain ⟨u, hu⟩ : ∃ u, u = s.extract p s.size := ⟨_, rfl⟩
    have hus : u.size = s.size - p := by rw [hu]; simp
    have hun : numsOf u = (numsOf s).drop p := by rw [hu, numsOf_extract, List.take_of_length_le (by simp [numsOf_length])]
    have hlp : (l ++ (numsOf s).take p).length % 16 = 0 := by rw [List.length_append, List.length_take, numsOf_length]; omega
    have hub := numsOf_bytes u
    have hul := numsOf_length u
    have hBlt := hT.lt
    rw [← hu]
    obtain ⟨w0, hw0⟩ : ∃ w0, wr.alloc (.cells #[.int .u8 0, .int .u8 0, .int .u8 0, .int .u8 0, .int .u8 0, .int .u8 0, .int .u8 0, .int .u8 0, .int .u8 0, .int .u8 0, .int .u8 0, .int .u8 0, .int .u8 0, .int .u8 0, .int .u8 0, .int .u8 0] 205) = w0 := ⟨_, rfl⟩
    have a1 : Row w0 wr.heap.size 205 (byV (List.replicate 16 0)) := by
      rw [← hw0]
      have := heap_alloc_new wr (.cells #[.int .u8 0, .int .u8 0, .int .u8 0, .int .u8 0, .int .u8 0, .int .u8 0, .int .u8 0, .int .u8 0, .int .u8 0, .int .u8 0, .int .u8 0, .int .u8 0, .int .u8 0, .int .u8 0, .int .u8 0, .int .u8 0] 205)
      simpa [Row, byV] using this
    have ab : Below wr.heap.size wr w0 := by rw [← hw0]; exact (Below.refl _ _).alloc (Nat.le_refl _) _
    obtain ⟨w1, hcp1, b1, o1⟩ := copy_row w0 wr.heap.size 205 16 _ rfl a1 u
    have hB1 : Below wr.heap.size wr w1 := ab.trans (o1.below (Nat.le_of_lt a1.lt))
    have hT1 : TagIn w1 B key (l ++ (numsOf s).take p) := hT.below hB1 hBlt
    have ho1 : Only B w w1 := ho.trans (Only.of_below hB1)
    have HT0 : Hid (TagIn wr B key (l ++ (numsOf s).take p) ∧ Only B w wr) := ⟨hT, ho⟩
    clear ab o1 a1 hT ho
    by_cases h16 : p + 16 ≤ s.size
    · have hx := extract_extract s p 16
      rw [← hu] at hx
      rw [show min u.size 16 = 16 by omega, show List.drop 16 (byV (List.replicate 16 0)) = [] from rfl, List.append_nil] at b1
      rw [show min u.size 16 = 16 by omega] at hcp1
      have hm : ((numsOf u).take 16).length = 16 := by rw [List.length_take]; omega
      have HA := add_step key hk _ ((numsOf u).take 16) _ 1 (by decide) hlp (by omega) (by omega) hm (hub.take 16) (piece_full _ hm) B wr.heap.size _ w1 hT1 b1
      have e : l ++ (numsOf s).take p ++ (numsOf u).take 16 = l ++ (numsOf s).take (p + 16) := by rw [hun, List.append_assoc, List.take_add]
      rw [e] at HA
      have c1 : (16 : Int) ≤ u.size := by omega
      have HX : Hid (u.extract 16 u.size = s.extract (p + 16) s.size ∧ u.size = s.size - p ∧ Only B w w1) := ⟨hx, hus, ho1⟩
      clear hx hus ho1 hu hun hlp hub hul hm e b1 hT1 hBlt hB1 HT0
      go_wp2_with fail
      refine HA.mono ?_
      rintro e w2 ⟨rfl, hT2, ho2⟩
      clear HA hcp1 hw0
      go_wp2
      go_roundw
      case rel => exact ⟨p + 16, by omega, h16, by rw [HX.out.1], hT2, HX.out.2.2.trans ho2⟩
      case measure => simp [strSize]; have := HX.out.2.1; omega
    · have hmin : min u.size 16 = u.size := by omega
      rw [hmin] at hcp1 b1
      have c1 : ¬ (16 : Int) ≤ u.size := by omega
      by_cases h0 : u.size = 0
      · have c2 : ¬ (0 : Int) < u.size := by omega
        have e : (numsOf s).take p = numsOf s := List.take_of_length_le (by rw [numsOf_length]; omega)
        rw [e] at HT0
        clear hcp1 b1 hT1 ho1 hw0 hlp hub hul hun hu hB1
        go_wp2_with fail
        go_end0
        exact ⟨rfl, HT0.out⟩
      · have c2 : (0 : Int) < u.size := by omega
        have c3 : (u.size : Int) < 16 := by omega
        have hn : (numsOf u).take 16 = numsOf u := List.take_of_length_le (by omega)
        have hz : List.drop u.size (byV (List.replicate 16 0)) = Value.int .u8 0 :: byV (List.replicate (15 - u.size) 0) := by
          rw [byV_zeros, byV_zeros, List.drop_replicate, show 16 - u.size = (15 - u.size) + 1 by omega, List.replicate_succ]
        rw [hn, hz] at b1
        have b2 : Row w1 wr.heap.size 205 (byV (numsOf u) ++ [.int .u8 0] ++ byV (List.replicate (15 - u.size) 0)) := by simpa using b1
        have d1 : w1.cell? ⟨wr.heap.size, u.size, none⟩ = some (.int .u8 0) := by
          rw [b2.cell, List.append_assoc, List.getElem?_append_right (by simp [byV, hul]), show u.size - (byV (numsOf u)).length = 0 by simp [byV, hul]]
          rfl
        have d2 : w1.frozen? ⟨wr.heap.size, u.size, none⟩ = false := b2.frozen _
        have b3 := b2.set (n := u.size) (.int .u8 1) (by simp [byV, hul])
        have b4 : Row (w1.setCell ⟨wr.heap.size, u.size, none⟩ (.int .u8 1)) wr.heap.size 205 (byV (numsOf u ++ 1 :: List.replicate (15 - u.size) 0)) := by
          rw [byV_append]
          simpa [byV] using b3
        have o3 : Only wr.heap.size w1 (w1.setCell ⟨wr.heap.size, u.size, none⟩ (.int .u8 1)) := (Only.refl _ _).setCell _ _
        have hT3 := hT1.only o3 (by omega)
        have hB3 : Only B w (w1.setCell ⟨wr.heap.size, u.size, none⟩ (.int .u8 1)) := HT0.out.2.trans (Only.of_below (hB1.setCell (p := ⟨wr.heap.size, u.size, none⟩) (Nat.le_refl _) _))
        have HA := add_step key hk _ (numsOf u) _ 0 (by decide) hlp (by omega) (by omega) (by rw [List.length_append, List.length_cons, List.length_replicate]; omega) (hub.append (Bytes.cons (by decide) (Bytes.zeros _))) (piece_part _ _) B wr.heap.size _ _ hT3 b4
        have e : l ++ (numsOf s).take p ++ numsOf u = l ++ numsOf s := by rw [hun, List.append_assoc, List.take_append_drop]
        rw [e] at HA
        have HO : Hid (Only B w (w1.setCell ⟨wr.heap.size, u.size, none⟩ (.int .u8 1))) := hB3
        clear hB3 hT3 o3 b4 b3 b2 b1 hn hz e hT1 ho1 HT0 hB1 hlp hub hul hun hu hus
        go_wp2_with fail
        refine HA.mono ?_
        rintro e w2 ⟨rfl, hT2, ho2⟩
        clear HA hcp1 hw0 d1 d2
        go_wp2_with fail
        go_end0
        exact ⟨rfl, hT2, HO.out.trans ho2⟩
end Go.Proofs.YtdhiopbomnfmnaaGreatDoor.Bx
