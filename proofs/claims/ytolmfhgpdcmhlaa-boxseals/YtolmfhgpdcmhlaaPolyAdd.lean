/- box's tagger.add: a piece more. -/
import Derived.Test.YtolmfhgpdcmhlaaPolyTag
import Derived.Deep.RegionWith
namespace Go.Proofs.Ytolmfhgpdcmhlaa
open Go.RowKit

theorem wordAt_lt (l : List Nat) (h : Bytes l) (o : Nat) : wordAt l o < 18446744073709551616 := by
  have h1 := leN_lt ((l.drop o).take 8) ((h.drop o).take 8)
  have h2 : 256 ^ ((l.drop o).take 8).length ≤ 256 ^ 8 := Nat.pow_le_pow_right (by decide) (by simp; omega)
  exact Nat.lt_of_lt_of_le h1 h2
theorem leN_words (l : List Nat) (h : l.length = 16) : leN l = wordAt l 0 + wordAt l 8 * 18446744073709551616 := by
  have e : l = (l.drop 0).take 8 ++ (l.drop 8).take 8 := by
    rw [List.drop_zero, List.take_of_length_le (l := l.drop 8) (by simp; omega), List.take_append_drop]
  have h8 : ((l.drop 0).take 8).length = 8 := by simp; omega
  unfold wordAt
  conv => lhs; rw [e, leN_append, h8]
  rw [Nat.mul_comm]
theorem Only.drewN {b : Nat} {w w' : World} (h : Only b w w') (n : Nat) : Only b w (w'.drewN n) := ⟨bdrewN h.1 n, fun k hk hb => h.2 k hk hb⟩
theorem add_math (h0 h1 h2 n0 n1 c1 x c2 y z high : Nat) (e1 : h0 + n0 = c1 * 18446744073709551616 + x) (e2 : h1 + n1 + c1 = c2 * 18446744073709551616 + y) (ez : z = h2 + high + c2) :
    x + y * 18446744073709551616 + z * 340282366920938463463374607431768211456 = h0 + h1 * 18446744073709551616 + h2 * 340282366920938463463374607431768211456 + (n0 + n1 * 18446744073709551616) + high * 340282366920938463463374607431768211456 := by
  subst ez
  omega
theorem store_all (w : World) (B r0 r1 s0 s1 h0 h1 h2 a b c : Nat) (hr : Row w B 44 (tagC r0 r1 s0 s1 h0 h1 h2)) :
    (w.cell? ⟨B, 4, none⟩ = some (.int .u64 h0) ∧ w.cell? ⟨B, 5, none⟩ = some (.int .u64 h1) ∧ w.cell? ⟨B, 6, none⟩ = some (.int .u64 h2) ∧ ∀ i, w.frozen? ⟨B, i, none⟩ = false) ∧
    Row (((w.setCell ⟨B, 4, none⟩ (.int .u64 a)).setCell ⟨B, 5, none⟩ (.int .u64 b)).setCell ⟨B, 6, none⟩ (.int .u64 c)) B 44 (tagC r0 r1 s0 s1 a b c) ∧ Only B w (((w.setCell ⟨B, 4, none⟩ (.int .u64 a)).setCell ⟨B, 5, none⟩ (.int .u64 b)).setCell ⟨B, 6, none⟩ (.int .u64 c)) := by
  refine ⟨⟨hr.cell 4, hr.cell 5, hr.cell 6, fun i => hr.frozen i⟩, ?_, (((Only.refl _ _).setCell _ _).setCell _ _).setCell _ _⟩
  have k1 : Row (w.setCell ⟨B, 4, none⟩ (.int .u64 a)) B 44 (tagC r0 r1 s0 s1 a h1 h2) := Row.set (A := [.int .u64 r0, .int .u64 r1, .int .u64 s0, .int .u64 s1]) (C := [.int .u64 h1, .int .u64 h2]) hr _ rfl
  have k2 : Row ((w.setCell ⟨B, 4, none⟩ (.int .u64 a)).setCell ⟨B, 5, none⟩ (.int .u64 b)) B 44 (tagC r0 r1 s0 s1 a b h2) := Row.set (A := [.int .u64 r0, .int .u64 r1, .int .u64 s0, .int .u64 s1, .int .u64 a]) (C := [.int .u64 h2]) k1 _ rfl
  exact Row.set (A := [.int .u64 r0, .int .u64 r1, .int .u64 s0, .int .u64 s1, .int .u64 a, .int .u64 b]) (C := []) k2 _ rfl

set_option maxRecDepth 10000 in
set_option maxHeartbeats 2000000 in
theorem add_any (r0 r1 s0 s1 h0 h1 h2 : Nat) (hr0 : r0 < 1152921504606846976) (hr1 : r1 < 1152921504606846976) (l0 : h0 < 18446744073709551616) (l1 : h1 < 18446744073709551616) (l2 : h2 ≤ 4) (l : List Nat) (hl : l.length = 16) (hb : Bytes l) (high : Nat) (hh : high ≤ 1) :
    ∃ a b c : Nat, a < 18446744073709551616 ∧ b < 18446744073709551616 ∧ c ≤ 4 ∧
    (a + b * 18446744073709551616 + c * 340282366920938463463374607431768211456) % polyP = ((h0 + h1 * 18446744073709551616 + h2 * 340282366920938463463374607431768211456 + leN l + high * 340282366920938463463374607431768211456) * (r0 + r1 * 18446744073709551616)) % polyP ∧
    ∀ (B g t : Nat) (w : World), Row w B 44 (tagC r0 r1 s0 s1 h0 h1 h2) → Row w g t (byV l) →
    Calls Try.prog 43 #[.pointer (some ⟨B, 0, none⟩), .pointer (some ⟨g, 0, none⟩), .int .u64 high] w fun e w' => e = .returned (.tuple #[]) ∧ Row w' B 44 (tagC r0 r1 s0 s1 a b c) ∧ Only B w w' := by
  have hpair := fun g t w hr => pair_any l hl hb g t w hr
  have hn0 := wordAt_lt l hb 0
  have hn1 := wordAt_lt l hb 8
  have hw := leN_words l hl
  generalize wordAt l 0 = n0 at *
  generalize wordAt l 8 = n1 at *
  obtain ⟨c1, x, ra, e1, lx, g1⟩ := add64_0 h0 n0 l0 hn0
  obtain ⟨c2, y, rb, e2, ly, g2⟩ := add64_c h1 n1 c1 l1 hn1 g1
  obtain ⟨z, hz⟩ : ∃ z, z = h2 + high + c2 := ⟨_, rfl⟩
  have lz : z < 8 := by clear e1 e2 hw; omega
  have hm := add_math h0 h1 h2 n0 n1 c1 x c2 y z high e1 e2 hz
  obtain ⟨a, b, c, la, lb, lc, hmod, hprod⟩ := product_any x y z r0 r1 lx ly lz hr0 hr1
  refine ⟨a, b, c, la, lb, lc, by rw [hmod, hm, hw], fun B g t w hrB hrg => ?_⟩
  have v1 : IntKind.u64.wrap ((h2 : Int) + high) = h2 + high := wrap_sum2 _ _ (by clear hmod hm hw e1 e2; omega)
  have v2 : IntKind.u64.wrap ((h2 : Int) + high + c2) = z := by rw [wrap_sum3 _ _ _ (by clear hmod hm hw e1 e2; omega), hz]; rfl
  clear hmod hm hw e1 e2 hz lz
  have HG : Hid (Row w g t (byV l)) := hrg
  have HBR : Hid (Row w B 44 (tagC r0 r1 s0 s1 h0 h1 h2)) := hrB
  clear hrB hrg
  go_enter Try.func43, Try.ntmps43
  go_wp2_with fail
  refine (hpair g t _ HG.out).mono ?_
  rintro e w1 ⟨rfl, hb1⟩
  have hB1 := HBR.out.below hb1 HBR.out.lt
  have hlt1 := hb1.size
  clear hpair
  go_wp2_with fail
  obtain ⟨w2, hw2⟩ : ∃ w2, w1.alloc (.cells #[.int .u64 n0, .int .u64 n1] 40) = w2 := ⟨_, rfl⟩
  have hB2 : Row w2 B 44 (tagC r0 r1 s0 s1 h0 h1 h2) := by rw [← hw2]; exact (Below.heap_alloc _ _ _ hB1.lt).trans hB1
  have hN2 : Row w2 w1.heap.size 40 [.int .u64 n0, .int .u64 n1] := by rw [← hw2]; exact heap_alloc_new w1 _
  have hb2 : Below w.heap.size w w2 := by rw [← hw2]; exact hb1.alloc hlt1 _
  rw [hw2]
  have d0 : w2.cell? ⟨B, 0, none⟩ = some (.int .u64 r0) := hB2.cell 0
  have d1 : w2.cell? ⟨B, 1, none⟩ = some (.int .u64 r1) := hB2.cell 1
  have d4 : w2.cell? ⟨B, 4, none⟩ = some (.int .u64 h0) := hB2.cell 4
  have d5 : w2.cell? ⟨B, 5, none⟩ = some (.int .u64 h1) := hB2.cell 5
  have d6 : w2.cell? ⟨B, 6, none⟩ = some (.int .u64 h2) := hB2.cell 6
  have f0 : w2.cell? ⟨w1.heap.size, 0, none⟩ = some (.int .u64 n0) := hN2.cell 0
  have f1 : w2.cell? ⟨w1.heap.size, 1, none⟩ = some (.int .u64 n1) := hN2.cell 1
  clear hw2 hN2 hB1
  have HB2 : Hid (Row w2 B 44 (tagC r0 r1 s0 s1 h0 h1 h2) ∧ Below w.heap.size w w2) := ⟨hB2, hb2⟩
  clear hB2 hb2
  go_quiet (fail)
  go_wp2_with fail
  go_quiet (fail)
  go_wp2_with fail
  clear ra rb f0 f1 d4 d5
  go_region_with (first | (go_at_call 58; refine (hprod _).mono ?_; rintro e w4 ⟨rfl, hb4⟩; have HS := store_all w4 B r0 r1 s0 s1 h0 h1 h2 a b c (Row.below (w := w2.drewN _) HB2.out.1 hb4 HB2.out.1.lt); obtain ⟨⟨t4, t5, t6, tf⟩, HS2⟩ := HS; have H5 : Hid _ := HS2; clear HS2))
  all_goals
    have hO := (((Only.of_below HB2.out.2).drewN _).trans (Only.of_below (b := B) hb4)).trans H5.out.2
    have hR := H5.out.1
    clear t4 t5 t6 tf hb4
    go_end0
    exact ⟨rfl, hR, hO⟩
end Go.Proofs.Ytolmfhgpdcmhlaa
