/- box's tagger.tag: the tag of what was taken. -/
import Derived.Test.YtolmfhgpdcmhlaaPolyLeast
namespace Go.Proofs.Ytolmfhgpdcmhlaa
open Go.RowKit


theorem tag_math (a b s0 s1 V x c t y : Nat) (hx : x < 18446744073709551616) (h : a + b * 18446744073709551616 = V % 340282366920938463463374607431768211456)
    (e1 : a + s0 = c * 18446744073709551616 + x) (e2 : t = (s1 + c) % 18446744073709551616) (e3 : y = (b + t) % 18446744073709551616) :
    x + y * 18446744073709551616 = (V + (s0 + s1 * 18446744073709551616)) % 340282366920938463463374607431768211456 := by
  rw [Nat.add_mod, ← h, Nat.add_mod_mod]
  subst e2 e3
  clear h
  omega

set_option maxRecDepth 10000 in
set_option maxHeartbeats 1000000 in
theorem tag_any (B r0 r1 s0 s1 h0 h1 h2 : Nat) (l0 : h0 < 18446744073709551616) (l1 : h1 < 18446744073709551616) (l2 : h2 ≤ 4) (hs0 : s0 < 18446744073709551616) (w : World) (hr : Row w B 44 (tagC r0 r1 s0 s1 h0 h1 h2)) :
    Calls Try.prog 26 #[.pointer (some ⟨B, 0, none⟩)] w fun e w' => e = .returned (.string (strN (leB 16 (((h0 + h1 * 18446744073709551616 + h2 * 340282366920938463463374607431768211456) % polyP + (s0 + s1 * 18446744073709551616)) % 340282366920938463463374607431768211456)))) ∧ Below w.heap.size w w' := by
  obtain ⟨a, b, la, lb, hab, hleast⟩ := least_any h0 h1 h2 l0 l1 l2
  obtain ⟨c, x, ra, e1, lx, lc⟩ := add64_0 a s0 la hs0
  obtain ⟨t, ht⟩ : ∃ t, t = (s1 + c) % 18446744073709551616 := ⟨_, rfl⟩
  obtain ⟨y, hy⟩ : ∃ y, y = (b + t) % 18446744073709551616 := ⟨_, rfl⟩
  have hm := tag_math a b s0 s1 _ x c t y lx hab e1 ht hy
  rw [← hm, leB_two x y lx]
  have v1 : IntKind.u64.wrap ((s1 : Int) + c) = t := by rw [IntKind.wrap_u64, ht]; rfl
  have v2 : IntKind.u64.wrap ((b : Int) + t) = y := by rw [IntKind.wrap_u64, hy]; rfl
  clear hm hab ht hy e1
  have c0 : w.cell? ⟨B, 4, none⟩ = some (.int .u64 h0) := hr.cell 4
  have c1 : w.cell? ⟨B, 4 + 1, none⟩ = some (.int .u64 h1) := hr.cell 5
  have c2 : w.cell? ⟨B, 4 + 2, none⟩ = some (.int .u64 h2) := hr.cell 6
  have HL := hleast B 4 w c0 c1 c2
  clear hleast c0 c1 c2
  have d0 : w.cell? ⟨B, 2, none⟩ = some (.int .u64 s0) := hr.cell 2
  have d1 : w.cell? ⟨B, 3, none⟩ = some (.int .u64 s1) := hr.cell 3
  clear hr
  go_enter Try.func26, Try.ntmps26
  go_wp2_with fail
  refine HL.mono ?_
  rintro e w1 ⟨rfl, n, rfl⟩
  clear HL
  go_wp2_with fail
  refine (put_any x y _).mono ?_
  rintro e w1 ⟨rfl, hb1⟩
  have hb1' : Below w.heap.size w w1 := (bdrewN (Below.refl _ _) n).trans hb1
  clear hb1
  obtain ⟨ds, hds⟩ : ∃ ds, ds = (byV (leB 8 x ++ leB 8 y)).toArray := ⟨_, rfl⟩
  have hsz : ds.size = 16 := by rw [hds]; simp [byV, leB]
  have hone : ds.all (·.oneCell') = true := by rw [hds]; simp [byV, Value.oneCell']
  have hinfo : (Try.prog.info? 71).map (·.size) = some ds.size := by rw [hsz]; kernel_rfl
  rw [← hds]
  have HDS : Hid (ds = (byV (leB 8 x ++ leB 8 y)).toArray) := hds
  clear hds
  go_wp2_with (refine wpList_store_row rfl 71 _ _ rfl w1.heap.size ds rfl rfl 71 _ (heap_alloc_new w1 _) hinfo (by rw [hsz]; rfl) hone ?_)
  rw [World.setRow_alloc_new]
  have k2 : Row (w1.alloc (.cells ds 71)) w1.heap.size 71 (byV (leB 8 x ++ leB 8 y)) := by rw [HDS.out]; exact heap_alloc_new w1 _
  have hb2 := hb1'.alloc hb1'.size (.cells ds 71)
  generalize w1.alloc (.cells ds 71) = w2 at *
  have hl16 : (leB 8 x ++ leB 8 y).length = 16 := by simp [leB]
  have hcv := run_convert_bytes_arg (P := Try.prog) w2 37 5 Try.underlying37 Try.underlying5 w1.heap.size 0 16 16 ((leB 8 x ++ leB 8 y).map fun (x : Nat) => (x : Int)) (by simp [leB]) (fun i hi => by
    rw [Nat.zero_add, k2.cell, byV_get _ _ (by rw [hl16]; exact hi)]
    simp only [List.getD_eq_getElem?_getD, List.getElem?_map]
    rw [List.getElem?_eq_getElem (by rw [hl16]; exact hi)]
    rfl) 9 Try.underlying9
  have HCV : Hid (strOfNums ((leB 8 x ++ leB 8 y).map fun (x : Nat) => (x : Int)) = strN (leB 8 x ++ leB 8 y)) := rfl
  rw [HCV.out] at hcv
  clear k2 hone hinfo hsz
  go_wp2
  rw [hcv]
  go_wp2
  go_ret
  exact ⟨rfl, hb2⟩
end Go.Proofs.Ytolmfhgpdcmhlaa
