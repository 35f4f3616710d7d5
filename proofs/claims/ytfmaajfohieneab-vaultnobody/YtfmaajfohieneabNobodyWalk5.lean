/- The law VaultNobody, called with any step, returns true, and changes nothing that was there: a nil vault, and one that nobody gave. -/
import Derived.Test.YtfmaajfohieneabVtArgs
namespace Go.Proofs.Ytfmaajfohieneab
open Go.RowKit

theorem nilv_seal (z : Int) (a b c : ByteArray) (w : World) : Calls Try.prog 8 #[.pointer none, .int .i64 z, .string a, .string b, .string c] w fun e w' => e = .returned (.tuple #[.string ⟨#[]⟩, .int .i64 1]) ∧ w' = w := by
  go_enter Try.func8, Try.ntmps8
  go_wp2_with fail
  refine (given_nil w).mono ?_
  rintro e w1 ⟨rfl, rfl⟩
  go_wp2
  go_ret2
  exact ⟨rfl, rfl⟩
theorem zerov_open (B : Nat) (z : Int) (a b c : ByteArray) (w : World) (c0 : w.cell? ⟨B, 0, none⟩ = some .nilIface) : Calls Try.prog 9 #[.pointer (some ⟨B, 0, none⟩), .int .i64 z, .string a, .string b, .string c] w fun e w' => e = .returned (.tuple #[.string ⟨#[]⟩, .int .i64 1]) ∧ w' = w := by
  go_enter Try.func9, Try.ntmps9
  go_wp2_with fail
  refine (given_zero B w c0).mono ?_
  rintro e w1 ⟨rfl, rfl⟩
  go_wp2
  go_ret2
  exact ⟨rfl, rfl⟩
theorem nilv_hash (a : ByteArray) (w : World) : Calls Try.prog 10 #[.pointer none, .string a] w fun e w' => e = .returned (.string ⟨#[]⟩) ∧ w' = w := by
  go_enter Try.func10, Try.ntmps10
  go_wp2_with fail
  refine (given_nil w).mono ?_
  rintro e w1 ⟨rfl, rfl⟩
  go_wp2
  go_ret
  exact ⟨rfl, rfl⟩
theorem zerov_mac (B : Nat) (a b : ByteArray) (w : World) (c0 : w.cell? ⟨B, 0, none⟩ = some .nilIface) : Calls Try.prog 11 #[.pointer (some ⟨B, 0, none⟩), .string a, .string b] w fun e w' => e = .returned (.string ⟨#[]⟩) ∧ w' = w := by
  go_enter Try.func11, Try.ntmps11
  go_wp2_with fail
  refine (given_zero B w c0).mono ?_
  rintro e w1 ⟨rfl, rfl⟩
  go_wp2
  go_ret
  exact ⟨rfl, rfl⟩
theorem nilv_made (a b c : ByteArray) (w : World) : Calls Try.prog 12 #[.pointer none, .string a, .string b, .string c] w fun e w' => e = .returned (.bool false) ∧ w' = w := by
  go_enter Try.func12, Try.ntmps12
  go_wp2_with fail
  refine (given_nil w).mono ?_
  rintro e w1 ⟨rfl, rfl⟩
  go_wp2
  go_ret
  exact ⟨rfl, rfl⟩
set_option maxRecDepth 10000 in
set_option maxHeartbeats 2000000 in
theorem walk_vaultNobody (o : OpV) (ho : o.Ok) (w : World) :
    Calls Try.prog 4 #[.agg o.cells.toArray] w fun e w' => e = .returned (.bool true) ∧ Below w.heap.size w w' := by
  obtain ⟨k, z, a, b, c, d⟩ := o
  simp only [OpV.cells]
  clear ho
  obtain ⟨r0, r1, rB⟩ := two_new (w := w) (w1 := (w.alloc (.cells #[.int .i64 k, .int .i64 z, .string a, .string b, .string c, .string d] 33)).alloc (.cells #[.nilIface] 39)) (Below.refl _ _)
  obtain ⟨W, hW⟩ : ∃ W, (w.alloc (.cells #[.int .i64 k, .int .i64 z, .string a, .string b, .string c, .string d] 33)).alloc (.cells #[.nilIface] 39) = W := ⟨_, rfl⟩
  rw [hW] at r0 r1 rB
  have c0 : W.cell? ⟨w.heap.size + 1, 0, none⟩ = some .nilIface := cell_of_row _ _ _ _ _ _ r1
  have d1 : W.cell? ⟨w.heap.size, 1, none⟩ = some (.int .i64 z) := cell_of_row _ _ _ _ _ _ r0
  have d2 : W.cell? ⟨w.heap.size, 2, none⟩ = some (.string a) := cell_of_row _ _ _ _ _ _ r0
  have d3 : W.cell? ⟨w.heap.size, 3, none⟩ = some (.string b) := cell_of_row _ _ _ _ _ _ r0
  have d4 : W.cell? ⟨w.heap.size, 4, none⟩ = some (.string c) := cell_of_row _ _ _ _ _ _ r0
  have d5 : W.cell? ⟨w.heap.size, 5, none⟩ = some (.string d) := cell_of_row _ _ _ _ _ _ r0
  have HB : Hid (Below w.heap.size w W) := rB
  clear r0 r1 rB
  go_enter Try.func4, Try.ntmps4
  go_wp2_with fail
  refine (nilv_seal z a b c _).mono ?_
  rintro e w1 ⟨rfl, rfl⟩
  try rw [hW]
  go_wp2_with fail
  refine (zerov_open (w.heap.size + 1) z a b c _ c0).mono ?_
  rintro e w1 ⟨rfl, rfl⟩
  go_wp2_with fail
  refine (nilv_hash c _).mono ?_
  rintro e w1 ⟨rfl, rfl⟩
  go_wp2_with fail
  refine (zerov_mac (w.heap.size + 1) b c _ c0).mono ?_
  rintro e w1 ⟨rfl, rfl⟩
  go_wp2_with fail
  refine (nilv_made b c d _).mono ?_
  rintro e w1 ⟨rfl, rfl⟩
  go_wp2_with fail
  refine (awake_any _).mono ?_
  rintro e w1 ⟨rfl, hb⟩
  have HF : Hid (Below w.heap.size w w1) := HB.out.trans (hb.mono HB.out.size)
  clear hb HB
  go_wp2
  go_ret
  exact ⟨rfl, HF.out⟩
end Go.Proofs.Ytfmaajfohieneab
