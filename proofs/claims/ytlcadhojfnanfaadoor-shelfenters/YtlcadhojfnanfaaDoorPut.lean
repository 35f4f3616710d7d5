/- pack.Put, called with any two numbers, tells the bytes putS and the error putE, and changes nothing that was there. -/
import Derived.Test.YtlcadhojfnanfaaDoorRows
import Derived.Test.YtlcadhojfnanfaaDoorMath
import Derived.WalkKit
import Derived.WalkSpells
import Derived.WalkLawsBesides
import Derived.Below
namespace Go.Proofs.YtlcadhojfnanfaaDoor
set_option maxRecDepth 20000
open Go.RowKit
theorem info5 : (Tryd.prog.info? 5).map (fun i => (i.zero, i.size, i.bytes)) = some (some (.int .u8 0), 1, 1) := by kernel_rfl

theorem put_noWidth (n k : Int) (h : k < 1 ∨ 6 < k) (w : World) :
    Calls Tryd.prog 35 #[.int .i64 n, .int .i64 k] w fun e w' => e = .returned (.tuple #[.string ByteArray.empty, .int .i64 1]) ∧ w' = w := by
  rcases h with h | h
  · go_enter Tryd.func35, Tryd.ntmps35
    go_wp2
    go_ret2
    exact ⟨rfl, rfl⟩
  · have h1 : 1 ≤ k := by omega
    have hd : decide (k ≤ 6) = false := by simp; omega
    go_enter Tryd.func35, Tryd.ntmps35
    go_wp2
    go_ret2
    exact ⟨rfl, rfl⟩

theorem put_below (n : Int) (k : Nat) (h1 : 1 ≤ k) (h2 : k ≤ 6) (h : n < 0) (w : World) :
    Calls Tryd.prog 35 #[.int .i64 n, .int .i64 k] w fun e w' => e = .returned (.tuple #[.string ByteArray.empty, .int .i64 2]) ∧ w' = w := by
  have a1 : (1 : Int) ≤ k := by omega
  have a2 : (k : Int) ≤ 6 := by omega
  go_enter Tryd.func35, Tryd.ntmps35
  go_wp2
  go_ret2
  exact ⟨rfl, rfl⟩

theorem put_above (n : Int) (k : Nat) (h1 : 1 ≤ k) (h2 : k ≤ 6) (h0 : 0 ≤ n) (h : 256 ^ k ≤ n) (w : World) :
    Calls Tryd.prog 35 #[.int .i64 n, .int .i64 k] w fun e w' => e = .returned (.tuple #[.string ByteArray.empty, .int .i64 2]) ∧ w' = w := by
  have a1 : (1 : Int) ≤ k := by omega
  have a2 : (k : Int) ≤ 6 := by omega
  have hd : (n / 2 ^ (8 * k) == 0) = false := by
    rw [pow_eq, beq_eq_false_iff_ne]
    intro e
    have hp : (0 : Int) < 256 ^ k := Int.pow_pos (by decide)
    have := (Int.le_ediv_iff_mul_le (c := 256 ^ k) (a := 1) (b := n) hp).2 (by omega)
    omega
  clear h
  go_enter Tryd.func35, Tryd.ntmps35
  go_wp2
  go_ret2
  exact ⟨rfl, rfl⟩

set_option maxHeartbeats 400000 in
theorem put_ok (n : Int) (k : Nat) (h1 : 1 ≤ k) (h2 : k ≤ 6) (h0 : 0 ≤ n) (h : n < 256 ^ k) (w : World) :
    Calls Tryd.prog 35 #[.int .i64 n, .int .i64 k] w fun e w' => e = .returned (.tuple #[.string (strOfNums (leI k n)), .int .i64 0]) ∧ Below w.heap.size w w' := by
  have a1 : (1 : Int) ≤ k := by omega
  have a2 : (k : Int) ≤ 6 := by omega
  have hd : (n / 2 ^ (8 * k) == 0) = true := by
    rw [pow_eq, beq_iff_eq]
    exact Int.ediv_eq_zero_of_lt h0 h
  clear h
  obtain ⟨i0, hi, hz0, hz1, hz2⟩ := info_parts info5
  go_enter Tryd.func35, Tryd.ntmps35
  go_wp2_with (first | (at_make; refine wpList_make_full _ rfl _ _ 46 rfl w.heap.size 5 i0 (.int .u8 0) 1 Tryd.underlying46 hi hz0 hz1 .i64 .i64 _ _ k rfl rfl rfl rfl ?c1 ?c2 (Nat.le_refl _) ?_) | go_in)
  case c1 => rw [hz2]; omega
  case c2 => unfold maxLen; omega
  intro w1 hown1 hgrow1
  have hb1 : Below w.heap.size w w1 := (Below.refl _ _).grown hgrow1 (Nat.le_refl _) (fun k hk => by simp at hk)
  have hown2 : w1.ownsRow w.heap.size 5 1 (.slice (some ⟨w.heap.size, 0, none⟩) k k) k ((putRow k 0 n).map (Value.int .u8)) := by
    rw [putRow_zero]; simpa [toList_madeCells_one, List.map_replicate, Value.cells] using hown1
  clear hown1 hgrow1
  go_wp2
  go_loopw [19] (fun i wr => ∃ j : Nat, j ≤ k ∧ i = .int .i64 j ∧ wr.ownsRow w.heap.size 5 1 (.slice (some ⟨w.heap.size, 0, none⟩) k k) k ((putRow k j n).map (Value.int .u8)) ∧ Below w.heap.size w wr) (fun i _ => k - (intOf i).toNat)
  case atStart => exact ⟨0, Nat.zero_le _, rfl, hown2, hb1⟩
  case round =>
    obtain ⟨j, hj, rfl, hown, hb⟩ := hrel
    clear hown2 hb1
    by_cases hlt : j < k
    · have hf := hown.frozenAt j
      have hc : ∃ v, wr.cell? ⟨w.heap.size, j, none⟩ = some v := by
        rw [hown.cellAt j (by omega)]
        exact ⟨_, List.getElem?_eq_getElem (by simp [putRow_length k j n hj]; omega)⟩
      obtain ⟨v0, hv0⟩ := hc
      go_wp2
      go_roundw
      case rel =>
        have hst := (hown.stored j (.int .u8 (n / 2 ^ (8 * j) % 256))).1
        rw [← List.map_set] at hst
        rw [pow_eq, putRow_set _ _ _ hlt] at hst
        exact ⟨j + 1, by omega, by go_num, by rw [pow_eq]; exact hst, hb.setCell (Nat.le_refl _) _⟩
      case measure => simp [intOf]; omega
    · have hjk : j = k := by omega
      subst hjk
      rw [putRow_full] at hown
      have hcv := run_convert_bytes_arg (P := Tryd.prog) wr 46 5 Tryd.underlying46 Tryd.underlying5 w.heap.size 0 j j (leI j n) (leI_length j n) (fun i hi => by
        rw [Nat.zero_add, hown.cellAt i (by omega)]
        simp [leI_length, hi, List.getD]) 9 Tryd.underlying9
      go_wp2
      go_ret2
      exact ⟨rfl, hb⟩

/-- pack.Put, whatever it is handed. -/
theorem put_any (n k : Int) (w : World) :
    Calls Tryd.prog 35 #[.int .i64 n, .int .i64 k] w fun e w' => e = .returned (.tuple #[.string (putS n k), .int .i64 (putE n k)]) ∧ Below w.heap.size w w' := by
  by_cases hk : k < 1 ∨ 6 < k
  · refine (put_noWidth n k hk w).mono fun e w' ⟨he, hw⟩ => ?_
    rw [putS_noWidth hk, putE_noWidth hk]
    exact ⟨he, hw ▸ Below.refl _ _⟩
  · obtain ⟨m, rfl⟩ := Int.eq_ofNat_of_zero_le (show 0 ≤ k by omega)
    have h1 : 1 ≤ m := by omega
    have h2 : m ≤ 6 := by omega
    by_cases hn : n < 0
    · refine (put_below n m h1 h2 hn w).mono fun e w' ⟨he, hw⟩ => ?_
      rw [putS_noRoom (.inl hn), putE_noRoom h1 h2 (.inl hn)]
      exact ⟨he, hw ▸ Below.refl _ _⟩
    by_cases hn2 : 256 ^ m ≤ n
    · refine (put_above n m h1 h2 (by omega) hn2 w).mono fun e w' ⟨he, hw⟩ => ?_
      rw [putS_noRoom (.inr hn2), putE_noRoom h1 h2 (.inr hn2)]
      exact ⟨he, hw ▸ Below.refl _ _⟩
    · rw [putS_ok h1 h2 (by omega) (by omega), putE_ok h1 h2 (by omega) (by omega)]
      exact put_ok n m h1 h2 (by omega) (by omega) w
end Go.Proofs.YtlcadhojfnanfaaDoor
