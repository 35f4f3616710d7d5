/- The document's Noughts and Pad, called with any text and any number, tell the text padS and the error padE, and change nothing that was there. -/
import Derived.Test.YtjlilbkddgggoaaPad
namespace Go.Proofs.Ytjlilbkddgggoaa
open Go.RowKit

/-- The document's Noughts. -/
theorem noughts_any (n : Nat) (h : n ≤ 4096) (w : World) :
    Calls Try.prog 19 #[.int .i64 n] w fun e w' => e = .returned (.string (noughtsS n)) ∧ Below w.heap.size w w' := by
  obtain ⟨i0, hi, hz0, hz1, hz2⟩ := info_parts info5
  go_enter Try.func19, Try.ntmps19
  go_wp2_with (at_make; refine wpList_make_full _ rfl _ _ 38 rfl w.heap.size 5 i0 (.int .u8 0) 1 Try.underlying38 hi hz0 hz1 .i64 .i64 _ _ n rfl rfl rfl rfl ?c1 ?c2 (Nat.le_refl _) ?_)
  case c1 => first | omega | (rw [hz2]; omega)
  case c2 => unfold maxLen; omega
  intro w1 hown1 hgrow1
  have hb1 : Below w.heap.size w w1 := (Below.refl _ _).grown hgrow1 (Nat.le_refl _) (fun k hk => by simp at hk)
  have hown2 : w1.ownsRow w.heap.size 5 1 (.slice (some ⟨w.heap.size, 0, none⟩) n n) n (List.replicate n (Value.int .u8 0)) := by
    simpa [toList_madeCells_one, Value.cells] using hown1
  clear hown1 hgrow1
  have hcv := run_convert_bytes_arg (P := Try.prog) w1 38 5 Try.underlying38 Try.underlying5 w.heap.size 0 n n (List.replicate n 0) (by simp) (fun i hi => by
    rw [Nat.zero_add, hown2.cellAt i (by omega)]
    simp [hi, List.getD]) 9 Try.underlying9
  rw [show strOfNums (List.replicate n 0) = noughtsS n from rfl] at hcv
  clear hown2
  go_wp2
  go_ret
  exact ⟨rfl, hb1⟩

theorem rpad_arg (s : ByteArray) (n : Int) (h : n < 0 ∨ 4096 < n) (w : World) :
    Calls Try.prog 14 #[.string s, .int .i64 n] w fun e w' => e = .returned (.tuple #[.string ByteArray.empty, .int .i64 1]) ∧ w' = w := by
  rcases h with h | h
  · go_enter Try.func14, Try.ntmps14
    go_wp2
    go_ret2
    exact ⟨rfl, rfl⟩
  · have h1 : ¬ n < 0 := by omega
    go_enter Try.func14, Try.ntmps14
    go_wp2
    go_ret2
    exact ⟨rfl, rfl⟩

theorem rpad_long (s : ByteArray) (n : Nat) (h1 : n ≤ 4096) (h : n < s.size) (w : World) :
    Calls Try.prog 14 #[.string s, .int .i64 n] w fun e w' => e = .returned (.tuple #[.string ByteArray.empty, .int .i64 4]) ∧ w' = w := by
  have a1 : ¬ (n : Int) < 0 := by omega
  have a2 : ¬ (4096 : Int) < n := by omega
  have a3 : (n : Int) < s.size := by omega
  go_enter Try.func14, Try.ntmps14
  go_wp2
  go_ret2
  exact ⟨rfl, rfl⟩

theorem rpad_ok (s : ByteArray) (n : Nat) (h1 : n ≤ 4096) (h : s.size ≤ n) (w : World) :
    Calls Try.prog 14 #[.string s, .int .i64 n] w fun e w' => e = .returned (.tuple #[.string (s ++ noughtsS (n - s.size)), .int .i64 0]) ∧ Below w.heap.size w w' := by
  have a1 : ¬ (n : Int) < 0 := by omega
  have a2 : ¬ (4096 : Int) < n := by omega
  have a3 : ¬ (n : Int) < s.size := by omega
  go_enter Try.func14, Try.ntmps14
  go_wp2_with fail
  rw [show (n : Int) - s.size = ((n - s.size : Nat) : Int) by omega]
  refine (noughts_any (n - s.size) (by omega) _).mono ?_
  rintro e w1 ⟨rfl, hb1⟩
  have hsz := noughtsS_size (n - s.size)
  have hadd := fun w2 => run_string_add_sum (P := Try.prog) (w := w2) s (noughtsS (n - s.size)) (by rw [hsz]; omega)
  clear hsz
  go_wp2
  go_ret2
  exact ⟨rfl, hb1⟩

/-- The document's Pad, whatever it is handed. -/
theorem rpad_any (s : ByteArray) (n : Int) (w : World) :
    Calls Try.prog 14 #[.string s, .int .i64 n] w fun e w' => e = .returned (.tuple #[.string (padS s n), .int .i64 (padE s n)]) ∧ Below w.heap.size w w' := by
  by_cases hk : n < 0 ∨ 4096 < n
  · refine (rpad_arg s n hk w).mono fun e w' ⟨he, hw⟩ => ?_
    rw [padS_no (.inl hk), padE_arg hk]
    exact ⟨he, hw ▸ Below.refl _ _⟩
  · obtain ⟨m, rfl⟩ := Int.eq_ofNat_of_zero_le (show 0 ≤ n by omega)
    have h1 : m ≤ 4096 := by omega
    by_cases hl : m < s.size
    · refine (rpad_long s m h1 hl w).mono fun e w' ⟨he, hw⟩ => ?_
      rw [padS_no (.inr (by omega)), padE_long h1 hl]
      exact ⟨he, hw ▸ Below.refl _ _⟩
    · rw [padS_ok h1 (by omega), padE_ok h1 (by omega), ← pad_append]
      exact rpad_ok s m h1 (by omega) w
end Go.Proofs.Ytjlilbkddgggoaa
