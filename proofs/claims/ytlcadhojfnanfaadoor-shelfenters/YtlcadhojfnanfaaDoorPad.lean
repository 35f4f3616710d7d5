/- pack.Pad, called with any text and any number, tells the text padS and the error padE, and changes nothing that was there. -/
import Derived.Test.YtlcadhojfnanfaaDoorPut
namespace Go.Proofs.YtlcadhojfnanfaaDoor
set_option maxRecDepth 20000
open Go.RowKit
theorem size5 (w : World) : (Go.sizeOf 5).run Tryd.prog w = .ok 1 w := by
  obtain ⟨i0, hi, hz0, hz1, hz2⟩ := info_parts info5
  simp [Go.sizeOf, typeInfo, hi, hz1]

theorem pad_arg (s : ByteArray) (n : Int) (h : n < 0 ∨ 4096 < n) (w : World) :
    Calls Tryd.prog 36 #[.string s, .int .i64 n] w fun e w' => e = .returned (.tuple #[.string ByteArray.empty, .int .i64 1]) ∧ w' = w := by
  rcases h with h | h
  · go_enter Tryd.func36, Tryd.ntmps36
    go_wp2
    go_ret2
    exact ⟨rfl, rfl⟩
  · have h1 : ¬ n < 0 := by omega
    go_enter Tryd.func36, Tryd.ntmps36
    go_wp2
    go_ret2
    exact ⟨rfl, rfl⟩

theorem pad_long (s : ByteArray) (n : Nat) (h1 : n ≤ 4096) (h : n < s.size) (w : World) :
    Calls Tryd.prog 36 #[.string s, .int .i64 n] w fun e w' => e = .returned (.tuple #[.string ByteArray.empty, .int .i64 4]) ∧ w' = w := by
  have a1 : ¬ (n : Int) < 0 := by omega
  have a2 : ¬ (4096 : Int) < n := by omega
  have a3 : (n : Int) < s.size := by omega
  go_enter Tryd.func36, Tryd.ntmps36
  go_wp2
  go_ret2
  exact ⟨rfl, rfl⟩

set_option maxHeartbeats 400000 in
theorem pad_ok (s : ByteArray) (n : Nat) (h1 : n ≤ 4096) (h : s.size ≤ n) (w : World) :
    Calls Tryd.prog 36 #[.string s, .int .i64 n] w fun e w' => e = .returned (.tuple #[.string (strOfNums (padNums s n)), .int .i64 0]) ∧ Below w.heap.size w w' := by
  have a1 : ¬ (n : Int) < 0 := by omega
  have a2 : ¬ (4096 : Int) < n := by omega
  have a3 : ¬ (n : Int) < s.size := by omega
  obtain ⟨i0, hi, hz0, hz1, hz2⟩ := info_parts info5
  go_enter Tryd.func36, Tryd.ntmps36
  go_wp2_with (at_make; refine wpList_make_full _ rfl _ _ 46 rfl w.heap.size 5 i0 (.int .u8 0) 1 Tryd.underlying46 hi hz0 hz1 .i64 .i64 _ _ n rfl rfl rfl rfl ?c1 ?c2 (Nat.le_refl _) ?_)
  case c1 => first | omega | (rw [hz2]; omega)
  case c2 => unfold maxLen; omega
  intro w1 hown1 hgrow1
  have hb1 : Below w.heap.size w w1 := (Below.refl _ _).grown hgrow1 (Nat.le_refl _) (fun k hk => by simp at hk)
  have hown2 : w1.ownsRow w.heap.size 5 1 (.slice (some ⟨w.heap.size, 0, none⟩) n n) n (List.replicate n (Value.int .u8 0)) := by
    simpa [toList_madeCells_one, Value.cells] using hown1
  clear hown1 hgrow1
  have hcv := run_convert_bytes_arg (P := Tryd.prog) (w1.setCells w.heap.size 0 (s.data.toList.map fun x => Value.int .u8 (x.toNat : Int))) 46 5 Tryd.underlying46 Tryd.underlying5 w.heap.size 0 n n (padNums s n) (padNums_length s n h) (fun i hi => by
    have hl : s.data.toList.length = s.size := by simp
    have ho := ownsRow_setCells (s.data.toList.map fun x => Value.int .u8 (x.toNat : Int)) 0 w1 _ hown2
    rw [setMany_eq _ _ _ (by simp only [List.length_map, hl, List.length_replicate]; omega)] at ho
    rw [Nat.zero_add, ho.cellAt i (by omega)]
    simp only [List.take_zero, List.nil_append, Nat.zero_add, List.length_map, hl, List.drop_replicate]
    have e : (s.data.toList.map fun x => Value.int .u8 (x.toNat : Int)) ++ List.replicate (n - s.size) (Value.int .u8 0) = (padNums s n).map (Value.int .u8) := by simp [padNums]
    rw [e, List.getElem?_map, List.getD_eq_getElem?_getD, List.getElem?_eq_getElem (by rw [padNums_length s n h]; exact hi)]
    rfl) 9 Tryd.underlying9
  have hb2 : Below w.heap.size w (w1.setCells w.heap.size 0 (s.data.toList.map fun x => Value.int .u8 (x.toNat : Int))) := below_setCells (Nat.le_refl _) _ _ _ hb1
  have hcp := run_copy_string (P := Tryd.prog) w1 46 9 3 5 w.heap.size 0 n n s Tryd.underlying46 size5 h (fun j hj => by rw [Nat.zero_add, hown2.cellAt j (by omega)]; simp; omega) (fun j hj => by rw [Nat.zero_add]; exact hown2.frozenAt j)
  generalize w1.setCells w.heap.size 0 (s.data.toList.map fun x => Value.int .u8 (x.toNat : Int)) = w2 at *
  clear hown2 hb1
  go_wp2
  go_ret2
  exact ⟨rfl, hb2⟩

/-- pack.Pad, whatever it is handed. -/
theorem pad_any (s : ByteArray) (n : Int) (w : World) :
    Calls Tryd.prog 36 #[.string s, .int .i64 n] w fun e w' => e = .returned (.tuple #[.string (padS s n), .int .i64 (padE s n)]) ∧ Below w.heap.size w w' := by
  by_cases hk : n < 0 ∨ 4096 < n
  · refine (pad_arg s n hk w).mono fun e w' ⟨he, hw⟩ => ?_
    rw [padS_no (.inl hk), padE_arg hk]
    exact ⟨he, hw ▸ Below.refl _ _⟩
  · obtain ⟨m, rfl⟩ := Int.eq_ofNat_of_zero_le (show 0 ≤ n by omega)
    have h1 : m ≤ 4096 := by omega
    by_cases hl : m < s.size
    · refine (pad_long s m h1 hl w).mono fun e w' ⟨he, hw⟩ => ?_
      rw [padS_no (.inr (by omega)), padE_long h1 hl]
      exact ⟨he, hw ▸ Below.refl _ _⟩
    · rw [padS_ok h1 (by omega), padE_ok h1 (by omega), ← strOf_padNums]
      exact pad_ok s m h1 (by omega) w
end Go.Proofs.YtlcadhojfnanfaaDoor
