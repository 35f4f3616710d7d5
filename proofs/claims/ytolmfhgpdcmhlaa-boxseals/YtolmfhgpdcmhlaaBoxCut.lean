/- The laws' cut and whole. -/
import Derived.Test.YtolmfhgpdcmhlaaBoxFit
namespace Go.Proofs.Ytolmfhgpdcmhlaa
open Go.RowKit

def cutS (s : ByteArray) (n : Nat) : ByteArray := if n < s.size then s.extract 0 n else s
theorem cutS_size (s : ByteArray) (n : Nat) : (cutS s n).size ≤ n := by
  unfold cutS
  split
  · simp; omega
  · omega
theorem cut_z (s : ByteArray) (n : Nat) (z : Int) (hz : z = (n : Int)) (w : World) :
    Calls Try.prog 9 #[.string s, .int .i64 z] w fun e w' => e = .returned (.string (cutS s n)) ∧ w' = w := by
  subst hz
  by_cases h : n < s.size
  · have HC : Hid (cutS s n = s.extract 0 n) := if_pos h
    have h1 : (n : Int) < s.size := by omega
    have h2 : (n : Int) ≤ s.size := by omega
    go_enter Try.func9, Try.ntmps9
    go_wp2
    go_ret
    exact ⟨by rw [HC.out]; rfl, rfl⟩
  · have HC : Hid (cutS s n = s) := if_neg h
    have h1 : ¬ (n : Int) < s.size := by omega
    go_enter Try.func9, Try.ntmps9
    go_wp2
    go_ret
    exact ⟨by rw [HC.out]; rfl, rfl⟩
def zerosS (n : Nat) : ByteArray := strOfNums (List.replicate n 0)
theorem zerosS_size (n : Nat) : (zerosS n).size = n := by simp [zerosS, strOfNums_size]

set_option maxHeartbeats 1000000 in
theorem whole_z (s : ByteArray) (n : Nat) (hn : n ≤ 4096) (z : Int) (hz : z = (n : Int)) (w : World) :
    Calls Try.prog 19 #[.string s, .int .i64 z] w fun e w' => ∃ t : ByteArray, e = .returned (.string t) ∧ t.size = n ∧ Below w.heap.size w w' := by
  subst hz
  obtain ⟨i0, hi, hz0, hz1, hz2⟩ := info_parts info_u8
  go_enter Try.func19, Try.ntmps19
  go_wp2_with fail
  refine (cut_z s n _ rfl _).mono ?_
  rintro e w1 ⟨rfl, rfl⟩
  have hk := cutS_size s n
  generalize cutS s n = k at *
  obtain ⟨m, hm⟩ : ∃ m, m = n - k.size := ⟨_, rfl⟩
  have v1 : IntKind.i64.wrap ((n : Int) - k.size) = m := by rw [IntKind.wrap_i64]; omega
  have v2 : (n : Int) - k.size = m := by omega
  have HM : Hid (m = n - k.size) := hm
  have hm4 : m ≤ 4096 := by omega
  clear hm
  go_wp2_with (at_make; refine wpList_make_full _ rfl _ _ 37 rfl w1.heap.size 5 i0 (.int .u8 0) 1 Try.underlying37 hi hz0 hz1 .i64 .i64 _ _ m rfl rfl rfl rfl ?c1 ?c2 (Nat.le_refl _) ?_)
  case c1 => first | omega | (rw [hz2]; omega)
  case c2 => unfold maxLen; omega
  intro w2 hown1 hgrow1
  have hb2 : Below w1.heap.size w1 w2 := (Below.refl _ _).grown hgrow1 (Nat.le_refl _) (fun k hk => by simp at hk)
  have hown2 : w2.ownsRow w1.heap.size 5 1 (.slice (some ⟨w1.heap.size, 0, none⟩) m m) m (List.replicate m (Value.int .u8 0)) := by
    simpa [toList_madeCells_one, Value.cells] using hown1
  have hcv := run_convert_bytes_arg (P := Try.prog) w2 37 5 Try.underlying37 Try.underlying5 w1.heap.size 0 m m (List.replicate m 0) (by simp) (fun i hi => by
    rw [Nat.zero_add, hown2.cellAt i (by omega)]
    simp [List.getD, hi]) 9 Try.underlying9
  rw [show strOfNums (List.replicate m 0) = zerosS m from rfl] at hcv
  have hzs := zerosS_size m
  generalize zerosS m = Z at *
  clear hown1 hown2 hgrow1
  obtain ⟨kz, hkz⟩ : ∃ kz, kz = k ++ Z := ⟨_, rfl⟩
  have hadd : ∀ w', (Op.stringOp .add k Z).run Try.prog w' = .ok (.string kz) w' := fun w' => by rw [hkz]; exact run_string_add_sum (P := Try.prog) (w := w') k Z (by omega)
  have hkzs : kz.size = n := by have := HM.out; rw [hkz, ByteArray.size_append]; omega
  clear hkz
  go_wp2
  go_ret
  exact ⟨_, rfl, hkzs, hb2⟩
end Go.Proofs.Ytolmfhgpdcmhlaa
