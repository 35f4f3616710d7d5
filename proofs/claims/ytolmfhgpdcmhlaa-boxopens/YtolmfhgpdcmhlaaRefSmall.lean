/- The document's even, long and prime. -/
import Derived.Test.YtolmfhgpdcmhlaaPolyFill
import Derived.Test.YtolmfhgpdcmhlaaRefIntV
namespace Go.Proofs.Ytolmfhgpdcmhlaa
open Go.RowKit

set_option maxRecDepth 100000 in
set_option maxHeartbeats 1000000 in
theorem reven_any (s : ByteArray) (hs : s.size ≤ 1048576) (w : World) :
    Calls Try.prog 51 #[.string s] w fun e w' => e = .returned (.string (strN (fill16 (numsOf s)))) ∧ w' = w := by
  have HL : Hid (fill16 (numsOf s) = numsOf s ++ List.replicate ((16 - s.size % 16) % 16) 0) := by show _ = _; rw [fill16, numsOf_length]
  have HS : Hid (s = strN (numsOf s ++ List.replicate 0 0)) := by show _ = _; rw [List.replicate_zero, List.append_nil, strN_nums]
  have HZ : Hid (∀ j, (strN (numsOf s ++ List.replicate j 0)).size = s.size + j ∧ strN (numsOf s ++ List.replicate j 0) ++ ⟨#[0]⟩ = strN (numsOf s ++ List.replicate (j + 1) 0)) := fun j => ⟨by rw [strN_size]; simp [numsOf_length], by rw [List.replicate_succ', ← List.append_assoc]; exact strN_app _ [0]⟩
  obtain ⟨R, hR⟩ : ∃ R, R = strN (fill16 (numsOf s)) := ⟨_, rfl⟩
  rw [← hR]
  have HR : Hid (R = strN (fill16 (numsOf s))) := hR
  clear hR
  go_enter Try.func51, Try.ntmps51
  go_wp2_with fail
  go_loopw [0] (fun v wr => ∃ j : Nat, j ≤ (16 - s.size % 16) % 16 ∧ v = .string (strN (numsOf s ++ List.replicate j 0)) ∧ wr = w) (fun v _ => 1048600 - strSize v)
  case atStart => exact ⟨0, Nat.zero_le _, congrArg Value.string HS.out, rfl⟩
  case round =>
    clear HS
    obtain ⟨j, hj, rfl, rfl⟩ := hrel
    obtain ⟨hz, ha⟩ := HZ.out j
    by_cases hlt : j < (16 - s.size % 16) % 16
    · obtain ⟨hz1, _⟩ := HZ.out (j + 1)
      have HM : Hid ((strN (numsOf s ++ List.replicate (j + 1) 0)).size = s.size + (j + 1)) := hz1
      have HM0 : Hid ((strN (numsOf s ++ List.replicate j 0)).size = s.size + j) := hz
      obtain ⟨B, hB⟩ : ∃ B, B = strN (numsOf s ++ List.replicate (j + 1) 0) := ⟨_, rfl⟩
      rw [← hB] at ha
      have HB : Hid (B = strN (numsOf s ++ List.replicate (j + 1) 0)) := hB
      clear hB hz1 HZ HL
      generalize strN (numsOf s ++ List.replicate j 0) = A at *
      have hadd : ∀ w', (Op.stringOp .add A ⟨#[0]⟩).run Try.prog w' = .ok (.string B) w' := fun w' => by rw [← ha]; exact run_string_add_sum (P := Try.prog) (w := w') A ⟨#[0]⟩ (by rw [hz]; show _ + 1 ≤ _; omega)
      have c1 : ¬ (A.size : Int) % 16 = 0 := by omega
      have c2 : ¬ A.size % 16 = 0 := by omega
      clear hz ha
      go_wp2
      go_roundw
      case rel => exact ⟨j + 1, by omega, by rw [HB.out], trivial⟩
      case measure =>
        have h1 := HM.out
        rw [← HB.out] at h1
        have h2 := HM0.out
        simp [strSize]
        omega
    · obtain rfl : j = (16 - s.size % 16) % 16 := by omega
      rw [← HL.out, ← HR.out] at hz ⊢
      have c1 : (R.size : Int) % 16 = 0 := by omega
      have c2 : R.size % 16 = 0 := by omega
      clear hz ha HZ HL hj hlt HR
      go_wp2
      go_ret
      exact ⟨rfl, rfl⟩

theorem leB_snoc (k n : Nat) : byV (leB (k + 1) n) = byV (leB k n) ++ [.int .u8 ((n / 2 ^ (8 * k) % 256 : Nat) : Int)] := by
  rw [leB, List.range_succ, List.map_append, byV_append]
  rfl
set_option maxRecDepth 100000 in
set_option maxHeartbeats 1000000 in
theorem rlong_any (n : Nat) (hn : n < 9223372036854775808) (w : World) :
    Calls Try.prog 52 #[.int .i64 n] w fun e w' => e = .returned (.string (strN (leB 8 n))) ∧ Below w.heap.size w w' := by
  obtain ⟨i1, hj, hy0, hy1, hy2⟩ := info_parts info_u8
  obtain ⟨X, hX⟩ : ∃ X, X = strN (leB 8 n) := ⟨_, rfl⟩
  rw [← hX]
  have HX : Hid (X = strN (leB 8 n)) := hX
  clear hX
  go_enter Try.func52, Try.ntmps52
  go_wp2_with fail
  go_loopw [0, 3, 4] (fun m v i wz => ∃ j : Nat, j ≤ 8 ∧ i = .int .i64 j ∧ m = .int .i64 (n / 2 ^ (8 * j) : Nat) ∧ wz.ownsRow w.heap.size 5 1 v j (byV (leB j n)) ∧ Below w.heap.size w wz) (fun _ _ i _ => 8 - (intOf i).toNat)
  case atStart => exact ⟨0, Nat.zero_le _, rfl, by simp, World.ownsRow_nil _ _ _ _, Below.refl _ _⟩
  case round =>
    obtain ⟨j, hj8, rfl, rfl, hown, hb⟩ := hrel
    by_cases hlt : j < 8
    · have HN : Hid (n / 2 ^ (8 * (j + 1)) = n / 2 ^ (8 * j) / 256) := by
        show _ = _
        rw [Nat.div_div_eq_div_mul, show 8 * (j + 1) = 8 * j + 8 by omega, Nat.pow_add]
      have HB : Hid (byV (leB (j + 1) n) = byV (leB j n) ++ [.int .u8 ((n / 2 ^ (8 * j) % 256 : Nat) : Int)]) := leB_snoc j n
      have hm : n / 2 ^ (8 * j) ≤ n := Nat.div_le_self _ _
      generalize n / 2 ^ (8 * j) = m at *
      have hw' : wrap64 ((m : Int) / 256) = ((m / 256 : Nat) : Int) := by
        unfold wrap64
        omega
      have HW : Hid (wrap64 ((m : Int) / 256) = ((m / 256 : Nat) : Int)) := hw'
      clear hw'
      obtain ⟨y, hy⟩ : ∃ y, y = m % 256 := ⟨_, rfl⟩
      have f0 : IntKind.u8.wrap ((m : Int) % 256) = (y : Int) := by rw [IntKind.wrap_u8, hy]; omega
      rw [← hy] at HB
      clear hy hm
      have HNE : Hid (∀ g', u3.ownBlock = some g' → w.heap.size ≤ g') := fun g' hg' => (hown.lt g' hg').1
      go_wp2_with (at_builtin; refine wpList_append_lies _ rfl _ _ 37 rfl w.heap.size 5 i1 (.int .u8 0) 1 1 Try.underlying37 hj hy0 hy1 hy2 rfl (by decide) u3 j (byV (leB j n)) rfl (hown.alloc _) ⟨wr.heap.size, 0, none⟩ 1 1 [.int .u8 (y : Nat)] rfl rfl (World.news_of_block (heap_alloc_new _ _)) ?c2 (by decide) ?c3 ?c4 ?c5 _ rfl ?_)
      case c2 => intro u hu; rw [List.mem_singleton] at hu; rw [hu]; rfl
      case c3 => unfold maxLen; omega
      case c4 => omega
      case c5 => have := hb.size; simp; omega
      intro g1 cap1 w1 hown1 hgrow1 hat1 hlt1
      have hb2 := (hb.alloc hb.size _).grown hgrow1 (by have := hb.size; simp; omega) (fun g hg => HNE.out g hg)
      have hown2 := HB.out ▸ hown1
      have HF : Hid (_ ∧ _) := ⟨hown2, hb2⟩
      clear hown1 hown2 hgrow1 hat1 hlt1 hb2 hown hb f0 HNE
      go_wp2
      go_roundw
      case rel => exact ⟨j + 1, by omega, by go_num, by rw [HN.out, HW.out], HF.out.1, HF.out.2⟩
      case measure => simp [intOf]; omega
    · obtain rfl : j = 8 := by omega
      obtain ⟨g, cap, rfl, _, _⟩ := hown.form (by decide)
      have hcv := run_convert_bytes_arg (P := Try.prog) wr 37 5 Try.underlying37 Try.underlying5 g 0 8 cap ((leB 8 n).map fun (x : Nat) => (x : Int)) (by simp [leB_length]) (fun i hi => by
        rw [Nat.zero_add, hown.cellAt i (by omega), byV_get _ _ (by rw [leB_length]; exact hi), getD_at _ _ (by rw [leB_length]; exact hi)]
        simp [List.getD, leB_length, hi]) 9 Try.underlying9
      rw [show strOfNums ((leB 8 n).map fun (x : Nat) => (x : Int)) = strN (leB 8 n) from rfl, ← HX.out] at hcv
      have HF : Hid (Below w.heap.size w wr) := hb
      clear hown hb
      generalize n / 2 ^ (8 * 8) = m at *
      go_wp2
      go_ret
      exact ⟨rfl, HF.out⟩
end Go.Proofs.Ytolmfhgpdcmhlaa
