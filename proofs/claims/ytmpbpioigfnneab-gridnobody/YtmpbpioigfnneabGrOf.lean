/- grid's Of, and the document's. -/
import Derived.Test.YtmpbpioigfnneabGrLaw
namespace Go.Proofs.Ytmpbpioigfnneab
set_option maxRecDepth 20000
open Go.RowKit

theorem bitsOf_far (s : ByteArray) (h : s.size = 448) (i : Nat) (hi : 3584 ≤ i) : bitsOf s i = false := by
  unfold bitsOf
  rw [getD_beyond _ _ (by rw [numsOf_length]; omega), Nat.zero_div]
  rfl
theorem gof_arg (s : ByteArray) (n : Int) (hn : n < 0 ∨ 3584 < n) (w : World) :
    Calls Try.prog 8 #[.string s, .int .i64 n] w fun e w' => e = .returned (.tuple #[.pointer none, .int .i64 1]) ∧ Below w.heap.size w w' := by
  go_enter Try.func8, Try.ntmps8
  go_wp2_with fail
  refine (gnew_bad n hn w).mono ?_
  rintro e w1 ⟨rfl, rfl⟩
  go_wp2
  go_ret2
  exact ⟨rfl, Below.refl _ _⟩
theorem gof_len (s : ByteArray) (n : Nat) (hn : n ≤ 3584) (hs : s.size ≠ 448) (w : World) :
    Calls Try.prog 8 #[.string s, .int .i64 (n : Int)] w fun e w' => e = .returned (.tuple #[.pointer none, .int .i64 1]) ∧ Below w.heap.size w w' := by
  have h1 : ((s.size : Int) == 448) = false := by simp; omega
  go_enter Try.func8, Try.ntmps8
  go_wp2_with fail
  refine (gnew_any n hn w).mono ?_
  rintro e w1 ⟨rfl, _, hb, _⟩
  go_wp2
  go_ret2
  exact ⟨rfl, hb⟩
/-- The bits from n on are all 0. -/
def ClearFrom (u : Nat → Bool) (n : Nat) : Prop := ∀ i, n ≤ i → u i = false
set_option maxHeartbeats 2000000 in
theorem gof_any (s : ByteArray) (n : Nat) (hn : n ≤ 3584) (hs : s.size = 448) (w : World) :
    Calls Try.prog 8 #[.string s, .int .i64 (n : Int)] w fun e w' => ((ClearFrom (bitsOf s) n ∧ e = .returned (.tuple #[.pointer (some ⟨w.heap.size, 0, none⟩), .int .i64 0]) ∧ GridAt w' w.heap.size n (bitsOf s)) ∨ (¬ ClearFrom (bitsOf s) n ∧ e = .returned (.tuple #[.pointer none, .int .i64 5]))) ∧ Below w.heap.size w w' := by
  have HS : Hid (s.size = 448) := hs
  have h1 : (s.size : Int) = 448 := by omega
  clear hs
  go_enter Try.func8, Try.ntmps8
  go_wp2_with fail
  refine (gnew_any n hn w).mono ?_
  rintro e w1 ⟨rfl, hg, hb, hz⟩
  have hcp : ∀ ty : TypeId, (Builtin.copy_ #[46, 9] ty #[.slice (some ⟨w.heap.size, 1, none⟩) 448 448, .string s]).run Try.prog w1 = .ok (goInt 448) (w1.setCells w.heap.size 1 ((s.data.toList.take 448).map fun x => Value.int .u8 (x.toNat : Int))) := fun ty =>
    run_copy_part (P := Try.prog) w1 46 9 ty 5 w.heap.size 1 448 448 s Try.underlying46 size_u8 (by rw [HS.out]; exact Nat.le_refl _) (fun j hj => by rw [hg.byte j hj]; rfl) (fun j _ => hg.frozen _)
  have hg2 : GridAt (w1.setCells w.heap.size 1 ((s.data.toList.take 448).map fun x => Value.int .u8 (x.toNat : Int))) w.heap.size n (bitsOf s) := by
    have hl : ((s.data.toList.take 448).map fun x => Value.int .u8 (x.toNat : Int)).length = (rowF 448 fun k => Value.int .u8 ((gByte noneU k : Nat) : Int)).length := by
      rw [rowF_length, List.length_map, List.length_take, Array.length_toList]
      have := HS.out
      show min 448 s.size = 448
      omega
    have h2 := Row.setCells (g := w.heap.size) (t := 49) (C := []) _ _ [.int .i64 (n : Int)] w1 1 hl rfl (by
      rw [List.append_nil]
      exact hg)
    refine Row.congr h2 ?_
    rw [List.append_nil, List.cons_append, List.nil_append]
    congr 1
    apply List.ext_getElem?
    intro k
    by_cases hk : k < 448
    · rw [rowF_get _ _ _ hk, gByte_bitsOf, numsOf]
      have hk2 : k < s.data.toList.length := by rw [Array.length_toList]; have := HS.out; show k < s.size; omega
      rw [List.getElem?_map, List.getElem?_take, if_pos hk, List.getElem?_eq_getElem hk2]
      simp [List.getD]
      simp at hk2
      simp [hk2]
    · rw [List.getElem?_eq_none (by rw [hl, rowF_length]; omega), List.getElem?_eq_none (by rw [rowF_length]; omega)]
  have hb2 : Below w.heap.size w (w1.setCells w.heap.size 1 ((s.data.toList.take 448).map fun x => Value.int .u8 (x.toNat : Int))) := hb.trans ((Only.setCells (b := w.heap.size) (w := w1) _ 1 _ (Only.refl _ _)).below hb.size)
  generalize w1.setCells w.heap.size 1 ((s.data.toList.take 448).map fun x => Value.int .u8 (x.toNat : Int)) = w2 at *
  have HG : Hid (GridAt w2 w.heap.size n (bitsOf s) ∧ Below w.heap.size w w2) := ⟨hg2, hb2⟩
  clear hg hg2 hb hb2 hz
  go_wp2_with fail
  clear hcp
  go_loopw [8] (fun v wr => ∃ i : Nat, n ≤ i ∧ i ≤ 3584 ∧ v = .int .i64 (i : Int) ∧ (∀ k, n ≤ k → k < i → bitsOf s k = false) ∧ wr = w2) (fun v _ => 3584 - (intOf v).toNat)
  case atStart => exact ⟨n, Nat.le_refl _, hn, rfl, fun k h1 h2 => absurd h1 (by omega), rfl⟩
  case round =>
    obtain ⟨i, hi1, hi2, rfl, hal, rfl⟩ := hrel
    have HA : Hid (∀ k, n ≤ k → k < i → bitsOf s k = false) := hal
    clear hal
    by_cases hlt : i < 3584
    · have i1 : (i : Int) < 3584 := by omega
      have hbt := bit_any wr w.heap.size n (bitsOf s) HG.out.1 i hlt
      obtain ⟨y, hy⟩ : ∃ y, y = bitsOf s i := ⟨_, rfl⟩
      have HY : Hid (y = bitsOf s i) := hy
      rw [← hy] at hbt
      clear hy
      go_wp2_with fail
      refine hbt.mono ?_
      rintro e w3 ⟨rfl, rfl⟩
      clear hbt
      cases y
      · have HF : Hid (∀ k, n ≤ k → k < i + 1 → bitsOf s k = false) := fun k h1 h2 => by
          by_cases e : k = i
          · rw [e]; exact HY.out.symm
          · exact HA.out k h1 (by omega)
        go_wp2
        go_roundw
        case rel => exact ⟨i + 1, by omega, by omega, by go_num, HF.out, trivial⟩
        case measure => simp [intOf]; omega
      · have HF : Hid (¬ ClearFrom (bitsOf s) n) := fun h => by
          have h2 := h i hi1
          rw [← HY.out] at h2
          cases h2
        go_wp2
        go_ret2
        exact ⟨.inr ⟨HF.out, rfl⟩, HG.out.2⟩
    · obtain rfl : i = 3584 := by omega
      have HF : Hid (ClearFrom (bitsOf s) n) := fun k hk => by
        by_cases h : k < 3584
        · exact HA.out k hk h
        · exact bitsOf_far s HS.out k (by omega)
      go_wp2
      go_ret2
      exact ⟨.inl ⟨HF.out, rfl, HG.out.1⟩, HG.out.2⟩
theorem bit_index (s : ByteArray) (i : Nat) (hk : i / 8 < s.size) : ((wrap64 ((s[i / 8]'hk).toNat : Int) / 2 ^ (i % 8)).tmod 2 == 1) = bitsOf s i := by
  have e : (s[i / 8]'hk).toNat = (numsOf s).getD (i / 8) 0 := by
    rw [getD_at _ _ (by rw [numsOf_length]; exact hk)]
    simp [numsOf]
    rfl
  have h := getD_lt (b := numsOf s) (m := 256) (by decide) (numsOf_bytes s) (i / 8)
  unfold bitsOf
  rw [e]
  generalize (numsOf s).getD (i / 8) 0 = x at *
  rw [show wrap64 ((x : Nat) : Int) = (x : Int) by unfold wrap64; omega, int_div_pow]
  generalize x / 2 ^ (i % 8) = y
  rw [Int.tmod_eq_emod_of_nonneg (by omega)]
  by_cases h1 : y % 2 = 1
  · rw [h1, show (y : Int) % 2 = 1 by omega]; rfl
  · rw [show y % 2 = 0 by omega, show (y : Int) % 2 = 0 by omega]; rfl
end Go.Proofs.Ytmpbpioigfnneab
