/- The law's bytes (a byte, so many times), and its awake: chapter 4's first example. -/
import Derived.Test.YtmnojmcbghdciaaPlStart
import Derived.Test.YtmnojmcbghdciaaPlNew
import Derived.Test.YtmnojmcbghdciaaPlWrite
namespace Go.Proofs.Ytmnojmcbghdciaa
open Go.RowKit

theorem fillS_num (v n : Nat) : fillS v n = strOfNums ((List.replicate n v).map fun (x : Nat) => (x : Int)) := rfl

set_option maxHeartbeats 1000000 in
theorem bytes_any (v n : Nat) (hn : n ≤ 200) (w : World) :
    Calls Try.prog 14 #[.int .u8 (v : Nat), .int .i64 (n : Nat)] w fun e w' => e = .returned (.string (fillS v n)) ∧ Below w.heap.size w w' := by
  have hm := run_make_row' (P := Try.prog) 50 5 (.int .u8 0) 1 Try.underlying50 info_u8 rfl .i64 .i64 n (by omega) (by omega)
  have hr0 : Row (w.alloc (.cells (madeCells #[.int .u8 0] n) 5)) w.heap.size 5 (rowF n fun k => .int .u8 ((if k < 0 then v else 0 : Nat) : Int)) := by
    have h1 : Row (w.alloc (.cells (madeCells #[.int .u8 0] n) 5)) w.heap.size 5 (List.replicate n (.int .u8 0)) := made_row (heap_alloc_new w _)
    refine h1.congr ?_
    rw [rowF]
    simp only [Nat.not_lt_zero, if_false]
    rw [List.map_const', List.length_range]
    rfl
  have hb0 := (Below.refl w.heap.size w).alloc (Nat.le_refl _) (.cells (madeCells #[.int .u8 0] n) 5)
  obtain ⟨w0, hw0⟩ : ∃ w0, w.alloc (.cells (madeCells #[.int .u8 0] n) 5) = w0 := ⟨_, rfl⟩
  rw [hw0] at hr0 hb0
  go_enter Try.func14, Try.ntmps14
  go_wp2_with fail
  go_loopw [6] (fun i wr => ∃ j : Nat, j ≤ n ∧ i = .int .i64 j ∧ Row wr w.heap.size 5 (rowF n fun k => .int .u8 ((if k < j then v else 0 : Nat) : Int)) ∧ Below w.heap.size w wr) (fun i _ => n - (intOf i).toNat)
  case atStart => exact ⟨0, Nat.zero_le _, rfl, hr0, hb0⟩
  case round =>
    clear hr0 hb0 hm hw0
    obtain ⟨j, hj, rfl, hr, hb⟩ := hrel
    by_cases hlt : j < n
    · have j1 : (j : Int) < n := by omega
      have c := hr.cellF j hlt
      have fz : wr.frozen? ⟨w.heap.size, j, none⟩ = false := hr.frozen j
      have hr2 : Row (wr.setCell ⟨w.heap.size, j, none⟩ (.int .u8 (v : Nat))) w.heap.size 5 (rowF n fun k => .int .u8 ((if k < j + 1 then v else 0 : Nat) : Int)) := (hr.setF j (.int .u8 (v : Nat))).congr (rowF_congr fun k _ => by
        by_cases e : k = j
        · subst e; simp
        · by_cases e2 : k < j
          · rw [if_neg e, if_pos e2, if_pos (by omega)]
          · rw [if_neg e, if_neg e2, if_neg (by omega)])
      have hb2 : Below w.heap.size w (wr.setCell ⟨w.heap.size, j, none⟩ (.int .u8 (v : Nat))) := hb.setCell (p := ⟨w.heap.size, j, none⟩) (Nat.le_refl _) _
      have HF : Hid (_ ∧ _) := ⟨hr2, hb2⟩
      clear hr hb hr2 hb2
      go_wp2
      go_roundw
      case rel => exact ⟨j + 1, by omega, by go_num, HF.out.1, HF.out.2⟩
      case measure => simp [intOf]; omega
    · obtain rfl : j = n := by omega
      have hcv := run_convert_bytes_arg (P := Try.prog) wr 50 5 Try.underlying50 Try.underlying5 w.heap.size 0 j j ((List.replicate j v).map fun (x : Nat) => (x : Int)) (by simp) (fun i hi => by
        rw [Nat.zero_add, hr.cellF i hi, if_pos hi, List.getD_eq_getElem?_getD, List.getElem?_map, List.getElem?_eq_getElem (by simpa using hi)]
        simp) 9 Try.underlying9
      rw [← fillS_num] at hcv
      have HF : Hid (Below w.heap.size w wr) := hb
      clear hr hb
      obtain ⟨X, hX⟩ : ∃ X, X = fillS v j := ⟨_, rfl⟩
      rw [← hX] at hcv
      have HX : Hid (X = fillS v j) := hX
      clear hX
      go_wp2
      first
        | (rw [hcv]; go_wp2)
        | skip
      go_ret
      exact ⟨by rw [← HX.out]; rfl, HF.out⟩

theorem awake_state (s : ByteArray) (hs : s.size = 64) : writeE (newP 2) 0 s = 0 ∧ (writeP (newP 2) 0 s).wait.length = 1 ∧ readS (startP [true] (writeP (newP 2) 0 s)) 0 = s ∧ readE (startP [true] (writeP (newP 2) 0 s)) 0 = 0 ∧ (startP [true] (writeP (newP 2) 0 s)).wait.length = 0 := by
  have e1 : writeP (newP 2) 0 s = ⟨[fillS 0 64, fillS 0 64], [(0, s)], -1, true, 0, 1⟩ := by simp [writeP, hs, newP, hasB, wrap64]
  have e2 : startP [true] (writeP (newP 2) 0 s) = ⟨[s, fillS 0 64], [], -1, true, 0, 1⟩ := by rw [e1]; simp [startP, settleP, keptAt, lastsB]
  refine ⟨by simp [writeE, hs, newP, hasB], by rw [e1]; rfl, ?_, ?_, by rw [e2]; rfl⟩
  · rw [e2]; simp [readS, hasB, textOf, textR, heldS, keptS]
  · rw [e2]; simp [readE, hasB, textOf, textR, heldE, keptS, hs]

set_option maxHeartbeats 1000000 in
theorem awake_any (w : World) : Calls Try.prog 11 #[] w fun e w' => e = .returned (.bool true) ∧ Below w.heap.size w w' := by
  have hbt : ∀ w, Calls Try.prog 14 #[.int .u8 120, .int .i64 64] w fun e w' => e = .returned (.string (fillS 120 64)) ∧ Below w.heap.size w w' := bytes_any 120 64 (by decide)
  have HS : Hid _ := awake_state (fillS 120 64) (fillS_size 120 64)
  obtain ⟨s, hs⟩ : ∃ s, s = fillS 120 64 := ⟨_, rfl⟩
  rw [← hs] at hbt HS
  clear hs
  go_enter Try.func11, Try.ntmps11
  go_wp2_with fail
  refine (new_any 2 (by decide) w).mono ?_
  rintro e w1 ⟨B, rfl, hp1, hb1⟩
  go_wp2_with fail
  refine (hbt _).mono ?_
  rintro e w2 ⟨rfl, hb2⟩
  clear hbt
  have hp2 := hp1.below hb2
  have hl0 : (newP 2).wait.length ≤ 1000000 := by decide
  go_wp2_with fail
  refine (write_any B _ (newP 2) 0 s w2 hp2 hl0).mono ?_
  rintro e w3 ⟨rfl, hp3, ht3⟩
  rw [HS.out.1]
  go_wp2_with fail
  refine (pending_any B _ _ w3 hp3).mono ?_
  rintro e w9 ⟨rfl, rfl⟩
  rw [HS.out.2.1]
  go_wp2_with fail
  have hb4 : Below w9.heap.size w9 (w9.alloc (.cells #[.bool true] 4)) := (Below.refl _ _).alloc (Nat.le_refl _) _
  have hp4 := (hp3.mono (F' := fun k => grow (fun k => w.heap.size ≤ k ∧ k < w1.heap.size) w2 w9 k ∧ k < w9.heap.size) fun k hk h => ⟨h, hk⟩).below hb4
  have hl4 : (writeP (newP 2) 0 s).wait.length ≤ 1000000 := by rw [HS.out.2.1]; decide
  have hk4 : Bools (w9.alloc (.cells #[.bool true] 4)) (fun k => grow (fun k => w.heap.size ≤ k ∧ k < w1.heap.size) w2 w9 k ∧ k < w9.heap.size) (.slice (some ⟨w9.heap.size, 0, none⟩) 1 1) [true] :=
    .inr ⟨w9.heap.size, 0, 1, rfl, by simp, fun h => absurd h.2 (Nat.lt_irrefl _), fun i b hi => by
      match i, hi with
      | 0, hi => cases hi; exact cell_of_row _ _ _ _ _ _ (heap_alloc_new w9 _)⟩
  have hT : Below w.heap.size w (w9.alloc (.cells #[.bool true] 4)) := by
    have h1 := hb1.trans (hb2.mono hb1.size)
    have h2 := ht3.below (B := w.heap.size) h1.size fun k h => h.1
    exact (h1.trans h2).alloc (h1.trans h2).size _
  refine (start_any B _ _ _ [true] _ hp4 hl4 hk4).mono ?_
  rintro e w5 ⟨rfl, hp5, ht5⟩
  have hT5 : Below w.heap.size w w5 := hT.trans (ht5.below (B := w.heap.size) hT.size fun k h => by
    have hq : w.heap.size ≤ w2.heap.size := (hb1.trans (hb2.mono hb1.size)).size
    rcases h.1 with h | h
    · exact h.1
    · omega)
  have hq : ∀ k, grow (fun k => w.heap.size ≤ k ∧ k < w1.heap.size) w2 w9 k ∧ k < w9.heap.size → w.heap.size ≤ k := fun k h => by
    have hq : w.heap.size ≤ w2.heap.size := (hb1.trans (hb2.mono hb1.size)).size
    rcases h.1 with h | h
    · exact h.1
    · omega
  have hl5 : (startP [true] (writeP (newP 2) 0 s)).wait.length ≤ 1000000 := by rw [HS.out.2.2.2.2]; decide
  clear hp1 hp2 hp3 ht3 hp4 hk4 hT ht5 hb1 hb2 hb4 hl0 hl4
  go_wp2_with fail
  refine (read_any B _ _ 0 _ hp5 hl5).mono ?_
  rintro e w6 ⟨rfl, hp6, ht6⟩
  rw [HS.out.2.2.1, HS.out.2.2.2.1]
  have HF : Hid (Below w.heap.size w w6) := hT5.trans (ht6.below (B := w.heap.size) hT5.size hq)
  clear hp5 hp6 ht6 hT5
  go_wp2
  go_ret
  exact ⟨rfl, HF.out⟩
end Go.Proofs.Ytmnojmcbghdciaa
