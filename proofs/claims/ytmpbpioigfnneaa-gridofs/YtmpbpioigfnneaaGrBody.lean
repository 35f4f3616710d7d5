/- grid's Body and Count. -/
import Derived.Test.YtmpbpioigfnneaaGrNew
import Derived.Deep.MidRow
namespace Go.Proofs.Ytmpbpioigfnneaa
set_option maxRecDepth 20000
open Go.RowKit

theorem GridAt.range {w : World} {B n : Nat} {u : Nat → Bool} (h : GridAt w B n u) (i : Nat) (hi : i < 448) : w.cell? ⟨B, 1 + i, none⟩ = some (.int .u8 ((((List.range 448).map (gByte u)).map fun (x : Nat) => (x : Int)).getD i 0)) := by
  rw [h.byte i hi]
  simp [List.getD, hi]
theorem body_nil (w : World) : Calls Try.prog 14 #[.pointer none] w fun e w' => e = .returned (.string ⟨#[]⟩) ∧ w' = w := by
  go_enter Try.func14, Try.ntmps14
  go_wp2
  go_ret
  exact ⟨rfl, rfl⟩
theorem gbody_any (w : World) (B n : Nat) (u : Nat → Bool) (h : GridAt w B n u) :
    Calls Try.prog 14 #[.pointer (some ⟨B, 0, none⟩)] w fun e w' => e = .returned (.string (bodyU u)) ∧ w' = w := by
  have hcv := run_convert_bytes_arg (P := Try.prog) w 60 5 Try.underlying60 Try.underlying5 B 1 448 448 (((List.range 448).map (gByte u)).map fun (x : Nat) => (x : Int)) (by simp) (fun i hi => h.range i (by simpa using hi)) 9 Try.underlying9
  rw [show strOfNums (((List.range 448).map (gByte u)).map fun (x : Nat) => (x : Int)) = bodyU u from rfl] at hcv
  clear h
  generalize bodyU u = s at *
  go_enter Try.func14, Try.ntmps14
  go_wp2
  go_ret
  exact ⟨rfl, rfl⟩
def popTab : ByteArray := ⟨#[0, 1, 1, 2, 1, 2, 2, 3, 1, 2, 2, 3, 2, 3, 3, 4, 1, 2, 2, 3, 2, 3, 3, 4, 2, 3, 3, 4, 3, 4, 4, 5, 1, 2, 2, 3, 2, 3, 3, 4, 2, 3, 3, 4, 3, 4, 4, 5, 2, 3, 3, 4, 3, 4, 4, 5, 3, 4, 4, 5, 4, 5, 5, 6, 1, 2, 2, 3, 2, 3, 3, 4, 2, 3, 3, 4, 3, 4, 4, 5, 2, 3, 3, 4, 3, 4, 4, 5, 3, 4, 4, 5, 4, 5, 5, 6, 2, 3, 3, 4, 3, 4, 4, 5, 3, 4, 4, 5, 4, 5, 5, 6, 3, 4, 4, 5, 4, 5, 5, 6, 4, 5, 5, 6, 5, 6, 6, 7, 1, 2, 2, 3, 2, 3, 3, 4, 2, 3, 3, 4, 3, 4, 4, 5, 2, 3, 3, 4, 3, 4, 4, 5, 3, 4, 4, 5, 4, 5, 5, 6, 2, 3, 3, 4, 3, 4, 4, 5, 3, 4, 4, 5, 4, 5, 5, 6, 3, 4, 4, 5, 4, 5, 5, 6, 4, 5, 5, 6, 5, 6, 6, 7, 2, 3, 3, 4, 3, 4, 4, 5, 3, 4, 4, 5, 4, 5, 5, 6, 3, 4, 4, 5, 4, 5, 5, 6, 4, 5, 5, 6, 5, 6, 6, 7, 3, 4, 4, 5, 4, 5, 5, 6, 4, 5, 5, 6, 5, 6, 6, 7, 4, 5, 5, 6, 5, 6, 6, 7, 5, 6, 6, 7, 6, 7, 7, 8]⟩
theorem popTab_size : popTab.size = 256 := rfl
theorem pop_tab : ∀ x : Fin 256, wrap64 ((popTab[x.val]'(by rw [popTab_size]; exact x.isLt)).toNat : Int) = ((pop8 x.val : Nat) : Int) := by decide +kernel
theorem ones_any (x : Nat) (hx : x < 256) (w : World) : Calls Try.prog 26 #[.int .u8 (x : Int)] w fun e w' => e = .returned (.int .i64 ((pop8 x : Nat) : Int)) ∧ w' = w := by
  go_enter Try.func26, Try.ntmps26
  go_wp2
  go_ret
  exact ⟨congrArg (fun y => Ending.returned (.int .i64 y)) (pop_tab ⟨x, hx⟩), rfl⟩
theorem index_body (cs : Array Value) (j : Nat) (v : Value) (hj : j < 448) (hv : cs[j]? = some v) (w : World) : (Instr.index 56 (.agg cs) (.int .i64 j)).run Try.prog w = .ok v w := by
  simp [Instr.index, run_underlying Try.underlying56, asIntOf, hj, hv, go_sem]
theorem info_body : (Try.prog.info? 56).map (·.size) = some 448 := by kernel_rfl
theorem count_nil (w : World) : Calls Try.prog 13 #[.pointer none] w fun e w' => e = .returned (.int .i64 0) ∧ w' = w := by
  go_enter Try.func13, Try.ntmps13
  go_wp2
  go_ret
  exact ⟨rfl, rfl⟩
set_option maxHeartbeats 1000000 in
theorem gcount_any (w : World) (B n : Nat) (u : Nat → Bool) (h : GridAt w B n u) :
    Calls Try.prog 13 #[.pointer (some ⟨B, 0, none⟩)] w fun e w' => e = .returned (.int .i64 ((cntU u 3584 : Nat) : Int)) ∧ w' = w := by
  have hrg : w.rangeAt B 1 (rowF 448 fun k => .int .u8 ((gByte u k : Nat) : Int)) := fun j v hv => by
    have hj : j < 448 := by have := (List.getElem?_eq_some_iff.1 hv).1; rwa [rowF_length] at this
    rw [rowF_get _ _ _ hj] at hv
    rw [← Option.some.inj hv]
    exact h.byte j hj
  have hin : (Try.prog.info? 56).map (·.size) = some (rowF 448 fun k => Value.int .u8 ((gByte u k : Nat) : Int)).length := by rw [rowF_length]; exact info_body
  have HX : Hid (∀ j : Nat, j < 448 → ∀ w : World, (Instr.index 56 (.agg (rowF 448 fun k => .int .u8 ((gByte u k : Nat) : Int)).toArray) (.int .i64 (j : Int))).run Try.prog w = .ok (.int .u8 ((gByte u j : Nat) : Int)) w) := fun j hj w => index_body _ j _ hj (by rw [List.getElem?_toArray, rowF_get _ _ _ hj]) w
  generalize (rowF 448 fun k => Value.int .u8 ((gByte u k : Nat) : Int)) = cs at *
  clear h
  go_enter Try.func13, Try.ntmps13
  go_wp2_with (refine wpList_load_mid rfl 56 _ rfl B 1 rfl cs _ hrg Try.underlying56 rfl hin ?_)
  clear hrg hin
  go_wp2_with fail
  go_loopw [3, 12] (fun c v wr => ∃ j : Nat, j ≤ 448 ∧ v = .int .i64 (j : Int) ∧ c = .int .i64 ((cntU u (8 * j) : Nat) : Int) ∧ wr = w) (fun _ v _ => 448 - (intOf v).toNat)
  case atStart => exact ⟨0, Nat.zero_le _, rfl, rfl, rfl⟩
  case round =>
    obtain ⟨j, hj, rfl, rfl, rfl⟩ := hrel
    by_cases hlt : j < 448
    · have j1 : (j : Int) < 448 := by omega
      have hx := HX.out j hlt
      have ho := ones_any (gByte u j) (gByte_lt u j) wr
      have hc := cntU_byte u j
      have hl := cntU_le u (8 * (j + 1))
      have HC : Hid (cntU u (8 * (j + 1)) = cntU u (8 * j) + pop8 (gByte u j) ∧ cntU u (8 * (j + 1)) ≤ 8 * (j + 1)) := ⟨hc, hl⟩
      clear hc hl
      generalize pop8 (gByte u j) = p at *
      generalize cntU u (8 * j) = c at *
      generalize gByte u j = x at *
      go_wp2_with fail
      refine ho.mono ?_
      rintro e w1 ⟨rfl, rfl⟩
      clear ho hx
      go_wp2
      go_roundw
      case rel =>
        refine ⟨j + 1, by omega, by go_num, ?_, trivial⟩
        have := HC.out
        rw [HC.out.1]
        congr 1
        unfold wrap64
        omega
      case measure => simp [intOf]; omega
    · obtain rfl : j = 448 := by omega
      go_wp2
      go_ret
      exact ⟨rfl, rfl⟩
end Go.Proofs.Ytmpbpioigfnneaa
