/- grid's Put: one is said to be used, or not. -/
import Derived.Test.YtmpbpioigfnneaaGrBase
namespace Go.Proofs.Ytmpbpioigfnneaa
set_option maxRecDepth 20000
open Go.RowKit

theorem GridAt.set {w : World} {B n : Nat} {u : Nat → Bool} (h : GridAt w B n u) (i : Nat) (b : Bool) (x : Nat) (hx : x = gByte (putU u i b) (i / 8)) : GridAt (w.setCell ⟨B, 1 + i / 8, none⟩ (.int .u8 (x : Int))) B n (putU u i b) := by
  have h1 := heap_setCell_same w B (1 + i / 8) _ 58 (.int .u8 (x : Int)) h
  rw [List.setIfInBounds_toArray, Nat.add_comm, List.set_cons_succ, rowF_set] at h1
  unfold GridAt
  refine Row.congr (by rw [Nat.add_comm]; exact h1) ?_
  congr 1
  refine rowF_congr fun k _ => ?_
  by_cases e : k = i / 8
  · rw [if_pos e, e, hx]
  · rw [if_neg e, gByte_far _ _ _ _ e]
theorem u8_or : ∀ x : Fin 256, ∀ j : Fin 8, bits .or .u8 ((x.val : Nat) : Int) (2 ^ j.val % 256) = ((x.val ||| 2 ^ j.val : Nat) : Int) := by decide +kernel
theorem u8_andNot : ∀ x : Fin 256, ∀ j : Fin 8, bits .andNot .u8 ((x.val : Nat) : Int) (2 ^ j.val % 256) = ((x.val &&& (255 - 2 ^ j.val) : Nat) : Int) := by decide +kernel
theorem put_no (w : World) (B n : Nat) (u : Nat → Bool) (h : GridAt w B n u) (i : Int) (b : Bool) (hi : tellsP n i = false) :
    Calls Try.prog 23 #[.pointer (some ⟨B, 0, none⟩), .int .i64 i, .bool b] w fun e w' => e = .returned (.int .i64 2) ∧ w' = w := by
  have ht := tells_any w B n u h i
  rw [hi] at ht
  clear h hi
  go_enter Try.func23, Try.ntmps23
  go_wp2_with fail
  refine ht.mono ?_
  rintro e w1 ⟨rfl, rfl⟩
  go_wp2
  go_ret
  exact ⟨rfl, rfl⟩
theorem put_nil (w : World) (i : Int) (b : Bool) :
    Calls Try.prog 23 #[.pointer none, .int .i64 i, .bool b] w fun e w' => e = .returned (.int .i64 2) ∧ w' = w := by
  have ht := tells_nil w i
  go_enter Try.func23, Try.ntmps23
  go_wp2_with fail
  refine ht.mono ?_
  rintro e w1 ⟨rfl, rfl⟩
  go_wp2
  go_ret
  exact ⟨rfl, rfl⟩
set_option maxHeartbeats 1000000 in
theorem put_any (w : World) (B n : Nat) (u : Nat → Bool) (h : GridAt w B n u) (i : Nat) (b : Bool) (hn : n ≤ 3584) (hi : i < n) :
    Calls Try.prog 23 #[.pointer (some ⟨B, 0, none⟩), .int .i64 (i : Int), .bool b] w fun e w' => e = .returned (.int .i64 0) ∧ GridAt w' B n (putU u i b) ∧ Only B w w' := by
  have ht := tells_any w B n u h i
  rw [show tellsP n (i : Int) = true by simp [tellsP]; omega] at ht
  have cb := h.byte (i / 8) (by omega)
  have cf := h.frozen (1 + i / 8)
  have hl := gByte_lt u (i / 8)
  obtain ⟨x, hx⟩ : ∃ x, x = gByte u (i / 8) := ⟨_, rfl⟩
  rw [← hx] at cb hl
  cases b
  · have ho := gByte_not u (i / 8) (i % 8) (by omega)
    rw [← hx, show 8 * (i / 8) + i % 8 = i by omega] at ho
    have hbt := u8_andNot ⟨x, hl⟩ ⟨i % 8, by omega⟩
    have HF : Hid (∀ w1 : World, GridAt w1 B n u → GridAt (w1.setCell ⟨B, 1 + i / 8, none⟩ (.int .u8 (bits .andNot .u8 (x : Int) (2 ^ (i % 8) % 256)))).drew B n (putU u i false)) := fun w1 h1 => by
      have h2 := h1.set i false _ ho
      rw [← hbt] at h2
      exact h2
    have HS : Hid (GridAt w B n u) := h
    clear h ho hx hbt hl
    go_enter Try.func23, Try.ntmps23
    go_wp2_with fail
    refine ht.mono ?_
    rintro e w1 ⟨rfl, rfl⟩
    clear ht
    go_wp2_with fail
    go_region
    have HG : Hid _ := HF.out _ HS.out
    generalize bits .andNot .u8 (x : Int) (2 ^ (i % 8) % 256) = y at *
    clear HF HS
    go_wp2
    go_ret
    exact ⟨rfl, HG.out, ((Only.refl B w1).setCell _ _).drew⟩
  · have ho := gByte_or u (i / 8) (i % 8) (by omega)
    rw [← hx, show 8 * (i / 8) + i % 8 = i by omega] at ho
    have hbt := u8_or ⟨x, hl⟩ ⟨i % 8, by omega⟩
    have HF : Hid (∀ w1 : World, GridAt w1 B n u → GridAt (w1.setCell ⟨B, 1 + i / 8, none⟩ (.int .u8 (bits .or .u8 (x : Int) (2 ^ (i % 8) % 256)))).drew B n (putU u i true)) := fun w1 h1 => by
      have h2 := h1.set i true _ ho
      rw [← hbt] at h2
      exact h2
    have HS : Hid (GridAt w B n u) := h
    clear h ho hx hbt hl
    go_enter Try.func23, Try.ntmps23
    go_wp2_with fail
    refine ht.mono ?_
    rintro e w1 ⟨rfl, rfl⟩
    clear ht
    go_wp2_with fail
    go_region
    have HG : Hid _ := HF.out _ HS.out
    generalize bits .or .u8 (x : Int) (2 ^ (i % 8) % 256) = y at *
    clear HF HS
    go_wp2
    go_ret
    exact ⟨rfl, HG.out, ((Only.refl B w1).setCell _ _).drew⟩
/-- What Put leaves. -/
def putN (n : Nat) (u : Nat → Bool) (i : Int) (b : Bool) : Nat → Bool := if tellsP n i then putU u i.toNat b else u
def putE (n : Nat) (i : Int) : Int := if tellsP n i then 0 else 2
theorem put_all (w : World) (B n : Nat) (u : Nat → Bool) (h : GridAt w B n u) (i : Int) (b : Bool) (hn : n ≤ 3584) :
    Calls Try.prog 23 #[.pointer (some ⟨B, 0, none⟩), .int .i64 i, .bool b] w fun e w' => e = .returned (.int .i64 (putE n i)) ∧ GridAt w' B n (putN n u i b) ∧ Only B w w' := by
  by_cases hi : 0 ≤ i ∧ i < (n : Int)
  · obtain ⟨k, rfl⟩ : ∃ k : Nat, i = k := ⟨i.toNat, by omega⟩
    have ht : tellsP n (k : Int) = true := decide_eq_true hi
    unfold putE putN
    rw [if_pos ht, if_pos ht]
    exact put_any w B n u h k b hn (by omega)
  · have ht : tellsP n i = false := decide_eq_false hi
    unfold putE putN
    rw [ht]
    refine (put_no w B n u h i b ht).mono ?_
    rintro e w' ⟨rfl, rfl⟩
    exact ⟨rfl, h, Only.refl _ _⟩
end Go.Proofs.Ytmpbpioigfnneaa
