/- grid's Next: the first that is not used, from a place on. -/
import Derived.Test.YtmpbpioigfnneaaGrBody
import Derived.BigFrame
import Derived.Laws.Small
import Derived.WalkMore
namespace Go.Proofs.Ytmpbpioigfnneaa
set_option maxRecDepth 20000
open Go.RowKit

/-- i is the first below n, from f on, that is not used. -/
def FirstU (u : Nat → Bool) (n f i : Nat) : Prop := f ≤ i ∧ i < n ∧ u i = false ∧ ∀ k, f ≤ k → k < i → u k = true
def NoneU (u : Nat → Bool) (n f : Nat) : Prop := ∀ k, f ≤ k → k < n → u k = true
def NextPost (u : Nat → Bool) (n f : Nat) (w : World) (e : Ending) (w' : World) : Prop :=
  ((∃ i : Nat, FirstU u n f i ∧ e = .returned (.tuple #[.int .i64 (i : Int), .bool true])) ∨ (NoneU u n f ∧ e = .returned (.tuple #[.int .i64 0, .bool false]))) ∧ w' = w
set_option maxHeartbeats 2000000 in
theorem next_any (w : World) (B n : Nat) (u : Nat → Bool) (h : GridAt w B n u) (hn : n ≤ 3584) (g : Int) (hg : g < 2 ^ 63) :
    Calls Try.prog 25 #[.pointer (some ⟨B, 0, none⟩), .int .i64 g] w (NextPost u n g.toNat w) := by
  obtain ⟨f, hfd⟩ : ∃ f, f = g.toNat := ⟨_, rfl⟩
  have hf : (f : Int) < 2 ^ 63 := by omega
  rw [← hfd]
  have hs := size_any w B n u h
  have HG : Hid (GridAt w B n u) := h
  clear h
  have hmx : ∀ (ts : Array TypeId) (t : TypeId) (w : World), (Builtin.max_ ts t #[.int .i64 g, .int .i64 0]).run Try.prog w = .ok (.int .i64 (f : Int)) w := fun ts t w => by
    rw [run_max_int2]
    congr 2
    split <;> omega
  clear hfd hg
  go_enter Try.func25, Try.ntmps25
  go_wp2_with fail
  go_step3
  go_wp2_with fail
  go_step3
  go_wp2_with fail
  go_loopw [6, 7, 8] (fun p o v wr => ∃ j : Nat, v = .int .i64 (j : Int) ∧ f / 8 ≤ j ∧ (j = f / 8 ∨ j ≤ 448) ∧ (∀ k, f ≤ k → k < n → k < 8 * j → u k = true) ∧ p = .int .i64 0 ∧ o = .bool false ∧ wr = w) (fun _ _ v _ => 448 - (intOf v).toNat)
  case atStart => exact ⟨f / 8, by go_num, Nat.le_refl _, .inl rfl, fun k h1 h2 h3 => absurd h3 (by omega), rfl, rfl, rfl⟩
  case round =>
    obtain ⟨j, rfl, hj1, hj2, hall, rfl, rfl, rfl⟩ := hrel
    clear hmx
    obtain ⟨q, hq⟩ : ∃ q : Nat, q = j * 8 := ⟨_, rfl⟩
    have m1 : IntKind.i64.wrap ((j : Int) * 8) = (q : Int) := by rw [IntKind.wrap_i64]; omega
    have HQ : Hid (q = j * 8 ∧ f / 8 ≤ j ∧ (j = f / 8 ∨ j ≤ 448)) := ⟨hq, hj1, hj2⟩
    by_cases hlt : q < n
    · have j1 : (q : Int) < (n : Nat) := by omega
      have hj3 : j < 448 := by omega
      have cb := HG.out.byte j hj3
      have hfull := gByte_full u j
      have hbl := gByte_lt u j
      obtain ⟨x, hx⟩ : ∃ x, x = gByte u j := ⟨_, rfl⟩
      rw [← hx] at cb hfull hbl
      have HA : Hid (∀ k, f ≤ k → k < n → k < 8 * j → u k = true) := hall
      clear hx hall hq hj1 hj2
      by_cases h255 : x = 255
      · subst h255
        have HF : Hid (∀ k, f ≤ k → k < n → k < 8 * (j + 1) → u k = true) := fun k h1 h2 h3 => by
          by_cases h4 : k < 8 * j
          · exact HA.out k h1 h2 h4
          · have := hfull rfl (k - 8 * j) (by omega)
            rwa [show 8 * j + (k - 8 * j) = k by omega] at this
        clear hfull
        go_wp2_with fail
        refine hs.mono ?_
        rintro e w1 ⟨rfl, rfl⟩
        go_wp2
        go_roundw
        case rel => have := HQ.out; exact ⟨j + 1, by go_num, by omega, .inr (by omega), HF.out, rfl, rfl, trivial⟩
        case measure => simp [intOf]; omega
      · have hxx : ((x : Int) == 255) = false := by simp; omega
        obtain ⟨a, ha⟩ : ∃ a : Nat, a = max f q := ⟨_, rfl⟩
        obtain ⟨b, hb⟩ : ∃ b : Nat, b = min (q + 8) n := ⟨_, rfl⟩
        have hmx : ∀ (ts : Array TypeId) (t : TypeId) (w : World), (Builtin.max_ ts t #[.int .i64 (f : Int), .int .i64 (q : Int)]).run Try.prog w = .ok (.int .i64 (a : Int)) w := fun ts t w => by
          rw [run_max_int2]
          congr 2
          split <;> omega
        have hmn : ∀ (ts : Array TypeId) (t : TypeId) (w : World), (Builtin.min_ ts t #[.int .i64 (((j : Int) + 1) * 8), .int .i64 (n : Int)]).run Try.prog w = .ok (.int .i64 (b : Int)) w := fun ts t w => by
          rw [run_min_int2]
          congr 2
          have := HQ.out
          split <;> omega
        have HAB : Hid (a = max f q ∧ b = min (q + 8) n) := ⟨ha, hb⟩
        clear hfull ha hb
        go_wp2_with fail
        refine hs.mono ?_
        rintro e w1 ⟨rfl, rfl⟩
        go_wp2_with fail
        have hi0 : f ≤ a ∧ q ≤ a := by have := HAB.out; omega
        clear hmx
        go_loopw [6, 7, 9] (fun p o v wr => ∃ i : Nat, v = .int .i64 (i : Int) ∧ p = .int .i64 0 ∧ o = .bool false ∧ a ≤ i ∧ (i = a ∨ i ≤ b) ∧ (∀ k, f ≤ k → k < n → k < i → u k = true) ∧ wr = w1) (fun _ _ v _ => b - (intOf v).toNat)
        case atStart =>
          refine ⟨a, rfl, rfl, rfl, Nat.le_refl _, .inl rfl, fun k h1 h2 h3 => HA.out k h1 h2 ?_, rfl⟩
          have := HAB.out
          have := HQ.out
          omega
        case round =>
          obtain ⟨i, rfl, rfl, rfl, hi1, hi2, hal, rfl⟩ := hrel
          have HI : Hid (a ≤ i ∧ (i = a ∨ i ≤ b) ∧ ∀ k, f ≤ k → k < n → k < i → u k = true) := ⟨hi1, hi2, hal⟩
          clear hi1 hi2 hal
          by_cases hib : i < b
          · have i1 : (i : Int) < (b : Nat) := by omega
            have hi3 : i < 3584 := by have := HAB.out; omega
            have hbt := bit_any wr B n u HG.out i hi3
            obtain ⟨y, hy⟩ : ∃ y, y = u i := ⟨_, rfl⟩
            have HY : Hid (y = u i) := hy
            rw [← hy] at hbt
            clear hy
            go_wp2_with fail
            refine hs.mono ?_
            rintro e w1 ⟨rfl, rfl⟩
            go_wp2_with fail
            refine hbt.mono ?_
            rintro e w1 ⟨rfl, rfl⟩
            cases y
            · have HF : Hid (FirstU u n f i) := ⟨by have := HI.out; omega, by have := HAB.out; omega, HY.out.symm, fun k h1 h2 => HI.out.2.2 k h1 (by have := HAB.out; omega) h2⟩
              clear hbt
              go_wp2
              try rw [Exit.noGoto_ret]
              go_ret2
              exact ⟨.inl ⟨i, HF.out, rfl⟩, rfl⟩
            · have HF : Hid (∀ k, f ≤ k → k < n → k < i + 1 → u k = true) := fun k h1 h2 h3 => by
                by_cases e : k = i
                · rw [e]; exact HY.out.symm
                · exact HI.out.2.2 k h1 h2 (by omega)
              clear hbt
              go_wp2
              go_roundw
              case rel => have := HI.out; exact ⟨i + 1, by go_num, rfl, rfl, by omega, .inr (by omega), HF.out, trivial⟩
              case measure => simp [intOf]; omega
          · have i1 : ¬ (i : Int) < (b : Nat) := by omega
            have HF : Hid (∀ k, f ≤ k → k < n → k < 8 * (j + 1) → u k = true) := fun k h1 h2 h3 => HI.out.2.2 k h1 h2 (by have := HAB.out; have := HQ.out; omega)
            go_wp2_with fail
            refine hs.mono ?_
            rintro e w1 ⟨rfl, rfl⟩
            go_wp2
            go_roundw
            case rel => have := HQ.out; exact ⟨j + 1, by go_num, by omega, .inr (by omega), HF.out, rfl, rfl, trivial⟩
            case measure => simp [intOf]; omega
    · have j1 : ¬ (q : Int) < (n : Nat) := by omega
      have HA : Hid (NoneU u n f) := fun k h1 h2 => hall k h1 h2 (by omega)
      clear hall hq hj1 hj2
      go_wp2_with fail
      refine hs.mono ?_
      rintro e w1 ⟨rfl, rfl⟩
      go_wp2
      try rw [Exit.noGoto_ret]
      go_ret2
      exact ⟨.inr ⟨HA.out, rfl⟩, rfl⟩
set_option maxHeartbeats 1000000 in
theorem next_nil (w : World) (g : Int) (hg : g < 2 ^ 63) :
    Calls Try.prog 25 #[.pointer none, .int .i64 g] w fun e w' => e = .returned (.tuple #[.int .i64 0, .bool false]) ∧ w' = w := by
  obtain ⟨f, hfd⟩ : ∃ f, f = g.toNat := ⟨_, rfl⟩
  have hs := size_nil w
  have hmx : ∀ (ts : Array TypeId) (t : TypeId) (w : World), (Builtin.max_ ts t #[.int .i64 g, .int .i64 0]).run Try.prog w = .ok (.int .i64 (f : Int)) w := fun ts t w => by
    rw [run_max_int2]
    congr 2
    split <;> omega
  obtain ⟨j, hj⟩ : ∃ j : Nat, j = f / 8 := ⟨_, rfl⟩
  obtain ⟨q, hq⟩ : ∃ q : Nat, q = j * 8 := ⟨_, rfl⟩
  have m0 : (f : Int) / 8 = (j : Int) := by omega
  have m1 : IntKind.i64.wrap ((j : Int) * 8) = (q : Int) := by rw [IntKind.wrap_i64]; omega
  have hjb : j < 1152921504606846976 := by omega
  clear hfd hg hj hq
  go_enter Try.func25, Try.ntmps25
  go_wp2_with fail
  go_step3
  go_wp2_with fail
  go_step3
  go_wp2_with fail
  go_loopw [6, 7, 8] (fun p o v wr => v = .int .i64 (j : Int) ∧ p = .int .i64 0 ∧ o = .bool false ∧ wr = w) (fun _ _ _ _ => 0)
  case atStart => exact ⟨by go_num, rfl, rfl, rfl⟩
  case round =>
    obtain ⟨rfl, rfl, rfl, rfl⟩ := hrel
    have j1 : ¬ (q : Int) < 0 := by omega
    go_wp2_with fail
    refine hs.mono ?_
    rintro e w1 ⟨rfl, rfl⟩
    go_wp2
    try rw [Exit.noGoto_ret]
    go_ret2
    exact ⟨rfl, rfl⟩
end Go.Proofs.Ytmpbpioigfnneaa
