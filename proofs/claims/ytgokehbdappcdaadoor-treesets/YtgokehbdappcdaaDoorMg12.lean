/- tree's fits, leads, below and Check, over any vault whose Hash is told. -/
import Derived.Test.YtgokehbdappcdaaDoorMg09
import Derived.Test.YtgokehbdappcdaaDoorMg11
namespace Go.Proofs.YtgokehbdappcdaaDoor
set_option maxRecDepth 20000
open Go.RowKit

theorem fitsFn (x : ByteArray) (w : World) : Calls Tryd.prog 55 #[.string x] w fun e w' => e = .returned (.bool (decide (¬ x.size = 32))) ∧ w' = w := by
  by_cases h : x.size = 32
  · rw [decide_eq_false fun k => k h]
    have h1 : (x.size : Int) = 32 := by omega
    go_enter Tryd.func55, Tryd.ntmps55
    go_wp2
    go_ret
    exact ⟨rfl, rfl⟩
  · rw [decide_eq_true h]
    have h1 : ((x.size : Int) != 32) = true := bne_iff_ne.2 (by omega)
    go_enter Tryd.func55, Tryd.ntmps55
    go_wp2
    go_ret
    exact ⟨rfl, rfl⟩
def all32 (l : List ByteArray) : Bool := l.all fun x => x.size == 32
theorem all32_iff {l : List ByteArray} : all32 l = true ↔ ∀ x, x ∈ l → x.size = 32 := by simp [all32]
def fitsB (s : Stp) (size i : Nat) : Bool := decide (s.at_ = ((i % 4 : Nat) : Int)) && (decide (s.sides.length = fourN size i - 1) && all32 s.sides)
theorem fitsB_iff {s : Stp} {size i : Nat} : fitsB s size i = true ↔ fitP s size i := by
  unfold fitsB fitP
  rw [Bool.and_eq_true, Bool.and_eq_true, decide_eq_true_eq, decide_eq_true_eq, all32_iff]
/-- The texts behind a slice. -/
def Sd (w : World) (ob : Option Addr) (l : List ByteArray) : Prop := ∀ i x, l[i]? = some x → ∃ b o, ob = some ⟨b, o, none⟩ ∧ b < w.heap.size ∧ w.cell? ⟨b, o + i, none⟩ = some (.string x)
set_option maxHeartbeats 400000 in
theorem indexFunc_any (ob : Option Addr) (cb : Nat) (l : List ByteArray) (hl : l.length ≤ 140737488355328) (w : World) (hs : Sd w ob l) : Calls Tryd.prog 70 #[.slice ob l.length cb, .func (.func 55) #[] #[]] w fun e w' => (∃ r : Int, e = .returned (.int .i64 r) ∧ (0 ≤ r ↔ all32 l = false)) ∧ w' = w := by
  obtain ⟨n, hn⟩ : ∃ n, n = l.length := ⟨_, rfl⟩
  have HN : Hid (n = l.length) := hn
  rw [← hn] at hl ⊢
  clear hn
  go_enter Tryd.func70, Tryd.ntmps70
  go_wp2_with fail
  go_loopw [8] (fun v wr => ∃ j : Nat, j ≤ n ∧ v = .int .i64 (j : Int) ∧ (∀ i x, i < j → l[i]? = some x → x.size = 32) ∧ wr = w) (fun v _ => n - (intOf v).toNat)
  case atStart => exact ⟨0, Nat.zero_le _, rfl, fun i x hi => absurd hi (Nat.not_lt_zero i), rfl⟩
  case round =>
    obtain ⟨j, hj, rfl, hall, rfl⟩ := hrel
    by_cases hlt : j < n
    · have j1 : (j : Int) < n := by omega
      have hjl : j < l.length := by rw [← HN.out]; exact hlt
      obtain ⟨b, of, rfl, hb, hc⟩ := hs j l[j] (List.getElem?_eq_getElem hjl)
      by_cases h32 : l[j].size = 32
      · have hf := fun w => fitsFn l[j] w
        rw [decide_eq_false fun k => k h32] at hf
        have HA : Hid (∀ i x, i < j + 1 → l[i]? = some x → x.size = 32) := fun i x hi hx => by
          by_cases e : i = j
          · subst e
            rw [List.getElem?_eq_getElem hjl] at hx
            rw [← Option.some.inj hx]
            exact h32
          · exact hall i x (by omega) hx
        generalize l[j] = y at *
        clear hall h32
        go_wp2_with fail
        refine (hf _).mono ?_
        rintro e w1 ⟨rfl, rfl⟩
        go_wp2
        go_roundw
        case rel => exact ⟨j + 1, by omega, by go_num, HA.out, trivial⟩
        case measure => simp [intOf]; omega
      · have hf := fun w => fitsFn l[j] w
        rw [decide_eq_true h32] at hf
        have HA : Hid (all32 l = false) := Bool.eq_false_iff.2 fun hh => h32 (all32_iff.1 hh _ (List.getElem_mem hjl))
        generalize l[j] = y at *
        clear hall h32
        go_wp2_with fail
        refine (hf _).mono ?_
        rintro e w1 ⟨rfl, rfl⟩
        go_wp2
        go_ret
        exact ⟨⟨(j : Int), rfl, ⟨fun _ => HA.out, fun _ => by omega⟩⟩, rfl⟩
    · obtain rfl : j = n := by omega
      have j1 : ¬ (j : Int) < j := by omega
      have HA : Hid (all32 l = true) := all32_iff.2 fun x hx => by
        obtain ⟨i, hi, rfl⟩ := List.mem_iff_getElem.1 hx
        exact hall i _ (by rw [HN.out]; exact hi) (List.getElem?_eq_getElem hi)
      clear hall
      go_wp2
      go_ret
      exact ⟨⟨-1, rfl, ⟨fun h => absurd h (by decide), fun h => absurd HA.out (by rw [h]; decide)⟩⟩, rfl⟩
theorem containsFunc_any (ob : Option Addr) (cb : Nat) (l : List ByteArray) (hl : l.length ≤ 140737488355328) (w : World) (hs : Sd w ob l) : Calls Tryd.prog 54 #[.slice ob l.length cb, .func (.func 55) #[] #[]] w fun e w' => e = .returned (.bool (!all32 l)) ∧ w' = w := by
  have hi := indexFunc_any ob cb l hl w hs
  obtain ⟨d, hd⟩ : ∃ d, d = !all32 l := ⟨_, rfl⟩
  have HD : Hid (∀ r : Int, (0 ≤ r ↔ all32 l = false) → decide (0 ≤ r) = d) := fun r hr => by
    rw [hd]
    cases h : all32 l
    · exact decide_eq_true (hr.2 h)
    · exact decide_eq_false fun k => by rw [h] at hr; exact absurd (hr.1 k) (by decide)
  rw [← hd]
  clear hd hs
  generalize l.length = n at *
  go_enter Tryd.func54, Tryd.ntmps54
  go_wp2_with fail
  refine hi.mono ?_
  rintro e w1 ⟨⟨r, rfl, hr⟩, rfl⟩
  have hr2 := HD.out r hr
  clear hi hr HD
  go_wp2
  go_ret
  exact ⟨rfl, rfl⟩
set_option maxHeartbeats 1000000 in
theorem fits_any (s : Stp) (ob : Option Addr) (cb size i : Nat) (hz : size ≤ 1000000) (hi : i < size) (hl : s.sides.length ≤ 140737488355328) (w : World) (hs : Sd w ob s.sides) : Calls Tryd.prog 42 #[.agg #[.int .i64 s.at_, .slice ob s.sides.length cb], .int .i64 (size : Int), .int .i64 (i : Int)] w fun e w' => e = .returned (.bool (fitsB s size i)) ∧ Below w.heap.size w w' := by
  obtain ⟨w0, hw0⟩ : ∃ w0, w.alloc (.cells #[.int .i64 s.at_, .slice ob s.sides.length cb] 41) = w0 := ⟨_, rfl⟩
  have g0 : w0.heap[w.heap.size]? = some (.cells #[.int .i64 s.at_, .slice ob s.sides.length cb] 41 (0, 0)) := by rw [← hw0]; exact heap_alloc_new w _
  have hb0 : Below w.heap.size w w0 := by rw [← hw0]; exact (Below.refl _ _).alloc (Nat.le_refl _) _
  have hs0 : Sd w0 ob s.sides := fun k x hx => by
    obtain ⟨b, of, h1, h2, h3⟩ := hs k x hx
    exact ⟨b, of, h1, Nat.lt_of_lt_of_le h2 hb0.size, (hb0.cell (p := ⟨b, of + k, none⟩) h2).trans h3⟩
  have c0 : w0.cell? ⟨w.heap.size, 0, none⟩ = some (.int .i64 s.at_) := cell_of_row _ _ _ _ _ _ g0
  have c1 : w0.cell? ⟨w.heap.size, 1, none⟩ = some (.slice ob s.sides.length cb) := cell_of_row _ _ _ _ _ _ g0
  have hcf := containsFunc_any ob cb s.sides hl w0 hs0
  have hff := fun w => four_any size i (by omega) w
  have HB : Hid (Below w.heap.size w w0) := hb0
  obtain ⟨f, hf⟩ : ∃ f : Nat, f = 4 * (i / 4) := ⟨_, rfl⟩
  obtain ⟨t, ht⟩ : ∃ t : Nat, t = min (4 * (i / 4) + 4) size := ⟨_, rfl⟩
  rw [← ht, ← hf] at hff
  have m1 : IntKind.i64.wrap ((i : Int) - f) = ((i % 4 : Nat) : Int) := by rw [IntKind.wrap_i64]; omega
  have m2 : IntKind.i64.wrap ((t : Int) - f) = (t : Int) - f := by rw [IntKind.wrap_i64]; omega
  have m3 : IntKind.i64.wrap ((t : Int) - f - 1) = ((fourN size i - 1 : Nat) : Int) := by rw [IntKind.wrap_i64]; unfold fourN; omega
  have HF : Hid (fitsB s size i = (decide (s.at_ = ((i % 4 : Nat) : Int)) && (decide (s.sides.length = fourN size i - 1) && all32 s.sides))) := rfl
  generalize fitsB s size i = P at *
  generalize i % 4 = r at *
  generalize fourN size i - 1 = q at *
  generalize all32 s.sides = A at *
  generalize s.sides.length = n at *
  generalize s.at_ = a at *
  clear hs hs0 g0 hb0 hf ht
  by_cases h1 : a = (r : Int)
  case neg =>
    obtain rfl : P = false := by rw [HF.out, decide_eq_false h1]; rfl
    have h2 : (a != (r : Int)) = true := bne_iff_ne.2 h1
    clear HF
    go_enter Tryd.func42, Tryd.ntmps42
    go_wp2_with fail
    try rw [hw0]
    clear hw0
    refine (hff _).mono ?_
    rintro e w1 ⟨rfl, rfl⟩
    go_wp2
    go_ret
    exact ⟨rfl, HB.out⟩
  by_cases h3 : n = q
  case neg =>
    obtain rfl : P = false := by rw [HF.out, decide_eq_false h3]; cases decide (a = (r : Int)) <;> rfl
    have h2 : (((n : Nat) : Int) != (q : Nat)) = true := bne_iff_ne.2 (by omega)
    clear HF
    subst h1
    go_enter Tryd.func42, Tryd.ntmps42
    go_wp2_with fail
    try rw [hw0]
    clear hw0
    refine (hff _).mono ?_
    rintro e w1 ⟨rfl, rfl⟩
    go_wp2
    go_ret
    exact ⟨rfl, HB.out⟩
  obtain rfl : P = A := by rw [HF.out, decide_eq_true h1, decide_eq_true h3]; rfl
  subst h1 h3
  clear HF
  go_enter Tryd.func42, Tryd.ntmps42
  go_wp2_with fail
  try rw [hw0]
  clear hw0
  refine (hff _).mono ?_
  rintro e w1 ⟨rfl, rfl⟩
  go_wp2_with fail
  refine hcf.mono ?_
  rintro e w2 ⟨rfl, rfl⟩
  go_wp2
  go_ret
  exact ⟨by simp, HB.out⟩
end Go.Proofs.YtgokehbdappcdaaDoor
