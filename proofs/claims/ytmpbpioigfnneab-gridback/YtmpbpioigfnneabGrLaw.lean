/- The laws' awake, same and filled. -/
import Derived.Test.YtmpbpioigfnneabGrRef2
import Derived.Test.YtmpbpioigfnneabGrArgs
import Derived.WalkSmall
namespace Go.Proofs.Ytmpbpioigfnneab
set_option maxRecDepth 20000
open Go.RowKit

theorem two_first_is {i : Nat} (h : FirstU (putU (putU noneU 0 true) 1 true) 10 0 i) : i = 2 := by
  obtain ⟨_, h2, h3, h4⟩ := h
  rcases Nat.lt_trichotomy i 2 with h5 | h5 | h5
  · have : i = 0 ∨ i = 1 := by omega
    rcases this with rfl | rfl
    · cases h3
    · cases h3
  · exact h5
  · have := h4 2 (by omega) h5
    cases this
theorem two_not (h : NoneU (putU (putU noneU 0 true) 1 true) 10 0) : False := by
  have := h 2 (by decide) (by decide)
  cases this
def body3 : ByteArray := bodyU (putU (putU noneU 0 true) 1 true)
theorem body3_size : body3.size = 448 := bodyU_size _
theorem body3_at : ∀ h, body3[0]'h = 3 := fun h => by
  have h1 : (numsOf body3)[0]? = some 3 := by
    unfold body3
    rw [numsOf_bodyU]
    rfl
  unfold numsOf at h1
  rw [List.getElem?_map, Option.map_eq_some_iff] at h1
  obtain ⟨x, hx, e⟩ := h1
  have : body3[0]'h = x := by
    have h2 := (List.getElem?_eq_some_iff.1 hx).2
    rw [← h2]
    rfl
  rw [this]
  exact UInt8.toNat_inj.1 e
set_option maxHeartbeats 2000000 in
theorem gawake_any (w : World) : Calls Try.prog 7 #[] w fun e w' => e = .returned (.bool true) ∧ Below w.heap.size w w' := by
  have hnw := gnew_any 10 (by decide) w
  go_enter Try.func7, Try.ntmps7
  go_wp2_with fail
  refine hnw.mono ?_
  rintro e w1 ⟨rfl, hg1, hb1, hz1⟩
  have hp := put_any w1 _ 10 _ hg1 0 true (by decide) (by decide)
  clear hnw hg1
  go_wp2_with fail
  refine hp.mono ?_
  rintro e w2 ⟨rfl, hg2, ho2⟩
  have hp := put_any w2 _ 10 _ hg2 1 true (by decide) (by decide)
  have hb2 := hb1.trans (ho2.below (by omega))
  clear hg2 hb1 ho2
  go_wp2_with fail
  refine hp.mono ?_
  rintro e w3 ⟨rfl, hg3, ho3⟩
  have hb3 := hb2.trans (ho3.below hb2.size)
  have hnx := next_any w3 _ 10 _ hg3 (by decide) 0 (by decide)
  have hbo := gbody_any w3 _ 10 _ hg3
  rw [show bodyU (putU (putU noneU 0 true) 1 true) = body3 from rfl] at hbo
  clear hp hb2 ho3 hg3
  go_wp2_with fail
  refine hnx.mono ?_
  rintro e w4 ⟨hres, rfl⟩
  rcases hres with ⟨i, hi, rfl⟩ | ⟨hno, rfl⟩
  · obtain rfl := two_first_is hi
    have s1 := body3_size
    have s2 := body3_at
    clear hnx hi
    go_wp2_with fail
    refine hbo.mono ?_
    rintro e w5 ⟨rfl, rfl⟩
    clear hbo
    generalize body3 = b3 at *
    go_wp2
    go_ret
    exact ⟨rfl, hb3⟩
  · exact absurd hno two_not
theorem eq_nil_some (w : World) (a : Addr) (l c : Nat) : (binOp .eql 24 (.slice (some a) l c) (.slice none 0 0)).run Try.prog w = .ok (.bool false) w := run_eql_slice_nil w 24 4 (some a) l c Try.underlying24
theorem eq_nil_none (w : World) : (binOp .eql 24 (.slice none 0 0) (.slice none 0 0)).run Try.prog w = .ok (.bool true) w := run_eql_slice_nil w 24 4 none 0 0 Try.underlying24
/-- A grid and the document's, side by side, in blocks from base on. -/
structure Duo (w : World) (base B b n : Nat) (u : Nat → Bool) : Prop where
  grid : GridAt w B n u
  ref : BoolsAt w b n u
  B_low : base ≤ B
  b_low : base ≤ b
  apart : B ≠ b
  out : ∀ i, n ≤ i → u i = false
theorem Duo.keep {w w' : World} {base B b n : Nat} {u : Nat → Bool} (h : Duo w base B b n u) (k1 : w'.heap[B]? = w.heap[B]?) (k2 : w'.heap[b]? = w.heap[b]?) : Duo w' base B b n u := ⟨h.grid.keep k1, h.ref.keep k2, h.B_low, h.b_low, h.apart, h.out⟩
theorem Duo.below {w w' : World} {base B b n : Nat} {u : Nat → Bool} (h : Duo w base B b n u) (hb : Below w.heap.size w w') : Duo w' base B b n u := h.keep (hb.block _ h.grid.lt) (hb.block _ h.ref.lt)
theorem putU_out {u : Nat → Bool} {n i : Nat} {b : Bool} (h : ∀ i, n ≤ i → u i = false) (hi : i < n) : ∀ k, n ≤ k → putU u i b k = false := fun k hk => by rw [putU_other _ _ (by omega)]; exact h k hk
theorem filled_bad (n : Int) (hn : n < 0 ∨ 3584 < n) (v : Value) (w : World) :
    Calls Try.prog 6 #[.int .i64 n, v] w fun e w' => e = .returned (.tuple #[.pointer none, .slice none 0 0]) ∧ w' = w := by
  have h1 := gnew_bad n hn w
  have h2 := rnew_bad n hn w
  go_enter Try.func6, Try.ntmps6
  go_wp2_with fail
  refine h1.mono ?_
  rintro e w1 ⟨rfl, rfl⟩
  go_wp2_with fail
  refine h2.mono ?_
  rintro e w2 ⟨rfl, rfl⟩
  go_wp2
  go_ret2
  exact ⟨rfl, rfl⟩
set_option maxHeartbeats 2000000 in
theorem filled_any (n : Nat) (hn : n ≤ 3584) (v : Value) (l : List Int) (w : World) (hv : List1 (Value.int .i64) w v l) :
    Calls Try.prog 6 #[.int .i64 (n : Int), v] w fun e w' => ∃ B b u, e = .returned (.tuple #[.pointer (some ⟨B, 0, none⟩), .slice (some ⟨b, 0, none⟩) n n]) ∧ Duo w' w.heap.size B b n u ∧ Below w.heap.size w w' := by
  obtain ⟨oa, cap, rfl⟩ := hv.form
  have HV : Hid (List1 (Value.int .i64) w (.slice oa l.length cap) l) := hv
  have h1 := gnew_any n hn w
  clear hv
  obtain ⟨len, hle⟩ : ∃ len, len = l.length := ⟨_, rfl⟩
  have HE : Hid (len = l.length) := hle
  rw [← hle]
  clear hle
  go_enter Try.func6, Try.ntmps6
  go_wp2_with fail
  refine h1.mono ?_
  rintro e w1 ⟨rfl, hg1, hb1, hz1⟩
  have h2 := rnew_any n hn w1
  have HG1 : Hid (GridAt w1 w.heap.size n noneU ∧ Below w.heap.size w w1) := ⟨hg1, hb1⟩
  have hy1 : w.heap.size < w1.heap.size := by omega
  clear h1 hg1 hb1 hz1
  go_wp2_with fail
  refine h2.mono ?_
  rintro e w2 ⟨rfl, hr2, hb2, hz2⟩
  have HI : Hid (Duo w2 w.heap.size w.heap.size w1.heap.size n noneU ∧ Below w.heap.size w w2) := ⟨⟨HG1.out.1.keep (hb2.block _ HG1.out.1.lt), hr2, Nat.le_refl _, by omega, by omega, fun _ _ => rfl⟩, HG1.out.2.trans (hb2.mono (by omega))⟩
  clear h2 hr2 hb2 HG1 hz2
  go_wp2_with fail
  go_loopw [10] (fun iv wr => ∃ (j : Nat) (u : Nat → Bool), j ≤ len ∧ iv = .int .i64 (j : Int) ∧ Duo wr w.heap.size w.heap.size w1.heap.size n u ∧ Below w.heap.size w wr) (fun iv _ => len - (intOf iv).toNat)
  case atStart => exact ⟨0, noneU, Nat.zero_le _, rfl, HI.out⟩
  case round =>
    clear HI
    obtain ⟨j, u, hj, rfl, hd, hb⟩ := hrel
    by_cases hlt : j < len ∧ j < 500
    · have j1 : (j : Int) < (len : Nat) := by omega
      have j2 : (j : Int) < 500 := by omega
      obtain ⟨g, o, rfl, hg, hx⟩ := HV.out.get (i := j) (by rw [← HE.out]; exact hlt.1)
      obtain ⟨x, hxj⟩ : ∃ x, l[j]? = some x := ⟨_, List.getElem?_eq_getElem (by rw [← HE.out]; exact hlt.1)⟩
      have hcx := hx j x hxj
      have HCX : Hid (∀ wr, Below w.heap.size w wr → wr.cell? ⟨g, o + j, none⟩ = some (.int .i64 x)) := fun wr hb => (cell_kept_1 (hb.block g hg) _).trans hcx
      have hcx := HCX.out wr hb
      have hp := put_all wr w.heap.size n u hd.grid x true hn
      have HI : Hid (Duo wr w.heap.size w.heap.size w1.heap.size n u ∧ Below w.heap.size w wr) := ⟨hd, hb⟩
      clear hd hb hx hxj hlt
      generalize putE n x = pe at *
      go_wp2_with fail
      refine hp.mono ?_
      rintro e w3 ⟨rfl, hg3, ho3⟩
      have hb3 : Below w.heap.size w w3 := HI.out.2.trans (ho3.below HI.out.2.size)
      have hcx3 := HCX.out w3 hb3
      have hr3 : BoolsAt w3 w1.heap.size n u := HI.out.1.ref.keep (ho3.2 _ HI.out.1.ref.lt (by omega))
      clear hp hcx
      by_cases hin : 0 ≤ x ∧ x < (n : Int)
      · obtain ⟨m, rfl⟩ : ∃ m : Nat, x = m := ⟨x.toNat, by omega⟩
        have ht : tellsP n (m : Int) = true := decide_eq_true hin
        have m1 : (m : Int) < (n : Nat) := hin.2
        have mn : m < n := by omega
        unfold putN at hg3
        rw [if_pos ht, Int.toNat_natCast] at hg3
        have cm := hr3.cell m mn
        have fm := hr3.frozen m
        have HF : Hid (Duo (w3.setCell ⟨w1.heap.size, m, none⟩ (.bool true)) w.heap.size w.heap.size w1.heap.size n (putU u m true) ∧ Below w.heap.size w (w3.setCell ⟨w1.heap.size, m, none⟩ (.bool true))) :=
          ⟨⟨hg3.keep (Below.heap_setCell w3 ⟨w1.heap.size, m, none⟩ _ _ (by show w.heap.size ≠ w1.heap.size; omega)), hr3.set m true, Nat.le_refl _, by omega, by omega, putU_out HI.out.1.out mn⟩, hb3.setCell (p := ⟨w1.heap.size, m, none⟩) (by show w.heap.size ≤ w1.heap.size; omega) _⟩
        clear hg3 hr3 hb3 ho3 HI hin ht
        generalize u m = y at *
        go_wp2
        go_roundw
        case rel => exact ⟨j + 1, _, by omega, by go_num, HF.out⟩
        case measure => simp [intOf]; omega
      · have ht : tellsP n x = false := decide_eq_false hin
        unfold putN at hg3
        rw [ht] at hg3
        have HF : Hid (Duo w3 w.heap.size w.heap.size w1.heap.size n u ∧ Below w.heap.size w w3) := ⟨⟨hg3, hr3, Nat.le_refl _, by omega, by omega, HI.out.1.out⟩, hb3⟩
        clear hg3 hr3 hb3 ho3 HI
        by_cases h0 : 0 ≤ x
        · have m1 : decide (x < (n : Int)) = false := decide_eq_false (by omega)
          clear hin ht
          go_wp2
          go_roundw
          case rel => exact ⟨j + 1, _, by omega, by go_num, HF.out⟩
          case measure => simp [intOf]; omega
        · have m1 : decide (0 ≤ x) = false := decide_eq_false h0
          clear hin ht
          go_wp2
          go_roundw
          case rel => exact ⟨j + 1, _, by omega, by go_num, HF.out⟩
          case measure => simp [intOf]; omega
    · have HF : Hid (Duo wr w.heap.size w.heap.size w1.heap.size n u ∧ Below w.heap.size w wr) := ⟨hd, hb⟩
      clear hd hb
      by_cases h0 : j < len
      · have j1 : (j : Int) < (len : Nat) := by omega
        have j2 : ¬ (j : Int) < 500 := by omega
        have j3 : decide ((j : Int) < 500) = false := decide_eq_false j2
        clear hlt
        go_wp2
        go_ret2
        exact ⟨_, _, rfl, ⟨u, HF.out.1⟩, HF.out.2⟩
      · obtain rfl : j = len := by omega
        have j1 : ¬ (j : Int) < j := by omega
        clear hlt
        go_wp2
        go_ret2
        exact ⟨_, _, rfl, ⟨u, HF.out.1⟩, HF.out.2⟩
end Go.Proofs.Ytmpbpioigfnneab
