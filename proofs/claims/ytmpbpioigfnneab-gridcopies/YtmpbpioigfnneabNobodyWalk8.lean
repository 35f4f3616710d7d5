/- The laws GridNobody, GridBack and GridCopies, called with any numbers and any list of them, return true, and change nothing that was there; grid's Copy. -/
import Derived.Test.YtmpbpioigfnneabHasWalk8
import Derived.Test.YtmpbpioigfnneabGrOf
namespace Go.Proofs.Ytmpbpioigfnneab
set_option maxRecDepth 20000
open Go.RowKit

theorem copy_nil (w : World) : Calls Try.prog 13 #[.pointer none] w fun e w' => e = .returned (.pointer none) ∧ w' = w := by
  go_enter Try.func13, Try.ntmps13
  go_wp2
  go_ret
  exact ⟨rfl, rfl⟩
theorem info_grid_size : (Try.prog.info? 49).map (·.size) = some 449 := by kernel_rfl
def gridC (n : Nat) (u : Nat → Bool) : Array Value := (.int .i64 (n : Int) :: rowF 448 fun k => .int .u8 ((gByte u k : Nat) : Int)).toArray
theorem gridC_size (n : Nat) (u : Nat → Bool) : (gridC n u).size = 449 := by simp [gridC, rowF_length]
theorem gridC_one (n : Nat) (u : Nat → Bool) : (gridC n u).all (·.oneCell') = true := by
  rw [Array.all_eq_true_iff_forall_mem]
  intro v hv
  simp only [gridC, List.mem_toArray, List.mem_cons] at hv
  rcases hv with rfl | hv
  · rfl
  · obtain ⟨k, _, rfl⟩ := List.mem_map.1 hv
    rfl
theorem gridZ_size : (gridZ 0).size = 449 := by simp [gridZ, rowF_length]
set_option maxHeartbeats 1000000 in
theorem copy_any (w : World) (B n : Nat) (u : Nat → Bool) (h : GridAt w B n u) :
    Calls Try.prog 13 #[.pointer (some ⟨B, 0, none⟩)] w fun e w' => e = .returned (.pointer (some ⟨w.heap.size, 0, none⟩)) ∧ GridAt w' w.heap.size n u ∧ Below w.heap.size w w' ∧ w'.heap.size = w.heap.size + 1 := by
  have hg : w.heap[B]? = some (.cells (gridC n u) 49 (0, 0)) := h
  have hz := zero_grid
  have hzs := gridZ_size
  have hcs := gridC_size n u
  have hone := gridC_one n u
  have HC : Hid (∀ w1 : World, w1.heap[w.heap.size]? = some (.cells (gridC n u) 49 (0, 0)) → GridAt w1 w.heap.size n u) := fun w1 h1 => h1
  generalize gridC n u = cs at *
  generalize gridZ 0 = zs at *
  have hinf : (Try.prog.info? 49).map (·.size) = some cs.size := by rw [hcs]; exact info_grid_size
  have hs0 : zs.size = cs.size := by rw [hzs, hcs]
  clear h hzs hcs
  go_enter Try.func13, Try.ntmps13
  go_wp2_with (first | refine wpList_load_row rfl 49 _ rfl B rfl 49 _ (0, 0) _ hg Try.underlying49 rfl hinf ?_ | refine wpList_store_row rfl 49 _ _ rfl w.heap.size cs rfl rfl 49 _ (heap_alloc_new w _) hinf hs0 hone ?_)
  go_ret
  refine ⟨rfl, HC.out _ ?_, ?_, by simp⟩
  · rw [World.setRow_alloc_new]; exact heap_alloc_new w _
  · exact below_rowH ((Below.refl _ _).alloc (Nat.le_refl _) _) (Nat.le_refl _) _
set_option maxHeartbeats 1000000 in
theorem walk_gridNobody (i : Int) (w : World) (hw : (Lit.int .i64 i).wf = true) :
    Calls Try.prog 5 #[.int .i64 i] w fun e w' => e = .returned (.bool true) ∧ Below w.heap.size w w' := by
  have hi := (wf_int hw).2
  clear hw
  go_enter Try.func5, Try.ntmps5
  go_wp2_with fail
  refine (next_nil _ i hi).mono ?_
  rintro e w1 ⟨rfl, rfl⟩
  go_wp2_with fail
  refine (take_nil _ _ _).mono ?_
  rintro e w1 ⟨rfl, rfl⟩
  go_wp2_with fail
  refine (size_nil _).mono ?_
  rintro e w1 ⟨rfl, rfl⟩
  go_wp2_with fail
  refine (count_nil _).mono ?_
  rintro e w1 ⟨rfl, rfl⟩
  go_wp2_with fail
  refine (body_nil _).mono ?_
  rintro e w1 ⟨rfl, rfl⟩
  go_wp2_with fail
  refine (has_nil _ _).mono ?_
  rintro e w1 ⟨rfl, rfl⟩
  go_wp2_with fail
  refine (put_nil _ _ _).mono ?_
  rintro e w1 ⟨rfl, rfl⟩
  go_wp2_with fail
  refine (copy_nil _).mono ?_
  rintro e w1 ⟨rfl, rfl⟩
  go_wp2_with fail
  refine (gawake_any _).mono ?_
  rintro e w3 ⟨rfl, hb3⟩
  go_wp2
  go_ret
  exact ⟨rfl, hb3⟩
set_option maxHeartbeats 1000000 in
theorem walk_gridBack (n : Int) (v : Value) (l : List Int) (w : World) (hv : List1 (Value.int .i64) w v l) :
    Calls Try.prog 3 #[.int .i64 n, v] w fun e w' => e = .returned (.bool true) ∧ Below w.heap.size w w' := by
  by_cases hn : n < 0 ∨ 3584 < n
  · go_enter Try.func3, Try.ntmps3
    go_wp2_with fail
    refine (filled_bad n hn v _).mono ?_
    rintro e w1 ⟨rfl, rfl⟩
    have hq := eq_nil_none
    go_wp2_with fail
    refine (gawake_any _).mono ?_
    rintro e w3 ⟨rfl, hb3⟩
    go_wp2
    go_ret
    exact ⟨rfl, hb3⟩
  · obtain ⟨m, rfl⟩ : ∃ m : Nat, n = m := ⟨n.toNat, by omega⟩
    have hm : m ≤ 3584 := by omega
    have hf := filled_any m hm v l w hv
    clear hn hv
    go_enter Try.func3, Try.ntmps3
    go_wp2_with fail
    refine hf.mono ?_
    rintro e w1 ⟨B, b, u, rfl, hd, hb⟩
    have hq := eq_nil_some
    have hbo := gbody_any w1 B m u hd.grid
    have hcl : ClearFrom (bitsOf (bodyU u)) m := fun i hi => by
      by_cases h : i < 3584
      · rw [bitsOf_bodyU u i h]; exact hd.out i hi
      · exact bitsOf_far _ (bodyU_size u) i (by omega)
    have hof := gof_any (bodyU u) m hm (bodyU_size u) w1
    have hct := cmp_text (bodyU u)
    have HI : Hid (Duo w1 w.heap.size B b m u ∧ Below w.heap.size w w1) := ⟨hd, hb⟩
    have HC : Hid (ClearFrom (bitsOf (bodyU u)) m) := hcl
    clear hf hd hb hcl
    obtain ⟨S, hS⟩ : ∃ S, S = bodyU u := ⟨_, rfl⟩
    have HS : Hid (S = bodyU u) := hS
    rw [← hS] at hbo hof hct HC
    clear hS
    go_wp2_with fail
    refine hbo.mono ?_
    rintro e w2 ⟨rfl, rfl⟩
    clear hbo
    go_wp2_with fail
    refine hof.mono ?_
    rintro e w3 ⟨⟨_, rfl, hg3⟩ | ⟨hno, _⟩, hb3⟩
    · have hd3 := HI.out.1.below hb3
      have k1 := gbody_any w3 _ m _ hg3
      have k2 := gbody_any w3 _ m _ hd3.grid
      have k3 := size_any w3 _ m _ hg3
      have k4 := gcount_any w3 _ m _ hg3
      have k5 := rcount_any w3 b m u hd3.ref hm
      have e1 : bodyU (bitsOf S) = S := bodyU_bitsOf S (by rw [HS.out]; exact bodyU_size u)
      have e3 : cntU (bitsOf S) 3584 = cntU u 3584 := cntU_same 3584 fun i hi => by rw [HS.out]; exact bitsOf_bodyU u i hi
      have e2 : cntU (bitsOf S) 3584 = cntU u m := by
        have := cntU_beyond u m HI.out.1.out (3584 - m)
        rw [show m + (3584 - m) = 3584 by omega] at this
        exact e3.trans this
      rw [e1] at k1
      rw [← HS.out] at k2
      rw [e2] at k4
      have HB : Hid (Below w.heap.size w w3) := HI.out.2.trans (hb3.mono HI.out.2.size)
      generalize cntU u m = c at *
      clear hof hb3 hg3 hd3 e1 e2 e3 HI HS HC
      go_wp2_with fail
      refine k1.mono ?_
      rintro e w4 ⟨rfl, rfl⟩
      clear k1
      go_wp2_with fail
      refine k2.mono ?_
      rintro e w4 ⟨rfl, rfl⟩
      clear k2
      go_wp2_with fail
      refine k3.mono ?_
      rintro e w4 ⟨rfl, rfl⟩
      clear k3
      go_wp2_with fail
      refine k4.mono ?_
      rintro e w4 ⟨rfl, rfl⟩
      clear k4
      go_wp2_with fail
      refine k5.mono ?_
      rintro e w4 ⟨rfl, rfl⟩
      clear k5
      go_wp2_with fail
      refine (gawake_any _).mono ?_
      rintro e w5 ⟨rfl, hb5⟩
      have HB5 : Hid (Below w.heap.size w w5) := HB.out.trans (hb5.mono HB.out.size)
      clear hb5 HB
      go_wp2
      go_ret
      exact ⟨rfl, HB5.out⟩
    · exact absurd HC.out hno
set_option maxHeartbeats 1000000 in
theorem walk_gridCopies (n : Int) (v : Value) (l : List Int) (at_ : Int) (w : World) (hv : List1 (Value.int .i64) w v l) :
    Calls Try.prog 4 #[.int .i64 n, v, .int .i64 at_] w fun e w' => e = .returned (.bool true) ∧ Below w.heap.size w w' := by
  by_cases hn : n < 0 ∨ 3584 < n
  · go_enter Try.func4, Try.ntmps4
    go_wp2_with fail
    refine (filled_bad n hn v _).mono ?_
    rintro e w1 ⟨rfl, rfl⟩
    have hq := eq_nil_none
    go_wp2_with fail
    refine (gawake_any _).mono ?_
    rintro e w3 ⟨rfl, hb3⟩
    go_wp2
    go_ret
    exact ⟨rfl, hb3⟩
  · obtain ⟨m, rfl⟩ : ∃ m : Nat, n = m := ⟨n.toNat, by omega⟩
    have hm : m ≤ 3584 := by omega
    have hf := filled_any m hm v l w hv
    clear hn hv
    go_enter Try.func4, Try.ntmps4
    go_wp2_with fail
    refine hf.mono ?_
    rintro e w1 ⟨B, b, u, rfl, hd, hb⟩
    have hq := eq_nil_some
    have hcp := copy_any w1 B m u hd.grid
    have hBl := hd.grid.lt
    have HI : Hid (GridAt w1 B m u ∧ Below w.heap.size w w1 ∧ w.heap.size ≤ B) := ⟨hd.grid, hb, hd.B_low⟩
    clear hf hd hb
    go_wp2_with fail
    refine hcp.mono ?_
    rintro e w2 ⟨rfl, hg2, hb2, hz2⟩
    have hBC : B ≠ w1.heap.size := by omega
    have hC1 : w.heap.size ≤ w1.heap.size := HI.out.2.1.size
    have H2 : Hid (GridAt w2 B m u ∧ GridAt w2 w1.heap.size m u ∧ Below w.heap.size w w2 ∧ w.heap.size ≤ B ∧ w.heap.size ≤ w1.heap.size ∧ B ≠ w1.heap.size) := ⟨HI.out.1.keep (hb2.block _ hBl), hg2, HI.out.2.1.trans (hb2.mono hC1), HI.out.2.2, hC1, hBC⟩
    have k1 := gbody_any w2 B m u H2.out.1
    have k2 := gbody_any w2 w1.heap.size m u hg2
    have hct := cmp_text (bodyU u)
    obtain ⟨S, hS⟩ : ∃ S, S = bodyU u := ⟨_, rfl⟩
    have HS : Hid (S = bodyU u) := hS
    rw [← hS] at k1 k2 hct
    obtain ⟨C, hC⟩ : ∃ C, C = w1.heap.size := ⟨_, rfl⟩
    rw [← hC] at H2 k2 ⊢
    clear hS hcp hg2 hb2 hz2 HI hBC hC1 hBl hC
    go_wp2_with fail
    refine k1.mono ?_
    rintro e w3 ⟨rfl, rfl⟩
    clear k1
    go_wp2_with fail
    refine k2.mono ?_
    rintro e w3 ⟨rfl, rfl⟩
    have hp := put_all w3 C m u H2.out.2.1 at_ true hm
    clear k2
    obtain ⟨pe, hpe⟩ : ∃ pe, pe = putE m at_ := ⟨_, rfl⟩
    rw [← hpe] at hp
    clear hpe
    go_wp2_with fail
    refine hp.mono ?_
    rintro e w4 ⟨rfl, hg4, ho4⟩
    have H4 : Hid (GridAt w4 B m u ∧ GridAt w4 C m (putN m u at_ true) ∧ Below w.heap.size w w4 ∧ w.heap.size ≤ B ∧ w.heap.size ≤ C ∧ B ≠ C) :=
      ⟨H2.out.1.keep (ho4.2 _ H2.out.1.lt H2.out.2.2.2.2.2), hg4, H2.out.2.2.1.trans ((ho4.below (Nat.le_of_lt H2.out.2.1.lt)).mono H2.out.2.2.2.2.1), H2.out.2.2.2⟩
    have k1 := gbody_any w4 B m u H4.out.1
    rw [← HS.out] at k1
    have k2 := gbody_any w4 C m _ H4.out.2.1
    obtain ⟨T, hT⟩ : ∃ T, T = bodyU (putN m u at_ true) := ⟨_, rfl⟩
    have HT : Hid (T = bodyU (putN m u at_ true)) := hT
    rw [← hT] at k2
    have hct2 := cmp_text T
    clear hT hp hg4 ho4 H2
    go_wp2_with fail
    refine k1.mono ?_
    rintro e w5 ⟨rfl, rfl⟩
    clear k1
    go_wp2_with fail
    refine k2.mono ?_
    rintro e w5 ⟨rfl, rfl⟩
    have hp := put_all w5 B m u H4.out.1 at_ true hm
    obtain ⟨pf, hpf⟩ : ∃ pf, pf = putE m at_ := ⟨_, rfl⟩
    rw [← hpf] at hp
    clear k2 hpf
    go_wp2_with fail
    refine hp.mono ?_
    rintro e w6 ⟨rfl, hg6, ho6⟩
    have H6 : Hid (GridAt w6 B m (putN m u at_ true) ∧ GridAt w6 C m (putN m u at_ true) ∧ Below w.heap.size w w6 ∧ w.heap.size ≤ B ∧ w.heap.size ≤ C ∧ B ≠ C) :=
      ⟨hg6, H4.out.2.1.keep (ho6.2 _ H4.out.2.1.lt (fun e => H4.out.2.2.2.2.2 e.symm)), H4.out.2.2.1.trans ((ho6.below (Nat.le_of_lt H4.out.1.lt)).mono H4.out.2.2.2.1), H4.out.2.2.2⟩
    have htk := take_all w6 B m _ H6.out.1 hm 1 0 (by decide)
    clear hp hg6 ho6 H4
    go_wp2_with fail
    refine htk.mono ?_
    rintro e w7 ⟨v7, rfl, _, _, ho7⟩
    have hg7 := H6.out.2.1.keep (ho7.2 _ H6.out.2.1.lt (fun e => H6.out.2.2.2.2.2 e.symm))
    have k1 := gbody_any w7 C m _ hg7
    rw [← HT.out] at k1
    have HB : Hid (Below w.heap.size w w7) := H6.out.2.2.1.trans ((ho7.below (Nat.le_of_lt H6.out.1.lt)).mono H6.out.2.2.2.1)
    clear htk ho7 hg7 H6
    go_wp2_with fail
    refine k1.mono ?_
    rintro e w8 ⟨rfl, rfl⟩
    clear k1
    go_wp2_with fail
    refine (gawake_any _).mono ?_
    rintro e w9 ⟨rfl, hb9⟩
    have HB9 : Hid (Below w.heap.size w w9) := HB.out.trans (hb9.mono HB.out.size)
    clear hb9 HB
    go_wp2
    go_ret
    exact ⟨rfl, HB9.out⟩
end Go.Proofs.Ytmpbpioigfnneab
