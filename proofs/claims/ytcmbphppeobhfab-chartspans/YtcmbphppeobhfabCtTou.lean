/- Which indices some bytes touch: chart's Touched and the document's. -/
import Derived.Test.YtcmbphppeobhfabCtInts
import Derived.Lib.JoinLaws
namespace Go.Proofs.Ytcmbphppeobhfab
set_option maxRecDepth 20000
open Go.RowKit

/-- So many numbers from one on. -/
def riseL (a k : Nat) : List Int := (List.range k).map fun i => ((a + i : Nat) : Int)
theorem riseL_length (a k : Nat) : (riseL a k).length = k := by simp [riseL]
theorem riseL_succ (a k : Nat) : riseL a (k + 1) = riseL a k ++ [((a + k : Nat) : Int)] := by simp [riseL, List.range_succ]
/-- How many indices are touched. -/
def touK (a n : Nat) : Nat := if n = 0 then 0 else (a + n - 1) / 448 + 1 - a / 448
theorem touK_le (a n : Nat) (h : a + n ≤ 5675264) : touK a n ≤ 12668 := by
  unfold touK
  split
  · omega
  · omega
def touL (a n : Int) : List Int := if 0 ≤ a ∧ 0 ≤ n ∧ a + n ≤ 5675264 then riseL (a.toNat / 448) (touK a.toNat n.toNat) else []
def touE (a n : Int) : Int := if 0 ≤ a ∧ 0 ≤ n ∧ a + n ≤ 5675264 then 0 else 2
theorem tou_make (k : Nat) (h : k ≤ 100000) (w : World) : (Instr.makeSlice 22 (.int .i64 0) (.int .i64 (k : Int))).run Try.prog w = .ok (.slice (some ⟨w.heap.size, 0, none⟩) 0 k) (w.alloc (.cells (madeCells #[.int .i64 0] k) 3)) :=
  run_make_room (P := Try.prog) 22 3 (.int .i64 0) 8 Try.underlying22 ct_info_int rfl .i64 .i64 k (by omega) (by omega) w
set_option maxHeartbeats 2000000 in
theorem touched_any (a n : Nat) (h : a + n ≤ 5675264) (w : World) :
    Calls Try.prog 14 #[.int .i64 (a : Int), .int .i64 (n : Int)] w fun e w' => ∃ v, e = .returned (.tuple #[v, .int .i64 0]) ∧ IZ w' w.heap.size v (riseL (a / 448) (touK a n)) ∧ Below w.heap.size w w' := by
  obtain ⟨i0, hi0, hz0, hz1, hz2⟩ := info_parts ct_info_int
  have a1 : ¬ (a : Int) < 0 := by omega
  have a2 : ¬ (n : Int) < 0 := by omega
  have a3 : ¬ 5675264 - (n : Int) < a := by omega
  have hk := touK_le a n h
  by_cases h0 : n = 0
  · subst h0
    go_enter Try.func14, Try.ntmps14
    go_wp2
    go_ret2
    exact ⟨_, rfl, IZ.nil _ _, Below.refl _ _⟩
  · have a4 : ¬ (n : Int) = 0 := by omega
    have e1 : (a : Int) / 448 = ((a / 448 : Nat) : Int) := rfl
    have e2 : ((a : Int) + n - 1) / 448 = (((a + n - 1) / 448 : Nat) : Int) := by
      rw [show (a : Int) + n - 1 = ((a + n - 1 : Nat) : Int) by omega]; rfl
    have e3 : (((a + n - 1) / 448 : Nat) : Int) - ((a / 448 : Nat) : Int) + 1 = ((touK a n : Nat) : Int) := by
      unfold touK; rw [if_neg h0]; omega
    have e4 : a / 448 ≤ 12668 := by omega
    have e5 : (a + n - 1) / 448 ≤ 12668 := by omega
    generalize a / 448 = f at *
    generalize (a + n - 1) / 448 = la at *
    generalize touK a n = k at *
    have hm := tou_make k (by omega)
    go_enter Try.func14, Try.ntmps14
    have HB : Hid (∀ wq : World, w.heap.size ≤ wq.heap.size → True) := fun _ _ => trivial
    clear HB
    go_wp2_with fail
    go_loopw [8, 9] (fun pv iv wr => ∃ (j : Nat) (ad : Option Addr) (c : Nat), j ≤ k ∧ iv = .int .i64 ((f + j : Nat) : Int) ∧ pv = .slice ad j c ∧ IZ wr w.heap.size pv (riseL f j) ∧ Below w.heap.size w wr) (fun _ iv _ => f + k - (intOf iv).toNat)
    case atStart => exact ⟨0, some ⟨w.heap.size, 0, none⟩, k, Nat.zero_le _, rfl, rfl, World.ownsRow_made w _ k (Nat.le_refl _) (by unfold maxLen; omega) (by simp [madeCells]), (Below.refl _ _).alloc (Nat.le_refl _) _⟩
    case round =>
      obtain ⟨j, ad, c, hj, rfl, rfl, hown, hb⟩ := hrel
      have hbs := hb.size
      by_cases hlt : j < k
      · have j1 : ((f + j : Nat) : Int) ≤ (la : Nat) := by omega
        have HS : Hid (riseL f (j + 1) = riseL f j ++ [((f + j : Nat) : Int)] ∧ (riseL f j).length = j) := ⟨riseL_succ f j, riseL_length f j⟩
        unfold IZ at hown
        rw [HS.out.2] at hown
        have hm2 : f + j ≤ 30000 := by omega
        have HM : Hid (∀ q : Nat, f + j + 1 = q → f + (j + 1) = q) := fun q h => by omega
        have hn2 : Hid (f + (j + 1) = f + j + 1) := (by omega : f + (j + 1) = f + j + 1)
        obtain ⟨L', hL'⟩ : ∃ L', L' = riseL f (j + 1) := ⟨_, rfl⟩
        have HL : Hid (L' = riseL f (j + 1)) := hL'
        rw [← hL'] at HS
        clear hL'
        generalize riseL f j = L at *
        obtain ⟨x, hx⟩ : ∃ x, x = f + j := ⟨_, rfl⟩
        have HX : Hid (x = f + j) := hx
        rw [← hx] at j1 hm2 HS ⊢
        clear hx HM
        have hnew : (wr.alloc (.cells #[.int .i64 (x : Int)] 3)).heap[wr.heap.size]? = some (.cells #[.int .i64 (x : Int)] 3 (0, 0)) := heap_alloc_new wr _
        have hownC := World.ownsRow.alloc hown (.cells #[.int .i64 (x : Int)] 3)
        have hone : ∀ u ∈ ([.int .i64 (x : Int)] : List Value), u.oneCell' = true := by intro u hu; simp at hu; rw [hu]; rfl
        have HO : Hid (wr.ownsRow w.heap.size 3 1 (.slice ad j c) j (intZ L) ∧ Below w.heap.size w wr) := ⟨hown, hb⟩
        clear hown hb e1 e2 e3 hm a1 a2 a3 a4
        go_wp2_with (first | (at_builtin; (refine wpList_append_own _ rfl _ _ 22 rfl w.heap.size 3 i0 (.int .i64 0) 1 8 Try.underlying22 hi0 hz0 hz1 hz2 rfl (by decide) (.slice ad j c) j (intZ L) rfl hownC ⟨wr.heap.size, 0, none⟩ 1 1 [.int .i64 (x : Int)] rfl rfl (World.news_of_block hnew) hone (by unfold maxLen; omega) (by omega) (by simp; omega) ?_)))
        intro v1 wB hown1 hgrow1 _
        have hTB : Below w.heap.size w wB := (HO.out.2.alloc hbs _).grown hgrow1 (by simp; omega) fun k hk => (HO.out.1.lt k hk).1
        obtain ⟨g1, cap1, rfl⟩ : ∃ g1 cap1, v1 = .slice (some ⟨g1, 0, none⟩) (j + 1) cap1 := by obtain ⟨g1, c1, e1, _⟩ := World.ownsRow.form hown1 (by omega); exact ⟨g1, c1, e1⟩
        have HF : Hid (IZ wB w.heap.size (.slice (some ⟨g1, 0, none⟩) (j + 1) cap1) L' ∧ Below w.heap.size w wB) := by
          unfold IZ
          rw [HS.out.1, List.length_append, HS.out.2, intZ_append]
          exact ⟨hown1, hTB⟩
        clear hownC hnew hown1 hgrow1 hTB hone HO
        go_wp2
        go_roundw
        case rel => exact ⟨j + 1, some ⟨g1, 0, none⟩, cap1, by omega, by rw [hn2.out, ← HX.out]; go_num, rfl, by rw [← HL.out]; exact HF.out⟩
        case measure => simp [intOf]; have := HX.out; omega
      · obtain rfl : j = k := by omega
        have j1 : ¬ ((f + j : Nat) : Int) ≤ (la : Nat) := by omega
        have HF : Hid (IZ wr w.heap.size (.slice ad j c) (riseL f j) ∧ Below w.heap.size w wr) := ⟨hown, hb⟩
        clear hown hb
        go_wp2
        go_ret2
        exact ⟨_, rfl, HF.out⟩
theorem touched_all (a n : Int) (hn : n < 9223372036854775808) (w : World) :
    Calls Try.prog 14 #[.int .i64 a, .int .i64 n] w fun e w' => ∃ v, e = .returned (.tuple #[v, .int .i64 (touE a n)]) ∧ IZ w' w.heap.size v (touL a n) ∧ Below w.heap.size w w' := by
  unfold touL touE
  by_cases h : 0 ≤ a ∧ 0 ≤ n ∧ a + n ≤ 5675264
  · rw [if_pos h, if_pos h]
    obtain ⟨a, rfl⟩ : ∃ m : Nat, a = m := ⟨a.toNat, by omega⟩
    obtain ⟨n, rfl⟩ : ∃ m : Nat, n = m := ⟨n.toNat, by omega⟩
    exact touched_any a n (by omega) w
  · rw [if_neg h, if_neg h]
    by_cases h0 : a < 0
    · go_enter Try.func14, Try.ntmps14
      go_wp2
      go_ret2
      exact ⟨_, rfl, IZ.nil _ _, Below.refl _ _⟩
    by_cases h1 : n < 0
    · go_enter Try.func14, Try.ntmps14
      go_wp2
      go_ret2
      exact ⟨_, rfl, IZ.nil _ _, Below.refl _ _⟩
    · have h2 : 5675264 - n < a := by omega
      have h3 : 0 ≤ n := by omega
      clear h
      go_enter Try.func14, Try.ntmps14
      go_wp2
      go_ret2
      exact ⟨_, rfl, IZ.nil _ _, Below.refl _ _⟩
set_option maxHeartbeats 2000000 in
theorem rtouched_any (a n : Nat) (h : a + n ≤ 5675264) (w : World) :
    Calls Try.prog 15 #[.int .i64 (a : Int), .int .i64 (n : Int)] w fun e w' => ∃ v, e = .returned (.tuple #[v, .int .i64 0]) ∧ IZ w' w.heap.size v (riseL (a / 448) (touK a n)) ∧ Below w.heap.size w w' := by
  obtain ⟨i0, hi0, hz0, hz1, hz2⟩ := info_parts ct_info_int
  have a1 : ¬ (a : Int) < 0 := by omega
  have a2 : ¬ (n : Int) < 0 := by omega
  have a0 : ¬ 5675264 < (a : Int) := by omega
  have a3 : ¬ 5675264 - (a : Int) < n := by omega
  have hk := touK_le a n h
  have e1 : (a : Int) / 448 = ((a / 448 : Nat) : Int) := rfl
  have e4 : a / 448 ≤ 12668 := by omega
  have HT : Hid (∀ j, j ≤ touK a n → (j < touK a n ↔ 0 < n ∧ 448 * (a / 448 + j) < a + n)) := fun j hj => by
    unfold touK at hj ⊢
    split at hj
    · rename_i h0; rw [if_pos h0]; omega
    · rename_i h0; rw [if_neg h0]; omega
  generalize a / 448 = f at *
  generalize touK a n = k at *
  go_enter Try.func15, Try.ntmps15
  go_wp2_with fail
  go_loopw [6, 7] (fun pv iv wr => ∃ (j : Nat) (ad : Option Addr) (c : Nat), j ≤ k ∧ iv = .int .i64 ((f + j : Nat) : Int) ∧ pv = .slice ad j c ∧ IZ wr w.heap.size pv (riseL f j) ∧ Below w.heap.size w wr) (fun _ iv _ => f + k - (intOf iv).toNat)
  case atStart => exact ⟨0, none, 0, Nat.zero_le _, rfl, rfl, IZ.nil _ _, Below.refl _ _⟩
  case round =>
    obtain ⟨j, ad, c, hj, rfl, rfl, hown, hb⟩ := hrel
    have hbs := hb.size
    by_cases hlt : j < k
    · have hh := (HT.out j hj).1 hlt
      have HS : Hid (riseL f (j + 1) = riseL f j ++ [((f + j : Nat) : Int)] ∧ (riseL f j).length = j) := ⟨riseL_succ f j, riseL_length f j⟩
      unfold IZ at hown
      rw [HS.out.2] at hown
      have hm2 : f + j ≤ 30000 := by omega
      have hn2 : Hid (f + (j + 1) = f + j + 1) := (by omega : f + (j + 1) = f + j + 1)
      obtain ⟨L', hL'⟩ : ∃ L', L' = riseL f (j + 1) := ⟨_, rfl⟩
      have HL : Hid (L' = riseL f (j + 1)) := hL'
      rw [← hL'] at HS
      clear hL'
      generalize riseL f j = L at *
      obtain ⟨x, hx⟩ : ∃ x, x = f + j := ⟨_, rfl⟩
      have HX : Hid (x = f + j) := hx
      rw [← hx] at hm2 HS hh ⊢
      have j0 : (0 : Int) < n := by omega
      have j1 : 448 * (x : Int) < (a : Int) + n := by omega
      clear hx hh
      have hnew : (wr.alloc (.cells #[.int .i64 (x : Int)] 3)).heap[wr.heap.size]? = some (.cells #[.int .i64 (x : Int)] 3 (0, 0)) := heap_alloc_new wr _
      have hownC := World.ownsRow.alloc hown (.cells #[.int .i64 (x : Int)] 3)
      have hone : ∀ u ∈ ([.int .i64 (x : Int)] : List Value), u.oneCell' = true := by intro u hu; simp at hu; rw [hu]; rfl
      have HO : Hid (wr.ownsRow w.heap.size 3 1 (.slice ad j c) j (intZ L) ∧ Below w.heap.size w wr) := ⟨hown, hb⟩
      clear hown hb e1 a0 a1 a2 a3
      go_wp2_with (first | (at_builtin; (refine wpList_append_own _ rfl _ _ 22 rfl w.heap.size 3 i0 (.int .i64 0) 1 8 Try.underlying22 hi0 hz0 hz1 hz2 rfl (by decide) (.slice ad j c) j (intZ L) rfl hownC ⟨wr.heap.size, 0, none⟩ 1 1 [.int .i64 (x : Int)] rfl rfl (World.news_of_block hnew) hone (by unfold maxLen; omega) (by omega) (by simp; omega) ?_)))
      intro v1 wB hown1 hgrow1 _
      have hTB : Below w.heap.size w wB := (HO.out.2.alloc hbs _).grown hgrow1 (by simp; omega) fun k hk => (HO.out.1.lt k hk).1
      obtain ⟨g1, cap1, rfl⟩ : ∃ g1 cap1, v1 = .slice (some ⟨g1, 0, none⟩) (j + 1) cap1 := by obtain ⟨g1, c1, e1, _⟩ := World.ownsRow.form hown1 (by omega); exact ⟨g1, c1, e1⟩
      have HF : Hid (IZ wB w.heap.size (.slice (some ⟨g1, 0, none⟩) (j + 1) cap1) L' ∧ Below w.heap.size w wB) := by
        unfold IZ
        rw [HS.out.1, List.length_append, HS.out.2, intZ_append]
        exact ⟨hown1, hTB⟩
      clear hownC hnew hown1 hgrow1 hTB hone HO
      go_wp2
      go_roundw
      case rel => exact ⟨j + 1, some ⟨g1, 0, none⟩, cap1, by omega, by rw [hn2.out, ← HX.out]; go_num, rfl, by rw [← HL.out]; exact HF.out⟩
      case measure => simp [intOf]; have := HX.out; omega
    · obtain rfl : j = k := by omega
      have HF : Hid (IZ wr w.heap.size (.slice ad j c) (riseL f j) ∧ Below w.heap.size w wr) := ⟨hown, hb⟩
      have hq : ¬ (0 < n ∧ 448 * (f + j) < a + n) := fun h => hlt ((HT.out j hj).2 h)
      obtain ⟨x, hx⟩ : ∃ x, x = f + j := ⟨_, rfl⟩
      rw [← hx] at hq ⊢
      have hx3 : x ≤ 30000 := by omega
      clear hown hb hx
      by_cases h0 : 0 < n
      · have j0 : (0 : Int) < n := by omega
        have j1 : ¬ 448 * (x : Int) < (a : Int) + n := by omega
        clear hq h0
        go_wp2
        go_ret2
        exact ⟨_, rfl, HF.out⟩
      · have j0 : ¬ (0 : Int) < n := by omega
        clear hq h0
        go_wp2
        go_ret2
        exact ⟨_, rfl, HF.out⟩
theorem rtouched_all (a n : Int) (w : World) :
    Calls Try.prog 15 #[.int .i64 a, .int .i64 n] w fun e w' => ∃ v, e = .returned (.tuple #[v, .int .i64 (touE a n)]) ∧ IZ w' w.heap.size v (touL a n) ∧ Below w.heap.size w w' := by
  unfold touL touE
  by_cases h : 0 ≤ a ∧ 0 ≤ n ∧ a + n ≤ 5675264
  · rw [if_pos h, if_pos h]
    obtain ⟨a, rfl⟩ : ∃ m : Nat, a = m := ⟨a.toNat, by omega⟩
    obtain ⟨n, rfl⟩ : ∃ m : Nat, n = m := ⟨n.toNat, by omega⟩
    exact rtouched_any a n (by omega) w
  · rw [if_neg h, if_neg h]
    by_cases h0 : a < 0
    · go_enter Try.func15, Try.ntmps15
      go_wp2
      go_ret2
      exact ⟨_, rfl, IZ.nil _ _, Below.refl _ _⟩
    by_cases h1 : n < 0
    · go_enter Try.func15, Try.ntmps15
      go_wp2
      go_ret2
      exact ⟨_, rfl, IZ.nil _ _, Below.refl _ _⟩
    by_cases h3 : 5675264 < a
    · clear h
      go_enter Try.func15, Try.ntmps15
      go_wp2
      go_ret2
      exact ⟨_, rfl, IZ.nil _ _, Below.refl _ _⟩
    · have h2 : 5675264 - a < n := by omega
      clear h
      go_enter Try.func15, Try.ntmps15
      go_wp2
      go_ret2
      exact ⟨_, rfl, IZ.nil _ _, Below.refl _ _⟩
end Go.Proofs.Ytcmbphppeobhfab
