/- plate's settle over the closures of Flush and of Start: the waiting writes whose places last are kept. -/
import Derived.Test.YtdcooepeehamnaaGreatDoorPlSetBase
namespace Go.Proofs.YtdcooepeehamnaaGreatDoor
set_option maxRecDepth 20000
open Go.RowKit

set_option maxRecDepth 10000 in
set_option maxHeartbeats 2000000 in
theorem settleF (B : Nat) (F : Nat → Prop) (S : PS) (f : Nat → Bool) (w : World) (hp : Plate w F B S) (hw : S.wait.length ≤ 1000000)
    (hcall : ∀ (j : Nat) w1, j < S.wait.length → Touch F w w1 → Calls Tryz.prog 52 #[.int .i64 (j : Int)] w1 fun e w2 => e = .returned (.bool (f j)) ∧ w2 = w1) :
    Calls Tryz.prog 51 #[.pointer (some ⟨B, 0, none⟩), .func (.func 52) #[] #[]] w fun e w' => e = .returned (.tuple #[]) ∧ Plate w' F B (settleP f S) ∧ Touch F w w' := by
  obtain ⟨K, N, wv, hp⟩ := hp
  have c1 := hp.c1
  have HP : Hid (PlateAt w F B K N wv S) := hp
  have HC : Hid (∀ (j : Nat) w1, j < S.wait.length → Touch F w w1 → Calls Tryz.prog 52 #[.int .i64 (j : Int)] w1 fun e w2 => e = .returned (.bool (f j)) ∧ w2 = w1) := hcall
  clear hcall
  have hform : ∃ oa cap, wv = .slice oa S.wait.length cap := by
    rcases owns_len hp.wait with ⟨cap, e⟩ | ⟨g, cap, e⟩
    · exact ⟨_, cap, e⟩
    · exact ⟨_, cap, e⟩
  obtain ⟨oa, cap, rfl⟩ := hform
  clear hp
  go_enter Tryz.func51, Tryz.ntmps51
  go_wp2_with fail
  go_loopw [11] (fun v wr => ∃ j : Nat, j ≤ S.wait.length ∧ v = .int .i64 j ∧ SetAt w wr F B K N (.slice oa S.wait.length cap) S f j) (fun v _ => S.wait.length - (intOf v).toNat)
  case atStart => exact ⟨0, Nat.zero_le _, rfl, SetAt.of HP.out⟩
  case round =>
    clear c1
    obtain ⟨j, hj, rfl, hS⟩ := hrel
    by_cases hlt : j < S.wait.length
    · have j1 : (j : Int) < S.wait.length := by omega
      obtain ⟨a, s, hjs⟩ : ∃ a s, S.wait[j]? = some (a, s) := ⟨S.wait[j].1, S.wait[j].2, List.getElem?_eq_getElem hlt⟩
      obtain ⟨g, cap', hwv, hgc, _⟩ := owns_form hS.wait (by omega)
      obtain ⟨rfl, rfl⟩ : oa = some ⟨g, 0, none⟩ ∧ cap = cap' := by cases hwv; exact ⟨rfl, rfl⟩
      obtain ⟨d0, d1⟩ := hS.cW rfl hjs
      have ha : a < S.kept.length := (HP.out.ats (a, s) (List.mem_of_getElem? hjs)).1
      have hb3 : Below wr.heap.size wr (wr.alloc (.cells #[.int .i64 (a : Nat), .string s] 75)) := (Below.refl _ _).alloc (Nat.le_refl _) _
      have n0 : (wr.alloc (.cells #[.int .i64 (a : Nat), .string s] 75)).heap[wr.heap.size]? = some (.cells #[.int .i64 (a : Nat), .string s] 75 (0, 0)) := heap_alloc_new wr _
      have HS : Hid (SetAt w (wr.alloc (.cells #[.int .i64 (a : Nat), .string s] 75)) F B K N (.slice (some ⟨g, 0, none⟩) S.wait.length cap) S f j) := hS.below hb3
      have HJ : Hid (S.wait[j]? = some (a, s)) := hjs
      have HS2 : Hid (Row wr K _ _ ∧ Row wr N _ _ ∧ Row wr B _ _) := ⟨hS.kept, hS.new, hS.row⟩
      clear hS hjs
      have hW : wr.heap.size ≠ K ∧ wr.heap.size ≠ N ∧ wr.heap.size ≠ B := ⟨by have := HS2.out.1.lt; omega, by have := HS2.out.2.1.lt; omega, by have := HS2.out.2.2.lt; omega⟩
      obtain ⟨w3, hw3⟩ : ∃ w3, wr.alloc (.cells #[.int .i64 (a : Nat), .string s] 75) = w3 := ⟨_, rfl⟩
      rw [hw3] at HS n0
      have n1 : Row w3 wr.heap.size 75 [.int .i64 (a : Nat), .string s] := n0
      have hcl := HC.out j w3 hlt HS.out.touch
      clear n0 hb3 HS2
      generalize hwz : wr.heap.size = wz at *
      cases hf : f j <;> rw [hf] at hcl
      case' true =>
        have m0 : w3.cell? ⟨wz, 0, none⟩ = some (.int .i64 (a : Nat)) := n1.cell 0
        have m1 : w3.cell? ⟨wz, 1, none⟩ = some (.string s) := n1.cell 1
        have b0 : w3.cell? ⟨B, 0, none⟩ = some (.slice (some ⟨K, 0, none⟩) S.kept.length S.kept.length) := HS.out.row.cell 0
        have hcK : ∃ old, w3.cell? ⟨K, a, none⟩ = some (.string old) := ⟨(keptAt f S.wait S.kept j)[a]'(by rw [keptAt_length]; exact ha), by rw [HS.out.kept.cell, List.getElem?_map, List.getElem?_eq_getElem (by rw [keptAt_length]; exact ha)]; rfl⟩
        obtain ⟨old, hcK⟩ := hcK
        have hfK : w3.frozen? ⟨K, a, none⟩ = false := HS.out.kept.frozen a
        have hoff : ∀ v, (w3.setCell ⟨K, a, none⟩ v).cell? ⟨B, 0, none⟩ = some (.slice (some ⟨K, 0, none⟩) S.kept.length S.kept.length) ∧ (w3.setCell ⟨K, a, none⟩ v).cell? ⟨wz, 0, none⟩ = some (.int .i64 (a : Nat)) ∧ (w3.setCell ⟨K, a, none⟩ v).cell? ⟨wz, 1, none⟩ = some (.string s) := fun v => ⟨(HS.out.row.off HP.out.bk _ _).cell 0, (n1.off hW.1 _ _).cell 0, (n1.off hW.1 _ _).cell 1⟩
        have ha1 : (a : Int) < S.kept.length := by omega
        go_wp2_with fail
        refine hcl.mono ?_
        rintro e w9 ⟨rfl, rfl⟩
        go_wp2_with fail
        go_region_held3 (fun w' => w'.cell? ⟨B, 0, none⟩ = some (.slice (some ⟨K, 0, none⟩) S.kept.length S.kept.length) ∧ w'.cell? ⟨wz, 0, none⟩ = some (.int .i64 (a : Nat)) ∧ w'.cell? ⟨wz, 1, none⟩ = some (.string s)) (first | exact hoff _ | exact ⟨b0, m0, m1⟩ | simp [go_sem, *]) (fail)
        have HM : Hid (SetMid w (w9.setCell ⟨K, a, none⟩ (.string s)).drew F B K N (.slice (some ⟨g, 0, none⟩) S.wait.length cap) S f j) := (HS.out.mid HP.out HJ.out hf).drew
        have n4 : Row (w9.setCell ⟨K, a, none⟩ (.string s)).drew wz 75 [.int .i64 (a : Nat), .string s] := n1.off hW.1 _ _
        obtain ⟨w4, hw4⟩ : ∃ w4, (w9.setCell ⟨K, a, none⟩ (.string s)).drew = w4 := ⟨_, rfl⟩
        rw [hw4] at HM n4
        try rw [hw4]
        clear m0 m1 b0 hcK hfK hoff hcl n1 HS
      case' false =>
        have HM : Hid (SetMid w w3 F B K N (.slice (some ⟨g, 0, none⟩) S.wait.length cap) S f j) := HS.out.skip HJ.out hf
        go_wp2_with fail
        refine hcl.mono ?_
        rintro e w4 ⟨rfl, rfl⟩
        have n4 := n1
        clear hcl n1 HS
      all_goals
        have m0 : w4.cell? ⟨wz, 0, none⟩ = some (.int .i64 (a : Nat)) := n4.cell 0
        have b2 : w4.cell? ⟨B, 2, none⟩ = some (.slice (some ⟨N, 0, none⟩) S.kept.length S.kept.length) := HM.out.row.cell 2
        have hcN : w4.cell? ⟨N, a, none⟩ = some (.int .i64 (newAt S.wait j a : Nat)) := HM.out.new.cellF a ha
        have hfN : w4.frozen? ⟨N, a, none⟩ = false := HM.out.new.frozen a
        have hoff : ∀ v, (w4.setCell ⟨N, a, none⟩ v).cell? ⟨B, 2, none⟩ = some (.slice (some ⟨N, 0, none⟩) S.kept.length S.kept.length) ∧ (w4.setCell ⟨N, a, none⟩ v).cell? ⟨wz, 0, none⟩ = some (.int .i64 (a : Nat)) := fun v => ⟨(HM.out.row.off HP.out.bn _ _).cell 2, (n4.off hW.2.1 _ _).cell 0⟩
        have ha1 : (a : Int) < S.kept.length := by omega
        go_wp2_with fail
        go_region_held3 (fun w' => w'.cell? ⟨B, 2, none⟩ = some (.slice (some ⟨N, 0, none⟩) S.kept.length S.kept.length) ∧ w'.cell? ⟨wz, 0, none⟩ = some (.int .i64 (a : Nat))) (first | exact hoff _ | exact ⟨b2, m0⟩ | simp [go_sem, *]) (fail)
        have HF : Hid (SetAt w (w4.setCell ⟨N, a, none⟩ (.int .i64 0)).drew F B K N (.slice (some ⟨g, 0, none⟩) S.wait.length cap) S f (j + 1)) := (HM.out.next HP.out HJ.out).drew
        clear m0 b2 hcN hfN hoff HM n4
        go_wp2
        go_roundw
        case rel => exact ⟨j + 1, by omega, by go_num, HF.out⟩
        case measure => simp [intOf]; omega
    · obtain rfl : j = S.wait.length := by omega
      have hX := hS.done HP.out
      have b1 : wr.cell? ⟨B, 1, none⟩ = some (.slice oa S.wait.length cap) := hS.row.cell 1
      have f1 : wr.frozen? ⟨B, 1, none⟩ = false := hS.row.frozen 1
      obtain ⟨w5, hw5⟩ : ∃ w5, wr.setCell ⟨B, 1, none⟩ (.slice none 0 0) = w5 := ⟨_, rfl⟩
      rw [hw5] at hX
      have HX : Hid (Plate w5 F B (settleP f S) ∧ Touch F w w5) := ⟨⟨K, N, _, hX.1⟩, hX.2⟩
      clear hX hS
      go_wp2
      go_end0
      exact ⟨rfl, HX.out.1, HX.out.2⟩

end Go.Proofs.YtdcooepeehamnaaGreatDoor
