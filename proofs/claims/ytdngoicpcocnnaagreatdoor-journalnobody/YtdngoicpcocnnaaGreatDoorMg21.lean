/- plate's settle over the closures of Flush and of Start: the waiting writes whose places last are kept. · plate's Flush and Start, and the two closures that they hand to settle. -/
import Derived.Test.YtdngoicpcocnnaaGreatDoorMg20
namespace Go.Proofs.YtdngoicpcocnnaaGreatDoor
set_option maxRecDepth 20000
open Go.RowKit

set_option maxRecDepth 10000 in
set_option maxHeartbeats 2000000 in
theorem settleF (B : Nat) (F : Nat → Prop) (S : PS) (f : Nat → Bool) (w : World) (hp : Plate w F B S) (hw : S.wait.length ≤ 1000000)
    (hcall : ∀ (j : Nat) w1, j < S.wait.length → Touch F w w1 → Calls Tryz.prog 125 #[.int .i64 (j : Int)] w1 fun e w2 => e = .returned (.bool (f j)) ∧ w2 = w1) :
    Calls Tryz.prog 44 #[.pointer (some ⟨B, 0, none⟩), .func (.func 125) #[] #[]] w fun e w' => e = .returned (.tuple #[]) ∧ Plate w' F B (settleP f S) ∧ Touch F w w' := by
  obtain ⟨K, N, wv, hp⟩ := hp
  have c1 := hp.c1
  have HP : Hid (PlateAt w F B K N wv S) := hp
  have HC : Hid (∀ (j : Nat) w1, j < S.wait.length → Touch F w w1 → Calls Tryz.prog 125 #[.int .i64 (j : Int)] w1 fun e w2 => e = .returned (.bool (f j)) ∧ w2 = w1) := hcall
  clear hcall
  have hform : ∃ oa cap, wv = .slice oa S.wait.length cap := by
    rcases owns_len hp.wait with ⟨cap, e⟩ | ⟨g, cap, e⟩
    · exact ⟨_, cap, e⟩
    · exact ⟨_, cap, e⟩
  obtain ⟨oa, cap, rfl⟩ := hform
  clear hp
  go_enter Tryz.func44, Tryz.ntmps44
  go_wp2_with fail
  go_loopw [11] (fun v wr => ∃ j : Nat, j ≤ S.wait.length ∧ v = .int .i64 j ∧ SetAt w wr F B K N (.slice oa S.wait.length cap) S f j) (fun v _ => S.wait.length - (intOf v).toNat)
  case atStart => exact ⟨0, Nat.zero_le _, rfl, SetAt.of HP.out⟩
  case round =>
    clear c1
    obtain ⟨j, hj, rfl, hS⟩ := hrel
    by_cases hlt : j < S.wait.length
    · have j1 : (j : Int) < S.wait.length := by omega
      obtain ⟨a, s, hjs⟩ : ∃ a s, S.wait[j]? = some (a, s) := ⟨S.wait[j].1, S.wait[j].2, List.getElem?_eq_getElem hlt⟩
      obtain ⟨g, cap', hwv, hgc, _⟩ := owns_form hS.wait (by omega)
      obtain ⟨rfl, rfl⟩ : oa = some ⟨g, 0, none⟩ ∧ cap = cap' := by cases hwv; exact ⟨rfl, rfl⟩
      obtain ⟨d0, d1⟩ := hS.cW rfl hjs
      have ha : a < S.kept.length := (HP.out.ats (a, s) (List.mem_of_getElem? hjs)).1
      have hb3 : Below wr.heap.size wr (wr.alloc (.cells #[.int .i64 (a : Nat), .string s] 153)) := (Below.refl _ _).alloc (Nat.le_refl _) _
      have n0 : (wr.alloc (.cells #[.int .i64 (a : Nat), .string s] 153)).heap[wr.heap.size]? = some (.cells #[.int .i64 (a : Nat), .string s] 153 (0, 0)) := heap_alloc_new wr _
      have HS : Hid (SetAt w (wr.alloc (.cells #[.int .i64 (a : Nat), .string s] 153)) F B K N (.slice (some ⟨g, 0, none⟩) S.wait.length cap) S f j) := hS.below hb3
      have HJ : Hid (S.wait[j]? = some (a, s)) := hjs
      have HS2 : Hid (Row wr K _ _ ∧ Row wr N _ _ ∧ Row wr B _ _) := ⟨hS.kept, hS.new, hS.row⟩
      clear hS hjs
      have hW : wr.heap.size ≠ K ∧ wr.heap.size ≠ N ∧ wr.heap.size ≠ B := ⟨by have := HS2.out.1.lt; omega, by have := HS2.out.2.1.lt; omega, by have := HS2.out.2.2.lt; omega⟩
      obtain ⟨w3, hw3⟩ : ∃ w3, wr.alloc (.cells #[.int .i64 (a : Nat), .string s] 153) = w3 := ⟨_, rfl⟩
      rw [hw3] at HS n0
      have n1 : Row w3 wr.heap.size 153 [.int .i64 (a : Nat), .string s] := n0
      have hcl := HC.out j w3 hlt HS.out.touch
      clear n0 hb3 HS2
      generalize hwz : wr.heap.size = wz at *
      cases hf : f j <;> rw [hf] at hcl
      case' true =>
        have m0 : w3.cell? ⟨wz, 0, none⟩ = some (.int .i64 (a : Nat)) := n1.cell 0
        have m1 : w3.cell? ⟨wz, 1, none⟩ = some (.string s) := n1.cell 1
        have b0 : w3.cell? ⟨B, 0, none⟩ = some (.slice (some ⟨K, 0, none⟩) S.kept.length S.kept.length) := HS.out.row.cell 0
        have hcK : ∃ old, w3.cell? ⟨K, a, none⟩ = some (.string old) := ⟨(keptAt f S.wait S.kept j)[a]'(by rw [keptAt_length]; exact ha), by rw [HS.out.kept.cell, List.getElem?_map, List.getElem?_eq_getElem (by rw [keptAt_length]; exact ha)]; rfl⟩
        obtain ⟨old, hcK⟩ := hcK
        have hfK : w3.frozen? ⟨K, a, none⟩ = false := HS.out.kept.frozen a
        have hoff : ∀ v, (w3.setCell ⟨K, a, none⟩ v).cell? ⟨B, 0, none⟩ = some (.slice (some ⟨K, 0, none⟩) S.kept.length S.kept.length) ∧ (w3.setCell ⟨K, a, none⟩ v).cell? ⟨wz, 0, none⟩ = some (.int .i64 (a : Nat)) ∧ (w3.setCell ⟨K, a, none⟩ v).cell? ⟨wz, 1, none⟩ = some (.string s) := fun v => ⟨(HS.out.row.off HP.out.bk _ _).cell 0, (n1.off hW.1 _ _).cell 0, (n1.off hW.1 _ _).cell 1⟩
        have ha1 : (a : Int) < S.kept.length := by omega
        go_wp2_with fail
        refine hcl.mono ?_
        rintro e w9 ⟨rfl, rfl⟩
        go_wp2_with fail
        go_region_held3 (fun w' => w'.cell? ⟨B, 0, none⟩ = some (.slice (some ⟨K, 0, none⟩) S.kept.length S.kept.length) ∧ w'.cell? ⟨wz, 0, none⟩ = some (.int .i64 (a : Nat)) ∧ w'.cell? ⟨wz, 1, none⟩ = some (.string s)) (first | exact hoff _ | exact ⟨b0, m0, m1⟩ | simp [go_sem, *]) (fail)
        have HM : Hid (SetMid w (w9.setCell ⟨K, a, none⟩ (.string s)).drew F B K N (.slice (some ⟨g, 0, none⟩) S.wait.length cap) S f j) := (HS.out.mid HP.out HJ.out hf).drew
        have n4 : Row (w9.setCell ⟨K, a, none⟩ (.string s)).drew wz 153 [.int .i64 (a : Nat), .string s] := n1.off hW.1 _ _
        obtain ⟨w4, hw4⟩ : ∃ w4, (w9.setCell ⟨K, a, none⟩ (.string s)).drew = w4 := ⟨_, rfl⟩
        rw [hw4] at HM n4
        try rw [hw4]
        clear m0 m1 b0 hcK hfK hoff hcl n1 HS
      case' false =>
        have HM : Hid (SetMid w w3 F B K N (.slice (some ⟨g, 0, none⟩) S.wait.length cap) S f j) := HS.out.skip HJ.out hf
        go_wp2_with fail
        refine hcl.mono ?_
        rintro e w4 ⟨rfl, rfl⟩
        have n4 := n1
        clear hcl n1 HS
      all_goals
        have m0 : w4.cell? ⟨wz, 0, none⟩ = some (.int .i64 (a : Nat)) := n4.cell 0
        have b2 : w4.cell? ⟨B, 2, none⟩ = some (.slice (some ⟨N, 0, none⟩) S.kept.length S.kept.length) := HM.out.row.cell 2
        have hcN : w4.cell? ⟨N, a, none⟩ = some (.int .i64 (newAt S.wait j a : Nat)) := HM.out.new.cellF a ha
        have hfN : w4.frozen? ⟨N, a, none⟩ = false := HM.out.new.frozen a
        have hoff : ∀ v, (w4.setCell ⟨N, a, none⟩ v).cell? ⟨B, 2, none⟩ = some (.slice (some ⟨N, 0, none⟩) S.kept.length S.kept.length) ∧ (w4.setCell ⟨N, a, none⟩ v).cell? ⟨wz, 0, none⟩ = some (.int .i64 (a : Nat)) := fun v => ⟨(HM.out.row.off HP.out.bn _ _).cell 2, (n4.off hW.2.1 _ _).cell 0⟩
        have ha1 : (a : Int) < S.kept.length := by omega
        go_wp2_with fail
        go_region_held3 (fun w' => w'.cell? ⟨B, 2, none⟩ = some (.slice (some ⟨N, 0, none⟩) S.kept.length S.kept.length) ∧ w'.cell? ⟨wz, 0, none⟩ = some (.int .i64 (a : Nat))) (first | exact hoff _ | exact ⟨b2, m0⟩ | simp [go_sem, *]) (fail)
        have HF : Hid (SetAt w (w4.setCell ⟨N, a, none⟩ (.int .i64 0)).drew F B K N (.slice (some ⟨g, 0, none⟩) S.wait.length cap) S f (j + 1)) := (HM.out.next HP.out HJ.out).drew
        clear m0 b2 hcN hfN hoff HM n4
        go_wp2
        go_roundw
        case rel => exact ⟨j + 1, by omega, by go_num, HF.out⟩
        case measure => simp [intOf]; omega
    · obtain rfl : j = S.wait.length := by omega
      have hX := hS.done HP.out
      have b1 : wr.cell? ⟨B, 1, none⟩ = some (.slice oa S.wait.length cap) := hS.row.cell 1
      have f1 : wr.frozen? ⟨B, 1, none⟩ = false := hS.row.frozen 1
      obtain ⟨w5, hw5⟩ : ∃ w5, wr.setCell ⟨B, 1, none⟩ (.slice none 0 0) = w5 := ⟨_, rfl⟩
      rw [hw5] at hX
      have HX : Hid (Plate w5 F B (settleP f S) ∧ Touch F w w5) := ⟨⟨K, N, _, hX.1⟩, hX.2⟩
      clear hX hS
      go_wp2
      go_end0
      exact ⟨rfl, HX.out.1, HX.out.2⟩

set_option maxRecDepth 10000 in
set_option maxHeartbeats 2000000 in
theorem settleS (B : Nat) (F : Nat → Prop) (S : PS) (f : Nat → Bool) (cP : Value) (w : World) (hp : Plate w F B S) (hw : S.wait.length ≤ 1000000)
    (hcall : ∀ (j : Nat) w1, j < S.wait.length → Touch F w w1 → Calls Tryz.prog 45 #[.int .i64 (j : Int), cP] w1 fun e w2 => e = .returned (.bool (f j)) ∧ w2 = w1) :
    Calls Tryz.prog 44 #[.pointer (some ⟨B, 0, none⟩), .func (.func 45) #[] #[cP]] w fun e w' => e = .returned (.tuple #[]) ∧ Plate w' F B (settleP f S) ∧ Touch F w w' := by
  obtain ⟨K, N, wv, hp⟩ := hp
  have c1 := hp.c1
  have HP : Hid (PlateAt w F B K N wv S) := hp
  have HC : Hid (∀ (j : Nat) w1, j < S.wait.length → Touch F w w1 → Calls Tryz.prog 45 #[.int .i64 (j : Int), cP] w1 fun e w2 => e = .returned (.bool (f j)) ∧ w2 = w1) := hcall
  clear hcall
  have hform : ∃ oa cap, wv = .slice oa S.wait.length cap := by
    rcases owns_len hp.wait with ⟨cap, e⟩ | ⟨g, cap, e⟩
    · exact ⟨_, cap, e⟩
    · exact ⟨_, cap, e⟩
  obtain ⟨oa, cap, rfl⟩ := hform
  clear hp
  go_enter Tryz.func44, Tryz.ntmps44
  go_wp2_with fail
  go_loopw [11] (fun v wr => ∃ j : Nat, j ≤ S.wait.length ∧ v = .int .i64 j ∧ SetAt w wr F B K N (.slice oa S.wait.length cap) S f j) (fun v _ => S.wait.length - (intOf v).toNat)
  case atStart => exact ⟨0, Nat.zero_le _, rfl, SetAt.of HP.out⟩
  case round =>
    clear c1
    obtain ⟨j, hj, rfl, hS⟩ := hrel
    by_cases hlt : j < S.wait.length
    · have j1 : (j : Int) < S.wait.length := by omega
      obtain ⟨a, s, hjs⟩ : ∃ a s, S.wait[j]? = some (a, s) := ⟨S.wait[j].1, S.wait[j].2, List.getElem?_eq_getElem hlt⟩
      obtain ⟨g, cap', hwv, hgc, _⟩ := owns_form hS.wait (by omega)
      obtain ⟨rfl, rfl⟩ : oa = some ⟨g, 0, none⟩ ∧ cap = cap' := by cases hwv; exact ⟨rfl, rfl⟩
      obtain ⟨d0, d1⟩ := hS.cW rfl hjs
      have ha : a < S.kept.length := (HP.out.ats (a, s) (List.mem_of_getElem? hjs)).1
      have hb3 : Below wr.heap.size wr (wr.alloc (.cells #[.int .i64 (a : Nat), .string s] 153)) := (Below.refl _ _).alloc (Nat.le_refl _) _
      have n0 : (wr.alloc (.cells #[.int .i64 (a : Nat), .string s] 153)).heap[wr.heap.size]? = some (.cells #[.int .i64 (a : Nat), .string s] 153 (0, 0)) := heap_alloc_new wr _
      have HS : Hid (SetAt w (wr.alloc (.cells #[.int .i64 (a : Nat), .string s] 153)) F B K N (.slice (some ⟨g, 0, none⟩) S.wait.length cap) S f j) := hS.below hb3
      have HJ : Hid (S.wait[j]? = some (a, s)) := hjs
      have HS2 : Hid (Row wr K _ _ ∧ Row wr N _ _ ∧ Row wr B _ _) := ⟨hS.kept, hS.new, hS.row⟩
      clear hS hjs
      have hW : wr.heap.size ≠ K ∧ wr.heap.size ≠ N ∧ wr.heap.size ≠ B := ⟨by have := HS2.out.1.lt; omega, by have := HS2.out.2.1.lt; omega, by have := HS2.out.2.2.lt; omega⟩
      obtain ⟨w3, hw3⟩ : ∃ w3, wr.alloc (.cells #[.int .i64 (a : Nat), .string s] 153) = w3 := ⟨_, rfl⟩
      rw [hw3] at HS n0
      have n1 : Row w3 wr.heap.size 153 [.int .i64 (a : Nat), .string s] := n0
      have hcl := HC.out j w3 hlt HS.out.touch
      clear n0 hb3 HS2
      generalize hwz : wr.heap.size = wz at *
      cases hf : f j <;> rw [hf] at hcl
      case' true =>
        have m0 : w3.cell? ⟨wz, 0, none⟩ = some (.int .i64 (a : Nat)) := n1.cell 0
        have m1 : w3.cell? ⟨wz, 1, none⟩ = some (.string s) := n1.cell 1
        have b0 : w3.cell? ⟨B, 0, none⟩ = some (.slice (some ⟨K, 0, none⟩) S.kept.length S.kept.length) := HS.out.row.cell 0
        have hcK : ∃ old, w3.cell? ⟨K, a, none⟩ = some (.string old) := ⟨(keptAt f S.wait S.kept j)[a]'(by rw [keptAt_length]; exact ha), by rw [HS.out.kept.cell, List.getElem?_map, List.getElem?_eq_getElem (by rw [keptAt_length]; exact ha)]; rfl⟩
        obtain ⟨old, hcK⟩ := hcK
        have hfK : w3.frozen? ⟨K, a, none⟩ = false := HS.out.kept.frozen a
        have hoff : ∀ v, (w3.setCell ⟨K, a, none⟩ v).cell? ⟨B, 0, none⟩ = some (.slice (some ⟨K, 0, none⟩) S.kept.length S.kept.length) ∧ (w3.setCell ⟨K, a, none⟩ v).cell? ⟨wz, 0, none⟩ = some (.int .i64 (a : Nat)) ∧ (w3.setCell ⟨K, a, none⟩ v).cell? ⟨wz, 1, none⟩ = some (.string s) := fun v => ⟨(HS.out.row.off HP.out.bk _ _).cell 0, (n1.off hW.1 _ _).cell 0, (n1.off hW.1 _ _).cell 1⟩
        have ha1 : (a : Int) < S.kept.length := by omega
        go_wp2_with fail
        refine hcl.mono ?_
        rintro e w9 ⟨rfl, rfl⟩
        go_wp2_with fail
        go_region_held3 (fun w' => w'.cell? ⟨B, 0, none⟩ = some (.slice (some ⟨K, 0, none⟩) S.kept.length S.kept.length) ∧ w'.cell? ⟨wz, 0, none⟩ = some (.int .i64 (a : Nat)) ∧ w'.cell? ⟨wz, 1, none⟩ = some (.string s)) (first | exact hoff _ | exact ⟨b0, m0, m1⟩ | simp [go_sem, *]) (fail)
        have HM : Hid (SetMid w (w9.setCell ⟨K, a, none⟩ (.string s)).drew F B K N (.slice (some ⟨g, 0, none⟩) S.wait.length cap) S f j) := (HS.out.mid HP.out HJ.out hf).drew
        have n4 : Row (w9.setCell ⟨K, a, none⟩ (.string s)).drew wz 153 [.int .i64 (a : Nat), .string s] := n1.off hW.1 _ _
        obtain ⟨w4, hw4⟩ : ∃ w4, (w9.setCell ⟨K, a, none⟩ (.string s)).drew = w4 := ⟨_, rfl⟩
        rw [hw4] at HM n4
        try rw [hw4]
        clear m0 m1 b0 hcK hfK hoff hcl n1 HS
      case' false =>
        have HM : Hid (SetMid w w3 F B K N (.slice (some ⟨g, 0, none⟩) S.wait.length cap) S f j) := HS.out.skip HJ.out hf
        go_wp2_with fail
        refine hcl.mono ?_
        rintro e w4 ⟨rfl, rfl⟩
        have n4 := n1
        clear hcl n1 HS
      all_goals
        have m0 : w4.cell? ⟨wz, 0, none⟩ = some (.int .i64 (a : Nat)) := n4.cell 0
        have b2 : w4.cell? ⟨B, 2, none⟩ = some (.slice (some ⟨N, 0, none⟩) S.kept.length S.kept.length) := HM.out.row.cell 2
        have hcN : w4.cell? ⟨N, a, none⟩ = some (.int .i64 (newAt S.wait j a : Nat)) := HM.out.new.cellF a ha
        have hfN : w4.frozen? ⟨N, a, none⟩ = false := HM.out.new.frozen a
        have hoff : ∀ v, (w4.setCell ⟨N, a, none⟩ v).cell? ⟨B, 2, none⟩ = some (.slice (some ⟨N, 0, none⟩) S.kept.length S.kept.length) ∧ (w4.setCell ⟨N, a, none⟩ v).cell? ⟨wz, 0, none⟩ = some (.int .i64 (a : Nat)) := fun v => ⟨(HM.out.row.off HP.out.bn _ _).cell 2, (n4.off hW.2.1 _ _).cell 0⟩
        have ha1 : (a : Int) < S.kept.length := by omega
        go_wp2_with fail
        go_region_held3 (fun w' => w'.cell? ⟨B, 2, none⟩ = some (.slice (some ⟨N, 0, none⟩) S.kept.length S.kept.length) ∧ w'.cell? ⟨wz, 0, none⟩ = some (.int .i64 (a : Nat))) (first | exact hoff _ | exact ⟨b2, m0⟩ | simp [go_sem, *]) (fail)
        have HF : Hid (SetAt w (w4.setCell ⟨N, a, none⟩ (.int .i64 0)).drew F B K N (.slice (some ⟨g, 0, none⟩) S.wait.length cap) S f (j + 1)) := (HM.out.next HP.out HJ.out).drew
        clear m0 b2 hcN hfN hoff HM n4
        go_wp2
        go_roundw
        case rel => exact ⟨j + 1, by omega, by go_num, HF.out⟩
        case measure => simp [intOf]; omega
    · obtain rfl : j = S.wait.length := by omega
      have hX := hS.done HP.out
      have b1 : wr.cell? ⟨B, 1, none⟩ = some (.slice oa S.wait.length cap) := hS.row.cell 1
      have f1 : wr.frozen? ⟨B, 1, none⟩ = false := hS.row.frozen 1
      obtain ⟨w5, hw5⟩ : ∃ w5, wr.setCell ⟨B, 1, none⟩ (.slice none 0 0) = w5 := ⟨_, rfl⟩
      rw [hw5] at hX
      have HX : Hid (Plate w5 F B (settleP f S) ∧ Touch F w w5) := ⟨⟨K, N, _, hX.1⟩, hX.2⟩
      clear hX hS
      go_wp2
      go_end0
      exact ⟨rfl, HX.out.1, HX.out.2⟩
end Go.Proofs.YtdngoicpcocnnaaGreatDoor

namespace Go.Proofs.YtdngoicpcocnnaaGreatDoor
set_option maxRecDepth 20000
open Go.RowKit

/-- A list of truth values that lies outside the blocks F. -/
def Bools (w : World) (F : Nat → Prop) (kv : Value) (l : List Bool) : Prop := (∃ oa cap, kv = .slice oa 0 cap ∧ l = []) ∨ ∃ g o cap, kv = .slice (some ⟨g, o, none⟩) l.length cap ∧ g < w.heap.size ∧ ¬ F g ∧ ∀ i b, l[i]? = some b → w.cell? ⟨g, o + i, none⟩ = some (.bool b)
theorem Bools.touch {w w' : World} {F : Nat → Prop} {kv : Value} {l : List Bool} (h : Bools w F kv l) (ht : Touch F w w') : Bools w' F kv l := by
  rcases h with h | ⟨g, o, cap, rfl, hg, hf, hc⟩
  · exact .inl h
  · exact .inr ⟨g, o, cap, rfl, Nat.lt_of_lt_of_le hg ht.size, hf, fun i b hi => by rw [World.cell?_of_block (a := ⟨g, o + i, none⟩) (ht.2 g hg hf)]; exact hc i b hi⟩
theorem Bools.mono {w : World} {F F' : Nat → Prop} {kv : Value} {l : List Bool} (h : Bools w F kv l) (hF : ∀ k, k < w.heap.size → F' k → F k) : Bools w F' kv l := by
  rcases h with h | ⟨g, o, cap, rfl, hg, hf, hc⟩
  · exact .inl h
  · exact .inr ⟨g, o, cap, rfl, hg, fun h => hf (hF g hg h), hc⟩
def lastsB (l : List Bool) (j : Nat) : Bool := l.getD j false

theorem flushFn (j : Nat) (w : World) : Calls Tryz.prog 125 #[.int .i64 (j : Int)] w fun e w' => e = .returned (.bool true) ∧ w' = w := by
  go_enter Tryz.func125, Tryz.ntmps125
  go_wp2
  go_ret
  exact ⟨rfl, rfl⟩

set_option maxHeartbeats 400000 in
theorem startFn (j P : Nat) (F : Nat → Prop) (kv : Value) (l : List Bool) (w : World) (hP : w.cell? ⟨P, 0, none⟩ = some kv) (hk : Bools w F kv l) : Calls Tryz.prog 45 #[.int .i64 (j : Int), .pointer (some ⟨P, 0, none⟩)] w fun e w' => e = .returned (.bool (lastsB l j)) ∧ w' = w := by
  rcases hk with ⟨oa, cap, rfl, rfl⟩ | ⟨g, o, cap, rfl, hg, hf, hc⟩
  · have e : lastsB [] j = false := rfl
    rw [e]
    have h1 : ¬ (j : Int) < 0 := by omega
    go_enter Tryz.func45, Tryz.ntmps45
    go_wp2
    go_ret
    exact ⟨rfl, rfl⟩
  · by_cases hj : j < l.length
    · have h1 : (j : Int) < (l.length : Nat) := by omega
      have e : lastsB l j = l[j] := by simp [lastsB, hj]
      rw [e]
      have c := hc j _ (List.getElem?_eq_getElem hj)
      generalize l[j] = b at *
      clear hc
      go_enter Tryz.func45, Tryz.ntmps45
      go_wp2
      go_ret
      exact ⟨rfl, rfl⟩
    · have h1 : ¬ (j : Int) < (l.length : Nat) := by omega
      have e : lastsB l j = false := by simp [lastsB, hj]
      rw [e]
      clear hc
      go_enter Tryz.func45, Tryz.ntmps45
      go_wp2
      go_ret
      exact ⟨rfl, rfl⟩

def flushE (S : PS) : Int := if S.up = true then 0 else 20
def flushP (S : PS) : PS := if S.up = true then settleP (fun _ => true) S else S
def startP (l : List Bool) (S : PS) : PS := { settleP (lastsB l) S with fuse := -1, up := true }

set_option maxHeartbeats 400000 in
theorem flush_any (B : Nat) (F : Nat → Prop) (S : PS) (w : World) (hp : Plate w F B S) (hw : S.wait.length ≤ 1000000) :
    Calls Tryz.prog 105 #[.pointer (some ⟨B, 0, none⟩)] w fun e w' => e = .returned (.int .i64 (flushE S)) ∧ Plate w' F B (flushP S) ∧ Touch F w w' := by
  have hs := settleF B F S (fun _ => true) w hp hw fun j w1 _ _ => flushFn j w1
  obtain ⟨K, N, wv, hp⟩ := hp
  have c4 := hp.c4
  cases hu : S.up
  · rw [hu] at c4
    have HF : Hid (flushE S = 20 ∧ Plate w F B (flushP S)) := ⟨by simp [flushE, hu], by simp only [flushP, hu]; exact ⟨K, N, wv, hp⟩⟩
    clear hp hu hs
    go_enter Tryz.func105, Tryz.ntmps105
    go_wp2
    go_ret
    exact ⟨by rw [HF.out.1]; rfl, HF.out.2, Touch.refl _ _⟩
  · rw [hu] at c4
    have HF : Hid (flushE S = 0 ∧ flushP S = settleP (fun _ => true) S) := ⟨by simp [flushE, hu], by simp only [flushP, hu, if_true]⟩
    clear hp hu
    go_enter Tryz.func105, Tryz.ntmps105
    go_wp2_with fail
    refine hs.mono ?_
    rintro e w1 ⟨rfl, h1, h2⟩
    clear hs
    go_wp2
    go_ret
    exact ⟨by rw [HF.out.1]; rfl, by rw [HF.out.2]; exact h1, h2⟩

set_option maxHeartbeats 1000000 in
theorem start_any (B : Nat) (F : Nat → Prop) (S : PS) (kv : Value) (l : List Bool) (w : World) (hp : Plate w F B S) (hw : S.wait.length ≤ 1000000) (hk : Bools w F kv l) :
    Calls Tryz.prog 21 #[.pointer (some ⟨B, 0, none⟩), kv] w fun e w' => e = .returned (.tuple #[]) ∧ Plate w' F B (startP l S) ∧ Touch F w w' := by
  have hp1 : Plate w (fun k => F k ∧ k < w.heap.size) B S := hp.mono fun k hk h => ⟨h, hk⟩
  have hb1 : Below w.heap.size w (w.alloc (.cells #[kv] 38)) := (Below.refl _ _).alloc (Nat.le_refl _) _
  have hp2 := hp1.below hb1
  have hk1 : Bools w (fun k => F k ∧ k < w.heap.size) kv l := hk.mono fun k _ h => h.1
  have hk2 : Bools (w.alloc (.cells #[kv] 38)) (fun k => F k ∧ k < w.heap.size) kv l := hk1.touch (Touch.of_below hb1)
  have hcP : (w.alloc (.cells #[kv] 38)).cell? ⟨w.heap.size, 0, none⟩ = some kv := cell_of_row _ _ _ _ _ _ (heap_alloc_new w _)
  have hsz : w.heap.size < (w.alloc (.cells #[kv] 38)).heap.size := by simp
  have hs := settleS B _ S (lastsB l) (.pointer (some ⟨w.heap.size, 0, none⟩)) _ hp2 hw fun j w1 _ ht => startFn j w.heap.size _ kv l w1 (by
    rw [World.cell?_of_block (a := ⟨w.heap.size, 0, none⟩) (ht.2 w.heap.size hsz (fun h => absurd h.2 (Nat.lt_irrefl _)))]
    exact hcP) (hk2.touch ht)
  have hsl : ∃ oa n cap, kv = .slice oa n cap := by
    rcases hk with ⟨oa, cap, e, _⟩ | ⟨g, o, cap, e, _⟩
    · exact ⟨_, _, _, e⟩
    · exact ⟨_, _, _, e⟩
  obtain ⟨oa, n, cap, rfl⟩ := hsl
  have HB : Hid (Below w.heap.size w (w.alloc (.cells #[.slice oa n cap] 38))) := hb1
  obtain ⟨w0, hw0⟩ : ∃ w0, w.alloc (.cells #[.slice oa n cap] 38) = w0 := ⟨_, rfl⟩
  rw [hw0] at hs HB
  clear hp hp1 hp2 hb1 hk hk1 hk2 hcP hsz
  go_enter Tryz.func21, Tryz.ntmps21
  go_wp2_with fail
  refine hs.mono ?_
  rintro e w1 ⟨rfl, h1, h2⟩
  clear hs
  obtain ⟨K, N, wv, h1⟩ := h1
  have c3 := h1.c3
  have f3 : w1.frozen? ⟨B, 3, none⟩ = false := h1.row.frozen 3
  have h3 := h1.setFuse (-1) (by omega)
  have t3 := h2.setCell B 3 (.int .i64 (-1)) (.inl h1.fB)
  obtain ⟨w3, hw3⟩ : ∃ w3, w1.setCell ⟨B, 3, none⟩ (.int .i64 (-1)) = w3 := ⟨_, rfl⟩
  rw [hw3] at h3 t3
  have c4 := h3.c4
  have f4 : w3.frozen? ⟨B, 4, none⟩ = false := h3.row.frozen 4
  have h4 := h3.setUp true
  have t4 := t3.setCell B 4 (.bool true) (.inl h1.fB)
  obtain ⟨w4, hw4⟩ : ∃ w4, w3.setCell ⟨B, 4, none⟩ (.bool true) = w4 := ⟨_, rfl⟩
  rw [hw4] at h4 t4
  have HF : Hid (Plate w4 F B (startP l S) ∧ Touch F w w4) := ⟨⟨K, N, wv, h4.mono fun k _ h => h.1⟩, ⟨(HB.out.mono (Nat.zero_le _)).trans t4.1, fun k hk hn => (t4.2 k (Nat.lt_of_lt_of_le hk HB.out.size) (fun h => hn h.1)).trans (HB.out.block k hk)⟩⟩
  clear h1 h2 h3 h4 t3 t4 HB
  go_wp2
  go_end0
  exact ⟨rfl, HF.out.1, HF.out.2⟩
end Go.Proofs.YtdngoicpcocnnaaGreatDoor
