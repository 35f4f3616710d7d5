/- tree's step. · tree's Path. · The document's Path; the laws' same. · The document's Path. · The law TreeShown, called with any list of texts and any place, returns true, and changes nothing that was there. · The law TreePaths, called with any list of texts and any place where sum's two tables lie, returns true, and changes nothing that was there: the walk. -/
import Derived.Test.YtgfhaadcajlifaaDoorMg17
import Derived.Laws.CopyRow
import Derived.Test.YtgfhaadcajlifaaDoorMg04
import Derived.OwnWalk
import Derived.Test.YtgfhaadcajlifaaDoorMg20
import Derived.BigQuiet
import Derived.Deep.AppendLies
import Derived.Test.YtgfhaadcajlifaaDoorMg19
import Derived.Test.YtgfhaadcajlifaaDoorMg49
namespace Go.Proofs.YtgfhaadcajlifaaDoor
set_option maxRecDepth 20000
open Go.RowKit

theorem row_setRow {w : World} {b : Nat} {t : TypeId} {l : List Value} (h : Row w b t l) (l' : List Value) : Row (w.setRow b l'.toArray) b t l' := setRow_heap _ _ _ _ _ _ h
theorem step_sides (r : List ByteArray) (i : Nat) (hi : i < r.length) : (stepOf r i).sides = (r.drop (4 * (i / 4))).take (i % 4) ++ (r.drop (i + 1)).take (min (4 * (i / 4) + 4) r.length - (i + 1)) := by
  show ((r.drop (4 * (i / 4))).take 4).eraseIdx (i % 4) = _
  have e1 : 4 * (i / 4) + (i % 4 + 1) = i + 1 := by omega
  rw [List.eraseIdx_eq_take_drop_succ, List.take_take, Nat.min_eq_left (by omega), List.drop_take, List.drop_drop, e1]
  congr 1
  by_cases h : 4 * (i / 4) + 4 ≤ r.length
  · rw [Nat.min_eq_left h, show 4 * (i / 4) + 4 - (i + 1) = 4 - (i % 4 + 1) by omega]
  · rw [Nat.min_eq_right (by omega), List.take_of_length_le (by rw [List.length_drop]; omega), List.take_of_length_le (by rw [List.length_drop]; exact Nat.le_refl _)]
theorem tr_size1 : (Tryd.prog.info? 9).map (·.size) = some 1 := by kernel_rfl
theorem step_ret (tmps : Array Value) (w w' : World) (cs : Array Value) (R : Ending → World → Prop) (h1 : tmps.getD 4 undef = .pointer (some ⟨w.heap.size, 0, none⟩)) (hg : w'.heap[w.heap.size]? = some (.cells cs 48 (0, 0))) (hs : cs.size = 2) (hR : R (.returned (.agg cs)) w') :
    bodyPost Tryd.prog Tryd.f33 R .ret { tmps := tmps, defers := [] } w' :=
  bodyPost_ret (v := .agg cs) (results_cell_row Tryd.results33 tmps w' w.heap.size 48 cs (0, 0) _ h1 hg Tryd.underlying48 rfl (by rw [hs]; kernel_rfl)) rfl hR
set_option maxHeartbeats 2000000 in
theorem step_any (w : World) (g i : Nat) (r : List ByteArray) (hr : RowS w g r) (hlen : r.length ≤ 1000000) (hi : i < r.length) :
    Calls Tryd.prog 33 #[.slice (some ⟨g, 0, none⟩) r.length r.length, .int .i64 (i : Int)] w fun e w' => (∃ b, e = .returned (.agg #[.int .i64 (stepOf r i).at_, .slice (some ⟨b, 0, none⟩) (stepOf r i).sides.length (stepOf r i).sides.length]) ∧ RowS w' b (stepOf r i).sides ∧ w.heap.size ≤ b ∧ b < w'.heap.size) ∧ Below w.heap.size w w' := by
  have hff := fun w => four_any r.length i (by omega) w
  have hsd := step_sides r i hi
  have hat : (stepOf r i).at_ = ((i % 4 : Nat) : Int) := rfl
  obtain ⟨f, hf⟩ : ∃ f : Nat, f = 4 * (i / 4) := ⟨_, rfl⟩
  obtain ⟨t, ht⟩ : ∃ t : Nat, t = min (4 * (i / 4) + 4) r.length := ⟨_, rfl⟩
  obtain ⟨q, hq⟩ : ∃ q : Nat, q = i % 4 := ⟨_, rfl⟩
  rw [← ht, ← hf] at hff
  rw [← ht, ← hf, ← hq] at hsd
  rw [← hq] at hat
  have e1 : i = f + q := by omega
  have e2 : i < t := by omega
  have e3 : t ≤ r.length := by omega
  obtain ⟨n, hn⟩ : ∃ n : Nat, n = t - f - 1 := ⟨_, rfl⟩
  have hqn : q ≤ n := by omega
  have hnt : n - q = t - (i + 1) := by omega
  obtain ⟨c1, hc1⟩ : ∃ c1, c1 = ((r.drop f).take q).map Value.string := ⟨_, rfl⟩
  obtain ⟨c2, hc2⟩ : ∃ c2, c2 = ((r.drop (i + 1)).take (n - q)).map Value.string := ⟨_, rfl⟩
  have hl1 : c1.length = q := by rw [hc1]; simp; omega
  have hl2 : c2.length = n - q := by rw [hc2]; simp; omega
  have HSD : Hid ((stepOf r i).sides.map Value.string = c1 ++ c2 ∧ (stepOf r i).sides.length = n) := by
    rw [hsd, ← hnt, hc1, hc2]
    refine ⟨by simp, by simp; omega⟩
  have ho1 : ∀ v ∈ c1, v.oneCell' = true := fun v hv => by rw [hc1] at hv; obtain ⟨y, _, rfl⟩ := List.mem_map.1 hv; rfl
  have ho2 : ∀ v ∈ c2, v.oneCell' = true := fun v hv => by rw [hc2] at hv; obtain ⟨y, _, rfl⟩ := List.mem_map.1 hv; rfl
  have HS1 : Hid (∀ w', Below w.heap.size w w' → ∀ j v, c1[j]? = some v → w'.cell? ((⟨g, f, none⟩ : Addr).add j) = some v) := fun w' hb j v hv => by
    rw [hc1, List.getElem?_map] at hv
    obtain ⟨y, hy, rfl⟩ := Option.map_eq_some_iff.1 hv
    rw [List.getElem?_take] at hy
    split at hy
    · rw [List.getElem?_drop] at hy
      rw [Addr.add_lit]
      exact (hb.cell (p := ⟨g, f + j, none⟩) hr.lt).trans (hr.cell hy)
    · cases hy
  have HS2 : Hid (∀ w', Below w.heap.size w w' → ∀ j v, c2[j]? = some v → w'.cell? ((⟨g, i + 1, none⟩ : Addr).add j) = some v) := fun w' hb j v hv => by
    rw [hc2, List.getElem?_map] at hv
    obtain ⟨y, hy, rfl⟩ := Option.map_eq_some_iff.1 hv
    rw [List.getElem?_take] at hy
    split at hy
    · rw [List.getElem?_drop] at hy
      rw [Addr.add_lit]
      exact (hb.cell (p := ⟨g, i + 1 + j, none⟩) hr.lt).trans (hr.cell hy)
    · cases hy
  have lg := hr.lt
  obtain ⟨len, hlen'⟩ : ∃ len, len = r.length := ⟨_, rfl⟩
  rw [hat, HSD.out.2]
  rw [← hlen'] at hff hlen hi e3 ⊢
  have HRS : Hid (∀ w' b, Row w' b 9 (c1 ++ c2) → RowS w' b (stepOf r i).sides) := fun w' b hb => by
    unfold RowS
    rw [HSD.out.1]
    exact hb
  clear hr hsd hat hf ht hq hc1 hc2 HSD hlen'
  obtain ⟨w0, hw0⟩ : ∃ w0, w.alloc (.cells #[.int .i64 0, .slice none 0 0] 48) = w0 := ⟨_, rfl⟩
  have hb0 : Below w.heap.size w w0 := by rw [← hw0]; exact (Below.refl _ _).alloc (Nat.le_refl _) _
  have g0 : w0.heap[w.heap.size]? = some (.cells #[.int .i64 0, .slice none 0 0] 48 (0, 0)) := by rw [← hw0]; exact heap_alloc_new w _
  have hmk := run_make_strs n (by omega) w0
  obtain ⟨w1, hw1⟩ : ∃ w1, w0.alloc (.cells (madeCells #[.string ⟨#[]⟩] n) 9) = w1 := ⟨_, rfl⟩
  rw [hw1] at hmk
  have r1 : Row w1 w0.heap.size 9 (List.replicate n (Value.string ⟨#[]⟩)) := by
    rw [Row, ← toList_madeCells_one, ← hw1]
    exact heap_alloc_new w0 _
  have hb1 : Below w0.heap.size w0 w1 := by rw [← hw1]; exact (Below.refl _ _).alloc (Nat.le_refl _) _
  have l0 := lt_of_block g0
  have hbw1 : Below w.heap.size w w1 := hb0.trans (hb1.mono hb0.size)
  have g1 := (hb1.block _ l0).trans g0
  have hcp1 := run_copy_row (P := Tryd.prog) w1.drew 22 22 3 9 w0.heap.size 0 q n ⟨g, f, none⟩ q (len - f) _ 9 c1 Tryd.underlying22 tr_size1 (show w1.drew.heap[w0.heap.size]? = _ from r1) (by rw [hl1]; simp) (HS1.out _ hbw1.drew) (by rw [hl1]; simp; omega) ho1
  obtain ⟨w2, hw2⟩ : ∃ w2, w1.drew.setRow w0.heap.size ((List.replicate n (Value.string ⟨#[]⟩)).toArray.toList.take 0 ++ c1 ++ (List.replicate n (Value.string ⟨#[]⟩)).toArray.toList.drop (0 + c1.length)).toArray = w2 := ⟨_, rfl⟩
  rw [hw2, hl1] at hcp1
  have r2 : Row w2 w0.heap.size 9 (c1 ++ List.replicate (n - q) (Value.string ⟨#[]⟩)) := by
    have := row_setRow (show Row w1.drew w0.heap.size 9 _ from r1) (c1 ++ List.replicate (n - q) (Value.string ⟨#[]⟩))
    rw [← hw2]
    have e : (List.replicate n (Value.string ⟨#[]⟩)).toArray.toList.take 0 ++ c1 ++ (List.replicate n (Value.string ⟨#[]⟩)).toArray.toList.drop (0 + c1.length) = c1 ++ List.replicate (n - q) (Value.string ⟨#[]⟩) := by simp [hl1]
    rw [e]
    exact this
  have hk2 : ∀ k, k < w0.heap.size → w2.heap[k]? = w1.heap[k]? := fun k hk => by rw [← hw2]; exact setRow_other _ _ _ _ (by omega)
  have hbw2 : Below w0.heap.size w0 w2 := by
    refine hb1.trans ⟨?_, ?_, ?_, ?_, fun k hk => hk2 k hk⟩
    all_goals first | (rw [← hw2]; rfl) | (rw [← hw2]; simp [World.setRow])
  have g2 := (hbw2.block _ l0).trans g0
  have hbwW : Below w.heap.size w w2 := hb0.trans (hbw2.mono hb0.size)
  have l1 : w0.heap.size < w2.heap.size := Row.lt r2
  have HFI : Hid (∀ w3, Row w3 w0.heap.size 9 (c1 ++ c2) → Below w0.heap.size w0 w3 → (∃ b, b = w0.heap.size ∧ RowS (w3.setRow w.heap.size #[.int .i64 (q : Int), .slice (some ⟨w0.heap.size, 0, none⟩) n n]) b (stepOf r i).sides ∧ w.heap.size ≤ b ∧ b < (w3.setRow w.heap.size #[.int .i64 (q : Int), .slice (some ⟨w0.heap.size, 0, none⟩) n n]).heap.size) ∧ Below w.heap.size w (w3.setRow w.heap.size #[.int .i64 (q : Int), .slice (some ⟨w0.heap.size, 0, none⟩) n n]) ∧ w3.heap[w.heap.size]? = some (.cells #[.int .i64 0, .slice none 0 0] 48 (0, 0))) := fun w3 h3 hb3 => by
    have hz : (w3.setRow w.heap.size #[.int .i64 (q : Int), .slice (some ⟨w0.heap.size, 0, none⟩) n n]).heap.size = w3.heap.size := by simp [World.setRow]
    refine ⟨⟨_, rfl, HRS.out _ _ ((setRow_other _ _ _ _ (by omega)).trans h3), by omega, by rw [hz]; exact Row.lt h3⟩, (hb0.trans (hb3.mono hb0.size)).trans ⟨rfl, rfl, rfl, by rw [hz]; exact Nat.le_refl _, fun k hk => setRow_other _ _ _ _ (by omega)⟩, (hb3.block _ l0).trans g0⟩
  have m1 : IntKind.i64.wrap ((i : Int) - f) = (q : Int) := by rw [IntKind.wrap_i64]; omega
  have m2 : IntKind.i64.wrap ((t : Int) - f) = (t : Int) - f := by rw [IntKind.wrap_i64]; omega
  have m3 : IntKind.i64.wrap ((t : Int) - f - 1) = (n : Int) := by rw [IntKind.wrap_i64]; omega
  have m4 : IntKind.i64.wrap ((i : Int) + 1) = ((i + 1 : Nat) : Int) := by rw [IntKind.wrap_i64]; omega
  have p1 : ((q : Nat) : Int) ≤ (n : Nat) := by omega
  have p2 : ((f : Nat) : Int) ≤ (i : Nat) := by omega
  have p3 : ((i : Nat) : Int) ≤ (len : Nat) := by omega
  have p4 : ((i + 1 : Nat) : Int) ≤ (t : Nat) := by omega
  have p5 : ((t : Nat) : Int) ≤ (len : Nat) := by omega
  have p6 : ¬ len = f := by omega
  have p7 : ¬ (len : Int) = (f : Int) := by omega
  have e4 : i - f = q := by omega
  clear hb0 hb1 g1 r1 HS1 hbw1 hk2 HRS e1 hn
  by_cases hqq : n = q
  · subst hqq
    have htz : t - (i + 1) = 0 := by omega
    have hc20 : c2 = [] := List.eq_nil_of_length_eq_zero (by omega)
    rw [hc20, List.append_nil] at HFI
    rw [Nat.sub_self, List.replicate_zero, List.append_nil] at r2
    have hcp2 : ∀ (d a : Option Addr) (dc sc : Nat) (ww : World), (Builtin.copy_ #[22, 22] 3 #[.slice d 0 dc, .slice a 0 sc]).run Tryd.prog ww = .ok (goInt 0) ww := fun d a dc sc ww => run_copy_none (P := Tryd.prog) ww 22 22 3 9 d a 0 dc 0 sc Tryd.underlying22 tr_size1 rfl
    obtain ⟨⟨b, rfl, f1, f2, f3⟩, f4, f5⟩ := HFI.out w2.drew r2 hbw2.drew
    have HRR : Hid ((∃ b', b' = w0.heap.size ∧ RowS (w2.drew.setRow w.heap.size #[.int .i64 (n : Int), .slice (some ⟨w0.heap.size, 0, none⟩) n n]) b' (stepOf r i).sides ∧ w.heap.size ≤ b' ∧ b' < (w2.drew.setRow w.heap.size #[.int .i64 (n : Int), .slice (some ⟨w0.heap.size, 0, none⟩) n n]).heap.size) ∧ Below w.heap.size w (w2.drew.setRow w.heap.size #[.int .i64 (n : Int), .slice (some ⟨w0.heap.size, 0, none⟩) n n])) := ⟨⟨_, rfl, f1, f2, f3⟩, f4⟩
    have hlw : (len = i + 1) ∨ ¬ (len = i + 1) := Classical.em _
    clear HFI HS2 hl1 hl2 ho1 ho2 hc20 r2 hbw2 hbwW f1 f2 f3 f4 hnt hw1 hw2 g2
    rcases hlw with hlw | hlw
    case' inr => have hlw2 : ¬ (len : Int) = (i : Int) + 1 := by omega
    case' inl => subst hlw
    all_goals
      go_enter Tryd.func33, Tryd.ntmps33
      go_wp2_with fail
      try rw [hw0]
      refine (hff _).mono ?_
      rintro e wf ⟨rfl, rfl⟩
      go_wp2_with fail
      go_region
      go_wp2_with fail
      go_region
      go_wp2_with (refine wpList_store_row rfl 48 _ _ rfl w.heap.size #[.int .i64 (n : Int), .slice (some ⟨wf.heap.size, 0, none⟩) n n] rfl rfl 48 _ f5 (by kernel_rfl) rfl (by simp [Value.oneCell']) ?_)
      obtain ⟨⟨b, rfl, f1, f2, f3⟩, f4⟩ := HRR.out
      exact step_ret _ w _ #[.int .i64 (n : Int), .slice (some ⟨wf.heap.size, 0, none⟩) n n] _ rfl (setRow_heap _ _ _ _ _ _ f5) rfl ⟨⟨_, rfl, f1, f2, f3⟩, f4⟩
  · have hcp2 := run_copy_row (P := Tryd.prog) w2.drew 22 22 3 9 w0.heap.size q (n - q) (n - q) ⟨g, i + 1, none⟩ (t - (i + 1)) (len - (i + 1)) _ 9 c2 Tryd.underlying22 tr_size1 (show w2.drew.heap[w0.heap.size]? = _ from r2) (by rw [hl2, hnt]; simp) (HS2.out _ hbwW.drew) (by rw [hl2]; simp; omega) ho2
    obtain ⟨w3, hw3⟩ : ∃ w3, w2.drew.setRow w0.heap.size ((c1 ++ List.replicate (n - q) (Value.string ⟨#[]⟩)).toArray.toList.take q ++ c2 ++ (c1 ++ List.replicate (n - q) (Value.string ⟨#[]⟩)).toArray.toList.drop (q + c2.length)).toArray = w3 := ⟨_, rfl⟩
    rw [hw3, hl2] at hcp2
    have r3 : Row w3 w0.heap.size 9 (c1 ++ c2) := by
      have := row_setRow (show Row w2.drew w0.heap.size 9 _ from r2) (c1 ++ c2)
      rw [← hw3]
      have e : (c1 ++ List.replicate (n - q) (Value.string ⟨#[]⟩)).toArray.toList.take q ++ c2 ++ (c1 ++ List.replicate (n - q) (Value.string ⟨#[]⟩)).toArray.toList.drop (q + c2.length) = c1 ++ c2 := by
        show (c1 ++ List.replicate (n - q) (Value.string ⟨#[]⟩)).take q ++ c2 ++ (c1 ++ List.replicate (n - q) (Value.string ⟨#[]⟩)).drop (q + c2.length) = c1 ++ c2
        rw [List.take_append_of_le_length (by omega), List.take_of_length_le (by omega), List.drop_of_length_le (by simp [hl1, hl2]), List.append_nil]
      rw [e]
      exact this
    have hbw3 : Below w0.heap.size w0 w3 := by
      refine hbw2.trans ⟨?_, ?_, ?_, ?_, fun k hk => by rw [← hw3]; exact setRow_other _ _ _ _ (by omega)⟩
      all_goals first | (rw [← hw3]; rfl) | (rw [← hw3]; simp [World.setRow])
    obtain ⟨hR1, hR2, f5⟩ := HFI.out w3 r3 hbw3
    have HRR : Hid _ := And.intro hR1 hR2
    have p8 : ¬ len = i + 1 := by omega
    have p9 : ¬ n = q := hqq
    have hnt2 : t - (i + 1) = n - q := hnt.symm
    clear HFI HS2 hl1 hl2 ho1 ho2 r2 r3 hbw2 hbwW hbw3 hR1 hR2 hnt hw1 hw2 g2
    rw [hnt2] at hcp2
    go_enter Tryd.func33, Tryd.ntmps33
    go_wp2_with fail
    try rw [hw0]
    refine (hff _).mono ?_
    rintro e wf ⟨rfl, rfl⟩
    go_wp2_with fail
    go_region
    go_wp2_with fail
    go_region
    go_wp2_with (refine wpList_store_row rfl 48 _ _ rfl w.heap.size #[.int .i64 (q : Int), .slice (some ⟨wf.heap.size, 0, none⟩) n n] rfl rfl 48 _ f5 (by kernel_rfl) rfl (by simp [Value.oneCell']) ?_)
    obtain ⟨⟨b, rfl, f1, f2, f3⟩, f4⟩ := HRR.out
    exact step_ret _ w _ #[.int .i64 (q : Int), .slice (some ⟨wf.heap.size, 0, none⟩) n n] _ rfl (setRow_heap _ _ _ _ _ _ f5) rfl ⟨⟨_, rfl, f1, f2, f3⟩, f4⟩
end Go.Proofs.YtgfhaadcajlifaaDoor

namespace Go.Proofs.YtgfhaadcajlifaaDoor
set_option maxRecDepth 20000
open Go.RowKit

def pcell (p : List Stp) (bs : Nat → Nat) (j x : Nat) : Value :=
  if x / 2 < j then (if x % 2 = 0 then .int .i64 (p.getD (x / 2) default).at_ else .slice (some ⟨bs (x / 2), 0, none⟩) (p.getD (x / 2) default).sides.length (p.getD (x / 2) default).sides.length) else (if x % 2 = 0 then .int .i64 0 else .slice none 0 0)
theorem made_two (n : Nat) (a b : Value) : (madeCells #[a, b] n).toList = rowF n fun x => if x % 2 = 0 then a else b := by
  apply List.ext_getElem?
  intro i
  by_cases hi : i < n
  · rw [rowF_get _ _ _ hi]
    rcases Nat.mod_two_eq_zero_or_one i with h | h <;> simp [madeCells, hi, h]
  · rw [List.getElem?_eq_none (by simp [madeCells]; omega), List.getElem?_eq_none (by rw [rowF_length]; omega)]
theorem pcell_set (p : List Stp) (bs : Nat → Nat) (j b n : Nat) : (rowF n fun k => if k = j * 2 + 1 then Value.slice (some ⟨b, 0, none⟩) (p.getD j default).sides.length (p.getD j default).sides.length else if k = j * 2 then Value.int .i64 (p.getD j default).at_ else pcell p bs j k) = rowF n (pcell p (fun k => if k = j then b else bs k) (j + 1)) := by
  refine rowF_congr fun k _ => ?_
  by_cases h1 : k = j * 2 + 1
  · have e1 : k / 2 = j := by omega
    have e2 : ¬ k % 2 = 0 := by omega
    rw [if_pos h1]
    simp only [pcell]
    rw [e1]
    simp [e2]
  · rw [if_neg h1]
    by_cases h2 : k = j * 2
    · have e1 : k / 2 = j := by omega
      have e2 : k % 2 = 0 := by omega
      rw [if_pos h2]
      simp only [pcell]
      rw [e1]
      simp [e2]
    · rw [if_neg h2]
      simp only [pcell]
      by_cases h3 : k / 2 < j
      · rw [if_pos h3, if_pos (show k / 2 < j + 1 by omega)]
        have h4 : ¬ k / 2 = j := by omega
        simp [h4]
      · rw [if_neg h3, if_neg (show ¬ k / 2 < j + 1 by omega)]
/-- A path of one's own, in the block b. -/
structure PathOwn (w : World) (base b : Nat) (bs : Nat → Nat) (p : List Stp) (j : Nat) : Prop where
  row : Row w b 48 (rowF (p.length * 2) (pcell p bs j))
  low : base ≤ b
  sides : ∀ (k : Nat) (s : Stp), k < j → p[k]? = some s → RowS w (bs k) s.sides
  lows : ∀ k, k < j → base ≤ bs k ∧ bs k ≠ b
  inj : ∀ k k', k < j → k' < j → bs k = bs k' → k = k'
theorem PathOwn.keep {w w' : World} {base b : Nat} {bs : Nat → Nat} {p : List Stp} {j : Nat} (h : PathOwn w base b bs p j) (hk : ∀ k, base ≤ k → k < w.heap.size → w'.heap[k]? = w.heap[k]?) : PathOwn w' base b bs p j :=
  ⟨(hk b h.low (Row.lt h.row)).trans h.row, h.low, fun k s hkj hs => (h.sides k s hkj hs).keep (hk _ (h.lows k hkj).1 (h.sides k s hkj hs).lt), h.lows, h.inj⟩
theorem PathOwn.cells {w : World} {base b : Nat} {bs : Nat → Nat} {p : List Stp} (h : PathOwn w base b bs p p.length) {k : Nat} {s : Stp} (hs : p[k]? = some s) : w.cell? ⟨b, k * 2, none⟩ = some (.int .i64 s.at_) ∧ w.cell? ⟨b, k * 2 + 1, none⟩ = some (.slice (some ⟨bs k, 0, none⟩) s.sides.length s.sides.length) := by
  obtain ⟨hk, e⟩ := List.getElem?_eq_some_iff.1 hs
  have hd : p.getD k default = s := by simp [List.getD, hs]
  have h1 := Row.cellF h.row (k * 2) (by omega)
  have h2 := Row.cellF h.row (k * 2 + 1) (by omega)
  unfold pcell at h1 h2
  rw [show k * 2 / 2 = k by omega, if_pos hk, if_pos (by omega), hd] at h1
  rw [show (k * 2 + 1) / 2 = k by omega, if_pos hk, if_neg (by omega), hd] at h2
  exact ⟨h1, h2⟩
theorem PathOwn.pathIn {w : World} {base b : Nat} {bs : Nat → Nat} {p : List Stp} (h : PathOwn w base b bs p p.length) {G : Nat → Prop} (hG : ∀ k, G k → k < base) (hz : ∀ s, s ∈ p → s.sides.length ≤ 1000000) : PathIn w G (some ⟨b, 0, none⟩) p := fun k s hs => by
  obtain ⟨c1, c2⟩ := h.cells hs
  have hk := (List.getElem?_eq_some_iff.1 hs).1
  have hlz := hz s (List.mem_of_getElem? hs)
  refine ⟨b, 0, rfl, Row.lt h.row, fun hg => absurd (hG b hg) (Nat.not_lt_of_le h.low), ?_⟩
  rw [Nat.zero_add]
  refine ⟨c1, _, _, c2, Nat.le_refl _, by omega, (fun e => by cases e), fun i x hx => ?_⟩
  exact ⟨bs k, 0, rfl, (h.sides k s hk hs).lt, fun hg => absurd (hG _ hg) (Nat.not_lt_of_le (h.lows k hk).1), by rw [Nat.zero_add]; exact (h.sides k s hk hs).cell hx⟩
theorem tr_info_step : (Tryd.prog.info? 48).map (fun i => (i.zero, i.size, i.bytes)) = some (some (.agg #[.int .i64 0, .slice none 0 0]), 2, 32) := by kernel_rfl
section
variable {σ : Type} {K : HK σ}
theorem path_no {w0 w : World} {F G H : Nat → Prop} {B T : Nat} {S : σ} {l : List ByteArray} (t : TrOn K w0 w F G H B T S l) (i : Int) (hi : ¬ (0 ≤ i ∧ i < (l.length : Nat))) :
    Calls Tryd.prog 15 #[.pointer (some ⟨T, 0, none⟩), .int .i64 i] w fun e w' => e = .returned (.tuple #[.slice none 0 0, .int .i64 2]) ∧ w' = w := by
  have hh := has_on t i
  rw [decide_eq_false hi] at hh
  clear t hi
  go_enter Tryd.func15, Tryd.ntmps15
  go_wp2_with fail
  refine hh.mono ?_
  rintro e w1 ⟨rfl, rfl⟩
  go_wp2
  go_ret2
  exact ⟨rfl, rfl⟩
theorem pathOf_get (h : ByteArray → ByteArray) (l : List ByteArray) (i k : Nat) (hk : k < hgt l.length) : (pathOf h l i)[k]? = some (stepOf (rowAt h l k) (iK i k)) := by
  rw [pathOf, List.getElem?_map, List.getElem?_range hk]
  rfl
theorem pathOf_length (h : ByteArray → ByteArray) (l : List ByteArray) (i : Nat) : (pathOf h l i).length = hgt l.length := by simp [pathOf]
set_option maxHeartbeats 2000000 in
theorem path_yes {w0 w : World} {F G H : Nat → Prop} {B T : Nat} {S : σ} {l : List ByteArray} (t : TrOn K w0 w F G H B T S l) (i : Nat) (hl : l.length ≤ 200) (hi : i < l.length) :
    Calls Tryd.prog 15 #[.pointer (some ⟨T, 0, none⟩), .int .i64 (i : Int)] w fun e w' => (∃ b bs, e = .returned (.tuple #[.slice (some ⟨b, 0, none⟩) (pathOf (K.h S) l i).length (pathOf (K.h S) l i).length, .int .i64 0]) ∧ PathOwn w' w.heap.size b bs (pathOf (K.h S) l i) (pathOf (K.h S) l i).length) ∧ Below w.heap.size w w' := by
  have hh := has_on t i
  rw [decide_eq_true ⟨by omega, by omega⟩] at hh
  obtain ⟨rv, gs, htr⟩ := t.tree
  have hgl := hgt_le l.length
  obtain ⟨M, hM⟩ : ∃ M, M = hgt l.length := ⟨_, rfl⟩
  rw [← hM] at htr hgl
  have hrl : (rowsUp (K.h S) l M).length = M + 1 := rowsUp_length _ _ _
  obtain ⟨ra, cap, rfl, hcap, hcell⟩ := htr.form (by omega)
  have c1 := htr.c1
  rw [hrl] at c1
  have hpl : (pathOf (K.h S) l i).length = M := by rw [pathOf_length, hM]
  have HROW : Hid (∀ wr, Below w.heap.size w wr → ∀ k, k ≤ M → ∃ g, wr.cell? ⟨ra, k, none⟩ = some (.slice (some ⟨g, 0, none⟩) (rowAt (K.h S) l k).length (rowAt (K.h S) l k).length) ∧ RowS wr g (rowAt (K.h S) l k)) := fun wr hb k hk => by
    have hr := rowsUp_get (K.h S) l M k hk
    obtain ⟨g, hg⟩ := htr.gs0 hr
    have hrow := htr.row k g _ hg hr
    have lra : ra < w.heap.size := owns_lt htr.owns ra rfl
    exact ⟨g, (hb.cell (p := ⟨ra, k, none⟩) lra).trans (hcell k g _ hg hr), hrow.keep (hb.block g hrow.lt)⟩
  have lT := lt_of_block htr.obj
  have HT1 : Hid (∀ wr, Below w.heap.size w wr → wr.cell? ⟨T, 1, none⟩ = some (.slice (some ⟨ra, 0, none⟩) (M + 1) cap)) := fun wr hb => (hb.cell (p := ⟨T, 1, none⟩) lT).trans c1
  have HP : Hid (∀ k, k < M → (pathOf (K.h S) l i)[k]? = some (stepOf (rowAt (K.h S) l k) (iK i k))) := fun k hk => pathOf_get _ _ _ _ (by rw [← hM]; exact hk)
  have HRL : Hid (∀ k, (rowAt (K.h S) l k).length ≤ 200 ∧ iK i k < (rowAt (K.h S) l k).length) := fun k => by
    have h1 := upK_le l.length k
    have h2 := iK_lt hi k
    rw [rowAt_length]
    exact ⟨by omega, h2⟩
  have hM2 : M ≤ 200 := by omega
  generalize pathOf (K.h S) l i = P at *
  rw [hpl]
  clear t htr hM hcell hi hl hrl
  have m1 : IntKind.i64.wrap (((M + 1 : Nat) : Int) - 1) = (M : Int) := by rw [IntKind.wrap_i64]; omega
  have m2 : ((M + 1 : Nat) : Int) - 1 = (M : Int) := by omega
  have m3 : IntKind.i64.wrap ((M : Int) + 1 - 1) = (M : Int) := by rw [IntKind.wrap_i64]; omega
  obtain ⟨t0, hi0, hz⟩ := Option.map_eq_some_iff.1 tr_info_step
  simp only [Prod.mk.injEq] at hz
  obtain ⟨hz0, hz1, hz2⟩ := hz
  go_enter Tryd.func15, Tryd.ntmps15
  go_wp2_with fail
  refine hh.mono ?_
  rintro e w1 ⟨rfl, rfl⟩
  go_wp2_with (at_make; refine wpList_make_full _ rfl _ _ 41 rfl w1.heap.size 48 t0 (.agg #[.int .i64 0, .slice none 0 0]) 2 Tryd.underlying41 hi0 hz0 hz1 .i64 .i64 _ _ M rfl rfl rfl rfl ?a1 ?a2 ?a3 ?_)
  case a1 => rw [hz2]; omega
  case a2 => unfold maxLen; omega
  case a3 => exact Nat.le_refl _
  intro w2 hown2 hgrow2
  have hb2 : Below w1.heap.size w1 w2 := (Below.refl _ _).grown hgrow2 (Nat.le_refl _) (fun k hk => by simp at hk)
  have r2 : Row w2 w1.heap.size 48 (rowF (P.length * 2) (pcell P (fun _ => 0) 0)) := by
    rcases hown2.2 with ⟨e, _⟩ | ⟨g', cap', cur, e, hg', h3, h4, h5, h6, h7⟩
    · cases e
    · obtain ⟨e1, e2, e3⟩ := Value.slice.inj e
      have e4 := congrArg Addr.block (Option.some.inj e1)
      simp at e4
      subst e4 e3
      have e5 : cur.toList = (madeCells #[.int .i64 0, .slice none 0 0] (M * 2)).toList := by
        rw [← List.take_of_length_le (l := cur.toList) (i := M * 2) (by simp [h6])]
        exact h7
      unfold Row
      rw [h3]
      have e6 : rowF (P.length * 2) (pcell P (fun _ => 0) 0) = cur.toList := by
        rw [e5, made_two, hpl]
        rfl
      rw [e6]
  have HI : Hid (PathOwn w2 w1.heap.size w1.heap.size (fun _ => 0) P 0 ∧ Below w1.heap.size w1 w2) := ⟨⟨r2, Nat.le_refl _, fun k s hk => absurd hk (Nat.not_lt_zero k), fun k hk => absurd hk (Nat.not_lt_zero k), fun k k' hk => absurd hk (Nat.not_lt_zero k)⟩, hb2⟩
  clear hh hown2 hgrow2 hb2 r2 hz0 hz1 hz2 hi0 c1
  go_wp2_with fail
  go_loopw [1, 21] (fun iv kv wr => ∃ (j : Nat) (bs : Nat → Nat), j ≤ M ∧ kv = .int .i64 (j : Int) ∧ iv = .int .i64 (iK i j : Nat) ∧ PathOwn wr w1.heap.size w1.heap.size bs P j ∧ Below w1.heap.size w1 wr) (fun _ kv _ => M - (intOf kv).toNat)
  case atStart => exact ⟨0, _, Nat.zero_le _, rfl, rfl, HI.out⟩
  case round =>
    clear HI
    obtain ⟨j, bs, hj, rfl, rfl, hpo, hb⟩ := hrel
    by_cases hlt : j < M
    · have j1 : (j : Int) < M := by omega
      have j2 : (j : Int) < ((M + 1 : Nat) : Int) := by omega
      have j3 : (j : Int) < (M : Int) + 1 := by omega
      obtain ⟨g, cg, hrow⟩ := HROW.out wr hb j (by omega)
      have cT := HT1.out wr hb
      have hrl := HRL.out j
      have hst := step_any wr g (iK i j) (rowAt (K.h S) l j) hrow (by omega) hrl.2
      have hPj := HP.out j hlt
      obtain ⟨st, hst'⟩ : ∃ st, st = stepOf (rowAt (K.h S) l j) (iK i j) := ⟨_, rfl⟩
      rw [← hst'] at hst hPj
      have hgd : P.getD j default = st := by simp [List.getD, hPj]
      have d1 := Row.cellF hpo.row (j * 2) (by rw [hpl]; omega)
      have d2 := Row.cellF hpo.row (j * 2 + 1) (by rw [hpl]; omega)
      have f1 := Row.frozen hpo.row (j * 2)
      have f2 := Row.frozen hpo.row (j * 2 + 1)
      have lb := Row.lt hpo.row
      have m4 : ((iK i j : Nat) : Int).tdiv 4 = ((iK i (j + 1) : Nat) : Int) := by rw [Int.tdiv_eq_ediv_of_nonneg (by omega)]; show _ = ((iK i j / 4 : Nat) : Int); omega
      have m5 : ((iK i j : Nat) : Int) / 4 = ((iK i (j + 1) : Nat) : Int) := by show _ = ((iK i j / 4 : Nat) : Int); omega
      have m6 : IntKind.i64.wrap ((iK i (j + 1) : Nat) : Int) = ((iK i (j + 1) : Nat) : Int) := by
        have : iK i (j + 1) ≤ iK i j := Nat.div_le_self _ _
        rw [IntKind.wrap_i64]
        omega
      have HPO : Hid (PathOwn wr w1.heap.size w1.heap.size bs P j ∧ Below w1.heap.size w1 wr) := ⟨hpo, hb⟩
      generalize (rowAt (K.h S) l j).length = rl at *
      generalize pcell P bs j (j * 2) = u1 at *
      generalize pcell P bs j (j * 2 + 1) = u2 at *
      obtain ⟨i2, hi2⟩ : ∃ x, x = iK i (j + 1) := ⟨_, rfl⟩
      have HI2 : Hid (i2 = iK i (j + 1)) := hi2
      rw [← hi2] at m4 m5 m6
      clear hi2
      generalize iK i j = i1 at *
      generalize hsl : st.sides.length = sl at *
      generalize hsa : st.at_ = sa at *
      have HGD : Hid ((P.getD j default).sides.length = sl ∧ (P.getD j default).at_ = sa ∧ P[j]? = some st) := ⟨by rw [hgd]; exact hsl, by rw [hgd]; exact hsa, hPj⟩
      clear hpo hb hst' hgd hrow hsl hsa hPj hrl
      go_wp2_with fail
      refine hst.mono ?_
      rintro e w3 ⟨⟨b', rfl, hr3, hl3, hl4⟩, hb3⟩
      have e1 := (cell_kept_1 (hb3.block _ lb) (j * 2)).trans d1
      have e2 := (cell_kept_1 (hb3.block _ lb) (j * 2 + 1)).trans d2
      have e3 := (World.frozen?_of_block (a := ⟨w1.heap.size, j * 2, none⟩) (hb3.block _ lb)).trans f1
      have e4 := (World.frozen?_of_block (a := ⟨w1.heap.size, j * 2 + 1, none⟩) (hb3.block _ lb)).trans f2
      obtain ⟨w4, hw4⟩ : ∃ w4, (w3.setCell ⟨w1.heap.size, j * 2, none⟩ (.int .i64 sa)).setCell ⟨w1.heap.size, j * 2 + 1, none⟩ (.slice (some ⟨b', 0, none⟩) sl sl) = w4 := ⟨_, rfl⟩
      have HF : Hid (PathOwn w4 w1.heap.size w1.heap.size (fun k => if k = j then b' else bs k) P (j + 1) ∧ Below w1.heap.size w1 w4) := by
        obtain ⟨hpo, hb⟩ := HPO.out
        obtain ⟨g1, g2, g3⟩ := HGD.out
        have hz := hb.size
        have hkeep : ∀ k, k ≠ w1.heap.size → w4.heap[k]? = w3.heap[k]? := fun k hk => by
          rw [← hw4, Below.heap_setCell _ _ _ _ (show k ≠ (⟨w1.heap.size, j * 2 + 1, none⟩ : Addr).block from hk), Below.heap_setCell _ _ _ _ (show k ≠ (⟨w1.heap.size, j * 2, none⟩ : Addr).block from hk)]
        refine ⟨⟨?_, Nat.le_refl _, ?_, ?_, ?_⟩, ?_⟩
        · have h1 := Row.setF (Row.setF (show Row w3 w1.heap.size 48 _ from (hb3.block _ lb).trans hpo.row) (j * 2) (.int .i64 sa)) (j * 2 + 1) (.slice (some ⟨b', 0, none⟩) sl sl)
          rw [hw4, ← g1, ← g2, pcell_set] at h1
          exact h1
        · intro k s hk hs
          by_cases e : k = j
          · subst e
            rw [g3] at hs
            obtain rfl := Option.some.inj hs
            rw [if_pos rfl]
            exact hr3.keep (hkeep b' (by omega))
          · rw [if_neg e]
            have h1 := hpo.sides k s (by omega) hs
            exact h1.keep ((hkeep _ (hpo.lows k (by omega)).2).trans (hb3.block _ h1.lt))
        · intro k hk
          by_cases e : k = j
          · rw [if_pos e]; exact ⟨by omega, by omega⟩
          · rw [if_neg e]; exact hpo.lows k (by omega)
        · intro k k' hk hk'
          by_cases e : k = j
          · rw [if_pos e]
            by_cases e' : k' = j
            · intro _; omega
            · rw [if_neg e']
              intro h
              obtain ⟨s, hs⟩ : ∃ s, P[k']? = some s := ⟨_, List.getElem?_eq_getElem (by omega)⟩
              have := (hpo.sides k' s (by omega) hs).lt
              omega
          · rw [if_neg e]
            by_cases e' : k' = j
            · rw [if_pos e']
              intro h
              obtain ⟨s, hs⟩ : ∃ s, P[k]? = some s := ⟨_, List.getElem?_eq_getElem (by omega)⟩
              have := (hpo.sides k s (by omega) hs).lt
              omega
            · rw [if_neg e']
              exact hpo.inj k k' (by omega) (by omega)
        · rw [← hw4]
          exact ((hb.trans (hb3.mono hz)).setCell (p := ⟨w1.heap.size, j * 2, none⟩) (Nat.le_refl _) _).setCell (p := ⟨w1.heap.size, j * 2 + 1, none⟩) (Nat.le_refl _) _
      have c9 : (w3.setCell ⟨w1.heap.size, j * 2, none⟩ (.int .i64 sa)).cell? ⟨w1.heap.size, j * 2 + 1, none⟩ = some u2 := by
        have h1 := Row.setF (show Row w3 w1.heap.size 48 _ from (hb3.block _ lb).trans HPO.out.1.row) (j * 2) (.int .i64 sa)
        have h2 := Row.cellF h1 (j * 2 + 1) (by rw [hpl]; omega)
        rw [if_neg (by omega)] at h2
        have h3 := Row.cellF (show Row w3 w1.heap.size 48 _ from (hb3.block _ lb).trans HPO.out.1.row) (j * 2 + 1) (by rw [hpl]; omega)
        rw [e2] at h3
        rw [h2, ← h3]
      have f9 : (w3.setCell ⟨w1.heap.size, j * 2, none⟩ (.int .i64 sa)).frozen? ⟨w1.heap.size, j * 2 + 1, none⟩ = false := Row.frozen (Row.setF (show Row w3 w1.heap.size 48 _ from (hb3.block _ lb).trans HPO.out.1.row) (j * 2) (.int .i64 sa)) (j * 2 + 1)
      clear hst hr3 hl3 hl4 hb3 HPO HGD d1 d2 f1 f2 cg cT
      go_wp2
      go_roundw
      case rel => exact ⟨j + 1, _, by omega, by go_num, by rw [HI2.out], HF.out⟩
      case measure => simp [intOf]; omega
    · obtain rfl : j = M := by omega
      have j1 : ¬ (j : Int) < j := by omega
      have HF : Hid (PathOwn wr w1.heap.size w1.heap.size bs P j ∧ Below w1.heap.size w1 wr) := ⟨hpo, hb⟩
      generalize iK i j = i1 at *
      clear hpo hb
      go_wp2
      go_ret2
      first
        | exact ⟨⟨_, _, rfl, HF.out.1⟩, HF.out.2⟩
        | exact ⟨⟨_, rfl, _, HF.out.1⟩, HF.out.2⟩
end
end Go.Proofs.YtgfhaadcajlifaaDoor

namespace Go.Proofs.YtgfhaadcajlifaaDoor
set_option maxRecDepth 20000
open Go.RowKit

/-- A path that is read. -/
def StepR (w : World) (bk o : Nat) (s : Stp) : Prop := w.cell? ⟨bk, o, none⟩ = some (.int .i64 s.at_) ∧ ∃ ob cb, w.cell? ⟨bk, o + 1, none⟩ = some (.slice ob s.sides.length cb) ∧ ∀ (i : Nat) (x : ByteArray), s.sides[i]? = some x → ∃ b2 o2, ob = some ⟨b2, o2, none⟩ ∧ w.cell? ⟨b2, o2 + i, none⟩ = some (.string x)
def PathR (w : World) (oa : Option Addr) (p : List Stp) : Prop := ∀ (k : Nat) (s : Stp), p[k]? = some s → ∃ bk o, oa = some ⟨bk, o, none⟩ ∧ StepR w bk (o + k * 2) s
theorem PathR.keep {w w' : World} {oa : Option Addr} {p : List Stp} (h : PathR w oa p) (e : ∀ a, w'.cell? a = w.cell? a) : PathR w' oa p := fun k s hs => by
  obtain ⟨bk, o, h1, h2, ob, cb, h3, h4⟩ := h k s hs
  exact ⟨bk, o, h1, (e _).trans h2, ob, cb, (e _).trans h3, fun i x hx => by obtain ⟨b2, o2, g1, g2⟩ := h4 i x hx; exact ⟨b2, o2, g1, (e _).trans g2⟩⟩
theorem PathIn.read {w : World} {G : Nat → Prop} {oa : Option Addr} {p : List Stp} (h : PathIn w G oa p) : PathR w oa p := fun k s hs => by
  obtain ⟨bk, o, h1, _, _, h2, ob, cb, h3, _, _, _, h4⟩ := h k s hs
  exact ⟨bk, o, h1, h2, ob, cb, h3, fun i x hx => by obtain ⟨b2, o2, g1, _, _, g2⟩ := h4 i x hx; exact ⟨b2, o2, g1, g2⟩⟩
set_option maxHeartbeats 4000000 in
theorem same_any (w : World) (oa ob : Option Addr) (ca cb : Nat) (p : List Stp) (hp : p.length ≤ 1000000) (hs : ∀ s, s ∈ p → s.sides.length ≤ 1000000) (h1 : PathR w oa p) (h2 : PathR w ob p) :
    Calls Tryd.prog 17 #[.slice oa p.length ca, .slice ob p.length cb] w fun e w' => e = .returned (.bool true) ∧ Below w.heap.size w w' := by
  have H1 : Hid (PathR w oa p ∧ PathR w ob p) := ⟨h1, h2⟩
  have HS : Hid (∀ s, s ∈ p → s.sides.length ≤ 1000000) := hs
  obtain ⟨n, hn⟩ : ∃ n, n = p.length := ⟨_, rfl⟩
  have HN : Hid (n = p.length) := hn
  rw [← hn] at hp ⊢
  clear h1 h2 hs hn
  go_enter Tryd.func17, Tryd.ntmps17
  go_wp2_with fail
  go_loopw [5] (fun kv wr => ∃ k : Nat, k ≤ n ∧ kv = .int .i64 (k : Int) ∧ (∀ a, wr.cell? a = w.cell? a) ∧ Below w.heap.size w wr) (fun kv _ => n - (intOf kv).toNat)
  case atStart => exact ⟨0, Nat.zero_le _, rfl, fun _ => rfl, Below.refl _ _⟩
  case round =>
    obtain ⟨k, hk, rfl, hce, hb⟩ := hrel
    by_cases hlt : k < n
    · have k1 : (k : Int) < n := by omega
      have hkl : k < p.length := by rw [← HN.out]; exact hlt
      have a1 := H1.out.1.keep hce
      have a2 := H1.out.2.keep hce
      obtain ⟨s, hsk⟩ : ∃ s, p[k]? = some s := ⟨_, List.getElem?_eq_getElem hkl⟩
      have hsl := HS.out s (List.mem_of_getElem? hsk)
      obtain ⟨b1, o1, rfl, c1, x1, y1, c2, t1⟩ := a1 k s hsk
      obtain ⟨b2, o2, rfl, c3, x2, y2, c4, t2⟩ := a2 k s hsk
      obtain ⟨m, hm⟩ : ∃ m, m = s.sides.length := ⟨_, rfl⟩
      have HM : Hid (m = s.sides.length) := hm
      rw [← hm] at c2 c4 hsl
      generalize s.at_ = sa at *
      have HT : Hid ((∀ (i : Nat) (x : ByteArray), s.sides[i]? = some x → ∃ b2 o2, x1 = some ⟨b2, o2, none⟩ ∧ wr.cell? ⟨b2, o2 + i, none⟩ = some (.string x)) ∧ (∀ (i : Nat) (x : ByteArray), s.sides[i]? = some x → ∃ b2 o2, x2 = some ⟨b2, o2, none⟩ ∧ wr.cell? ⟨b2, o2 + i, none⟩ = some (.string x))) := ⟨t1, t2⟩
      have HCE : Hid ((∀ a, wr.cell? a = w.cell? a) ∧ Below w.heap.size w wr) := ⟨hce, hb⟩
      have HC : Hid (wr.cell? ⟨b1, o1 + k * 2 + 1, none⟩ = some (.slice x1 m y1) ∧ wr.cell? ⟨b2, o2 + k * 2 + 1, none⟩ = some (.slice x2 m y2)) := ⟨c2, c4⟩
      clear t1 t2 hce hb a1 a2 hm hsk H1
      go_wp2_with fail
      go_quiet (fail)
      have HCD : Hid ((∀ a, (wr.drewN nq).cell? a = wr.cell? a) ∧ Below w.heap.size w (wr.drewN nq)) := ⟨fun _ => rfl, below_drewN HCE.out.2 nq⟩
      generalize wr.drewN nq = wd at *
      clear c1 c2 c3 c4
      generalize wr = wo at *
      go_wp2_with fail
      go_loopw [6] (fun jv wr => ∃ j : Nat, j ≤ m ∧ jv = .int .i64 (j : Int) ∧ (∀ a, wr.cell? a = wo.cell? a) ∧ Below w.heap.size w wr) (fun jv _ => m - (intOf jv).toNat)
      case atStart => exact ⟨0, Nat.zero_le _, rfl, HCD.out⟩
      case round =>
        clear HCD
        obtain ⟨j, hj, rfl, hcj, hbj⟩ := hrel
        have c2 := (hcj _).trans HC.out.1
        have c4 := (hcj _).trans HC.out.2
        by_cases hlt2 : j < m
        · have j1 : (j : Int) < m := by omega
          have hjl : j < s.sides.length := by rw [← HM.out]; exact hlt2
          obtain ⟨b3, o3, rfl, d1⟩ := HT.out.1 j _ (List.getElem?_eq_getElem hjl)
          obtain ⟨b4, o4, rfl, d2⟩ := HT.out.2 j _ (List.getElem?_eq_getElem hjl)
          have d1' := (hcj _).trans d1
          have d2' := (hcj _).trans d2
          generalize s.sides[j] = x at *
          have hcm := cmp_is x x
          rw [decide_eq_true rfl] at hcm
          have HCJ : Hid ((∀ a, wr.cell? a = wo.cell? a) ∧ Below w.heap.size w wr) := ⟨hcj, hbj⟩
          clear hcj hbj d1 d2
          go_wp2_with fail
          go_quiet (fail)
          have HF : Hid ((∀ a, (wr.drewN nq).cell? a = wo.cell? a) ∧ Below w.heap.size w (wr.drewN nq)) := ⟨fun a => HCJ.out.1 a, below_drewN HCJ.out.2 nq⟩
          generalize wr.drewN nq = wq at *
          clear HCJ c2 c4 d1' d2'
          go_wp2
          go_roundw
          case rel => exact ⟨j + 1, by omega, by go_num, HF.out⟩
          case measure => simp [intOf]; omega
        · obtain rfl : j = m := by omega
          have j1 : ¬ (j : Int) < j := by omega
          have HF : Hid ((∀ a, wr.cell? a = w.cell? a) ∧ Below w.heap.size w wr) := ⟨fun a => (hcj a).trans (HCE.out.1 a), hbj⟩
          clear hcj hbj
          go_wp2
          go_roundw
          case rel => exact ⟨k + 1, by omega, by go_num, HF.out⟩
          case measure => simp [intOf]; omega
    · obtain rfl : k = n := by omega
      have k1 : ¬ (k : Int) < k := by omega
      have HF : Hid (Below w.heap.size w wr) := hb
      clear hce hb
      go_wp2
      go_ret
      exact ⟨rfl, HF.out⟩
end Go.Proofs.YtgfhaadcajlifaaDoor

namespace Go.Proofs.YtgfhaadcajlifaaDoor
set_option maxRecDepth 20000
open Go.RowKit

def cellsP : List Value → List Stp → List Value
  | u :: us, s :: p => .int .i64 s.at_ :: u :: cellsP us p
  | _, _ => []
theorem cellsP_snoc : ∀ (us : List Value) (p : List Stp) (u : Value) (s : Stp), us.length = p.length → cellsP (us ++ [u]) (p ++ [s]) = cellsP us p ++ [.int .i64 s.at_, u]
  | [], [], u, s, _ => rfl
  | x :: us, y :: p, u, s, h => by
    show Value.int .i64 y.at_ :: x :: cellsP (us ++ [u]) (p ++ [s]) = _
    rw [cellsP_snoc us p u s (by simpa using h)]
    rfl
theorem cellsP_get : ∀ (us : List Value) (p : List Stp) (k : Nat) (u : Value) (s : Stp), us[k]? = some u → p[k]? = some s → (cellsP us p)[k * 2]? = some (.int .i64 s.at_) ∧ (cellsP us p)[k * 2 + 1]? = some u
  | [], _, k, u, s, h, _ => by simp at h
  | _ :: _, [], k, u, s, _, h => by simp at h
  | x :: us, y :: p, 0, u, s, h1, h2 => by
    simp at h1 h2
    subst h1 h2
    exact ⟨rfl, rfl⟩
  | x :: us, y :: p, k + 1, u, s, h1, h2 => by
    have := cellsP_get us p k u s (by simpa using h1) (by simpa using h2)
    rw [show (k + 1) * 2 = k * 2 + 1 + 1 by omega]
    exact this
structure PathAt (w : World) (base : Nat) (v : Value) (us : List Value) (p : List Stp) : Prop where
  owns : w.ownsRow base 48 2 v p.length (cellsP us p)
  len : us.length = p.length
  row : ∀ (k : Nat) (u : Value) (s : Stp), us[k]? = some u → p[k]? = some s → OwnL w base u s.sides
  nR : ∀ (u : Value), u ∈ us → ∀ g, u.ownBlock = some g → v.ownBlock ≠ some g
theorem PathAt.below {w w' : World} {base : Nat} {v : Value} {us : List Value} {p : List Stp} (t : PathAt w base v us p) (hb : Below w.heap.size w w') : PathAt w' base v us p :=
  ⟨owns_keepG t.owns fun g hg => hb.block g (owns_ltG t.owns g hg).2, t.len, fun k u r h1 h2 => OwnL.keep (t.row k u r h1 h2) fun q _ hq _ => hb.block q hq, t.nR⟩
theorem PathAt.append {w w' : World} {base : Nat} {v v' : Value} {us : List Value} {p : List Stp} {u : Value} {s : Stp} {x : Obj} (t : PathAt w base v us p) (hu : OwnL w base u s.sides) (hn : ∀ g, u.ownBlock = some g → v.ownBlock ≠ some g)
    (hown : w'.ownsRow base 48 2 v' (p.length + 1) (cellsP us p ++ [.int .i64 s.at_, u])) (hgr : (w.alloc x).grownBy w' v.ownBlock) (hat : v'.ownBlock = v.ownBlock ∨ v'.ownBlock = some (w.alloc x).heap.size) : PathAt w' base v' (us ++ [u]) (p ++ [s]) := by
  have hz : (w.alloc x).heap.size = w.heap.size + 1 := by simp
  have kp : ∀ k, k < w.heap.size → v.ownBlock ≠ some k → w'.heap[k]? = w.heap[k]? := fun k hk hn => (hgr.block k (by omega) fun e => hn e.symm).trans (Below.heap_alloc w x k hk)
  have ho' : ∀ k, k < w.heap.size → v.ownBlock ≠ some k → v'.ownBlock ≠ some k := fun k hk hn => by
    rcases hat with e | e
    · rw [e]; exact hn
    · rw [e]; intro e2; have := Option.some.inj e2; omega
  refine ⟨by rw [List.length_append, cellsP_snoc _ _ _ _ t.len]; exact hown, by simp [t.len], ?_, ?_⟩
  · intro k u' r' h1 h2
    by_cases hk : k < us.length
    · rw [List.getElem?_append_left hk] at h1
      rw [List.getElem?_append_left (by rw [← t.len]; exact hk)] at h2
      exact OwnL.keep (t.row k u' r' h1 h2) fun q _ hq hq2 => kp q hq (t.nR u' (List.mem_of_getElem? h1) q hq2)
    · have hk2 : k = us.length := by
        have := (List.getElem?_eq_some_iff.1 h1).1
        simp at this
        omega
      subst hk2
      rw [List.getElem?_append_right (Nat.le_refl _), Nat.sub_self] at h1
      rw [t.len, List.getElem?_append_right (Nat.le_refl _), Nat.sub_self] at h2
      obtain rfl : u = u' := Option.some.inj h1
      obtain rfl : s = r' := Option.some.inj h2
      exact OwnL.keep hu fun q _ hq hq2 => kp q hq (hn q hq2)
  · intro u' hu' g hg
    rcases List.mem_append.1 hu' with h | h
    · obtain ⟨k, hk, e⟩ := List.mem_iff_getElem.1 h
      have h1 : us[k]? = some u' := by rw [List.getElem?_eq_getElem hk, e]
      have h2 : k < p.length := by rw [← t.len]; exact hk
      exact ho' g (OwnL.lt (t.row k u' _ h1 (List.getElem?_eq_getElem h2)) hg).2 (t.nR u' h g hg)
    · obtain rfl := List.mem_singleton.1 h
      exact ho' g (OwnL.lt hu hg).2 (hn g hg)
theorem PathAt.read {w : World} {base : Nat} {v : Value} {us : List Value} {p : List Stp} (t : PathAt w base v us p) : ∃ oa cap, v = .slice oa p.length cap ∧ PathR w oa p := by
  obtain ⟨oa, cap, rfl⟩ := owns_slice3 t.owns
  refine ⟨oa, cap, rfl, fun k s hs => ?_⟩
  have hk := (List.getElem?_eq_some_iff.1 hs).1
  obtain ⟨g, cap', e, _, _, hcell⟩ := owns_formG t.owns (by omega)
  obtain ⟨rfl, _, _⟩ := Value.slice.inj e
  obtain ⟨u, hu⟩ : ∃ u, us[k]? = some u := ⟨_, List.getElem?_eq_getElem (by rw [t.len]; exact hk)⟩
  obtain ⟨c1, c2⟩ := cellsP_get us p k u s hu hs
  have hrow := t.row k u s hu hs
  obtain ⟨ob, cb, rfl⟩ := OwnL.form hrow
  refine ⟨g, 0, rfl, ?_, ob, cb, ?_, fun i x hx => ?_⟩
  · rw [Nat.zero_add]; exact hcell _ _ c1
  · rw [Nat.zero_add]; exact hcell _ _ c2
  · obtain ⟨g2, rfl, _, _, h3, _⟩ := OwnL.cell hrow hx
    exact ⟨g2, 0, rfl, by rw [Nat.zero_add]; exact h3⟩
theorem erase_at {g : List ByteArray} {a j : Nat} (hj : j < g.length) (e : j = a) : (g.take (j + 1)).eraseIdx a = (g.take j).eraseIdx a := by
  subst e
  have hl : (g.take j).length = j := by rw [List.length_take]; omega
  rw [List.take_add_one, List.getElem?_eq_getElem hj]
  show (g.take j ++ [g[j]]).eraseIdx j = (g.take j).eraseIdx j
  rw [List.eraseIdx_append_of_length_le (l := g.take j) (Nat.le_of_eq hl), List.eraseIdx_of_length_le (l := g.take j) (Nat.le_of_eq hl), hl, Nat.sub_self]
  simp
theorem erase_not {g : List ByteArray} {a j : Nat} (hj : j < g.length) (e : ¬ j = a) : (g.take (j + 1)).eraseIdx a = (g.take j).eraseIdx a ++ [g[j]] := by
  have hl : (g.take j).length = j := by rw [List.length_take]; omega
  rw [List.take_add_one, List.getElem?_eq_getElem hj]
  show (g.take j ++ [g[j]]).eraseIdx a = _
  by_cases h : a < j
  · rw [List.eraseIdx_append_of_lt_length (by omega)]
  · rw [List.eraseIdx_of_length_le (by simp; omega), List.eraseIdx_of_length_le (by omega)]
section
variable {R : World → Prop} {h : ByteArray → ByteArray} {B : Nat}
theorem rpath_no (w : World) (oa : Option Addr) (n c : Nat) (i : Int) (hi : ¬ (0 ≤ i ∧ i < (n : Nat))) :
    Calls Tryd.prog 16 #[.pointer (some ⟨B, 0, none⟩), .slice oa n c, .int .i64 i] w fun e w' => e = .returned (.tuple #[.slice none 0 0, .int .i64 2]) ∧ w' = w := by
  have hway : i < 0 ∨ (¬ i < 0 ∧ (n : Int) ≤ i) := by omega
  clear hi
  rcases hway with h1 | ⟨h1, h2⟩
  all_goals
    go_enter Tryd.func16, Tryd.ntmps16
    go_wp2
    go_ret2
    exact ⟨rfl, rfl⟩
set_option maxHeartbeats 8000000 in
theorem rpath_any (Q : RV R h B) (hh : ∀ x, (h x).size = 32) (w : World) (oa : Option Addr) (c : Nat) (l : List ByteArray) (i : Nat) (hi : i < l.length) (hlv : Lv w (fun _ => False) oa l) (hlen : l.length ≤ 200) (hs : ∀ x, x ∈ l → x.size ≤ 1000) (hr : R w) :
    Calls Tryd.prog 16 #[.pointer (some ⟨B, 0, none⟩), .slice oa l.length c, .int .i64 (i : Int)] w fun e w' => (∃ ob cb, e = .returned (.tuple #[.slice ob (pathOf h l i).length cb, .int .i64 0]) ∧ PathR w' ob (pathOf h l i)) ∧ Below w.heap.size w w' := by
  obtain ⟨i0, hi0, hz0, hz1, hz2⟩ := info_parts tr_info_string
  obtain ⟨i1, hi1, hy0, hy1, hy2⟩ := info_parts tr_info_step
  have hrw := rrows_any Q hh w oa c l hlv hlen hs hr
  obtain ⟨M, hM⟩ : ∃ M, M = hgt l.length := ⟨_, rfl⟩
  have hM2 : M ≤ 200 := by have := hgt_le l.length; omega
  obtain ⟨P, hP⟩ : ∃ P, P = pathOf h l i := ⟨_, rfl⟩
  have hPl : P.length = M := by rw [hP, pathOf_length, hM]
  have HPL : Hid (P.length = M) := hPl
  have HP : Hid (∀ k, k < M → P[k]? = some (stepOf (rowAt h l k) (iK i k))) := fun k hk => by rw [hP]; exact pathOf_get h l i k (by rw [← hM]; exact hk)
  have HRL : Hid (∀ k, (rowAt h l k).length ≤ 200 ∧ iK i k < (rowAt h l k).length) := fun k => by
    have h1 := upK_le l.length k
    have h2 := iK_lt hi k
    rw [rowAt_length]
    exact ⟨by omega, h2⟩
  obtain ⟨m, hm⟩ : ∃ m, m = l.length := ⟨_, rfl⟩
  rw [← hM] at hrw
  rw [← hm] at hrw hlen hi ⊢
  rw [← hP, hPl]
  have g1 : ¬ (i : Int) < 0 := by omega
  have g2 : ¬ (m : Int) ≤ i := by omega
  have g3 : (i : Int) < m := by omega
  clear hr hlv hs hm hM hP hPl
  go_enter Tryd.func16, Tryd.ntmps16
  go_wp2_with fail
  refine hrw.mono ?_
  rintro e w1 ⟨⟨v, vs, rfl, hra⟩, hb1⟩
  have hown := hra.owns
  rw [rowsUp_length] at hown
  obtain ⟨g, cap, rfl, hcap, hg, hcell⟩ := owns_formG hown (by omega)
  have hvl : vs.length = M + 1 := by rw [hra.len, rowsUp_length]
  have HROW : Hid (∀ wr, Below w1.heap.size w1 wr → ∀ k, k ≤ M → ∃ ou cu, wr.cell? ⟨g, k, none⟩ = some (.slice ou (rowAt h l k).length cu) ∧ OwnL wr w.heap.size (.slice ou (rowAt h l k).length cu) (rowAt h l k)) := fun wr hb k hk => by
    obtain ⟨u, hu⟩ : ∃ u, vs[k]? = some u := ⟨_, List.getElem?_eq_getElem (by omega)⟩
    have hrow := hra.row k u _ hu (rowsUp_get h l M k hk)
    obtain ⟨ou, cu, rfl⟩ := OwnL.form hrow
    exact ⟨ou, cu, (hb.cell (p := ⟨g, k, none⟩) hg).trans (hcell k _ hu), OwnL.keep hrow fun q _ hq _ => hb.block q hq⟩
  have HB1 : Hid (Below w.heap.size w w1) := hb1
  have hz1w := hb1.size
  clear hrw hown hcell hvl hra hb1
  go_wp2_with fail
  go_loopw [2, 9, 10] (fun iv ov kv wr => ∃ (k : Nat) (us : List Value), k ≤ M ∧ kv = .int .i64 (k : Int) ∧ iv = .int .i64 (iK i k : Nat) ∧ PathAt wr w1.heap.size ov us (P.take k) ∧ Below w1.heap.size w1 wr) (fun _ _ kv _ => M - (intOf kv).toNat)
  case atStart => exact ⟨0, [], Nat.zero_le _, rfl, rfl, ⟨World.ownsRow_nil _ _ _ _, rfl, fun k u s h1 => by simp at h1, fun u hu => by simp at hu⟩, Below.refl _ _⟩
  case round =>
    obtain ⟨k, us, hk, rfl, rfl, hpa, hb⟩ := hrel
    have m1 : IntKind.i64.wrap ((k : Int) + 1) = (k : Int) + 1 := by rw [IntKind.wrap_i64]; omega
    by_cases hlt : k < M
    · have k1 : (k : Int) + 1 < ((M + 1 : Nat) : Int) := by omega
      have k2 : (k : Int) + 1 < (M : Int) + 1 := by omega
      have k3 : (k : Int) < ((M + 1 : Nat) : Int) := by omega
      have k4 : (k : Int) < (M : Int) + 1 := by omega
      have k5 : (k : Int) < (M : Int) := by omega
      obtain ⟨ou, cu, cG, hrow⟩ := HROW.out wr hb k (by omega)
      obtain ⟨hrl, hxl⟩ := HRL.out k
      have hPk := HP.out k hlt
      obtain ⟨x, hx⟩ : ∃ x, x = iK i k := ⟨_, rfl⟩
      have HX2 : Hid (x / 4 = iK i (k + 1)) := by rw [hx]; rfl
      rw [← hx] at hxl hPk ⊢
      obtain ⟨r, hr⟩ : ∃ r, r = rowAt h l k := ⟨_, rfl⟩
      rw [← hr] at hrl hxl hPk cG hrow
      obtain ⟨gr, rfl, _, lgr, hcx, _⟩ := OwnL.cell hrow (List.getElem?_eq_getElem hxl)
      have hcu : r.length ≤ cu := by
        have h1 := hrow
        unfold OwnL at h1
        obtain ⟨_, _, e, h2, _, _⟩ := owns_formG h1 (by omega)
        obtain ⟨_, _, rfl⟩ := Value.slice.inj e
        exact h2
      have hgp := fun w' => rgroup_any w' gr 0 cu r.length x hxl (by omega) hcu
      obtain ⟨G, hG⟩ : ∃ G, G = grp r (x / 4) := ⟨_, rfl⟩
      have hGl : G.length = min 4 (r.length - 4 * (x / 4)) := by rw [hG, grp_length]
      rw [← hGl] at hgp
      have HGC : Hid (∀ (j : Nat) (y : ByteArray), G[j]? = some y → wr.cell? ⟨gr, 0 + 4 * (x / 4) + j, none⟩ = some (.string y)) := fun j y hy => by
        have hj : j < 4 := by have := (List.getElem?_eq_some_iff.1 hy).1; omega
        rw [hG, grp_get _ _ _ hj] at hy
        obtain ⟨g2, e2, _, _, h3, _⟩ := OwnL.cell hrow hy
        have e3 := congrArg Addr.block (Option.some.inj e2)
        simp at e3
        subst e3
        rw [Nat.zero_add]
        exact h3
      obtain ⟨a, ha⟩ : ∃ a, a = x % 4 := ⟨_, rfl⟩
      have HST : Hid (P[k]? = some ⟨(a : Nat), (G.take G.length).eraseIdx a⟩) := by rw [hPk, List.take_length, hG, ha]; rfl
      have n1 : ((x : Int).tmod 4) = a := by rw [Int.tmod_eq_emod_of_nonneg (by omega)]; omega
      have n2 : ((x : Int) % 4) = a := by omega
      have n3 : IntKind.i64.wrap (a : Int) = a := by rw [IntKind.wrap_i64]; omega
      obtain ⟨x4, hx4⟩ : ∃ x4, x4 = x / 4 := ⟨_, rfl⟩
      have n4 : ((x : Int).tdiv 4) = x4 := by rw [Int.tdiv_eq_ediv_of_nonneg (by omega)]; omega
      have n5 : ((x : Int) / 4) = x4 := by omega
      have n6 : IntKind.i64.wrap (x4 : Int) = x4 := by rw [IntKind.wrap_i64]; omega
      rw [← hx4] at HX2 hgp HGC
      have HPA : Hid (PathAt wr w1.heap.size u9 us (P.take k) ∧ Below w1.heap.size w1 wr) := ⟨hpa, hb⟩
      have hzr := hb.size
      obtain ⟨gl, hgl⟩ : ∃ gl, gl = G.length := ⟨_, rfl⟩
      have HGL : Hid (gl = G.length) := hgl
      have hgl4 : gl ≤ 4 := by omega
      rw [← hgl] at hgp
      generalize 0 + 4 * x4 = go at *
      generalize cu - 4 * x4 = gc at *
      clear hpa hb hrow hPk hG hGl hr hgl ha hx hx4 hcx
      generalize r.length = rl at *
      go_wp2_with fail
      refine (hgp _).mono ?_
      rintro e w0 ⟨rfl, rfl⟩
      clear hgp cG
      generalize w0 = wo at *
      go_wp2_with fail
      go_loopw [12, 13] (fun sv jv wr => ∃ j : Nat, j ≤ gl ∧ jv = .int .i64 (j : Int) ∧ OwnL wr wo.heap.size sv ((G.take j).eraseIdx a) ∧ Below wo.heap.size wo wr) (fun _ jv _ => gl - (intOf jv).toNat)
      case atStart => exact ⟨0, Nat.zero_le _, rfl, World.ownsRow_nil _ _ _ _, Below.refl _ _⟩
      case round =>
        obtain ⟨j, hj, rfl, hown, hbj⟩ := hrel
        by_cases hlt2 : j < gl
        · have j1 : (j : Int) < gl := by omega
          have hjG : j < G.length := by rw [← HGL.out]; exact hlt2
          by_cases hja : j = a
          · have e1 := erase_at hjG hja
            have j2 : (j : Int) = a := by omega
            have HF : Hid (OwnL wr wo.heap.size u12 ((G.take (j + 1)).eraseIdx a) ∧ Below wo.heap.size wo wr) := ⟨by rw [e1]; exact hown, hbj⟩
            clear e1 hown hbj
            subst hja
            go_wp2
            go_roundw
            case rel => exact ⟨j + 1, by omega, by go_num, HF.out⟩
            case measure => simp [intOf]; omega
          · have e1 := erase_not hjG hja
            have j2 : ¬ (j : Int) = a := by omega
            have cj := (hbj.cell (p := ⟨gr, go + j, none⟩) (by omega)).trans (HGC.out j _ (List.getElem?_eq_getElem hjG))
            obtain ⟨y, hy⟩ : ∃ y, y = G[j] := ⟨_, rfl⟩
            rw [← hy] at e1 cj
            obtain ⟨ys, hys⟩ : ∃ ys, ys = (G.take j).eraseIdx a := ⟨_, rfl⟩
            have hyl : ys.length ≤ 4 := by
              rw [hys]
              have h1 := List.length_eraseIdx_le (G.take j) a
              rw [List.length_take] at h1
              omega
            rw [← hys] at hown e1
            have hown1 : wr.ownsRow wo.heap.size 9 1 u12 ys.length (ys.map Value.string) := hown
            obtain ⟨ob, cb, rfl⟩ := owns_slice3 hown1
            have HX : Hid (((G.take (j + 1)).eraseIdx a).length = ys.length + 1 ∧ ((G.take (j + 1)).eraseIdx a).map Value.string = ys.map Value.string ++ [.string y]) := by
              rw [e1]
              exact ⟨by simp, by simp⟩
            generalize ys.map Value.string = zs at *
            generalize ys.length = yl at *
            obtain ⟨w2, hw2⟩ : ∃ w2, wr.alloc (.cells #[.string y] 9) = w2 := ⟨_, rfl⟩
            have hown2 : w2.ownsRow wo.heap.size 9 1 (.slice ob yl cb) yl zs := by rw [← hw2]; exact hown1.alloc _
            have hn2 : ∀ i u, ([.string y] : List Value)[i]? = some u → w2.cell? ((⟨wr.heap.size, 0, none⟩ : Addr).add i) = some u := by rw [← hw2]; exact cell_one_new wr (.string y) 9
            have ho2 : ∀ u ∈ ([.string y] : List Value), u.oneCell' = true := by intro u hu; simp at hu; rw [hu]; rfl
            have HB : Hid (Below wo.heap.size wo w2) := by rw [← hw2]; exact hbj.alloc hbj.size _
            clear hown hown1 hbj e1 hy hys
            go_wp2_with (at_builtin; refine wpList_append_own _ rfl _ _ 22 rfl wo.heap.size 9 i0 (.string ⟨#[]⟩) 1 16 Tryd.underlying22 hi0 hz0 hz1 hz2 rfl (by decide) (.slice ob yl cb) yl zs rfl hown2 ⟨wr.heap.size, 0, none⟩ 1 1 _ rfl rfl hn2 ho2 ?b2 ?b3 ?b4 ?_)
            case b2 => unfold maxLen; omega
            case b3 => omega
            case b4 => exact HB.out.size
            intro v3 w3 hown3 hgrow3 _
            have hb3 : Below wo.heap.size wo w3 := HB.out.grown hgrow3 HB.out.size (fun k hk => (owns_ltG hown2 k hk).1)
            have HF : Hid (OwnL w3 wo.heap.size v3 ((G.take (j + 1)).eraseIdx a) ∧ Below wo.heap.size wo w3) := by
              refine ⟨?_, hb3⟩
              unfold OwnL
              rw [HX.out.1, HX.out.2]
              exact hown3
            clear hown2 hn2 ho2 hown3 hgrow3 hb3 hw2 HB cj
            go_wp2
            go_roundw
            case rel => exact ⟨j + 1, by omega, by go_num, HF.out⟩
            case measure => simp [intOf]; omega
        · obtain rfl : j = gl := by omega
          have j1 : ¬ (j : Int) < j := by omega
          obtain ⟨hpa, hb⟩ := HPA.out
          have hpa2 := hpa.below hbj
          have hSt := HST.out
          rw [← HGL.out] at hSt
          obtain ⟨sd, hsd⟩ : ∃ sd, sd = (G.take j).eraseIdx a := ⟨_, rfl⟩
          rw [← hsd] at hSt hown
          have hou : OwnL wr w1.heap.size u12 sd := ⟨hown.1, hown.2.imp id fun ⟨g, cap, cur, e, h0, rr⟩ => ⟨g, cap, cur, e, Nat.le_trans hzr h0, rr⟩⟩
          have hne : ∀ g, u12.ownBlock = some g → u9.ownBlock ≠ some g := fun g h1 h2 => by
            have a1 := (OwnL.lt hown h1).1
            have a2 := (owns_ltG hpa.owns g h2).2
            omega
          have hbr2 : Below w1.heap.size w1 wr := hb.trans (hbj.mono hzr)
          obtain ⟨od, cd, rfl⟩ := OwnL.form hou
          have htl : (P.take k).length = k := by rw [List.length_take, HPL.out]; omega
          have hown7 := hpa2.owns
          rw [htl] at hown7
          obtain ⟨o7, c7, rfl⟩ := owns_slice3 hown7
          obtain ⟨sl, hsl⟩ : ∃ sl, sl = sd.length := ⟨_, rfl⟩
          rw [← hsl] at hou hne ⊢
          obtain ⟨cs, hcs⟩ : ∃ cs, cs = cellsP us (P.take k) := ⟨_, rfl⟩
          rw [← hcs] at hown7
          obtain ⟨w2, hw2⟩ : ∃ w2, wr.alloc (.cells #[.int .i64 (a : Int), .slice od sl cd] 48) = w2 := ⟨_, rfl⟩
          have hown2 : w2.ownsRow w1.heap.size 48 2 (.slice o7 k c7) k cs := by rw [← hw2]; exact hown7.alloc _
          have hnew : w2.heap[wr.heap.size]? = some (.cells #[.int .i64 (a : Int), .slice od sl cd] 48 (0, 0)) := by rw [← hw2]; exact heap_alloc_new wr _
          have ho2 : ∀ u ∈ ([.int .i64 (a : Int), .slice od sl cd] : List Value), u.oneCell' = true := by intro u hu; simp at hu; rcases hu with rfl | rfl <;> rfl
          have HB : Hid (Below w1.heap.size w1 w2) := by rw [← hw2]; exact hbr2.alloc hbr2.size _
          have HG2 : Hid (PathAt wr w1.heap.size (.slice o7 k c7) us (P.take k) ∧ OwnL wr w1.heap.size (.slice od sl cd) sd ∧ (∀ g, (Value.slice od sl cd).ownBlock = some g → (Value.slice o7 k c7).ownBlock ≠ some g) ∧ P.take (k + 1) = P.take k ++ [⟨(a : Nat), sd⟩] ∧ (P.take k).length = k ∧ cs = cellsP us (P.take k)) := ⟨hpa2, hou, hne, by rw [List.take_add_one, hSt]; rfl, htl, hcs⟩
          have HW2 : Hid (wr.alloc (.cells #[.int .i64 (a : Int), .slice od sl cd] 48) = w2) := hw2
          clear hown hbj hou hpa hb hpa2 hne hbr2 htl hown7 HPA hSt hsd hsl hcs
          go_wp2_with (at_builtin; (refine wpList_append_own_at _ rfl _ _ 41 rfl w1.heap.size 48 i1 (.agg #[.int .i64 0, .slice none 0 0]) 2 32 Tryd.underlying41 hi1 hy0 hy1 hy2 rfl (by decide) (.slice o7 k c7) k cs rfl hown2 ⟨wr.heap.size, 0, none⟩ 1 1 [.int .i64 (a : Int), .slice od sl cd] rfl rfl (World.news_of_block hnew) ho2 ?b2 ?b3 ?b4 ?_))
          case b2 => unfold maxLen; omega
          case b3 => omega
          case b4 => exact HB.out.size
          intro v3 w3 hown3 hgrow3 _ hat3
          have hb3 : Below w1.heap.size w1 w3 := HB.out.grown hgrow3 HB.out.size (fun k hk => (owns_ltG hown2 k hk).1)
          have HF : Hid (PathAt w3 w1.heap.size v3 (us ++ [.slice od sl cd]) (P.take (k + 1)) ∧ Below w1.heap.size w1 w3) := by
            refine ⟨?_, hb3⟩
            obtain ⟨q1, q2, q3, q4, q5, q6⟩ := HG2.out
            rw [q4]
            try rw [← HW2.out] at hgrow3
            try rw [← HW2.out] at hat3
            exact q1.append (s := ⟨(a : Nat), sd⟩) q2 q3 (by rw [q5, ← q6]; exact hown3) hgrow3 hat3
          clear hown2 hnew ho2 hown3 hgrow3 hat3 hb3 hw2 HB HW2
          go_wp2
          go_roundw
          case rel => exact ⟨k + 1, _, by omega, by go_num, by rw [HX2.out], HF.out⟩
          case measure => simp [intOf]; omega
    · obtain rfl : k = M := by omega
      have k1 : ¬ (k : Int) + 1 < ((k + 1 : Nat) : Int) := by omega
      have k2 : ¬ (k : Int) + 1 < (k : Int) + 1 := by omega
      have ht : P.take k = P := by rw [← HPL.out, List.take_length]
      rw [ht] at hpa
      obtain ⟨od, cd, rfl, hrd⟩ := hpa.read
      have HF : Hid (PathR wr od P ∧ Below w.heap.size w wr) := ⟨hrd, HB1.out.trans (hb.mono hz1w)⟩
      rw [HPL.out]
      clear hpa hb hrd ht
      go_wp2
      go_ret2
      exact ⟨⟨od, ⟨cd, rfl⟩, HF.out.1⟩, HF.out.2⟩
end
end Go.Proofs.YtgfhaadcajlifaaDoor

namespace Go.Proofs.YtgfhaadcajlifaaDoor
set_option maxRecDepth 20000
open Go.RowKit

theorem pathOf_same {D : ByteArray → Prop} {h h' : ByteArray → ByteArray} {l : List ByteArray} {i : Nat} (hT : TreeInK D h l (hgt l.length)) (e : ∀ x, D x → h' x = h x) : pathOf h' l i = pathOf h l i :=
  List.map_congr_left fun k hk => by rw [rowAt_sameK hT e k (by have := List.mem_range.1 hk; omega)]
theorem shown_chk {σ : Type} {K : HK σ} (o : HKOk K) {S S6 S7 : σ} {l : List ByteArray} {i : Nat} (hi : i < l.length) (hl : l.length ≤ 200) (tin : TreeInK (K.D S) (K.h S) l (hgt l.length)) (x6 : K.ext S S6) (d6 : K.D S6 (rootT l.length (topS (K.h S6) l))) (x7 : K.ext S6 S7) (n6 : K.n S6 ≤ 2000000) (n7 : K.n S7 ≤ 2000000) :
    chkB (K.h S7) (K.h S6 (rootT l.length (topS (K.h S6) l))) (l.length : Nat) (i : Nat) l[i] (pathOf (K.h S) l i) = true := by
  have x57 := HK.ext_trans x6 x7
  have tin7 := tin.mono x57
  have e1 : pathOf (K.h S7) l i = pathOf (K.h S) l i := pathOf_same tin fun x hx => (x57 x hx).2
  have e2 : topS (K.h S7) l = topS (K.h S6) l := by
    have t6 : TreeIn (K.D S6) (K.h S6) l := tin.mono x6
    exact top_same t6 fun x hx => (x7 x hx).2
  have h32 := o.size S6 _ d6 n6
  have hd : leadB l.length i (pathOf (K.h S7) l i) = true := leadB_iff.2 (path_leads tin7 (fun x hx => o.size S7 x hx n7) i hi)
  unfold chkB okB
  rw [← e1, Int.toNat_natCast, Int.toNat_natCast, hd, path_top, h32, e2, (x7 _ d6).2]
  simp
  omega
theorem sides_len (h : ByteArray → ByteArray) (l : List ByteArray) (i : Nat) : ∀ s, s ∈ pathOf h l i → s.sides.length ≤ 1000000 := fun s hs => by
  obtain ⟨k, _, rfl⟩ := List.mem_map.1 hs
  show ((grp (rowAt h l k) (iK i k / 4)).eraseIdx (iK i k % 4)).length ≤ _
  have h1 := List.length_eraseIdx_le (grp (rowAt h l k) (iK i k / 4)) (iK i k % 4)
  have h2 := grp_length (rowAt h l k) (iK i k / 4)
  omega
end Go.Proofs.YtgfhaadcajlifaaDoor

namespace Go.Proofs.YtgfhaadcajlifaaDoor
set_option maxRecDepth 20000
open Go.RowKit

set_option maxHeartbeats 8000000 in
theorem walk_treePaths (v : Value) (l0 : List ByteArray) (i : Int) (w : World) (hf : Sm.First w) (hq : Sm.Cubes w) (hv : StrsV w v l0) :
    Calls Tryd.prog 5 #[v, .int .i64 i] w fun e w' => e = .returned (.bool true) ∧ Below w.heap.size w w' := by
  have hs1 := some_any v l0 40 (by decide) w hv
  obtain ⟨l, hA⟩ : ∃ l, l = someL l0 40 := ⟨_, rfl⟩
  have hal : l.length ≤ 40 := by rw [hA, someL_length]; omega
  have haz : ∀ x, x ∈ l → x.size ≤ 1000 := fun x hx => by rw [hA] at hx; have := someL_size l0 40 x hx; omega
  have HAZ : Hid (∀ x, x ∈ l → x.size ≤ 1000) := haz
  have HT : Hid (TabT w) := ⟨hf, hq⟩
  rw [← hA] at hs1
  clear hv hA hf hq haz
  go_enter Tryd.func5, Tryd.ntmps5
  go_wp2_with fail
  refine hs1.mono ?_
  rintro e w1 ⟨⟨va1, rfl, ho1⟩, hb1⟩
  obtain ⟨oa, ca, rfl⟩ := OwnL.form ho1
  have hrl := treal_any w1 (HT.out.below hb1)
  clear hs1
  go_wp2_with fail
  refine hrl.mono ?_
  rintro e w2 ⟨⟨B1, B2, key, rfl, hv1, hv2⟩, hb2⟩
  have hB2 : Below w.heap.size w w2 := hb1.trans (hb2.mono hb1.size)
  have oA : OwnL w2 w.heap.size (.slice oa l.length ca) l := OwnL.keep ho1 fun k _ hk _ => hb2.block k hk
  have hk2 : realK.V w2 (fun k => k < w2.heap.size) (fun _ => False) B1 key := by
    obtain ⟨N, r1, r2⟩ := hv1
    have ht2 := HT.out.below hB2
    exact ⟨⟨N, r1, r2, Row.lt r1, Row.lt r2⟩, ht2, ht2.1.1, ht2.2.1⟩
  have hnw := new_on realOk (w0 := w) (w := w2) (F := fun k => k < w2.heap.size) (G := fun _ => False) (B := B1) (S := key) oa ca l (oA.lv fun k hk hg => hg) (by omega) HAZ.out (Nat.zero_le _) (fun k hk => hk) (fun k hk => hk.elim) hk2 hB2
  have HR2 : Hid (RefR w2 B2 key ∧ OwnL w2 w.heap.size (.slice oa l.length ca) l) := ⟨hv2, oA⟩
  clear hrl hv1 hv2 hb1 hb2 ho1 oA hk2 hB2
  obtain ⟨n, hn⟩ : ∃ n, n = l.length := ⟨_, rfl⟩
  have HN : Hid (n = l.length) := hn
  rw [← hn] at hal hnw ⊢
  clear hn
  go_wp2_with fail
  refine hnw.mono ?_
  rintro e w3 ⟨S3, T, rfl, on3, t3, _, _⟩
  have hb3 : Below w2.heap.size w2 w3 := t3.below (Nat.le_refl _) fun k hk => hk.elim
  have HR3 : Hid (RefR w3 B2 key ∧ OwnL w3 w.heap.size (.slice oa l.length ca) l) := ⟨HR2.out.1.keep hb3, OwnL.keep HR2.out.2 fun k _ hk _ => hb3.block k hk⟩
  have HON : Hid (TrOn realK w w3 (fun k => k < w2.heap.size) (fun _ => False) (fun k => w2.heap.size ≤ k ∧ k < w3.heap.size) B1 T S3 l) := on3
  clear hnw t3 on3 hb3 HR2
  generalize (fun k => w2.heap.size ≤ k ∧ k < w3.heap.size) = H at *
  generalize (fun k => k < w2.heap.size) = F at *
  by_cases hin : 0 ≤ i ∧ i < (n : Int)
  · obtain ⟨k, rfl⟩ : ∃ k : Nat, i = k := ⟨i.toNat, by omega⟩
    have hk : k < l.length := by rw [← HN.out]; omega
    have hpy := path_yes HON.out k (by rw [← HN.out]; omega) hk
    rw [show pathOf (realK.h S3) l k = pathOf realH l k from rfl] at hpy
    obtain ⟨P, hP⟩ : ∃ P, P = pathOf realH l k := ⟨_, rfl⟩
    have HP : Hid (P = pathOf realH l k) := hP
    have HSL : Hid (∀ s, s ∈ P → s.sides.length ≤ 1000000) := by rw [hP]; exact sides_len _ _ _
    have HPl : Hid (P.length ≤ 1000000) := by show _ ≤ _; rw [hP, pathOf_length]; have := hgt_le l.length; rw [← HN.out] at *; omega
    rw [← hP] at hpy
    clear hP hin
    go_wp2_with fail
    refine hpy.mono ?_
    rintro e w4 ⟨⟨b, bs, rfl, hpo⟩, hb4⟩
    have r4 : RefR w4 B2 key := HR3.out.1.keep hb4
    have oA4 : OwnL w4 w.heap.size (.slice oa l.length ca) l := OwnL.keep HR3.out.2 fun k _ hk _ => hb4.block k hk
    have HPI : Hid (PathIn w4 (fun _ => False) (some ⟨b, 0, none⟩) P ∧ Below w.heap.size w w4) := ⟨hpo.pathIn (fun _ h => h.elim) HSL.out, (HON.out.beneath realOk hb4).below⟩
    have hrp := rpath_any (realRV B2 key) realH_size w4 oa ca l k hk (oA4.lv fun k hk hg => hg) (by rw [← HN.out]; omega) HAZ.out r4
    rw [← HP.out, ← HN.out] at hrp
    clear hpy hpo hb4 r4 oA4 HR3 HON
    go_wp2_with fail
    refine hrp.mono ?_
    rintro e w5 ⟨⟨ob, cb, rfl, hpr⟩, hb5⟩
    have hsm := same_any w5 (some ⟨b, 0, none⟩) ob P.length cb P HPl.out HSL.out (HPI.out.1.touch (Touch.of_below hb5)).read hpr
    have HB5 : Hid (Below w.heap.size w w5) := HPI.out.2.trans (hb5.mono HPI.out.2.size)
    clear hrp hpr hb5 HPI
    generalize P.length = pl at *
    go_wp2_with fail
    refine hsm.mono ?_
    rintro e w6 ⟨rfl, hb6⟩
    have HB6 : Hid (Below w.heap.size w w6) := HB5.out.trans (hb6.mono HB5.out.size)
    clear hsm hb6
    go_wp2_with fail
    refine (tawake_any _).mono ?_
    rintro e w8 ⟨rfl, hb8⟩
    have HF : Hid (Below w.heap.size w w8) := HB6.out.trans (hb8.mono HB6.out.size)
    clear hb8
    go_wp2
    go_ret
    exact ⟨rfl, HF.out⟩
  · have hpn := path_no HON.out i (by rw [← HN.out]; exact hin)
    have hrn := fun w => rpath_no (B := B2) w oa n ca i hin
    have hsm := same_any w3 none none 0 0 [] (by decide) (fun s hs => by simp at hs) (fun k s hs => by simp at hs) (fun k s hs => by simp at hs)
    rw [show ([] : List Stp).length = 0 from rfl] at hsm
    have HB3 : Hid (Below w.heap.size w w3) := HON.out.below
    clear hin HON
    go_wp2_with fail
    refine hpn.mono ?_
    rintro e w4 ⟨rfl, rfl⟩
    clear hpn
    go_wp2_with fail
    refine (hrn _).mono ?_
    rintro e w5 ⟨rfl, rfl⟩
    clear hrn
    go_wp2_with fail
    refine hsm.mono ?_
    rintro e w6 ⟨rfl, hb6⟩
    have HB6 : Hid (Below w.heap.size w w6) := HB3.out.trans (hb6.mono HB3.out.size)
    clear hsm hb6
    go_wp2_with fail
    refine (tawake_any _).mono ?_
    rintro e w8 ⟨rfl, hb8⟩
    have HF : Hid (Below w.heap.size w w8) := HB6.out.trans (hb8.mono HB6.out.size)
    clear hb8
    go_wp2
    go_ret
    exact ⟨rfl, HF.out⟩
end Go.Proofs.YtgfhaadcajlifaaDoor
