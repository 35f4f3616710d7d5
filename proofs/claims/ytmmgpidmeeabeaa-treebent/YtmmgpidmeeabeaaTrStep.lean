/- tree's step. -/
import Derived.Test.YtmmgpidmeeabeaaTrOn
import Derived.Laws.CopyRow
namespace Go.Proofs.Ytmmgpidmeeabeaa
set_option maxRecDepth 20000
open Go.RowKit

theorem row_setRow {w : World} {b : Nat} {t : TypeId} {l : List Value} (h : Row w b t l) (l' : List Value) : Row (w.setRow b l'.toArray) b t l' := setRow_heap _ _ _ _ _ _ h
theorem step_sides (r : List ByteArray) (i : Nat) (hi : i < r.length) : (stepOf r i).sides = (r.drop (4 * (i / 4))).take (i % 4) ++ (r.drop (i + 1)).take (min (4 * (i / 4) + 4) r.length - (i + 1)) := by
  show ((r.drop (4 * (i / 4))).take 4).eraseIdx (i % 4) = _
  have e1 : 4 * (i / 4) + (i % 4 + 1) = i + 1 := by omega
  rw [List.eraseIdx_eq_take_drop_succ, List.take_take, Nat.min_eq_left (by omega), List.drop_take, List.drop_drop, e1]
  congr 1
  by_cases h : 4 * (i / 4) + 4 ≤ r.length
  · rw [Nat.min_eq_left h, show 4 * (i / 4) + 4 - (i + 1) = 4 - (i % 4 + 1) by omega]
  · rw [Nat.min_eq_right (by omega), List.take_of_length_le (by rw [List.length_drop]; omega), List.take_of_length_le (by rw [List.length_drop]; exact Nat.le_refl _)]
theorem tr_size1 : (Try.prog.info? 9).map (·.size) = some 1 := by kernel_rfl
theorem step_ret (tmps : Array Value) (w w' : World) (cs : Array Value) (R : Ending → World → Prop) (h1 : tmps.getD 4 undef = .pointer (some ⟨w.heap.size, 0, none⟩)) (hg : w'.heap[w.heap.size]? = some (.cells cs 39 (0, 0))) (hs : cs.size = 2) (hR : R (.returned (.agg cs)) w') :
    bodyPost Try.prog Try.f22 R .ret { tmps := tmps, defers := [] } w' :=
  bodyPost_ret (v := .agg cs) (results_cell_row Try.results22 tmps w' w.heap.size 39 cs (0, 0) _ h1 hg Try.underlying39 rfl (by rw [hs]; kernel_rfl)) rfl hR
set_option maxHeartbeats 2000000 in
theorem step_any (w : World) (g i : Nat) (r : List ByteArray) (hr : RowS w g r) (hlen : r.length ≤ 1000000) (hi : i < r.length) :
    Calls Try.prog 22 #[.slice (some ⟨g, 0, none⟩) r.length r.length, .int .i64 (i : Int)] w fun e w' => (∃ b, e = .returned (.agg #[.int .i64 (stepOf r i).at_, .slice (some ⟨b, 0, none⟩) (stepOf r i).sides.length (stepOf r i).sides.length]) ∧ RowS w' b (stepOf r i).sides ∧ w.heap.size ≤ b ∧ b < w'.heap.size) ∧ Below w.heap.size w w' := by
  have hff := fun w => four_any r.length i (by omega) w
  have hsd := step_sides r i hi
  have hat : (stepOf r i).at_ = ((i % 4 : Nat) : Int) := rfl
  obtain ⟨f, hf⟩ : ∃ f : Nat, f = 4 * (i / 4) := ⟨_, rfl⟩
  obtain ⟨t, ht⟩ : ∃ t : Nat, t = min (4 * (i / 4) + 4) r.length := ⟨_, rfl⟩
  obtain ⟨q, hq⟩ : ∃ q : Nat, q = i % 4 := ⟨_, rfl⟩
  rw [← ht, ← hf] at hff
  rw [← ht, ← hf, ← hq] at hsd
  rw [← hq] at hat
  have e1 : i = f + q := by omega
  have e2 : i < t := by omega
  have e3 : t ≤ r.length := by omega
  obtain ⟨n, hn⟩ : ∃ n : Nat, n = t - f - 1 := ⟨_, rfl⟩
  have hqn : q ≤ n := by omega
  have hnt : n - q = t - (i + 1) := by omega
  obtain ⟨c1, hc1⟩ : ∃ c1, c1 = ((r.drop f).take q).map Value.string := ⟨_, rfl⟩
  obtain ⟨c2, hc2⟩ : ∃ c2, c2 = ((r.drop (i + 1)).take (n - q)).map Value.string := ⟨_, rfl⟩
  have hl1 : c1.length = q := by rw [hc1]; simp; omega
  have hl2 : c2.length = n - q := by rw [hc2]; simp; omega
  have HSD : Hid ((stepOf r i).sides.map Value.string = c1 ++ c2 ∧ (stepOf r i).sides.length = n) := by
    rw [hsd, ← hnt, hc1, hc2]
    refine ⟨by simp, by simp; omega⟩
  have ho1 : ∀ v ∈ c1, v.oneCell' = true := fun v hv => by rw [hc1] at hv; obtain ⟨y, _, rfl⟩ := List.mem_map.1 hv; rfl
  have ho2 : ∀ v ∈ c2, v.oneCell' = true := fun v hv => by rw [hc2] at hv; obtain ⟨y, _, rfl⟩ := List.mem_map.1 hv; rfl
  have HS1 : Hid (∀ w', Below w.heap.size w w' → ∀ j v, c1[j]? = some v → w'.cell? ((⟨g, f, none⟩ : Addr).add j) = some v) := fun w' hb j v hv => by
    rw [hc1, List.getElem?_map] at hv
    obtain ⟨y, hy, rfl⟩ := Option.map_eq_some_iff.1 hv
    rw [List.getElem?_take] at hy
    split at hy
    · rw [List.getElem?_drop] at hy
      rw [Addr.add_lit]
      exact (hb.cell (p := ⟨g, f + j, none⟩) hr.lt).trans (hr.cell hy)
    · cases hy
  have HS2 : Hid (∀ w', Below w.heap.size w w' → ∀ j v, c2[j]? = some v → w'.cell? ((⟨g, i + 1, none⟩ : Addr).add j) = some v) := fun w' hb j v hv => by
    rw [hc2, List.getElem?_map] at hv
    obtain ⟨y, hy, rfl⟩ := Option.map_eq_some_iff.1 hv
    rw [List.getElem?_take] at hy
    split at hy
    · rw [List.getElem?_drop] at hy
      rw [Addr.add_lit]
      exact (hb.cell (p := ⟨g, i + 1 + j, none⟩) hr.lt).trans (hr.cell hy)
    · cases hy
  have lg := hr.lt
  obtain ⟨len, hlen'⟩ : ∃ len, len = r.length := ⟨_, rfl⟩
  rw [hat, HSD.out.2]
  rw [← hlen'] at hff hlen hi e3 ⊢
  have HRS : Hid (∀ w' b, Row w' b 9 (c1 ++ c2) → RowS w' b (stepOf r i).sides) := fun w' b hb => by
    unfold RowS
    rw [HSD.out.1]
    exact hb
  clear hr hsd hat hf ht hq hc1 hc2 HSD hlen'
  obtain ⟨w0, hw0⟩ : ∃ w0, w.alloc (.cells #[.int .i64 0, .slice none 0 0] 39) = w0 := ⟨_, rfl⟩
  have hb0 : Below w.heap.size w w0 := by rw [← hw0]; exact (Below.refl _ _).alloc (Nat.le_refl _) _
  have g0 : w0.heap[w.heap.size]? = some (.cells #[.int .i64 0, .slice none 0 0] 39 (0, 0)) := by rw [← hw0]; exact heap_alloc_new w _
  have hmk := run_make_strs n (by omega) w0
  obtain ⟨w1, hw1⟩ : ∃ w1, w0.alloc (.cells (madeCells #[.string ⟨#[]⟩] n) 9) = w1 := ⟨_, rfl⟩
  rw [hw1] at hmk
  have r1 : Row w1 w0.heap.size 9 (List.replicate n (Value.string ⟨#[]⟩)) := by
    rw [Row, ← toList_madeCells_one, ← hw1]
    exact heap_alloc_new w0 _
  have hb1 : Below w0.heap.size w0 w1 := by rw [← hw1]; exact (Below.refl _ _).alloc (Nat.le_refl _) _
  have l0 := lt_of_block g0
  have hbw1 : Below w.heap.size w w1 := hb0.trans (hb1.mono hb0.size)
  have g1 := (hb1.block _ l0).trans g0
  have hcp1 := run_copy_row (P := Try.prog) w1.drew 22 22 3 9 w0.heap.size 0 q n ⟨g, f, none⟩ q (len - f) _ 9 c1 Try.underlying22 tr_size1 (show w1.drew.heap[w0.heap.size]? = _ from r1) (by rw [hl1]; simp) (HS1.out _ hbw1.drew) (by rw [hl1]; simp; omega) ho1
  obtain ⟨w2, hw2⟩ : ∃ w2, w1.drew.setRow w0.heap.size ((List.replicate n (Value.string ⟨#[]⟩)).toArray.toList.take 0 ++ c1 ++ (List.replicate n (Value.string ⟨#[]⟩)).toArray.toList.drop (0 + c1.length)).toArray = w2 := ⟨_, rfl⟩
  rw [hw2, hl1] at hcp1
  have r2 : Row w2 w0.heap.size 9 (c1 ++ List.replicate (n - q) (Value.string ⟨#[]⟩)) := by
    have := row_setRow (show Row w1.drew w0.heap.size 9 _ from r1) (c1 ++ List.replicate (n - q) (Value.string ⟨#[]⟩))
    rw [← hw2]
    have e : (List.replicate n (Value.string ⟨#[]⟩)).toArray.toList.take 0 ++ c1 ++ (List.replicate n (Value.string ⟨#[]⟩)).toArray.toList.drop (0 + c1.length) = c1 ++ List.replicate (n - q) (Value.string ⟨#[]⟩) := by simp [hl1]
    rw [e]
    exact this
  have hk2 : ∀ k, k < w0.heap.size → w2.heap[k]? = w1.heap[k]? := fun k hk => by rw [← hw2]; exact setRow_other _ _ _ _ (by omega)
  have hbw2 : Below w0.heap.size w0 w2 := by
    refine hb1.trans ⟨?_, ?_, ?_, ?_, fun k hk => hk2 k hk⟩
    all_goals first | (rw [← hw2]; rfl) | (rw [← hw2]; simp [World.setRow])
  have g2 := (hbw2.block _ l0).trans g0
  have hbwW : Below w.heap.size w w2 := hb0.trans (hbw2.mono hb0.size)
  have l1 : w0.heap.size < w2.heap.size := Row.lt r2
  have HFI : Hid (∀ w3, Row w3 w0.heap.size 9 (c1 ++ c2) → Below w0.heap.size w0 w3 → (∃ b, b = w0.heap.size ∧ RowS (w3.setRow w.heap.size #[.int .i64 (q : Int), .slice (some ⟨w0.heap.size, 0, none⟩) n n]) b (stepOf r i).sides ∧ w.heap.size ≤ b ∧ b < (w3.setRow w.heap.size #[.int .i64 (q : Int), .slice (some ⟨w0.heap.size, 0, none⟩) n n]).heap.size) ∧ Below w.heap.size w (w3.setRow w.heap.size #[.int .i64 (q : Int), .slice (some ⟨w0.heap.size, 0, none⟩) n n]) ∧ w3.heap[w.heap.size]? = some (.cells #[.int .i64 0, .slice none 0 0] 39 (0, 0))) := fun w3 h3 hb3 => by
    have hz : (w3.setRow w.heap.size #[.int .i64 (q : Int), .slice (some ⟨w0.heap.size, 0, none⟩) n n]).heap.size = w3.heap.size := by simp [World.setRow]
    refine ⟨⟨_, rfl, HRS.out _ _ ((setRow_other _ _ _ _ (by omega)).trans h3), by omega, by rw [hz]; exact Row.lt h3⟩, (hb0.trans (hb3.mono hb0.size)).trans ⟨rfl, rfl, rfl, by rw [hz]; exact Nat.le_refl _, fun k hk => setRow_other _ _ _ _ (by omega)⟩, (hb3.block _ l0).trans g0⟩
  have m1 : IntKind.i64.wrap ((i : Int) - f) = (q : Int) := by rw [IntKind.wrap_i64]; omega
  have m2 : IntKind.i64.wrap ((t : Int) - f) = (t : Int) - f := by rw [IntKind.wrap_i64]; omega
  have m3 : IntKind.i64.wrap ((t : Int) - f - 1) = (n : Int) := by rw [IntKind.wrap_i64]; omega
  have m4 : IntKind.i64.wrap ((i : Int) + 1) = ((i + 1 : Nat) : Int) := by rw [IntKind.wrap_i64]; omega
  have p1 : ((q : Nat) : Int) ≤ (n : Nat) := by omega
  have p2 : ((f : Nat) : Int) ≤ (i : Nat) := by omega
  have p3 : ((i : Nat) : Int) ≤ (len : Nat) := by omega
  have p4 : ((i + 1 : Nat) : Int) ≤ (t : Nat) := by omega
  have p5 : ((t : Nat) : Int) ≤ (len : Nat) := by omega
  have p6 : ¬ len = f := by omega
  have p7 : ¬ (len : Int) = (f : Int) := by omega
  have e4 : i - f = q := by omega
  clear hb0 hb1 g1 r1 HS1 hbw1 hk2 HRS e1 hn
  by_cases hqq : n = q
  · subst hqq
    have htz : t - (i + 1) = 0 := by omega
    have hc20 : c2 = [] := List.eq_nil_of_length_eq_zero (by omega)
    rw [hc20, List.append_nil] at HFI
    rw [Nat.sub_self, List.replicate_zero, List.append_nil] at r2
    have hcp2 : ∀ (d a : Option Addr) (dc sc : Nat) (ww : World), (Builtin.copy_ #[22, 22] 3 #[.slice d 0 dc, .slice a 0 sc]).run Try.prog ww = .ok (goInt 0) ww := fun d a dc sc ww => run_copy_none (P := Try.prog) ww 22 22 3 9 d a 0 dc 0 sc Try.underlying22 tr_size1 rfl
    obtain ⟨⟨b, rfl, f1, f2, f3⟩, f4, f5⟩ := HFI.out w2.drew r2 hbw2.drew
    have HRR : Hid ((∃ b', b' = w0.heap.size ∧ RowS (w2.drew.setRow w.heap.size #[.int .i64 (n : Int), .slice (some ⟨w0.heap.size, 0, none⟩) n n]) b' (stepOf r i).sides ∧ w.heap.size ≤ b' ∧ b' < (w2.drew.setRow w.heap.size #[.int .i64 (n : Int), .slice (some ⟨w0.heap.size, 0, none⟩) n n]).heap.size) ∧ Below w.heap.size w (w2.drew.setRow w.heap.size #[.int .i64 (n : Int), .slice (some ⟨w0.heap.size, 0, none⟩) n n])) := ⟨⟨_, rfl, f1, f2, f3⟩, f4⟩
    have hlw : (len = i + 1) ∨ ¬ (len = i + 1) := Classical.em _
    clear HFI HS2 hl1 hl2 ho1 ho2 hc20 r2 hbw2 hbwW f1 f2 f3 f4 hnt hw1 hw2 g2
    rcases hlw with hlw | hlw
    case' inr => have hlw2 : ¬ (len : Int) = (i : Int) + 1 := by omega
    case' inl => subst hlw
    all_goals
      go_enter Try.func22, Try.ntmps22
      go_wp2_with fail
      try rw [hw0]
      refine (hff _).mono ?_
      rintro e wf ⟨rfl, rfl⟩
      go_wp2_with fail
      go_region
      go_wp2_with fail
      go_region
      go_wp2_with (refine wpList_store_row rfl 39 _ _ rfl w.heap.size #[.int .i64 (n : Int), .slice (some ⟨wf.heap.size, 0, none⟩) n n] rfl rfl 39 _ f5 (by kernel_rfl) rfl (by simp [Value.oneCell']) ?_)
      obtain ⟨⟨b, rfl, f1, f2, f3⟩, f4⟩ := HRR.out
      exact step_ret _ w _ #[.int .i64 (n : Int), .slice (some ⟨wf.heap.size, 0, none⟩) n n] _ rfl (setRow_heap _ _ _ _ _ _ f5) rfl ⟨⟨_, rfl, f1, f2, f3⟩, f4⟩
  · have hcp2 := run_copy_row (P := Try.prog) w2.drew 22 22 3 9 w0.heap.size q (n - q) (n - q) ⟨g, i + 1, none⟩ (t - (i + 1)) (len - (i + 1)) _ 9 c2 Try.underlying22 tr_size1 (show w2.drew.heap[w0.heap.size]? = _ from r2) (by rw [hl2, hnt]; simp) (HS2.out _ hbwW.drew) (by rw [hl2]; simp; omega) ho2
    obtain ⟨w3, hw3⟩ : ∃ w3, w2.drew.setRow w0.heap.size ((c1 ++ List.replicate (n - q) (Value.string ⟨#[]⟩)).toArray.toList.take q ++ c2 ++ (c1 ++ List.replicate (n - q) (Value.string ⟨#[]⟩)).toArray.toList.drop (q + c2.length)).toArray = w3 := ⟨_, rfl⟩
    rw [hw3, hl2] at hcp2
    have r3 : Row w3 w0.heap.size 9 (c1 ++ c2) := by
      have := row_setRow (show Row w2.drew w0.heap.size 9 _ from r2) (c1 ++ c2)
      rw [← hw3]
      have e : (c1 ++ List.replicate (n - q) (Value.string ⟨#[]⟩)).toArray.toList.take q ++ c2 ++ (c1 ++ List.replicate (n - q) (Value.string ⟨#[]⟩)).toArray.toList.drop (q + c2.length) = c1 ++ c2 := by
        show (c1 ++ List.replicate (n - q) (Value.string ⟨#[]⟩)).take q ++ c2 ++ (c1 ++ List.replicate (n - q) (Value.string ⟨#[]⟩)).drop (q + c2.length) = c1 ++ c2
        rw [List.take_append_of_le_length (by omega), List.take_of_length_le (by omega), List.drop_of_length_le (by simp [hl1, hl2]), List.append_nil]
      rw [e]
      exact this
    have hbw3 : Below w0.heap.size w0 w3 := by
      refine hbw2.trans ⟨?_, ?_, ?_, ?_, fun k hk => by rw [← hw3]; exact setRow_other _ _ _ _ (by omega)⟩
      all_goals first | (rw [← hw3]; rfl) | (rw [← hw3]; simp [World.setRow])
    obtain ⟨hR1, hR2, f5⟩ := HFI.out w3 r3 hbw3
    have HRR : Hid _ := And.intro hR1 hR2
    have p8 : ¬ len = i + 1 := by omega
    have p9 : ¬ n = q := hqq
    have hnt2 : t - (i + 1) = n - q := hnt.symm
    clear HFI HS2 hl1 hl2 ho1 ho2 r2 r3 hbw2 hbwW hbw3 hR1 hR2 hnt hw1 hw2 g2
    rw [hnt2] at hcp2
    go_enter Try.func22, Try.ntmps22
    go_wp2_with fail
    try rw [hw0]
    refine (hff _).mono ?_
    rintro e wf ⟨rfl, rfl⟩
    go_wp2_with fail
    go_region
    go_wp2_with fail
    go_region
    go_wp2_with (refine wpList_store_row rfl 39 _ _ rfl w.heap.size #[.int .i64 (q : Int), .slice (some ⟨wf.heap.size, 0, none⟩) n n] rfl rfl 39 _ f5 (by kernel_rfl) rfl (by simp [Value.oneCell']) ?_)
    obtain ⟨⟨b, rfl, f1, f2, f3⟩, f4⟩ := HRR.out
    exact step_ret _ w _ #[.int .i64 (q : Int), .slice (some ⟨wf.heap.size, 0, none⟩) n n] _ rfl (setRow_heap _ _ _ _ _ _ f5) rfl ⟨⟨_, rfl, f1, f2, f3⟩, f4⟩
end Go.Proofs.Ytmmgpidmeeabeaa
