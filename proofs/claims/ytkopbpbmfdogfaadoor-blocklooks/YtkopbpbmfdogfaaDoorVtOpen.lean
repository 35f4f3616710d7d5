/- The ideal vault opens. -/
import Derived.Test.YtkopbpbmfdogfaaDoorVtIdeal
namespace Go.Proofs.YtkopbpbmfdogfaaDoor
set_option maxRecDepth 20000
open Go.RowKit Go.Maps

theorem lt_of_cell {w : World} {N i : Nat} {v : Value} (h : w.cell? ⟨N, i, none⟩ = some v) : N < w.heap.size := by
  by_cases hn : N < w.heap.size
  · exact hn
  · rw [World.cell?] at h
    simp [Array.getElem?_eq_none (Nat.le_of_not_lt hn)] at h
/-- What stands ahead of the last 16 bytes, and these. -/
def headS (s : ByteArray) : ByteArray := s.extract 0 (s.size - 16)
def tagS16 (s : ByteArray) : ByteArray := s.extract (s.size - 16) s.size
set_option maxRecDepth 10000 in
set_option maxHeartbeats 2000000 in
theorem nopen_any (N c : Nat) (l : List Four) (z : Int) (a b s : ByteArray) (hs : fitF ⟨z, a, b, s⟩) (h16 : 16 ≤ s.size) (hl : l.length ≤ 1000000) (w : World) (c2 : w.cell? ⟨N, 2, none⟩ = some (.map (some c))) (h : Nums keyS 146 w c l) :
    Calls Tryd.prog 91 #[.pointer (some ⟨N, 0, none⟩), .int .i64 z, .string a, .string b, .string s] w fun e w' => e = .returned (if numOf l ⟨z, a, b, headS s⟩ ≠ 0 ∧ tagS16 s = wideS (numOf l ⟨z, a, b, headS s⟩) 16 then .tuple #[.string (headS s), .int .i64 0] else .tuple #[.string ⟨#[]⟩, .int .i64 10]) ∧ Below w.heap.size w w' := by
  have hz : (headS s).size ≤ s.size := by simp [headS]
  have hf : fitF ⟨z, a, b, headS s⟩ := ⟨hs.1, hs.2.1, hs.2.2.1, Nat.le_trans hz hs.2.2.2⟩
  have hcl := fun W => cloneB_any (headS s) hf.2.2.2 W
  have hS : Nums keyS 146 w.drew c l := h
  have hc := countedS_any c l ⟨z, a, b, headS s⟩ (tagS16 s) hf hl w.drew hS
  have HR : Hid ((if numOf l ⟨z, a, b, headS s⟩ ≠ 0 ∧ tagS16 s = wideS (numOf l ⟨z, a, b, headS s⟩) 16 then Value.tuple #[.string (headS s), .int .i64 0] else .tuple #[.string ⟨#[]⟩, .int .i64 10]) = if decide (numOf l ⟨z, a, b, headS s⟩ ≠ 0 ∧ tagS16 s = wideS (numOf l ⟨z, a, b, headS s⟩) 16) then Value.tuple #[.string (headS s), .int .i64 0] else .tuple #[.string ⟨#[]⟩, .int .i64 10]) := by
    show _ = _
    simp
  rw [HR.out]
  have h1 := hs.2.2.2
  clear HR
  generalize decide (numOf l ⟨z, a, b, headS s⟩ ≠ 0 ∧ tagS16 s = wideS (numOf l ⟨z, a, b, headS s⟩) 16) = ok at *
  simp only [keyS] at hc
  have e1 : headS s = s.extract 0 (s.size - 16) := rfl
  have e2 : tagS16 s = s.extract (s.size - 16) s.size := rfl
  obtain ⟨q, hq⟩ : ∃ q : Nat, q = s.size - 16 := ⟨_, rfl⟩
  have hq1 : (s.size : Int) - 16 = (q : Nat) := by omega
  have hq2 : q ≤ s.size := by omega
  rw [← hq] at e1 e2
  simp only [e1, e2] at hc hcl ⊢
  have n0 : (0 : Int) ≤ (q : Nat) := by omega
  have n1 : ((q : Nat) : Int) ≤ (s.size : Nat) := by omega
  have hq3 : wrap64 ((q : Nat) : Int) = (q : Nat) := by have : s.size ≤ 140737488355328 := h1; unfold wrap64; omega
  clear h hs hf hz hS e1 e2 hq h16 h1
  have HN : Hid (N < w.heap.size) := lt_of_cell c2
  cases ok
  all_goals
    go_enter Tryd.func91, Tryd.ntmps91
    go_wp2_with fail
    go_region_held3 (fun w' => w'.cell? ⟨N, 2, none⟩ = some (.map (some c))) (first | exact c2 | exact cA | simp [go_sem, *]) (first | (go_at_call 93; refine hc.mono ?_; rintro e wA ⟨rfl, hA⟩; have cA : wA.cell? ⟨N, 2, none⟩ = some (.map (some c)) := (World.cell?_of_block (a := ⟨N, 2, none⟩) (hA.block N HN.out)).trans c2))
    have HB : Hid (Below w.heap.size w wA) := (Below.refl w.heap.size w).drew.trans hA
    clear hA hc
    go_wp2_with fail
  · go_ret2
    exact ⟨rfl, HB.out⟩
  · refine (hcl _).mono ?_
    rintro e w2 ⟨rfl, hb2⟩
    have HF : Hid (Below w.heap.size w w2) := HB.out.trans (hb2.mono HB.out.size)
    clear hb2 HB hcl
    go_wp2
    go_ret2
    exact ⟨rfl, HF.out⟩
end Go.Proofs.YtkopbpbmfdogfaaDoor
