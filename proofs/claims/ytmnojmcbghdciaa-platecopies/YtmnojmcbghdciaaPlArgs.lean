/- Slices that came in: of truth values, of bytes, of a script's steps. -/
import Derived.Test.YtmnojmcbghdciaaPlOn
import Derived.Deep.Slices
import Derived.WideShapes
import Derived.ProofKit
import Derived.ChangeOld
namespace Go.Proofs.Ytmnojmcbghdciaa
open Go.ChangeShapes Go.WideShapes Go.RowKit Go.Deep

section
variable {H : Type} {enc : TypeId × Value → H} {W : World}
theorem bools_of_cells {fuel : Nat} {cs : List Value} {x : DataW H × List MemPlace} (h : DataW.trod enc Try.prog W 0 (fun _ => true) true fuel 31 cs = some x) : ∃ v l, cs = [v] ∧ Bools W (fun k => W.heap.size ≤ k) v l := by
  have hlt := DataW.trod_lt fuel _ _ _ h
  rcases open_slice1 Try.underlying31 (show Try.prog.cellsOf 4 = 1 by kernel_rfl) h with ⟨rfl, rfl⟩ | ⟨a, len, cap, m, n, V, D, Pl, rfl, _, hl, hm, hmm, rfl, hx⟩
  · exact ⟨_, [], rfl, .inl ⟨none, 0, rfl, rfl⟩⟩
  · simp only [if_true] at hmm
    by_cases h0 : len = 0
    · subst h0; exact ⟨_, [], rfl, .inl ⟨_, _, rfl, rfl⟩⟩
    have hV : ∀ i, i < len → ∃ b, W.cell? (a.add i) = some (.bool b) := fun i hi => by
      obtain ⟨h1, h2⟩ := hx i (by omega)
      obtain ⟨b, hb, _⟩ := DataW.trod_bool Try.underlying4 h2
      simp only [List.cons.injEq, and_true] at hb
      exact ⟨b, by rw [h1, hb]⟩
    obtain ⟨f, hf⟩ := choose_lt hV
    obtain ⟨b, off, spot⟩ := a
    have hspot : spot = none := by simpa [Addr.add] using World.cell?_spot (hf 0 (by omega))
    subst hspot
    have hbW : b < W.heap.size := hlt (.cell b off) (List.mem_append_left _ (MemPlace.mem_row.2 ⟨0, by omega, by simp⟩))
    refine ⟨_, (List.range len).map f, rfl, .inr ⟨b, off, cap, by simp, hbW, Nat.not_le.2 hbW, fun i u hu => ?_⟩⟩
    rw [List.getElem?_map] at hu
    have hi : i < len := by
      by_cases hi : i < len
      · exact hi
      · rw [List.getElem?_eq_none (by simp; omega)] at hu; cases hu
    rw [List.getElem?_range hi] at hu
    simp only [Option.map_some, Option.some.injEq] at hu
    rw [← hu, ← add_plain]
    exact hf i hi
theorem bools_of_trod {v : Value} {d : DataW H} {p : List MemPlace} {base : Nat} (hok : Value.okWide Try.prog W .any base 31 v) (h : DataW.Trod enc Try.prog W 0 (fun _ => true) true 31 v d p) : ∃ l, Bools W (fun k => W.heap.size ≤ k) v l := by
  obtain ⟨a0, len, cap, rfl⟩ := okWide_slice Try.underlying31 hok
  obtain ⟨fuel, hf⟩ := h
  obtain ⟨v', l, e, hb⟩ := bools_of_cells hf
  have e2 : .slice a0 len cap = v' := by simpa [Value.cells] using e
  subst e2
  exact ⟨l, hb⟩

/-- A list of bytes that came in. -/
def Nums8 (w : World) (v : Value) (l : List Nat) : Prop := (∃ oa cap, v = .slice oa 0 cap ∧ l = []) ∨ ∃ g o cap, v = .slice (some ⟨g, o, none⟩) l.length cap ∧ g < w.heap.size ∧ ∀ i x, l[i]? = some x → w.cell? ⟨g, o + i, none⟩ = some (.int .u8 (x : Nat))
theorem nums_of_trod {v : Value} {d : DataW H} {p : List MemPlace} {base : Nat} (hok : Value.okWide Try.prog W .any base 50 v) (h : DataW.Trod enc Try.prog W 0 (fun _ => true) true 50 v d p) : ∃ l, Nums8 W v l := by
  obtain ⟨a0, len, cap, rfl⟩ := okWide_slice Try.underlying50 hok
  obtain ⟨fuel, hf⟩ := h
  have hlt := DataW.trod_lt fuel _ _ _ hf
  rcases open_slice1 Try.underlying50 (show Try.prog.cellsOf 5 = 1 by kernel_rfl) hf with ⟨hcs, hx⟩ | ⟨a, len', cap', m, n, V, D, Pl, hcs, _, hl, hm, hmm, hx0, hx⟩
  · simp [Value.cells] at hcs
    obtain ⟨rfl, rfl, rfl⟩ := hcs
    exact ⟨[], .inl ⟨none, 0, rfl, rfl⟩⟩
  · simp [Value.cells] at hcs
    obtain ⟨rfl, rfl, rfl⟩ := hcs
    simp only [if_true] at hmm
    by_cases h0 : len = 0
    · subst h0; exact ⟨[], .inl ⟨_, _, rfl, rfl⟩⟩
    have hV : ∀ i, i < len → ∃ b : Nat, W.cell? (a.add i) = some (.int .u8 (b : Nat)) := fun i hi => by
      obtain ⟨h1, h2⟩ := hx i (by omega)
      obtain ⟨b, hb, _, hw⟩ := DataW.trod_int Try.underlying5 h2
      simp only [List.cons.injEq, and_true] at hb
      have hb0 : 0 ≤ b := by simp [Lit.wf, IntKind.min, IntKind.max, IntKind.signed, IntKind.bits] at hw; omega
      exact ⟨b.toNat, by rw [h1, hb, Int.toNat_of_nonneg hb0]⟩
    obtain ⟨f, hf⟩ := choose_lt hV
    obtain ⟨b, off, spot⟩ := a
    have hspot : spot = none := by simpa [Addr.add] using World.cell?_spot (hf 0 (by omega))
    subst hspot
    have hbW : b < W.heap.size := hlt (.cell b off) (by rw [hx0]; exact List.mem_append_left _ (MemPlace.mem_row.2 ⟨0, by omega, by simp⟩))
    refine ⟨(List.range len).map f, .inr ⟨b, off, cap, by simp, hbW, fun i u hu => ?_⟩⟩
    rw [List.getElem?_map] at hu
    have hi : i < len := by
      by_cases hi : i < len
      · exact hi
      · rw [List.getElem?_eq_none (by simp; omega)] at hu; cases hu
    rw [List.getElem?_range hi] at hu
    simp only [Option.map_some, Option.some.injEq] at hu
    rw [← hu, ← add_plain]
    exact hf i hi
end
end Go.Proofs.Ytmnojmcbghdciaa
