/- Blocks of cells: a part of one written anew; copy of a text's first bytes into one. -/
import Derived.Test.YtfmaajfohieneaaDoorMg15
import Derived.Lib.LazyBuf
import Derived.Lib.SliceRun
namespace Go.Proofs.YtfmaajfohieneaaDoor.Sm
set_option maxRecDepth 20000
open Go.RowKit

theorem Row.lt {w : World} {g : Nat} {t : TypeId} {l : List Value} (h : Row w g t l) : g < w.heap.size := lt_of_block h
theorem Row.cell {w : World} {g : Nat} {t : TypeId} {l : List Value} (h : Row w g t l) (i : Nat) : w.cell? ⟨g, i, none⟩ = l[i]? := (cell_of_row _ _ _ _ _ _ h).trans (by simp)
theorem Row.frozen {w : World} {g : Nat} {t : TypeId} {l : List Value} (h : Row w g t l) (i : Nat) : w.frozen? ⟨g, i, none⟩ = false := by simp [World.frozen?, show w.heap[g]? = _ from h]
theorem Row.below {w w' : World} {g : Nat} {t : TypeId} {l : List Value} (h : Row w g t l) {B : Nat} (hb : Below B w w') (hg : g < B) : Row w' g t l := (hb.block _ hg).trans h
theorem Row.only {w w' : World} {g b : Nat} {t : TypeId} {l : List Value} (h : Row w g t l) (ho : Only b w w') (hg : g ≠ b) : Row w' g t l := (ho.2 _ h.lt hg).trans h
theorem Row.set {w : World} {g n : Nat} {t : TypeId} {A C : List Value} {q : Value} (h : Row w g t (A ++ [q] ++ C)) (v : Value) (hn : n = A.length) : Row (w.setCell ⟨g, n, none⟩ v) g t (A ++ [v] ++ C) := by
  have h1 := heap_setCell_same w g n _ t v h
  have h2 := set_mid A [] [] C v q n (by simpa using hn)
  simp only [List.append_nil, List.nil_append] at h2
  rw [h2] at h1
  exact h1
theorem Row.setCells {g : Nat} {t : TypeId} {C : List Value} : ∀ (vs B A : List Value) (w : World) (n : Nat), vs.length = B.length → n = A.length → Row w g t (A ++ B ++ C) → Row (w.setCells g n vs) g t (A ++ vs ++ C)
  | [], [], A, w, n, _, _, h => h
  | v :: vs, q :: B, A, w, n, hl, hn, h => by
    have h1 : Row w g t (A ++ [q] ++ (B ++ C)) := by simpa using h
    have h2 := h1.set v hn
    have h3 : Row (w.setCell ⟨g, n, none⟩ v) g t ((A ++ [v]) ++ B ++ C) := by simpa using h2
    have h4 := Row.setCells vs B (A ++ [v]) _ (n + 1) (by simpa using hl) (by simp [hn]) h3
    show Row ((w.setCell ⟨g, n, none⟩ v).setCells g (n + 1) vs) g t (A ++ (v :: vs) ++ C)
    rw [show A ++ (v :: vs) ++ C = (A ++ [v]) ++ vs ++ C by simp]
    exact h4
  | v :: vs, [], A, w, n, hl, _, _ => by simp at hl
  | [], q :: B, A, w, n, hl, _, _ => by simp at hl
theorem Only.setCells {b : Nat} {w : World} : ∀ (vs : List Value) (n : Nat) (w' : World), Only b w w' → Only b w (w'.setCells b n vs)
  | [], _, _, h => h
  | v :: vs, n, _, h => Only.setCells vs (n + 1) _ (h.setCell n v)

/-- copy of a text that is longer than there is room. -/
theorem run_copy_part {P : Program} (w : World) (dT sT ty elem : TypeId) (b o dLen dCap : Nat) (t : ByteArray)
    (hu : P.underlying dT = some (.slice elem)) (hz : ∀ w, (Go.sizeOf elem).run P w = .ok 1 w) (hle : dLen ≤ t.size)
    (hc : ∀ j, j < dLen → (w.cell? ⟨b, o + j, none⟩).isSome = true) (hf : ∀ j, j < dLen → w.frozen? ⟨b, o + j, none⟩ = false) :
    (Builtin.copy_ #[dT, sT] ty #[.slice (some ⟨b, o, none⟩) dLen dCap, .string t]).run P w = .ok (goInt dLen) (w.setCells b o ((t.data.toList.take dLen).map fun x => Value.int .u8 (x.toNat : Int))) := by
  have hmin : Nat.min t.size dLen = dLen := Nat.min_eq_right hle
  have hl : ((t.data.toList.take dLen).map fun x => Value.int .u8 (x.toNat : Int)).length = dLen := by
    rw [List.length_map, List.length_take, ← Lib.size_eq]; omega
  have hst := run_storeCells_cells (P := P) b o ((t.data.toList.take dLen).map fun x => Value.int .u8 (x.toNat : Int)) 0 w (by rw [hl]; simpa using hc) (by rw [hl]; simpa using hf) (by
    intro v hv
    obtain ⟨x, _, rfl⟩ := List.mem_map.1 hv
    rfl)
  simp [Builtin.copy_, run_underlying hu, Builtin.lenOf, Builtin.firstCells, hz, hmin]
  rw [← List.map_take, hst]
  rfl
end Go.Proofs.YtfmaajfohieneaaDoor.Sm
