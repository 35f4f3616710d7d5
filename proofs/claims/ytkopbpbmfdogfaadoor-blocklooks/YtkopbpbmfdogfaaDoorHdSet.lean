/- A head that is loaded whole, and stored number by number. -/
import Derived.Test.YtkopbpbmfdogfaaDoorPut
namespace Go.Proofs.YtkopbpbmfdogfaaDoor
set_option maxRecDepth 20000
open Go.RowKit Go.Lib

theorem load_head (w : World) (g : Nat) (cs : Array Value) (hg : w.heap[g]? = some (.cells cs 33 (0, 0))) (hs : cs.size = 8) :
    (loadVar 33 ⟨g, 0, none⟩).run Tryd.prog w = .ok (.agg cs) w :=
  run_loadVar_row (P := Tryd.prog) w g 33 33 cs (0, 0) _ hg Tryd.underlying33 rfl (by rw [hs]; kernel_rfl)

theorem set8 (w : World) (g : Nat) (t : TypeId) (v0 v1 v2 v3 v4 v5 v6 v7 : Value) (h : w.heap[g]? = some (.cells #[.int .i64 0, .int .i64 0, .int .i64 0, .int .i64 0, .int .i64 0, .int .i64 0, .int .i64 0, .int .i64 0] t (0, 0))) :
    ((((((((w.setCell ⟨g, 0, none⟩ v0).setCell ⟨g, 1, none⟩ v1).setCell ⟨g, 2, none⟩ v2).setCell ⟨g, 3, none⟩ v3).setCell ⟨g, 4, none⟩ v4).setCell ⟨g, 5, none⟩ v5).setCell ⟨g, 6, none⟩ v6).setCell ⟨g, 7, none⟩ v7).heap[g]? = some (.cells #[v0, v1, v2, v3, v4, v5, v6, v7] t (0, 0)) := by
  have e0 := heap_setCell_same w g 0 _ t v0 h
  have e1 := heap_setCell_same _ g 1 _ t v1 e0
  have e2 := heap_setCell_same _ g 2 _ t v2 e1
  have e3 := heap_setCell_same _ g 3 _ t v3 e2
  have e4 := heap_setCell_same _ g 4 _ t v4 e3
  have e5 := heap_setCell_same _ g 5 _ t v5 e4
  have e6 := heap_setCell_same _ g 6 _ t v6 e5
  have e7 := heap_setCell_same _ g 7 _ t v7 e6
  exact e7.trans (by simp)
theorem below8 {w w0 : World} {g : Nat} (h : Below g w0 w) (v0 v1 v2 v3 v4 v5 v6 v7 : Value) : Below g w0 ((((((((w.setCell ⟨g, 0, none⟩ v0).setCell ⟨g, 1, none⟩ v1).setCell ⟨g, 2, none⟩ v2).setCell ⟨g, 3, none⟩ v3).setCell ⟨g, 4, none⟩ v4).setCell ⟨g, 5, none⟩ v5).setCell ⟨g, 6, none⟩ v6).setCell ⟨g, 7, none⟩ v7) :=
  (((((((h.setCell (p := ⟨g, 0, none⟩) (Nat.le_refl _) v0).setCell (p := ⟨g, 1, none⟩) (Nat.le_refl _) v1).setCell (p := ⟨g, 2, none⟩) (Nat.le_refl _) v2).setCell (p := ⟨g, 3, none⟩) (Nat.le_refl _) v3).setCell (p := ⟨g, 4, none⟩) (Nat.le_refl _) v4).setCell (p := ⟨g, 5, none⟩) (Nat.le_refl _) v5).setCell (p := ⟨g, 6, none⟩) (Nat.le_refl _) v6).setCell (p := ⟨g, 7, none⟩) (Nat.le_refl _) v7
end Go.Proofs.YtkopbpbmfdogfaaDoor
