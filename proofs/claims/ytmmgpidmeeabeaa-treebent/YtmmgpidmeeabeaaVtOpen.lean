/- The ideal vault opens. -/
import Derived.Test.YtmmgpidmeeabeaaVtIdeal
namespace Go.Proofs.Ytmmgpidmeeabeaa
set_option maxRecDepth 20000
open Go.RowKit Go.Maps

theorem lt_of_cell {w : World} {N i : Nat} {v : Value} (h : w.cell? ⟨N, i, none⟩ = some v) : N < w.heap.size := by
  by_cases hn : N < w.heap.size
  · exact hn
  · rw [World.cell?] at h
    simp [Array.getElem?_eq_none (Nat.le_of_not_lt hn)] at h
/-- What stands ahead of the last 16 bytes, and these. -/
def headS (s : ByteArray) : ByteArray := s.extract 0 (s.size - 16)
def tagS16 (s : ByteArray) : ByteArray := s.extract (s.size - 16) s.size
end Go.Proofs.Ytmmgpidmeeabeaa
