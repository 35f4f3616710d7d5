/- Where the row's two tables read as they are laid, the first state and the numbers k stand where the program has them. -/
import Derived.Test.YtfndgiddoijdeabDoorShaSum
import Derived.Lib.LaidTab
namespace Go.Proofs.YtfndgiddoijdeabDoor
open Go.RowKit

def firstZ : List Int := [1779033703, 3144134277, 1013904242, 2773480762, 1359893119, 2600822924, 528734635, 1541459225]
def cubesZ : List Int := [1116352408, 1899447441, 3049323471, 3921009573, 961987163, 1508970993, 2453635748, 2870763221, 3624381080, 310598401, 607225278, 1426881987, 1925078388, 2162078206, 2614888103, 3248222580, 3835390401, 4022224774, 264347078, 604807628, 770255983, 1249150122, 1555081692, 1996064986, 2554220882, 2821834349, 2952996808, 3210313671, 3336571891, 3584528711, 113926993, 338241895, 666307205, 773529912, 1294757372, 1396182291, 1695183700, 1986661051, 2177026350, 2456956037, 2730485921, 2820302411, 3259730800, 3345764771, 3516065817, 3600352804, 4094571909, 275423344, 430227734, 506948616, 659060556, 883997877, 958139571, 1322822218, 1537002063, 1747873779, 1955562222, 2024104815, 2227730452, 2361852424, 2428436474, 2756734187, 3204031479, 3329325298]
theorem firstZ_at (i : Nat) (h : i < 8) : firstZ.getD i 0 = ((st0.at i : Nat) : Int) := by
  have all : ∀ j : Fin 8, firstZ.getD j.val 0 = ((st0.at j.val : Nat) : Int) := by decide
  exact all ⟨i, h⟩
theorem cubesZ_at (i : Nat) (h : i < 64) : cubesZ.getD i 0 = ((keyN i : Nat) : Int) := by
  have all : ∀ j : Fin 64, cubesZ.getD j.val 0 = ((keyN j.val : Nat) : Int) := by decide +kernel
  exact all ⟨i, h⟩
theorem lt_of_cell {w : World} {g i : Nat} {v : Value} (h : w.cell? ⟨g, i, none⟩ = some v) : g < w.heap.size := by
  rcases Nat.lt_or_ge g w.heap.size with h' | h'
  · exact h'
  · simp [World.cell?, Array.getElem?_eq_none h'] at h
theorem tables_of_laid {W : World} (h : laidMet Tryd.prog [("grapnel/sum.first", Lib.tabData .u32 firstZ), ("grapnel/sum.cubes", Lib.tabData .u32 cubesZ)] W) : First W ∧ Cubes W := by
  have g0 : Tryd.prog.globalNamed "grapnel/sum.first" = some 0 := by kernel_rfl
  have g1 : Tryd.prog.globalNamed "grapnel/sum.cubes" = some 1 := by kernel_rfl
  have y1 : (Tryd.prog.globals[1]?).map (·.type) = some 69 := by kernel_rfl
  have T0 := Lib.tabIs_of_head g0 (show (Tryd.prog.globals[0]?).map (·.type) = some 38 by kernel_rfl) Tryd.underlying38 Tryd.underlying36 (by kernel_rfl) (by kernel_rfl) h
  have T1 : Lib.TabIs Tryd.prog W "grapnel/sum.cubes" .u32 cubesZ := by
    obtain ⟨ps, ⟨_, _, _, _, _, _, _, _, _, _, ⟨g', t', cs, fuel, p, q, hg', ht', hvar, hd, _, _⟩, _⟩, _⟩ := h
    obtain rfl := Option.some.inj (g1.symm.trans hg')
    obtain rfl := Option.some.inj (y1.symm.trans ht')
    unfold Lib.TabIs
    rw [hvar, ← Lib.cells_of_tab Tryd.underlying69 Tryd.underlying36 (by kernel_rfl) (by kernel_rfl) hd]
  have c0 : ∀ i, i < 8 → W.cell? ⟨0, i, none⟩ = some (.int .u32 (st0.at i : Nat)) := fun i hi => by rw [T0.cell g0 i hi, firstZ_at i hi]
  have c1 : ∀ i, i < 64 → W.cell? ⟨1, i, none⟩ = some (.int .u32 (keyN i : Nat)) := fun i hi => by rw [T1.cell g1 i hi, cubesZ_at i hi]
  exact ⟨⟨lt_of_cell (c0 0 (by decide)), c0⟩, ⟨lt_of_cell (c1 0 (by decide)), c1⟩⟩
end Go.Proofs.YtfndgiddoijdeabDoor
