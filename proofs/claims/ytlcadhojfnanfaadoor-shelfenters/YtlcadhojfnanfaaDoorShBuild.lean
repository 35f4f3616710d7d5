/- strings.Builder, once more: what was written so far. -/
import Derived.Test.YtlcadhojfnanfaaDoorPtBase
import Derived.Test.YtlcadhojfnanfaaDoorCtBuild
import Derived.Test.YtlcadhojfnanfaaDoorShClone
namespace Go.Proofs.YtlcadhojfnanfaaDoor
set_option maxRecDepth 20000
open Go.RowKit Go.Shelf

def Bl (B b : Nat) (l : List UInt8) (w : World) : Prop := Lib.IsBuilder 48 5 B b (Lib.byteCells l) w
theorem ptWrite_any (B b : Nat) (l : List UInt8) (s : ByteArray) (w : World) (h : Bl B b l w) (hlen : l.length + s.size ≤ 140737488355328) (hBw : B ≤ w.heap.size) :
    Calls Tryd.prog 23 #[.pointer (some ⟨b, 0, none⟩), .string s] w fun e w' => e = .returned (.tuple #[.int .i64 s.size, .nilIface]) ∧ Bl B b (l ++ s.data.toList) w' ∧ Below B w w' := by
  refine (Any.Builder_WriteString ct166 ct166_extra B b (Lib.byteCells l) s w h (by rw [Lib.byteCells_length]; exact hlen) hBw).mono fun e w' ⟨he, hB, hb⟩ => ⟨by rw [he], .inr ?_, hb⟩
  have e : Lib.byteCells l ++ Lib.strCells s = Lib.byteCells (l ++ s.data.toList) := by simp [Lib.byteCells, Lib.strCells]
  rw [← e]
  exact hB
theorem pt_owns {w w' : World} {base : Nat} {e : TypeId} {size : Nat} {v : Value} {n : Nat} {xs : List Value} (h : w.ownsRow base e size v n xs) (hk : ∀ k, k < w.heap.size → w'.heap[k]? = w.heap[k]?) : w'.ownsRow base e size v n xs := by
  refine ⟨h.1, ?_⟩
  rcases h.2 with h0 | ⟨g, cap, cur, e, h0, hg, h1, h2, h3, h4⟩
  · exact .inl h0
  · exact .inr ⟨g, cap, cur, e, h0, (hk g (lt_of_block hg)).trans hg, h1, h2, h3, h4⟩
theorem Bl_keep {B b : Nat} {l : List UInt8} {w w' : World} (h : Bl B b l w) (hb : Below w.heap.size w w') : Bl B b l w' := by
  have hk : ∀ k, k < w.heap.size → w'.heap[k]? = w.heap[k]? := fun k hk => hb.block k hk
  rcases h with ⟨h1, v, h2, h3, h4⟩ | ⟨h1, v, h2, h3, h4⟩
  · exact .inl ⟨h1, v, (hk _ (lt_of_block h2)).trans h2, pt_owns h3 hk, h4⟩
  · exact .inr ⟨h1, v, (hk _ (lt_of_block h2)).trans h2, pt_owns h3 hk, h4⟩
theorem below_drewN {B : Nat} {w wr : World} (h : Below B w wr) : ∀ m, Below B w (wr.drewN m)
  | 0 => h
  | m + 1 => (below_drewN h m).drew
end Go.Proofs.YtlcadhojfnanfaaDoor
