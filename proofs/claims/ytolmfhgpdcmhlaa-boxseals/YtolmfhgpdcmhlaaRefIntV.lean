/- Lists of ints as cells; a new slice; draws. -/
import Derived.Test.YtolmfhgpdcmhlaaBxOwn
import Derived.Test.YtolmfhgpdcmhlaaBxCopy
namespace Go.Proofs.Ytolmfhgpdcmhlaa
open Go.RowKit

theorem info_int : (Try.prog.info? 3).map (fun i => (i.zero, i.size, i.bytes)) = some (some (.int .i64 0), 1, 8) := by kernel_rfl
def intV (l : List Nat) : List Value := l.map fun (x : Nat) => Value.int .i64 (x : Int)
theorem intV_one (l : List Nat) : ∀ u ∈ intV l, u.oneCell' = true := fun u hu => by
  obtain ⟨x, _, rfl⟩ := List.mem_map.1 hu
  rfl
theorem intV_at (l : List Nat) (i : Nat) (h : i < l.length) : (intV l)[i]? = some (.int .i64 (l.getD i 0 : Nat)) := by
  rw [intV, List.getElem?_map, List.getElem?_eq_getElem h, getD_at _ _ h]; rfl
theorem OwnC.fresh (w : World) (t : TypeId) (vs : List Value) (n : Nat) (hl : vs.length = n) (hm : n ≤ maxLen) : OwnC (w.alloc (.cells vs.toArray t)) w.heap.size w.heap.size n n vs := by
  have hr : Row (w.alloc (.cells vs.toArray t)) w.heap.size t vs := heap_alloc_new w _
  refine ⟨hl, Nat.le_refl _, by simp, Nat.le_refl _, hm, fun i hi => ?_, fun i hi => hr.frozen i, fun i u hu => (hr.cell i).trans hu⟩
  rw [hr.cell, List.getElem?_eq_getElem (by omega)]; rfl
theorem below_drewN {B : Nat} {w w' : World} (h : Below B w w') (n : Nat) : Below B w (w'.drewN n) := h.trans ⟨rfl, rfl, rfl, Nat.le_refl _, fun _ _ => rfl⟩
theorem OwnC.drewN {w : World} {base g n cap : Nat} {xs : List Value} (h : OwnC w base g n cap xs) (k : Nat) : OwnC (w.drewN k) base g n cap xs := h.kept rfl (Nat.le_refl _)
theorem strN_nums (s : ByteArray) : strN (numsOf s) = s := by
  unfold strN strOfNums numsOf
  rw [List.map_map, List.map_map]
  have : ((fun (n : Int) => UInt8.ofNat n.toNat) ∘ (fun (x : Nat) => (x : Int))) ∘ (fun (x : UInt8) => x.toNat) = id := by
    funext x
    simp
  rw [this, List.map_id]
theorem strN_app (a b : List Nat) : strN a ++ strN b = strN (a ++ b) := by
  unfold strN strOfNums
  apply ByteArray.ext
  simp
theorem numsAt (s : ByteArray) (i : Nat) (h : i < s.size) : (numsOf s).getD i 0 = s[i].toNat := by
  rw [getD_at _ _ (by rw [numsOf_length]; exact h)]
  simp [numsOf]
  rfl
end Go.Proofs.Ytolmfhgpdcmhlaa
