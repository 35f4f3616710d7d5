/- The law PackInodes, called with any inode, returns true, and changes nothing that was there. -/
import Derived.Test.YtjlilbkddgggoabAwake
import Derived.Test.YtjlilbkddgggoabInode
import Derived.Test.YtjlilbkddgggoabRefInode
import Derived.Test.YtjlilbkddgggoabOpenInode
namespace Go.Proofs.Ytjlilbkddgggoab
open Go.RowKit

set_option maxHeartbeats 1000000 in
theorem walk_packInodes (a0 a1 a2 a3 a4 a5 : Int) (d : Nat → Int) (h : IsInt a0 ∧ IsInt a1 ∧ IsInt a2 ∧ IsInt a3 ∧ IsInt a4 ∧ IsInt a5 ∧ ∀ i, i < 12 → IsInt (d i)) (w : World) :
    Calls Try.prog 3 #[.agg #[.int .i64 a0, .int .i64 a1, .int .i64 a2, .int .i64 a3, .int .i64 (d 0), .int .i64 (d 1), .int .i64 (d 2), .int .i64 (d 3), .int .i64 (d 4), .int .i64 (d 5), .int .i64 (d 6), .int .i64 (d 7), .int .i64 (d 8), .int .i64 (d 9), .int .i64 (d 10), .int .i64 (d 11), .int .i64 a4, .int .i64 a5]] w fun e w' => e = .returned (.bool true) ∧ Below w.heap.size w w' := by
  have HM : Hid (∀ p ∈ inodePs a0 a1 a2 a3 d a4 a5, p.1 ≤ 9223372036854775807) := by
    obtain ⟨h0, h1, h2, h3, h4, h5, h6⟩ := h
    intro p hp
    simp only [inodePs, inoPs, List.mem_append, List.mem_cons, List.mem_nil_iff, or_false, List.mem_map, List.mem_range] at hp
    rcases hp with ((( rfl | rfl | rfl | rfl) | ⟨i, hi, rfl⟩) | rfl) | rfl
    all_goals first | exact int_le8 (h6 _ hi) | (apply int_le8; assumption)
  clear h
  have hg0 : (w.alloc (.cells #[.int .i64 a0, .int .i64 a1, .int .i64 a2, .int .i64 a3, .int .i64 (d 0), .int .i64 (d 1), .int .i64 (d 2), .int .i64 (d 3), .int .i64 (d 4), .int .i64 (d 5), .int .i64 (d 6), .int .i64 (d 7), .int .i64 (d 8), .int .i64 (d 9), .int .i64 (d 10), .int .i64 (d 11), .int .i64 a4, .int .i64 a5] 24)).heap[w.heap.size]? = some (.cells #[.int .i64 a0, .int .i64 a1, .int .i64 a2, .int .i64 a3, .int .i64 (d 0), .int .i64 (d 1), .int .i64 (d 2), .int .i64 (d 3), .int .i64 (d 4), .int .i64 (d 5), .int .i64 (d 6), .int .i64 (d 7), .int .i64 (d 8), .int .i64 (d 9), .int .i64 (d 10), .int .i64 (d 11), .int .i64 a4, .int .i64 a5] 24 (0, 0)) := heap_alloc_new w _
  go_enter Try.func3, Try.ntmps3
  go_wp2_with (refine wpList_load_row rfl 24 _ rfl w.heap.size rfl 24 _ (0, 0) _ hg0 Try.underlying24 rfl (by kernel_rfl) ?_)
  refine (inode_any a0 a1 a2 a3 a4 a5 d _).mono ?_
  rintro e w1 ⟨rfl, hb1⟩
  have hg1 : w1.heap[w.heap.size]? = some (.cells #[.int .i64 a0, .int .i64 a1, .int .i64 a2, .int .i64 a3, .int .i64 (d 0), .int .i64 (d 1), .int .i64 (d 2), .int .i64 (d 3), .int .i64 (d 4), .int .i64 (d 5), .int .i64 (d 6), .int .i64 (d 7), .int .i64 (d 8), .int .i64 (d 9), .int .i64 (d 10), .int .i64 (d 11), .int .i64 a4, .int .i64 a5] 24 (0, 0)) := (hb1.block w.heap.size (by simp)).trans hg0
  have hb1' : Below w.heap.size w w1 := ((Below.refl _ _).alloc (Nat.le_refl _) _).trans (hb1.mono (by simp))
  clear hb1 hg0
  go_wp2_with (refine wpList_load_row rfl 24 _ rfl w.heap.size rfl 24 _ (0, 0) _ hg1 Try.underlying24 rfl (by kernel_rfl) ?_)
  refine (rinode_any a0 a1 a2 a3 a4 a5 d HM.out _).mono ?_
  rintro e w2 ⟨rfl, hb2⟩
  clear hg1
  go_wp2_with fail
  refine (awake_any _).mono ?_
  rintro e w3 ⟨rfl, hb3⟩
  go_wp2
  go_ret
  exact ⟨rfl, hb1'.trans ((hb2.mono hb1'.size).trans (hb3.mono (Nat.le_trans hb1'.size hb2.size)))⟩
end Go.Proofs.Ytjlilbkddgggoab
