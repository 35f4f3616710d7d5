/- The law PackSuperReads, called with any text, returns true, and changes nothing that was there. -/
import Derived.Test.YtjlilbkddgggoabDoorAwake
import Derived.Test.YtjlilbkddgggoabDoorSuperOf
import Derived.Test.YtjlilbkddgggoabDoorRefSuperOf
namespace Go.Proofs.YtjlilbkddgggoabDoor
open Go.RowKit

theorem eql_super_self (a0 a1 a2 a3 : Int) (r : ByteArray) (w : World) : (binOp .eql 35 (.agg #[.int .i64 a0, .int .i64 a1, .int .i64 a2, .int .i64 a3, .string r]) (.agg #[.int .i64 a0, .int .i64 a1, .int .i64 a2, .int .i64 a3, .string r])).run Tryd.prog w = .ok (.bool true) w := by
  go_simp
theorem eql_superOC (s : ByteArray) (w : World) : (binOp .eql 35 (.agg (superOC s)) (.agg (superOC s))).run Tryd.prog w = .ok (.bool true) w := eql_super_self _ _ _ _ _ w

theorem below_rowS {B g : Nat} {w0 w : World} (h : Below B w0 w) (hg : B ≤ g) (cs : Array Value) : Below B w0 (w.setRow g cs) :=
  h.trans ⟨rfl, rfl, rfl, by simp [World.setRow], fun k hk => setRow_other _ _ _ _ (by omega)⟩

set_option maxHeartbeats 400000 in
theorem walk_packSuperReads (s : ByteArray) (w : World) :
    Calls Tryd.prog 5 #[.string s] w fun e w' => e = .returned (.bool true) ∧ Below w.heap.size w w' := by
  go_enter Tryd.func5, Tryd.ntmps5
  go_wp2_with fail
  refine (superOf_any s _).mono ?_
  rintro e w1 ⟨rfl, hb1⟩
  have g1 := heap_alloc_new w1 (.cells #[.int .i64 0, .int .i64 0, .int .i64 0, .int .i64 0, .string ⟨#[]⟩] 35)
  have hba := hb1.alloc hb1.size (.cells #[.int .i64 0, .int .i64 0, .int .i64 0, .int .i64 0, .string ⟨#[]⟩] 35)
  have hl1 := hb1.size
  have hsz : (w1.alloc (.cells #[.int .i64 0, .int .i64 0, .int .i64 0, .int .i64 0, .string ⟨#[]⟩] 35)).heap.size = w1.heap.size + 1 := by simp
  clear hb1
  go_wp2_with (refine wpList_store_row rfl 35 _ _ rfl w1.heap.size (superOC s) rfl rfl 35 _ g1 (by kernel_rfl) rfl (superOC_one s) ?_)
  have k1 := setRow_heap _ _ _ (superOC s) _ _ g1
  have kb := below_rowS hba (show w.heap.size ≤ w1.heap.size from hl1) (superOC s)
  clear g1 hba hsz
  generalize ((w1.alloc (.cells #[.int .i64 0, .int .i64 0, .int .i64 0, .int .i64 0, .string ⟨#[]⟩] 35)).setRow w1.heap.size (superOC s)) = w2 at *
  refine (rsuperOf_any s _).mono ?_
  rintro e w3 ⟨rfl, hb3⟩
  have k3 := (hb3.block w1.heap.size (lt_of_block k1)).trans k1
  have hl3 := lt_of_block k3
  have kb3 := kb.trans (hb3.mono kb.size)
  clear k1 kb hb3
  have g3 := heap_alloc_new w3 (.cells #[.int .i64 0, .int .i64 0, .int .i64 0, .int .i64 0, .string ⟨#[]⟩] 35)
  have k4 := (Below.heap_alloc w3 (.cells #[.int .i64 0, .int .i64 0, .int .i64 0, .int .i64 0, .string ⟨#[]⟩] 35) w1.heap.size hl3).trans k3
  have hba := kb3.alloc kb3.size (.cells #[.int .i64 0, .int .i64 0, .int .i64 0, .int .i64 0, .string ⟨#[]⟩] 35)
  have hk5 := (setRow_other (w3.alloc (.cells #[.int .i64 0, .int .i64 0, .int .i64 0, .int .i64 0, .string ⟨#[]⟩] 35)) w3.heap.size w1.heap.size (superOC s) (by omega)).trans k4
  have hk6 := setRow_heap _ _ _ (superOC s) _ _ g3
  have hq := eql_superOC s
  have hbz := below_rowS hba (show w.heap.size ≤ w3.heap.size from by omega) (superOC s)
  go_wp2_with (first | refine wpList_store_row rfl 35 _ _ rfl w3.heap.size (superOC s) rfl rfl 35 _ g3 (by kernel_rfl) rfl (superOC_one s) ?_ | refine wpList_load_row rfl 35 _ rfl w1.heap.size rfl 35 _ (0, 0) _ hk5 Tryd.underlying35 rfl (by kernel_rfl) ?_ | refine wpList_load_row rfl 35 _ rfl w3.heap.size rfl 35 _ (0, 0) _ hk6 Tryd.underlying35 rfl (by kernel_rfl) ?_)
  refine (awake_any _).mono ?_
  rintro e w5 ⟨rfl, hb5⟩
  have hbe := hbz.trans (hb5.mono hbz.size)
  clear k3 hl3 kb3 g3 k4 hba hk5 hk6 hq hbz hb5
  go_wp2
  go_ret
  exact ⟨rfl, hbe⟩
end Go.Proofs.YtjlilbkddgggoabDoor
