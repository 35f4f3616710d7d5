/- The law PackEntryReads, called with any text, returns true, and changes nothing that was there. -/
import Derived.Test.YtoiahppilfjoeabDoorAwake
import Derived.Test.YtoiahppilfjoeabDoorEntryOf
import Derived.Test.YtoiahppilfjoeabDoorRefEntryOf
namespace Go.Proofs.YtoiahppilfjoeabDoor
open Go.RowKit

theorem eql_entry_self (a0 a1 : Int) (r : ByteArray) (w : World) : (binOp .eql 31 (.agg #[.string r, .int .i64 a0, .int .i64 a1]) (.agg #[.string r, .int .i64 a0, .int .i64 a1])).run Tryd.prog w = .ok (.bool true) w := by
  go_simp
theorem eql_entryOC (s : ByteArray) (w : World) : (binOp .eql 31 (.agg (entryOC s)) (.agg (entryOC s))).run Tryd.prog w = .ok (.bool true) w := eql_entry_self _ _ _ w

theorem below_rowE {B g : Nat} {w0 w : World} (h : Below B w0 w) (hg : B ≤ g) (cs : Array Value) : Below B w0 (w.setRow g cs) :=
  h.trans ⟨rfl, rfl, rfl, by simp [World.setRow], fun k hk => setRow_other _ _ _ _ (by omega)⟩

set_option maxHeartbeats 400000 in
theorem walk_packEntryReads (s : ByteArray) (w : World) :
    Calls Tryd.prog 4 #[.string s] w fun e w' => e = .returned (.bool true) ∧ Below w.heap.size w w' := by
  go_enter Tryd.func4, Tryd.ntmps4
  go_wp2_with fail
  refine (entryOf_any s _).mono ?_
  rintro e w1 ⟨rfl, hb1⟩
  have g1 := heap_alloc_new w1 (.cells #[.string ⟨#[]⟩, .int .i64 0, .int .i64 0] 31)
  have hba := hb1.alloc hb1.size (.cells #[.string ⟨#[]⟩, .int .i64 0, .int .i64 0] 31)
  have hl1 := hb1.size
  have hsz : (w1.alloc (.cells #[.string ⟨#[]⟩, .int .i64 0, .int .i64 0] 31)).heap.size = w1.heap.size + 1 := by simp
  clear hb1
  go_wp2_with (refine wpList_store_row rfl 31 _ _ rfl w1.heap.size (entryOC s) rfl rfl 31 _ g1 (by kernel_rfl) rfl (entryOC_one s) ?_)
  have k1 := setRow_heap _ _ _ (entryOC s) _ _ g1
  have kb := below_rowE hba (show w.heap.size ≤ w1.heap.size from hl1) (entryOC s)
  clear g1 hba hsz
  generalize ((w1.alloc (.cells #[.string ⟨#[]⟩, .int .i64 0, .int .i64 0] 31)).setRow w1.heap.size (entryOC s)) = w2 at *
  refine (rentryOf_any s _).mono ?_
  rintro e w3 ⟨rfl, hb3⟩
  have k3 := (hb3.block w1.heap.size (lt_of_block k1)).trans k1
  have hl3 := lt_of_block k3
  have kb3 := kb.trans (hb3.mono kb.size)
  clear k1 kb hb3
  have g3 := heap_alloc_new w3 (.cells #[.string ⟨#[]⟩, .int .i64 0, .int .i64 0] 31)
  have k4 := (Below.heap_alloc w3 (.cells #[.string ⟨#[]⟩, .int .i64 0, .int .i64 0] 31) w1.heap.size hl3).trans k3
  have hba := kb3.alloc kb3.size (.cells #[.string ⟨#[]⟩, .int .i64 0, .int .i64 0] 31)
  have hk5 := (setRow_other (w3.alloc (.cells #[.string ⟨#[]⟩, .int .i64 0, .int .i64 0] 31)) w3.heap.size w1.heap.size (entryOC s) (by omega)).trans k4
  have hk6 := setRow_heap _ _ _ (entryOC s) _ _ g3
  have hq := eql_entryOC s
  have hbz := below_rowE hba (show w.heap.size ≤ w3.heap.size from by omega) (entryOC s)
  go_wp2_with (first | refine wpList_store_row rfl 31 _ _ rfl w3.heap.size (entryOC s) rfl rfl 31 _ g3 (by kernel_rfl) rfl (entryOC_one s) ?_ | refine wpList_load_row rfl 31 _ rfl w1.heap.size rfl 31 _ (0, 0) _ hk5 Tryd.underlying31 rfl (by kernel_rfl) ?_ | refine wpList_load_row rfl 31 _ rfl w3.heap.size rfl 31 _ (0, 0) _ hk6 Tryd.underlying31 rfl (by kernel_rfl) ?_)
  refine (awake_any _).mono ?_
  rintro e w5 ⟨rfl, hb5⟩
  have hbe := hbz.trans (hb5.mono hbz.size)
  clear k3 hl3 kb3 g3 k4 hba hk5 hk6 hq hbz hb5
  go_wp2
  go_ret
  exact ⟨rfl, hbe⟩
end Go.Proofs.YtoiahppilfjoeabDoor
