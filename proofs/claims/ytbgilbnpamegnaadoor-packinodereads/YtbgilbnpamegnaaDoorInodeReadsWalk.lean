/- The law PackInodeReads, called with any text, returns true, and changes nothing that was there. -/
import Derived.Test.YtbgilbnpamegnaaDoorAwake
import Derived.Test.YtbgilbnpamegnaaDoorInodeOf
import Derived.Test.YtbgilbnpamegnaaDoorRefInodeOf
import Derived.ChangeKeysEq
namespace Go.Proofs.YtbgilbnpamegnaaDoor
open Go.RowKit

theorem eql_arr12 (a0 a1 a2 a3 a4 a5 a6 a7 a8 a9 a10 a11 : Int) (w : World) : (Op.equalIn 9999 22 (.agg #[.int .i64 a0, .int .i64 a1, .int .i64 a2, .int .i64 a3, .int .i64 a4, .int .i64 a5, .int .i64 a6, .int .i64 a7, .int .i64 a8, .int .i64 a9, .int .i64 a10, .int .i64 a11]) (.agg #[.int .i64 a0, .int .i64 a1, .int .i64 a2, .int .i64 a3, .int .i64 a4, .int .i64 a5, .int .i64 a6, .int .i64 a7, .int .i64 a8, .int .i64 a9, .int .i64 a10, .int .i64 a11])).run Tryd.prog w = .ok true w := by
  obtain ⟨i0, hi, _⟩ := info_parts infoInt
  have hc : Tryd.prog.cellsOf 3 = 1 := by kernel_rfl
  have hr : List.range 12 = [0, 1, 2, 3, 4, 5, 6, 7, 8, 9, 10, 11] := rfl
  rw [show 9999 = 9998 + 1 from rfl, run_equalIn_array w 9998 _ _ Tryd.underlying22 hi, hc, hr]
  simp only [Op.eqItems]
  go_simp
theorem eql_inode_self (a0 a1 a2 a3 a4 a5 a6 a7 a8 a9 a10 a11 a12 a13 a14 a15 a16 a17 : Int) (w : World) : (binOp .eql 24 (.agg #[.int .i64 a0, .int .i64 a1, .int .i64 a2, .int .i64 a3, .int .i64 a4, .int .i64 a5, .int .i64 a6, .int .i64 a7, .int .i64 a8, .int .i64 a9, .int .i64 a10, .int .i64 a11, .int .i64 a12, .int .i64 a13, .int .i64 a14, .int .i64 a15, .int .i64 a16, .int .i64 a17]) (.agg #[.int .i64 a0, .int .i64 a1, .int .i64 a2, .int .i64 a3, .int .i64 a4, .int .i64 a5, .int .i64 a6, .int .i64 a7, .int .i64 a8, .int .i64 a9, .int .i64 a10, .int .i64 a11, .int .i64 a12, .int .i64 a13, .int .i64 a14, .int .i64 a15, .int .i64 a16, .int .i64 a17])).run Tryd.prog w = .ok (.bool true) w := by
  have h12 := eql_arr12 a4 a5 a6 a7 a8 a9 a10 a11 a12 a13 a14 a15 w
  go_simp
theorem eql_inodeOC (s : ByteArray) (w : World) : (binOp .eql 24 (.agg (inodeOC s)) (.agg (inodeOC s))).run Tryd.prog w = .ok (.bool true) w := by
  by_cases h : inodeOE s = 0
  · rw [inodeOC, if_pos h]; exact eql_inode_self _ _ _ _ _ _ _ _ _ _ _ _ _ _ _ _ _ _ w
  · rw [inodeOC, if_neg h]; exact eql_inode_self _ _ _ _ _ _ _ _ _ _ _ _ _ _ _ _ _ _ w

theorem below_row {B g : Nat} {w0 w : World} (h : Below B w0 w) (hg : B ≤ g) (cs : Array Value) : Below B w0 (w.setRow g cs) :=
  h.trans ⟨rfl, rfl, rfl, by simp [World.setRow], fun k hk => setRow_other _ _ _ _ (by omega)⟩

set_option maxHeartbeats 400000 in
theorem walk_packInodeReads (s : ByteArray) (w : World) :
    Calls Tryd.prog 3 #[.string s] w fun e w' => e = .returned (.bool true) ∧ Below w.heap.size w w' := by
  go_enter Tryd.func3, Tryd.ntmps3
  go_wp2_with fail
  refine (inodeOf_any s _).mono ?_
  rintro e w1 ⟨rfl, hb1⟩
  have g1 := heap_alloc_new w1 (.cells #[.int .i64 0, .int .i64 0, .int .i64 0, .int .i64 0, .int .i64 0, .int .i64 0, .int .i64 0, .int .i64 0, .int .i64 0, .int .i64 0, .int .i64 0, .int .i64 0, .int .i64 0, .int .i64 0, .int .i64 0, .int .i64 0, .int .i64 0, .int .i64 0] 24)
  have hba := hb1.alloc hb1.size (.cells #[.int .i64 0, .int .i64 0, .int .i64 0, .int .i64 0, .int .i64 0, .int .i64 0, .int .i64 0, .int .i64 0, .int .i64 0, .int .i64 0, .int .i64 0, .int .i64 0, .int .i64 0, .int .i64 0, .int .i64 0, .int .i64 0, .int .i64 0, .int .i64 0] 24)
  have hl1 := hb1.size
  have hsz : (w1.alloc (.cells #[.int .i64 0, .int .i64 0, .int .i64 0, .int .i64 0, .int .i64 0, .int .i64 0, .int .i64 0, .int .i64 0, .int .i64 0, .int .i64 0, .int .i64 0, .int .i64 0, .int .i64 0, .int .i64 0, .int .i64 0, .int .i64 0, .int .i64 0, .int .i64 0] 24)).heap.size = w1.heap.size + 1 := by simp
  clear hb1
  go_wp2_with (refine wpList_store_row rfl 24 _ _ rfl w1.heap.size (inodeOC s) rfl rfl 24 _ g1 (by rw [inodeOC_size]; kernel_rfl) (by rw [inodeOC_size]; rfl) (inodeOC_one s) ?_)
  have k1 := setRow_heap _ _ _ (inodeOC s) _ _ g1
  have kb := below_row hba (show w.heap.size ≤ w1.heap.size from hl1) (inodeOC s)
  clear g1 hba hsz
  generalize ((w1.alloc (.cells #[.int .i64 0, .int .i64 0, .int .i64 0, .int .i64 0, .int .i64 0, .int .i64 0, .int .i64 0, .int .i64 0, .int .i64 0, .int .i64 0, .int .i64 0, .int .i64 0, .int .i64 0, .int .i64 0, .int .i64 0, .int .i64 0, .int .i64 0, .int .i64 0] 24)).setRow w1.heap.size (inodeOC s)) = w2 at *
  refine (rinodeOf_any s _).mono ?_
  rintro e w3 ⟨rfl, hb3⟩
  have k3 := (hb3.block w1.heap.size (lt_of_block k1)).trans k1
  have hl3 := lt_of_block k3
  have kb3 := kb.trans (hb3.mono kb.size)
  clear k1 kb hb3
  have g3 := heap_alloc_new w3 (.cells #[.int .i64 0, .int .i64 0, .int .i64 0, .int .i64 0, .int .i64 0, .int .i64 0, .int .i64 0, .int .i64 0, .int .i64 0, .int .i64 0, .int .i64 0, .int .i64 0, .int .i64 0, .int .i64 0, .int .i64 0, .int .i64 0, .int .i64 0, .int .i64 0] 24)
  have k4 := (Below.heap_alloc w3 (.cells #[.int .i64 0, .int .i64 0, .int .i64 0, .int .i64 0, .int .i64 0, .int .i64 0, .int .i64 0, .int .i64 0, .int .i64 0, .int .i64 0, .int .i64 0, .int .i64 0, .int .i64 0, .int .i64 0, .int .i64 0, .int .i64 0, .int .i64 0, .int .i64 0] 24) w1.heap.size hl3).trans k3
  have hba := kb3.alloc kb3.size (.cells #[.int .i64 0, .int .i64 0, .int .i64 0, .int .i64 0, .int .i64 0, .int .i64 0, .int .i64 0, .int .i64 0, .int .i64 0, .int .i64 0, .int .i64 0, .int .i64 0, .int .i64 0, .int .i64 0, .int .i64 0, .int .i64 0, .int .i64 0, .int .i64 0] 24)
  have hk5 := (setRow_other (w3.alloc (.cells #[.int .i64 0, .int .i64 0, .int .i64 0, .int .i64 0, .int .i64 0, .int .i64 0, .int .i64 0, .int .i64 0, .int .i64 0, .int .i64 0, .int .i64 0, .int .i64 0, .int .i64 0, .int .i64 0, .int .i64 0, .int .i64 0, .int .i64 0, .int .i64 0] 24)) w3.heap.size w1.heap.size (inodeOC s) (by omega)).trans k4
  have hk6 := setRow_heap _ _ _ (inodeOC s) _ _ g3
  have hq := eql_inodeOC s
  have hbz := below_row hba (show w.heap.size ≤ w3.heap.size from by omega) (inodeOC s)
  go_wp2_with (first | refine wpList_store_row rfl 24 _ _ rfl w3.heap.size (inodeOC s) rfl rfl 24 _ g3 (by rw [inodeOC_size]; kernel_rfl) (by rw [inodeOC_size]; rfl) (inodeOC_one s) ?_ | refine wpList_load_row rfl 24 _ rfl w1.heap.size rfl 24 _ (0, 0) _ hk5 Tryd.underlying24 rfl (by rw [inodeOC_size]; kernel_rfl) ?_ | refine wpList_load_row rfl 24 _ rfl w3.heap.size rfl 24 _ (0, 0) _ hk6 Tryd.underlying24 rfl (by rw [inodeOC_size]; kernel_rfl) ?_)
  refine (awake_any _).mono ?_
  rintro e w5 ⟨rfl, hb5⟩
  have hbe := hbz.trans (hb5.mono hbz.size)
  clear k3 hl3 kb3 g3 k4 hba hk5 hk6 hq hbz hb5
  go_wp2
  go_ret
  exact ⟨rfl, hbe⟩
end Go.Proofs.YtbgilbnpamegnaaDoor
