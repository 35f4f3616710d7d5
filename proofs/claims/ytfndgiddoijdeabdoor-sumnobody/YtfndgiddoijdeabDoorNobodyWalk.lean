/- The law SumNobody, called with any text where the program's two tables stand, returns true, and changes nothing that was there. -/
import Derived.Test.YtfndgiddoijdeabDoorShaAwake
namespace Go.Proofs.YtfndgiddoijdeabDoor
open Go.RowKit

set_option maxRecDepth 10000 in
set_option maxHeartbeats 1000000 in
theorem walk_sumNobody (s : ByteArray) (w : World) (hf : First w) (hq : Cubes w) :
    Calls Tryd.prog 5 #[.string s] w fun e w' => e = .returned (.bool true) ∧ Below w.heap.size w w' := by
  obtain ⟨zs, hzs⟩ : ∃ zs, zs = (mixZ).toArray := ⟨_, rfl⟩
  have hzv : ∀ w, (zeroValue 42).run Tryd.prog w = .ok (.agg zs) w := by rw [hzs]; exact mix_zero
  have k1 : Row (w.alloc (.cells zs 42)) w.heap.size 42 mixZ := by rw [hzs]; exact heap_alloc_new w _
  clear hzs
  have hb1 := (Below.refl w.heap.size w).alloc (Nat.le_refl _) (.cells zs 42)
  obtain ⟨w1, hw1⟩ : ∃ w1, w.alloc (.cells zs 42) = w1 := ⟨_, rfl⟩
  rw [hw1] at k1 hb1
  have c0 : w1.cell? ⟨w.heap.size, 0, none⟩ = some (.bool false) := k1.cell 0
  have HK : Hid (First w1 ∧ Cubes w1) := ⟨hf.below hb1 hf.1, hq.below hb1 hq.1⟩
  clear k1 hf hq
  go_enter Tryd.func5, Tryd.ntmps5
  go_wp2_with fail
  refine (feed_nil s _).mono ?_
  rintro e w2 ⟨rfl, rfl⟩
  go_wp2_with fail
  refine (feed_zero w.heap.size s w2 c0).mono ?_
  rintro e w3 ⟨rfl, rfl⟩
  go_wp2_with fail
  refine (told_nil w3).mono ?_
  rintro e w4 ⟨rfl, rfl⟩
  go_wp2_with fail
  refine (told_zero w.heap.size w4 c0).mono ?_
  rintro e w5 ⟨rfl, rfl⟩
  go_wp2_with fail
  refine (awake_any w5 HK.out.1 HK.out.2).mono ?_
  rintro e w6 ⟨rfl, hb6⟩
  have hb7 := hb1.trans (hb6.mono hb1.size)
  clear hb1 hb6 c0
  go_wp2
  go_ret
  exact ⟨rfl, hb7⟩
end Go.Proofs.YtfndgiddoijdeabDoor
