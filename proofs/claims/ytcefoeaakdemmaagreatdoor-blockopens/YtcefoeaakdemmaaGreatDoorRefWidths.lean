/- The document's widths of a head's numbers. -/
import Derived.Test.YtcefoeaakdemmaaGreatDoorPut
namespace Go.Proofs.YtcefoeaakdemmaaGreatDoor
set_option maxRecDepth 20000
open Go.RowKit

theorem headWidths_any (w : World) :
    Calls Tryz.prog 35 #[] w fun e w' => e = .returned (.slice (some ⟨w.heap.size, 0, none⟩) 8 8) ∧ w' = w.alloc (.cells #[.int .i64 6, .int .i64 4, .int .i64 2, .int .i64 4, .int .i64 4, .int .i64 4, .int .i64 6, .int .i64 6] 3) := by
  go_enter Tryz.func35, Tryz.ntmps35
  go_wp2
  go_ret
  exact ⟨rfl, rfl⟩
end Go.Proofs.YtcefoeaakdemmaaGreatDoor
