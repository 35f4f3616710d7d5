/- The law ChartBlocks, called with any list, returns true, and changes nothing that was there. -/
import Derived.Test.YtcmbphppeobhfaaCtRBlk
import Derived.Test.YtcmbphppeobhfaaCtArgs
import Derived.Test.YtcmbphppeobhfaaCtLaw
namespace Go.Proofs.Ytcmbphppeobhfaa
set_option maxRecDepth 20000
open Go.RowKit

set_option maxHeartbeats 1000000 in
theorem walk_chartBlocks (v : Value) (l : List Int) (w : World) (hv : List1 (Value.int .i64) w v l) (hc : Capped v ∧ ∀ x ∈ l, (Lit.int .i64 x).wf = true) :
    Calls Try.prog 7 #[v] w fun e w' => e = .returned (.bool true) ∧ Below w.heap.size w w' := by
  obtain ⟨oa, ca, rfl⟩ := hv.form
  have hcap := hc.1 _ _ _ rfl
  clear hc
  by_cases hl : 300 < l.length
  · have hv2 := hv.cut 300 hl ca
    have hlen : (l.take 300).length ≤ 1000000 := by rw [List.length_take]; omega
    have h1 := blocks_any w _ _ hv2 hlen
    have h2 := rblocks_any w _ _ hv2 hlen
    obtain ⟨g, o, rfl, _, _⟩ := hv.get hl
    generalize blkN (l.take 300) = N at *
    generalize blkE (l.take 300) = E at *
    have hcl : (300 : Int) < (l.length : Nat) := by omega
    have hc3 : 300 ≤ ca := by omega
    have hm : ca ≤ 9223372036854775807 := by have := hcap.2; unfold maxLen at this; omega
    clear hv hv2 hlen hcap
    generalize l.length = len at *
    go_enter Try.func7, Try.ntmps7
    go_wp2_with fail
    refine h1.mono ?_
    rintro e w1 ⟨rfl, rfl⟩
    go_wp2_with fail
    refine h2.mono ?_
    rintro e w2 ⟨rfl, hb2⟩
    go_wp2_with fail
    refine (cawake_any _).mono ?_
    rintro e w6 ⟨rfl, hb6⟩
    have HF : Hid (Below w1.heap.size w1 w6) := hb2.trans (hb6.mono hb2.size)
    clear hb6 hb2
    go_wp2
    go_ret
    exact ⟨rfl, HF.out⟩
  · have h1 := blocks_any w _ _ hv (by omega)
    have h2 := rblocks_any w _ _ hv (by omega)
    generalize blkN l = N at *
    generalize blkE l = E at *
    have hcl : ¬ (300 : Int) < (l.length : Nat) := by omega
    clear hv hcap
    generalize l.length = len at *
    go_enter Try.func7, Try.ntmps7
    go_wp2_with fail
    refine h1.mono ?_
    rintro e w1 ⟨rfl, rfl⟩
    go_wp2_with fail
    refine h2.mono ?_
    rintro e w2 ⟨rfl, hb2⟩
    go_wp2_with fail
    refine (cawake_any _).mono ?_
    rintro e w6 ⟨rfl, hb6⟩
    have HF : Hid (Below w1.heap.size w1 w6) := hb2.trans (hb6.mono hb2.size)
    clear hb6 hb2
    go_wp2
    go_ret
    exact ⟨rfl, HF.out⟩
end Go.Proofs.Ytcmbphppeobhfaa
