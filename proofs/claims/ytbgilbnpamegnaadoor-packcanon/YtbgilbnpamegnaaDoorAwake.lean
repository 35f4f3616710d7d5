/- The law's own example (Put and Get of 300 in two bytes) answers true, and changes nothing that was there. -/
import Derived.Test.YtbgilbnpamegnaaDoorGet
namespace Go.Proofs.YtbgilbnpamegnaaDoor
open Go.RowKit

theorem awake_put : putS 300 2 = ⟨#[44, 1]⟩ ∧ putE 300 2 = 0 := by
  constructor <;> decide
theorem awake_get : getN ⟨#[44, 1]⟩ 0 2 = 300 ∧ getE ⟨#[44, 1]⟩ 0 2 = 0 := by
  constructor <;> decide

theorem awake_any (w : World) : Calls Tryd.prog 7 #[] w fun e w' => e = .returned (.bool true) ∧ Below w.heap.size w w' := by
  go_enter Tryd.func7, Tryd.ntmps7
  go_wp2_with fail
  refine (put_any 300 2 _).mono ?_
  rintro e w1 ⟨rfl, hb1⟩
  rw [awake_put.1, awake_put.2]
  go_wp2_with fail
  refine (get_any ⟨#[44, 1]⟩ 0 2 (by decide) _).mono ?_
  rintro e w2 ⟨rfl, rfl⟩
  rw [awake_get.1, awake_get.2]
  go_wp2
  go_ret
  exact ⟨rfl, hb1⟩
end Go.Proofs.YtbgilbnpamegnaaDoor
