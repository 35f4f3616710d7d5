/- The laws' helpers: awake and same. -/
import Derived.Test.YtjpgmbebdkiofabDoorPtRSplit
import Derived.BigQuiet
namespace Go.Proofs.YtjpgmbebdkiofabDoor
set_option maxRecDepth 20000
open Go.RowKit

theorem awake_sp : spE [47, 97, 47, 98] = 0 ∧ (spL [47, 97, 47, 98]).map mkB = [⟨#[97]⟩, ⟨#[98]⟩] := ⟨by decide, by decide⟩
theorem awake_nm : nmL [46, 46] = 40 := by decide
set_option maxHeartbeats 1000000 in
theorem pawake_any (w : World) : Calls Tryd.prog 4 #[] w fun e w' => e = .returned (.bool true) ∧ Below w.heap.size w w' := by
  have h1 : ∀ w, Calls Tryd.prog 5 #[.string ⟨#[47, 97, 47, 98]⟩] w fun e w' => ∃ v, e = .returned (.tuple #[v, .int .i64 0]) ∧ LS w' v [⟨#[97]⟩, ⟨#[98]⟩] ∧ Below w.heap.size w w' ∧ Fit v := fun w => by
    have := psplit_any ⟨#[47, 97, 47, 98]⟩ w
    rw [show (⟨#[47, 97, 47, 98]⟩ : ByteArray).data.toList = [47, 97, 47, 98] from rfl, awake_sp.1, awake_sp.2] at this
    exact this
  have h2 : ∀ w, Calls Tryd.prog 6 #[.string ⟨#[46, 46]⟩] w fun e w' => e = .returned (.int .i64 40) ∧ Below w.heap.size w w' := fun w => by
    have := name_any ⟨#[46, 46]⟩ w
    rw [show (⟨#[46, 46]⟩ : ByteArray).data.toList = [46, 46] from rfl, awake_nm] at this
    exact this
  go_enter Tryd.func4, Tryd.ntmps4
  go_wp2_with fail
  refine (h1 _).mono ?_
  rintro e w1 ⟨v, rfl, hl, hb, _⟩
  obtain ⟨g, hgl, o, cap, rfl, c0, c1⟩ : ∃ g, g < w1.heap.size ∧ ∃ o cap, v = .slice (some ⟨g, o, none⟩) 2 cap ∧ w1.cell? ⟨g, o, none⟩ = some (.string ⟨#[97]⟩) ∧ w1.cell? ⟨g, o + 1, none⟩ = some (.string ⟨#[98]⟩) := by
    rcases hl with ⟨_, _, _, h⟩ | ⟨g, o, cap, e, hg, hx⟩
    · cases h
    · exact ⟨g, hg, o, cap, e, hx 0 _ rfl, hx 1 _ rfl⟩
  clear hl h1
  go_wp2_with fail
  refine (h2 _).mono ?_
  rintro e w2 ⟨rfl, hb2⟩
  have HB : Hid (Below w.heap.size w w2) := hb.trans (hb2.mono hb.size)
  clear hb2 hb h2
  go_wp2
  go_ret
  exact ⟨rfl, HB.out⟩
theorem below_drewN {B : Nat} {w wr : World} (h : Below B w wr) : ∀ m, Below B w (wr.drewN m)
  | 0 => h
  | m + 1 => (below_drewN h m).drew
end Go.Proofs.YtjpgmbebdkiofabDoor
