/- The document's numbered, and its vault's Hash (the ideal one). -/
import Derived.Test.YtcefoeaakdemmaaGreatDoorVtRefBase
import Derived.Test.YtcefoeaakdemmaaGreatDoorMg28
import Derived.Test.YtcefoeaakdemmaaGreatDoorRefPut
namespace Go.Proofs.YtcefoeaakdemmaaGreatDoor
set_option maxRecDepth 20000
open Go.RowKit

theorem rnumbered_any (z : Int) (n k : Nat) (hz : z = n) (hn : n < 281474976710656) (hk : 6 ≤ k) (hk2 : k ≤ 4096) (u : Int) (hu : u = k) (w : World) :
    Calls Tryz.prog 40 #[.int .i64 z, .int .i64 u] w fun e w' => e = .returned (.string (wideS n k)) ∧ Below w.heap.size w w' := by
  subst hz hu
  have hp := fun W => rput_any n 6 (by omega) W
  have hsz := put6_size hn
  have ho := fun W => noughts_z ((k : Int) - 6) (k - 6) (by omega) (by omega) W
  have hsn := noughtsS_size (k - 6)
  have HW : Hid (wideS n k = putS n 6 ++ noughtsS (k - 6)) := rfl
  generalize putS n 6 = a at *
  generalize putE n 6 = e6 at *
  generalize noughtsS (k - 6) = b at *
  have ha : ∀ w', (Op.stringOp .add a b).run Tryz.prog w' = .ok (.string (a ++ b)) w' := fun w' => run_string_add_sum (P := Tryz.prog) (w := w') _ _ (by omega)
  have hw6 : wrap64 ((k : Int) - 6) = (k : Int) - 6 := by unfold wrap64; omega
  go_enter Tryz.func40, Tryz.ntmps40
  go_wp2_with fail
  refine (hp _).mono ?_
  rintro e w1 ⟨rfl, hb⟩
  clear hp
  go_wp2_with fail
  refine (ho _).mono ?_
  rintro e w2 ⟨rfl, hb2⟩
  have HB : Hid (Below w.heap.size w w2) := hb.trans (hb2.mono hb.size)
  clear hb hb2 ho
  go_wp2
  go_ret
  exact ⟨by rw [HW.out]; rfl, HB.out⟩

theorem info_str1 : (Tryz.prog.info? 9).map (fun i => (i.zero, i.size, i.bytes)) = some (some (.string ⟨#[]⟩), 1, 16) := by kernel_rfl
theorem texC_at {w : World} {v : Value} {l : List ByteArray} (h : w.ownsRow 0 9 1 v l.length (texC l)) {i : Nat} {x : ByteArray} (hx : l[i]? = some x) : ∃ g cap, v = .slice (some ⟨g, 0, none⟩) l.length cap ∧ w.cell? ⟨g, i, none⟩ = some (.string x) := by
  have hi := (List.getElem?_eq_some_iff.1 hx).1
  obtain ⟨g, cap, rfl, _, hc⟩ := owns_form h (by omega)
  exact ⟨g, cap, rfl, hc i _ (by simpa using texC_get l i x hx 0 (by omega))⟩

end Go.Proofs.YtcefoeaakdemmaaGreatDoor
