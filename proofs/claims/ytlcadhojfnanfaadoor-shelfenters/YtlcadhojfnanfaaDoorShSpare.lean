/- Find and Spare: the program's and the document's. -/
import Derived.Test.YtlcadhojfnanfaaDoorShFind
namespace Go.Proofs.YtlcadhojfnanfaaDoor
set_option maxRecDepth 20000
open Go.RowKit

def frE (x : En) : Bool := x.nm.toList.isEmpty
def hasN (n : ByteArray) (x : En) : Bool := !x.nm.toList.isEmpty && (x.nm.toList == n.toList)
def spareI (l : List En) : Int := if fstI frE l < 0 then (l.length : Int) else fstI frE l
theorem free_any (x : En) (w : World) :
    Calls Tryd.prog 14 #[.agg #[.string x.nm, .int .i64 x.ino, .int .i64 x.gen]] w fun e w' => e = .returned (.bool (frE x)) ∧ Below w.heap.size w w' := by
  go_enter Tryd.func14, Tryd.ntmps14
  go_wp2
  go_ret
  exact ⟨rfl, (Below.refl _ _).alloc (Nat.le_refl _) _⟩
theorem pred_free (w : World) : PredE 14 #[] frE w := fun W x hb => (free_any x W).mono fun _ _ ⟨he, h⟩ => ⟨he, hb.trans (h.mono hb.size)⟩
theorem pred_name (n : ByteArray) (B : Nat) (w : World) (hB : B < w.heap.size) (hc : w.cell? ⟨B, 0, none⟩ = some (.string n)) : PredE 20 #[.pointer (some ⟨B, 0, none⟩)] (hasN n) w := fun W x hb => by
  have hc : W.cell? ⟨B, 0, none⟩ = some (.string n) := (hb.cell (p := ⟨B, 0, none⟩) hB).trans hc
  have hBW : B < W.heap.size := Nat.lt_of_lt_of_le hB hb.size
  have hne : B ≠ W.heap.size := by omega
  have HB : Hid (Below w.heap.size w W) := hb
  clear hb
  show Calls Tryd.prog 20 #[.agg #[.string x.nm, .int .i64 x.ino, .int .i64 x.gen], .pointer (some ⟨B, 0, none⟩)] W _
  have hf := free_any x
  have hP : hasN n x = (!(frE x) && (x.nm.toList == n.toList)) := rfl
  rw [hP]
  obtain ⟨nm, i1, i2⟩ := x
  generalize frE ⟨nm, i1, i2⟩ = q at *
  cases q
  all_goals
    go_enter Tryd.func20, Tryd.ntmps20
    go_wp2_with fail
    refine (hf _).mono ?_
    rintro e w1 ⟨rfl, hb1⟩
    have c0 := cells_kept hb1 0 _ rfl
    have c3 : w1.cell? ⟨B, 0, none⟩ = some (.string n) := (hb1.cell (p := ⟨B, 0, none⟩) (by simp; omega)).trans (Lib.cell?_alloc_some _ hc)
    have HL : Hid (Below w.heap.size w w1) := (HB.out.alloc HB.out.size _).trans (hb1.mono (by have := HB.out.size; simp; omega))
    clear hb1 hf hc
    go_wp2
    go_ret
    exact ⟨by simp, HL.out⟩
theorem find_any (v : Value) (l : List En) (n : ByteArray) (w : World) (hv : Ens w v l) (hl : l.length ≤ 9223372036854775807) :
    Calls Tryd.prog 9 #[v, .string n] w fun e w' => e = .returned (.int .i64 (fstI (hasN n) l)) ∧ Below w.heap.size w w' := by
  have hmf : ∀ (fn : Fn) (first cap : Array Value) (w : World), (Instr.makeFunc fn first cap).run Tryd.prog w = .ok (.func fn first cap) w := fun _ _ _ _ => rfl
  have hb0 : Below w.heap.size w (w.alloc (.cells #[.string n] 9)) := (Below.refl _ _).alloc (Nat.le_refl _) _
  have hi := index_any 20 #[.pointer (some ⟨w.heap.size, 0, none⟩)] (hasN n) (enters_of Tryd.func20 (by kernel_rfl) rfl) v l (w.alloc (.cells #[.string n] 9))
    (pred_name n w.heap.size _ (by simp) (by simp)) (hv.below hb0) hl
  generalize fstI (hasN n) l = r at *
  clear hv
  go_enter Tryd.func9, Tryd.ntmps9
  go_wp2_with fail
  refine hi.mono ?_
  rintro e w1 ⟨rfl, hb1⟩
  go_wp2
  go_ret
  exact ⟨rfl, hb0.trans (hb1.mono (by simp))⟩
theorem spare_any (v : Value) (l : List En) (w : World) (hv : Ens w v l) (hl : l.length ≤ 9223372036854775807) :
    Calls Tryd.prog 10 #[v] w fun e w' => e = .returned (.int .i64 (spareI l)) ∧ Below w.heap.size w w' := by
  obtain ⟨oa, ca, rfl⟩ := hv.form
  have hi := index_any 14 #[] frE (enters_of Tryd.func14 (by kernel_rfl) rfl) _ l w (pred_free w) hv hl
  unfold spareI
  generalize fstI frE l = r at *
  clear hv
  by_cases hr : r < 0
  · rw [if_pos hr]
    have hr2 : ¬ 0 ≤ r := by omega
    go_enter Tryd.func10, Tryd.ntmps10
    go_wp2_with fail
    refine hi.mono ?_
    rintro e w1 ⟨rfl, hb1⟩
    clear hi
    go_wp2
    go_ret
    exact ⟨rfl, hb1⟩
  · rw [if_neg hr]
    have hr2 : 0 ≤ r := by omega
    go_enter Tryd.func10, Tryd.ntmps10
    go_wp2_with fail
    refine hi.mono ?_
    rintro e w1 ⟨rfl, hb1⟩
    clear hi
    go_wp2
    go_ret
    exact ⟨rfl, hb1⟩
end Go.Proofs.YtlcadhojfnanfaaDoor
