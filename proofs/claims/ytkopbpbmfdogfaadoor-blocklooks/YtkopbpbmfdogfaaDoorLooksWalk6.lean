/- The law BlockLooks, called with any heads, masks, cut and address, where utf8's tables hold what they are laid with, returns true, and changes nothing that was there: the walk. -/
import Derived.Test.YtkopbpbmfdogfaaDoorLooksWay1
import Derived.Test.YtkopbpbmfdogfaaDoorLooksWay2
import Derived.Test.YtkopbpbmfdogfaaDoorLooksWay3
import Derived.Test.YtkopbpbmfdogfaaDoorLooksWay4
import Derived.Test.YtkopbpbmfdogfaaDoorLooksWay5
namespace Go.Proofs.YtkopbpbmfdogfaaDoor
set_option maxRecDepth 20000
open Go.RowKit Go.ChangeShapes Go.WideShapes

theorem walk_blockLooks (v0 : Value) (l : List Hd) (v1 : Value) (ms : List Int) (cut at_ : Int) (w : World) (hl : HdsV w v0 l) (hms : List1 (Value.int .i64) w v1 ms) :
    Calls Tryd.prog 3 #[v0, v1, .int .i64 cut, .int .i64 at_] w fun e w' => e = .returned (.bool true) ∧ Below w.heap.size w w' := by
  obtain ⟨J, hJ, hcase⟩ : ∃ J, (J ≤ l.length ∧ J ≤ 8) ∧ ((¬ (J : Int) < (l.length : Nat)) ∨ ((J : Int) < (l.length : Nat) ∧ ¬ (J : Int) < 8)) := ⟨min l.length 8, by omega, by omega⟩
  by_cases a1 : at_ < 0
  · exact looks_way1 v0 l v1 ms cut at_ w J hJ hcase a1 hl hms
  by_cases a2 : (J : Int) ≤ at_
  · exact looks_way2 v0 l v1 ms cut at_ w J hJ hcase (by omega) a2 hl hms
  by_cases a3 : (ms.length : Int) ≤ at_
  · exact looks_way3 v0 l v1 ms cut at_ w J hJ hcase (by omega) (by omega) a3 hl hms
  by_cases hz : ms.getD at_.toNat 0 = 0
  · exact looks_way5 v0 l v1 ms cut at_ w J hJ hcase at_.toNat (by omega) (by omega) (by omega) hz hl hms
  · exact looks_way4 v0 l v1 ms cut at_ w J hJ hcase at_.toNat (by omega) (by omega) (by omega) hz hl hms
section
variable {H : Type} {enc : TypeId × Value → H} {W : World}
theorem ints_of_trod {v : Value} {d : DataW H} {p : List MemPlace} {base : Nat} (hok : Value.okWide Tryd.prog W .any base 23 v) (h : DataW.Trod enc Tryd.prog W 0 (fun _ => true) true 23 v d p)   : ∃ l, List1 (Value.int .i64) W v l := by
  obtain ⟨l, hl, _⟩ := list1_of_trod (f := Value.int .i64) (P := fun x => (Lit.int .i64 x).wf = true) Tryd.underlying23 (by kernel_rfl) (fun n c x hx => by
    obtain ⟨b, hb, _, hw⟩ := DataW.trod_int Tryd.underlying3 hx
    simp only [List.cons.injEq, and_true] at hb
    exact ⟨b, hb, hw⟩) hok h
  exact ⟨l, hl⟩
end
end Go.Proofs.YtkopbpbmfdogfaaDoor
