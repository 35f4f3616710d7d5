/- The law PackGets, called with any text and any two numbers of type int, returns true, and changes nothing that was there. -/
import Derived.Test.YtjlilbkddgggoaaAwake
import Derived.Test.YtjlilbkddgggoaaRefGet
namespace Go.Proofs.Ytjlilbkddgggoaa
open Go.RowKit
theorem walk_packGets (a0 : ByteArray) (a1 a2 : Int) (w0 : a0.size ≤ maxLen) (_ : (Lit.int .i64 a1).wf = true) (_ : (Lit.int .i64 a2).wf = true) (w : World) :
    Calls Try.prog 4 #[.string a0, .int .i64 a1, .int .i64 a2] w fun e w' => e = .returned (.bool true) ∧ Below w.heap.size w w' := by
  go_enter Try.func4, Try.ntmps4
  go_wp2_with fail
  refine (get_any a0 a1 a2 w0 _).mono ?_
  rintro e w1 ⟨rfl, rfl⟩
  go_wp2_with fail
  refine (rget_any a0 a1 a2 w0 _).mono ?_
  rintro e w2 ⟨rfl, rfl⟩
  go_wp2_with fail
  refine (awake_any _).mono ?_
  rintro e w3 ⟨rfl, hb3⟩
  go_wp2
  go_ret
  exact ⟨rfl, hb3⟩
end Go.Proofs.Ytjlilbkddgggoaa
