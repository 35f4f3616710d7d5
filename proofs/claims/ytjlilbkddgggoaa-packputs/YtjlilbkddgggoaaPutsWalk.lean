/- The law PackPuts, called with any two numbers of type int, returns true, and changes nothing that was there. -/
import Derived.Test.YtjlilbkddgggoaaAwake
import Derived.Test.YtjlilbkddgggoaaRefPut
namespace Go.Proofs.Ytjlilbkddgggoaa
open Go.RowKit
theorem int_le {x : Int} (h : (Lit.int .i64 x).wf = true) : -9223372036854775808 ≤ x ∧ x ≤ 9223372036854775807 := by
  simp [Lit.wf, IntKind.min, IntKind.max, IntKind.signed, IntKind.bits] at h
  omega

theorem walk_packPuts (a0 a1 : Int) (w0 : (Lit.int .i64 a0).wf = true) (_ : (Lit.int .i64 a1).wf = true) (w : World) :
    Calls Try.prog 3 #[.int .i64 a0, .int .i64 a1] w fun e w' => e = .returned (.bool true) ∧ Below w.heap.size w w' := by
  have hm := (int_le w0).2
  clear w0
  go_enter Try.func3, Try.ntmps3
  go_wp2_with fail
  refine (put_any a0 a1 _).mono ?_
  rintro e w1 ⟨rfl, hb1⟩
  go_wp2_with fail
  refine (rput_any a0 a1 hm _).mono ?_
  rintro e w2 ⟨rfl, hb2⟩
  go_wp2_with fail
  refine (awake_any _).mono ?_
  rintro e w3 ⟨rfl, hb3⟩
  go_wp2
  go_ret
  exact ⟨rfl, hb1.trans ((hb2.mono hb1.size).trans (hb3.mono (Nat.le_trans hb1.size hb2.size)))⟩
end Go.Proofs.Ytjlilbkddgggoaa
