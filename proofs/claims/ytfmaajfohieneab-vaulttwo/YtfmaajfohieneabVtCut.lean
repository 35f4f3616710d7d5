/- The laws' cut: a text, or its first bytes. -/
import Derived.Test.YtfmaajfohieneabVtArgs
namespace Go.Proofs.Ytfmaajfohieneab
open Go.RowKit

def cutV (s : ByteArray) (n : Nat) : ByteArray := if n < s.size then s.extract 0 n else s
theorem cutV_size (s : ByteArray) (n : Nat) : (cutV s n).size ≤ n := by
  unfold cutV
  split
  · simp; omega
  · omega
theorem cutv_z (s : ByteArray) (n : Nat) (z : Int) (hz : z = (n : Int)) (w : World) :
    Calls Try.prog 14 #[.string s, .int .i64 z] w fun e w' => e = .returned (.string (cutV s n)) ∧ w' = w := by
  subst hz
  by_cases h : n < s.size
  · have HC : Hid (cutV s n = s.extract 0 n) := if_pos h
    have h1 : (n : Int) < s.size := by omega
    have h2 : (n : Int) ≤ s.size := by omega
    go_enter Try.func14, Try.ntmps14
    go_wp2
    go_ret
    exact ⟨by rw [HC.out]; rfl, rfl⟩
  · have HC : Hid (cutV s n = s) := if_neg h
    have h1 : ¬ (n : Int) < s.size := by omega
    go_enter Try.func14, Try.ntmps14
    go_wp2
    go_ret
    exact ⟨by rw [HC.out]; rfl, rfl⟩
/-- The cut as the walk meets it. -/
def cutI (s : ByteArray) (z : Int) : ByteArray := cutV s z.toNat
theorem cutI_any (s : ByteArray) (z : Int) (hz : 0 ≤ z) (w : World) :
    Calls Try.prog 14 #[.string s, .int .i64 z] w fun e w' => e = .returned (.string (cutI s z)) ∧ w' = w := cutv_z s z.toNat z (by omega) w
theorem cutI_size (s : ByteArray) (n : Nat) : (cutI s n).size ≤ n := cutV_size s n
end Go.Proofs.Ytfmaajfohieneab
