/- The laws' cut: a text, or its first bytes. -/
import Derived.Test.YtfndgiddoijdeaaDoorShaAwake
namespace Go.Proofs.YtfndgiddoijdeaaDoor
open Go.RowKit

def cutS (s : ByteArray) (n : Nat) : ByteArray := if n < s.size then s.extract 0 n else s
theorem cutS_size (s : ByteArray) (n : Nat) : (cutS s n).size ≤ n := by
  unfold cutS
  split
  · simp; omega
  · omega
theorem cut_z (s : ByteArray) (n : Nat) (z : Int) (hz : z = (n : Int)) (w : World) :
    Calls Tryd.prog 9 #[.string s, .int .i64 z] w fun e w' => e = .returned (.string (cutS s n)) ∧ w' = w := by
  subst hz
  by_cases h : n < s.size
  · have HC : Hid (cutS s n = s.extract 0 n) := if_pos h
    have h1 : (n : Int) < s.size := by omega
    have h2 : (n : Int) ≤ s.size := by omega
    go_enter Tryd.func9, Tryd.ntmps9
    go_wp2
    go_ret
    exact ⟨by rw [HC.out]; rfl, rfl⟩
  · have HC : Hid (cutS s n = s) := if_neg h
    have h1 : ¬ (n : Int) < s.size := by omega
    go_enter Tryd.func9, Tryd.ntmps9
    go_wp2
    go_ret
    exact ⟨by rw [HC.out]; rfl, rfl⟩
end Go.Proofs.YtfndgiddoijdeaaDoor
