/- The document's vault, the ideal one: Mac, Made, Seal, Open. -/
import Derived.Test.YtcefoeaakdemmaaGreatDoorVtRefPair
namespace Go.Proofs.YtcefoeaakdemmaaGreatDoor
set_option maxRecDepth 20000
open Go.RowKit

theorem rwrong_any (z : Int) (a : ByteArray) (w : World) : Calls Tryz.prog 37 #[.int .i64 z, .string a] w fun e w' => e = .returned (.bool (!fitB z a)) ∧ w' = w := by
  by_cases h1 : z < 0
  · have hr : fitB z a = false := by unfold fitB; simp; intro h; omega
    rw [hr]
    go_enter Tryz.func37, Tryz.ntmps37
    go_wp2
    go_ret
    exact ⟨rfl, rfl⟩
  by_cases h2 : 281474976710655 < z
  · have hr : fitB z a = false := by unfold fitB; simp; intro _ h; omega
    rw [hr]
    go_enter Tryz.func37, Tryz.ntmps37
    go_wp2
    go_ret
    exact ⟨rfl, rfl⟩
  by_cases h3 : (a.size : Int) = 12
  · have hr : fitB z a = true := by unfold fitB; simp; omega
    have h4 : ((a.size : Int) == 12) = true := by simp [h3]
    rw [hr]
    go_enter Tryz.func37, Tryz.ntmps37
    go_wp2
    go_ret
    exact ⟨rfl, rfl⟩
  · have hr : fitB z a = false := by unfold fitB; simp; omega
    have h4 : ((a.size : Int) == 12) = false := beq_false_of_ne h3
    have h5 : ((a.size : Int) != 12) = true := by simp [bne, h4]
    rw [hr]
    go_enter Tryz.func37, Tryz.ntmps37
    go_wp2
    go_ret
    exact ⟨rfl, rfl⟩
theorem beq_dec3 (a b : ByteArray) : (a.toList == b.toList) = decide (a = b) := by
  by_cases e : a = b
  · subst e; simp
  · rw [str_ne e]; simp [e]
theorem info_pair : (Tryz.prog.info? 152).map (fun i => (i.zero, i.size, i.bytes)) = some (some (.agg #[.string ⟨#[]⟩, .string ⟨#[]⟩]), 2, 32) := by kernel_rfl
theorem info_four : (Tryz.prog.info? 83).map (fun i => (i.zero, i.size, i.bytes)) = some (some (.agg #[.int .i64 0, .string ⟨#[]⟩, .string ⟨#[]⟩, .string ⟨#[]⟩]), 4, 56) := by kernel_rfl

end Go.Proofs.YtcefoeaakdemmaaGreatDoor
