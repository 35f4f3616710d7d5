/- The law BoxRefuses, called with any texts, returns true, and changes nothing that was there. -/
import Derived.Test.YtpdnlfgmhgdokabBoxFit
namespace Go.Proofs.Ytpdnlfgmhgdokab
open Go.RowKit

set_option maxRecDepth 10000 in
set_option maxHeartbeats 1000000 in
theorem walk_boxRefuses (key nonce s : ByteArray) (w : World) :
    Calls Try.prog 5 #[.string key, .string nonce, .string s] w fun e w' => e = .returned (.bool true) ∧ Below w.heap.size w w' := by
  by_cases h : key.size = 32 ∧ nonce.size = 12
  · obtain ⟨hk, hn⟩ := h
    go_enter Try.func5, Try.ntmps5
    go_wp2_with fail
    refine (awake_any _).mono ?_
    rintro e w1 ⟨rfl, hb1⟩
    go_wp2
    go_ret
    exact ⟨rfl, hb1⟩
  · have h1 := fun w => Stream_bad key nonce s 0 h w
    have h2 := fun w => Seal_bad key nonce ⟨#[]⟩ s h w
    have h3 := fun w => Open_bad key nonce ⟨#[]⟩ s h w
    have hc : ((key.size : Int) == 32) = false ∨ (((key.size : Int) == 32) = true ∧ ((nonce.size : Int) == 12) = false) := by
      by_cases hk : key.size = 32
      · exact .inr ⟨by simp; omega, by simp; omega⟩
      · exact .inl (by simp; omega)
    clear h
    rcases hc with hc | ⟨hc, hd⟩
    all_goals
      go_enter Try.func5, Try.ntmps5
      go_wp2_with fail
      refine (h1 _).mono ?_
      rintro e w1 ⟨rfl, rfl⟩
      go_wp2_with fail
      refine (h2 _).mono ?_
      rintro e w1 ⟨rfl, rfl⟩
      go_wp2_with fail
      refine (h3 _).mono ?_
      rintro e w1 ⟨rfl, rfl⟩
      clear h1 h2 h3
      go_wp2_with fail
      refine (awake_any _).mono ?_
      rintro e w1 ⟨rfl, hb1⟩
      go_wp2
      go_ret
      exact ⟨rfl, hb1⟩
end Go.Proofs.Ytpdnlfgmhgdokab
