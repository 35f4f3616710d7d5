/- box.fit; Stream, Seal and Open where the lengths are not right. -/
import Derived.Test.YtolmfhgpdcmhlaaBoxSame
namespace Go.Proofs.Ytolmfhgpdcmhlaa
open Go.RowKit

theorem fit_yes (key nonce : ByteArray) (hk : key.size = 32) (hn : nonce.size = 12) (w : World) :
    Calls Try.prog 20 #[.string key, .string nonce] w fun e w' => e = .returned (.bool true) ∧ w' = w := by
  go_enter Try.func20, Try.ntmps20
  go_wp2
  go_ret
  exact ⟨rfl, rfl⟩
theorem fit_no (key nonce : ByteArray) (h : ¬ (key.size = 32 ∧ nonce.size = 12)) (w : World) :
    Calls Try.prog 20 #[.string key, .string nonce] w fun e w' => e = .returned (.bool false) ∧ w' = w := by
  by_cases hk : key.size = 32
  · have hn : ((nonce.size : Int) == 12) = false := by simp; omega
    clear h
    go_enter Try.func20, Try.ntmps20
    go_wp2
    go_ret
    exact ⟨rfl, rfl⟩
  · have hn : ((key.size : Int) == 32) = false := by simp; omega
    clear h hk
    go_enter Try.func20, Try.ntmps20
    go_wp2
    go_ret
    exact ⟨rfl, rfl⟩

theorem Stream_bad (key nonce s : ByteArray) (at_ : Int) (h : ¬ (key.size = 32 ∧ nonce.size = 12)) (w : World) :
    Calls Try.prog 10 #[.string key, .string nonce, .int .i64 at_, .string s] w fun e w' => e = .returned (.tuple #[.string ⟨#[]⟩, .int .i64 1]) ∧ w' = w := by
  have hf := fun w => fit_no key nonce h w
  clear h
  go_enter Try.func10, Try.ntmps10
  go_wp2_with fail
  refine (hf _).mono ?_
  rintro e w' ⟨rfl, rfl⟩
  clear hf
  go_wp2
  go_ret2
  exact ⟨rfl, rfl⟩
theorem Seal_bad (key nonce ad s : ByteArray) (h : ¬ (key.size = 32 ∧ nonce.size = 12)) (w : World) :
    Calls Try.prog 15 #[.string key, .string nonce, .string ad, .string s] w fun e w' => e = .returned (.tuple #[.string ⟨#[]⟩, .int .i64 1]) ∧ w' = w := by
  have hf := fun w => fit_no key nonce h w
  clear h
  go_enter Try.func15, Try.ntmps15
  go_wp2_with fail
  refine (hf _).mono ?_
  rintro e w' ⟨rfl, rfl⟩
  clear hf
  go_wp2
  go_ret2
  exact ⟨rfl, rfl⟩
theorem Open_bad (key nonce ad s : ByteArray) (h : ¬ (key.size = 32 ∧ nonce.size = 12)) (w : World) :
    Calls Try.prog 17 #[.string key, .string nonce, .string ad, .string s] w fun e w' => e = .returned (.tuple #[.string ⟨#[]⟩, .int .i64 1]) ∧ w' = w := by
  have hf := fun w => fit_no key nonce h w
  clear h
  go_enter Try.func17, Try.ntmps17
  go_wp2_with fail
  refine (hf _).mono ?_
  rintro e w' ⟨rfl, rfl⟩
  clear hf
  go_wp2
  go_ret2
  exact ⟨rfl, rfl⟩
end Go.Proofs.Ytolmfhgpdcmhlaa
