/- The law BoxBack, called with any texts, returns true, and changes nothing that was there. -/
import Derived.Test.YtpdnlfgmhgdokaaBoxSeal
namespace Go.Proofs.Ytpdnlfgmhgdokaa
open Go.RowKit

theorem back_math (key nonce ad s : ByteArray) :
    (strN (sealC key nonce s ++ sealG key nonce ad (sealC key nonce s))).size = s.size + 16 ∧ openB key nonce ad (strN (sealC key nonce s ++ sealG key nonce ad (sealC key nonce s))) ∧
    strN (chaS (numsOf key) (numsOf nonce) 1 (numsOf (openC (strN (sealC key nonce s ++ sealG key nonce ad (sealC key nonce s)))))) = s := by
  have hcb : Bytes (sealC key nonce s) := chaS_bytes _ _ _ _ (numsOf_bytes s)
  have hcl : (sealC key nonce s).length = s.size := by rw [sealC, chaS_length, numsOf_length]
  have hgl : ∀ c, (sealG key nonce ad c).length = 16 := fun c => polyT_length _ _
  have hgb : ∀ c, Bytes (sealG key nonce ad c) := fun c => polyT_bytes _ _
  have hsz : (strN (sealC key nonce s ++ sealG key nonce ad (sealC key nonce s))).size = s.size + 16 := by rw [strN_size, List.length_append, hcl, hgl]
  have hnum : numsOf (strN (sealC key nonce s ++ sealG key nonce ad (sealC key nonce s))) = sealC key nonce s ++ sealG key nonce ad (sealC key nonce s) := numsOf_strN _ (hcb.append (hgb _))
  have hoc : numsOf (openC (strN (sealC key nonce s ++ sealG key nonce ad (sealC key nonce s)))) = sealC key nonce s := by
    rw [openC, numsOf_extract, hnum, hsz, List.drop_zero, show s.size + 16 - 16 - 0 = (sealC key nonce s).length by omega, List.take_left]
  have hog : numsOf (openG (strN (sealC key nonce s ++ sealG key nonce ad (sealC key nonce s)))) = sealG key nonce ad (sealC key nonce s) := by
    rw [openG, numsOf_extract, hnum, hsz, show s.size + 16 - 16 = (sealC key nonce s).length by omega, List.drop_left, List.take_of_length_le (by rw [hgl]; omega)]
  refine ⟨hsz, ?_, ?_⟩
  · unfold openB
    rw [hoc]
    exact (strN_numsOf _).symm.trans (congrArg strN hog)
  · rw [hoc, sealC, chaS_twice, strN_numsOf]

set_option maxRecDepth 10000 in
set_option maxHeartbeats 1000000 in
theorem walk_boxBack (key nonce ad s : ByteArray) (w : World) :
    Calls Try.prog 7 #[.string key, .string nonce, .string ad, .string s] w fun e w' => e = .returned (.bool true) ∧ Below w.heap.size w w' := by
  go_enter Try.func7, Try.ntmps7
  go_wp2_with fail
  refine (whole_z key 32 (by decide) _ rfl _).mono ?_
  rintro e w1 ⟨k, rfl, hk, hb1⟩
  go_wp2_with fail
  refine (whole_z nonce 12 (by decide) _ rfl _).mono ?_
  rintro e w2 ⟨n, rfl, hn, hb2⟩
  have hb2' := hb1.trans (hb2.mono hb1.size)
  clear hb1 hb2
  go_wp2_with fail
  refine (cut_z ad 2048 _ rfl _).mono ?_
  rintro e w3 ⟨rfl, rfl⟩
  have had := cutS_size ad 2048
  generalize cutS ad 2048 = a at *
  go_wp2_with fail
  refine (cut_z s 2048 _ rfl _).mono ?_
  rintro e w4 ⟨rfl, rfl⟩
  have hs := cutS_size s 2048
  generalize cutS s 2048 = c at *
  have h1 := fun w => Seal_ok k n a c hk hn (by omega) (by omega) w
  obtain ⟨hz, hB, hu⟩ := back_math k n a c
  have h2 := fun w => Open_long k n a (strN (sealC k n c ++ sealG k n a (sealC k n c))) hk hn (by omega) (by omega) (by omega) w
  rw [if_pos hB, hu] at h2
  generalize strN (sealC k n c ++ sealG k n a (sealC k n c)) = t at *
  have i1 : IntKind.i64.wrap ((c.size : Int) + 16) = c.size + 16 := by rw [IntKind.wrap_i64]; omega
  clear hB hu
  go_wp2_with fail
  refine (h1 _).mono ?_
  rintro e w5 ⟨rfl, hb5⟩
  have hb5' := hb2'.trans (hb5.mono hb2'.size)
  clear hb2' hb5 h1
  go_wp2_with fail
  refine (h2 _).mono ?_
  rintro e w6 ⟨rfl, hb6⟩
  have hb6' := hb5'.trans (hb6.mono hb5'.size)
  clear hb5' hb6 h2
  go_wp2_with fail
  refine (awake_any w6).mono ?_
  rintro e w7 ⟨rfl, hb7⟩
  have hb7' := hb6'.trans (hb7.mono hb6'.size)
  clear hb6' hb7
  go_wp2
  go_ret
  exact ⟨rfl, hb7'⟩
end Go.Proofs.Ytpdnlfgmhgdokaa
