/- The document's Seal and Open; what both sides tell. -/
import Derived.Test.YtolmfhgpdcmhlaaRefMark
namespace Go.Proofs.Ytolmfhgpdcmhlaa
open Go.RowKit

/-- What Seal and Open tell, and the errors. -/
def fitP (key nonce : ByteArray) : Prop := key.size = 32 ∧ nonce.size = 12
instance (key nonce : ByteArray) : Decidable (fitP key nonce) := inferInstanceAs (Decidable (_ ∧ _))
def sealS (key nonce ad s : ByteArray) : ByteArray := if fitP key nonce then strN (sealC key nonce s ++ sealG key nonce ad (sealC key nonce s)) else ⟨#[]⟩
def sealE (key nonce : ByteArray) : Nat := if fitP key nonce then 0 else 1
def openE (key nonce ad s : ByteArray) : Nat := if fitP key nonce then if s.size < 16 then 3 else if openB key nonce ad s then 0 else 10 else 1
def openS (key nonce ad s : ByteArray) : ByteArray := if openE key nonce ad s = 0 then strN (chaS (numsOf key) (numsOf nonce) 1 (numsOf (openC s))) else ⟨#[]⟩

theorem Seal_any (key nonce ad s : ByteArray) (had : ad.size ≤ 1048576) (hs : s.size ≤ 1048576) (w : World) :
    Calls Try.prog 15 #[.string key, .string nonce, .string ad, .string s] w fun e w' => e = .returned (.tuple #[.string (sealS key nonce ad s), .int .i64 (sealE key nonce : Nat)]) ∧ Below w.heap.size w w' := by
  unfold sealS sealE
  by_cases h : fitP key nonce
  · rw [if_pos h, if_pos h]
    exact Seal_ok key nonce ad s h.1 h.2 had hs w
  · rw [if_neg h, if_neg h]
    refine (Seal_bad key nonce ad s h w).mono ?_
    rintro e w' ⟨rfl, rfl⟩
    exact ⟨rfl, Below.refl _ _⟩
theorem Open_any (key nonce ad s : ByteArray) (had : ad.size ≤ 1048576) (hs : s.size ≤ 1048576) (w : World) :
    Calls Try.prog 17 #[.string key, .string nonce, .string ad, .string s] w fun e w' => e = .returned (.tuple #[.string (openS key nonce ad s), .int .i64 (openE key nonce ad s : Nat)]) ∧ Below w.heap.size w w' := by
  by_cases h : fitP key nonce
  · by_cases h16 : s.size < 16
    · have e1 : openE key nonce ad s = 3 := by unfold openE; rw [if_pos h, if_pos h16]
      have e2 : openS key nonce ad s = ⟨#[]⟩ := by unfold openS; rw [e1]; rfl
      rw [e1, e2]
      refine (Open_short key nonce ad s h.1 h.2 h16 w).mono ?_
      rintro e w' ⟨rfl, rfl⟩
      exact ⟨rfl, Below.refl _ _⟩
    · have ho := Open_long key nonce ad s h.1 h.2 had hs (by omega) w
      by_cases hB : openB key nonce ad s
      · have e1 : openE key nonce ad s = 0 := by unfold openE; rw [if_pos h, if_neg h16, if_pos hB]
        have e2 : openS key nonce ad s = strN (chaS (numsOf key) (numsOf nonce) 1 (numsOf (openC s))) := by unfold openS; rw [if_pos e1]
        rw [if_pos hB] at ho
        rw [e1, e2]
        exact ho
      · have e1 : openE key nonce ad s = 10 := by unfold openE; rw [if_pos h, if_neg h16, if_neg hB]
        have e2 : openS key nonce ad s = ⟨#[]⟩ := by unfold openS; rw [e1]; rfl
        rw [if_neg hB] at ho
        rw [e1, e2]
        exact ho
  · have e1 : openE key nonce ad s = 1 := by unfold openE; rw [if_neg h]
    have e2 : openS key nonce ad s = ⟨#[]⟩ := by unfold openS; rw [e1]; rfl
    rw [e1, e2]
    refine (Open_bad key nonce ad s h w).mono ?_
    rintro e w' ⟨rfl, rfl⟩
    exact ⟨rfl, Below.refl _ _⟩

theorem strm_ok (key nonce s : ByteArray) (h : fitP key nonce) (hs : s.size ≤ 1048576) : strmE key nonce 1 s = 0 ∧ strmS key nonce 1 s = strN (chaS (numsOf key) (numsOf nonce) 1 (numsOf s)) := by
  have e1 : strmE key nonce 1 s = 0 := by
    unfold strmE
    rw [if_neg (fun hh => hh h), if_neg]
    unfold strmB
    omega
  refine ⟨e1, ?_⟩
  unfold strmS
  rw [if_pos e1]
  rfl
theorem strm_bad (key nonce s : ByteArray) (h : ¬ fitP key nonce) : strmE key nonce 1 s = 1 ∧ strmS key nonce 1 s = ⟨#[]⟩ := by
  have e1 : strmE key nonce 1 s = 1 := by
    unfold strmE
    exact if_pos h
  refine ⟨e1, ?_⟩
  unfold strmS
  rw [e1]
  rfl

set_option maxRecDepth 10000 in
set_option maxHeartbeats 1000000 in
theorem rSeal_ok (key nonce ad s : ByteArray) (h : fitP key nonce) (had : ad.size ≤ 1048576) (hs : s.size ≤ 1048576) (w : World) :
    Calls Try.prog 16 #[.string key, .string nonce, .string ad, .string s] w fun e w' => e = .returned (.tuple #[.string (strN (sealC key nonce s ++ sealG key nonce ad (sealC key nonce s))), .int .i64 0]) ∧ Below w.heap.size w w' := by
  have hSt := fun W => rStream_any key nonce s hs 1 W
  obtain ⟨e1, e2⟩ := strm_ok key nonce s h hs
  simp only [e1, e2] at hSt
  have hcb : Bytes (sealC key nonce s) := chaS_bytes _ _ _ _ (numsOf_bytes s)
  have hcl : (sealC key nonce s).length = s.size := by rw [sealC, chaS_length, numsOf_length]
  have hMk := fun W => rmark_any key nonce ad (strN (sealC key nonce s)) h.1 h.2 had (by rw [strN_size, hcl]; exact hs) W
  rw [numsOf_strN _ hcb] at hMk
  have hSt' : ∀ W, Calls Try.prog 11 #[.string key, .string nonce, .int .i64 1, .string s] W fun e w' => e = .returned (.tuple #[.string (strN (sealC key nonce s)), .int .i64 0]) ∧ Below W.heap.size W w' := hSt
  clear hSt
  have hgl : (sealG key nonce ad (sealC key nonce s)).length = 16 := polyT_length _ _
  rw [← strN_append]
  have hz1 : (strN (sealC key nonce s)).size = s.size := by rw [strN_size, hcl]
  have hz2 : (strN (sealG key nonce ad (sealC key nonce s))).size = 16 := by rw [strN_size, hgl]
  generalize strN (sealG key nonce ad (sealC key nonce s)) = G at *
  generalize strN (sealC key nonce s) = C at *
  obtain ⟨CG, hCG⟩ : ∃ CG, CG = C ++ G := ⟨_, rfl⟩
  have hadd : ∀ w', (Op.stringOp .add C G).run Try.prog w' = .ok (.string CG) w' := fun w' => by rw [hCG]; exact run_string_add_sum (P := Try.prog) (w := w') C G (by omega)
  rw [← hCG]
  clear hCG hcb hcl hgl e1 e2 h
  go_enter Try.func16, Try.ntmps16
  go_wp2_with fail
  refine (hSt' _).mono ?_
  rintro e w1 ⟨rfl, hb1⟩
  clear hSt'
  go_wp2_with fail
  refine (hMk _).mono ?_
  rintro e w2 ⟨rfl, hb2⟩
  have hb3 := hb1.trans (hb2.mono hb1.size)
  clear hMk hb1 hb2
  go_wp2
  go_ret2
  exact ⟨rfl, hb3⟩

set_option maxRecDepth 10000 in
set_option maxHeartbeats 1000000 in
theorem rSeal_bad (key nonce ad s : ByteArray) (h : ¬ fitP key nonce) (hs : s.size ≤ 1048576) (w : World) :
    Calls Try.prog 16 #[.string key, .string nonce, .string ad, .string s] w fun e w' => e = .returned (.tuple #[.string ⟨#[]⟩, .int .i64 1]) ∧ Below w.heap.size w w' := by
  have hSt := fun W => rStream_any key nonce s hs 1 W
  obtain ⟨e1, e2⟩ := strm_bad key nonce s h
  simp only [e1, e2] at hSt
  clear e1 e2 h
  go_enter Try.func16, Try.ntmps16
  go_wp2_with fail
  refine (hSt _).mono ?_
  rintro e w1 ⟨rfl, hb1⟩
  clear hSt
  go_wp2
  go_ret2
  exact ⟨rfl, hb1⟩
theorem rSeal_any (key nonce ad s : ByteArray) (had : ad.size ≤ 1048576) (hs : s.size ≤ 1048576) (w : World) :
    Calls Try.prog 16 #[.string key, .string nonce, .string ad, .string s] w fun e w' => e = .returned (.tuple #[.string (sealS key nonce ad s), .int .i64 (sealE key nonce : Nat)]) ∧ Below w.heap.size w w' := by
  unfold sealS sealE
  by_cases h : fitP key nonce
  · rw [if_pos h, if_pos h]
    exact rSeal_ok key nonce ad s h had hs w
  · rw [if_neg h, if_neg h]
    exact rSeal_bad key nonce ad s h hs w

set_option maxRecDepth 10000 in
set_option maxHeartbeats 1000000 in
theorem rOpen_bad (key nonce ad s : ByteArray) (h : ¬ fitP key nonce) (w : World) :
    Calls Try.prog 18 #[.string key, .string nonce, .string ad, .string s] w fun e w' => e = .returned (.tuple #[.string ⟨#[]⟩, .int .i64 1]) ∧ w' = w := by
  unfold fitP at h
  by_cases hk : key.size = 32
  · have hn : ((nonce.size : Int) != 12) = true := by simp; omega
    clear h
    go_enter Try.func18, Try.ntmps18
    go_wp2
    go_ret2
    exact ⟨rfl, rfl⟩
  · have hn : ((key.size : Int) != 32) = true := by simp; omega
    clear h hk
    go_enter Try.func18, Try.ntmps18
    go_wp2
    go_ret2
    exact ⟨rfl, rfl⟩

set_option maxRecDepth 10000 in
set_option maxHeartbeats 1000000 in
theorem rOpen_short (key nonce ad s : ByteArray) (hk : key.size = 32) (hn : nonce.size = 12) (hs : s.size < 16) (w : World) :
    Calls Try.prog 18 #[.string key, .string nonce, .string ad, .string s] w fun e w' => e = .returned (.tuple #[.string ⟨#[]⟩, .int .i64 3]) ∧ w' = w := by
  have h1 : (s.size : Int) < 16 := by omega
  go_enter Try.func18, Try.ntmps18
  go_wp2
  go_ret2
  exact ⟨rfl, rfl⟩

set_option maxRecDepth 10000 in
set_option maxHeartbeats 1000000 in
theorem rOpen_long (key nonce ad s : ByteArray) (hk : key.size = 32) (hn : nonce.size = 12) (had : ad.size ≤ 1048576) (hs : s.size ≤ 1048576) (h16 : 16 ≤ s.size) (w : World) :
    Calls Try.prog 18 #[.string key, .string nonce, .string ad, .string s] w fun e w' => e = .returned (if openB key nonce ad s then .tuple #[.string (strN (chaS (numsOf key) (numsOf nonce) 1 (numsOf (openC s)))), .int .i64 0] else .tuple #[.string ⟨#[]⟩, .int .i64 10]) ∧ Below w.heap.size w w' := by
  have hcs : (openC s).size = s.size - 16 := by unfold openC; simp
  have hSt := fun W => rStream_any key nonce (openC s) (by omega) 1 W
  obtain ⟨e1, e2⟩ := strm_ok key nonce (openC s) ⟨hk, hn⟩ (by omega)
  simp only [e1, e2] at hSt
  have hMk := fun W => rmark_any key nonce ad (openC s) hk hn had (by omega) W
  have v1 : IntKind.i64.wrap ((s.size : Int) - 16) = ((s.size - 16 : Nat) : Int) := by rw [IntKind.wrap_i64]; omega
  have x1 : s.extract 0 (s.size - 16) = openC s := rfl
  have x2 : s.extract (s.size - 16) s.size = openG s := rfl
  have hBB : openB key nonce ad s ↔ openG s = strN (sealG key nonce ad (numsOf (openC s))) := Iff.rfl
  generalize strN (sealG key nonce ad (numsOf (openC s))) = T at *
  generalize strN (chaS (numsOf key) (numsOf nonce) 1 (numsOf (openC s))) = U at *
  have hlt : ¬ (s.size : Int) < 16 := by omega
  obtain ⟨m, hm⟩ : ∃ m, m = s.size - 16 := ⟨_, rfl⟩
  rw [← hm] at v1 x1 x2 hcs
  have v2 : (s.size : Int) - 16 = m := by omega
  have v3 : IntKind.i64.wrap (m : Int) = m := by rw [IntKind.wrap_i64]; omega
  have i1 : (m : Int) ≤ s.size := by omega
  generalize openC s = C at *
  generalize openG s = G at *
  clear hm e1 e2
  by_cases hB : openB key nonce ad s
  · rw [if_pos hB]
    obtain rfl : G = T := hBB.1 hB
    clear hB hBB
    go_enter Try.func18, Try.ntmps18
    go_wp2_with fail
    go_region_held3 (fun _ => True) (exact trivial) (first | (go_at_call 32; refine (hMk _).mono ?_; rintro e wA ⟨rfl, hbA⟩; have hb := (Below.refl w.heap.size w).drew.trans hbA))
    clear hMk
    go_wp2_with fail
    refine (hSt _).mono ?_
    rintro e w5 ⟨rfl, hb7⟩
    have hb8 := hb.trans (hb7.mono hb.size)
    clear hb hb7 hSt
    go_wp2
    go_ret2
    exact ⟨rfl, hb8⟩
  · rw [if_neg hB]
    have hGT : ¬ T = G := fun hh => hB (hBB.2 hh.symm)
    have hGT2 : (T.toList == G.toList) = false := by
      rw [ByteArray.toList_eq, ByteArray.toList_eq]
      apply beq_false_of_ne
      exact fun hh => hGT (ByteArray.ext (Array.toList_inj.1 hh))
    clear hB hBB hSt
    go_enter Try.func18, Try.ntmps18
    go_wp2_with fail
    go_region_held3 (fun _ => True) (exact trivial) (first | (go_at_call 32; refine (hMk _).mono ?_; rintro e wA ⟨rfl, hbA⟩; have hb := (Below.refl w.heap.size w).drew.trans hbA))
    clear hMk
    go_wp2
    go_ret2
    exact ⟨rfl, hb⟩

theorem rOpen_any (key nonce ad s : ByteArray) (had : ad.size ≤ 1048576) (hs : s.size ≤ 1048576) (w : World) :
    Calls Try.prog 18 #[.string key, .string nonce, .string ad, .string s] w fun e w' => e = .returned (.tuple #[.string (openS key nonce ad s), .int .i64 (openE key nonce ad s : Nat)]) ∧ Below w.heap.size w w' := by
  by_cases h : fitP key nonce
  · by_cases h16 : s.size < 16
    · have e1 : openE key nonce ad s = 3 := by unfold openE; rw [if_pos h, if_pos h16]
      have e2 : openS key nonce ad s = ⟨#[]⟩ := by unfold openS; rw [e1]; rfl
      rw [e1, e2]
      refine (rOpen_short key nonce ad s h.1 h.2 h16 w).mono ?_
      rintro e w' ⟨rfl, rfl⟩
      exact ⟨rfl, Below.refl _ _⟩
    · have ho := rOpen_long key nonce ad s h.1 h.2 had hs (by omega) w
      by_cases hB : openB key nonce ad s
      · have e1 : openE key nonce ad s = 0 := by unfold openE; rw [if_pos h, if_neg h16, if_pos hB]
        have e2 : openS key nonce ad s = strN (chaS (numsOf key) (numsOf nonce) 1 (numsOf (openC s))) := by unfold openS; rw [if_pos e1]
        rw [if_pos hB] at ho
        rw [e1, e2]
        exact ho
      · have e1 : openE key nonce ad s = 10 := by unfold openE; rw [if_pos h, if_neg h16, if_neg hB]
        have e2 : openS key nonce ad s = ⟨#[]⟩ := by unfold openS; rw [e1]; rfl
        rw [if_neg hB] at ho
        rw [e1, e2]
        exact ho
  · have e1 : openE key nonce ad s = 1 := by unfold openE; rw [if_neg h]
    have e2 : openS key nonce ad s = ⟨#[]⟩ := by unfold openS; rw [e1]; rfl
    rw [e1, e2]
    refine (rOpen_bad key nonce ad s h w).mono ?_
    rintro e w' ⟨rfl, rfl⟩
    exact ⟨rfl, Below.refl _ _⟩
end Go.Proofs.Ytolmfhgpdcmhlaa
