/- The document's mark. -/
import Derived.Test.YtolmfhgpdcmhlaaRefTag
import Derived.Test.YtolmfhgpdcmhlaaRefStream
import Derived.Test.YtolmfhgpdcmhlaaBoxSeal
import Derived.Deep.RegionHeld3
namespace Go.Proofs.Ytolmfhgpdcmhlaa
open Go.RowKit

theorem numsOf_add (a b : ByteArray) : numsOf (a ++ b) = numsOf a ++ numsOf b := by simp [numsOf, ByteArray.data_append]

set_option maxRecDepth 10000 in
set_option maxHeartbeats 4000000 in
theorem rmark_any (key nonce ad c : ByteArray) (hk : key.size = 32) (hn : nonce.size = 12) (had : ad.size ≤ 1048576) (hc : c.size ≤ 1048576) (w : World) :
    Calls Try.prog 32 #[.string key, .string nonce, .string ad, .string c] w fun e w' => e = .returned (.string (strN (sealG key nonce ad (numsOf c)))) ∧ Below w.heap.size w w' := by
  have hB := fun W => rBlock_any key nonce hk hn 0 (by decide) W
  have hBl : (chaL (numsOf key) (numsOf nonce) 0).length = 64 := chaL_length _ _ _
  have hBb : Bytes (chaL (numsOf key) (numsOf nonce) 0) := chaL_bytes _ _ _
  have hG : sealG key nonce ad (numsOf c) = polyT ((chaL (numsOf key) (numsOf nonce) 0).take 32) (fill16 (numsOf ad) ++ fill16 (numsOf c) ++ (leB 8 ad.size ++ leB 8 c.size)) := by
    rw [sealG, sealT, sealM, numsOf_length, numsOf_length]
  rw [hG]
  clear hG
  generalize chaL (numsOf key) (numsOf nonce) 0 = BL at *
  have hBs : (strN BL).size = 64 := by rw [strN_size]; exact hBl
  have hKn : numsOf ((strN BL).extract 0 32) = BL.take 32 := by rw [numsOf_extract, numsOf_strN _ hBb]; rfl
  have hKs : ((strN BL).extract 0 32).size = 32 := by simp; omega
  obtain ⟨E, hEe⟩ : ∃ E : ByteArray → ByteArray, E = fun s => strN (fill16 (numsOf s)) := ⟨_, rfl⟩
  obtain ⟨L, hLe⟩ : ∃ L : Nat → ByteArray, L = fun n => strN (leB 8 n) := ⟨_, rfl⟩
  have hE : ∀ s : ByteArray, s.size ≤ 1048576 → ∀ W, Calls Try.prog 51 #[.string s] W fun e w' => e = .returned (.string (E s)) ∧ Below W.heap.size W w' := fun s hs W => by
    rw [hEe]
    exact (reven_any s hs W).mono fun e w' ⟨h, h2⟩ => ⟨h, by rw [h2]; exact Below.refl _ _⟩
  have hL : ∀ n : Nat, n ≤ 1048576 → ∀ W, Calls Try.prog 52 #[.int .i64 n] W fun e w' => e = .returned (.string (L n)) ∧ Below W.heap.size W w' := fun n hn W => by
    rw [hLe]
    exact rlong_any n (by omega) W
  have z1 : (E ad).size ≤ 1048592 := by rw [hEe]; show (strN (fill16 (numsOf ad))).size ≤ _; rw [strN_size, fill16]; simp [numsOf_length]; omega
  have z2 : (E c).size ≤ 1048592 := by rw [hEe]; show (strN (fill16 (numsOf c))).size ≤ _; rw [strN_size, fill16]; simp [numsOf_length]; omega
  have z3 : (L ad.size).size = 8 := by rw [hLe]; show (strN (leB 8 ad.size)).size = _; rw [strN_size, leB_length]
  have z4 : (L c.size).size = 8 := by rw [hLe]; show (strN (leB 8 c.size)).size = _; rw [strN_size, leB_length]
  have n1 : numsOf (E ad) = fill16 (numsOf ad) := by rw [hEe]; exact numsOf_strN _ (fill16_bytes _ (numsOf_bytes ad))
  have n2 : numsOf (E c) = fill16 (numsOf c) := by rw [hEe]; exact numsOf_strN _ (fill16_bytes _ (numsOf_bytes c))
  have n3 : numsOf (L ad.size) = leB 8 ad.size := by rw [hLe]; exact numsOf_strN _ (leB_bytes _ _)
  have n4 : numsOf (L c.size) = leB 8 c.size := by rw [hLe]; exact numsOf_strN _ (leB_bytes _ _)
  rw [← n1, ← n2, ← n3, ← n4]
  clear n1 n2 n3 n4 hEe hLe
  have hM : numsOf (E ad) ++ numsOf (E c) ++ (numsOf (L ad.size) ++ numsOf (L c.size)) = numsOf (E ad ++ E c ++ L ad.size ++ L c.size) := by
    rw [numsOf_add, numsOf_add, numsOf_add, List.append_assoc (numsOf (E ad) ++ numsOf (E c))]
  rw [hM, ← hKn]
  clear hM hKn
  have y1 : (E ad ++ E c).size ≤ 2097184 := by rw [ByteArray.size_append]; omega
  have y2 : (E ad ++ E c ++ L ad.size).size ≤ 2097192 := by rw [ByteArray.size_append]; omega
  have y3 : (E ad ++ E c ++ L ad.size ++ L c.size).size ≤ 2097200 := by rw [ByteArray.size_append]; omega
  have a1 : ∀ w', (Op.stringOp .add (E ad) (E c)).run Try.prog w' = .ok (.string (E ad ++ E c)) w' := fun w' => run_string_add_sum (P := Try.prog) (w := w') _ _ (by omega)
  have a2 : ∀ w', (Op.stringOp .add (E ad ++ E c) (L ad.size)).run Try.prog w' = .ok (.string (E ad ++ E c ++ L ad.size)) w' := fun w' => run_string_add_sum (P := Try.prog) (w := w') _ _ (by omega)
  have a3 : ∀ w', (Op.stringOp .add (E ad ++ E c ++ L ad.size) (L c.size)).run Try.prog w' = .ok (.string (E ad ++ E c ++ L ad.size ++ L c.size)) w' := fun w' => run_string_add_sum (P := Try.prog) (w := w') _ _ (by omega)
  have hT := fun W => rTag_any ((strN BL).extract 0 32) (E ad ++ E c ++ L ad.size ++ L c.size) (by omega) W
  have hTS : tagS ((strN BL).extract 0 32) (E ad ++ E c ++ L ad.size ++ L c.size) = strN (polyT (numsOf ((strN BL).extract 0 32)) (numsOf (E ad ++ E c ++ L ad.size ++ L c.size))) := by unfold tagS; rw [if_pos hKs]
  have hTE : tagE ((strN BL).extract 0 32) = 0 := by unfold tagE; rw [if_pos hKs]
  rw [← hTS]
  simp only [hTE] at hT
  generalize tagS ((strN BL).extract 0 32) (E ad ++ E c ++ L ad.size ++ L c.size) = T at *
  generalize E ad ++ E c ++ L ad.size ++ L c.size = X3 at *
  generalize E ad ++ E c ++ L ad.size = X2 at *
  generalize E ad ++ E c = X1 at *
  generalize strN BL = BS at *
  have xk : BS.extract 0 32 = BS.extract 0 32 := rfl
  clear z1 z2 z3 z4 y1 y2 y3 hTS hTE hBl hBb hKs xk
  have s64 : (32 : Int) ≤ (BS.size : Int) := by omega
  go_enter Try.func32, Try.ntmps32
  go_wp2_with fail
  go_region_held3 (fun _ => True) (exact trivial) (first | (go_at_call 23; refine (hB _).mono ?_; rintro e wA ⟨rfl, hbA⟩; have hb := (Below.refl w.heap.size w).drew.trans hbA) | (go_at_call 51; refine (hE _ (by first | exact had | exact hc) _).mono ?_; rintro e wB ⟨rfl, hbB⟩; have hb := hb.trans (hbB.mono hb.size)) | (go_at_call 52; refine (hL _ (by first | exact had | exact hc) _).mono ?_; rintro e wD ⟨rfl, hbD⟩; have hb := hb.trans (hbD.mono hb.size)) | (go_at_call 14; refine (hT _).mono ?_; rintro e wF ⟨rfl, hbF⟩; have hb := hb.trans (hbF.mono hb.size)))
  have HF : Hid (Below w.heap.size w wF) := hb
  clear hb
  go_wp2
  go_ret
  exact ⟨rfl, HF.out⟩
end Go.Proofs.Ytolmfhgpdcmhlaa
