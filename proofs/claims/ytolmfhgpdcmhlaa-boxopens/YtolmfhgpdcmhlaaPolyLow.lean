/- box.low, pair and put: eight bytes and their number, sixteen bytes and their two words. -/
import Derived.Test.YtolmfhgpdcmhlaaPolyProd
namespace Go.Proofs.Ytolmfhgpdcmhlaa
open Go.RowKit

theorem or_step (i n x k : Nat) (hk : k = 2 ^ i) (hn : n < 2 ^ i) (hx : x < 256) (hi : i ≤ 56) : bits .or .u64 (n : Int) ((x : Int) * (k : Int)) = ((n + x * k : Nat) : Int) := by
  subst hk
  have h1 : 2 ^ i ≤ 2 ^ 56 := Nat.pow_le_pow_right (by decide) hi
  have h2 : x * 2 ^ i ≤ 255 * 2 ^ i := Nat.mul_le_mul_right _ (by omega)
  rw [← Int.natCast_mul, u64_or_nat _ _ (by omega) (by omega), Nat.or_comm, nat_join i _ _ (Nat.mul_mod_left _ _) hn, Nat.add_comm]
theorem low_bits (x0 x1 x2 x3 x4 x5 x6 x7 : Nat) (h0 : x0 < 256) (h1 : x1 < 256) (h2 : x2 < 256) (h3 : x3 < 256) (h4 : x4 < 256) (h5 : x5 < 256) (h6 : x6 < 256) (h7 : x7 < 256) :
    ∃ n1 n2 n3 n4 n5 n6 : Nat, bits .or .u64 (x0 : Int) ((x1 : Int) * 256) = (n1 : Int) ∧ bits .or .u64 (n1 : Int) ((x2 : Int) * 65536) = (n2 : Int) ∧ bits .or .u64 (n2 : Int) ((x3 : Int) * 16777216) = (n3 : Int) ∧ bits .or .u64 (n3 : Int) ((x4 : Int) * 4294967296) = (n4 : Int) ∧ bits .or .u64 (n4 : Int) ((x5 : Int) * 1099511627776) = (n5 : Int) ∧ bits .or .u64 (n5 : Int) ((x6 : Int) * 281474976710656) = (n6 : Int) ∧ bits .or .u64 (n6 : Int) ((x7 : Int) * 72057594037927936) = ((leN [x0, x1, x2, x3, x4, x5, x6, x7] : Nat) : Int) := by
  refine ⟨x0 + x1 * 256, x0 + x1 * 256 + x2 * 65536, x0 + x1 * 256 + x2 * 65536 + x3 * 16777216, x0 + x1 * 256 + x2 * 65536 + x3 * 16777216 + x4 * 4294967296, x0 + x1 * 256 + x2 * 65536 + x3 * 16777216 + x4 * 4294967296 + x5 * 1099511627776, x0 + x1 * 256 + x2 * 65536 + x3 * 16777216 + x4 * 4294967296 + x5 * 1099511627776 + x6 * 281474976710656, ?_, ?_, ?_, ?_, ?_, ?_, ?_⟩
  · exact or_step 8 _ x1 256 rfl (by omega) h1 (by decide)
  · exact or_step 16 _ x2 65536 rfl (by omega) h2 (by decide)
  · exact or_step 24 _ x3 16777216 rfl (by omega) h3 (by decide)
  · exact or_step 32 _ x4 4294967296 rfl (by omega) h4 (by decide)
  · exact or_step 40 _ x5 1099511627776 rfl (by omega) h5 (by decide)
  · exact or_step 48 _ x6 281474976710656 rfl (by omega) h6 (by decide)
  · refine (or_step 56 _ x7 72057594037927936 rfl (by omega) h7 (by decide)).trans (congrArg _ ?_)
    simp only [leN]
    omega

set_option maxHeartbeats 1000000 in
theorem low_any (x0 x1 x2 x3 x4 x5 x6 x7 : Nat) (hb : Bytes [x0, x1, x2, x3, x4, x5, x6, x7]) (g o cap : Nat) (w : World)
    (c0 : w.cell? ⟨g, o, none⟩ = some (.int .u8 x0)) (c1 : w.cell? ⟨g, o + 1, none⟩ = some (.int .u8 x1)) (c2 : w.cell? ⟨g, o + 2, none⟩ = some (.int .u8 x2)) (c3 : w.cell? ⟨g, o + 3, none⟩ = some (.int .u8 x3)) (c4 : w.cell? ⟨g, o + 4, none⟩ = some (.int .u8 x4)) (c5 : w.cell? ⟨g, o + 5, none⟩ = some (.int .u8 x5)) (c6 : w.cell? ⟨g, o + 6, none⟩ = some (.int .u8 x6)) (c7 : w.cell? ⟨g, o + 7, none⟩ = some (.int .u8 x7)) :
    Calls Try.prog 57 #[.slice (some ⟨g, o, none⟩) 8 cap] w fun e w' => e = .returned (.int .u64 (leN [x0, x1, x2, x3, x4, x5, x6, x7] : Nat)) ∧ ∃ n, w' = w.drewN n := by
  have b : x0 < 256 ∧ x1 < 256 ∧ x2 < 256 ∧ x3 < 256 ∧ x4 < 256 ∧ x5 < 256 ∧ x6 < 256 ∧ x7 < 256 := by simpa [Bytes] using hb
  obtain ⟨b0, b1, b2, b3, b4, b5, b6, b7⟩ := b
  obtain ⟨n1, n2, n3, n4, n5, n6, v1, v2, v3, v4, v5, v6, v7⟩ := low_bits x0 x1 x2 x3 x4 x5 x6 x7 b0 b1 b2 b3 b4 b5 b6 b7
  generalize leN [x0, x1, x2, x3, x4, x5, x6, x7] = N at *
  clear hb
  go_enter Try.func57, Try.ntmps57
  go_wp2_with fail
  go_quiet (fail)
  go_wp2
  go_ret
  exact ⟨rfl, _, rfl⟩

theorem list16 (l : List Nat) (h : l.length = 16) : ∃ a b c d e f g h a' b' c' d' e' f' g' h' : Nat, l = [a, b, c, d, e, f, g, h, a', b', c', d', e', f', g', h'] := by
  match l, h with
  | [a, b, c, d, e, f, g, h, a', b', c', d', e', f', g', h'], _ => exact ⟨a, b, c, d, e, f, g, h, a', b', c', d', e', f', g', h', rfl⟩
theorem bdrewN {B : Nat} {a w : World} (h : Below B a w) (n : Nat) : Below B a (w.drewN n) := h.trans ⟨rfl, rfl, rfl, Nat.le_refl _, fun _ _ => rfl⟩
/-- The word at a place of sixteen bytes. -/
def wordAt (l : List Nat) (o : Nat) : Nat := leN ((l.drop o).take 8)
theorem low_at (l : List Nat) (hl : l.length = 16) (hb : Bytes l) (g t cap o : Nat) (ho : o ≤ 8) (w : World) (hr : w.heap[g]? = some (.cells (byV l).toArray t (0, 0))) :
    Calls Try.prog 57 #[.slice (some ⟨g, o, none⟩) 8 cap] w fun e w' => e = .returned (.int .u64 (wordAt l o : Nat)) ∧ ∃ n, w' = w.drewN n := by
  have hl8 : ((l.drop o).take 8).length = 8 := by simp; omega
  have hb8 : Bytes ((l.drop o).take 8) := (hb.drop o).take 8
  have hc : ∀ i, i < 8 → w.cell? ⟨g, o + i, none⟩ = some (.int .u8 (((l.drop o).take 8).getD i 0 : Nat)) := fun i hi => by
    have hr' : Row w g t (byV l) := hr
    rw [hr'.cell, byV_get _ _ (by omega)]
    congr 3
    rw [List.getD_eq_getElem?_getD, List.getD_eq_getElem?_getD, List.getElem?_take, if_pos hi, List.getElem?_drop]
  unfold wordAt
  generalize (l.drop o).take 8 = m at *
  match m, hl8 with
  | [x0, x1, x2, x3, x4, x5, x6, x7], _ => exact low_any x0 x1 x2 x3 x4 x5 x6 x7 hb8 g o cap w (hc 0 (by decide)) (hc 1 (by decide)) (hc 2 (by decide)) (hc 3 (by decide)) (hc 4 (by decide)) (hc 5 (by decide)) (hc 6 (by decide)) (hc 7 (by decide))

set_option maxHeartbeats 1000000 in
theorem pair_any (l : List Nat) (hl : l.length = 16) (hb : Bytes l) (g t : Nat) (w : World) (hr : Row w g t (byV l)) :
    Calls Try.prog 42 #[.pointer (some ⟨g, 0, none⟩)] w fun e w' => e = .returned (.agg #[.int .u64 (wordAt l 0 : Nat), .int .u64 (wordAt l 8 : Nat)]) ∧ Below w.heap.size w w' := by
  have hg := hr.lt
  have hlo := fun cap o ho w hr => low_at l hl hb g t cap o ho w hr
  obtain ⟨cs, hcs⟩ : ∃ cs, cs = (byV l).toArray := ⟨_, rfl⟩
  rw [← hcs] at hlo
  have hk : w.heap[g]? = some (.cells cs t (0, 0)) := by rw [hcs]; exact hr
  clear hr hcs
  generalize wordAt l = V at *
  have hk1 : ∀ o, (w.alloc o).heap[g]? = some (.cells cs t (0, 0)) := fun o => (Below.heap_alloc w o g hg).trans hk
  have hne : g ≠ w.heap.size := by omega
  have hk2 : ∀ (w' : World) v v', w'.heap[g]? = some (.cells cs t (0, 0)) → ((w'.setCell ⟨w.heap.size, 0, none⟩ v).setCell ⟨w.heap.size, 1, none⟩ v').heap[g]? = some (.cells cs t (0, 0)) := fun w' v v' h => (Below.heap_setCell _ _ _ _ hne).trans ((Below.heap_setCell _ _ _ _ hne).trans h)
  go_enter Try.func42, Try.ntmps42
  go_wp2_with fail
  go_region_held3 (fun w' => w'.heap[g]? = some (.cells cs t (0, 0))) (first | exact hk1 _ | assumption | exact hk2 _ _ _ (hk1 _)) (first | (go_at_call 57; refine (hlo _ _ (by decide) _ (by first | exact hk1 _ | assumption)).mono ?_; rintro e w' ⟨rfl, n, rfl⟩))
  clear hlo hk1 hk2
  go_wp2
  exact bodyPost_ret (v := .agg #[.int .u64 (V 0 : Nat), .int .u64 (V 8 : Nat)]) (by simp [results, Try.results42, go_sem]) rfl ⟨rfl, ((bdrewN ((Below.refl _ _).alloc (Nat.le_refl _) _) _).setCell (Nat.le_refl _) _).setCell (Nat.le_refl _) _⟩
end Go.Proofs.Ytolmfhgpdcmhlaa
