/- Numbers read out of a text, each in its width, are laid as the text's bytes; nothing of the program. -/
import Derived.Test.YtlcadhojfnanfaaDoorWrMath
import Derived.Test.YtlcadhojfnanfaaDoorZero
namespace Go.Proofs.YtlcadhojfnanfaaDoor
set_option maxRecDepth 20000

theorem leI_cons (k : Nat) (n : Int) : leI (k + 1) n = n % 256 :: leI k (n / 256) := by
  have e : ∀ i : Nat, n / 256 ^ (i + 1) % 256 = n / 256 / 256 ^ i % 256 := fun i => by
    rw [Int.ediv_ediv_of_nonneg (by decide), Int.pow_succ, Int.mul_comm]
  simp only [leI, List.range_succ_eq_map, List.map_cons, List.map_map, Function.comp_def, Nat.succ_eq_add_one, e, Int.pow_zero, Int.ediv_one]
theorem leI_leVal : ∀ l : List UInt8, leI l.length (leVal l) = l.map fun x => (x.toNat : Int)
  | [] => rfl
  | b :: r => by
    have hb : b.toNat < 256 := b.toNat_lt
    rw [List.length_cons, leI_cons, leVal, show ((b.toNat : Int) + 256 * leVal r) % 256 = b.toNat by omega, show ((b.toNat : Int) + 256 * leVal r) / 256 = leVal r by omega, leI_leVal r]
    rfl
theorem put_back (l : List UInt8) (k : Nat) (hl : l.length = k) (h1 : 1 ≤ k) (h6 : k ≤ 6) : putE (leVal l) k = 0 ∧ putS (leVal l) k = ⟨l.toArray⟩ := by
  subst hl
  refine ⟨putE_ok h1 h6 (leVal_nonneg l) (leVal_lt l), ?_⟩
  rw [putS_ok h1 h6 (leVal_nonneg l) (leVal_lt l), leI_leVal, str_map_nums]
/-- The numbers of bytes from a place on, each with its width. -/
def pairsOf (L : List UInt8) : Nat → List Nat → List (Int × Int)
  | _, [] => []
  | a, k :: r => (leVal ((L.drop a).take k), (k : Int)) :: pairsOf L (a + k) r
theorem pairs_laid (L : List UInt8) : ∀ (ws : List Nat) (a : Nat), (∀ k ∈ ws, 1 ≤ k ∧ k ≤ 6) → a + ws.sum ≤ L.length → laidOk (pairsOf L a ws) = true ∧ laidL (pairsOf L a ws) = (L.drop a).take ws.sum
  | [], _, _, _ => ⟨rfl, by simp [pairsOf, laidL]⟩
  | k :: r, a, hk, hl => by
    rw [List.sum_cons] at hl
    obtain ⟨h1, h6⟩ := hk k (List.mem_cons_self ..)
    obtain ⟨i1, i2⟩ := pairs_laid L r (a + k) (fun x hx => hk x (List.mem_cons_of_mem _ hx)) (by omega)
    obtain ⟨p1, p2⟩ := put_back ((L.drop a).take k) k (by rw [List.length_take, List.length_drop]; omega) h1 h6
    refine ⟨?_, ?_⟩
    · rw [pairsOf, laidOk, i1, p1]; rfl
    · rw [pairsOf, laidL, i2, p2, List.sum_cons]
      show (L.drop a).take k ++ _ = _
      rw [← List.drop_drop, List.take_add]
theorem allZ_eq (t : ByteArray) (h : allZ t = true) : t.data.toList = List.replicate t.size 0 := by
  unfold allZ at h
  rw [List.all_eq_true] at h
  refine List.eq_replicate_iff.2 ⟨by simp, fun x hx => ?_⟩
  have := h x hx
  simpa using this
theorem text_cut (s : ByteArray) (a b : Nat) : (s.data.toList.drop a).take (b - a) = (s.extract a b).data.toList := by
  simp
theorem text_zeros (s : ByteArray) (a n : Nat) (hs : s.size = n) (ha : a ≤ n) (h : allZ (s.extract a n) = true) : s.data.toList.drop a = List.replicate (n - a) 0 := by
  have e := allZ_eq _ h
  have hz : (s.extract a n).size = n - a := by simp; omega
  rw [hz, ← text_cut s a n, List.take_of_length_le (by simp; omega)] at e
  exact e
theorem ba_of {s : ByteArray} {l : List UInt8} (h : s.data.toList = l) : (⟨l.toArray⟩ : ByteArray) = s := by
  subst h
  apply ByteArray.ext
  simp
end Go.Proofs.YtlcadhojfnanfaaDoor
