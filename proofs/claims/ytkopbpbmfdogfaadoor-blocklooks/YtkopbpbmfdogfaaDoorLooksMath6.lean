/- The law BlockLooks, called with any heads, masks, cut and address, where utf8's tables hold what they are laid with, returns true, and changes nothing that was there: what it compares. -/
import Derived.Test.YtkopbpbmfdogfaaDoorBkLook
import Derived.Deep.Cut
namespace Go.Proofs.YtkopbpbmfdogfaaDoor
set_option maxRecDepth 20000
open Go.RowKit

theorem bsealP_len (S : VS) (h : Hd) (s : ByteArray) : (bsealP S h s).seals.length ≤ S.seals.length + 1 := by
  unfold bsealP
  split
  · exact addN_length S.seals (h.four s)
  · exact Nat.le_succ _
def sealB (l : List Hd) (b : ByteArray) : Nat → VS
  | 0 => newV
  | j + 1 => bsealP (sealB l b j) (l.getD j default) b
theorem sealB_len (l : List Hd) (b : ByteArray) : ∀ j, (sealB l b j).seals.length ≤ j
  | 0 => Nat.le_refl _
  | j + 1 => by
    have h1 := sealB_len l b j
    have h2 := bsealP_len (sealB l b j) (l.getD j default) b
    show (bsealP _ _ _).seals.length ≤ _
    omega
theorem eql_read (ok : Bool) (a0 a1 a2 a3 a4 a5 a6 a7 : Int) (s : ByteArray) (w : World) : (binOp .eql 36 (.agg #[.bool ok, .int .i64 a0, .int .i64 a1, .int .i64 a2, .int .i64 a3, .int .i64 a4, .int .i64 a5, .int .i64 a6, .int .i64 a7, .string s]) (.agg #[.bool ok, .int .i64 a0, .int .i64 a1, .int .i64 a2, .int .i64 a3, .int .i64 a4, .int .i64 a5, .int .i64 a6, .int .i64 a7, .string s])).run Tryd.prog w = .ok (.bool true) w := by
  go_simp
theorem toldA_form (T : VS) (r : ByteArray) (a : Int) : ∃ ok h s, toldA T r a = readA ok h s := by
  unfold toldA
  split
  · exact ⟨_, _, _, rfl⟩
  · exact ⟨_, _, _, rfl⟩
theorem toldA_short (T : VS) (r : ByteArray) (a : Int) (h : ¬ r.size = 512) : toldA T r a = noneA := by
  unfold toldA
  rw [if_neg]
  intro hh
  have := hh.1
  unfold bopenE at this
  rw [if_neg h] at this
  cases this
theorem look_none (T : VS) (raws : List ByteArray) (masks : List Int) (a : Int) (h : a < 0 ∨ (raws.length : Int) ≤ a ∨ (masks.length : Int) ≤ a ∨ masks.getD a.toNat 0 ≠ 0) : lookA T raws masks a = noneA := by
  unfold lookA
  rw [if_neg]
  unfold atM
  by_cases hb : atB raws masks a = true
  · rw [hb]
    have := of_decide_eq_true hb
    rcases h with h | h | h | h
    · omega
    · omega
    · omega
    · exact h
  · rw [Bool.not_eq_true] at hb
    rw [hb]
    simp
theorem look_told (T : VS) (raws : List ByteArray) (masks : List Int) (i : Nat) (h1 : i < raws.length) (h2 : i < masks.length) (h3 : masks.getD i 0 = 0) : lookA T raws masks (i : Nat) = toldA T (raws.getD i ⟨#[]⟩) (i : Nat) := by
  by_cases hs : (raws.getD i ⟨#[]⟩).size = 512
  · have hb : atB raws masks (i : Nat) = true := decide_eq_true ⟨by omega, by omega, by omega, by rw [Int.toNat_natCast]; exact hs⟩
    unfold lookA atM atS
    rw [hb, Int.toNat_natCast, if_pos rfl, h3]
    rfl
  · have hb : atB raws masks (i : Nat) = false := decide_eq_false fun hh => hs (by have := hh.2.2.2; rwa [Int.toNat_natCast] at this)
    unfold lookA atM
    rw [hb, toldA_short T _ _ hs]
    rfl
theorem bsealS_small (S : VS) (h : Hd) (s : ByteArray) (hl : S.seals.length ≤ 1000000) : (bsealS S h s).size ≤ 512 := by
  unfold bsealS
  split
  · rename_i hb
    have hb2 := of_decide_eq_true hb
    have h1 := numOf_le (h.four s) (addN S.seals (h.four s))
    have h2 := addN_length S.seals (h.four s)
    rw [blk_size hb2.2 hb2.1 (by omega)]
    exact Nat.le_refl _
  · exact Nat.zero_le _
theorem wrap_small : ∀ x : Fin 257, wrap64 ((x.val : Nat) : Int) = ((x.val : Nat) : Int) := by decide +kernel
theorem rc_cells {w : World} {b : Nat} {ok : Bool} {h : Hd} {s : ByteArray} (g : w.heap[b]? = some (.cells #[.bool ok, .int .i64 h.v0, .int .i64 h.v1, .int .i64 h.v2, .int .i64 h.v3, .int .i64 h.v4, .int .i64 h.v5, .int .i64 h.v6, .int .i64 h.v7, .string s] 36 (0, 0))) : w.cell? ⟨b, 0, none⟩ = some (.bool ok) ∧ w.cell? ⟨b, 1, none⟩ = some (.int .i64 h.v0) ∧ w.cell? ⟨b, 2, none⟩ = some (.int .i64 h.v1) ∧ w.cell? ⟨b, 3, none⟩ = some (.int .i64 h.v2) ∧ w.cell? ⟨b, 4, none⟩ = some (.int .i64 h.v3) ∧ w.cell? ⟨b, 5, none⟩ = some (.int .i64 h.v4) ∧ w.cell? ⟨b, 6, none⟩ = some (.int .i64 h.v5) ∧ w.cell? ⟨b, 7, none⟩ = some (.int .i64 h.v6) ∧ w.cell? ⟨b, 8, none⟩ = some (.int .i64 h.v7) ∧ w.cell? ⟨b, 9, none⟩ = some (.string s) :=
  ⟨cell_of_row _ _ _ _ _ _ g, cell_of_row _ _ _ _ _ _ g, cell_of_row _ _ _ _ _ _ g, cell_of_row _ _ _ _ _ _ g, cell_of_row _ _ _ _ _ _ g, cell_of_row _ _ _ _ _ _ g, cell_of_row _ _ _ _ _ _ g, cell_of_row _ _ _ _ _ _ g, cell_of_row _ _ _ _ _ _ g, cell_of_row _ _ _ _ _ _ g⟩
theorem rz_cells {w : World} {b : Nat} (g : w.heap[b]? = some (.cells #[.bool false, .int .i64 0, .int .i64 0, .int .i64 0, .int .i64 0, .int .i64 0, .int .i64 0, .int .i64 0, .int .i64 0, .string ⟨#[]⟩] 36 (0, 0))) : w.cell? ⟨b, 0, none⟩ = some (.bool false) ∧ w.cell? ⟨b, 1, none⟩ = some (.int .i64 0) ∧ w.cell? ⟨b, 2, none⟩ = some (.int .i64 0) ∧ w.cell? ⟨b, 3, none⟩ = some (.int .i64 0) ∧ w.cell? ⟨b, 4, none⟩ = some (.int .i64 0) ∧ w.cell? ⟨b, 5, none⟩ = some (.int .i64 0) ∧ w.cell? ⟨b, 6, none⟩ = some (.int .i64 0) ∧ w.cell? ⟨b, 7, none⟩ = some (.int .i64 0) ∧ w.cell? ⟨b, 8, none⟩ = some (.int .i64 0) ∧ w.cell? ⟨b, 9, none⟩ = some (.string ⟨#[]⟩) := rc_cells (ok := false) (h := Hd.zero) (s := ⟨#[]⟩) g
theorem eql_none (w : World) : (binOp .eql 36 (.agg #[.bool false, .int .i64 0, .int .i64 0, .int .i64 0, .int .i64 0, .int .i64 0, .int .i64 0, .int .i64 0, .int .i64 0, .string ⟨#[]⟩]) (.agg #[.bool false, .int .i64 0, .int .i64 0, .int .i64 0, .int .i64 0, .int .i64 0, .int .i64 0, .int .i64 0, .int .i64 0, .string ⟨#[]⟩])).run Tryd.prog w = .ok (.bool true) w := by kernel_rfl
theorem info_str1 : (Tryd.prog.info? 9).map (fun i => (i.zero, i.size, i.bytes)) = some (some (.string ⟨#[]⟩), 1, 16) := by kernel_rfl

end Go.Proofs.YtkopbpbmfdogfaaDoor
