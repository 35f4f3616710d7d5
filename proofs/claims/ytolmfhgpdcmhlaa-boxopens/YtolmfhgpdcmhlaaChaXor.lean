/- A text xor blocks, piece by piece; lists of bytes as a builder's. -/
import Derived.Test.YtolmfhgpdcmhlaaBxLaid
import Derived.Test.YtolmfhgpdcmhlaaBxCopy
import Derived.Deep.RegionWith
namespace Go.Proofs.Ytolmfhgpdcmhlaa
open Go.RowKit

theorem strN_numsOf (s : ByteArray) : strN (numsOf s) = s := by
  unfold strN strOfNums numsOf
  rw [List.map_map, List.map_map]
  have : ((fun (n : Int) => UInt8.ofNat n.toNat) ∘ (fun (x : Nat) => (x : Int))) ∘ (fun (x : UInt8) => x.toNat) = id := by
    funext x
    simp
  rw [this, List.map_id]
theorem byV_cells (l : List Nat) (h : Bytes l) : byV l = Lib.byteCells (l.map UInt8.ofNat) := by
  unfold byV Lib.byteCells
  rw [List.map_map]
  refine List.map_congr_left fun x hx => ?_
  have := h x hx
  simp [Function.comp]
  omega
theorem strN_cells (l : List Nat) : (⟨(l.map UInt8.ofNat).toArray⟩ : ByteArray) = strN l := by
  unfold strN strOfNums
  rw [List.map_map]
  rfl

/-- A text xor the blocks of a state from one on. -/
def strmL (s : S16) (a : Nat) (l : List Nat) : List Nat := (List.range l.length).map fun i => l.getD i 0 ^^^ (blkL (s.at (a + i / 64))).getD (i % 64) 0
/-- A piece xor a block. -/
def xorL (n : Nat) (u b : List Nat) : List Nat := (List.range n).map fun i => u.getD i 0 ^^^ b.getD i 0
theorem strmL_length (s : S16) (a : Nat) (l : List Nat) : (strmL s a l).length = l.length := by simp [strmL]
theorem xorL_length (n : Nat) (u b : List Nat) : (xorL n u b).length = n := by simp [xorL]
theorem xor_byte {a b : Nat} (ha : a < 256) (hb : b < 256) : a ^^^ b < 256 := Nat.xor_lt_two_pow (n := 8) ha hb
theorem strmL_bytes (s : S16) (a : Nat) (l : List Nat) (h : Bytes l) : Bytes (strmL s a l) := fun x hx => by
  obtain ⟨i, _, rfl⟩ := List.mem_map.1 hx
  exact xor_byte (getD_lt (by decide) h _) (getD_lt (by decide) (blkL_bytes _) _)
theorem strmL_step (s : S16) (a : Nat) (l : List Nat) (q p n : Nat) (hp : p = 64 * q) (hn : n ≤ 64) (hl : p + n ≤ l.length) : (strmL s a l).take (p + n) = (strmL s a l).take p ++ xorL n (l.drop p) (blkL (s.at (a + q))) := by
  rw [List.take_add]
  congr 1
  refine List.ext_getElem? fun i => ?_
  by_cases hi : i < n
  · rw [List.getElem?_take, if_pos hi, List.getElem?_drop, strmL, xorL, List.getElem?_map, List.getElem?_map, List.getElem?_range (by omega), List.getElem?_range hi]
    have e1 : (p + i) / 64 = q := by omega
    have e2 : (p + i) % 64 = i := by omega
    simp only [Option.map_some, e1, e2]
    congr 2
    rw [List.getD_eq_getElem?_getD, List.getD_eq_getElem?_getD, List.getElem?_drop]
  · rw [List.getElem?_eq_none (by simp; omega), List.getElem?_eq_none (by rw [xorL_length]; omega)]
theorem chaS_strm (K N : List Nat) (a : Nat) (l : List Nat) : chaS K N a l = strmL (st16 K N 0) a l := rfl

/-- A piece of 64 bytes, of which the first ones are xor a block's. -/
def pieF (u b : List Nat) (i k : Nat) : Value := .int .u8 ((if k < i then u.getD k 0 ^^^ b.getD k 0 else u.getD k 0 : Nat) : Int)
theorem pieF_step (u b : List Nat) (i k : Nat) : (if k = i then Value.int .u8 ((u.getD i 0 ^^^ b.getD i 0 : Nat) : Int) else pieF u b i k) = pieF u b (i + 1) k := by
  unfold pieF
  by_cases e : k = i
  · subst e
    rw [if_pos rfl, if_pos (by omega)]
  · rw [if_neg e]
    by_cases h : k < i
    · rw [if_pos h, if_pos (by omega)]
    · rw [if_neg h, if_neg (by omega)]
theorem pieF_at (u b : List Nat) (i : Nat) : pieF u b i i = .int .u8 (u.getD i 0 : Nat) := by
  unfold pieF
  rw [if_neg (by omega)]
theorem pie_take (u b : List Nat) (n : Nat) (hn : n ≤ 64) : (rowF 64 (pieF u b 64)).take n = byV (xorL n u b) := by
  refine List.ext_getElem? fun i => ?_
  by_cases hi : i < n
  · rw [List.getElem?_take, if_pos hi, rowF_get _ _ _ (by omega), byV, xorL, List.map_map, List.getElem?_map, List.getElem?_range hi]
    simp [pieF, show i < 64 by omega]
  · rw [List.getElem?_eq_none (by simp [rowF_length]; omega), List.getElem?_eq_none (by simp [byV, xorL_length]; omega)]
theorem pie_start (u b : List Nat) (h : u.length ≤ 64) : byV u ++ byV (List.replicate (64 - u.length) 0) = rowF 64 (pieF u b 0) := by
  refine List.ext_getElem? fun i => ?_
  by_cases hi : i < 64
  · rw [rowF_get _ _ _ hi]
    by_cases h2 : i < u.length
    · rw [List.getElem?_append_left (by simp [byV]; omega), byV_get _ _ h2]
      simp [pieF]
    · rw [List.getElem?_append_right (by simp [byV]; omega), byV_get _ _ (by simp [byV]; omega)]
      simp only [pieF, byV, List.length_map]
      rw [getD_beyond u _ (by omega), List.getD_eq_getElem?_getD, List.getElem?_replicate]
      split <;> simp
  · rw [List.getElem?_eq_none (by simp [byV]; omega), List.getElem?_eq_none (by rw [rowF_length]; omega)]
end Go.Proofs.Ytolmfhgpdcmhlaa
