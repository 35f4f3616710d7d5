/- A text that goes through twice. -/
import Derived.Test.YtolmfhgpdcmhlaaChaAll
import Derived.Test.YtolmfhgpdcmhlaaBoxCut
namespace Go.Proofs.Ytolmfhgpdcmhlaa
open Go.RowKit

theorem chaS_get (K N : List Nat) (a : Nat) (l : List Nat) (i : Nat) (h : i < l.length) : (chaS K N a l).getD i 0 = l.getD i 0 ^^^ (chaL K N (a + i / 64)).getD (i % 64) 0 := by
  rw [List.getD_eq_getElem?_getD, chaS, List.getElem?_map, List.getElem?_range h]
  rfl
theorem chaS_twice (K N : List Nat) (a : Nat) (l : List Nat) : chaS K N a (chaS K N a l) = l := by
  refine List.ext_getElem? fun i => ?_
  by_cases h : i < l.length
  · conv => lhs; rw [chaS]
    rw [List.getElem?_map, List.getElem?_range (by rw [chaS_length]; exact h), Option.map_some, chaS_get K N a l i h, Nat.xor_assoc, Nat.xor_self, Nat.xor_zero, getD_at _ _ h, List.getElem?_eq_getElem h]
  · rw [List.getElem?_eq_none (by rw [chaS_length, chaS_length]; omega), List.getElem?_eq_none (by omega)]
theorem chaS_bytes (K N : List Nat) (a : Nat) (l : List Nat) (h : Bytes l) : Bytes (chaS K N a l) := strmL_bytes (st16 K N 0) a l h

/-- What is told of a text that has gone through. -/
theorem twice_math (key nonce s : ByteArray) (at_ : Int) (h : strmE key nonce at_ s = 0) :
    (strmS key nonce at_ s).size = s.size ∧ strmE key nonce at_ (strmS key nonce at_ s) = 0 ∧ strmS key nonce at_ (strmS key nonce at_ s) = s := by
  have e1 : strmS key nonce at_ s = strN (chaS (numsOf key) (numsOf nonce) at_.toNat (numsOf s)) := if_pos h
  have e2 : (strmS key nonce at_ s).size = s.size := by rw [e1, strN_size, chaS_length, numsOf_length]
  have e3 : strmE key nonce at_ (strmS key nonce at_ s) = 0 := by
    unfold strmE at h ⊢
    rw [e2]
    exact h
  refine ⟨e2, e3, ?_⟩
  have e4 : strmS key nonce at_ (strmS key nonce at_ s) = strN (chaS (numsOf key) (numsOf nonce) at_.toNat (numsOf (strmS key nonce at_ s))) := if_pos e3
  rw [e4, e1, numsOf_strN _ (chaS_bytes _ _ _ _ (numsOf_bytes s)), chaS_twice, strN_numsOf]
theorem strm_refused (key nonce s : ByteArray) (hk : key.size = 32) (hn : nonce.size = 12) (at_ : Int) (h : strmE key nonce at_ s ≠ 0) : strmE key nonce at_ s = 2 ∧ strmS key nonce at_ s = ⟨#[]⟩ := by
  have e : strmS key nonce at_ s = ⟨#[]⟩ := if_neg h
  refine ⟨?_, e⟩
  unfold strmE at h ⊢
  rw [if_neg (fun hh => hh ⟨hk, hn⟩)] at h ⊢
  split
  · rfl
  · rename_i hb
    rw [if_neg hb] at h
    exact absurd rfl h
end Go.Proofs.Ytolmfhgpdcmhlaa
