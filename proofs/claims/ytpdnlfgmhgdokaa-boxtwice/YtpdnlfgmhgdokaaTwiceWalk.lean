/- The law BoxTwice, called with any texts and number, returns true, and changes nothing that was there. -/
import Derived.Test.YtpdnlfgmhgdokaaChaAll
import Derived.Test.YtpdnlfgmhgdokaaBoxCut
namespace Go.Proofs.Ytpdnlfgmhgdokaa
open Go.RowKit

theorem chaS_get (K N : List Nat) (a : Nat) (l : List Nat) (i : Nat) (h : i < l.length) : (chaS K N a l).getD i 0 = l.getD i 0 ^^^ (chaL K N (a + i / 64)).getD (i % 64) 0 := by
  rw [List.getD_eq_getElem?_getD, chaS, List.getElem?_map, List.getElem?_range h]
  rfl
theorem chaS_twice (K N : List Nat) (a : Nat) (l : List Nat) : chaS K N a (chaS K N a l) = l := by
  refine List.ext_getElem? fun i => ?_
  by_cases h : i < l.length
  · conv => lhs; rw [chaS]
    rw [List.getElem?_map, List.getElem?_range (by rw [chaS_length]; exact h), Option.map_some, chaS_get K N a l i h, Nat.xor_assoc, Nat.xor_self, Nat.xor_zero, getD_at _ _ h, List.getElem?_eq_getElem h]
  · rw [List.getElem?_eq_none (by rw [chaS_length, chaS_length]; omega), List.getElem?_eq_none (by omega)]
theorem chaS_bytes (K N : List Nat) (a : Nat) (l : List Nat) (h : Bytes l) : Bytes (chaS K N a l) := strmL_bytes (st16 K N 0) a l h

/-- What is told of a text that has gone through. -/
theorem twice_math (key nonce s : ByteArray) (at_ : Int) (h : strmE key nonce at_ s = 0) :
    (strmS key nonce at_ s).size = s.size ∧ strmE key nonce at_ (strmS key nonce at_ s) = 0 ∧ strmS key nonce at_ (strmS key nonce at_ s) = s := by
  have e1 : strmS key nonce at_ s = strN (chaS (numsOf key) (numsOf nonce) at_.toNat (numsOf s)) := if_pos h
  have e2 : (strmS key nonce at_ s).size = s.size := by rw [e1, strN_size, chaS_length, numsOf_length]
  have e3 : strmE key nonce at_ (strmS key nonce at_ s) = 0 := by
    unfold strmE at h ⊢
    rw [e2]
    exact h
  refine ⟨e2, e3, ?_⟩
  have e4 : strmS key nonce at_ (strmS key nonce at_ s) = strN (chaS (numsOf key) (numsOf nonce) at_.toNat (numsOf (strmS key nonce at_ s))) := if_pos e3
  rw [e4, e1, numsOf_strN _ (chaS_bytes _ _ _ _ (numsOf_bytes s)), chaS_twice, strN_numsOf]
theorem strm_refused (key nonce s : ByteArray) (hk : key.size = 32) (hn : nonce.size = 12) (at_ : Int) (h : strmE key nonce at_ s ≠ 0) : strmE key nonce at_ s = 2 ∧ strmS key nonce at_ s = ⟨#[]⟩ := by
  have e : strmS key nonce at_ s = ⟨#[]⟩ := if_neg h
  refine ⟨?_, e⟩
  unfold strmE at h ⊢
  rw [if_neg (fun hh => hh ⟨hk, hn⟩)] at h ⊢
  split
  · rfl
  · rename_i hb
    rw [if_neg hb] at h
    exact absurd rfl h

set_option maxRecDepth 10000 in
set_option maxHeartbeats 1000000 in
theorem walk_boxTwice (key nonce : ByteArray) (at_ : Int) (s : ByteArray) (w : World) :
    Calls Try.prog 8 #[.string key, .string nonce, .int .i64 at_, .string s] w fun e w' => e = .returned (.bool true) ∧ Below w.heap.size w w' := by
  go_enter Try.func8, Try.ntmps8
  go_wp2_with fail
  refine (whole_z key 32 (by decide) _ rfl _).mono ?_
  rintro e w1 ⟨k, rfl, hk, hb1⟩
  go_wp2_with fail
  refine (whole_z nonce 12 (by decide) _ rfl _).mono ?_
  rintro e w2 ⟨n, rfl, hn, hb2⟩
  have hb2' := hb1.trans (hb2.mono hb1.size)
  clear hb1 hb2
  go_wp2_with fail
  refine (cut_z s 4096 _ rfl _).mono ?_
  rintro e w3 ⟨rfl, rfl⟩
  have hs := cutS_size s 4096
  generalize cutS s 4096 = c at *
  have h1 := fun w => Stream_any k n c (by omega) at_ w
  by_cases h : strmE k n at_ c = 0
  · obtain ⟨hz, he, hu⟩ := twice_math k n c at_ h
    have h2 := fun w => Stream_any k n (strmS k n at_ c) (by omega) at_ w
    rw [h] at h1
    rw [he, hu] at h2
    generalize strmS k n at_ c = t at *
    clear h he hu
    go_wp2_with fail
    refine (h1 _).mono ?_
    rintro e w4 ⟨rfl, hb4⟩
    have hb4' := hb2'.trans (hb4.mono hb2'.size)
    clear hb2' hb4 h1
    go_wp2_with fail
    refine (h2 _).mono ?_
    rintro e w5 ⟨rfl, hb5⟩
    have hb5' := hb4'.trans (hb5.mono hb4'.size)
    clear hb4' hb5 h2
    go_wp2_with fail
    refine (awake_any w5).mono ?_
    rintro e w6 ⟨rfl, hb6⟩
    have hb6' := hb5'.trans (hb6.mono hb5'.size)
    clear hb5' hb6
    go_wp2
    go_ret
    exact ⟨rfl, hb6'⟩
  · obtain ⟨he, hu⟩ := strm_refused k n c hk hn at_ h
    rw [he, hu] at h1
    have h2 := fun w => Stream_any k n ⟨#[]⟩ (by decide) at_ w
    generalize strmS k n at_ ⟨#[]⟩ = t at *
    generalize strmE k n at_ ⟨#[]⟩ = f at *
    clear h he hu
    go_wp2_with fail
    refine (h1 _).mono ?_
    rintro e w4 ⟨rfl, hb4⟩
    have hb4' := hb2'.trans (hb4.mono hb2'.size)
    clear hb2' hb4 h1
    go_wp2_with fail
    refine (h2 _).mono ?_
    rintro e w5 ⟨rfl, hb5⟩
    have hb5' := hb4'.trans (hb5.mono hb4'.size)
    clear hb4' hb5 h2
    go_wp2_with fail
    refine (awake_any w5).mono ?_
    rintro e w6 ⟨rfl, hb6⟩
    have hb6' := hb5'.trans (hb6.mono hb5'.size)
    clear hb5' hb6
    go_wp2
    go_ret
    exact ⟨rfl, hb6'⟩
end Go.Proofs.Ytpdnlfgmhgdokaa
