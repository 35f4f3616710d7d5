/- The law BoxParts, called with any texts and number, returns true, and changes nothing that was there. -/
import Derived.Test.YtpdnlfgmhgdokabTwiceMath
namespace Go.Proofs.Ytpdnlfgmhgdokab
open Go.RowKit

theorem chaS_parts (K N : List Nat) (b : Nat) (l : List Nat) (h : 64 * b ≤ l.length) : chaS K N 1 (l.take (64 * b)) ++ chaS K N (1 + b) (l.drop (64 * b)) = chaS K N 1 l := by
  have hl : (l.take (64 * b)).length = 64 * b := by rw [List.length_take]; omega
  refine List.ext_getElem? fun i => ?_
  by_cases hi : i < l.length
  · have hr : (chaS K N 1 l)[i]? = some (l.getD i 0 ^^^ (chaL K N (1 + i / 64)).getD (i % 64) 0) := by rw [chaS, List.getElem?_map, List.getElem?_range hi]; rfl
    rw [hr]
    by_cases h1 : i < 64 * b
    · rw [List.getElem?_append_left (by rw [chaS_length, hl]; exact h1), chaS, List.getElem?_map, List.getElem?_range (by rw [hl]; exact h1), Option.map_some]
      congr 2
      rw [List.getD_eq_getElem?_getD, List.getElem?_take, if_pos h1, ← List.getD_eq_getElem?_getD]
    · rw [List.getElem?_append_right (by rw [chaS_length, hl]; omega), chaS_length, hl, chaS, List.getElem?_map, List.getElem?_range (by rw [List.length_drop]; omega), Option.map_some]
      have e1 : 1 + b + (i - 64 * b) / 64 = 1 + i / 64 := by omega
      have e2 : (i - 64 * b) % 64 = i % 64 := by omega
      rw [e1, e2]
      congr 2
      rw [List.getD_eq_getElem?_getD, List.getElem?_drop, show 64 * b + (i - 64 * b) = i by omega, ← List.getD_eq_getElem?_getD]
  · rw [List.getElem?_eq_none (by rw [List.length_append, chaS_length, chaS_length, hl, List.length_drop]; omega), List.getElem?_eq_none (by rw [chaS_length]; omega)]
theorem strN_append (a b : List Nat) : strN a ++ strN b = strN (a ++ b) := by
  unfold strN strOfNums
  apply ByteArray.ext
  simp
theorem strm_one (key nonce s : ByteArray) (hk : key.size = 32) (hn : nonce.size = 12) (hs : s.size ≤ 4096) (a : Nat) (ha : a ≤ 65) : strmE key nonce a s = 0 ∧ strmS key nonce a s = strN (chaS (numsOf key) (numsOf nonce) a (numsOf s)) := by
  have e : strmE key nonce a s = 0 := by
    unfold strmE
    rw [if_neg (fun hh => hh ⟨hk, hn⟩), if_neg (by unfold strmB; omega)]
  exact ⟨e, if_pos e⟩
/-- What is told of two parts and of both. -/
theorem parts_math (key nonce s : ByteArray) (hk : key.size = 32) (hn : nonce.size = 12) (hs : s.size ≤ 4096) (b : Nat) (hb : 64 * b ≤ s.size) :
    strmE key nonce 1 (s.extract 0 (64 * b)) = 0 ∧ strmE key nonce ((1 + b : Nat) : Int) (s.extract (64 * b) s.size) = 0 ∧ strmE key nonce 1 s = 0 ∧ strmS key nonce 1 (s.extract 0 (64 * b)) ++ strmS key nonce ((1 + b : Nat) : Int) (s.extract (64 * b) s.size) = strmS key nonce 1 s := by
  obtain ⟨e1, f1⟩ := strm_one key nonce (s.extract 0 (64 * b)) hk hn (by simp; omega) 1 (by decide)
  obtain ⟨e2, f2⟩ := strm_one key nonce (s.extract (64 * b) s.size) hk hn (by simp; omega) (1 + b) (by omega)
  obtain ⟨e3, f3⟩ := strm_one key nonce s hk hn hs 1 (by decide)
  refine ⟨e1, e2, e3, ?_⟩
  have h1 : strmS key nonce 1 (s.extract 0 (64 * b)) = _ := f1
  have h3 : strmS key nonce 1 s = _ := f3
  rw [h1, f2, h3, strN_append, numsOf_extract, numsOf_extract, List.take_of_length_le (l := (numsOf s).drop (64 * b)) (by simp [numsOf_length]), Nat.sub_zero, List.drop_zero, chaS_parts _ _ _ _ (by rw [numsOf_length]; exact hb)]

set_option maxRecDepth 10000 in
set_option maxHeartbeats 1000000 in
theorem walk_boxParts (key nonce : ByteArray) (bs : Int) (s : ByteArray) (w : World) :
    Calls Try.prog 3 #[.string key, .string nonce, .int .i64 bs, .string s] w fun e w' => e = .returned (.bool true) ∧ Below w.heap.size w w' := by
  go_enter Try.func3, Try.ntmps3
  go_wp2_with fail
  refine (whole_z key 32 (by decide) _ rfl _).mono ?_
  rintro e w1 ⟨k, rfl, hk, hb1⟩
  go_wp2_with fail
  refine (whole_z nonce 12 (by decide) _ rfl _).mono ?_
  rintro e w2 ⟨n, rfl, hn, hb2⟩
  have hb2' := hb1.trans (hb2.mono hb1.size)
  clear hb1 hb2
  go_wp2_with fail
  refine (cut_z s 4096 _ rfl _).mono ?_
  rintro e w3 ⟨rfl, rfl⟩
  have hs := cutS_size s 4096
  generalize cutS s 4096 = c at *
  by_cases h : bs < 0 ∨ (c.size : Int) / 64 < bs
  · by_cases h0 : bs < 0
    · clear h
      go_wp2_with fail
      refine (awake_any w3).mono ?_
      rintro e w4 ⟨rfl, hb4⟩
      have hb4' := hb2'.trans (hb4.mono hb2'.size)
      clear hb2' hb4
      go_wp2
      go_ret
      exact ⟨rfl, hb4'⟩
    · have h1 : (c.size : Int) / 64 < bs := by omega
      clear h
      go_wp2_with fail
      refine (awake_any w3).mono ?_
      rintro e w4 ⟨rfl, hb4⟩
      have hb4' := hb2'.trans (hb4.mono hb2'.size)
      clear hb2' hb4
      go_wp2
      go_ret
      exact ⟨rfl, hb4'⟩
  · obtain ⟨b, rfl⟩ : ∃ b : Nat, bs = b := ⟨bs.toNat, by omega⟩
    have h0 : ¬ (b : Int) < 0 := by omega
    have h1 : ¬ (c.size : Int) / 64 < b := by omega
    have h64 : 64 * b ≤ c.size := by omega
    obtain ⟨e1, e2, e3, hsum⟩ := parts_math k n c hk hn hs b h64
    have q1 := fun w => Stream_any k n (c.extract 0 (64 * b)) (by simp; omega) 1 w
    have q2 := fun w => Stream_any k n (c.extract (64 * b) c.size) (by simp; omega) ((1 + b : Nat) : Int) w
    have q3 := fun w => Stream_any k n c (by omega) 1 w
    rw [e1] at q1
    rw [e2] at q2
    rw [e3] at q3
    have z1 : (strmS k n 1 c).size ≤ 4096 := by
      obtain ⟨_, f⟩ := strm_one k n c hk hn hs 1 (by decide)
      have f' : strmS k n 1 c = _ := f
      rw [f', strN_size, chaS_length, numsOf_length]; omega
    have hz : (strmS k n 1 (c.extract 0 (64 * b))).size + (strmS k n ((1 + b : Nat) : Int) (c.extract (64 * b) c.size)).size ≤ 4096 := by
      rw [← ByteArray.size_append, hsum]; exact z1
    generalize strmS k n 1 (c.extract 0 (64 * b)) = A at *
    generalize strmS k n ((1 + b : Nat) : Int) (c.extract (64 * b) c.size) = B at *
    generalize strmS k n 1 c = C at *
    have hadd : ∀ w', (Op.stringOp .add A B).run Try.prog w' = .ok (.string C) w' := fun w' => by rw [← hsum]; exact run_string_add_sum (P := Try.prog) (w := w') A B (by omega)
    have v1 : IntKind.i64.wrap (64 * (b : Int)) = 64 * b := by rw [IntKind.wrap_i64]; omega
    have v2 : IntKind.i64.wrap (1 + (b : Int)) = 1 + b := by rw [IntKind.wrap_i64]; omega
    have t1 : (64 * (b : Int)).toNat = 64 * b := by omega
    have r1 : (0 : Int) ≤ 64 * (b : Int) := by omega
    have r2 : 64 * (b : Int) ≤ c.size := by omega
    have bb : b ≤ 64 := by omega
    clear hsum hz z1 e1 e2 e3 h h64
    go_wp2_with fail
    refine (q1 _).mono ?_
    rintro e w4 ⟨rfl, hb4⟩
    have hb4' := hb2'.trans (hb4.mono hb2'.size)
    clear hb2' hb4 q1
    go_wp2_with fail
    refine (q2 _).mono ?_
    rintro e w5 ⟨rfl, hb5⟩
    have hb5' := hb4'.trans (hb5.mono hb4'.size)
    clear hb4' hb5 q2
    go_wp2_with fail
    refine (q3 _).mono ?_
    rintro e w6 ⟨rfl, hb6⟩
    have hb6' := hb5'.trans (hb6.mono hb5'.size)
    clear hb5' hb6 q3
    go_wp2_with fail
    refine (awake_any w6).mono ?_
    rintro e w7 ⟨rfl, hb7⟩
    have hb7' := hb6'.trans (hb7.mono hb6'.size)
    clear hb6' hb7
    go_wp2
    go_ret
    exact ⟨rfl, hb7'⟩
end Go.Proofs.Ytpdnlfgmhgdokab
