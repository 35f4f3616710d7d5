/- box.Tag; the laws' awake. · box.Same: whether two texts are one. · box.fit; Stream, Seal and Open where the lengths are not right. · box.Stream. · The laws' cut and whole. · A text that goes through twice. · box's tagger.takeFilled and takeLengths. · box's state.sealTag, Seal and Open. · What box.Seal and box.Open tell, and the errors. · The law BoxBack, called with any texts, returns true, and changes nothing that was there. · The document's low and right: a number's word; a word turned to the right; and its 64 numbers k. -/
import Derived.Test.YtoopaigpjefonaaGreatDoorMg38
import Derived.Test.YtoopaigpjefonaaGreatDoorMg37
import Derived.Test.YtoopaigpjefonaaGreatDoorMg27
import Derived.Test.YtoopaigpjefonaaGreatDoorMg28
import Derived.WalkKit
import Derived.Laws.BitsAllLaws
import Derived.Laws.BitsLemmas
namespace Go.Proofs.YtoopaigpjefonaaGreatDoor.Bx
set_option maxRecDepth 20000
open Go.RowKit

theorem tag_told (key : List Nat) (hl : key.length = 32) (hk : Bytes key) (B : Nat) (l : List Nat) (w : World) (hT : TagIn w B key l) :
    Calls Tryz.prog 264 #[.pointer (some ⟨B, 0, none⟩)] w fun e w' => e = .returned (.string (strN (polyT key l))) ∧ Below w.heap.size w w' := by
  obtain ⟨h0, h1, h2, l0, l1, l2, e, hr⟩ := hT
  have h := tag_any B _ _ _ _ h0 h1 h2 l0 l1 l2 (wordAt_lt _ (hk.drop 16) 0) w hr
  rw [e, ← leN_words (key.drop 16) (by simp [hl])] at h
  exact h
/-- Poly1305's tag of a text under a key, and the error. -/
def tagS (key s : ByteArray) : ByteArray := if key.size = 32 then strN (polyT (numsOf key) (numsOf s)) else ⟨#[]⟩
def tagE (key : ByteArray) : Nat := if key.size = 32 then 0 else 1

/-- What the tag of the empty text is, for the laws' own question. -/
theorem awake_facts : tagS ⟨#[97, 98, 99, 100, 101, 102, 103, 104, 105, 106, 107, 108, 109, 110, 111, 112, 113, 114, 115, 116, 117, 118, 119, 120, 121, 122, 48, 49, 50, 51, 52, 53]⟩ ⟨#[]⟩ = ⟨#[113, 114, 115, 116, 117, 118, 119, 120, 121, 122, 48, 49, 50, 51, 52, 53]⟩ := by
  decide +kernel

end Go.Proofs.YtoopaigpjefonaaGreatDoor.Bx

namespace Go.Proofs.YtoopaigpjefonaaGreatDoor.Bx
set_option maxRecDepth 20000
open Go.RowKit

theorem or_zero (v x y : Nat) : (v ||| (x ^^^ y) = 0) ↔ (v = 0 ∧ x = y) := by
  rw [Nat.or_eq_zero_iff]
  constructor
  · rintro ⟨h1, h2⟩
    exact ⟨h1, by
      have h3 : x ^^^ y ^^^ y = 0 ^^^ y := by rw [h2]
      rw [Nat.xor_assoc, Nat.xor_self, Nat.xor_zero, Nat.zero_xor] at h3
      exact h3⟩
  · rintro ⟨h1, rfl⟩
    exact ⟨h1, Nat.xor_self _⟩
theorem same_bits (v x y : Nat) (hv : v < 256) (hx : x < 256) (hy : y < 256) : ∃ u : Nat, u < 256 ∧ bits .or .u8 (v : Int) (bits .xor .u8 (x : Int) (y : Int)) = u ∧ (u = 0 ↔ (v = 0 ∧ x = y)) := by
  have h1 : x ^^^ y < 256 := Nat.xor_lt_two_pow (n := 8) hx hy
  exact ⟨v ||| (x ^^^ y), Nat.or_lt_two_pow (n := 8) hv h1, by rw [u8_xor_nat x y hx hy, u8_or_nat v _ hv h1], or_zero v x y⟩
theorem text_ext (a b : ByteArray) (hs : a.size = b.size) (h : ∀ i, (ha : i < a.size) → (hb : i < b.size) → a[i].toNat = b[i].toNat) : a = b := by
  apply ByteArray.ext
  apply Array.ext
  · exact hs
  · intro i h1 h2
    exact UInt8.toNat_inj.1 (h i h1 h2)

set_option maxRecDepth 10000 in
set_option maxHeartbeats 1000000 in
theorem same_any (a b : ByteArray) (ha : a.size ≤ maxLen) (w : World) :
    Calls Tryz.prog 254 #[.string a, .string b] w fun e w' => e = .returned (.bool (decide (a = b))) ∧ Below w.heap.size w w' := by
  unfold maxLen at ha
  by_cases hs : a.size = b.size
  · have h1 : ((a.size : Int) != b.size) = false := by simp; omega
    go_enter Tryz.func254, Tryz.ntmps254
    go_wp2_with fail
    go_loopw [5, 14] (fun o i wr => ∃ j v : Nat, j ≤ a.size ∧ v < 256 ∧ i = .int .i64 j ∧ o = .int .u8 v ∧ (v = 0 ↔ ∀ k, k < j → (ha : k < a.size) → (hb : k < b.size) → a[k].toNat = b[k].toNat) ∧ Below w.heap.size w wr) (fun _ i _ => a.size - (intOf i).toNat)
    case atStart => exact ⟨0, 0, Nat.zero_le _, by decide, rfl, rfl, ⟨fun _ k hk => absurd hk (Nat.not_lt_zero _), fun _ => rfl⟩, Below.refl _ _⟩
    case round =>
      obtain ⟨j, v, hj, hv, rfl, rfl, hiff, hbw⟩ := hrel
      by_cases hlt : j < a.size
      · have hlt' : j < b.size := by omega
        obtain ⟨u, hu, hbits, hui⟩ := same_bits v a[j].toNat b[j].toNat hv a[j].toNat_lt b[j].toNat_lt
        have HI : Hid (u = 0 ↔ ∀ k, k < j + 1 → (ha : k < a.size) → (hb : k < b.size) → a[k].toNat = b[k].toNat) := by
          show _ ↔ _
          rw [hui, hiff]
          constructor
          · rintro ⟨h1, h2⟩ k hk h3 h4
            by_cases e : k = j
            · subst e; exact h2
            · exact h1 k (by omega) h3 h4
          · intro h
            exact ⟨fun k hk h3 h4 => h k (by omega) h3 h4, h j (by omega) hlt hlt'⟩
        clear hui hiff
        have i1 : (j : Int) < a.size := by omega
        have i2 : (j : Int) < b.size := by omega
        go_wp2_with fail
        go_quiet (fail)
        go_wp2
        go_roundw
        case rel => exact ⟨j + 1, u, by omega, hu, by go_num, rfl, HI.out, bdrewN hbw _⟩
        case measure => simp [intOf]; omega
      · obtain rfl : j = a.size := by omega
        have i1 : ¬ (a.size : Int) < a.size := by omega
        by_cases hv0 : v = 0
        · subst hv0
          have e : a = b := text_ext a b hs fun i h1 h2 => hiff.1 rfl i h1 h1 h2
          clear hiff
          go_wp2
          go_ret
          exact ⟨by simp, hbw⟩
        · have e : a ≠ b := fun e => hv0 (hiff.2 fun k _ _ _ => by subst e; rfl)
          have e2 : ((v : Int) == 0) = false := by simp; omega
          clear hiff
          go_wp2
          go_ret
          exact ⟨by simp, hbw⟩
  · have h1 : ((a.size : Int) != b.size) = true := by simp; omega
    have e : a ≠ b := fun e => hs (by rw [e])
    go_enter Tryz.func254, Tryz.ntmps254
    go_wp2
    go_ret
    exact ⟨by simp [e], Below.refl _ _⟩
end Go.Proofs.YtoopaigpjefonaaGreatDoor.Bx

namespace Go.Proofs.YtoopaigpjefonaaGreatDoor.Bx
set_option maxRecDepth 20000
open Go.RowKit

theorem fit_yes (key nonce : ByteArray) (hk : key.size = 32) (hn : nonce.size = 12) (w : World) :
    Calls Tryz.prog 252 #[.string key, .string nonce] w fun e w' => e = .returned (.bool true) ∧ w' = w := by
  go_enter Tryz.func252, Tryz.ntmps252
  go_wp2
  go_ret
  exact ⟨rfl, rfl⟩
theorem fit_no (key nonce : ByteArray) (h : ¬ (key.size = 32 ∧ nonce.size = 12)) (w : World) :
    Calls Tryz.prog 252 #[.string key, .string nonce] w fun e w' => e = .returned (.bool false) ∧ w' = w := by
  by_cases hk : key.size = 32
  · have hn : ((nonce.size : Int) == 12) = false := by simp; omega
    clear h
    go_enter Tryz.func252, Tryz.ntmps252
    go_wp2
    go_ret
    exact ⟨rfl, rfl⟩
  · have hn : ((key.size : Int) == 32) = false := by simp; omega
    clear h hk
    go_enter Tryz.func252, Tryz.ntmps252
    go_wp2
    go_ret
    exact ⟨rfl, rfl⟩

theorem Seal_bad (key nonce ad s : ByteArray) (h : ¬ (key.size = 32 ∧ nonce.size = 12)) (w : World) :
    Calls Tryz.prog 251 #[.string key, .string nonce, .string ad, .string s] w fun e w' => e = .returned (.tuple #[.string ⟨#[]⟩, .int .i64 1]) ∧ w' = w := by
  have hf := fun w => fit_no key nonce h w
  clear h
  go_enter Tryz.func251, Tryz.ntmps251
  go_wp2_with fail
  refine (hf _).mono ?_
  rintro e w' ⟨rfl, rfl⟩
  clear hf
  go_wp2
  go_ret2
  exact ⟨rfl, rfl⟩
theorem Open_bad (key nonce ad s : ByteArray) (h : ¬ (key.size = 32 ∧ nonce.size = 12)) (w : World) :
    Calls Tryz.prog 249 #[.string key, .string nonce, .string ad, .string s] w fun e w' => e = .returned (.tuple #[.string ⟨#[]⟩, .int .i64 1]) ∧ w' = w := by
  have hf := fun w => fit_no key nonce h w
  clear h
  go_enter Tryz.func249, Tryz.ntmps249
  go_wp2_with fail
  refine (hf _).mono ?_
  rintro e w' ⟨rfl, rfl⟩
  clear hf
  go_wp2
  go_ret2
  exact ⟨rfl, rfl⟩
end Go.Proofs.YtoopaigpjefonaaGreatDoor.Bx

namespace Go.Proofs.YtoopaigpjefonaaGreatDoor.Bx
set_option maxRecDepth 20000
open Go.RowKit

/-- What Stream tells where the lengths are right, and the error. -/
def strmB (at_ : Int) (n : Nat) : Prop := at_ < 0 ∨ 4294967295 < at_ ∨ 4294967296 - at_ < ((n + 63) / 64 : Nat)
instance (at_ : Int) (n : Nat) : Decidable (strmB at_ n) := inferInstanceAs (Decidable (_ ∨ _ ∨ _))
def strmE (key nonce : ByteArray) (at_ : Int) (s : ByteArray) : Nat := if ¬ (key.size = 32 ∧ nonce.size = 12) then 1 else if strmB at_ s.size then 2 else 0
def strmS (key nonce : ByteArray) (at_ : Int) (s : ByteArray) : ByteArray := if strmE key nonce at_ s = 0 then strN (chaS (numsOf key) (numsOf nonce) at_.toNat (numsOf s)) else ⟨#[]⟩

theorem st16_ok (key nonce : ByteArray) (n : Nat) (hn : n < 4294967296) : (st16 (numsOf key) (numsOf nonce) n).ok := by
  have hw : ∀ (s : ByteArray) i, wordL (numsOf s) i < 4294967296 := fun s i => by
    have h0 := getD_lt (by decide) (numsOf_bytes s) i
    have h1 := getD_lt (by decide) (numsOf_bytes s) (i + 1)
    have h2 := getD_lt (by decide) (numsOf_bytes s) (i + 2)
    have h3 := getD_lt (by decide) (numsOf_bytes s) (i + 3)
    unfold wordL
    omega
  simp [S16.ok, S16.toL, st16, hw, hn]

end Go.Proofs.YtoopaigpjefonaaGreatDoor.Bx

namespace Go.Proofs.YtoopaigpjefonaaGreatDoor.Bx
set_option maxRecDepth 20000
open Go.RowKit

def cutS (s : ByteArray) (n : Nat) : ByteArray := if n < s.size then s.extract 0 n else s
theorem cutS_size (s : ByteArray) (n : Nat) : (cutS s n).size ≤ n := by
  unfold cutS
  split
  · simp; omega
  · omega
def zerosS (n : Nat) : ByteArray := strOfNums (List.replicate n 0)
theorem zerosS_size (n : Nat) : (zerosS n).size = n := by simp [zerosS, strOfNums_size]

end Go.Proofs.YtoopaigpjefonaaGreatDoor.Bx

namespace Go.Proofs.YtoopaigpjefonaaGreatDoor.Bx
set_option maxRecDepth 20000
open Go.RowKit

theorem chaS_get (K N : List Nat) (a : Nat) (l : List Nat) (i : Nat) (h : i < l.length) : (chaS K N a l).getD i 0 = l.getD i 0 ^^^ (chaL K N (a + i / 64)).getD (i % 64) 0 := by
  rw [List.getD_eq_getElem?_getD, chaS, List.getElem?_map, List.getElem?_range h]
  rfl
theorem chaS_twice (K N : List Nat) (a : Nat) (l : List Nat) : chaS K N a (chaS K N a l) = l := by
  refine List.ext_getElem? fun i => ?_
  by_cases h : i < l.length
  · conv => lhs; rw [chaS]
    rw [List.getElem?_map, List.getElem?_range (by rw [chaS_length]; exact h), Option.map_some, chaS_get K N a l i h, Nat.xor_assoc, Nat.xor_self, Nat.xor_zero, getD_at _ _ h, List.getElem?_eq_getElem h]
  · rw [List.getElem?_eq_none (by rw [chaS_length, chaS_length]; omega), List.getElem?_eq_none (by omega)]
theorem chaS_bytes (K N : List Nat) (a : Nat) (l : List Nat) (h : Bytes l) : Bytes (chaS K N a l) := strmL_bytes (st16 K N 0) a l h

/-- What is told of a text that has gone through. -/
theorem twice_math (key nonce s : ByteArray) (at_ : Int) (h : strmE key nonce at_ s = 0) :
    (strmS key nonce at_ s).size = s.size ∧ strmE key nonce at_ (strmS key nonce at_ s) = 0 ∧ strmS key nonce at_ (strmS key nonce at_ s) = s := by
  have e1 : strmS key nonce at_ s = strN (chaS (numsOf key) (numsOf nonce) at_.toNat (numsOf s)) := if_pos h
  have e2 : (strmS key nonce at_ s).size = s.size := by rw [e1, strN_size, chaS_length, numsOf_length]
  have e3 : strmE key nonce at_ (strmS key nonce at_ s) = 0 := by
    unfold strmE at h ⊢
    rw [e2]
    exact h
  refine ⟨e2, e3, ?_⟩
  have e4 : strmS key nonce at_ (strmS key nonce at_ s) = strN (chaS (numsOf key) (numsOf nonce) at_.toNat (numsOf (strmS key nonce at_ s))) := if_pos e3
  rw [e4, e1, numsOf_strN _ (chaS_bytes _ _ _ _ (numsOf_bytes s)), chaS_twice, strN_numsOf]
theorem strm_refused (key nonce s : ByteArray) (hk : key.size = 32) (hn : nonce.size = 12) (at_ : Int) (h : strmE key nonce at_ s ≠ 0) : strmE key nonce at_ s = 2 ∧ strmS key nonce at_ s = ⟨#[]⟩ := by
  have e : strmS key nonce at_ s = ⟨#[]⟩ := if_neg h
  refine ⟨?_, e⟩
  unfold strmE at h ⊢
  rw [if_neg (fun hh => hh ⟨hk, hn⟩)] at h ⊢
  split
  · rfl
  · rename_i hb
    rw [if_neg hb] at h
    exact absurd rfl h
end Go.Proofs.YtoopaigpjefonaaGreatDoor.Bx

namespace Go.Proofs.YtoopaigpjefonaaGreatDoor.Bx
set_option maxRecDepth 20000
open Go.RowKit

/-- Bytes, and the bytes 0 that make them a multiple of sixteen. -/
def fill16 (l : List Nat) : List Nat := l ++ List.replicate ((16 - l.length % 16) % 16) 0
theorem fill16_length (l : List Nat) : (fill16 l).length % 16 = 0 := by simp [fill16]; omega
theorem fill16_whole (l : List Nat) (h : l.length % 16 = 0) : fill16 l = l := by simp [fill16, h]
theorem fill16_part (l : List Nat) (h : l.length % 16 ≠ 0) : fill16 l = l.take (l.length - l.length % 16) ++ (l.drop (l.length - l.length % 16) ++ List.replicate (16 - l.length % 16) 0) := by
  rw [← List.append_assoc, List.take_append_drop, fill16, Nat.mod_eq_of_lt (a := 16 - l.length % 16) (by omega)]
theorem fill16_bytes (l : List Nat) (h : Bytes l) : Bytes (fill16 l) := h.append (Bytes.zeros _)

set_option maxRecDepth 10000 in
set_option maxHeartbeats 1000000 in
theorem takeFilled_any (key : List Nat) (hk : Bytes key) (B : Nat) (l : List Nat) (hl : l.length % 16 = 0) (s : ByteArray) (hs : s.size < 1099511627776) (w : World) (hT : TagIn w B key l) :
    Calls Tryz.prog 262 #[.pointer (some ⟨B, 0, none⟩), .string s] w fun e w' => e = .returned (.tuple #[]) ∧ TagIn w' B key (l ++ fill16 (numsOf s)) ∧ Only B w w' := by
  have hsl := numsOf_length s
  obtain ⟨p, hp⟩ : ∃ p, p = s.size - s.size % 16 := ⟨_, rfl⟩
  have hps : p ≤ s.size := by omega
  have hp16 : p % 16 = 0 := by omega
  have v1 : IntKind.i64.wrap ((s.size : Int) - (s.size : Int) % 16) = p := by rw [IntKind.wrap_i64]; omega
  have v2 : (s.size : Int) - (s.size : Int) % 16 = p := by omega
  have HTk := take_any key hk B l hl (s.extract 0 p) w hT
  have hn1 : numsOf (s.extract 0 p) = (numsOf s).take p := by rw [numsOf_extract, Nat.sub_zero, List.drop_zero]
  rw [hn1] at HTk
  have i1 : (p : Int) ≤ s.size := by omega
  by_cases h : s.size % 16 = 0
  · have hpz : p = s.size := by omega
    have e : (numsOf s).take p = fill16 (numsOf s) := by rw [fill16_whole _ (by rw [hsl]; exact h), List.take_of_length_le (by omega)]
    rw [e] at HTk
    have i2 : ¬ (p : Int) < s.size := by omega
    have HP : Hid (p = s.size - s.size % 16 ∧ p = s.size) := ⟨hp, hpz⟩
    clear hp hpz hn1 e hT
    go_enter Tryz.func262, Tryz.ntmps262
    go_wp2_with fail
    refine HTk.mono ?_
    rintro e w1 ⟨rfl, hT1, ho1⟩
    clear HTk
    go_wp2
    go_end0
    exact ⟨rfl, hT1, ho1⟩
  · have i2 : (p : Int) < s.size := by omega
    obtain ⟨u, hu⟩ : ∃ u, u = s.extract p s.size := ⟨_, rfl⟩
    have hus : u.size = s.size % 16 := by rw [hu]; simp; omega
    have hun : numsOf u = (numsOf s).drop p := by rw [hu, numsOf_extract, List.take_of_length_le (by simp [numsOf_length])]
    have hul := numsOf_length u
    have hub := numsOf_bytes u
    have hlp : (l ++ (numsOf s).take p).length % 16 = 0 := by rw [List.length_append, List.length_take, hsl]; omega
    have hfin : l ++ (numsOf s).take p ++ (numsOf u ++ List.replicate (16 - u.size) 0) = l ++ fill16 (numsOf s) := by
      rw [fill16_part _ (by rw [hsl]; exact h), hsl, ← hp, hun, hus, List.append_assoc]
    have HP : Hid (p = s.size - s.size % 16) := hp
    have hu' : s.extract p s.size = u := hu.symm
    clear hp hn1 hT hun hu
    go_enter Tryz.func262, Tryz.ntmps262
    go_wp2_with fail
    refine HTk.mono ?_
    rintro e w1 ⟨rfl, hT1, ho1⟩
    clear HTk
    obtain ⟨w2, hw2⟩ : ∃ w2, w1.alloc (.cells #[.int .u8 0, .int .u8 0, .int .u8 0, .int .u8 0, .int .u8 0, .int .u8 0, .int .u8 0, .int .u8 0, .int .u8 0, .int .u8 0, .int .u8 0, .int .u8 0, .int .u8 0, .int .u8 0, .int .u8 0, .int .u8 0] 357) = w2 := ⟨_, rfl⟩
    have a2 : Row w2 w1.heap.size 357 (byV (List.replicate 16 0)) := by
      rw [← hw2]
      have := heap_alloc_new w1 (.cells #[.int .u8 0, .int .u8 0, .int .u8 0, .int .u8 0, .int .u8 0, .int .u8 0, .int .u8 0, .int .u8 0, .int .u8 0, .int .u8 0, .int .u8 0, .int .u8 0, .int .u8 0, .int .u8 0, .int .u8 0, .int .u8 0] 357)
      simpa [Row, byV] using this
    have ab : Below w1.heap.size w1 w2 := by rw [← hw2]; exact (Below.refl _ _).alloc (Nat.le_refl _) _
    obtain ⟨w3, hcp, b3, o3⟩ := copy_row w2.drew w1.heap.size 357 16 _ rfl a2 u
    have hB3 : Below w1.heap.size w1 w3 := ab.drew.trans (o3.below (Nat.le_of_lt a2.lt))
    rw [show min u.size 16 = u.size by omega] at hcp b3
    rw [List.take_of_length_le (by omega)] at b3
    have b3' : Row w3 w1.heap.size 357 (byV (numsOf u ++ List.replicate (16 - u.size) 0)) := b3.congr (by rw [byV_append, byV_zeros, byV_zeros, List.drop_replicate])
    have hm : (numsOf u ++ List.replicate (16 - u.size) 0).length = 16 := by rw [List.length_append, List.length_replicate]; omega
    have HA := add_step key hk _ (numsOf u ++ List.replicate (16 - u.size) 0) _ 1 (by decide) hlp (by omega) (by omega) hm (hub.append (Bytes.zeros _)) (piece_full _ hm) B w1.heap.size _ w3 (hT1.below hB3 hT1.lt) b3'
    rw [hfin] at HA
    have HO : Hid (Only B w w3) := ho1.trans (Only.of_below hB3)
    clear b3 b3' a2 ab o3 hB3 hm hlp hfin hT1 ho1 hul hub hus
    go_wp2_with fail
    go_region_held3 (fun _ => True) (simp [go_sem, *]) (fail)
    go_wp2_with fail
    refine HA.mono ?_
    rintro e w4 ⟨rfl, hT4, ho4⟩
    clear HA hcp hw2
    go_wp2_with fail
    go_end0
    exact ⟨rfl, hT4, HO.out.trans ho4⟩

set_option maxRecDepth 10000 in
set_option maxHeartbeats 1000000 in
theorem takeLengths_any (key : List Nat) (hk : Bytes key) (B : Nat) (l : List Nat) (hl : l.length % 16 = 0) (m n : Nat) (hm : m < 1099511627776) (hn : n < 1099511627776) (w : World) (hT : TagIn w B key l) :
    Calls Tryz.prog 263 #[.pointer (some ⟨B, 0, none⟩), .int .i64 m, .int .i64 n] w fun e w' => e = .returned (.tuple #[]) ∧ TagIn w' B key (l ++ (leB 8 m ++ leB 8 n)) ∧ Only B w w' := by
  have v1 : IntKind.u64.wrap (m : Int) = m := by rw [IntKind.wrap_u64]; omega
  have v2 : IntKind.u64.wrap (n : Int) = n := by rw [IntKind.wrap_u64]; omega
  have hp := fun w => put_any m n w
  have hl16 : (leB 8 m ++ leB 8 n).length = 16 := by simp [leB]
  have hbb : Bytes (leB 8 m ++ leB 8 n) := Bytes.append (leB_bytes _ _) (leB_bytes _ _)
  have hA := fun w g hT hg => add_step key hk l (leB 8 m ++ leB 8 n) _ 1 (by decide) hl (by omega) (by omega) hl16 hbb (piece_full _ hl16) B g 357 w hT hg
  obtain ⟨ds, hds⟩ : ∃ ds, ds = (byV (leB 8 m ++ leB 8 n)).toArray := ⟨_, rfl⟩
  rw [← hds] at hp
  have hsz : ds.size = 16 := by rw [hds]; simp [byV, leB]
  have hone : ds.all (·.oneCell') = true := by rw [hds]; simp [byV, Value.oneCell']
  have hinfo : (Tryz.prog.info? 357).map (·.size) = some ds.size := by rw [hsz]; kernel_rfl
  have HDS : Hid (ds = (byV (leB 8 m ++ leB 8 n)).toArray) := hds
  have HT : Hid (TagIn w B key l) := hT
  clear hds hT
  go_enter Tryz.func263, Tryz.ntmps263
  go_wp2_with fail
  refine (hp _).mono ?_
  rintro e w1 ⟨rfl, hb1⟩
  clear hp
  go_wp2_with (refine wpList_store_row rfl 357 _ _ rfl w1.heap.size ds rfl rfl 357 _ (heap_alloc_new w1 _) hinfo (by rw [hsz]; rfl) hone ?_)
  rw [World.setRow_alloc_new]
  have k2 : Row (w1.alloc (.cells ds 357)) w1.heap.size 357 (byV (leB 8 m ++ leB 8 n)) := by rw [HDS.out]; exact heap_alloc_new w1 _
  have hb2 := hb1.alloc hb1.size (.cells ds 357)
  generalize w1.alloc (.cells ds 357) = w2 at *
  clear hone hinfo hsz HDS
  refine (hA w2 w1.heap.size (HT.out.below hb2 HT.out.lt) k2).mono ?_
  rintro e w3 ⟨rfl, hT3, ho3⟩
  have hO := (Only.of_below (b := B) hb2).trans ho3
  clear hA k2 hb2 ho3
  go_wp2_with fail
  go_end0
  exact ⟨rfl, hT3, hO⟩
end Go.Proofs.YtoopaigpjefonaaGreatDoor.Bx

namespace Go.Proofs.YtoopaigpjefonaaGreatDoor.Bx
set_option maxRecDepth 20000
open Go.RowKit

/-- What a seal's tag is made of, and the tag. -/
def sealM (ad c : List Nat) : List Nat := fill16 ad ++ fill16 c ++ (leB 8 ad.length ++ leB 8 c.length)
def sealT (k ad c : List Nat) : List Nat := polyT (k.take 32) (sealM ad c)
theorem polyT_length (key l : List Nat) : (polyT key l).length = 16 := by simp [polyT, leB]
theorem polyT_bytes (key l : List Nat) : Bytes (polyT key l) := leB_bytes _ _

set_option maxRecDepth 10000 in
set_option maxHeartbeats 1000000 in
theorem sealTag_any (S : S16) (hok : S.ok) (g : Nat) (ad c : ByteArray) (had : ad.size < 1099511627776) (hc : c.size < 1099511627776) (w : World) (hr : Row w g 343 (wdV S.toL)) :
    Calls Tryz.prog 255 #[.pointer (some ⟨g, 0, none⟩), .string ad, .string c] w fun e w' => e = .returned (.string (strN (sealT (blkL (S.at 0)) (numsOf ad) (numsOf c)))) ∧ Below w.heap.size w w' := by
  have hBk := block_any S hok 0 (by decide) g w hr
  have hkl := blkL_length (S.at 0)
  have hkb := blkL_bytes (S.at 0)
  generalize blkL (S.at 0) = k at *
  obtain ⟨ds, hds⟩ : ∃ ds, ds = (byV k).toArray := ⟨_, rfl⟩
  rw [← hds] at hBk
  have hsz : ds.size = 64 := by rw [hds]; simp [byV, hkl]
  have hone : ds.all (·.oneCell') = true := by rw [hds]; simp [byV, Value.oneCell']
  have hinfo : (Tryz.prog.info? 163).map (·.size) = some ds.size := by rw [hsz]; kernel_rfl
  have HDS : Hid (ds = (byV k).toArray) := hds
  obtain ⟨K, hK⟩ : ∃ K, K = k.take 32 := ⟨_, rfl⟩
  have hKl : K.length = 32 := by rw [hK, List.length_take]; omega
  have hKb : Bytes K := by rw [hK]; exact hkb.take 32
  have hKs : (strN K).size = 32 := by rw [strN_size, hKl]
  have hKn : numsOf (strN K) = K := numsOf_strN K hKb
  have hOf := fun w => taggerOf_any (strN K) hKs w
  rw [hKn] at hOf
  obtain ⟨ts, hts⟩ : ∃ ts, ts = (tagC (wordAt (clampL K) 0) (wordAt (clampL K) 8) (wordAt (K.drop 16) 0) (wordAt (K.drop 16) 8) 0 0 0).toArray := ⟨_, rfl⟩
  rw [← hts] at hOf
  have hsz2 : ts.size = 7 := by rw [hts]; rfl
  have hone2 : ts.all (·.oneCell') = true := by rw [hts]; simp [tagC, Value.oneCell']
  have hinfo2 : (Tryz.prog.info? 353).map (·.size) = some ts.size := by rw [hsz2]; kernel_rfl
  have HTS : Hid (ts = (tagC (wordAt (clampL K) 0) (wordAt (clampL K) 8) (wordAt (K.drop 16) 0) (wordAt (K.drop 16) 8) 0 0 0).toArray) := hts
  have HE : Hid (strN (sealT k (numsOf ad) (numsOf c)) = strN (polyT K (fill16 (numsOf ad) ++ fill16 (numsOf c) ++ (leB 8 ad.size ++ leB 8 c.size)))) := by
    show _ = _
    rw [sealT, sealM, ← hK, numsOf_length, numsOf_length]
  rw [HE.out]
  clear hds hts hKn
  have HKF : Hid (K = k.take 32 ∧ k.length = 64) := ⟨hK, hkl⟩
  clear hK hr
  go_enter Tryz.func255, Tryz.ntmps255
  go_wp2_with fail
  refine hBk.mono ?_
  rintro e w1 ⟨rfl, hb1⟩
  clear hBk
  obtain ⟨w2, hw2⟩ : ∃ w2, w1.alloc (.cells ds 163) = w2 := ⟨_, rfl⟩
  have k2 : Row w2 w1.heap.size 163 (byV k) := by rw [← hw2, HDS.out]; exact heap_alloc_new w1 _
  have hb2 : Below w.heap.size w w2 := by rw [← hw2]; exact hb1.alloc hb1.size _
  have hcv := run_convert_bytes_arg (P := Tryz.prog) w2 143 5 Tryz.underlying143 Tryz.underlying5 w1.heap.size 0 32 64 (K.map fun (x : Nat) => (x : Int)) (by simp [hKl]) (fun i hi => by
    rw [Nat.zero_add, k2.cell, byV_get _ _ (by omega), HKF.out.1]
    simp only [List.getD_eq_getElem?_getD, List.getElem?_map, List.getElem?_take]
    rw [if_pos hi, List.getElem?_eq_getElem (by omega)]
    rfl) 9 Tryz.underlying9
  rw [show strOfNums (K.map fun (x : Nat) => (x : Int)) = strN K from rfl] at hcv
  go_wp2_with (refine wpList_store_row rfl 163 _ _ rfl w1.heap.size ds rfl rfl 163 _ (heap_alloc_new w1 _) hinfo (by rw [hsz]; rfl) hone ?_; rw [World.setRow_alloc_new, hw2])
  refine (hOf _).mono ?_
  rintro e w3 ⟨rfl, hb3⟩
  have hb3' := hb2.trans (hb3.mono hb2.size)
  clear hOf hcv k2 hb2 hb3 hw2 hone hinfo hsz hb1
  go_wp2_with (refine wpList_store_row rfl 353 _ _ rfl w3.heap.size ts rfl rfl 353 _ (heap_alloc_new w3 _) hinfo2 (by rw [hsz2]; rfl) hone2 ?_)
  rw [World.setRow_alloc_new]
  have hT : TagIn (w3.alloc (.cells ts 353)) w3.heap.size K [] := ⟨0, 0, 0, by decide, by decide, by decide, rfl, by rw [HTS.out]; exact heap_alloc_new w3 _⟩
  have hb4 := hb3'.alloc hb3'.size (.cells ts 353)
  generalize w3.alloc (.cells ts 353) = w4 at *
  have hlt3 := hb3'.size
  clear hone2 hinfo2 hsz2 HTS hb3'
  refine (takeFilled_any K hKb w3.heap.size [] rfl ad had w4 hT).mono ?_
  rintro e w5 ⟨rfl, hT5, ho5⟩
  rw [List.nil_append] at hT5
  have hb5 : Below w.heap.size w w5 := hb4.trans ((ho5.below (Nat.le_of_lt hT.lt)).mono hlt3)
  clear hT hb4 ho5
  go_wp2_with fail
  refine (takeFilled_any K hKb w3.heap.size _ (fill16_length _) c hc w5 hT5).mono ?_
  rintro e w6 ⟨rfl, hT6, ho6⟩
  have hb6 : Below w.heap.size w w6 := hb5.trans ((ho6.below (Nat.le_of_lt hT5.lt)).mono hlt3)
  have hl6 : (fill16 (numsOf ad) ++ fill16 (numsOf c)).length % 16 = 0 := by
    have h1 := fill16_length (numsOf ad)
    have h2 := fill16_length (numsOf c)
    rw [List.length_append]; omega
  clear hT5 hb5 ho6
  go_wp2_with fail
  refine (takeLengths_any K hKb w3.heap.size _ hl6 ad.size c.size had hc w6 hT6).mono ?_
  rintro e w7 ⟨rfl, hT7, ho7⟩
  have hb7 : Below w.heap.size w w7 := hb6.trans ((ho7.below (Nat.le_of_lt hT6.lt)).mono hlt3)
  clear hT6 hb6 ho7 hl6
  go_wp2_with fail
  refine (tag_told K hKl hKb w3.heap.size _ w7 hT7).mono ?_
  rintro e w8 ⟨rfl, hb8⟩
  have hb9 := hb7.trans (hb8.mono hb7.size)
  clear hb7 hb8 hT7
  go_wp2
  go_ret
  exact ⟨congrArg (fun x => Ending.returned (.string (strN (polyT K x)))) (List.append_assoc _ _ _).symm, hb9⟩

/-- What Seal tells where the lengths are right. -/
def sealC (key nonce s : ByteArray) : List Nat := chaS (numsOf key) (numsOf nonce) 1 (numsOf s)
def sealG (key nonce ad : ByteArray) (c : List Nat) : List Nat := sealT (chaL (numsOf key) (numsOf nonce) 0) (numsOf ad) c
theorem strN_append (a b : List Nat) : strN a ++ strN b = strN (a ++ b) := by
  unfold strN strOfNums
  apply ByteArray.ext
  simp

set_option maxRecDepth 10000 in
set_option maxHeartbeats 1000000 in
theorem Seal_ok (key nonce ad s : ByteArray) (hk : key.size = 32) (hn : nonce.size = 12) (had : ad.size ≤ 1048576) (hs : s.size ≤ 1048576) (w : World) :
    Calls Tryz.prog 251 #[.string key, .string nonce, .string ad, .string s] w fun e w' => e = .returned (.tuple #[.string (strN (sealC key nonce s ++ sealG key nonce ad (sealC key nonce s))), .int .i64 0]) ∧ Below w.heap.size w w' := by
  have hf := fun w => fit_yes key nonce hk hn w
  have hSt := fun w => stateOf_any key nonce hk hn w
  have hok := st16_ok key nonce 0 (by decide)
  have hcb : Bytes (sealC key nonce s) := chaS_bytes _ _ _ _ (numsOf_bytes s)
  have hcl : (sealC key nonce s).length = s.size := by rw [sealC, chaS_length, numsOf_length]
  have hSm := fun g w hr => stream_any (st16 (numsOf key) (numsOf nonce) 0) hok 1 s (by omega) hs g w hr
  have hTg := fun g w hr => sealTag_any (st16 (numsOf key) (numsOf nonce) 0) hok g ad (strN (sealC key nonce s)) (by omega) (by rw [strN_size, hcl]; omega) w hr
  rw [← chaS_strm] at hSm
  rw [numsOf_strN _ hcb] at hTg
  have hgl : (sealG key nonce ad (sealC key nonce s)).length = 16 := polyT_length _ _
  have hSm' : ∀ g w, Row w g 343 (wdV (st16 (numsOf key) (numsOf nonce) 0).toL) → Calls Tryz.prog 256 #[.pointer (some ⟨g, 0, none⟩), .int .i64 1, .string s] w fun e w' => e = .returned (.string (strN (sealC key nonce s))) ∧ Below w.heap.size w w' := hSm
  have hTg' : ∀ g w, Row w g 343 (wdV (st16 (numsOf key) (numsOf nonce) 0).toL) → Calls Tryz.prog 255 #[.pointer (some ⟨g, 0, none⟩), .string ad, .string (strN (sealC key nonce s))] w fun e w' => e = .returned (.string (strN (sealG key nonce ad (sealC key nonce s)))) ∧ Below w.heap.size w w' := hTg
  clear hSm hTg
  rw [← strN_append]
  have hz1 : (strN (sealC key nonce s)).size = s.size := by rw [strN_size, hcl]
  have hz2 : (strN (sealG key nonce ad (sealC key nonce s))).size = 16 := by rw [strN_size, hgl]
  generalize strN (sealG key nonce ad (sealC key nonce s)) = G at *
  generalize strN (sealC key nonce s) = C at *
  obtain ⟨CG, hCG⟩ : ∃ CG, CG = C ++ G := ⟨_, rfl⟩
  have hadd : ∀ w', (Op.stringOp .add C G).run Tryz.prog w' = .ok (.string CG) w' := fun w' => by rw [hCG]; exact run_string_add_sum (P := Tryz.prog) (w := w') C G (by omega)
  rw [← hCG]
  generalize st16 (numsOf key) (numsOf nonce) 0 = S at *
  obtain ⟨ds, hds⟩ : ∃ ds, ds = (wdV S.toL).toArray := ⟨_, rfl⟩
  rw [← hds] at hSt
  have hsz : ds.size = 16 := by rw [hds]; rfl
  have hone : ds.all (·.oneCell') = true := by rw [hds]; simp [wdV, Value.oneCell']
  have hinfo : (Tryz.prog.info? 343).map (·.size) = some ds.size := by rw [hsz]; kernel_rfl
  have HDS : Hid (ds = (wdV S.toL).toArray) := hds
  clear hds hCG hcb hcl hgl
  go_enter Tryz.func251, Tryz.ntmps251
  go_wp2_with fail
  refine (hf _).mono ?_
  rintro e w' ⟨rfl, rfl⟩
  clear hf
  go_wp2_with fail
  refine (hSt _).mono ?_
  rintro e w1 ⟨rfl, hb1⟩
  clear hSt
  go_wp2_with (refine wpList_store_row rfl 343 _ _ rfl w1.heap.size ds rfl rfl 343 _ (heap_alloc_new w1 _) hinfo (by rw [hsz]; rfl) hone ?_)
  rw [World.setRow_alloc_new]
  have k2 : Row (w1.alloc (.cells ds 343)) w1.heap.size 343 (wdV S.toL) := by rw [HDS.out]; exact heap_alloc_new w1 _
  have hb2 := hb1.alloc hb1.size (.cells ds 343)
  generalize w1.alloc (.cells ds 343) = w2 at *
  clear hone hinfo hsz HDS
  refine (hSm' w1.heap.size w2 k2).mono ?_
  rintro e w3 ⟨rfl, hb3⟩
  have k3 := k2.below hb3 k2.lt
  have hb4 := hb2.trans (hb3.mono hb2.size)
  clear k2 hb2 hb3 hSm'
  go_wp2_with fail
  refine (hTg' w1.heap.size w3 k3).mono ?_
  rintro e w4 ⟨rfl, hb5⟩
  have hb6 := hb4.trans (hb5.mono hb4.size)
  clear k3 hb4 hb5 hTg'
  go_wp2
  go_ret2
  exact ⟨rfl, hb6⟩

/-- What Open tells where the lengths are right, and the error. -/
def openC (s : ByteArray) : ByteArray := s.extract 0 (s.size - 16)
def openG (s : ByteArray) : ByteArray := s.extract (s.size - 16) s.size
def openB (key nonce ad s : ByteArray) : Prop := openG s = strN (sealG key nonce ad (numsOf (openC s)))
instance (key nonce ad s : ByteArray) : Decidable (openB key nonce ad s) := inferInstanceAs (Decidable (_ = _))

set_option maxRecDepth 10000 in
set_option maxHeartbeats 1000000 in
theorem Open_short (key nonce ad s : ByteArray) (hk : key.size = 32) (hn : nonce.size = 12) (hs : s.size < 16) (w : World) :
    Calls Tryz.prog 249 #[.string key, .string nonce, .string ad, .string s] w fun e w' => e = .returned (.tuple #[.string ⟨#[]⟩, .int .i64 3]) ∧ w' = w := by
  have hf := fun w => fit_yes key nonce hk hn w
  have h1 : (s.size : Int) < 16 := by omega
  go_enter Tryz.func249, Tryz.ntmps249
  go_wp2_with fail
  refine (hf _).mono ?_
  rintro e w' ⟨rfl, rfl⟩
  clear hf
  go_wp2
  go_ret2
  exact ⟨rfl, rfl⟩

set_option maxRecDepth 10000 in
set_option maxHeartbeats 1000000 in
theorem Open_long (key nonce ad s : ByteArray) (hk : key.size = 32) (hn : nonce.size = 12) (had : ad.size ≤ 1048576) (hs : s.size ≤ 1048576) (h16 : 16 ≤ s.size) (w : World) :
    Calls Tryz.prog 249 #[.string key, .string nonce, .string ad, .string s] w fun e w' => e = .returned (if openB key nonce ad s then .tuple #[.string (strN (chaS (numsOf key) (numsOf nonce) 1 (numsOf (openC s)))), .int .i64 0] else .tuple #[.string ⟨#[]⟩, .int .i64 10]) ∧ Below w.heap.size w w' := by
  have hf := fun w => fit_yes key nonce hk hn w
  have hSt := fun w => stateOf_any key nonce hk hn w
  have hok := st16_ok key nonce 0 (by decide)
  have hcs : (openC s).size = s.size - 16 := by unfold openC; simp
  have hgs : (openG s).size = 16 := by unfold openG; simp; omega
  have hSm : ∀ g w, Row w g 343 (wdV (st16 (numsOf key) (numsOf nonce) 0).toL) → Calls Tryz.prog 256 #[.pointer (some ⟨g, 0, none⟩), .int .i64 1, .string (openC s)] w fun e w' => e = .returned (.string (strN (chaS (numsOf key) (numsOf nonce) 1 (numsOf (openC s))))) ∧ Below w.heap.size w w' := fun g w hr => stream_any (st16 (numsOf key) (numsOf nonce) 0) hok 1 (openC s) (by omega) (by omega) g w hr
  have hTg : ∀ g w, Row w g 343 (wdV (st16 (numsOf key) (numsOf nonce) 0).toL) → Calls Tryz.prog 255 #[.pointer (some ⟨g, 0, none⟩), .string ad, .string (openC s)] w fun e w' => e = .returned (.string (strN (sealG key nonce ad (numsOf (openC s))))) ∧ Below w.heap.size w w' := fun g w hr => sealTag_any (st16 (numsOf key) (numsOf nonce) 0) hok g ad (openC s) (by omega) (by omega) w hr
  have hSame := fun w => same_any (openG s) (strN (sealG key nonce ad (numsOf (openC s)))) (by unfold maxLen; omega) w
  have hd : decide (openG s = strN (sealG key nonce ad (numsOf (openC s)))) = decide (openB key nonce ad s) := rfl
  rw [hd] at hSame
  have v1 : IntKind.i64.wrap ((s.size : Int) - 16) = ((s.size - 16 : Nat) : Int) := by rw [IntKind.wrap_i64]; omega
  have x1 : s.extract 0 (s.size - 16) = openC s := rfl
  have x2 : s.extract (s.size - 16) s.size = openG s := rfl
  generalize strN (sealG key nonce ad (numsOf (openC s))) = T at *
  generalize strN (chaS (numsOf key) (numsOf nonce) 1 (numsOf (openC s))) = U at *
  have hlt : ¬ (s.size : Int) < 16 := by omega
  obtain ⟨m, hm⟩ : ∃ m, m = s.size - 16 := ⟨_, rfl⟩
  rw [← hm] at v1 x1 x2
  have v2 : (s.size : Int) - 16 = m := by omega
  have v3 : IntKind.i64.wrap (m : Int) = m := by rw [IntKind.wrap_i64]; omega
  have i1 : (m : Int) ≤ s.size := by omega
  generalize openC s = C at *
  generalize openG s = G at *
  generalize st16 (numsOf key) (numsOf nonce) 0 = S at *
  obtain ⟨ds, hds⟩ : ∃ ds, ds = (wdV S.toL).toArray := ⟨_, rfl⟩
  rw [← hds] at hSt
  have hsz : ds.size = 16 := by rw [hds]; rfl
  have hone : ds.all (·.oneCell') = true := by rw [hds]; simp [wdV, Value.oneCell']
  have hinfo : (Tryz.prog.info? 343).map (·.size) = some ds.size := by rw [hsz]; kernel_rfl
  have HDS : Hid (ds = (wdV S.toL).toArray) := hds
  have HM : Hid (m = s.size - 16 ∧ C.size = s.size - 16) := ⟨hm, hcs⟩
  clear hds hm hd hcs
  by_cases hB : openB key nonce ad s
  · rw [if_pos hB]
    rw [decide_eq_true hB] at hSame
    clear hB
    go_enter Tryz.func249, Tryz.ntmps249
    go_wp2_with fail
    refine (hf _).mono ?_
    rintro e w' ⟨rfl, rfl⟩
    clear hf
    go_wp2_with fail
    refine (hSt _).mono ?_
    rintro e w1 ⟨rfl, hb1⟩
    clear hSt
    obtain ⟨w2, hw2⟩ : ∃ w2, w1.alloc (.cells ds 343) = w2 := ⟨_, rfl⟩
    have k2 : Row w2 w1.heap.size 343 (wdV S.toL) := by rw [← hw2, HDS.out]; exact heap_alloc_new w1 _
    have hb2 : Below w'.heap.size w' w2 := by rw [← hw2]; exact hb1.alloc hb1.size (.cells ds 343)
    go_wp2_with (refine wpList_store_row rfl 343 _ _ rfl w1.heap.size ds rfl rfl 343 _ (heap_alloc_new w1 _) hinfo (by rw [hsz]; rfl) hone ?_; rw [World.setRow_alloc_new, hw2])
    clear hw2 hone hinfo hsz HDS hb1
    go_quiet (fail)
    go_wp2_with fail
    refine (hTg w1.heap.size (w2.drewN _) k2).mono ?_
    rintro e w3 ⟨rfl, hb3⟩
    have k3 := Row.below (w := w2.drewN _) k2 hb3 k2.lt
    have hb4 := (bdrewN hb2 _).trans (hb3.mono (by exact hb2.size))
    clear k2 hb2 hb3 hTg
    go_wp2_with fail
    refine (hSame _).mono ?_
    rintro e w4 ⟨rfl, hb5⟩
    have k4 := k3.below hb5 k3.lt
    have hb6 := hb4.trans (hb5.mono hb4.size)
    clear k3 hb4 hb5 hSame
    go_wp2_with fail
    refine (hSm w1.heap.size w4 k4).mono ?_
    rintro e w5 ⟨rfl, hb7⟩
    have hb8 := hb6.trans (hb7.mono hb6.size)
    clear k4 hb6 hb7 hSm
    go_wp2
    go_ret2
    exact ⟨rfl, hb8⟩
  · rw [if_neg hB]
    rw [decide_eq_false hB] at hSame
    clear hB
    go_enter Tryz.func249, Tryz.ntmps249
    go_wp2_with fail
    refine (hf _).mono ?_
    rintro e w' ⟨rfl, rfl⟩
    clear hf
    go_wp2_with fail
    refine (hSt _).mono ?_
    rintro e w1 ⟨rfl, hb1⟩
    clear hSt
    obtain ⟨w2, hw2⟩ : ∃ w2, w1.alloc (.cells ds 343) = w2 := ⟨_, rfl⟩
    have k2 : Row w2 w1.heap.size 343 (wdV S.toL) := by rw [← hw2, HDS.out]; exact heap_alloc_new w1 _
    have hb2 : Below w'.heap.size w' w2 := by rw [← hw2]; exact hb1.alloc hb1.size (.cells ds 343)
    go_wp2_with (refine wpList_store_row rfl 343 _ _ rfl w1.heap.size ds rfl rfl 343 _ (heap_alloc_new w1 _) hinfo (by rw [hsz]; rfl) hone ?_; rw [World.setRow_alloc_new, hw2])
    clear hw2 hone hinfo hsz HDS hb1
    go_quiet (fail)
    go_wp2_with fail
    refine (hTg w1.heap.size (w2.drewN _) k2).mono ?_
    rintro e w3 ⟨rfl, hb3⟩
    have k3 := Row.below (w := w2.drewN _) k2 hb3 k2.lt
    have hb4 := (bdrewN hb2 _).trans (hb3.mono (by exact hb2.size))
    clear k2 hb2 hb3 hTg
    go_wp2_with fail
    refine (hSame _).mono ?_
    rintro e w4 ⟨rfl, hb5⟩
    have k4 := k3.below hb5 k3.lt
    have hb6 := hb4.trans (hb5.mono hb4.size)
    clear k3 hb4 hb5 hSame
    clear k4 hSm
    go_wp2
    go_ret2
    exact ⟨rfl, hb6⟩
end Go.Proofs.YtoopaigpjefonaaGreatDoor.Bx

namespace Go.Proofs.YtoopaigpjefonaaGreatDoor.Bx
set_option maxRecDepth 20000
open Go.RowKit

/-- What Seal and Open tell, and the errors. -/
def fitP (key nonce : ByteArray) : Prop := key.size = 32 ∧ nonce.size = 12
instance (key nonce : ByteArray) : Decidable (fitP key nonce) := inferInstanceAs (Decidable (_ ∧ _))
def sealS (key nonce ad s : ByteArray) : ByteArray := if fitP key nonce then strN (sealC key nonce s ++ sealG key nonce ad (sealC key nonce s)) else ⟨#[]⟩
def sealE (key nonce : ByteArray) : Nat := if fitP key nonce then 0 else 1
def openE (key nonce ad s : ByteArray) : Nat := if fitP key nonce then if s.size < 16 then 3 else if openB key nonce ad s then 0 else 10 else 1
def openS (key nonce ad s : ByteArray) : ByteArray := if openE key nonce ad s = 0 then strN (chaS (numsOf key) (numsOf nonce) 1 (numsOf (openC s))) else ⟨#[]⟩

theorem Seal_any (key nonce ad s : ByteArray) (had : ad.size ≤ 1048576) (hs : s.size ≤ 1048576) (w : World) :
    Calls Tryz.prog 251 #[.string key, .string nonce, .string ad, .string s] w fun e w' => e = .returned (.tuple #[.string (sealS key nonce ad s), .int .i64 (sealE key nonce : Nat)]) ∧ Below w.heap.size w w' := by
  unfold sealS sealE
  by_cases h : fitP key nonce
  · rw [if_pos h, if_pos h]
    exact Seal_ok key nonce ad s h.1 h.2 had hs w
  · rw [if_neg h, if_neg h]
    refine (Seal_bad key nonce ad s h w).mono ?_
    rintro e w' ⟨rfl, rfl⟩
    exact ⟨rfl, Below.refl _ _⟩
theorem Open_any (key nonce ad s : ByteArray) (had : ad.size ≤ 1048576) (hs : s.size ≤ 1048576) (w : World) :
    Calls Tryz.prog 249 #[.string key, .string nonce, .string ad, .string s] w fun e w' => e = .returned (.tuple #[.string (openS key nonce ad s), .int .i64 (openE key nonce ad s : Nat)]) ∧ Below w.heap.size w w' := by
  by_cases h : fitP key nonce
  · by_cases h16 : s.size < 16
    · have e1 : openE key nonce ad s = 3 := by unfold openE; rw [if_pos h, if_pos h16]
      have e2 : openS key nonce ad s = ⟨#[]⟩ := by unfold openS; rw [e1]; rfl
      rw [e1, e2]
      refine (Open_short key nonce ad s h.1 h.2 h16 w).mono ?_
      rintro e w' ⟨rfl, rfl⟩
      exact ⟨rfl, Below.refl _ _⟩
    · have ho := Open_long key nonce ad s h.1 h.2 had hs (by omega) w
      by_cases hB : openB key nonce ad s
      · have e1 : openE key nonce ad s = 0 := by unfold openE; rw [if_pos h, if_neg h16, if_pos hB]
        have e2 : openS key nonce ad s = strN (chaS (numsOf key) (numsOf nonce) 1 (numsOf (openC s))) := by unfold openS; rw [if_pos e1]
        rw [if_pos hB] at ho
        rw [e1, e2]
        exact ho
      · have e1 : openE key nonce ad s = 10 := by unfold openE; rw [if_pos h, if_neg h16, if_neg hB]
        have e2 : openS key nonce ad s = ⟨#[]⟩ := by unfold openS; rw [e1]; rfl
        rw [if_neg hB] at ho
        rw [e1, e2]
        exact ho
  · have e1 : openE key nonce ad s = 1 := by unfold openE; rw [if_neg h]
    have e2 : openS key nonce ad s = ⟨#[]⟩ := by unfold openS; rw [e1]; rfl
    rw [e1, e2]
    refine (Open_bad key nonce ad s h w).mono ?_
    rintro e w' ⟨rfl, rfl⟩
    exact ⟨rfl, Below.refl _ _⟩

end Go.Proofs.YtoopaigpjefonaaGreatDoor.Bx

namespace Go.Proofs.YtoopaigpjefonaaGreatDoor.Bx
set_option maxRecDepth 20000
open Go.RowKit

theorem back_math (key nonce ad s : ByteArray) :
    (strN (sealC key nonce s ++ sealG key nonce ad (sealC key nonce s))).size = s.size + 16 ∧ openB key nonce ad (strN (sealC key nonce s ++ sealG key nonce ad (sealC key nonce s))) ∧
    strN (chaS (numsOf key) (numsOf nonce) 1 (numsOf (openC (strN (sealC key nonce s ++ sealG key nonce ad (sealC key nonce s)))))) = s := by
  have hcb : Bytes (sealC key nonce s) := chaS_bytes _ _ _ _ (numsOf_bytes s)
  have hcl : (sealC key nonce s).length = s.size := by rw [sealC, chaS_length, numsOf_length]
  have hgl : ∀ c, (sealG key nonce ad c).length = 16 := fun c => polyT_length _ _
  have hgb : ∀ c, Bytes (sealG key nonce ad c) := fun c => polyT_bytes _ _
  have hsz : (strN (sealC key nonce s ++ sealG key nonce ad (sealC key nonce s))).size = s.size + 16 := by rw [strN_size, List.length_append, hcl, hgl]
  have hnum : numsOf (strN (sealC key nonce s ++ sealG key nonce ad (sealC key nonce s))) = sealC key nonce s ++ sealG key nonce ad (sealC key nonce s) := numsOf_strN _ (hcb.append (hgb _))
  have hoc : numsOf (openC (strN (sealC key nonce s ++ sealG key nonce ad (sealC key nonce s)))) = sealC key nonce s := by
    rw [openC, numsOf_extract, hnum, hsz, List.drop_zero, show s.size + 16 - 16 - 0 = (sealC key nonce s).length by omega, List.take_left]
  have hog : numsOf (openG (strN (sealC key nonce s ++ sealG key nonce ad (sealC key nonce s)))) = sealG key nonce ad (sealC key nonce s) := by
    rw [openG, numsOf_extract, hnum, hsz, show s.size + 16 - 16 = (sealC key nonce s).length by omega, List.drop_left, List.take_of_length_le (by rw [hgl]; omega)]
  refine ⟨hsz, ?_, ?_⟩
  · unfold openB
    rw [hoc]
    exact (strN_numsOf _).symm.trans (congrArg strN hog)
  · rw [hoc, sealC, chaS_twice, strN_numsOf]

end Go.Proofs.YtoopaigpjefonaaGreatDoor.Bx

namespace Go.Proofs.YtoopaigpjefonaaGreatDoor.Sm
set_option maxRecDepth 20000
open Go.RowKit

theorem wraps_i64 (n : Int) (h0 : 0 ≤ n) (h1 : n < 2 ^ 63) : IntKind.i64.wrap n = n := by rw [IntKind.wrap_i64]; omega
theorem i64_and_nat (a b : Nat) (ha : a < 9223372036854775808) (hb : b < 9223372036854775808) : bits .and .i64 (a : Int) (b : Int) = ((a &&& b : Nat) : Int) := (bits_nat .i64 63 (by decide) wraps_i64 a b ha hb).1
theorem i64_or_nat (a b : Nat) (ha : a < 9223372036854775808) (hb : b < 9223372036854775808) : bits .or .i64 (a : Int) (b : Int) = ((a ||| b : Nat) : Int) := (bits_nat .i64 63 (by decide) wraps_i64 a b ha hb).2
theorem i64_xor_nat (a b : Nat) (ha : a < 9223372036854775808) (hb : b < 9223372036854775808) : bits .xor .i64 (a : Int) (b : Int) = ((a ^^^ b : Nat) : Int) := by
  have hx : a ^^^ b < 2 ^ 63 := Nat.xor_lt_two_pow ha hb
  show IntKind.i64.wrap ((BitVec.ofInt 64 (a : Int) ^^^ BitVec.ofInt 64 (b : Int)).toNat : Int) = _
  rw [BitVec.toNat_xor, ofInt_u64 a (by omega), ofInt_u64 b (by omega)]
  exact wraps_i64 _ (Int.natCast_nonneg _) (by exact_mod_cast hx)

theorem low_any (n : Nat) (h : n < 9223372036854775808) (w : World) :
    Calls Tryz.prog 162 #[.int .i64 n] w fun e w' => e = .returned (.int .i64 ((n % 4294967296 : Nat) : Int)) ∧ w' = w := by
  have hb : bits .and .i64 (n : Int) 4294967295 = ((n % 4294967296 : Nat) : Int) := by
    rw [show (4294967295 : Int) = ((4294967295 : Nat) : Int) from rfl, i64_and_nat n _ h (by decide), nat_mask32]
  go_enter Tryz.func162, Tryz.ntmps162
  go_wp2
  go_ret
  exact ⟨congrArg (fun z => Ending.returned (.int .i64 z)) (by first | rfl | exact hb), rfl⟩

theorem low_z (z : Int) (n : Nat) (hz : z = (n : Int)) (h : n < 9223372036854775808) (w : World) :
    Calls Tryz.prog 162 #[.int .i64 z] w fun e w' => e = .returned (.int .i64 ((n % 4294967296 : Nat) : Int)) ∧ w' = w := by
  subst hz
  exact low_any n h w
theorem turn_lt (x n : Nat) (hx : x < 4294967296) (h1 : 2 ≤ n) : x * 2 ^ (32 - n) < 4611686018427387904 := by
  have h2 : 2 ^ (32 - n) ≤ 2 ^ 30 := Nat.pow_le_pow_right (by decide) (by omega)
  have h3 : x * 2 ^ (32 - n) ≤ x * 2 ^ 30 := Nat.mul_le_mul_left x h2
  have h4 : (2 : Nat) ^ 30 = 1073741824 := by decide
  rw [h4] at h3
  omega
theorem turn_bits (x n : Nat) (hx : x < 4294967296) (h1 : 2 ≤ n) : bits .or .i64 ((x : Int) / 2 ^ n) (IntKind.i64.wrap ((x : Int) * 2 ^ (32 - n))) = ((x / 2 ^ n ||| x * 2 ^ (32 - n) : Nat) : Int) := by
  have hl := turn_lt x n hx h1
  have e1 : (x : Int) / 2 ^ n = ((x / 2 ^ n : Nat) : Int) := by rw [Int.natCast_ediv, Int.natCast_pow]; rfl
  have e2 : (x : Int) * 2 ^ (32 - n) = ((x * 2 ^ (32 - n) : Nat) : Int) := by rw [Int.natCast_mul, Int.natCast_pow]; rfl
  have hd : x / 2 ^ n ≤ x := Nat.div_le_self _ _
  rw [e1, e2, wraps_i64 _ (Int.natCast_nonneg _) (by omega), i64_or_nat _ _ (by omega) (by omega)]

set_option maxHeartbeats 400000 in
theorem rright_any (x n : Nat) (hx : x < 4294967296) (h1 : 2 ≤ n) (h2 : n ≤ 31) (w : World) :
    Calls Tryz.prog 161 #[.int .i64 x, .int .i64 n] w fun e w' => e = .returned (.int .i64 (rotr x n : Nat)) ∧ w' = w.drew := by
  have hlt : x / 2 ^ n ||| x * 2 ^ (32 - n) < 9223372036854775808 := by
    have h1' := turn_lt x n hx h1
    have hd : x / 2 ^ n ≤ x := Nat.div_le_self _ _
    exact Nat.or_lt_two_pow (n := 63) (by omega) (by omega)
  have e1 : IntKind.i64.wrap (32 - (n : Int)) = ((32 - n : Nat) : Int) := by rw [IntKind.wrap_i64]; omega
  have e2 : ¬ (n : Int) < 0 := by omega
  have e3 : ¬ ((32 - n : Nat) : Int) < 0 := by omega
  have e4 : (0 : Int) ≤ ((32 - n : Nat) : Int) := by omega
  go_enter Tryz.func161, Tryz.ntmps161
  go_wp2_with fail
  go_region_held3 (fun _ => True) (simp [go_sem, *]) (first | (go_at_call 162; refine (low_z _ (x / 2 ^ n ||| x * 2 ^ (32 - n)) (turn_bits x n hx h1) hlt _).mono ?_; rintro e w1 ⟨rfl, rfl⟩))
  go_wp2
  go_ret
  exact ⟨rfl, rfl⟩

theorem keys_any (w : World) :
    Calls Tryz.prog 159 #[] w fun e w' => e = .returned (.slice (some ⟨w.heap.size, 0, none⟩) 64 64) ∧ Row w' w.heap.size 3 (keyL.map fun (x : Nat) => Value.int .i64 (x : Int)) ∧ Below w.heap.size w w' := by
  go_enter Tryz.func159, Tryz.ntmps159
  go_wp2
  go_ret
  exact ⟨rfl, heap_alloc_new w _, (Below.refl _ _).alloc (Nat.le_refl _) _⟩
end Go.Proofs.YtoopaigpjefonaaGreatDoor.Sm
