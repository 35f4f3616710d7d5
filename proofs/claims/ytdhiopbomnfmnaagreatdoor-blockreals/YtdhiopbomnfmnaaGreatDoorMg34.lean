/- box.Tag; the laws' awake. · box.Same: whether two texts are one. · box.fit; Stream, Seal and Open where the lengths are not right. · box.Stream. · The laws' cut and whole. · A text that goes through twice. · box's tagger.takeFilled and takeLengths. -/
import Derived.Test.YtdhiopbomnfmnaaGreatDoorMg33
import Derived.Test.YtdhiopbomnfmnaaGreatDoorMg30
namespace Go.Proofs.YtdhiopbomnfmnaaGreatDoor.Bx
set_option maxRecDepth 20000
open Go.RowKit

theorem tag_told (key : List Nat) (hl : key.length = 32) (hk : Bytes key) (B : Nat) (l : List Nat) (w : World) (hT : TagIn w B key l) :
    Calls Tryz.prog 147 #[.pointer (some ⟨B, 0, none⟩)] w fun e w' => e = .returned (.string (strN (polyT key l))) ∧ Below w.heap.size w w' := by
  obtain ⟨h0, h1, h2, l0, l1, l2, e, hr⟩ := hT
  have h := tag_any B _ _ _ _ h0 h1 h2 l0 l1 l2 (wordAt_lt _ (hk.drop 16) 0) w hr
  rw [e, ← leN_words (key.drop 16) (by simp [hl])] at h
  exact h
/-- Poly1305's tag of a text under a key, and the error. -/
def tagS (key s : ByteArray) : ByteArray := if key.size = 32 then strN (polyT (numsOf key) (numsOf s)) else ⟨#[]⟩
def tagE (key : ByteArray) : Nat := if key.size = 32 then 0 else 1

/-- What the tag of the empty text is, for the laws' own question. -/
theorem awake_facts : tagS ⟨#[97, 98, 99, 100, 101, 102, 103, 104, 105, 106, 107, 108, 109, 110, 111, 112, 113, 114, 115, 116, 117, 118, 119, 120, 121, 122, 48, 49, 50, 51, 52, 53]⟩ ⟨#[]⟩ = ⟨#[113, 114, 115, 116, 117, 118, 119, 120, 121, 122, 48, 49, 50, 51, 52, 53]⟩ := by
  decide +kernel

end Go.Proofs.YtdhiopbomnfmnaaGreatDoor.Bx

namespace Go.Proofs.YtdhiopbomnfmnaaGreatDoor.Bx
set_option maxRecDepth 20000
open Go.RowKit

theorem or_zero (v x y : Nat) : (v ||| (x ^^^ y) = 0) ↔ (v = 0 ∧ x = y) := by
  rw [Nat.or_eq_zero_iff]
  constructor
  · rintro ⟨h1, h2⟩
    exact ⟨h1, by
      have h3 : x ^^^ y ^^^ y = 0 ^^^ y := by rw [h2]
      rw [Nat.xor_assoc, Nat.xor_self, Nat.xor_zero, Nat.zero_xor] at h3
      exact h3⟩
  · rintro ⟨h1, rfl⟩
    exact ⟨h1, Nat.xor_self _⟩
theorem same_bits (v x y : Nat) (hv : v < 256) (hx : x < 256) (hy : y < 256) : ∃ u : Nat, u < 256 ∧ bits .or .u8 (v : Int) (bits .xor .u8 (x : Int) (y : Int)) = u ∧ (u = 0 ↔ (v = 0 ∧ x = y)) := by
  have h1 : x ^^^ y < 256 := Nat.xor_lt_two_pow (n := 8) hx hy
  exact ⟨v ||| (x ^^^ y), Nat.or_lt_two_pow (n := 8) hv h1, by rw [u8_xor_nat x y hx hy, u8_or_nat v _ hv h1], or_zero v x y⟩
theorem text_ext (a b : ByteArray) (hs : a.size = b.size) (h : ∀ i, (ha : i < a.size) → (hb : i < b.size) → a[i].toNat = b[i].toNat) : a = b := by
  apply ByteArray.ext
  apply Array.ext
  · exact hs
  · intro i h1 h2
    exact UInt8.toNat_inj.1 (h i h1 h2)

set_option maxRecDepth 10000 in
set_option maxHeartbeats 1000000 in
theorem same_any (a b : ByteArray) (ha : a.size ≤ maxLen) (w : World) :
    Calls Tryz.prog 137 #[.string a, .string b] w fun e w' => e = .returned (.bool (decide (a = b))) ∧ Below w.heap.size w w' := by
  unfold maxLen at ha
  by_cases hs : a.size = b.size
  · have h1 : ((a.size : Int) != b.size) = false := by simp; omega
    go_enter Tryz.func137, Tryz.ntmps137
    go_wp2_with fail
    go_loopw [5, 14] (fun o i wr => ∃ j v : Nat, j ≤ a.size ∧ v < 256 ∧ i = .int .i64 j ∧ o = .int .u8 v ∧ (v = 0 ↔ ∀ k, k < j → (ha : k < a.size) → (hb : k < b.size) → a[k].toNat = b[k].toNat) ∧ Below w.heap.size w wr) (fun _ i _ => a.size - (intOf i).toNat)
    case atStart => exact ⟨0, 0, Nat.zero_le _, by decide, rfl, rfl, ⟨fun _ k hk => absurd hk (Nat.not_lt_zero _), fun _ => rfl⟩, Below.refl _ _⟩
    case round =>
      obtain ⟨j, v, hj, hv, rfl, rfl, hiff, hbw⟩ := hrel
      by_cases hlt : j < a.size
      · have hlt' : j < b.size := by omega
        obtain ⟨u, hu, hbits, hui⟩ := same_bits v a[j].toNat b[j].toNat hv a[j].toNat_lt b[j].toNat_lt
        have HI : Hid (u = 0 ↔ ∀ k, k < j + 1 → (ha : k < a.size) → (hb : k < b.size) → a[k].toNat = b[k].toNat) := by
          show _ ↔ _
          rw [hui, hiff]
          constructor
          · rintro ⟨h1, h2⟩ k hk h3 h4
            by_cases e : k = j
            · subst e; exact h2
            · exact h1 k (by omega) h3 h4
          · intro h
            exact ⟨fun k hk h3 h4 => h k (by omega) h3 h4, h j (by omega) hlt hlt'⟩
        clear hui hiff
        have i1 : (j : Int) < a.size := by omega
        have i2 : (j : Int) < b.size := by omega
        go_wp2_with fail
        go_quiet (fail)
        go_wp2
        go_roundw
        case rel => exact ⟨j + 1, u, by omega, hu, by go_num, rfl, HI.out, bdrewN hbw _⟩
        case measure => simp [intOf]; omega
      · obtain rfl : j = a.size := by omega
        have i1 : ¬ (a.size : Int) < a.size := by omega
        by_cases hv0 : v = 0
        · subst hv0
          have e : a = b := text_ext a b hs fun i h1 h2 => hiff.1 rfl i h1 h1 h2
          clear hiff
          go_wp2
          go_ret
          exact ⟨by simp, hbw⟩
        · have e : a ≠ b := fun e => hv0 (hiff.2 fun k _ _ _ => by subst e; rfl)
          have e2 : ((v : Int) == 0) = false := by simp; omega
          clear hiff
          go_wp2
          go_ret
          exact ⟨by simp, hbw⟩
  · have h1 : ((a.size : Int) != b.size) = true := by simp; omega
    have e : a ≠ b := fun e => hs (by rw [e])
    go_enter Tryz.func137, Tryz.ntmps137
    go_wp2
    go_ret
    exact ⟨by simp [e], Below.refl _ _⟩
end Go.Proofs.YtdhiopbomnfmnaaGreatDoor.Bx

namespace Go.Proofs.YtdhiopbomnfmnaaGreatDoor.Bx
set_option maxRecDepth 20000
open Go.RowKit

theorem fit_yes (key nonce : ByteArray) (hk : key.size = 32) (hn : nonce.size = 12) (w : World) :
    Calls Tryz.prog 135 #[.string key, .string nonce] w fun e w' => e = .returned (.bool true) ∧ w' = w := by
  go_enter Tryz.func135, Tryz.ntmps135
  go_wp2
  go_ret
  exact ⟨rfl, rfl⟩
theorem fit_no (key nonce : ByteArray) (h : ¬ (key.size = 32 ∧ nonce.size = 12)) (w : World) :
    Calls Tryz.prog 135 #[.string key, .string nonce] w fun e w' => e = .returned (.bool false) ∧ w' = w := by
  by_cases hk : key.size = 32
  · have hn : ((nonce.size : Int) == 12) = false := by simp; omega
    clear h
    go_enter Tryz.func135, Tryz.ntmps135
    go_wp2
    go_ret
    exact ⟨rfl, rfl⟩
  · have hn : ((key.size : Int) == 32) = false := by simp; omega
    clear h hk
    go_enter Tryz.func135, Tryz.ntmps135
    go_wp2
    go_ret
    exact ⟨rfl, rfl⟩

theorem Seal_bad (key nonce ad s : ByteArray) (h : ¬ (key.size = 32 ∧ nonce.size = 12)) (w : World) :
    Calls Tryz.prog 134 #[.string key, .string nonce, .string ad, .string s] w fun e w' => e = .returned (.tuple #[.string ⟨#[]⟩, .int .i64 1]) ∧ w' = w := by
  have hf := fun w => fit_no key nonce h w
  clear h
  go_enter Tryz.func134, Tryz.ntmps134
  go_wp2_with fail
  refine (hf _).mono ?_
  rintro e w' ⟨rfl, rfl⟩
  clear hf
  go_wp2
  go_ret2
  exact ⟨rfl, rfl⟩
theorem Open_bad (key nonce ad s : ByteArray) (h : ¬ (key.size = 32 ∧ nonce.size = 12)) (w : World) :
    Calls Tryz.prog 132 #[.string key, .string nonce, .string ad, .string s] w fun e w' => e = .returned (.tuple #[.string ⟨#[]⟩, .int .i64 1]) ∧ w' = w := by
  have hf := fun w => fit_no key nonce h w
  clear h
  go_enter Tryz.func132, Tryz.ntmps132
  go_wp2_with fail
  refine (hf _).mono ?_
  rintro e w' ⟨rfl, rfl⟩
  clear hf
  go_wp2
  go_ret2
  exact ⟨rfl, rfl⟩
end Go.Proofs.YtdhiopbomnfmnaaGreatDoor.Bx

namespace Go.Proofs.YtdhiopbomnfmnaaGreatDoor.Bx
set_option maxRecDepth 20000
open Go.RowKit

/-- What Stream tells where the lengths are right, and the error. -/
def strmB (at_ : Int) (n : Nat) : Prop := at_ < 0 ∨ 4294967295 < at_ ∨ 4294967296 - at_ < ((n + 63) / 64 : Nat)
instance (at_ : Int) (n : Nat) : Decidable (strmB at_ n) := inferInstanceAs (Decidable (_ ∨ _ ∨ _))
def strmE (key nonce : ByteArray) (at_ : Int) (s : ByteArray) : Nat := if ¬ (key.size = 32 ∧ nonce.size = 12) then 1 else if strmB at_ s.size then 2 else 0
def strmS (key nonce : ByteArray) (at_ : Int) (s : ByteArray) : ByteArray := if strmE key nonce at_ s = 0 then strN (chaS (numsOf key) (numsOf nonce) at_.toNat (numsOf s)) else ⟨#[]⟩

theorem st16_ok (key nonce : ByteArray) (n : Nat) (hn : n < 4294967296) : (st16 (numsOf key) (numsOf nonce) n).ok := by
  have hw : ∀ (s : ByteArray) i, wordL (numsOf s) i < 4294967296 := fun s i => by
    have h0 := getD_lt (by decide) (numsOf_bytes s) i
    have h1 := getD_lt (by decide) (numsOf_bytes s) (i + 1)
    have h2 := getD_lt (by decide) (numsOf_bytes s) (i + 2)
    have h3 := getD_lt (by decide) (numsOf_bytes s) (i + 3)
    unfold wordL
    omega
  simp [S16.ok, S16.toL, st16, hw, hn]

end Go.Proofs.YtdhiopbomnfmnaaGreatDoor.Bx

namespace Go.Proofs.YtdhiopbomnfmnaaGreatDoor.Bx
set_option maxRecDepth 20000
open Go.RowKit

def cutS (s : ByteArray) (n : Nat) : ByteArray := if n < s.size then s.extract 0 n else s
theorem cutS_size (s : ByteArray) (n : Nat) : (cutS s n).size ≤ n := by
  unfold cutS
  split
  · simp; omega
  · omega
def zerosS (n : Nat) : ByteArray := strOfNums (List.replicate n 0)
theorem zerosS_size (n : Nat) : (zerosS n).size = n := by simp [zerosS, strOfNums_size]

end Go.Proofs.YtdhiopbomnfmnaaGreatDoor.Bx

namespace Go.Proofs.YtdhiopbomnfmnaaGreatDoor.Bx
set_option maxRecDepth 20000
open Go.RowKit

theorem chaS_get (K N : List Nat) (a : Nat) (l : List Nat) (i : Nat) (h : i < l.length) : (chaS K N a l).getD i 0 = l.getD i 0 ^^^ (chaL K N (a + i / 64)).getD (i % 64) 0 := by
  rw [List.getD_eq_getElem?_getD, chaS, List.getElem?_map, List.getElem?_range h]
  rfl
theorem chaS_twice (K N : List Nat) (a : Nat) (l : List Nat) : chaS K N a (chaS K N a l) = l := by
  refine List.ext_getElem? fun i => ?_
  by_cases h : i < l.length
  · conv => lhs; rw [chaS]
    rw [List.getElem?_map, List.getElem?_range (by rw [chaS_length]; exact h), Option.map_some, chaS_get K N a l i h, Nat.xor_assoc, Nat.xor_self, Nat.xor_zero, getD_at _ _ h, List.getElem?_eq_getElem h]
  · rw [List.getElem?_eq_none (by rw [chaS_length, chaS_length]; omega), List.getElem?_eq_none (by omega)]
theorem chaS_bytes (K N : List Nat) (a : Nat) (l : List Nat) (h : Bytes l) : Bytes (chaS K N a l) := strmL_bytes (st16 K N 0) a l h

/-- What is told of a text that has gone through. -/
theorem twice_math (key nonce s : ByteArray) (at_ : Int) (h : strmE key nonce at_ s = 0) :
    (strmS key nonce at_ s).size = s.size ∧ strmE key nonce at_ (strmS key nonce at_ s) = 0 ∧ strmS key nonce at_ (strmS key nonce at_ s) = s := by
  have e1 : strmS key nonce at_ s = strN (chaS (numsOf key) (numsOf nonce) at_.toNat (numsOf s)) := if_pos h
  have e2 : (strmS key nonce at_ s).size = s.size := by rw [e1, strN_size, chaS_length, numsOf_length]
  have e3 : strmE key nonce at_ (strmS key nonce at_ s) = 0 := by
    unfold strmE at h ⊢
    rw [e2]
    exact h
  refine ⟨e2, e3, ?_⟩
  have e4 : strmS key nonce at_ (strmS key nonce at_ s) = strN (chaS (numsOf key) (numsOf nonce) at_.toNat (numsOf (strmS key nonce at_ s))) := if_pos e3
  rw [e4, e1, numsOf_strN _ (chaS_bytes _ _ _ _ (numsOf_bytes s)), chaS_twice, strN_numsOf]
theorem strm_refused (key nonce s : ByteArray) (hk : key.size = 32) (hn : nonce.size = 12) (at_ : Int) (h : strmE key nonce at_ s ≠ 0) : strmE key nonce at_ s = 2 ∧ strmS key nonce at_ s = ⟨#[]⟩ := by
  have e : strmS key nonce at_ s = ⟨#[]⟩ := if_neg h
  refine ⟨?_, e⟩
  unfold strmE at h ⊢
  rw [if_neg (fun hh => hh ⟨hk, hn⟩)] at h ⊢
  split
  · rfl
  · rename_i hb
    rw [if_neg hb] at h
    exact absurd rfl h
end Go.Proofs.YtdhiopbomnfmnaaGreatDoor.Bx

namespace Go.Proofs.YtdhiopbomnfmnaaGreatDoor.Bx
set_option maxRecDepth 20000
open Go.RowKit

/-- Bytes, and the bytes 0 that make them a multiple of sixteen. -/
def fill16 (l : List Nat) : List Nat := l ++ List.replicate ((16 - l.length % 16) % 16) 0
theorem fill16_length (l : List Nat) : (fill16 l).length % 16 = 0 := by simp [fill16]; omega
theorem fill16_whole (l : List Nat) (h : l.length % 16 = 0) : fill16 l = l := by simp [fill16, h]
theorem fill16_part (l : List Nat) (h : l.length % 16 ≠ 0) : fill16 l = l.take (l.length - l.length % 16) ++ (l.drop (l.length - l.length % 16) ++ List.replicate (16 - l.length % 16) 0) := by
  rw [← List.append_assoc, List.take_append_drop, fill16, Nat.mod_eq_of_lt (a := 16 - l.length % 16) (by omega)]
theorem fill16_bytes (l : List Nat) (h : Bytes l) : Bytes (fill16 l) := h.append (Bytes.zeros _)

set_option maxRecDepth 10000 in
set_option maxHeartbeats 1000000 in
theorem takeFilled_any (key : List Nat) (hk : Bytes key) (B : Nat) (l : List Nat) (hl : l.length % 16 = 0) (s : ByteArray) (hs : s.size < 1099511627776) (w : World) (hT : TagIn w B key l) :
    Calls Tryz.prog 145 #[.pointer (some ⟨B, 0, none⟩), .string s] w fun e w' => e = .returned (.tuple #[]) ∧ TagIn w' B key (l ++ fill16 (numsOf s)) ∧ Only B w w' := by
  have hsl := numsOf_length s
  obtain ⟨p, hp⟩ : ∃ p, p = s.size - s.size % 16 := ⟨_, rfl⟩
  have hps : p ≤ s.size := by omega
  have hp16 : p % 16 = 0 := by omega
  have v1 : IntKind.i64.wrap ((s.size : Int) - (s.size : Int) % 16) = p := by rw [IntKind.wrap_i64]; omega
  have v2 : (s.size : Int) - (s.size : Int) % 16 = p := by omega
  have HTk := take_any key hk B l hl (s.extract 0 p) w hT
  have hn1 : numsOf (s.extract 0 p) = (numsOf s).take p := by rw [numsOf_extract, Nat.sub_zero, List.drop_zero]
  rw [hn1] at HTk
  have i1 : (p : Int) ≤ s.size := by omega
  by_cases h : s.size % 16 = 0
  · have hpz : p = s.size := by omega
    have e : (numsOf s).take p = fill16 (numsOf s) := by rw [fill16_whole _ (by rw [hsl]; exact h), List.take_of_length_le (by omega)]
    rw [e] at HTk
    have i2 : ¬ (p : Int) < s.size := by omega
    have HP : Hid (p = s.size - s.size % 16 ∧ p = s.size) := ⟨hp, hpz⟩
    clear hp hpz hn1 e hT
    go_enter Tryz.func145, Tryz.ntmps145
    go_wp2_with fail
    refine HTk.mono ?_
    rintro e w1 ⟨rfl, hT1, ho1⟩
    clear HTk
    go_wp2
    go_end0
    exact ⟨rfl, hT1, ho1⟩
  · have i2 : (p : Int) < s.size := by omega
    obtain ⟨u, hu⟩ : ∃ u, u = s.extract p s.size := ⟨_, rfl⟩
    have hus : u.size = s.size % 16 := by rw [hu]; simp; omega
    have hun : numsOf u = (numsOf s).drop p := by rw [hu, numsOf_extract, List.take_of_length_le (by simp [numsOf_length])]
    have hul := numsOf_length u
    have hub := numsOf_bytes u
    have hlp : (l ++ (numsOf s).take p).length % 16 = 0 := by rw [List.length_append, List.length_take, hsl]; omega
    have hfin : l ++ (numsOf s).take p ++ (numsOf u ++ List.replicate (16 - u.size) 0) = l ++ fill16 (numsOf s) := by
      rw [fill16_part _ (by rw [hsl]; exact h), hsl, ← hp, hun, hus, List.append_assoc]
    have HP : Hid (p = s.size - s.size % 16) := hp
    have hu' : s.extract p s.size = u := hu.symm
    clear hp hn1 hT hun hu
    go_enter Tryz.func145, Tryz.ntmps145
    go_wp2_with fail
    refine HTk.mono ?_
    rintro e w1 ⟨rfl, hT1, ho1⟩
    clear HTk
    obtain ⟨w2, hw2⟩ : ∃ w2, w1.alloc (.cells #[.int .u8 0, .int .u8 0, .int .u8 0, .int .u8 0, .int .u8 0, .int .u8 0, .int .u8 0, .int .u8 0, .int .u8 0, .int .u8 0, .int .u8 0, .int .u8 0, .int .u8 0, .int .u8 0, .int .u8 0, .int .u8 0] 205) = w2 := ⟨_, rfl⟩
    have a2 : Row w2 w1.heap.size 205 (byV (List.replicate 16 0)) := by
      rw [← hw2]
      have := heap_alloc_new w1 (.cells #[.int .u8 0, .int .u8 0, .int .u8 0, .int .u8 0, .int .u8 0, .int .u8 0, .int .u8 0, .int .u8 0, .int .u8 0, .int .u8 0, .int .u8 0, .int .u8 0, .int .u8 0, .int .u8 0, .int .u8 0, .int .u8 0] 205)
      simpa [Row, byV] using this
    have ab : Below w1.heap.size w1 w2 := by rw [← hw2]; exact (Below.refl _ _).alloc (Nat.le_refl _) _
    obtain ⟨w3, hcp, b3, o3⟩ := copy_row w2.drew w1.heap.size 205 16 _ rfl a2 u
    have hB3 : Below w1.heap.size w1 w3 := ab.drew.trans (o3.below (Nat.le_of_lt a2.lt))
    rw [show min u.size 16 = u.size by omega] at hcp b3
    rw [List.take_of_length_le (by omega)] at b3
    have b3' : Row w3 w1.heap.size 205 (byV (numsOf u ++ List.replicate (16 - u.size) 0)) := b3.congr (by rw [byV_append, byV_zeros, byV_zeros, List.drop_replicate])
    have hm : (numsOf u ++ List.replicate (16 - u.size) 0).length = 16 := by rw [List.length_append, List.length_replicate]; omega
    have HA := add_step key hk _ (numsOf u ++ List.replicate (16 - u.size) 0) _ 1 (by decide) hlp (by omega) (by omega) hm (hub.append (Bytes.zeros _)) (piece_full _ hm) B w1.heap.size _ w3 (hT1.below hB3 hT1.lt) b3'
    rw [hfin] at HA
    have HO : Hid (Only B w w3) := ho1.trans (Only.of_below hB3)
    clear b3 b3' a2 ab o3 hB3 hm hlp hfin hT1 ho1 hul hub hus
    go_wp2_with fail
    go_region_held3 (fun _ => True) (simp [go_sem, *]) (fail)
    go_wp2_with fail
    refine HA.mono ?_
    rintro e w4 ⟨rfl, hT4, ho4⟩
    clear HA hcp hw2
    go_wp2_with fail
    go_end0
    exact ⟨rfl, hT4, HO.out.trans ho4⟩

set_option maxRecDepth 10000 in
set_option maxHeartbeats 1000000 in
theorem takeLengths_any (key : List Nat) (hk : Bytes key) (B : Nat) (l : List Nat) (hl : l.length % 16 = 0) (m n : Nat) (hm : m < 1099511627776) (hn : n < 1099511627776) (w : World) (hT : TagIn w B key l) :
    Calls Tryz.prog 146 #[.pointer (some ⟨B, 0, none⟩), .int .i64 m, .int .i64 n] w fun e w' => e = .returned (.tuple #[]) ∧ TagIn w' B key (l ++ (leB 8 m ++ leB 8 n)) ∧ Only B w w' := by
  have v1 : IntKind.u64.wrap (m : Int) = m := by rw [IntKind.wrap_u64]; omega
  have v2 : IntKind.u64.wrap (n : Int) = n := by rw [IntKind.wrap_u64]; omega
  have hp := fun w => put_any m n w
  have hl16 : (leB 8 m ++ leB 8 n).length = 16 := by simp [leB]
  have hbb : Bytes (leB 8 m ++ leB 8 n) := Bytes.append (leB_bytes _ _) (leB_bytes _ _)
  have hA := fun w g hT hg => add_step key hk l (leB 8 m ++ leB 8 n) _ 1 (by decide) hl (by omega) (by omega) hl16 hbb (piece_full _ hl16) B g 205 w hT hg
  obtain ⟨ds, hds⟩ : ∃ ds, ds = (byV (leB 8 m ++ leB 8 n)).toArray := ⟨_, rfl⟩
  rw [← hds] at hp
  have hsz : ds.size = 16 := by rw [hds]; simp [byV, leB]
  have hone : ds.all (·.oneCell') = true := by rw [hds]; simp [byV, Value.oneCell']
  have hinfo : (Tryz.prog.info? 205).map (·.size) = some ds.size := by rw [hsz]; kernel_rfl
  have HDS : Hid (ds = (byV (leB 8 m ++ leB 8 n)).toArray) := hds
  have HT : Hid (TagIn w B key l) := hT
  clear hds hT
  go_enter Tryz.func146, Tryz.ntmps146
  go_wp2_with fail
  refine (hp _).mono ?_
  rintro e w1 ⟨rfl, hb1⟩
  clear hp
  go_wp2_with (refine wpList_store_row rfl 205 _ _ rfl w1.heap.size ds rfl rfl 205 _ (heap_alloc_new w1 _) hinfo (by rw [hsz]; rfl) hone ?_)
  rw [World.setRow_alloc_new]
  have k2 : Row (w1.alloc (.cells ds 205)) w1.heap.size 205 (byV (leB 8 m ++ leB 8 n)) := by rw [HDS.out]; exact heap_alloc_new w1 _
  have hb2 := hb1.alloc hb1.size (.cells ds 205)
  generalize w1.alloc (.cells ds 205) = w2 at *
  clear hone hinfo hsz HDS
  refine (hA w2 w1.heap.size (HT.out.below hb2 HT.out.lt) k2).mono ?_
  rintro e w3 ⟨rfl, hT3, ho3⟩
  have hO := (Only.of_below (b := B) hb2).trans ho3
  clear hA k2 hb2 ho3
  go_wp2_with fail
  go_end0
  exact ⟨rfl, hT3, hO⟩
end Go.Proofs.YtdhiopbomnfmnaaGreatDoor.Bx
