/- The document's vault: the place of a pair, and of a four. · The document's vault, the ideal one: Mac, Made, Seal, Open. · The document's real vault, over what the document's sum and box tell. · SHA-256 as functions of numbers: words, schedule, rounds, blocks, filling up; nothing of the program. -/
import Derived.Test.YtgokehbdappcdaaDoorMg22
import Derived.Test.YtgokehbdappcdaaDoorMg21
import Derived.Test.YtgokehbdappcdaaDoorProg
namespace Go.Proofs.YtgokehbdappcdaaDoor
set_option maxRecDepth 20000
open Go.RowKit

theorem marC_at {w : World} {v : Value} {l : List (ByteArray × ByteArray)} (h : w.ownsRow 0 165 2 v l.length (marC l)) {i : Nat} {x : ByteArray × ByteArray} (hx : l[i]? = some x) : ∃ g cap, v = .slice (some ⟨g, 0, none⟩) l.length cap ∧ w.cell? ⟨g, i * 2, none⟩ = some (.string x.1) ∧ w.cell? ⟨g, i * 2 + 1, none⟩ = some (.string x.2) := by
  have hi := (List.getElem?_eq_some_iff.1 hx).1
  obtain ⟨g, cap, rfl, _, hc⟩ := owns_form h (by omega)
  exact ⟨g, cap, rfl, hc _ _ (marC_get l i x hx 0 (by omega)), hc _ _ (marC_get l i x hx 1 (by omega))⟩
theorem fouC_at {w : World} {v : Value} {l : List Four} (h : w.ownsRow 0 167 4 v l.length (fouC l)) {i : Nat} {x : Four} (hx : l[i]? = some x) : ∃ g cap, v = .slice (some ⟨g, 0, none⟩) l.length cap ∧ w.cell? ⟨g, i * 4, none⟩ = some (.int .i64 x.salt) ∧ w.cell? ⟨g, i * 4 + 1, none⟩ = some (.string x.nonce) ∧ w.cell? ⟨g, i * 4 + 2, none⟩ = some (.string x.ad) ∧ w.cell? ⟨g, i * 4 + 3, none⟩ = some (.string x.text) := by
  have hi := (List.getElem?_eq_some_iff.1 hx).1
  obtain ⟨g, cap, rfl, _, hc⟩ := owns_form h (by omega)
  exact ⟨g, cap, rfl, hc _ _ (fouC_get l i x hx 0 (by omega)), hc _ _ (fouC_get l i x hx 1 (by omega)), hc _ _ (fouC_get l i x hx 2 (by omega)), hc _ _ (fouC_get l i x hx 3 (by omega))⟩
/-- How far a search goes: to the first place, or to the end; and what stands ahead. -/
theorem search {α : Type} [DecidableEq α] (l : List α) (x : α) : ∃ K : Nat, K ≤ l.length ∧ (∀ i, i < K → ∃ y, l[i]? = some y ∧ y ≠ x) ∧ ((K = l.length ∧ numOf l x = 0) ∨ (K < l.length ∧ l[K]? = some x ∧ numOf l x = K + 1)) := by
  by_cases h0 : numOf l x = 0
  · refine ⟨l.length, Nat.le_refl _, fun i hi => ⟨l[i], List.getElem?_eq_getElem hi, fun e => ?_⟩, .inl ⟨rfl, h0⟩⟩
    exact (numOf_zero.1 h0) (by rw [← e]; exact List.getElem_mem _)
  · obtain ⟨k, hk⟩ : ∃ k, numOf l x = k + 1 := ⟨numOf l x - 1, by omega⟩
    have hle := numOf_le x l
    refine ⟨k, by omega, fun i hi => ⟨l[i]'(by omega), List.getElem?_eq_getElem _, fun e => ?_⟩, .inr ⟨by omega, numOf_get hk, hk⟩⟩
    exact numOf_before hk i hi (by rw [List.getElem?_eq_getElem (by omega), e])

end Go.Proofs.YtgokehbdappcdaaDoor

namespace Go.Proofs.YtgokehbdappcdaaDoor
set_option maxRecDepth 20000
open Go.RowKit

theorem beq_dec3 (a b : ByteArray) : (a.toList == b.toList) = decide (a = b) := by
  by_cases e : a = b
  · subst e; simp
  · rw [str_ne e]; simp [e]
theorem info_pair : (Tryd.prog.info? 165).map (fun i => (i.zero, i.size, i.bytes)) = some (some (.agg #[.string ⟨#[]⟩, .string ⟨#[]⟩]), 2, 32) := by kernel_rfl
theorem info_four : (Tryd.prog.info? 167).map (fun i => (i.zero, i.size, i.bytes)) = some (some (.agg #[.int .i64 0, .string ⟨#[]⟩, .string ⟨#[]⟩, .string ⟨#[]⟩]), 4, 56) := by kernel_rfl

end Go.Proofs.YtgokehbdappcdaaDoor

namespace Go.Proofs.YtgokehbdappcdaaDoor
set_option maxRecDepth 20000
open Go.RowKit

def RefR (w : World) (B : Nat) (key : ByteArray) : Prop := Row w B 81 [.bool false, .string key, .slice none 0 0, .slice none 0 0, .slice none 0 0]
theorem RefR.keep {w w' : World} {B : Nat} {key : ByteArray} (h : RefR w B key) (hb : Below w.heap.size w w') : RefR w' B key := Row.below h hb (Row.lt h)
theorem wide6 (n : Nat) : wideS n 6 = putS n 6 := by
  unfold wideS
  apply ByteArray.ext
  simp [ByteArray.data_append, noughtsS, strOfNums]

section
variable {f : PF}
end
theorem rreal_no {pass salt X : ByteArray} {rounds c : Int} (w : World) (hc : ¬ c = 0) (hs : Calls Tryd.prog 34 #[.string pass, .string salt, .int .i64 rounds, .int .i64 32] w fun e w' => e = .returned (.tuple #[.string X, .int .i64 c]) ∧ Below w.heap.size w w') :
    Calls Tryd.prog 15 #[.string pass, .string salt, .int .i64 rounds] w fun e w' => e = .returned (.tuple #[.pointer none, .int .i64 c]) ∧ Below w.heap.size w w' := by
  have hc1 : (c != 0) = true := by simpa using hc
  have hc2 : (c == 0) = false := beq_false_of_ne hc
  clear hc
  go_enter Tryd.func15, Tryd.ntmps15
  go_wp2_with fail
  refine hs.mono ?_
  rintro e w1 ⟨rfl, hb⟩
  have HB : Hid _ := hb
  clear hs hb
  go_wp2
  go_ret2
  exact ⟨rfl, HB.out⟩
theorem rreal_yes {pass salt X : ByteArray} {rounds : Int} (w : World) (hs : Calls Tryd.prog 34 #[.string pass, .string salt, .int .i64 rounds, .int .i64 32] w fun e w' => e = .returned (.tuple #[.string X, .int .i64 0]) ∧ Below w.heap.size w w') :
    Calls Tryd.prog 15 #[.string pass, .string salt, .int .i64 rounds] w fun e w' => ∃ B, e = .returned (.tuple #[.pointer (some ⟨B, 0, none⟩), .int .i64 0]) ∧ RefR w' B X ∧ Below w.heap.size w w' := by
  go_enter Tryd.func15, Tryd.ntmps15
  go_wp2_with fail
  refine hs.mono ?_
  rintro e w1 ⟨rfl, hb⟩
  have HB : Hid _ := hb
  clear hs hb
  go_wp2
  go_ret2
  exact ⟨w1.heap.size, rfl, heap_alloc_new w1 _, HB.out.alloc HB.out.size _⟩
end Go.Proofs.YtgokehbdappcdaaDoor

namespace Go.Proofs.YtgokehbdappcdaaDoor.Sm
set_option maxRecDepth 20000

/-- A word turned to the right. -/
def rotr (x n : Nat) : Nat := (x / 2 ^ n ||| x * 2 ^ (32 - n)) % 4294967296
def ss0 (x : Nat) : Nat := rotr x 7 ^^^ rotr x 18 ^^^ x / 8
def ss1 (x : Nat) : Nat := rotr x 17 ^^^ rotr x 19 ^^^ x / 1024
def bs0 (x : Nat) : Nat := rotr x 2 ^^^ rotr x 13 ^^^ rotr x 22
def bs1 (x : Nat) : Nat := rotr x 6 ^^^ rotr x 11 ^^^ rotr x 25
def chf (e f g : Nat) : Nat := (e &&& f) ^^^ ((4294967295 - e) &&& g)
def maj (a b c : Nat) : Nat := (a &&& b) ^^^ (a &&& c) ^^^ (b &&& c)

/-- The 64 numbers k. -/
def keyL : List Nat := [
  0x428a2f98, 0x71374491, 0xb5c0fbcf, 0xe9b5dba5, 0x3956c25b, 0x59f111f1, 0x923f82a4, 0xab1c5ed5,
  0xd807aa98, 0x12835b01, 0x243185be, 0x550c7dc3, 0x72be5d74, 0x80deb1fe, 0x9bdc06a7, 0xc19bf174,
  0xe49b69c1, 0xefbe4786, 0x0fc19dc6, 0x240ca1cc, 0x2de92c6f, 0x4a7484aa, 0x5cb0a9dc, 0x76f988da,
  0x983e5152, 0xa831c66d, 0xb00327c8, 0xbf597fc7, 0xc6e00bf3, 0xd5a79147, 0x06ca6351, 0x14292967,
  0x27b70a85, 0x2e1b2138, 0x4d2c6dfc, 0x53380d13, 0x650a7354, 0x766a0abb, 0x81c2c92e, 0x92722c85,
  0xa2bfe8a1, 0xa81a664b, 0xc24b8b70, 0xc76c51a3, 0xd192e819, 0xd6990624, 0xf40e3585, 0x106aa070,
  0x19a4c116, 0x1e376c08, 0x2748774c, 0x34b0bcb5, 0x391c0cb3, 0x4ed8aa4a, 0x5b9cca4f, 0x682e6ff3,
  0x748f82ee, 0x78a5636f, 0x84c87814, 0x8cc70208, 0x90befffa, 0xa4506ceb, 0xbef9a3f7, 0xc67178f2]
def keyN (i : Nat) : Nat := keyL.getD i 0

/-- Word i of a block's bytes. -/
def wordN (b : List Nat) (i : Nat) : Nat := b.getD (4 * i) 0 * 16777216 + b.getD (4 * i + 1) 0 * 65536 + b.getD (4 * i + 2) 0 * 256 + b.getD (4 * i + 3) 0
/-- The word that follows on words. -/
def nextW (l : List Nat) : Nat := (l.getD (l.length - 16) 0 + ss0 (l.getD (l.length - 15) 0) + l.getD (l.length - 7) 0 + ss1 (l.getD (l.length - 2) 0)) % 4294967296
/-- A block's first words, n of them, n at most 16; and those that grow out of them. -/
def words16 (b : List Nat) : Nat → List Nat
  | 0 => []
  | n + 1 => words16 b n ++ [wordN b n]
def grow (l : List Nat) : Nat → List Nat
  | 0 => l
  | n + 1 => grow l n ++ [nextW (grow l n)]
def schedL (b : List Nat) : List Nat := grow (words16 b 16) 48
def schedN (b : List Nat) (i : Nat) : Nat := (schedL b).getD i 0

/-- The eight words. -/
structure St where
  (a b c d e f g h : Nat)
def tN (k w : Nat) (s : St) : Nat := s.h + bs1 s.e + chf s.e s.f s.g + k + w
def uN (s : St) : Nat := bs0 s.a + maj s.a s.b s.c
def rnd (k w : Nat) (s : St) : St := ⟨(tN k w s + uN s) % 4294967296, s.a, s.b, s.c, (s.d + tN k w s) % 4294967296, s.e, s.f, s.g⟩
def rnds (ws : List Nat) (s : St) : Nat → St
  | 0 => s
  | n + 1 => rnd (keyN n) (ws.getD n 0) (rnds ws s n)
def addSt (s t : St) : St := ⟨(s.a + t.a) % 4294967296, (s.b + t.b) % 4294967296, (s.c + t.c) % 4294967296, (s.d + t.d) % 4294967296, (s.e + t.e) % 4294967296, (s.f + t.f) % 4294967296, (s.g + t.g) % 4294967296, (s.h + t.h) % 4294967296⟩
/-- The state behind a block. -/
def comp (s : St) (b : List Nat) : St := addSt s (rnds (schedL b) s 64)
def st0 : St := ⟨0x6a09e667, 0xbb67ae85, 0x3c6ef372, 0xa54ff53a, 0x510e527f, 0x9b05688c, 0x1f83d9ab, 0x5be0cd19⟩
/-- The state behind the first n blocks of bytes. -/
def absorb (l : List Nat) : Nat → St
  | 0 => st0
  | n + 1 => comp (absorb l n) ((l.drop (64 * n)).take 64)
/-- A number's bytes, the highest first. -/
def be4 (n : Nat) : List Nat := [n / 16777216 % 256, n / 65536 % 256, n / 256 % 256, n % 256]
def be8 (n : Nat) : List Nat := be4 (n / 4294967296) ++ be4 n
/-- How many bytes 0 lack. -/
def lack (n : Nat) : Nat := (119 - n % 64) % 64
def fillL (l : List Nat) : List Nat := l ++ 128 :: List.replicate (lack l.length) 0 ++ be8 (8 * l.length)
def outL (s : St) : List Nat := be4 s.a ++ be4 s.b ++ be4 s.c ++ be4 s.d ++ be4 s.e ++ be4 s.f ++ be4 s.g ++ be4 s.h
/-- The sum of bytes, as bytes. -/
def shaL (l : List Nat) : List Nat := outL (absorb (fillL l) ((fillL l).length / 64))

set_option maxRecDepth 100000 in
theorem sha_abc : shaL [97, 98, 99] = [186, 120, 22, 191, 143, 1, 207, 234, 65, 65, 64, 222, 93, 174, 34, 35, 176, 3, 97, 163, 150, 23, 122, 156, 180, 16, 255, 97, 242, 0, 21, 173] := by
  decide +kernel
end Go.Proofs.YtgokehbdappcdaaDoor.Sm
