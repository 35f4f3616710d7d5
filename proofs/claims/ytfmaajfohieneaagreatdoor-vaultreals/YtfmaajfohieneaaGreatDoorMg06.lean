/- The vault's calls, the real one behind them: what each tells; nothing that was there is changed. · The laws' cut: a text, or its first bytes. · The law VaultOpens, over what sum and box tell: called with any pass phrase, salt and texts, it returns true, and changes nothing that was there. · SHA-256 as functions of numbers: words, schedule, rounds, blocks, filling up; nothing of the program. -/
import Derived.Test.YtfmaajfohieneaaGreatDoorMg05
import Derived.Test.YtfmaajfohieneaaGreatDoorProg
namespace Go.Proofs.YtfmaajfohieneaaGreatDoor
set_option maxRecDepth 20000
open Go.RowKit

section
variable {Tab : World → Prop} {f : PF}
theorem khash_any (P : Prims Tab f) (N : Nat) (s : ByteArray) (hs : s.size ≤ 1048576) (w : World) (ht : Tab w) :
    Calls Tryz.prog 90 #[.pointer (some ⟨N, 0, none⟩), .string s] w fun e w' => e = .returned (.string (f.sum s)) ∧ Below w.heap.size w w' := by
  have h := P.sum s hs w ht
  generalize f.sum s = x at *
  clear P ht hs
  go_enter Tryz.func90, Tryz.ntmps90
  go_wp2_with fail
  refine h.mono ?_
  rintro e w1 ⟨rfl, hb⟩
  clear h
  go_wp2
  go_ret
  exact ⟨rfl, hb⟩
theorem rvhash_any (P : Prims Tab f) (B : Nat) (key s : ByteArray) (hs : s.size ≤ 1048576) (w : World) (ht : Tab w) (hp : RealV w B key) :
    Calls Tryz.prog 12 #[.pointer (some ⟨B, 0, none⟩), .string s] w fun e w' => e = .returned (.string (f.sum s)) ∧ Below w.heap.size w w' := by
  obtain ⟨N, r1, r2⟩ := hp
  have c0 : w.cell? ⟨B, 0, none⟩ = some (.iface 38 (.pointer (some ⟨N, 0, none⟩))) := r1.cell 0
  have cN : w.cell? ⟨N, 0, none⟩ = some (.string key) := r2.cell 0
  have hg := given_any B _ _ w c0
  have hn := khash_any P N s hs w ht
  have hm : ∀ w : World, (method 298 38 (.pointer (some ⟨N, 0, none⟩)) "grapnel/vault.hash").run Tryz.prog w = .ok (90, .pointer (some ⟨N, 0, none⟩)) w := fun _ => by kernel_rfl
  generalize f.sum s = u at *
  clear P ht hs r1 r2 cN
  go_enter Tryz.func12, Tryz.ntmps12
  go_wp2_with fail
  refine hg.mono ?_
  rintro e w1 ⟨rfl, rfl⟩
  clear hg
  go_wp2_with fail
  refine hn.mono ?_
  rintro e w2 ⟨rfl, h1⟩
  have HF : Hid _ := h1
  clear h1 hn
  go_wp2
  go_ret
  exact ⟨rfl, HF.out⟩
theorem rvmac_any (P : Prims Tab f) (B : Nat) (key l s : ByteArray) (hk : key.size ≤ 1048576) (hl : l.size ≤ 1048000) (hs : s.size ≤ 1048576) (w : World) (ht : Tab w) (hp : RealV w B key) :
    Calls Tryz.prog 14 #[.pointer (some ⟨B, 0, none⟩), .string l, .string s] w fun e w' => e = .returned (.string (macR f key l s)) ∧ Below w.heap.size w w' := by
  obtain ⟨N, r1, r2⟩ := hp
  have c0 : w.cell? ⟨B, 0, none⟩ = some (.iface 38 (.pointer (some ⟨N, 0, none⟩))) := r1.cell 0
  have cN : w.cell? ⟨N, 0, none⟩ = some (.string key) := r2.cell 0
  have hg := given_any B _ _ w c0
  have hn := kmac_any P N key l s hk hl hs w ht cN
  have hm : ∀ w : World, (method 298 38 (.pointer (some ⟨N, 0, none⟩)) "grapnel/vault.mac").run Tryz.prog w = .ok (91, .pointer (some ⟨N, 0, none⟩)) w := fun _ => by kernel_rfl
  generalize macR f key l s = u at *
  clear P ht hk hl hs r1 r2 cN
  go_enter Tryz.func14, Tryz.ntmps14
  go_wp2_with fail
  refine hg.mono ?_
  rintro e w1 ⟨rfl, rfl⟩
  clear hg
  go_wp2_with fail
  refine hn.mono ?_
  rintro e w2 ⟨rfl, h1⟩
  have HF : Hid _ := h1
  clear h1 hn
  go_wp2
  go_ret
  exact ⟨rfl, HF.out⟩
theorem rvmade_any (P : Prims Tab f) (B : Nat) (key l s tag : ByteArray) (hk : key.size ≤ 1048576) (hl : l.size ≤ 1048000) (hs : s.size ≤ 1048576) (htg : tag.size ≤ maxLen) (w : World) (ht : Tab w) (hp : RealV w B key) :
    Calls Tryz.prog 16 #[.pointer (some ⟨B, 0, none⟩), .string l, .string s, .string tag] w fun e w' => e = .returned (.bool (decide (tag = macR f key l s))) ∧ Below w.heap.size w w' := by
  obtain ⟨N, r1, r2⟩ := hp
  have c0 : w.cell? ⟨B, 0, none⟩ = some (.iface 38 (.pointer (some ⟨N, 0, none⟩))) := r1.cell 0
  have cN : w.cell? ⟨N, 0, none⟩ = some (.string key) := r2.cell 0
  have hg := given_any B _ _ w c0
  have hn := kmade_any P N key l s tag hk hl hs htg w ht cN
  have hm : ∀ w : World, (method 298 38 (.pointer (some ⟨N, 0, none⟩)) "grapnel/vault.made").run Tryz.prog w = .ok (92, .pointer (some ⟨N, 0, none⟩)) w := fun _ => by kernel_rfl
  generalize decide (tag = macR f key l s) = u at *
  clear P ht hk hl hs htg r1 r2 cN
  go_enter Tryz.func16, Tryz.ntmps16
  go_wp2_with fail
  refine hg.mono ?_
  rintro e w1 ⟨rfl, rfl⟩
  clear hg
  go_wp2_with fail
  refine hn.mono ?_
  rintro e w2 ⟨rfl, h1⟩
  have HF : Hid _ := h1
  clear h1 hn
  go_wp2
  go_ret
  exact ⟨rfl, HF.out⟩
set_option maxHeartbeats 1000000 in
theorem rvseal_any (P : Prims Tab f) (B : Nat) (key : ByteArray) (z : Int) (n a s : ByteArray) (hk : key.size ≤ 1048576) (hA : a.size ≤ 1048576) (hs : s.size ≤ 1048576) (w : World) (ht : Tab w) (hp : RealV w B key) :
    Calls Tryz.prog 18 #[.pointer (some ⟨B, 0, none⟩), .int .i64 z, .string n, .string a, .string s] w fun e w' => e = .returned (.tuple #[.string (sealRS f key z n a s), .int .i64 (sealRE f key z n)]) ∧ Below w.heap.size w w' := by
  obtain ⟨N, r1, r2⟩ := hp
  have c0 : w.cell? ⟨B, 0, none⟩ = some (.iface 38 (.pointer (some ⟨N, 0, none⟩))) := r1.cell 0
  have cN : w.cell? ⟨N, 0, none⟩ = some (.string key) := r2.cell 0
  have hg := given_any B _ _ w c0
  have hf := fit_any z n w
  unfold sealRS sealRE
  rw [show decide (0 ≤ z ∧ z ≤ 281474976710655 ∧ n.size = 12) = fitB z n from rfl] at hf
  cases hb : fitB z n <;> rw [hb] at hf
  · simp only [Bool.false_eq_true, if_false]
    clear P ht hk hA hs r1 r2 cN
    go_enter Tryz.func18, Tryz.ntmps18
    go_wp2_with fail
    refine hg.mono ?_
    rintro e w1 ⟨rfl, rfl⟩
    clear hg
    go_wp2_with fail
    refine hf.mono ?_
    rintro e w3 ⟨rfl, rfl⟩
    clear hf
    go_wp2
    go_ret2
    exact ⟨rfl, Below.refl _ _⟩
  · simp only [if_true]
    obtain ⟨m, rfl⟩ : ∃ m : Nat, z = m := ⟨z.toNat, by have := of_decide_eq_true hb; omega⟩
    have hn := kseal_any P N key m n a s hk hA hs w ht cN
    have hm : ∀ w : World, (method 298 38 (.pointer (some ⟨N, 0, none⟩)) "grapnel/vault.seal").run Tryz.prog w = .ok (94, .pointer (some ⟨N, 0, none⟩)) w := fun _ => by kernel_rfl
    generalize f.shut (sealK f key m) n a s = u at *
    generalize f.shutX (sealK f key m) n = v at *
    clear P ht hk hA hs r1 r2 cN hb
    go_enter Tryz.func18, Tryz.ntmps18
    go_wp2_with fail
    refine hg.mono ?_
    rintro e w1 ⟨rfl, rfl⟩
    clear hg
    go_wp2_with fail
    refine hf.mono ?_
    rintro e w3 ⟨rfl, rfl⟩
    clear hf
    go_wp2_with fail
    refine hn.mono ?_
    rintro e w2 ⟨rfl, h1⟩
    have HF : Hid _ := h1
    clear h1 hn
    go_wp2
    go_ret2
    exact ⟨rfl, HF.out⟩
set_option maxHeartbeats 1000000 in
theorem rvopen_any (P : Prims Tab f) (B : Nat) (key : ByteArray) (z : Int) (n a s : ByteArray) (hk : key.size ≤ 1048576) (hA : a.size ≤ 1048576) (hs : s.size ≤ 1048576) (w : World) (ht : Tab w) (hp : RealV w B key) :
    Calls Tryz.prog 20 #[.pointer (some ⟨B, 0, none⟩), .int .i64 z, .string n, .string a, .string s] w fun e w' => e = .returned (.tuple #[.string (openRS f key z n a s), .int .i64 (openRE f key z n a s)]) ∧ Below w.heap.size w w' := by
  obtain ⟨N, r1, r2⟩ := hp
  have c0 : w.cell? ⟨B, 0, none⟩ = some (.iface 38 (.pointer (some ⟨N, 0, none⟩))) := r1.cell 0
  have cN : w.cell? ⟨N, 0, none⟩ = some (.string key) := r2.cell 0
  have hg := given_any B _ _ w c0
  have hf := fit_any z n w
  unfold openRS openRE
  rw [show decide (0 ≤ z ∧ z ≤ 281474976710655 ∧ n.size = 12) = fitB z n from rfl] at hf
  cases hb : fitB z n <;> rw [hb] at hf
  · simp only [Bool.false_eq_true, if_false]
    clear P ht hk hA hs r1 r2 cN
    go_enter Tryz.func20, Tryz.ntmps20
    go_wp2_with fail
    refine hg.mono ?_
    rintro e w1 ⟨rfl, rfl⟩
    clear hg
    go_wp2_with fail
    refine hf.mono ?_
    rintro e w3 ⟨rfl, rfl⟩
    clear hf
    go_wp2
    go_ret2
    exact ⟨rfl, Below.refl _ _⟩
  simp only [if_true]
  by_cases h16 : s.size < 16
  · have h16' : (s.size : Int) < 16 := by omega
    simp only [h16, if_true]
    clear P ht hk hA hs r1 r2 cN
    go_enter Tryz.func20, Tryz.ntmps20
    go_wp2_with fail
    refine hg.mono ?_
    rintro e w1 ⟨rfl, rfl⟩
    clear hg
    go_wp2_with fail
    refine hf.mono ?_
    rintro e w3 ⟨rfl, rfl⟩
    clear hf
    go_wp2
    go_ret2
    exact ⟨rfl, Below.refl _ _⟩
  · have h16' : ¬ (s.size : Int) < 16 := by omega
    simp only [h16, if_false]
    obtain ⟨m, rfl⟩ : ∃ m : Nat, z = m := ⟨z.toNat, by have := of_decide_eq_true hb; omega⟩
    have hn := kopen_any P N key m n a s hk hA hs w ht cN
    have hm : ∀ w : World, (method 298 38 (.pointer (some ⟨N, 0, none⟩)) "grapnel/vault.open").run Tryz.prog w = .ok (93, .pointer (some ⟨N, 0, none⟩)) w := fun _ => by kernel_rfl
    generalize f.opn (sealK f key m) n a s = u at *
    generalize f.opnX (sealK f key m) n a s = v at *
    clear P ht hk hA hs r1 r2 cN hb h16
    go_enter Tryz.func20, Tryz.ntmps20
    go_wp2_with fail
    refine hg.mono ?_
    rintro e w1 ⟨rfl, rfl⟩
    clear hg
    go_wp2_with fail
    refine hf.mono ?_
    rintro e w3 ⟨rfl, rfl⟩
    clear hf
    go_wp2_with fail
    refine hn.mono ?_
    rintro e w2 ⟨rfl, h1⟩
    have HF : Hid _ := h1
    clear h1 hn
    go_wp2
    go_ret2
    exact ⟨rfl, HF.out⟩
end
/-- A new real vault, or Stretch's error. -/
theorem real_no {pass salt X : ByteArray} {rounds c : Int} (w : World) (hc : ¬ c = 0) (hs : Calls Tryz.prog 9 #[.string pass, .string salt, .int .i64 rounds, .int .i64 32] w fun e w' => e = .returned (.tuple #[.string X, .int .i64 c]) ∧ Below w.heap.size w w') :
    Calls Tryz.prog 5 #[.string pass, .string salt, .int .i64 rounds] w fun e w' => e = .returned (.tuple #[.pointer none, .int .i64 c]) ∧ Below w.heap.size w w' := by
  have hc1 : (c != 0) = true := by simpa using hc
  have hc2 : (c == 0) = false := beq_false_of_ne hc
  clear hc
  go_enter Tryz.func5, Tryz.ntmps5
  go_wp2_with fail
  refine hs.mono ?_
  rintro e w1 ⟨rfl, hb⟩
  have HB : Hid _ := hb
  clear hs hb
  go_wp2
  go_ret2
  exact ⟨rfl, HB.out⟩
theorem real_yes {pass salt X : ByteArray} {rounds : Int} (w : World) (hs : Calls Tryz.prog 9 #[.string pass, .string salt, .int .i64 rounds, .int .i64 32] w fun e w' => e = .returned (.tuple #[.string X, .int .i64 0]) ∧ Below w.heap.size w w') :
    Calls Tryz.prog 5 #[.string pass, .string salt, .int .i64 rounds] w fun e w' => ∃ B, e = .returned (.tuple #[.pointer (some ⟨B, 0, none⟩), .int .i64 0]) ∧ RealV w' B X ∧ Below w.heap.size w w' := by
  go_enter Tryz.func5, Tryz.ntmps5
  go_wp2_with fail
  refine hs.mono ?_
  rintro e w1 ⟨rfl, hb⟩
  have HB : Hid _ := hb
  clear hs hb
  go_wp2
  go_ret2
  obtain ⟨r0, r1, rB⟩ := two_new (w := w1) (w1 := (w1.alloc (.cells #[.string X] 40)).alloc (.cells #[.iface 38 (.pointer (some ⟨w1.heap.size, 0, none⟩))] 44)) (Below.refl _ _)
  exact ⟨w1.heap.size + 1, rfl, ⟨w1.heap.size, r1, r0⟩, HB.out.trans (rB.mono HB.out.size)⟩
end Go.Proofs.YtfmaajfohieneaaGreatDoor

namespace Go.Proofs.YtfmaajfohieneaaGreatDoor
set_option maxRecDepth 20000
open Go.RowKit

def cutV (s : ByteArray) (n : Nat) : ByteArray := if n < s.size then s.extract 0 n else s
theorem cutV_size (s : ByteArray) (n : Nat) : (cutV s n).size ≤ n := by
  unfold cutV
  split
  · simp; omega
  · omega
theorem cutv_z (s : ByteArray) (n : Nat) (z : Int) (hz : z = (n : Int)) (w : World) :
    Calls Tryz.prog 4 #[.string s, .int .i64 z] w fun e w' => e = .returned (.string (cutV s n)) ∧ w' = w := by
  subst hz
  by_cases h : n < s.size
  · have HC : Hid (cutV s n = s.extract 0 n) := if_pos h
    have h1 : (n : Int) < s.size := by omega
    have h2 : (n : Int) ≤ s.size := by omega
    go_enter Tryz.func4, Tryz.ntmps4
    go_wp2
    go_ret
    exact ⟨by rw [HC.out]; rfl, rfl⟩
  · have HC : Hid (cutV s n = s) := if_neg h
    have h1 : ¬ (n : Int) < s.size := by omega
    go_enter Tryz.func4, Tryz.ntmps4
    go_wp2
    go_ret
    exact ⟨by rw [HC.out]; rfl, rfl⟩
/-- The cut as the walk meets it. -/
def cutI (s : ByteArray) (z : Int) : ByteArray := cutV s z.toNat
theorem cutI_any (s : ByteArray) (z : Int) (hz : 0 ≤ z) (w : World) :
    Calls Tryz.prog 4 #[.string s, .int .i64 z] w fun e w' => e = .returned (.string (cutI s z)) ∧ w' = w := cutv_z s z.toNat z (by omega) w
theorem cutI_size (s : ByteArray) (n : Nat) : (cutI s n).size ≤ n := cutV_size s n
end Go.Proofs.YtfmaajfohieneaaGreatDoor

namespace Go.Proofs.YtfmaajfohieneaaGreatDoor
set_option maxRecDepth 20000
open Go.RowKit

structure Backs (f : PF) : Prop where
  back : ∀ k n a s : ByteArray, k.size = 32 → n.size = 12 → a.size ≤ 1048576 → s.size ≤ 1048000 → f.shutX k n = 0 ∧ f.opnX k n a (f.shut k n a s) = 0 ∧ f.opn k n a (f.shut k n a s) = s ∧ 16 ≤ (f.shut k n a s).size ∧ (f.shut k n a s).size ≤ 1048576
theorem beq_dec4 (a b : ByteArray) : (a.toList == b.toList) = decide (a = b) := by
  by_cases e : a = b
  · subst e; simp
  · rw [str_ne e]; simp [e]

end Go.Proofs.YtfmaajfohieneaaGreatDoor

namespace Go.Proofs.YtfmaajfohieneaaGreatDoor.Sm
set_option maxRecDepth 20000

/-- A word turned to the right. -/
def rotr (x n : Nat) : Nat := (x / 2 ^ n ||| x * 2 ^ (32 - n)) % 4294967296
def ss0 (x : Nat) : Nat := rotr x 7 ^^^ rotr x 18 ^^^ x / 8
def ss1 (x : Nat) : Nat := rotr x 17 ^^^ rotr x 19 ^^^ x / 1024
def bs0 (x : Nat) : Nat := rotr x 2 ^^^ rotr x 13 ^^^ rotr x 22
def bs1 (x : Nat) : Nat := rotr x 6 ^^^ rotr x 11 ^^^ rotr x 25
def chf (e f g : Nat) : Nat := (e &&& f) ^^^ ((4294967295 - e) &&& g)
def maj (a b c : Nat) : Nat := (a &&& b) ^^^ (a &&& c) ^^^ (b &&& c)

/-- The 64 numbers k. -/
def keyL : List Nat := [
  0x428a2f98, 0x71374491, 0xb5c0fbcf, 0xe9b5dba5, 0x3956c25b, 0x59f111f1, 0x923f82a4, 0xab1c5ed5,
  0xd807aa98, 0x12835b01, 0x243185be, 0x550c7dc3, 0x72be5d74, 0x80deb1fe, 0x9bdc06a7, 0xc19bf174,
  0xe49b69c1, 0xefbe4786, 0x0fc19dc6, 0x240ca1cc, 0x2de92c6f, 0x4a7484aa, 0x5cb0a9dc, 0x76f988da,
  0x983e5152, 0xa831c66d, 0xb00327c8, 0xbf597fc7, 0xc6e00bf3, 0xd5a79147, 0x06ca6351, 0x14292967,
  0x27b70a85, 0x2e1b2138, 0x4d2c6dfc, 0x53380d13, 0x650a7354, 0x766a0abb, 0x81c2c92e, 0x92722c85,
  0xa2bfe8a1, 0xa81a664b, 0xc24b8b70, 0xc76c51a3, 0xd192e819, 0xd6990624, 0xf40e3585, 0x106aa070,
  0x19a4c116, 0x1e376c08, 0x2748774c, 0x34b0bcb5, 0x391c0cb3, 0x4ed8aa4a, 0x5b9cca4f, 0x682e6ff3,
  0x748f82ee, 0x78a5636f, 0x84c87814, 0x8cc70208, 0x90befffa, 0xa4506ceb, 0xbef9a3f7, 0xc67178f2]
def keyN (i : Nat) : Nat := keyL.getD i 0

/-- Word i of a block's bytes. -/
def wordN (b : List Nat) (i : Nat) : Nat := b.getD (4 * i) 0 * 16777216 + b.getD (4 * i + 1) 0 * 65536 + b.getD (4 * i + 2) 0 * 256 + b.getD (4 * i + 3) 0
/-- The word that follows on words. -/
def nextW (l : List Nat) : Nat := (l.getD (l.length - 16) 0 + ss0 (l.getD (l.length - 15) 0) + l.getD (l.length - 7) 0 + ss1 (l.getD (l.length - 2) 0)) % 4294967296
/-- A block's first words, n of them, n at most 16; and those that grow out of them. -/
def words16 (b : List Nat) : Nat → List Nat
  | 0 => []
  | n + 1 => words16 b n ++ [wordN b n]
def grow (l : List Nat) : Nat → List Nat
  | 0 => l
  | n + 1 => grow l n ++ [nextW (grow l n)]
def schedL (b : List Nat) : List Nat := grow (words16 b 16) 48
def schedN (b : List Nat) (i : Nat) : Nat := (schedL b).getD i 0

/-- The eight words. -/
structure St where
  (a b c d e f g h : Nat)
def tN (k w : Nat) (s : St) : Nat := s.h + bs1 s.e + chf s.e s.f s.g + k + w
def uN (s : St) : Nat := bs0 s.a + maj s.a s.b s.c
def rnd (k w : Nat) (s : St) : St := ⟨(tN k w s + uN s) % 4294967296, s.a, s.b, s.c, (s.d + tN k w s) % 4294967296, s.e, s.f, s.g⟩
def rnds (ws : List Nat) (s : St) : Nat → St
  | 0 => s
  | n + 1 => rnd (keyN n) (ws.getD n 0) (rnds ws s n)
def addSt (s t : St) : St := ⟨(s.a + t.a) % 4294967296, (s.b + t.b) % 4294967296, (s.c + t.c) % 4294967296, (s.d + t.d) % 4294967296, (s.e + t.e) % 4294967296, (s.f + t.f) % 4294967296, (s.g + t.g) % 4294967296, (s.h + t.h) % 4294967296⟩
/-- The state behind a block. -/
def comp (s : St) (b : List Nat) : St := addSt s (rnds (schedL b) s 64)
def st0 : St := ⟨0x6a09e667, 0xbb67ae85, 0x3c6ef372, 0xa54ff53a, 0x510e527f, 0x9b05688c, 0x1f83d9ab, 0x5be0cd19⟩
/-- The state behind the first n blocks of bytes. -/
def absorb (l : List Nat) : Nat → St
  | 0 => st0
  | n + 1 => comp (absorb l n) ((l.drop (64 * n)).take 64)
/-- A number's bytes, the highest first. -/
def be4 (n : Nat) : List Nat := [n / 16777216 % 256, n / 65536 % 256, n / 256 % 256, n % 256]
def be8 (n : Nat) : List Nat := be4 (n / 4294967296) ++ be4 n
/-- How many bytes 0 lack. -/
def lack (n : Nat) : Nat := (119 - n % 64) % 64
def fillL (l : List Nat) : List Nat := l ++ 128 :: List.replicate (lack l.length) 0 ++ be8 (8 * l.length)
def outL (s : St) : List Nat := be4 s.a ++ be4 s.b ++ be4 s.c ++ be4 s.d ++ be4 s.e ++ be4 s.f ++ be4 s.g ++ be4 s.h
/-- The sum of bytes, as bytes. -/
def shaL (l : List Nat) : List Nat := outL (absorb (fillL l) ((fillL l).length / 64))

set_option maxRecDepth 100000 in
theorem sha_abc : shaL [97, 98, 99] = [186, 120, 22, 191, 143, 1, 207, 234, 65, 65, 64, 222, 93, 174, 34, 35, 176, 3, 97, 163, 150, 23, 122, 156, 180, 16, 255, 97, 242, 0, 21, 173] := by
  decide +kernel
end Go.Proofs.YtfmaajfohieneaaGreatDoor.Sm
