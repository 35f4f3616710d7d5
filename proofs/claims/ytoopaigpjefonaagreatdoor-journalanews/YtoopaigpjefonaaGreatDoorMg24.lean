/- What Format writes has room; what the document's Format ends with; arithmetic, nothing of the program's calls. · The real vault in plain words, over what sum and box tell: how it lies in memory, and each of its calls. · The vault's calls, the real one behind them: what each tells; nothing that was there is changed. · The document's vault, the ideal one: how it lies in memory; the same plain words as of vault's. -/
import Derived.Test.YtoopaigpjefonaaGreatDoorMg19
import Derived.Test.YtoopaigpjefonaaGreatDoorMg21
import Derived.Test.YtoopaigpjefonaaGreatDoorMg04
import Derived.Test.YtoopaigpjefonaaGreatDoorMg03
import Derived.Deep.AppendLies
namespace Go.Proofs.YtoopaigpjefonaaGreatDoor
set_option maxRecDepth 20000
open Go.RowKit

theorem live_room {n : Nat} (h : loE (n : Int) = 0) : 784 ≤ n := by
  unfold loE at h
  cases hl : liveO (n : Int) with
  | none => rw [hl] at h; exact absurd h (by decide)
  | some m =>
    obtain ⟨h1, h2, h3⟩ := liveO_some hl
    have h4 : totI 48 ≤ totI m := by
      rcases Nat.lt_or_ge 48 m with h5 | h5
      · exact Int.le_of_lt (totI_lt h5)
      · have : m = 48 := by omega
        rw [this]
        exact Int.le_refl _
    have h5 : totI 48 = 98 := by decide
    omega
theorem fm_fits {K : VK} (HK : VKOk K) {P : PS} {S : K.σ} {s : Sp} (hr : K.room S 1) (hf : fmOk P s = true) (he : s.err = 0) (hs : supE s = 0) : ∀ l, l ∈ fmL K S s → ∀ x, x ∈ l → FitW P.kept.length x := by
  have h1 := live_room (of_decide_eq_true hf).1
  obtain ⟨a0, a1⟩ := supA_01 s hs he
  have hz := supR_size HK hr hs
  intro l hl x hx
  unfold fmL at hl
  simp only [List.mem_cons, List.not_mem_nil, or_false] at hl
  rcases hl with rfl | rfl
  · simp only [List.mem_cons, List.not_mem_nil, or_false] at hx
    rcases hx with rfl | rfl
    · exact ⟨⟨(1 - supA s).toNat, by show 1 - supA s = _; omega, by omega⟩, fillS_size _ _⟩
    · exact ⟨⟨2, rfl, by omega⟩, fillS_size _ _⟩
  · rw [List.mem_singleton] at hx
    subst hx
    exact ⟨⟨(supA s).toNat, by show supA s = _; omega, by omega⟩, hz⟩
/-- The document's Format, step by step, is the program's. -/
theorem fm_ended {K : VK} (HK : VKOk K) {P : PS} {S : K.σ} {s : Sp} (hr : K.room S 1) (hf : fmOk P s = true) (he : s.err = 0) (hs : supE s = 0) : (if (rfolB (fmL K S s) true P).1 = true then (0 : Int) else 20) = fmE K P S s ∧ (rfolB (fmL K S s) true P).2 = fmP K P S s := by
  constructor
  · rw [ended_ans _ _ (fm_fits HK hr hf he hs)]
    unfold fmE
    rw [if_pos hf, if_pos he, if_pos hs]
  · rw [rfol_on]
    unfold fmP
    rw [if_pos hf, if_pos he, if_pos hs]
end Go.Proofs.YtoopaigpjefonaaGreatDoor

namespace Go.Proofs.YtoopaigpjefonaaGreatDoor
set_option maxRecDepth 20000
open Go.RowKit

/-- What sum and box tell. -/
structure PF where
  sum : ByteArray → ByteArray
  mac : ByteArray → ByteArray → ByteArray
  exp : ByteArray → ByteArray → ByteArray
  shut : ByteArray → ByteArray → ByteArray → ByteArray → ByteArray
  shutX : ByteArray → ByteArray → Int
  opn : ByteArray → ByteArray → ByteArray → ByteArray → ByteArray
  opnX : ByteArray → ByteArray → ByteArray → ByteArray → Int
structure Prims (Tab : World → Prop) (f : PF) : Prop where
  tab : ∀ {w w' : World}, Tab w → Below w.heap.size w w' → Tab w'
  sum : ∀ s : ByteArray, s.size ≤ 1048576 → ∀ w, Tab w → Calls Tryz.prog 124 #[.string s] w fun e w' => e = .returned (.string (f.sum s)) ∧ Below w.heap.size w w'
  macz : ∀ k s, (f.mac k s).size = 32
  exp : ∀ k i : ByteArray, k.size ≤ 1048576 → i.size ≤ 1048576 → ∀ w, Tab w → Calls Tryz.prog 266 #[.string k, .string i, .int .i64 32] w fun e w' => e = .returned (.tuple #[.string (f.exp k i), .int .i64 0]) ∧ Below w.heap.size w w'
  expz : ∀ k i, (f.exp k i).size = 32
  shut : ∀ k n a s : ByteArray, a.size ≤ 1048576 → s.size ≤ 1048576 → ∀ w, Calls Tryz.prog 251 #[.string k, .string n, .string a, .string s] w fun e w' => e = .returned (.tuple #[.string (f.shut k n a s), .int .i64 (f.shutX k n)]) ∧ Below w.heap.size w w'
  opn : ∀ k n a s : ByteArray, a.size ≤ 1048576 → s.size ≤ 1048576 → ∀ w, Calls Tryz.prog 249 #[.string k, .string n, .string a, .string s] w fun e w' => e = .returned (.tuple #[.string (f.opn k n a s), .int .i64 (f.opnX k n a s)]) ∧ Below w.heap.size w w'
  same : ∀ a b : ByteArray, a.size ≤ maxLen → ∀ w, Calls Tryz.prog 254 #[.string a, .string b] w fun e w' => e = .returned (.bool (decide (a = b))) ∧ Below w.heap.size w w'

/-- A real vault in block B, its master key. -/
def RealV (w : World) (B : Nat) (key : ByteArray) : Prop := ∃ N, Row w B 105 [.iface 99 (.pointer (some ⟨N, 0, none⟩))] ∧ Row w N 101 [.string key]
theorem RealV.below {w w' : World} {B : Nat} {key : ByteArray} (h : RealV w B key) (hb : Below w.heap.size w w') : RealV w' B key := by
  obtain ⟨N, h1, h2⟩ := h
  exact ⟨N, h1.below hb h1.lt, h2.below hb h2.lt⟩
def markT : ByteArray := ⟨#[109, 97, 114, 107, 32]⟩
def sealTT : ByteArray := ⟨#[115, 101, 97, 108, 32]⟩
def keyR (f : PF) (key p : ByteArray) : ByteArray := f.exp key p
def macR (f : PF) (key l s : ByteArray) : ByteArray := (f.mac (f.exp key (markT ++ l)) s).extract 0 16
def sealK (f : PF) (key : ByteArray) (z : Int) : ByteArray := f.exp key (sealTT ++ putS z 6)
def sealRS (f : PF) (key : ByteArray) (z : Int) (n a s : ByteArray) : ByteArray := if fitB z n then f.shut (sealK f key z) n a s else ⟨#[]⟩
def sealRE (f : PF) (key : ByteArray) (z : Int) (n : ByteArray) : Int := if fitB z n then f.shutX (sealK f key z) n else 1
def openRS (f : PF) (key : ByteArray) (z : Int) (n a s : ByteArray) : ByteArray := if fitB z n then (if s.size < 16 then ⟨#[]⟩ else f.opn (sealK f key z) n a s) else ⟨#[]⟩
def openRE (f : PF) (key : ByteArray) (z : Int) (n a s : ByteArray) : Int := if fitB z n then (if s.size < 16 then 3 else f.opnX (sealK f key z) n a s) else 1

section
variable {Tab : World → Prop} {f : PF}
theorem keyFor_any (P : Prims Tab f) (N : Nat) (key p : ByteArray) (hk : key.size ≤ 1048576) (hp : p.size ≤ 1048576) (w : World) (ht : Tab w) (c : w.cell? ⟨N, 0, none⟩ = some (.string key)) :
    Calls Tryz.prog 257 #[.pointer (some ⟨N, 0, none⟩), .string p] w fun e w' => e = .returned (.string (f.exp key p)) ∧ Below w.heap.size w w' := by
  have h := P.exp key p hk hp w ht
  generalize f.exp key p = x at *
  clear ht P hk hp
  go_enter Tryz.func257, Tryz.ntmps257
  go_wp2_with fail
  refine h.mono ?_
  rintro e w1 ⟨rfl, hb⟩
  clear h c
  go_wp2
  go_ret
  exact ⟨rfl, hb⟩
theorem put6_le (n : Nat) : (putS n 6).size ≤ 6 := by
  unfold putS
  split
  · rw [strOfNums_size, leI_length]; decide
  · exact Nat.zero_le _
theorem sealKey_any (P : Prims Tab f) (N : Nat) (key : ByteArray) (z : Nat) (hk : key.size ≤ 1048576) (w : World) (ht : Tab w) (c : w.cell? ⟨N, 0, none⟩ = some (.string key)) :
    Calls Tryz.prog 250 #[.pointer (some ⟨N, 0, none⟩), .int .i64 (z : Nat)] w fun e w' => e = .returned (.string (sealK f key z)) ∧ Below w.heap.size w w' := by
  have h0 := inBytes_any z w
  have hz := put6_le z
  have HR : Hid (sealK f key z = f.exp key (sealTT ++ putS z 6)) := rfl
  generalize putS z 6 = p at *
  have hz2 : (sealTT ++ p).size ≤ 1048576 := by rw [ByteArray.size_append, show sealTT.size = 5 from rfl]; omega
  have ha : ∀ w', (Op.stringOp .add ⟨#[115, 101, 97, 108, 32]⟩ p).run Tryz.prog w' = .ok (.string (sealTT ++ p)) w' := fun w' => run_string_add_sum (P := Tryz.prog) (w := w') _ _ (by rw [show (⟨#[115, 101, 97, 108, 32]⟩ : ByteArray).size = 5 from rfl]; omega)
  have hN := lt_of_cell c
  have h1 : ∀ W, Below w.heap.size w W → _ := fun W hW => keyFor_any P N key (sealTT ++ p) hk hz2 W (P.tab ht hW) ((World.cell?_of_block (a := ⟨N, 0, none⟩) (hW.block N hN)).trans c)
  generalize sealTT ++ p = q at *
  clear P ht hk c hz hz2
  go_enter Tryz.func250, Tryz.ntmps250
  go_wp2_with fail
  refine h0.mono ?_
  rintro e w1 ⟨rfl, hb⟩
  clear h0
  go_wp2_with fail
  refine (h1 _ hb).mono ?_
  rintro e w2 ⟨rfl, hb2⟩
  have HB : Hid (Below w.heap.size w w2) := hb.trans (hb2.mono hb.size)
  clear h1 hb hb2
  go_wp2
  go_ret
  exact ⟨by rw [HR.out]; rfl, HB.out⟩
theorem kseal_any (P : Prims Tab f) (N : Nat) (key : ByteArray) (z : Nat) (n a s : ByteArray) (hk : key.size ≤ 1048576) (hA : a.size ≤ 1048576) (hs : s.size ≤ 1048576) (w : World) (ht : Tab w) (c : w.cell? ⟨N, 0, none⟩ = some (.string key)) :
    Calls Tryz.prog 248 #[.pointer (some ⟨N, 0, none⟩), .int .i64 (z : Nat), .string n, .string a, .string s] w fun e w' => e = .returned (.tuple #[.string (f.shut (sealK f key z) n a s), .int .i64 (f.shutX (sealK f key z) n)]) ∧ Below w.heap.size w w' := by
  have h1 := sealKey_any P N key z hk w ht c
  have h2 := fun W => P.shut (sealK f key z) n a s hA hs W
  generalize sealK f key z = x at *
  generalize f.shut x n a s = t at *
  generalize f.shutX x n = e at *
  clear P ht hk c hA hs
  go_enter Tryz.func248, Tryz.ntmps248
  go_wp2_with fail
  refine h1.mono ?_
  rintro e w1 ⟨rfl, hb⟩
  clear h1
  go_wp2_with fail
  refine (h2 _).mono ?_
  rintro e w2 ⟨rfl, hb2⟩
  have HB : Hid (Below w.heap.size w w2) := hb.trans (hb2.mono hb.size)
  clear h2 hb hb2
  go_wp2
  go_ret2
  exact ⟨rfl, HB.out⟩
theorem kopen_any (P : Prims Tab f) (N : Nat) (key : ByteArray) (z : Nat) (n a s : ByteArray) (hk : key.size ≤ 1048576) (hA : a.size ≤ 1048576) (hs : s.size ≤ 1048576) (w : World) (ht : Tab w) (c : w.cell? ⟨N, 0, none⟩ = some (.string key)) :
    Calls Tryz.prog 247 #[.pointer (some ⟨N, 0, none⟩), .int .i64 (z : Nat), .string n, .string a, .string s] w fun e w' => e = .returned (.tuple #[.string (f.opn (sealK f key z) n a s), .int .i64 (f.opnX (sealK f key z) n a s)]) ∧ Below w.heap.size w w' := by
  have h1 := sealKey_any P N key z hk w ht c
  have h2 := fun W => P.opn (sealK f key z) n a s hA hs W
  generalize sealK f key z = x at *
  generalize f.opn x n a s = t at *
  generalize f.opnX x n a s = e at *
  clear P ht hk c hA hs
  go_enter Tryz.func247, Tryz.ntmps247
  go_wp2_with fail
  refine h1.mono ?_
  rintro e w1 ⟨rfl, hb⟩
  clear h1
  go_wp2_with fail
  refine (h2 _).mono ?_
  rintro e w2 ⟨rfl, hb2⟩
  have HB : Hid (Below w.heap.size w w2) := hb.trans (hb2.mono hb.size)
  clear h2 hb hb2
  go_wp2
  go_ret2
  exact ⟨rfl, HB.out⟩
end
end Go.Proofs.YtoopaigpjefonaaGreatDoor

namespace Go.Proofs.YtoopaigpjefonaaGreatDoor
set_option maxRecDepth 20000
open Go.RowKit

section
variable {Tab : World → Prop} {f : PF}
theorem khash_any (P : Prims Tab f) (N : Nat) (s : ByteArray) (hs : s.size ≤ 1048576) (w : World) (ht : Tab w) :
    Calls Tryz.prog 246 #[.pointer (some ⟨N, 0, none⟩), .string s] w fun e w' => e = .returned (.string (f.sum s)) ∧ Below w.heap.size w w' := by
  have h := P.sum s hs w ht
  generalize f.sum s = x at *
  clear P ht hs
  go_enter Tryz.func246, Tryz.ntmps246
  go_wp2_with fail
  refine h.mono ?_
  rintro e w1 ⟨rfl, hb⟩
  clear h
  go_wp2
  go_ret
  exact ⟨rfl, hb⟩
theorem rvhash_any (P : Prims Tab f) (B : Nat) (key s : ByteArray) (hs : s.size ≤ 1048576) (w : World) (ht : Tab w) (hp : RealV w B key) :
    Calls Tryz.prog 94 #[.pointer (some ⟨B, 0, none⟩), .string s] w fun e w' => e = .returned (.string (f.sum s)) ∧ Below w.heap.size w w' := by
  obtain ⟨N, r1, r2⟩ := hp
  have c0 : w.cell? ⟨B, 0, none⟩ = some (.iface 99 (.pointer (some ⟨N, 0, none⟩))) := r1.cell 0
  have cN : w.cell? ⟨N, 0, none⟩ = some (.string key) := r2.cell 0
  have hg := given_any B _ _ w c0
  have hn := khash_any P N s hs w ht
  have hm : ∀ w : World, (method 501 99 (.pointer (some ⟨N, 0, none⟩)) "grapnel/vault.hash").run Tryz.prog w = .ok (246, .pointer (some ⟨N, 0, none⟩)) w := fun _ => by kernel_rfl
  generalize f.sum s = u at *
  clear P ht hs r1 r2 cN
  go_enter Tryz.func94, Tryz.ntmps94
  go_wp2_with fail
  refine hg.mono ?_
  rintro e w1 ⟨rfl, rfl⟩
  clear hg
  go_wp2_with fail
  refine hn.mono ?_
  rintro e w2 ⟨rfl, h1⟩
  have HF : Hid _ := h1
  clear h1 hn
  go_wp2
  go_ret
  exact ⟨rfl, HF.out⟩
set_option maxHeartbeats 1000000 in
theorem rvseal_any (P : Prims Tab f) (B : Nat) (key : ByteArray) (z : Int) (n a s : ByteArray) (hk : key.size ≤ 1048576) (hA : a.size ≤ 1048576) (hs : s.size ≤ 1048576) (w : World) (ht : Tab w) (hp : RealV w B key) :
    Calls Tryz.prog 135 #[.pointer (some ⟨B, 0, none⟩), .int .i64 z, .string n, .string a, .string s] w fun e w' => e = .returned (.tuple #[.string (sealRS f key z n a s), .int .i64 (sealRE f key z n)]) ∧ Below w.heap.size w w' := by
  obtain ⟨N, r1, r2⟩ := hp
  have c0 : w.cell? ⟨B, 0, none⟩ = some (.iface 99 (.pointer (some ⟨N, 0, none⟩))) := r1.cell 0
  have cN : w.cell? ⟨N, 0, none⟩ = some (.string key) := r2.cell 0
  have hg := given_any B _ _ w c0
  have hf := fit_any z n w
  unfold sealRS sealRE
  rw [show decide (0 ≤ z ∧ z ≤ 281474976710655 ∧ n.size = 12) = fitB z n from rfl] at hf
  cases hb : fitB z n <;> rw [hb] at hf
  · simp only [Bool.false_eq_true, if_false]
    clear P ht hk hA hs r1 r2 cN
    go_enter Tryz.func135, Tryz.ntmps135
    go_wp2_with fail
    refine hg.mono ?_
    rintro e w1 ⟨rfl, rfl⟩
    clear hg
    go_wp2_with fail
    refine hf.mono ?_
    rintro e w3 ⟨rfl, rfl⟩
    clear hf
    go_wp2
    go_ret2
    exact ⟨rfl, Below.refl _ _⟩
  · simp only [if_true]
    obtain ⟨m, rfl⟩ : ∃ m : Nat, z = m := ⟨z.toNat, by have := of_decide_eq_true hb; omega⟩
    have hn := kseal_any P N key m n a s hk hA hs w ht cN
    have hm : ∀ w : World, (method 501 99 (.pointer (some ⟨N, 0, none⟩)) "grapnel/vault.seal").run Tryz.prog w = .ok (248, .pointer (some ⟨N, 0, none⟩)) w := fun _ => by kernel_rfl
    generalize f.shut (sealK f key m) n a s = u at *
    generalize f.shutX (sealK f key m) n = v at *
    clear P ht hk hA hs r1 r2 cN hb
    go_enter Tryz.func135, Tryz.ntmps135
    go_wp2_with fail
    refine hg.mono ?_
    rintro e w1 ⟨rfl, rfl⟩
    clear hg
    go_wp2_with fail
    refine hf.mono ?_
    rintro e w3 ⟨rfl, rfl⟩
    clear hf
    go_wp2_with fail
    refine hn.mono ?_
    rintro e w2 ⟨rfl, h1⟩
    have HF : Hid _ := h1
    clear h1 hn
    go_wp2
    go_ret2
    exact ⟨rfl, HF.out⟩
set_option maxHeartbeats 1000000 in
theorem rvopen_any (P : Prims Tab f) (B : Nat) (key : ByteArray) (z : Int) (n a s : ByteArray) (hk : key.size ≤ 1048576) (hA : a.size ≤ 1048576) (hs : s.size ≤ 1048576) (w : World) (ht : Tab w) (hp : RealV w B key) :
    Calls Tryz.prog 65 #[.pointer (some ⟨B, 0, none⟩), .int .i64 z, .string n, .string a, .string s] w fun e w' => e = .returned (.tuple #[.string (openRS f key z n a s), .int .i64 (openRE f key z n a s)]) ∧ Below w.heap.size w w' := by
  obtain ⟨N, r1, r2⟩ := hp
  have c0 : w.cell? ⟨B, 0, none⟩ = some (.iface 99 (.pointer (some ⟨N, 0, none⟩))) := r1.cell 0
  have cN : w.cell? ⟨N, 0, none⟩ = some (.string key) := r2.cell 0
  have hg := given_any B _ _ w c0
  have hf := fit_any z n w
  unfold openRS openRE
  rw [show decide (0 ≤ z ∧ z ≤ 281474976710655 ∧ n.size = 12) = fitB z n from rfl] at hf
  cases hb : fitB z n <;> rw [hb] at hf
  · simp only [Bool.false_eq_true, if_false]
    clear P ht hk hA hs r1 r2 cN
    go_enter Tryz.func65, Tryz.ntmps65
    go_wp2_with fail
    refine hg.mono ?_
    rintro e w1 ⟨rfl, rfl⟩
    clear hg
    go_wp2_with fail
    refine hf.mono ?_
    rintro e w3 ⟨rfl, rfl⟩
    clear hf
    go_wp2
    go_ret2
    exact ⟨rfl, Below.refl _ _⟩
  simp only [if_true]
  by_cases h16 : s.size < 16
  · have h16' : (s.size : Int) < 16 := by omega
    simp only [h16, if_true]
    clear P ht hk hA hs r1 r2 cN
    go_enter Tryz.func65, Tryz.ntmps65
    go_wp2_with fail
    refine hg.mono ?_
    rintro e w1 ⟨rfl, rfl⟩
    clear hg
    go_wp2_with fail
    refine hf.mono ?_
    rintro e w3 ⟨rfl, rfl⟩
    clear hf
    go_wp2
    go_ret2
    exact ⟨rfl, Below.refl _ _⟩
  · have h16' : ¬ (s.size : Int) < 16 := by omega
    simp only [h16, if_false]
    obtain ⟨m, rfl⟩ : ∃ m : Nat, z = m := ⟨z.toNat, by have := of_decide_eq_true hb; omega⟩
    have hn := kopen_any P N key m n a s hk hA hs w ht cN
    have hm : ∀ w : World, (method 501 99 (.pointer (some ⟨N, 0, none⟩)) "grapnel/vault.open").run Tryz.prog w = .ok (247, .pointer (some ⟨N, 0, none⟩)) w := fun _ => by kernel_rfl
    generalize f.opn (sealK f key m) n a s = u at *
    generalize f.opnX (sealK f key m) n a s = v at *
    clear P ht hk hA hs r1 r2 cN hb h16
    go_enter Tryz.func65, Tryz.ntmps65
    go_wp2_with fail
    refine hg.mono ?_
    rintro e w1 ⟨rfl, rfl⟩
    clear hg
    go_wp2_with fail
    refine hf.mono ?_
    rintro e w3 ⟨rfl, rfl⟩
    clear hf
    go_wp2_with fail
    refine hn.mono ?_
    rintro e w2 ⟨rfl, h1⟩
    have HF : Hid _ := h1
    clear h1 hn
    go_wp2
    go_ret2
    exact ⟨rfl, HF.out⟩
end
/-- A new real vault, or Stretch's error. -/
theorem real_no {pass salt X : ByteArray} {rounds c : Int} (w : World) (hc : ¬ c = 0) (hs : Calls Tryz.prog 48 #[.string pass, .string salt, .int .i64 rounds, .int .i64 32] w fun e w' => e = .returned (.tuple #[.string X, .int .i64 c]) ∧ Below w.heap.size w w') :
    Calls Tryz.prog 17 #[.string pass, .string salt, .int .i64 rounds] w fun e w' => e = .returned (.tuple #[.pointer none, .int .i64 c]) ∧ Below w.heap.size w w' := by
  have hc1 : (c != 0) = true := by simpa using hc
  have hc2 : (c == 0) = false := beq_false_of_ne hc
  clear hc
  go_enter Tryz.func17, Tryz.ntmps17
  go_wp2_with fail
  refine hs.mono ?_
  rintro e w1 ⟨rfl, hb⟩
  have HB : Hid _ := hb
  clear hs hb
  go_wp2
  go_ret2
  exact ⟨rfl, HB.out⟩
theorem real_yes {pass salt X : ByteArray} {rounds : Int} (w : World) (hs : Calls Tryz.prog 48 #[.string pass, .string salt, .int .i64 rounds, .int .i64 32] w fun e w' => e = .returned (.tuple #[.string X, .int .i64 0]) ∧ Below w.heap.size w w') :
    Calls Tryz.prog 17 #[.string pass, .string salt, .int .i64 rounds] w fun e w' => ∃ B, e = .returned (.tuple #[.pointer (some ⟨B, 0, none⟩), .int .i64 0]) ∧ RealV w' B X ∧ Below w.heap.size w w' := by
  go_enter Tryz.func17, Tryz.ntmps17
  go_wp2_with fail
  refine hs.mono ?_
  rintro e w1 ⟨rfl, hb⟩
  have HB : Hid _ := hb
  clear hs hb
  go_wp2
  go_ret2
  obtain ⟨r0, r1, rB⟩ := two_new (w := w1) (w1 := (w1.alloc (.cells #[.string X] 101)).alloc (.cells #[.iface 99 (.pointer (some ⟨w1.heap.size, 0, none⟩))] 105)) (Below.refl _ _)
  exact ⟨w1.heap.size + 1, rfl, ⟨w1.heap.size, r1, r0⟩, HB.out.trans (rB.mono HB.out.size)⟩
end Go.Proofs.YtoopaigpjefonaaGreatDoor

namespace Go.Proofs.YtoopaigpjefonaaGreatDoor
set_option maxRecDepth 20000
open Go.RowKit

def texC (l : List (ByteArray)) : List Value := l.flatMap fun x => [.string x]
theorem texC_snoc (l : List (ByteArray)) (x : ByteArray) : texC (l ++ [x]) = texC l ++ [.string x] := by simp [texC]
theorem texC_get : ∀ (l : List (ByteArray)) (k : Nat) (x : ByteArray), l[k]? = some x → ∀ c, c < 1 → (texC l)[k * 1 + c]? = ([.string x] : List Value)[c]?
  | [], k, x, h => by simp at h
  | y :: t, 0, x, h => by
    simp at h
    subst h
    intro c hc
    rw [show texC (y :: t) = [.string y] ++ texC t from by simp [texC], Nat.zero_mul, Nat.zero_add, List.getElem?_append_left (by simpa using hc)]
  | y :: t, k + 1, x, h => by
    intro c hc
    have := texC_get t k x (by simpa using h) c hc
    have hl : ([.string y] : List Value).length = 1 := rfl
    rw [show texC (y :: t) = [.string y] ++ texC t from by simp [texC], List.getElem?_append_right (by rw [hl]; omega), hl, show (k + 1) * 1 + c - 1 = k * 1 + c by omega]
    exact this
def marC (l : List (ByteArray × ByteArray)) : List Value := l.flatMap fun x => [.string x.1, .string x.2]
theorem marC_snoc (l : List (ByteArray × ByteArray)) (x : ByteArray × ByteArray) : marC (l ++ [x]) = marC l ++ [.string x.1, .string x.2] := by simp [marC]
theorem marC_get : ∀ (l : List (ByteArray × ByteArray)) (k : Nat) (x : ByteArray × ByteArray), l[k]? = some x → ∀ c, c < 2 → (marC l)[k * 2 + c]? = ([.string x.1, .string x.2] : List Value)[c]?
  | [], k, x, h => by simp at h
  | y :: t, 0, x, h => by
    simp at h
    subst h
    intro c hc
    rw [show marC (y :: t) = [.string y.1, .string y.2] ++ marC t from by simp [marC], Nat.zero_mul, Nat.zero_add, List.getElem?_append_left (by simpa using hc)]
  | y :: t, k + 1, x, h => by
    intro c hc
    have := marC_get t k x (by simpa using h) c hc
    have hl : ([.string y.1, .string y.2] : List Value).length = 2 := rfl
    rw [show marC (y :: t) = [.string y.1, .string y.2] ++ marC t from by simp [marC], List.getElem?_append_right (by rw [hl]; omega), hl, show (k + 1) * 2 + c - 2 = k * 2 + c by omega]
    exact this
def fouC (l : List (Four)) : List Value := l.flatMap fun x => [.int .i64 x.salt, .string x.nonce, .string x.ad, .string x.text]
theorem fouC_snoc (l : List (Four)) (x : Four) : fouC (l ++ [x]) = fouC l ++ [.int .i64 x.salt, .string x.nonce, .string x.ad, .string x.text] := by simp [fouC]
theorem fouC_get : ∀ (l : List (Four)) (k : Nat) (x : Four), l[k]? = some x → ∀ c, c < 4 → (fouC l)[k * 4 + c]? = ([.int .i64 x.salt, .string x.nonce, .string x.ad, .string x.text] : List Value)[c]?
  | [], k, x, h => by simp at h
  | y :: t, 0, x, h => by
    simp at h
    subst h
    intro c hc
    rw [show fouC (y :: t) = [.int .i64 y.salt, .string y.nonce, .string y.ad, .string y.text] ++ fouC t from by simp [fouC], Nat.zero_mul, Nat.zero_add, List.getElem?_append_left (by simpa using hc)]
  | y :: t, k + 1, x, h => by
    intro c hc
    have := fouC_get t k x (by simpa using h) c hc
    have hl : ([.int .i64 y.salt, .string y.nonce, .string y.ad, .string y.text] : List Value).length = 4 := rfl
    rw [show fouC (y :: t) = [.int .i64 y.salt, .string y.nonce, .string y.ad, .string y.text] ++ fouC t from by simp [fouC], List.getElem?_append_right (by rw [hl]; omega), hl, show (k + 1) * 4 + c - 4 = k * 4 + c by omega]
    exact this

structure RefVAt (w : World) (F : Nat → Prop) (B : Nat) (hv pv fv : Value) (S : VS) : Prop where
  row : Row w B 109 [.bool true, .string ⟨#[]⟩, hv, pv, fv]
  hs : w.ownsRow 0 9 1 hv S.texts.length (texC S.texts)
  ps : w.ownsRow 0 373 2 pv S.marks.length (marC S.marks)
  fs : w.ownsRow 0 256 4 fv S.seals.length (fouC S.seals)
  fB : F B
  hF : ∀ g, hv.ownBlock = some g → F g
  pF : ∀ g, pv.ownBlock = some g → F g
  fF : ∀ g, fv.ownBlock = some g → F g
  hB : hv.ownBlock ≠ some B
  pB : pv.ownBlock ≠ some B
  qB : fv.ownBlock ≠ some B
  hp : ∀ g, hv.ownBlock = some g → pv.ownBlock ≠ some g
  hf : ∀ g, hv.ownBlock = some g → fv.ownBlock ≠ some g
  pf : ∀ g, pv.ownBlock = some g → fv.ownBlock ≠ some g
def RefV (w : World) (F : Nat → Prop) (B : Nat) (S : VS) : Prop := ∃ hv pv fv, RefVAt w F B hv pv fv S
theorem RefVAt.keep {w w' : World} {F : Nat → Prop} {B : Nat} {hv pv fv : Value} {S : VS} (h : RefVAt w F B hv pv fv S) (hk : ∀ k, k < w.heap.size → F k → w'.heap[k]? = w.heap[k]?) : RefVAt w' F B hv pv fv S :=
  { h with
    row := (hk B h.row.lt h.fB).trans h.row
    hs := owns_keep h.hs fun g hg => hk g (owns_lt h.hs g hg) (h.hF g hg)
    ps := owns_keep h.ps fun g hg => hk g (owns_lt h.ps g hg) (h.pF g hg)
    fs := owns_keep h.fs fun g hg => hk g (owns_lt h.fs g hg) (h.fF g hg) }
theorem RefVAt.mono {w : World} {F F' : Nat → Prop} {B : Nat} {hv pv fv : Value} {S : VS} (h : RefVAt w F B hv pv fv S) (hF : ∀ k, k < w.heap.size → F k → F' k) : RefVAt w F' B hv pv fv S :=
  { h with
    fB := hF _ h.row.lt h.fB
    hF := fun g hg => hF g (owns_lt h.hs g hg) (h.hF g hg)
    pF := fun g hg => hF g (owns_lt h.ps g hg) (h.pF g hg)
    fF := fun g hg => hF g (owns_lt h.fs g hg) (h.fF g hg) }
theorem RefV.keep {w w' : World} {F : Nat → Prop} {B : Nat} {S : VS} (h : RefV w F B S) (hk : ∀ k, k < w.heap.size → F k → w'.heap[k]? = w.heap[k]?) : RefV w' F B S := by
  obtain ⟨a, b, c, h⟩ := h
  exact ⟨a, b, c, h.keep hk⟩
theorem RefV.mono {w : World} {F F' : Nat → Prop} {B : Nat} {S : VS} (h : RefV w F B S) (hF : ∀ k, k < w.heap.size → F k → F' k) : RefV w F' B S := by
  obtain ⟨a, b, c, h⟩ := h
  exact ⟨a, b, c, h.mono hF⟩
theorem RefV.below {w w' : World} {F : Nat → Prop} {B : Nat} {S : VS} (h : RefV w F B S) (hb : Below w.heap.size w w') : RefV w' F B S := h.keep fun k hk _ => hb.block k hk
theorem RefV.lt {w : World} {F : Nat → Prop} {B : Nat} {S : VS} (h : RefV w F B S) : B < w.heap.size := by
  obtain ⟨a, b, c, h⟩ := h
  exact h.row.lt
/-- A slice that grew lies where it lay, or in a block that is new. -/
theorem own_new {w : World} {e : TypeId} {z n g N : Nat} {u v v' : Value} {xs : List Value} (h : w.ownsRow 0 e z u n xs) (hu : u.ownBlock = some g) (hN : w.heap.size ≤ N) (hne : v.ownBlock ≠ some g) (hat : v'.ownBlock = v.ownBlock ∨ v'.ownBlock = some N) : v'.ownBlock ≠ some g := by
  rcases hat with e | e
  · rw [e]; exact hne
  · rw [e]; intro e2; cases e2; have := owns_lt h g hu; omega

theorem RefVAt.add_h {w0 w w' : World} {F : Nat → Prop} {B : Nat} {hv pv fv v' : Value} {S : VS} {x : ByteArray} (h : RefVAt w F B hv pv fv S) (ht : Touch F w0 w)
    (hown : w'.ownsRow 0 9 1 v' (S.texts.length + 1) (texC S.texts ++ [.string x])) (hg : w.grownBy w' hv.ownBlock) (hat : v'.ownBlock = hv.ownBlock ∨ v'.ownBlock = some w.heap.size) :
    w'.cell? ⟨B, 2, none⟩ = some hv ∧ w'.frozen? ⟨B, 2, none⟩ = false ∧ RefVAt (w'.setCell ⟨B, 2, none⟩ v') (grow F w0 (w'.setCell ⟨B, 2, none⟩ v')) B v' pv fv { S with texts := S.texts ++ [x] } ∧ Touch F w0 (w'.setCell ⟨B, 2, none⟩ v') := by
  have hB := h.row.lt
  have r1 : Row w' B _ _ := (hg.block B h.row.lt (fun e => h.hB e.symm)).trans h.row
  have np : ∀ g, pv.ownBlock = some g → hv.ownBlock ≠ some g := fun g hg' => (fun e => h.hp g e hg')
  have rp := owns_keep (w' := w') h.ps fun g hg' => hg.block g (owns_lt h.ps g hg') (fun e => np g hg' e.symm)
  have nf : ∀ g, fv.ownBlock = some g → hv.ownBlock ≠ some g := fun g hg' => (fun e => h.hf g e hg')
  have rf := owns_keep (w' := w') h.fs fun g hg' => hg.block g (owns_lt h.fs g hg') (fun e => nf g hg' e.symm)
  have nB : v'.ownBlock ≠ some B := by
    rcases hat with e | e
    · rw [e]; exact h.hB
    · rw [e]; intro e2; cases e2; omega
  have hsz : (w'.setCell ⟨B, 2, none⟩ v').heap.size = w'.heap.size := by simp
  have ht2 : Touch F w0 w' := ⟨ht.1.trans ⟨hg.os, hg.tape, hg.output, hg.size, fun k hk => absurd hk (Nat.not_lt_zero k)⟩, fun k hk hn => (hg.block k (Nat.lt_of_lt_of_le hk ht.size) (fun e => hn (h.hF k e.symm))).trans (ht.2 k hk hn)⟩
  have hnew : w'.ownsRow 0 9 1 v' (S.texts ++ [x]).length (texC (S.texts ++ [x])) := by
    rw [texC_snoc, List.length_append]
    exact hown
  have hFn : ∀ g, v'.ownBlock = some g → grow F w0 (w'.setCell ⟨B, 2, none⟩ v') g := fun g hg' => by
    have hlt := owns_lt hown g hg'
    rcases hat with e | e
    · exact .inl (h.hF g (by rw [← e]; exact hg'))
    · rw [e] at hg'
      cases hg'
      exact .inr ⟨ht.size, by rw [hsz]; exact hlt⟩
  exact ⟨r1.cell 2, r1.frozen 2, ⟨r1.setL 2 v', owns_off hnew nB _ _, owns_off rp h.pB _ _, owns_off rf h.qB _ _, .inl h.fB, hFn, fun g hg' => .inl (h.pF g hg'), fun g hg' => .inl (h.fF g hg'), nB, h.pB, h.qB, fun g hg' e => own_new h.ps e (Nat.le_refl _) (np g e) hat hg', fun g hg' e => own_new h.fs e (Nat.le_refl _) (nf g e) hat hg', h.pf⟩, ht2.setCell _ _ _ (.inl h.fB)⟩

theorem RefVAt.add_p {w0 w w' : World} {F : Nat → Prop} {B : Nat} {hv pv fv v' : Value} {S : VS} {x : ByteArray × ByteArray} (h : RefVAt w F B hv pv fv S) (ht : Touch F w0 w)
    (hown : w'.ownsRow 0 373 2 v' (S.marks.length + 1) (marC S.marks ++ [.string x.1, .string x.2])) (hg : w.grownBy w' pv.ownBlock) (hat : v'.ownBlock = pv.ownBlock ∨ v'.ownBlock = some w.heap.size) :
    w'.cell? ⟨B, 3, none⟩ = some pv ∧ w'.frozen? ⟨B, 3, none⟩ = false ∧ RefVAt (w'.setCell ⟨B, 3, none⟩ v') (grow F w0 (w'.setCell ⟨B, 3, none⟩ v')) B hv v' fv { S with marks := S.marks ++ [x] } ∧ Touch F w0 (w'.setCell ⟨B, 3, none⟩ v') := by
  have hB := h.row.lt
  have r1 : Row w' B _ _ := (hg.block B h.row.lt (fun e => h.pB e.symm)).trans h.row
  have nh : ∀ g, hv.ownBlock = some g → pv.ownBlock ≠ some g := fun g hg' => h.hp g hg'
  have rh := owns_keep (w' := w') h.hs fun g hg' => hg.block g (owns_lt h.hs g hg') (fun e => nh g hg' e.symm)
  have nf : ∀ g, fv.ownBlock = some g → pv.ownBlock ≠ some g := fun g hg' => (fun e => h.pf g e hg')
  have rf := owns_keep (w' := w') h.fs fun g hg' => hg.block g (owns_lt h.fs g hg') (fun e => nf g hg' e.symm)
  have nB : v'.ownBlock ≠ some B := by
    rcases hat with e | e
    · rw [e]; exact h.pB
    · rw [e]; intro e2; cases e2; omega
  have hsz : (w'.setCell ⟨B, 3, none⟩ v').heap.size = w'.heap.size := by simp
  have ht2 : Touch F w0 w' := ⟨ht.1.trans ⟨hg.os, hg.tape, hg.output, hg.size, fun k hk => absurd hk (Nat.not_lt_zero k)⟩, fun k hk hn => (hg.block k (Nat.lt_of_lt_of_le hk ht.size) (fun e => hn (h.pF k e.symm))).trans (ht.2 k hk hn)⟩
  have hnew : w'.ownsRow 0 373 2 v' (S.marks ++ [x]).length (marC (S.marks ++ [x])) := by
    rw [marC_snoc, List.length_append]
    exact hown
  have hFn : ∀ g, v'.ownBlock = some g → grow F w0 (w'.setCell ⟨B, 3, none⟩ v') g := fun g hg' => by
    have hlt := owns_lt hown g hg'
    rcases hat with e | e
    · exact .inl (h.pF g (by rw [← e]; exact hg'))
    · rw [e] at hg'
      cases hg'
      exact .inr ⟨ht.size, by rw [hsz]; exact hlt⟩
  exact ⟨r1.cell 3, r1.frozen 3, ⟨r1.setL 3 v', owns_off rh h.hB _ _, owns_off hnew nB _ _, owns_off rf h.qB _ _, .inl h.fB, fun g hg' => .inl (h.hF g hg'), hFn, fun g hg' => .inl (h.fF g hg'), h.hB, nB, h.qB, fun g hg' => own_new h.hs hg' (Nat.le_refl _) (nh g hg') hat, h.hf, fun g hg' e => own_new h.fs e (Nat.le_refl _) (nf g e) hat hg'⟩, ht2.setCell _ _ _ (.inl h.fB)⟩

theorem RefVAt.add_f {w0 w w' : World} {F : Nat → Prop} {B : Nat} {hv pv fv v' : Value} {S : VS} {x : Four} (h : RefVAt w F B hv pv fv S) (ht : Touch F w0 w)
    (hown : w'.ownsRow 0 256 4 v' (S.seals.length + 1) (fouC S.seals ++ [.int .i64 x.salt, .string x.nonce, .string x.ad, .string x.text])) (hg : w.grownBy w' fv.ownBlock) (hat : v'.ownBlock = fv.ownBlock ∨ v'.ownBlock = some w.heap.size) :
    w'.cell? ⟨B, 4, none⟩ = some fv ∧ w'.frozen? ⟨B, 4, none⟩ = false ∧ RefVAt (w'.setCell ⟨B, 4, none⟩ v') (grow F w0 (w'.setCell ⟨B, 4, none⟩ v')) B hv pv v' { S with seals := S.seals ++ [x] } ∧ Touch F w0 (w'.setCell ⟨B, 4, none⟩ v') := by
  have hB := h.row.lt
  have r1 : Row w' B _ _ := (hg.block B h.row.lt (fun e => h.qB e.symm)).trans h.row
  have nh : ∀ g, hv.ownBlock = some g → fv.ownBlock ≠ some g := fun g hg' => h.hf g hg'
  have rh := owns_keep (w' := w') h.hs fun g hg' => hg.block g (owns_lt h.hs g hg') (fun e => nh g hg' e.symm)
  have np : ∀ g, pv.ownBlock = some g → fv.ownBlock ≠ some g := fun g hg' => h.pf g hg'
  have rp := owns_keep (w' := w') h.ps fun g hg' => hg.block g (owns_lt h.ps g hg') (fun e => np g hg' e.symm)
  have nB : v'.ownBlock ≠ some B := by
    rcases hat with e | e
    · rw [e]; exact h.qB
    · rw [e]; intro e2; cases e2; omega
  have hsz : (w'.setCell ⟨B, 4, none⟩ v').heap.size = w'.heap.size := by simp
  have ht2 : Touch F w0 w' := ⟨ht.1.trans ⟨hg.os, hg.tape, hg.output, hg.size, fun k hk => absurd hk (Nat.not_lt_zero k)⟩, fun k hk hn => (hg.block k (Nat.lt_of_lt_of_le hk ht.size) (fun e => hn (h.fF k e.symm))).trans (ht.2 k hk hn)⟩
  have hnew : w'.ownsRow 0 256 4 v' (S.seals ++ [x]).length (fouC (S.seals ++ [x])) := by
    rw [fouC_snoc, List.length_append]
    exact hown
  have hFn : ∀ g, v'.ownBlock = some g → grow F w0 (w'.setCell ⟨B, 4, none⟩ v') g := fun g hg' => by
    have hlt := owns_lt hown g hg'
    rcases hat with e | e
    · exact .inl (h.fF g (by rw [← e]; exact hg'))
    · rw [e] at hg'
      cases hg'
      exact .inr ⟨ht.size, by rw [hsz]; exact hlt⟩
  exact ⟨r1.cell 4, r1.frozen 4, ⟨r1.setL 4 v', owns_off rh h.hB _ _, owns_off rp h.pB _ _, owns_off hnew nB _ _, .inl h.fB, fun g hg' => .inl (h.hF g hg'), fun g hg' => .inl (h.pF g hg'), hFn, h.hB, h.pB, nB, h.hp, fun g hg' => own_new h.hs hg' (Nat.le_refl _) (nh g hg') hat, fun g hg' => own_new h.ps hg' (Nat.le_refl _) (np g hg') hat⟩, ht2.setCell _ _ _ (.inl h.fB)⟩
end Go.Proofs.YtoopaigpjefonaaGreatDoor
