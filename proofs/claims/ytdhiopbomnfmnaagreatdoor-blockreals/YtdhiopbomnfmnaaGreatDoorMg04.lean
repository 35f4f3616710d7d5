/- A new ideal vault has numbered nothing; and chapter 5's example. · The real vault in plain words, over what sum and box tell: how it lies in memory, and each of its calls. · The vault's calls, the real one behind them: what each tells; nothing that was there is changed. -/
import Derived.Test.YtdhiopbomnfmnaaGreatDoorMg03
namespace Go.Proofs.YtdhiopbomnfmnaaGreatDoor
set_option maxRecDepth 20000
open Go.RowKit Go.Maps

def newV : VS := ⟨[], [], []⟩
theorem heap_map_new (w : World) (o : Obj) : (w.alloc o).heap[w.heap.size]? = some o := (MapKept.heap_alloc w o).1
set_option maxHeartbeats 1000000 in
theorem newN_any (w : World) : Calls Tryz.prog 45 #[] w fun e w' => e = .returned (.pointer (some ⟨w.heap.size + 3, 0, none⟩)) ∧ w' = (((w.alloc (.map #[] 0)).alloc (.map #[] 0)).alloc (.map #[] 0)).alloc (.cells #[.map (some w.heap.size), .map (some (w.heap.size + 1)), .map (some (w.heap.size + 2))] 118) := by
  have hmm := @run_makeMap Tryz.prog
  go_enter Tryz.func45, Tryz.ntmps45
  go_wp2
  go_ret
  exact ⟨rfl, rfl⟩

theorem nums_alloc {α : Type} [DecidableEq α] {key : α → Value} {K : TypeId} {w : World} {b : Nat} {l : List α} (h : Nums key K w b l) (o : Obj) : Nums key K (w.alloc o) b l := h.keep (Below.heap_alloc w o b h.lt)
theorem ideal_lies (w : World) : Ideal (((((w.alloc (.map #[] 0)).alloc (.map #[] 0)).alloc (.map #[] 0)).alloc (.cells #[.map (some w.heap.size), .map (some (w.heap.size + 1)), .map (some (w.heap.size + 2))] 118)).alloc (.cells #[.iface 99 (.pointer (some ⟨w.heap.size + 3, 0, none⟩))] 46)) (fun k => w.heap.size ≤ k ∧ k < w.heap.size + 5) (w.heap.size + 4) newV := by
  have s1 : (w.alloc (.map #[] 0)).heap.size = w.heap.size + 1 := by simp
  have s2 : ((w.alloc (.map #[] 0)).alloc (.map #[] 0)).heap.size = w.heap.size + 2 := by simp
  have s3 : (((w.alloc (.map #[] 0)).alloc (.map #[] 0)).alloc (.map #[] 0)).heap.size = w.heap.size + 3 := by simp
  have s4 : ((((w.alloc (.map #[] 0)).alloc (.map #[] 0)).alloc (.map #[] 0)).alloc (.cells #[.map (some w.heap.size), .map (some (w.heap.size + 1)), .map (some (w.heap.size + 2))] 118)).heap.size = w.heap.size + 4 := by simp
  have n1 := Nums.made keyT 234 w
  have n2 := Nums.made keyM 236 (w.alloc (.map #[] 0))
  have n3 := Nums.made keyS 229 ((w.alloc (.map #[] 0)).alloc (.map #[] 0))
  rw [s1] at n2
  rw [s2] at n3
  refine ⟨w.heap.size + 3, w.heap.size, w.heap.size + 1, w.heap.size + 2, ?_, ?_, nums_alloc (nums_alloc (nums_alloc (nums_alloc n1 _) _) _) _, nums_alloc (nums_alloc (nums_alloc n2 _) _) _, nums_alloc (nums_alloc n3 _) _, by omega, by omega, by omega, by omega, by omega, by omega, by omega, by omega⟩
  · have := heap_map_new ((((w.alloc (.map #[] 0)).alloc (.map #[] 0)).alloc (.map #[] 0)).alloc (.cells #[.map (some w.heap.size), .map (some (w.heap.size + 1)), .map (some (w.heap.size + 2))] 118)) (.cells #[.iface 99 (.pointer (some ⟨w.heap.size + 3, 0, none⟩))] 46)
    rw [s4] at this
    exact this
  · have := heap_map_new (((w.alloc (.map #[] 0)).alloc (.map #[] 0)).alloc (.map #[] 0)) (.cells #[.map (some w.heap.size), .map (some (w.heap.size + 1)), .map (some (w.heap.size + 2))] 118)
    rw [s3] at this
    exact (Below.heap_alloc _ _ _ (by omega)).trans this
theorem ideal_any (w : World) : Calls Tryz.prog 19 #[] w fun e w' => ∃ B, e = .returned (.pointer (some ⟨B, 0, none⟩)) ∧ Ideal w' (fun k => w.heap.size ≤ k ∧ k < w'.heap.size) B newV ∧ Below w.heap.size w w' := by
  have HI : Hid _ := ideal_lies w
  have HB : Hid (Below w.heap.size w (((((w.alloc (.map #[] 0)).alloc (.map #[] 0)).alloc (.map #[] 0)).alloc (.cells #[.map (some w.heap.size), .map (some (w.heap.size + 1)), .map (some (w.heap.size + 2))] 118)).alloc (.cells #[.iface 99 (.pointer (some ⟨w.heap.size + 3, 0, none⟩))] 46))) :=
    (((((Below.refl w.heap.size w).alloc (Nat.le_refl _) _).alloc (by simp) _).alloc (by simp; omega) _).alloc (by simp; omega) _).alloc (by simp; omega) _
  go_enter Tryz.func19, Tryz.ntmps19
  go_wp2_with fail
  refine (newN_any w).mono ?_
  rintro e w1 ⟨rfl, rfl⟩
  go_wp2
  go_ret
  refine ⟨w.heap.size + 4, rfl, ?_, HB.out⟩
  refine Ideal.mono HI.out fun k _ h => ⟨h.1, ?_⟩
  have := h.2
  simp
  omega
theorem awake_1 : hashS newV ⟨#[120]⟩ = ⟨#[1, 0, 0, 0, 0, 0, 0, 0, 0, 0, 0, 0, 0, 0, 0, 0, 0, 0, 0, 0, 0, 0, 0, 0, 0, 0, 0, 0, 0, 0, 0, 0]⟩ := by decide
theorem awake_2 : hashS (hashP newV ⟨#[120]⟩) ⟨#[121]⟩ = ⟨#[2, 0, 0, 0, 0, 0, 0, 0, 0, 0, 0, 0, 0, 0, 0, 0, 0, 0, 0, 0, 0, 0, 0, 0, 0, 0, 0, 0, 0, 0, 0, 0]⟩ := by decide
theorem awake_3 : hashS (hashP (hashP newV ⟨#[120]⟩) ⟨#[121]⟩) ⟨#[120]⟩ = ⟨#[1, 0, 0, 0, 0, 0, 0, 0, 0, 0, 0, 0, 0, 0, 0, 0, 0, 0, 0, 0, 0, 0, 0, 0, 0, 0, 0, 0, 0, 0, 0, 0]⟩ := by decide
theorem awake_l : (hashP newV ⟨#[120]⟩).texts.length ≤ 1000000 ∧ (hashP (hashP newV ⟨#[120]⟩) ⟨#[121]⟩).texts.length ≤ 1000000 := by decide
end Go.Proofs.YtdhiopbomnfmnaaGreatDoor

namespace Go.Proofs.YtdhiopbomnfmnaaGreatDoor
set_option maxRecDepth 20000
open Go.RowKit

/-- What sum and box tell. -/
structure PF where
  sum : ByteArray → ByteArray
  mac : ByteArray → ByteArray → ByteArray
  exp : ByteArray → ByteArray → ByteArray
  shut : ByteArray → ByteArray → ByteArray → ByteArray → ByteArray
  shutX : ByteArray → ByteArray → Int
  opn : ByteArray → ByteArray → ByteArray → ByteArray → ByteArray
  opnX : ByteArray → ByteArray → ByteArray → ByteArray → Int
structure Prims (Tab : World → Prop) (f : PF) : Prop where
  tab : ∀ {w w' : World}, Tab w → Below w.heap.size w w' → Tab w'
  sum : ∀ s : ByteArray, s.size ≤ 1048576 → ∀ w, Tab w → Calls Tryz.prog 48 #[.string s] w fun e w' => e = .returned (.string (f.sum s)) ∧ Below w.heap.size w w'
  macz : ∀ k s, (f.mac k s).size = 32
  exp : ∀ k i : ByteArray, k.size ≤ 1048576 → i.size ≤ 1048576 → ∀ w, Tab w → Calls Tryz.prog 151 #[.string k, .string i, .int .i64 32] w fun e w' => e = .returned (.tuple #[.string (f.exp k i), .int .i64 0]) ∧ Below w.heap.size w w'
  expz : ∀ k i, (f.exp k i).size = 32
  shut : ∀ k n a s : ByteArray, a.size ≤ 1048576 → s.size ≤ 1048576 → ∀ w, Calls Tryz.prog 134 #[.string k, .string n, .string a, .string s] w fun e w' => e = .returned (.tuple #[.string (f.shut k n a s), .int .i64 (f.shutX k n)]) ∧ Below w.heap.size w w'
  opn : ∀ k n a s : ByteArray, a.size ≤ 1048576 → s.size ≤ 1048576 → ∀ w, Calls Tryz.prog 132 #[.string k, .string n, .string a, .string s] w fun e w' => e = .returned (.tuple #[.string (f.opn k n a s), .int .i64 (f.opnX k n a s)]) ∧ Below w.heap.size w w'
  same : ∀ a b : ByteArray, a.size ≤ maxLen → ∀ w, Calls Tryz.prog 137 #[.string a, .string b] w fun e w' => e = .returned (.bool (decide (a = b))) ∧ Below w.heap.size w w'

/-- A real vault in block B, its master key. -/
def RealV (w : World) (B : Nat) (key : ByteArray) : Prop := ∃ N, Row w B 46 [.iface 40 (.pointer (some ⟨N, 0, none⟩))] ∧ Row w N 42 [.string key]
theorem RealV.below {w w' : World} {B : Nat} {key : ByteArray} (h : RealV w B key) (hb : Below w.heap.size w w') : RealV w' B key := by
  obtain ⟨N, h1, h2⟩ := h
  exact ⟨N, h1.below hb h1.lt, h2.below hb h2.lt⟩
def markT : ByteArray := ⟨#[109, 97, 114, 107, 32]⟩
def sealTT : ByteArray := ⟨#[115, 101, 97, 108, 32]⟩
def keyR (f : PF) (key p : ByteArray) : ByteArray := f.exp key p
def macR (f : PF) (key l s : ByteArray) : ByteArray := (f.mac (f.exp key (markT ++ l)) s).extract 0 16
def sealK (f : PF) (key : ByteArray) (z : Int) : ByteArray := f.exp key (sealTT ++ putS z 6)
def sealRS (f : PF) (key : ByteArray) (z : Int) (n a s : ByteArray) : ByteArray := if fitB z n then f.shut (sealK f key z) n a s else ⟨#[]⟩
def sealRE (f : PF) (key : ByteArray) (z : Int) (n : ByteArray) : Int := if fitB z n then f.shutX (sealK f key z) n else 1
def openRS (f : PF) (key : ByteArray) (z : Int) (n a s : ByteArray) : ByteArray := if fitB z n then (if s.size < 16 then ⟨#[]⟩ else f.opn (sealK f key z) n a s) else ⟨#[]⟩
def openRE (f : PF) (key : ByteArray) (z : Int) (n a s : ByteArray) : Int := if fitB z n then (if s.size < 16 then 3 else f.opnX (sealK f key z) n a s) else 1

section
variable {Tab : World → Prop} {f : PF}
theorem keyFor_any (P : Prims Tab f) (N : Nat) (key p : ByteArray) (hk : key.size ≤ 1048576) (hp : p.size ≤ 1048576) (w : World) (ht : Tab w) (c : w.cell? ⟨N, 0, none⟩ = some (.string key)) :
    Calls Tryz.prog 140 #[.pointer (some ⟨N, 0, none⟩), .string p] w fun e w' => e = .returned (.string (f.exp key p)) ∧ Below w.heap.size w w' := by
  have h := P.exp key p hk hp w ht
  generalize f.exp key p = x at *
  clear ht P hk hp
  go_enter Tryz.func140, Tryz.ntmps140
  go_wp2_with fail
  refine h.mono ?_
  rintro e w1 ⟨rfl, hb⟩
  clear h c
  go_wp2
  go_ret
  exact ⟨rfl, hb⟩
theorem put6_le (n : Nat) : (putS n 6).size ≤ 6 := by
  unfold putS
  split
  · rw [strOfNums_size, leI_length]; decide
  · exact Nat.zero_le _
theorem sealKey_any (P : Prims Tab f) (N : Nat) (key : ByteArray) (z : Nat) (hk : key.size ≤ 1048576) (w : World) (ht : Tab w) (c : w.cell? ⟨N, 0, none⟩ = some (.string key)) :
    Calls Tryz.prog 133 #[.pointer (some ⟨N, 0, none⟩), .int .i64 (z : Nat)] w fun e w' => e = .returned (.string (sealK f key z)) ∧ Below w.heap.size w w' := by
  have h0 := inBytes_any z w
  have hz := put6_le z
  have HR : Hid (sealK f key z = f.exp key (sealTT ++ putS z 6)) := rfl
  generalize putS z 6 = p at *
  have hz2 : (sealTT ++ p).size ≤ 1048576 := by rw [ByteArray.size_append, show sealTT.size = 5 from rfl]; omega
  have ha : ∀ w', (Op.stringOp .add ⟨#[115, 101, 97, 108, 32]⟩ p).run Tryz.prog w' = .ok (.string (sealTT ++ p)) w' := fun w' => run_string_add_sum (P := Tryz.prog) (w := w') _ _ (by rw [show (⟨#[115, 101, 97, 108, 32]⟩ : ByteArray).size = 5 from rfl]; omega)
  have hN := lt_of_cell c
  have h1 : ∀ W, Below w.heap.size w W → _ := fun W hW => keyFor_any P N key (sealTT ++ p) hk hz2 W (P.tab ht hW) ((World.cell?_of_block (a := ⟨N, 0, none⟩) (hW.block N hN)).trans c)
  generalize sealTT ++ p = q at *
  clear P ht hk c hz hz2
  go_enter Tryz.func133, Tryz.ntmps133
  go_wp2_with fail
  refine h0.mono ?_
  rintro e w1 ⟨rfl, hb⟩
  clear h0
  go_wp2_with fail
  refine (h1 _ hb).mono ?_
  rintro e w2 ⟨rfl, hb2⟩
  have HB : Hid (Below w.heap.size w w2) := hb.trans (hb2.mono hb.size)
  clear h1 hb hb2
  go_wp2
  go_ret
  exact ⟨by rw [HR.out]; rfl, HB.out⟩
theorem kseal_any (P : Prims Tab f) (N : Nat) (key : ByteArray) (z : Nat) (n a s : ByteArray) (hk : key.size ≤ 1048576) (hA : a.size ≤ 1048576) (hs : s.size ≤ 1048576) (w : World) (ht : Tab w) (c : w.cell? ⟨N, 0, none⟩ = some (.string key)) :
    Calls Tryz.prog 131 #[.pointer (some ⟨N, 0, none⟩), .int .i64 (z : Nat), .string n, .string a, .string s] w fun e w' => e = .returned (.tuple #[.string (f.shut (sealK f key z) n a s), .int .i64 (f.shutX (sealK f key z) n)]) ∧ Below w.heap.size w w' := by
  have h1 := sealKey_any P N key z hk w ht c
  have h2 := fun W => P.shut (sealK f key z) n a s hA hs W
  generalize sealK f key z = x at *
  generalize f.shut x n a s = t at *
  generalize f.shutX x n = e at *
  clear P ht hk c hA hs
  go_enter Tryz.func131, Tryz.ntmps131
  go_wp2_with fail
  refine h1.mono ?_
  rintro e w1 ⟨rfl, hb⟩
  clear h1
  go_wp2_with fail
  refine (h2 _).mono ?_
  rintro e w2 ⟨rfl, hb2⟩
  have HB : Hid (Below w.heap.size w w2) := hb.trans (hb2.mono hb.size)
  clear h2 hb hb2
  go_wp2
  go_ret2
  exact ⟨rfl, HB.out⟩
theorem kopen_any (P : Prims Tab f) (N : Nat) (key : ByteArray) (z : Nat) (n a s : ByteArray) (hk : key.size ≤ 1048576) (hA : a.size ≤ 1048576) (hs : s.size ≤ 1048576) (w : World) (ht : Tab w) (c : w.cell? ⟨N, 0, none⟩ = some (.string key)) :
    Calls Tryz.prog 130 #[.pointer (some ⟨N, 0, none⟩), .int .i64 (z : Nat), .string n, .string a, .string s] w fun e w' => e = .returned (.tuple #[.string (f.opn (sealK f key z) n a s), .int .i64 (f.opnX (sealK f key z) n a s)]) ∧ Below w.heap.size w w' := by
  have h1 := sealKey_any P N key z hk w ht c
  have h2 := fun W => P.opn (sealK f key z) n a s hA hs W
  generalize sealK f key z = x at *
  generalize f.opn x n a s = t at *
  generalize f.opnX x n a s = e at *
  clear P ht hk c hA hs
  go_enter Tryz.func130, Tryz.ntmps130
  go_wp2_with fail
  refine h1.mono ?_
  rintro e w1 ⟨rfl, hb⟩
  clear h1
  go_wp2_with fail
  refine (h2 _).mono ?_
  rintro e w2 ⟨rfl, hb2⟩
  have HB : Hid (Below w.heap.size w w2) := hb.trans (hb2.mono hb.size)
  clear h2 hb hb2
  go_wp2
  go_ret2
  exact ⟨rfl, HB.out⟩
end
end Go.Proofs.YtdhiopbomnfmnaaGreatDoor

namespace Go.Proofs.YtdhiopbomnfmnaaGreatDoor
set_option maxRecDepth 20000
open Go.RowKit

section
variable {Tab : World → Prop} {f : PF}
set_option maxHeartbeats 1000000 in
theorem rvseal_any (P : Prims Tab f) (B : Nat) (key : ByteArray) (z : Int) (n a s : ByteArray) (hk : key.size ≤ 1048576) (hA : a.size ≤ 1048576) (hs : s.size ≤ 1048576) (w : World) (ht : Tab w) (hp : RealV w B key) :
    Calls Tryz.prog 14 #[.pointer (some ⟨B, 0, none⟩), .int .i64 z, .string n, .string a, .string s] w fun e w' => e = .returned (.tuple #[.string (sealRS f key z n a s), .int .i64 (sealRE f key z n)]) ∧ Below w.heap.size w w' := by
  obtain ⟨N, r1, r2⟩ := hp
  have c0 : w.cell? ⟨B, 0, none⟩ = some (.iface 40 (.pointer (some ⟨N, 0, none⟩))) := r1.cell 0
  have cN : w.cell? ⟨N, 0, none⟩ = some (.string key) := r2.cell 0
  have hg := given_any B _ _ w c0
  have hf := fit_any z n w
  unfold sealRS sealRE
  rw [show decide (0 ≤ z ∧ z ≤ 281474976710655 ∧ n.size = 12) = fitB z n from rfl] at hf
  cases hb : fitB z n <;> rw [hb] at hf
  · simp only [Bool.false_eq_true, if_false]
    clear P ht hk hA hs r1 r2 cN
    go_enter Tryz.func14, Tryz.ntmps14
    go_wp2_with fail
    refine hg.mono ?_
    rintro e w1 ⟨rfl, rfl⟩
    clear hg
    go_wp2_with fail
    refine hf.mono ?_
    rintro e w3 ⟨rfl, rfl⟩
    clear hf
    go_wp2
    go_ret2
    exact ⟨rfl, Below.refl _ _⟩
  · simp only [if_true]
    obtain ⟨m, rfl⟩ : ∃ m : Nat, z = m := ⟨z.toNat, by have := of_decide_eq_true hb; omega⟩
    have hn := kseal_any P N key m n a s hk hA hs w ht cN
    have hm : ∀ w : World, (method 339 40 (.pointer (some ⟨N, 0, none⟩)) "grapnel/vault.seal").run Tryz.prog w = .ok (131, .pointer (some ⟨N, 0, none⟩)) w := fun _ => by kernel_rfl
    generalize f.shut (sealK f key m) n a s = u at *
    generalize f.shutX (sealK f key m) n = v at *
    clear P ht hk hA hs r1 r2 cN hb
    go_enter Tryz.func14, Tryz.ntmps14
    go_wp2_with fail
    refine hg.mono ?_
    rintro e w1 ⟨rfl, rfl⟩
    clear hg
    go_wp2_with fail
    refine hf.mono ?_
    rintro e w3 ⟨rfl, rfl⟩
    clear hf
    go_wp2_with fail
    refine hn.mono ?_
    rintro e w2 ⟨rfl, h1⟩
    have HF : Hid _ := h1
    clear h1 hn
    go_wp2
    go_ret2
    exact ⟨rfl, HF.out⟩
set_option maxHeartbeats 1000000 in
theorem rvopen_any (P : Prims Tab f) (B : Nat) (key : ByteArray) (z : Int) (n a s : ByteArray) (hk : key.size ≤ 1048576) (hA : a.size ≤ 1048576) (hs : s.size ≤ 1048576) (w : World) (ht : Tab w) (hp : RealV w B key) :
    Calls Tryz.prog 23 #[.pointer (some ⟨B, 0, none⟩), .int .i64 z, .string n, .string a, .string s] w fun e w' => e = .returned (.tuple #[.string (openRS f key z n a s), .int .i64 (openRE f key z n a s)]) ∧ Below w.heap.size w w' := by
  obtain ⟨N, r1, r2⟩ := hp
  have c0 : w.cell? ⟨B, 0, none⟩ = some (.iface 40 (.pointer (some ⟨N, 0, none⟩))) := r1.cell 0
  have cN : w.cell? ⟨N, 0, none⟩ = some (.string key) := r2.cell 0
  have hg := given_any B _ _ w c0
  have hf := fit_any z n w
  unfold openRS openRE
  rw [show decide (0 ≤ z ∧ z ≤ 281474976710655 ∧ n.size = 12) = fitB z n from rfl] at hf
  cases hb : fitB z n <;> rw [hb] at hf
  · simp only [Bool.false_eq_true, if_false]
    clear P ht hk hA hs r1 r2 cN
    go_enter Tryz.func23, Tryz.ntmps23
    go_wp2_with fail
    refine hg.mono ?_
    rintro e w1 ⟨rfl, rfl⟩
    clear hg
    go_wp2_with fail
    refine hf.mono ?_
    rintro e w3 ⟨rfl, rfl⟩
    clear hf
    go_wp2
    go_ret2
    exact ⟨rfl, Below.refl _ _⟩
  simp only [if_true]
  by_cases h16 : s.size < 16
  · have h16' : (s.size : Int) < 16 := by omega
    simp only [h16, if_true]
    clear P ht hk hA hs r1 r2 cN
    go_enter Tryz.func23, Tryz.ntmps23
    go_wp2_with fail
    refine hg.mono ?_
    rintro e w1 ⟨rfl, rfl⟩
    clear hg
    go_wp2_with fail
    refine hf.mono ?_
    rintro e w3 ⟨rfl, rfl⟩
    clear hf
    go_wp2
    go_ret2
    exact ⟨rfl, Below.refl _ _⟩
  · have h16' : ¬ (s.size : Int) < 16 := by omega
    simp only [h16, if_false]
    obtain ⟨m, rfl⟩ : ∃ m : Nat, z = m := ⟨z.toNat, by have := of_decide_eq_true hb; omega⟩
    have hn := kopen_any P N key m n a s hk hA hs w ht cN
    have hm : ∀ w : World, (method 339 40 (.pointer (some ⟨N, 0, none⟩)) "grapnel/vault.open").run Tryz.prog w = .ok (130, .pointer (some ⟨N, 0, none⟩)) w := fun _ => by kernel_rfl
    generalize f.opn (sealK f key m) n a s = u at *
    generalize f.opnX (sealK f key m) n a s = v at *
    clear P ht hk hA hs r1 r2 cN hb h16
    go_enter Tryz.func23, Tryz.ntmps23
    go_wp2_with fail
    refine hg.mono ?_
    rintro e w1 ⟨rfl, rfl⟩
    clear hg
    go_wp2_with fail
    refine hf.mono ?_
    rintro e w3 ⟨rfl, rfl⟩
    clear hf
    go_wp2_with fail
    refine hn.mono ?_
    rintro e w2 ⟨rfl, h1⟩
    have HF : Hid _ := h1
    clear h1 hn
    go_wp2
    go_ret2
    exact ⟨rfl, HF.out⟩
end
/-- A new real vault, or Stretch's error. -/
theorem real_no {pass salt X : ByteArray} {rounds c : Int} (w : World) (hc : ¬ c = 0) (hs : Calls Tryz.prog 11 #[.string pass, .string salt, .int .i64 rounds, .int .i64 32] w fun e w' => e = .returned (.tuple #[.string X, .int .i64 c]) ∧ Below w.heap.size w w') :
    Calls Tryz.prog 4 #[.string pass, .string salt, .int .i64 rounds] w fun e w' => e = .returned (.tuple #[.pointer none, .int .i64 c]) ∧ Below w.heap.size w w' := by
  have hc1 : (c != 0) = true := by simpa using hc
  have hc2 : (c == 0) = false := beq_false_of_ne hc
  clear hc
  go_enter Tryz.func4, Tryz.ntmps4
  go_wp2_with fail
  refine hs.mono ?_
  rintro e w1 ⟨rfl, hb⟩
  have HB : Hid _ := hb
  clear hs hb
  go_wp2
  go_ret2
  exact ⟨rfl, HB.out⟩
theorem real_yes {pass salt X : ByteArray} {rounds : Int} (w : World) (hs : Calls Tryz.prog 11 #[.string pass, .string salt, .int .i64 rounds, .int .i64 32] w fun e w' => e = .returned (.tuple #[.string X, .int .i64 0]) ∧ Below w.heap.size w w') :
    Calls Tryz.prog 4 #[.string pass, .string salt, .int .i64 rounds] w fun e w' => ∃ B, e = .returned (.tuple #[.pointer (some ⟨B, 0, none⟩), .int .i64 0]) ∧ RealV w' B X ∧ Below w.heap.size w w' := by
  go_enter Tryz.func4, Tryz.ntmps4
  go_wp2_with fail
  refine hs.mono ?_
  rintro e w1 ⟨rfl, hb⟩
  have HB : Hid _ := hb
  clear hs hb
  go_wp2
  go_ret2
  obtain ⟨r0, r1, rB⟩ := two_new (w := w1) (w1 := (w1.alloc (.cells #[.string X] 42)).alloc (.cells #[.iface 40 (.pointer (some ⟨w1.heap.size, 0, none⟩))] 46)) (Below.refl _ _)
  exact ⟨w1.heap.size + 1, rfl, ⟨w1.heap.size, r1, r0⟩, HB.out.trans (rB.mono HB.out.size)⟩
end Go.Proofs.YtdhiopbomnfmnaaGreatDoor
