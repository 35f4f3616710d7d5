/- A new ideal vault has numbered nothing; and chapter 5's example. · The real vault in plain words, over what sum and box tell: how it lies in memory, and each of its calls. -/
import Derived.Test.YtfmaajfohieneaaGreatDoorMg04
namespace Go.Proofs.YtfmaajfohieneaaGreatDoor
set_option maxRecDepth 20000
open Go.RowKit Go.Maps

def newV : VS := ⟨[], [], []⟩
theorem heap_map_new (w : World) (o : Obj) : (w.alloc o).heap[w.heap.size]? = some o := (MapKept.heap_alloc w o).1
set_option maxHeartbeats 1000000 in
theorem newN_any (w : World) : Calls Tryz.prog 27 #[] w fun e w' => e = .returned (.pointer (some ⟨w.heap.size + 3, 0, none⟩)) ∧ w' = (((w.alloc (.map #[] 0)).alloc (.map #[] 0)).alloc (.map #[] 0)).alloc (.cells #[.map (some w.heap.size), .map (some (w.heap.size + 1)), .map (some (w.heap.size + 2))] 94) := by
  have hmm := @run_makeMap Tryz.prog
  go_enter Tryz.func27, Tryz.ntmps27
  go_wp2
  go_ret
  exact ⟨rfl, rfl⟩

theorem nums_alloc {α : Type} [DecidableEq α] {key : α → Value} {K : TypeId} {w : World} {b : Nat} {l : List α} (h : Nums key K w b l) (o : Obj) : Nums key K (w.alloc o) b l := h.keep (Below.heap_alloc w o b h.lt)
theorem ideal_lies (w : World) : Ideal (((((w.alloc (.map #[] 0)).alloc (.map #[] 0)).alloc (.map #[] 0)).alloc (.cells #[.map (some w.heap.size), .map (some (w.heap.size + 1)), .map (some (w.heap.size + 2))] 94)).alloc (.cells #[.iface 72 (.pointer (some ⟨w.heap.size + 3, 0, none⟩))] 44)) (fun k => w.heap.size ≤ k ∧ k < w.heap.size + 5) (w.heap.size + 4) newV := by
  have s1 : (w.alloc (.map #[] 0)).heap.size = w.heap.size + 1 := by simp
  have s2 : ((w.alloc (.map #[] 0)).alloc (.map #[] 0)).heap.size = w.heap.size + 2 := by simp
  have s3 : (((w.alloc (.map #[] 0)).alloc (.map #[] 0)).alloc (.map #[] 0)).heap.size = w.heap.size + 3 := by simp
  have s4 : ((((w.alloc (.map #[] 0)).alloc (.map #[] 0)).alloc (.map #[] 0)).alloc (.cells #[.map (some w.heap.size), .map (some (w.heap.size + 1)), .map (some (w.heap.size + 2))] 94)).heap.size = w.heap.size + 4 := by simp
  have n1 := Nums.made keyT 184 w
  have n2 := Nums.made keyM 187 (w.alloc (.map #[] 0))
  have n3 := Nums.made keyS 191 ((w.alloc (.map #[] 0)).alloc (.map #[] 0))
  rw [s1] at n2
  rw [s2] at n3
  refine ⟨w.heap.size + 3, w.heap.size, w.heap.size + 1, w.heap.size + 2, ?_, ?_, nums_alloc (nums_alloc (nums_alloc (nums_alloc n1 _) _) _) _, nums_alloc (nums_alloc (nums_alloc n2 _) _) _, nums_alloc (nums_alloc n3 _) _, by omega, by omega, by omega, by omega, by omega, by omega, by omega, by omega⟩
  · have := heap_map_new ((((w.alloc (.map #[] 0)).alloc (.map #[] 0)).alloc (.map #[] 0)).alloc (.cells #[.map (some w.heap.size), .map (some (w.heap.size + 1)), .map (some (w.heap.size + 2))] 94)) (.cells #[.iface 72 (.pointer (some ⟨w.heap.size + 3, 0, none⟩))] 44)
    rw [s4] at this
    exact this
  · have := heap_map_new (((w.alloc (.map #[] 0)).alloc (.map #[] 0)).alloc (.map #[] 0)) (.cells #[.map (some w.heap.size), .map (some (w.heap.size + 1)), .map (some (w.heap.size + 2))] 94)
    rw [s3] at this
    exact (Below.heap_alloc _ _ _ (by omega)).trans this
theorem ideal_any (w : World) : Calls Tryz.prog 11 #[] w fun e w' => ∃ B, e = .returned (.pointer (some ⟨B, 0, none⟩)) ∧ Ideal w' (fun k => w.heap.size ≤ k ∧ k < w'.heap.size) B newV ∧ Below w.heap.size w w' := by
  have HI : Hid _ := ideal_lies w
  have HB : Hid (Below w.heap.size w (((((w.alloc (.map #[] 0)).alloc (.map #[] 0)).alloc (.map #[] 0)).alloc (.cells #[.map (some w.heap.size), .map (some (w.heap.size + 1)), .map (some (w.heap.size + 2))] 94)).alloc (.cells #[.iface 72 (.pointer (some ⟨w.heap.size + 3, 0, none⟩))] 44))) :=
    (((((Below.refl w.heap.size w).alloc (Nat.le_refl _) _).alloc (by simp) _).alloc (by simp; omega) _).alloc (by simp; omega) _).alloc (by simp; omega) _
  go_enter Tryz.func11, Tryz.ntmps11
  go_wp2_with fail
  refine (newN_any w).mono ?_
  rintro e w1 ⟨rfl, rfl⟩
  go_wp2
  go_ret
  refine ⟨w.heap.size + 4, rfl, ?_, HB.out⟩
  refine Ideal.mono HI.out fun k _ h => ⟨h.1, ?_⟩
  have := h.2
  simp
  omega
theorem awake_1 : hashS newV ⟨#[120]⟩ = ⟨#[1, 0, 0, 0, 0, 0, 0, 0, 0, 0, 0, 0, 0, 0, 0, 0, 0, 0, 0, 0, 0, 0, 0, 0, 0, 0, 0, 0, 0, 0, 0, 0]⟩ := by decide
theorem awake_2 : hashS (hashP newV ⟨#[120]⟩) ⟨#[121]⟩ = ⟨#[2, 0, 0, 0, 0, 0, 0, 0, 0, 0, 0, 0, 0, 0, 0, 0, 0, 0, 0, 0, 0, 0, 0, 0, 0, 0, 0, 0, 0, 0, 0, 0]⟩ := by decide
theorem awake_3 : hashS (hashP (hashP newV ⟨#[120]⟩) ⟨#[121]⟩) ⟨#[120]⟩ = ⟨#[1, 0, 0, 0, 0, 0, 0, 0, 0, 0, 0, 0, 0, 0, 0, 0, 0, 0, 0, 0, 0, 0, 0, 0, 0, 0, 0, 0, 0, 0, 0, 0]⟩ := by decide
theorem awake_l : (hashP newV ⟨#[120]⟩).texts.length ≤ 1000000 ∧ (hashP (hashP newV ⟨#[120]⟩) ⟨#[121]⟩).texts.length ≤ 1000000 := by decide
set_option maxHeartbeats 2000000 in
theorem awake_any (w : World) : Calls Tryz.prog 7 #[] w fun e w' => e = .returned (.bool true) ∧ Below w.heap.size w w' := by
  have h1 := fun B F w => vhash_any B F newV ⟨#[120]⟩ (by unfold fitT; decide) (by decide) w
  have h2 := fun B F w => vhash_any B F (hashP newV ⟨#[120]⟩) ⟨#[121]⟩ (by unfold fitT; decide) awake_l.1 w
  have h3 := fun B F w => vhash_any B F (hashP (hashP newV ⟨#[120]⟩) ⟨#[121]⟩) ⟨#[120]⟩ (by unfold fitT; decide) awake_l.2 w
  rw [awake_1] at h1
  rw [awake_2] at h2
  rw [awake_3] at h3
  go_enter Tryz.func7, Tryz.ntmps7
  go_wp2_with fail
  refine (ideal_any w).mono ?_
  rintro e w1 ⟨B, rfl, hp, hb⟩
  go_wp2_with fail
  refine (h1 B _ w1 hp).mono ?_
  rintro e w2 ⟨rfl, hp2, ht2⟩
  have hb2 := hb.trans (ht2.below hb.size fun k h => h.1)
  clear hp h1 hb ht2
  go_wp2_with fail
  refine (h2 B _ w2 hp2).mono ?_
  rintro e w3 ⟨rfl, hp3, ht3⟩
  have hb3 := hb2.trans (ht3.below hb2.size fun k h => h.1)
  clear hp2 h2 hb2 ht3
  go_wp2_with fail
  refine (h3 B _ w3 hp3).mono ?_
  rintro e w4 ⟨rfl, hp4, ht4⟩
  have HF : Hid (Below w.heap.size w w4) := hb3.trans (ht4.below hb3.size fun k h => h.1)
  clear hp3 h3 hb3 ht4 hp4
  go_wp2
  go_ret
  exact ⟨rfl, HF.out⟩
end Go.Proofs.YtfmaajfohieneaaGreatDoor

namespace Go.Proofs.YtfmaajfohieneaaGreatDoor
set_option maxRecDepth 20000
open Go.RowKit

/-- What sum and box tell. -/
structure PF where
  sum : ByteArray → ByteArray
  mac : ByteArray → ByteArray → ByteArray
  exp : ByteArray → ByteArray → ByteArray
  shut : ByteArray → ByteArray → ByteArray → ByteArray → ByteArray
  shutX : ByteArray → ByteArray → Int
  opn : ByteArray → ByteArray → ByteArray → ByteArray → ByteArray
  opnX : ByteArray → ByteArray → ByteArray → ByteArray → Int
structure Prims (Tab : World → Prop) (f : PF) : Prop where
  tab : ∀ {w w' : World}, Tab w → Below w.heap.size w w' → Tab w'
  sum : ∀ s : ByteArray, s.size ≤ 1048576 → ∀ w, Tab w → Calls Tryz.prog 38 #[.string s] w fun e w' => e = .returned (.string (f.sum s)) ∧ Below w.heap.size w w'
  mac : ∀ k s : ByteArray, k.size ≤ 1048576 → s.size ≤ 1048576 → ∀ w, Tab w → Calls Tryz.prog 95 #[.string k, .string s] w fun e w' => e = .returned (.string (f.mac k s)) ∧ Below w.heap.size w w'
  macz : ∀ k s, (f.mac k s).size = 32
  exp : ∀ k i : ByteArray, k.size ≤ 1048576 → i.size ≤ 1048576 → ∀ w, Tab w → Calls Tryz.prog 101 #[.string k, .string i, .int .i64 32] w fun e w' => e = .returned (.tuple #[.string (f.exp k i), .int .i64 0]) ∧ Below w.heap.size w w'
  expz : ∀ k i, (f.exp k i).size = 32
  shut : ∀ k n a s : ByteArray, a.size ≤ 1048576 → s.size ≤ 1048576 → ∀ w, Calls Tryz.prog 100 #[.string k, .string n, .string a, .string s] w fun e w' => e = .returned (.tuple #[.string (f.shut k n a s), .int .i64 (f.shutX k n)]) ∧ Below w.heap.size w w'
  opn : ∀ k n a s : ByteArray, a.size ≤ 1048576 → s.size ≤ 1048576 → ∀ w, Calls Tryz.prog 98 #[.string k, .string n, .string a, .string s] w fun e w' => e = .returned (.tuple #[.string (f.opn k n a s), .int .i64 (f.opnX k n a s)]) ∧ Below w.heap.size w w'
  same : ∀ a b : ByteArray, a.size ≤ maxLen → ∀ w, Calls Tryz.prog 97 #[.string a, .string b] w fun e w' => e = .returned (.bool (decide (a = b))) ∧ Below w.heap.size w w'

/-- A real vault in block B, its master key. -/
def RealV (w : World) (B : Nat) (key : ByteArray) : Prop := ∃ N, Row w B 44 [.iface 38 (.pointer (some ⟨N, 0, none⟩))] ∧ Row w N 40 [.string key]
theorem RealV.below {w w' : World} {B : Nat} {key : ByteArray} (h : RealV w B key) (hb : Below w.heap.size w w') : RealV w' B key := by
  obtain ⟨N, h1, h2⟩ := h
  exact ⟨N, h1.below hb h1.lt, h2.below hb h2.lt⟩
def markT : ByteArray := ⟨#[109, 97, 114, 107, 32]⟩
def sealTT : ByteArray := ⟨#[115, 101, 97, 108, 32]⟩
def keyR (f : PF) (key p : ByteArray) : ByteArray := f.exp key p
def macR (f : PF) (key l s : ByteArray) : ByteArray := (f.mac (f.exp key (markT ++ l)) s).extract 0 16
def sealK (f : PF) (key : ByteArray) (z : Int) : ByteArray := f.exp key (sealTT ++ putS z 6)
def sealRS (f : PF) (key : ByteArray) (z : Int) (n a s : ByteArray) : ByteArray := if fitB z n then f.shut (sealK f key z) n a s else ⟨#[]⟩
def sealRE (f : PF) (key : ByteArray) (z : Int) (n : ByteArray) : Int := if fitB z n then f.shutX (sealK f key z) n else 1
def openRS (f : PF) (key : ByteArray) (z : Int) (n a s : ByteArray) : ByteArray := if fitB z n then (if s.size < 16 then ⟨#[]⟩ else f.opn (sealK f key z) n a s) else ⟨#[]⟩
def openRE (f : PF) (key : ByteArray) (z : Int) (n a s : ByteArray) : Int := if fitB z n then (if s.size < 16 then 3 else f.opnX (sealK f key z) n a s) else 1

section
variable {Tab : World → Prop} {f : PF}
theorem keyFor_any (P : Prims Tab f) (N : Nat) (key p : ByteArray) (hk : key.size ≤ 1048576) (hp : p.size ≤ 1048576) (w : World) (ht : Tab w) (c : w.cell? ⟨N, 0, none⟩ = some (.string key)) :
    Calls Tryz.prog 96 #[.pointer (some ⟨N, 0, none⟩), .string p] w fun e w' => e = .returned (.string (f.exp key p)) ∧ Below w.heap.size w w' := by
  have h := P.exp key p hk hp w ht
  generalize f.exp key p = x at *
  clear ht P hk hp
  go_enter Tryz.func96, Tryz.ntmps96
  go_wp2_with fail
  refine h.mono ?_
  rintro e w1 ⟨rfl, hb⟩
  clear h c
  go_wp2
  go_ret
  exact ⟨rfl, hb⟩
theorem kmac_any (P : Prims Tab f) (N : Nat) (key l s : ByteArray) (hk : key.size ≤ 1048576) (hl : l.size ≤ 1048000) (hs : s.size ≤ 1048576) (w : World) (ht : Tab w) (c : w.cell? ⟨N, 0, none⟩ = some (.string key)) :
    Calls Tryz.prog 91 #[.pointer (some ⟨N, 0, none⟩), .string l, .string s] w fun e w' => e = .returned (.string (macR f key l s)) ∧ Below w.heap.size w w' := by
  have hz : (markT ++ l).size ≤ 1048576 := by rw [ByteArray.size_append, show markT.size = 5 from rfl]; omega
  have ha : ∀ w', (Op.stringOp .add ⟨#[109, 97, 114, 107, 32]⟩ l).run Tryz.prog w' = .ok (.string (markT ++ l)) w' := fun w' => run_string_add_sum (P := Tryz.prog) (w := w') _ _ (by rw [show (⟨#[109, 97, 114, 107, 32]⟩ : ByteArray).size = 5 from rfl]; omega)
  have h1 := keyFor_any P N key (markT ++ l) hk hz w ht c
  have he := P.expz key (markT ++ l)
  have HR : Hid (macR f key l s = (f.mac (f.exp key (markT ++ l)) s).extract 0 16) := rfl
  generalize markT ++ l = ml at *
  generalize f.exp key ml = x at *
  have h2 := fun W hW => P.mac x s (by omega) hs W hW
  have hm := P.macz x s
  generalize f.mac x s = m at *
  have HT : Hid (∀ W, Below w.heap.size w W → Tab W) := fun W hW => P.tab ht hW
  have i1 : (16 : Int) ≤ m.size := by omega
  clear P ht hk hl hs hz c
  go_enter Tryz.func91, Tryz.ntmps91
  go_wp2_with fail
  refine h1.mono ?_
  rintro e w1 ⟨rfl, hb⟩
  clear h1
  go_wp2_with fail
  refine (h2 _ (HT.out _ hb)).mono ?_
  rintro e w2 ⟨rfl, hb2⟩
  have HB : Hid (Below w.heap.size w w2) := hb.trans (hb2.mono hb.size)
  clear h2 hb hb2 HT
  go_wp2
  go_ret
  exact ⟨by rw [HR.out]; rfl, HB.out⟩
theorem kmade_any (P : Prims Tab f) (N : Nat) (key l s tag : ByteArray) (hk : key.size ≤ 1048576) (hl : l.size ≤ 1048000) (hs : s.size ≤ 1048576) (htg : tag.size ≤ maxLen) (w : World) (ht : Tab w) (c : w.cell? ⟨N, 0, none⟩ = some (.string key)) :
    Calls Tryz.prog 92 #[.pointer (some ⟨N, 0, none⟩), .string l, .string s, .string tag] w fun e w' => e = .returned (.bool (decide (tag = macR f key l s))) ∧ Below w.heap.size w w' := by
  have h1 := kmac_any P N key l s hk hl hs w ht c
  generalize macR f key l s = m at *
  have h2 := fun W => P.same tag m htg W
  generalize decide (tag = m) = d at *
  clear P ht hk hl hs htg c
  go_enter Tryz.func92, Tryz.ntmps92
  go_wp2_with fail
  refine h1.mono ?_
  rintro e w1 ⟨rfl, hb⟩
  clear h1
  go_wp2_with fail
  refine (h2 _).mono ?_
  rintro e w2 ⟨rfl, hb2⟩
  have HB : Hid (Below w.heap.size w w2) := hb.trans (hb2.mono hb.size)
  clear h2 hb hb2
  go_wp2
  go_ret
  exact ⟨rfl, HB.out⟩
theorem put6_le (n : Nat) : (putS n 6).size ≤ 6 := by
  unfold putS
  split
  · rw [strOfNums_size, leI_length]; decide
  · exact Nat.zero_le _
theorem sealKey_any (P : Prims Tab f) (N : Nat) (key : ByteArray) (z : Nat) (hk : key.size ≤ 1048576) (w : World) (ht : Tab w) (c : w.cell? ⟨N, 0, none⟩ = some (.string key)) :
    Calls Tryz.prog 99 #[.pointer (some ⟨N, 0, none⟩), .int .i64 (z : Nat)] w fun e w' => e = .returned (.string (sealK f key z)) ∧ Below w.heap.size w w' := by
  have h0 := inBytes_any z w
  have hz := put6_le z
  have HR : Hid (sealK f key z = f.exp key (sealTT ++ putS z 6)) := rfl
  generalize putS z 6 = p at *
  have hz2 : (sealTT ++ p).size ≤ 1048576 := by rw [ByteArray.size_append, show sealTT.size = 5 from rfl]; omega
  have ha : ∀ w', (Op.stringOp .add ⟨#[115, 101, 97, 108, 32]⟩ p).run Tryz.prog w' = .ok (.string (sealTT ++ p)) w' := fun w' => run_string_add_sum (P := Tryz.prog) (w := w') _ _ (by rw [show (⟨#[115, 101, 97, 108, 32]⟩ : ByteArray).size = 5 from rfl]; omega)
  have hN := lt_of_cell c
  have h1 : ∀ W, Below w.heap.size w W → _ := fun W hW => keyFor_any P N key (sealTT ++ p) hk hz2 W (P.tab ht hW) ((World.cell?_of_block (a := ⟨N, 0, none⟩) (hW.block N hN)).trans c)
  generalize sealTT ++ p = q at *
  clear P ht hk c hz hz2
  go_enter Tryz.func99, Tryz.ntmps99
  go_wp2_with fail
  refine h0.mono ?_
  rintro e w1 ⟨rfl, hb⟩
  clear h0
  go_wp2_with fail
  refine (h1 _ hb).mono ?_
  rintro e w2 ⟨rfl, hb2⟩
  have HB : Hid (Below w.heap.size w w2) := hb.trans (hb2.mono hb.size)
  clear h1 hb hb2
  go_wp2
  go_ret
  exact ⟨by rw [HR.out]; rfl, HB.out⟩
theorem kseal_any (P : Prims Tab f) (N : Nat) (key : ByteArray) (z : Nat) (n a s : ByteArray) (hk : key.size ≤ 1048576) (hA : a.size ≤ 1048576) (hs : s.size ≤ 1048576) (w : World) (ht : Tab w) (c : w.cell? ⟨N, 0, none⟩ = some (.string key)) :
    Calls Tryz.prog 94 #[.pointer (some ⟨N, 0, none⟩), .int .i64 (z : Nat), .string n, .string a, .string s] w fun e w' => e = .returned (.tuple #[.string (f.shut (sealK f key z) n a s), .int .i64 (f.shutX (sealK f key z) n)]) ∧ Below w.heap.size w w' := by
  have h1 := sealKey_any P N key z hk w ht c
  have h2 := fun W => P.shut (sealK f key z) n a s hA hs W
  generalize sealK f key z = x at *
  generalize f.shut x n a s = t at *
  generalize f.shutX x n = e at *
  clear P ht hk c hA hs
  go_enter Tryz.func94, Tryz.ntmps94
  go_wp2_with fail
  refine h1.mono ?_
  rintro e w1 ⟨rfl, hb⟩
  clear h1
  go_wp2_with fail
  refine (h2 _).mono ?_
  rintro e w2 ⟨rfl, hb2⟩
  have HB : Hid (Below w.heap.size w w2) := hb.trans (hb2.mono hb.size)
  clear h2 hb hb2
  go_wp2
  go_ret2
  exact ⟨rfl, HB.out⟩
theorem kopen_any (P : Prims Tab f) (N : Nat) (key : ByteArray) (z : Nat) (n a s : ByteArray) (hk : key.size ≤ 1048576) (hA : a.size ≤ 1048576) (hs : s.size ≤ 1048576) (w : World) (ht : Tab w) (c : w.cell? ⟨N, 0, none⟩ = some (.string key)) :
    Calls Tryz.prog 93 #[.pointer (some ⟨N, 0, none⟩), .int .i64 (z : Nat), .string n, .string a, .string s] w fun e w' => e = .returned (.tuple #[.string (f.opn (sealK f key z) n a s), .int .i64 (f.opnX (sealK f key z) n a s)]) ∧ Below w.heap.size w w' := by
  have h1 := sealKey_any P N key z hk w ht c
  have h2 := fun W => P.opn (sealK f key z) n a s hA hs W
  generalize sealK f key z = x at *
  generalize f.opn x n a s = t at *
  generalize f.opnX x n a s = e at *
  clear P ht hk c hA hs
  go_enter Tryz.func93, Tryz.ntmps93
  go_wp2_with fail
  refine h1.mono ?_
  rintro e w1 ⟨rfl, hb⟩
  clear h1
  go_wp2_with fail
  refine (h2 _).mono ?_
  rintro e w2 ⟨rfl, hb2⟩
  have HB : Hid (Below w.heap.size w w2) := hb.trans (hb2.mono hb.size)
  clear h2 hb hb2
  go_wp2
  go_ret2
  exact ⟨rfl, HB.out⟩
end
end Go.Proofs.YtfmaajfohieneaaGreatDoor
