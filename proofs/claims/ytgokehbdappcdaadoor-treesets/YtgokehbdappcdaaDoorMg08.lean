/- The ideal vault in plain words: what it has numbered; how it lies in memory; and each way of its numbering. · The ideal vault opens. · The vault's calls, the ideal one behind them: what each tells, and what it has numbered then. · tree's small functions: above, height, four; and the hashes of a leaf, a node and a root, over ANY vault whose Hash is told. -/
import Derived.Test.YtgokehbdappcdaaDoorMg04
import Derived.Test.YtgokehbdappcdaaDoorMg07
import Derived.Test.YtgokehbdappcdaaDoorMg05
namespace Go.Proofs.YtgokehbdappcdaaDoor
set_option maxRecDepth 20000
open Go.RowKit Go.Maps

structure VS where
  texts : List ByteArray
  marks : List (ByteArray × ByteArray)
  seals : List Four

structure IdealAt (w : World) (F : Nat → Prop) (B N a b c : Nat) (S : VS) : Prop where
  row : Row w B 77 [.iface 85 (.pointer (some ⟨N, 0, none⟩))]
  num : Row w N 113 [.map (some a), .map (some b), .map (some c)]
  texts : Nums keyT 170 w a S.texts
  marks : Nums keyM 175 w b S.marks
  seals : Nums keyS 177 w c S.seals
  fB : F B
  fN : F N
  fa : F a
  fb : F b
  fc : F c
  ab : a ≠ b
  ac : a ≠ c
  bc : b ≠ c
def Ideal (w : World) (F : Nat → Prop) (B : Nat) (S : VS) : Prop := ∃ N a b c, IdealAt w F B N a b c S

theorem row_not_map {α : Type} [DecidableEq α] {key : α → Value} {K t : TypeId} {w : World} {g b : Nat} {l : List α} {cs : List Value} (h : Row w g t cs) (k : Nums key K w b l) : g ≠ b := by
  rintro rfl
  obtain ⟨D, ⟨es, cl, hb, _⟩, _⟩ := k
  have h : w.heap[g]? = _ := h
  rw [h] at hb
  cases hb
theorem IdealAt.keep {w w' : World} {F : Nat → Prop} {B N a b c : Nat} {S : VS} (h : IdealAt w F B N a b c S) (hk : ∀ k, k < w.heap.size → F k → w'.heap[k]? = w.heap[k]?) : IdealAt w' F B N a b c S :=
  { h with
    row := (hk B h.row.lt h.fB).trans h.row
    num := (hk N h.num.lt h.fN).trans h.num
    texts := h.texts.keep (hk a h.texts.lt h.fa)
    marks := h.marks.keep (hk b h.marks.lt h.fb)
    seals := h.seals.keep (hk c h.seals.lt h.fc) }
theorem Ideal.keep {w w' : World} {F : Nat → Prop} {B : Nat} {S : VS} (h : Ideal w F B S) (hk : ∀ k, k < w.heap.size → F k → w'.heap[k]? = w.heap[k]?) : Ideal w' F B S := by
  obtain ⟨N, a, b, c, h⟩ := h
  exact ⟨N, a, b, c, h.keep hk⟩
theorem Ideal.below {w w' : World} {F : Nat → Prop} {B : Nat} {S : VS} (h : Ideal w F B S) (hb : Below w.heap.size w w') : Ideal w' F B S := h.keep fun k hk _ => hb.block k hk
theorem Ideal.mono {w : World} {F F' : Nat → Prop} {B : Nat} {S : VS} (h : Ideal w F B S) (hF : ∀ k, k < w.heap.size → F k → F' k) : Ideal w F' B S := by
  obtain ⟨N, a, b, c, h⟩ := h
  exact ⟨N, a, b, c, { h with fB := hF _ h.row.lt h.fB, fN := hF _ h.num.lt h.fN, fa := hF _ h.texts.lt h.fa, fb := hF _ h.marks.lt h.fb, fc := hF _ h.seals.lt h.fc }⟩
theorem Ideal.lt {w : World} {F : Nat → Prop} {B : Nat} {S : VS} (h : Ideal w F B S) : B < w.heap.size := by
  obtain ⟨N, a, b, c, h⟩ := h
  exact h.row.lt
theorem Touch.of_only {F : Nat → Prop} {w w' : World} {b : Nat} (h : Only b w w') (hb : F b) : Touch F w w' := ⟨h.1, fun k hk hn => h.2 k hk fun e => hn (e ▸ hb)⟩
theorem IdealAt.addT {w w' : World} {F : Nat → Prop} {B N a b c : Nat} {S : VS} {l : List ByteArray} (h : IdealAt w F B N a b c S) (ho : Only a w w') (hn : Nums keyT 170 w' a l) : IdealAt w' F B N a b c { S with texts := l } :=
  { h with
    row := h.row.only ho (row_not_map h.row h.texts)
    num := h.num.only ho (row_not_map h.num h.texts)
    texts := hn
    marks := h.marks.keep (ho.2 _ h.marks.lt h.ab.symm)
    seals := h.seals.keep (ho.2 _ h.seals.lt h.ac.symm) }
theorem IdealAt.addM {w w' : World} {F : Nat → Prop} {B N a b c : Nat} {S : VS} {l : List (ByteArray × ByteArray)} (h : IdealAt w F B N a b c S) (ho : Only b w w') (hn : Nums keyM 175 w' b l) : IdealAt w' F B N a b c { S with marks := l } :=
  { h with
    row := h.row.only ho (row_not_map h.row h.marks)
    num := h.num.only ho (row_not_map h.num h.marks)
    texts := h.texts.keep (ho.2 _ h.texts.lt h.ab)
    marks := hn
    seals := h.seals.keep (ho.2 _ h.seals.lt h.bc.symm) }
theorem IdealAt.addS {w w' : World} {F : Nat → Prop} {B N a b c : Nat} {S : VS} {l : List Four} (h : IdealAt w F B N a b c S) (ho : Only c w w') (hn : Nums keyS 177 w' c l) : IdealAt w' F B N a b c { S with seals := l } :=
  { h with
    row := h.row.only ho (row_not_map h.row h.seals)
    num := h.num.only ho (row_not_map h.num h.seals)
    texts := h.texts.keep (ho.2 _ h.texts.lt h.ac)
    marks := h.marks.keep (ho.2 _ h.marks.lt h.bc)
    seals := hn }

/-- The ways of the numbering. -/
theorem nhash_any (N a : Nat) (l : List ByteArray) (s : ByteArray) (hs : fitT s) (hl : l.length ≤ 1000000) (w : World) (c0 : w.cell? ⟨N, 0, none⟩ = some (.map (some a))) (h : Nums keyT 170 w a l) :
    Calls Tryd.prog 99 #[.pointer (some ⟨N, 0, none⟩), .string s] w fun e w' => e = .returned (.string (wideS (numOf (addN l s) s) 32)) ∧ Nums keyT 170 w' a (addN l s) ∧ Only a w w' := by
  have hc := countT_any a l s hs hl w h
  have hn := Nat.le_trans (numOf_le s (addN l s)) (addN_length l s)
  have hw := fun W => wide_any (numOf (addN l s) s) 32 (by omega) (by decide) (by decide) W
  generalize numOf (addN l s) s = n at *
  simp only [keyT] at hc
  clear h hs
  go_enter Tryd.func99, Tryd.ntmps99
  go_wp2_with fail
  refine hc.mono ?_
  rintro e w1 ⟨rfl, hN, hO⟩
  clear hc c0
  go_wp2_with fail
  refine (hw _).mono ?_
  rintro e w2 ⟨rfl, hb⟩
  have HF : Hid (Nums keyT 170 w2 a (addN l s) ∧ Only a w w2) := ⟨hN.keep (hb.block a hN.lt), hO.trans (Only.of_below hb)⟩
  clear hN hO hb hw
  go_wp2
  go_ret
  exact ⟨rfl, HF.out⟩
end Go.Proofs.YtgokehbdappcdaaDoor

namespace Go.Proofs.YtgokehbdappcdaaDoor
set_option maxRecDepth 20000
open Go.RowKit Go.Maps

theorem lt_of_cell {w : World} {N i : Nat} {v : Value} (h : w.cell? ⟨N, i, none⟩ = some v) : N < w.heap.size := by
  by_cases hn : N < w.heap.size
  · exact hn
  · rw [World.cell?] at h
    simp [Array.getElem?_eq_none (Nat.le_of_not_lt hn)] at h
/-- What stands ahead of the last 16 bytes, and these. -/
def headS (s : ByteArray) : ByteArray := s.extract 0 (s.size - 16)
def tagS16 (s : ByteArray) : ByteArray := s.extract (s.size - 16) s.size
end Go.Proofs.YtgokehbdappcdaaDoor

namespace Go.Proofs.YtgokehbdappcdaaDoor
set_option maxRecDepth 20000
open Go.RowKit Go.Maps

theorem given_any (B : Nat) (t : TypeId) (v : Value) (w : World) (c : w.cell? ⟨B, 0, none⟩ = some (.iface t v)) : Calls Tryd.prog 51 #[.pointer (some ⟨B, 0, none⟩)] w fun e w' => e = .returned (.bool true) ∧ w' = w := by
  go_enter Tryd.func51, Tryd.ntmps51
  go_wp2_with fail
  go_ret
  exact ⟨rfl, rfl⟩
theorem given_nil (w : World) : Calls Tryd.prog 51 #[.pointer none] w fun e w' => e = .returned (.bool false) ∧ w' = w := by
  go_enter Tryd.func51, Tryd.ntmps51
  go_wp2_with fail
  go_ret
  exact ⟨rfl, rfl⟩
theorem given_zero (B : Nat) (w : World) (c : w.cell? ⟨B, 0, none⟩ = some .nilIface) : Calls Tryd.prog 51 #[.pointer (some ⟨B, 0, none⟩)] w fun e w' => e = .returned (.bool false) ∧ w' = w := by
  go_enter Tryd.func51, Tryd.ntmps51
  go_wp2_with fail
  go_ret
  exact ⟨rfl, rfl⟩

def hashP (S : VS) (s : ByteArray) : VS := { S with texts := addN S.texts s }
def hashS (S : VS) (s : ByteArray) : ByteArray := wideS (numOf (addN S.texts s) s) 32
def macP (S : VS) (l s : ByteArray) : VS := { S with marks := addN S.marks (l, s) }
def macS (S : VS) (l s : ByteArray) : ByteArray := wideS (numOf (addN S.marks (l, s)) (l, s)) 16
def madeB (S : VS) (l s tag : ByteArray) : Bool := decide (numOf S.marks (l, s) ≠ 0 ∧ tag = wideS (numOf S.marks (l, s)) 16)
/-- There is such a salt, and the nonce has its length. -/
def fitB (z : Int) (n : ByteArray) : Bool := decide (0 ≤ z ∧ z ≤ 281474976710655 ∧ n.size = 12)
def sealP (S : VS) (z : Int) (n a s : ByteArray) : VS := if fitB z n then { S with seals := addN S.seals ⟨z, n, a, s⟩ } else S
def sealS (S : VS) (z : Int) (n a s : ByteArray) : ByteArray := if fitB z n then s ++ wideS (numOf (addN S.seals ⟨z, n, a, s⟩) ⟨z, n, a, s⟩) 16 else ⟨#[]⟩
def sealE (z : Int) (n : ByteArray) : Int := if fitB z n then 0 else 1
/-- What is opened: the number of the four, and the tag is that. -/
def openB (S : VS) (z : Int) (n a s : ByteArray) : Bool := decide (numOf S.seals ⟨z, n, a, headS s⟩ ≠ 0 ∧ tagS16 s = wideS (numOf S.seals ⟨z, n, a, headS s⟩) 16)
def openS (S : VS) (z : Int) (n a s : ByteArray) : ByteArray := if fitB z n then (if s.size < 16 then ⟨#[]⟩ else if openB S z n a s then headS s else ⟨#[]⟩) else ⟨#[]⟩
def openE (S : VS) (z : Int) (n a s : ByteArray) : Int := if fitB z n then (if s.size < 16 then 3 else if openB S z n a s then 0 else 10) else 1

theorem vhash_any (B : Nat) (F : Nat → Prop) (S : VS) (s : ByteArray) (hs : fitT s) (hl : S.texts.length ≤ 1000000) (w : World) (hp : Ideal w F B S) :
    Calls Tryd.prog 35 #[.pointer (some ⟨B, 0, none⟩), .string s] w fun e w' => e = .returned (.string (hashS S s)) ∧ Ideal w' F B (hashP S s) ∧ Touch F w w' := by
  obtain ⟨N, a, b, c, h⟩ := hp
  have c0 : w.cell? ⟨B, 0, none⟩ = some (.iface 85 (.pointer (some ⟨N, 0, none⟩))) := h.row.cell 0
  have hg := given_any B _ _ w c0
  have hn := nhash_any N a S.texts s hs hl w (h.num.cell 0) h.texts
  have hm : ∀ w : World, (method 280 85 (.pointer (some ⟨N, 0, none⟩)) "grapnel/vault.hash").run Tryd.prog w = .ok (99, .pointer (some ⟨N, 0, none⟩)) w := fun _ => by kernel_rfl
  have HK : Hid (∀ w', Nums keyT 170 w' a (addN S.texts s) → Only a w w' → Ideal w' F B (hashP S s) ∧ Touch F w w') := fun w' h1 h2 => ⟨⟨N, a, b, c, h.addT h2 h1⟩, Touch.of_only h2 h.fa⟩
  unfold hashS
  generalize wideS (numOf (addN S.texts s) s) 32 = u at *
  clear h hs
  go_enter Tryd.func35, Tryd.ntmps35
  go_wp2_with fail
  refine hg.mono ?_
  rintro e w1 ⟨rfl, rfl⟩
  clear hg
  go_wp2_with fail
  refine hn.mono ?_
  rintro e w2 ⟨rfl, h1, h2⟩
  have HF : Hid _ := HK.out w2 h1 h2
  clear h1 h2 hn
  go_wp2
  go_ret
  exact ⟨rfl, HF.out⟩
end Go.Proofs.YtgokehbdappcdaaDoor

namespace Go.Proofs.YtgokehbdappcdaaDoor
set_option maxRecDepth 20000
open Go.RowKit

/-- A vault that hashes: how it lies in memory (F: on which blocks that hangs; G: which of them a call may change), what it tells of a text, which texts it was handed, and how many. -/
structure HK (σ : Type) where
  V : World → (Nat → Prop) → (Nat → Prop) → Nat → σ → Prop
  h : σ → ByteArray → ByteArray
  D : σ → ByteArray → Prop
  n : σ → Nat
/-- One state behind another. -/
def HK.ext {σ : Type} (K : HK σ) (S S' : σ) : Prop := ∀ x, K.D S x → K.D S' x ∧ K.h S' x = K.h S x
theorem HK.ext_refl {σ : Type} (K : HK σ) (S : σ) : K.ext S S := fun _ h => ⟨h, rfl⟩
theorem HK.ext_trans {σ : Type} {K : HK σ} {S S1 S2 : σ} (a : K.ext S S1) (b : K.ext S1 S2) : K.ext S S2 := fun x h => ⟨(b x (a x h).1).1, (b x (a x h).1).2.trans (a x h).2⟩
def HPost {σ : Type} (K : HK σ) (w : World) (F G : Nat → Prop) (B : Nat) (S : σ) (x : ByteArray) (e : Ending) (w' : World) : Prop :=
  ∃ S', e = .returned (.string (K.h S' x)) ∧ K.V w' F G B S' ∧ Touch G w w' ∧ K.ext S S' ∧ K.D S' x ∧ K.n S' ≤ K.n S + 1
structure HKOk {σ : Type} (K : HK σ) : Prop where
  keep : ∀ {w w' : World} {F G : Nat → Prop} {B : Nat} {S : σ}, K.V w F G B S → (∀ k, k < w.heap.size → F k → w'.heap[k]? = w.heap[k]?) → K.V w' F G B S
  call : ∀ (w : World) (F G : Nat → Prop) (B : Nat) (S : σ) (x : ByteArray), x.size ≤ 1048576 → K.n S ≤ 1000000 → K.V w F G B S → Calls Tryd.prog 35 #[.pointer (some ⟨B, 0, none⟩), .string x] w (HPost K w F G B S x)
  size : ∀ (S : σ) (x : ByteArray), K.D S x → K.n S ≤ 2000000 → (K.h S x).size = 32
theorem HKOk.below {σ : Type} {K : HK σ} (o : HKOk K) {w w' : World} {F G : Nat → Prop} {B : Nat} {S : σ} (v : K.V w F G B S) (hb : Below w.heap.size w w') : K.V w' F G B S := o.keep v fun k hk _ => hb.block k hk
theorem Touch.pre {G : Nat → Prop} {w w1 w2 : World} (hb : Below w.heap.size w w1) (t : Touch G w1 w2) : Touch G w w2 := (Touch.of_below hb).trans (t.mono fun _ h => .inl h)
theorem Touch.post {G : Nat → Prop} {w w1 w2 : World} (t : Touch G w w1) (hb : Below w1.heap.size w1 w2) : Touch G w w2 := t.trans (Touch.of_below hb)

theorem above_any (n : Nat) (hn : n ≤ 1000000000) (w : World) : Calls Tryd.prog 36 #[.int .i64 (n : Int)] w fun e w' => e = .returned (.int .i64 (upN n : Nat)) ∧ w' = w := by
  obtain ⟨q, hq⟩ : ∃ q : Int, q = ((upN n : Nat) : Int) := ⟨_, rfl⟩
  rw [← hq]
  have m1 : IntKind.i64.wrap ((n : Int) + 4) = (n : Int) + 4 := by rw [IntKind.wrap_i64]; omega
  have m2 : IntKind.i64.wrap ((n : Int) + 4 - 1) = (n : Int) + 4 - 1 := by rw [IntKind.wrap_i64]; omega
  have m3 : ((n : Int) + 4 - 1).tdiv 4 = q := by rw [Int.tdiv_eq_ediv_of_nonneg (by omega), hq, upN]; omega
  have m4 : ((n : Int) + 4 - 1) / 4 = q := by rw [hq, upN]; omega
  have m5 : IntKind.i64.wrap q = q := by rw [IntKind.wrap_i64, hq, upN]; omega
  clear hq
  go_enter Tryd.func36, Tryd.ntmps36
  go_wp2
  go_ret
  exact ⟨rfl, rfl⟩
set_option maxHeartbeats 400000 in
theorem height_any (n : Nat) (hn : n ≤ 1000000000) (w : World) : Calls Tryd.prog 17 #[.int .i64 (n : Int)] w fun e w' => e = .returned (.int .i64 (hgt n : Nat)) ∧ w' = w := by
  obtain ⟨q, hq⟩ : ∃ q : Nat, q = hgt n := ⟨_, rfl⟩
  have hql := hgt_le n
  rw [← hq] at hql ⊢
  have HQ : Hid (0 + hgt n = q) := by show _ = _; omega
  clear hq
  go_enter Tryd.func17, Tryd.ntmps17
  go_wp2_with fail
  go_loopw [0, 3] (fun v u wr => ∃ (m r : Nat), m ≤ n ∧ v = .int .i64 (m : Int) ∧ u = .int .i64 (r : Int) ∧ r + hgt m = q ∧ wr = w) (fun v _ _ => (intOf v).toNat)
  case atStart => exact ⟨n, 0, Nat.le_refl _, rfl, rfl, HQ.out, rfl⟩
  case round =>
    clear HQ
    obtain ⟨m, r, hm, rfl, rfl, he, rfl⟩ := hrel
    by_cases h1 : 1 < m
    · have h2 : (1 : Int) < m := by omega
      have ha := fun w => above_any m (by omega) w
      have hu : upN m < m := by unfold upN; omega
      have he2 : r + 1 + hgt (upN m) = q := by rw [hgt_step h1] at he; omega
      have HE : Hid (r + 1 + hgt (upN m) = q) := he2
      have m2 : IntKind.i64.wrap ((r : Int) + 1) = (r : Int) + 1 := by rw [IntKind.wrap_i64]; omega
      clear he he2
      generalize upN m = k at *
      go_wp2_with fail
      refine (ha _).mono ?_
      rintro e w2 ⟨rfl, rfl⟩
      go_wp2
      go_roundw
      case rel => exact ⟨k, r + 1, by omega, rfl, by go_num, HE.out, trivial⟩
      case measure => simp [intOf]; omega
    · have h2 : ¬ (1 : Int) < m := by omega
      rw [hgt_end h1] at he
      obtain rfl : r = q := by omega
      go_wp2
      go_ret
      exact ⟨rfl, rfl⟩
theorem four_any (n i : Nat) (hi : i ≤ 1000000000) (w : World) : Calls Tryd.prog 37 #[.int .i64 (n : Int), .int .i64 (i : Int)] w fun e w' => e = .returned (.tuple #[.int .i64 (4 * (i / 4) : Nat), .int .i64 (min (4 * (i / 4) + 4) n : Nat)]) ∧ w' = w := by
  obtain ⟨r, hr⟩ : ∃ r : Nat, r = i % 4 := ⟨_, rfl⟩
  obtain ⟨f, hf⟩ : ∃ f : Nat, f = 4 * (i / 4) := ⟨_, rfl⟩
  obtain ⟨t, ht⟩ : ∃ t : Nat, t = min (4 * (i / 4) + 4) n := ⟨_, rfl⟩
  rw [← ht, ← hf]
  have m1 : ((i : Int).tmod 4) = r := by rw [Int.tmod_eq_emod_of_nonneg (by omega)]; omega
  have m1' : ((i : Int) % 4) = r := by omega
  have m2 : IntKind.i64.wrap (r : Int) = r := by rw [IntKind.wrap_i64]; omega
  have m3 : IntKind.i64.wrap ((i : Int) - r) = f := by rw [IntKind.wrap_i64]; omega
  have m4 : IntKind.i64.wrap ((f : Int) + 4) = (f : Int) + 4 := by rw [IntKind.wrap_i64]; omega
  rw [← hf] at ht
  have mn : min ((f : Int) + 4) (n : Int) = (t : Int) := by omega
  clear hr hf ht
  go_enter Tryd.func37, Tryd.ntmps37
  go_wp2
  go_ret2
  exact ⟨rfl, rfl⟩

section
variable {σ : Type} {K : HK σ}
set_option maxHeartbeats 400000 in
theorem leafHash_any (o : HKOk K) (w : World) (F G : Nat → Prop) (B : Nat) (S : σ) (s : ByteArray) (hs : s.size ≤ 1048000) (hn : K.n S ≤ 1000000) (v : K.V w F G B S) :
    Calls Tryd.prog 16 #[.pointer (some ⟨B, 0, none⟩), .string s] w (HPost K w F G B S (leafT s)) := by
  have hadd : ∀ w', (Op.stringOp .add ⟨#[0]⟩ s).run Tryd.prog w' = .ok (.string (leafT s)) w' := fun w' => run_string_add_sum (P := Tryd.prog) (w := w') ⟨#[0]⟩ s (by show 1 + s.size ≤ _; omega)
  have hc := o.call w F G B S (leafT s) (by unfold leafT; rw [ByteArray.size_append]; show 1 + s.size ≤ _; omega) hn v
  generalize leafT s = x at *
  clear v
  go_enter Tryd.func16, Tryd.ntmps16
  go_wp2_with fail
  refine hc.mono ?_
  rintro e w1 ⟨S', rfl, h1⟩
  have HF : Hid _ := h1
  clear hc h1
  go_wp2
  go_ret
  exact ⟨S', rfl, HF.out⟩
set_option maxHeartbeats 400000 in
theorem nodeHash_any (o : HKOk K) (w : World) (F G : Nat → Prop) (B : Nat) (S : σ) (bk of c : Nat) (xs : List ByteArray) (hcells : ∀ (j : Nat) x, xs[j]? = some x → w.cell? ⟨bk, of + j, none⟩ = some (.string x)) (hbk : bk < w.heap.size) (hcap : xs.length ≤ c) (hx : xs.length ≤ 1000000) (hs : (catB xs).size ≤ 1048000) (hn : K.n S ≤ 1000000) (v : K.V w F G B S) :
    Calls Tryd.prog 29 #[.pointer (some ⟨B, 0, none⟩), .slice (some ⟨bk, of, none⟩) xs.length c] w (HPost K w F G B S (nodeT xs)) := by
  have hadd : ∀ w', (Op.stringOp .add ⟨#[1]⟩ (catB xs)).run Tryd.prog w' = .ok (.string (nodeT xs)) w' := fun w' => run_string_add_sum (P := Tryd.prog) (w := w') ⟨#[1]⟩ (catB xs) (by show 1 + (catB xs).size ≤ _; omega)
  have hj := join_any bk of c xs w hcells hbk (by omega) hcap (by omega)
  have hc := fun w' hv => o.call w' F G B S (nodeT xs) (by unfold nodeT; rw [ByteArray.size_append]; show 1 + (catB xs).size ≤ _; omega) hn hv
  have HV : Hid (K.V w F G B S) := v
  generalize nodeT xs = x at *
  generalize catB xs = y at *
  generalize xs.length = len at *
  clear v hcells
  go_enter Tryd.func29, Tryd.ntmps29
  go_wp2_with fail
  refine hj.mono ?_
  rintro e w1 ⟨rfl, hb⟩
  clear hj
  go_wp2_with fail
  refine (hc w1 (o.below HV.out hb)).mono ?_
  rintro e w2 ⟨S', rfl, h1, h2, h3⟩
  have HF : Hid (K.V w2 F G B S' ∧ Touch G w w2 ∧ K.ext S S' ∧ K.D S' x ∧ K.n S' ≤ K.n S + 1) := ⟨h1, h2.pre hb, h3⟩
  clear hc h1 h2 h3 hb HV
  go_wp2
  go_ret
  exact ⟨S', rfl, HF.out⟩
set_option maxHeartbeats 400000 in
theorem rootHash_any (o : HKOk K) (w : World) (F G : Nat → Prop) (B : Nat) (S : σ) (n : Nat) (t : ByteArray) (hm : n < 281474976710656) (hs : t.size ≤ 1048000) (hn : K.n S ≤ 1000000) (v : K.V w F G B S) :
    Calls Tryd.prog 22 #[.pointer (some ⟨B, 0, none⟩), .int .i64 (n : Int), .string t] w (HPost K w F G B S (rootT n t)) := by
  have hz := put6_size hm
  have hp := fun w => put_any (n : Int) 6 w
  have ha1 : ∀ w', (Op.stringOp .add ⟨#[2]⟩ (putS n 6)).run Tryd.prog w' = .ok (.string (⟨#[2]⟩ ++ putS n 6)) w' := fun w' => run_string_add_sum (P := Tryd.prog) (w := w') ⟨#[2]⟩ (putS n 6) (by show 1 + (putS n 6).size ≤ _; omega)
  have hz2 : ((⟨#[2]⟩ : ByteArray) ++ putS n 6).size = 7 := by rw [ByteArray.size_append, hz]; rfl
  have ha2 : ∀ w', (Op.stringOp .add (⟨#[2]⟩ ++ putS n 6) t).run Tryd.prog w' = .ok (.string (rootT n t)) w' := fun w' => run_string_add_sum (P := Tryd.prog) (w := w') (⟨#[2]⟩ ++ putS n 6) t (by omega)
  have hc := fun w' hv => o.call w' F G B S (rootT n t) (by unfold rootT; rw [ByteArray.size_append, hz2]; omega) hn hv
  have HV : Hid (K.V w F G B S) := v
  generalize rootT n t = x at *
  generalize (⟨#[2]⟩ : ByteArray) ++ putS n 6 = y at *
  generalize putS n 6 = z at *
  generalize putE n 6 = E at *
  clear v hz hz2
  go_enter Tryd.func22, Tryd.ntmps22
  go_wp2_with fail
  refine (hp _).mono ?_
  rintro e w1 ⟨rfl, hb⟩
  clear hp
  go_wp2_with fail
  refine (hc w1 (o.below HV.out hb)).mono ?_
  rintro e w2 ⟨S', rfl, h1, h2, h3⟩
  have HF : Hid (K.V w2 F G B S' ∧ Touch G w w2 ∧ K.ext S S' ∧ K.D S' x ∧ K.n S' ≤ K.n S + 1) := ⟨h1, h2.pre hb, h3⟩
  clear hc h1 h2 h3 hb HV
  go_wp2
  go_ret
  exact ⟨S', rfl, HF.out⟩
end
end Go.Proofs.YtgokehbdappcdaaDoor
