/- The ideal vault in plain words: what it has numbered; how it lies in memory; and each way of its numbering. · The ideal vault opens. · The vault's calls, the ideal one behind them: what each tells, and what it has numbered then. -/
import Derived.Test.YtgfhaadcajlifaaDoorMg04
import Derived.Test.YtgfhaadcajlifaaDoorMg07
namespace Go.Proofs.YtgfhaadcajlifaaDoor
set_option maxRecDepth 20000
open Go.RowKit Go.Maps

structure VS where
  texts : List ByteArray
  marks : List (ByteArray × ByteArray)
  seals : List Four

structure IdealAt (w : World) (F : Nat → Prop) (B N a b c : Nat) (S : VS) : Prop where
  row : Row w B 84 [.iface 90 (.pointer (some ⟨N, 0, none⟩))]
  num : Row w N 120 [.map (some a), .map (some b), .map (some c)]
  texts : Nums keyT 177 w a S.texts
  marks : Nums keyM 182 w b S.marks
  seals : Nums keyS 184 w c S.seals
  fB : F B
  fN : F N
  fa : F a
  fb : F b
  fc : F c
  ab : a ≠ b
  ac : a ≠ c
  bc : b ≠ c
def Ideal (w : World) (F : Nat → Prop) (B : Nat) (S : VS) : Prop := ∃ N a b c, IdealAt w F B N a b c S

theorem row_not_map {α : Type} [DecidableEq α] {key : α → Value} {K t : TypeId} {w : World} {g b : Nat} {l : List α} {cs : List Value} (h : Row w g t cs) (k : Nums key K w b l) : g ≠ b := by
  rintro rfl
  obtain ⟨D, ⟨es, cl, hb, _⟩, _⟩ := k
  have h : w.heap[g]? = _ := h
  rw [h] at hb
  cases hb
theorem IdealAt.keep {w w' : World} {F : Nat → Prop} {B N a b c : Nat} {S : VS} (h : IdealAt w F B N a b c S) (hk : ∀ k, k < w.heap.size → F k → w'.heap[k]? = w.heap[k]?) : IdealAt w' F B N a b c S :=
  { h with
    row := (hk B h.row.lt h.fB).trans h.row
    num := (hk N h.num.lt h.fN).trans h.num
    texts := h.texts.keep (hk a h.texts.lt h.fa)
    marks := h.marks.keep (hk b h.marks.lt h.fb)
    seals := h.seals.keep (hk c h.seals.lt h.fc) }
theorem Ideal.keep {w w' : World} {F : Nat → Prop} {B : Nat} {S : VS} (h : Ideal w F B S) (hk : ∀ k, k < w.heap.size → F k → w'.heap[k]? = w.heap[k]?) : Ideal w' F B S := by
  obtain ⟨N, a, b, c, h⟩ := h
  exact ⟨N, a, b, c, h.keep hk⟩
theorem Ideal.below {w w' : World} {F : Nat → Prop} {B : Nat} {S : VS} (h : Ideal w F B S) (hb : Below w.heap.size w w') : Ideal w' F B S := h.keep fun k hk _ => hb.block k hk
theorem Ideal.mono {w : World} {F F' : Nat → Prop} {B : Nat} {S : VS} (h : Ideal w F B S) (hF : ∀ k, k < w.heap.size → F k → F' k) : Ideal w F' B S := by
  obtain ⟨N, a, b, c, h⟩ := h
  exact ⟨N, a, b, c, { h with fB := hF _ h.row.lt h.fB, fN := hF _ h.num.lt h.fN, fa := hF _ h.texts.lt h.fa, fb := hF _ h.marks.lt h.fb, fc := hF _ h.seals.lt h.fc }⟩
theorem Ideal.lt {w : World} {F : Nat → Prop} {B : Nat} {S : VS} (h : Ideal w F B S) : B < w.heap.size := by
  obtain ⟨N, a, b, c, h⟩ := h
  exact h.row.lt
theorem Touch.of_only {F : Nat → Prop} {w w' : World} {b : Nat} (h : Only b w w') (hb : F b) : Touch F w w' := ⟨h.1, fun k hk hn => h.2 k hk fun e => hn (e ▸ hb)⟩
theorem IdealAt.addT {w w' : World} {F : Nat → Prop} {B N a b c : Nat} {S : VS} {l : List ByteArray} (h : IdealAt w F B N a b c S) (ho : Only a w w') (hn : Nums keyT 177 w' a l) : IdealAt w' F B N a b c { S with texts := l } :=
  { h with
    row := h.row.only ho (row_not_map h.row h.texts)
    num := h.num.only ho (row_not_map h.num h.texts)
    texts := hn
    marks := h.marks.keep (ho.2 _ h.marks.lt h.ab.symm)
    seals := h.seals.keep (ho.2 _ h.seals.lt h.ac.symm) }
theorem IdealAt.addM {w w' : World} {F : Nat → Prop} {B N a b c : Nat} {S : VS} {l : List (ByteArray × ByteArray)} (h : IdealAt w F B N a b c S) (ho : Only b w w') (hn : Nums keyM 182 w' b l) : IdealAt w' F B N a b c { S with marks := l } :=
  { h with
    row := h.row.only ho (row_not_map h.row h.marks)
    num := h.num.only ho (row_not_map h.num h.marks)
    texts := h.texts.keep (ho.2 _ h.texts.lt h.ab)
    marks := hn
    seals := h.seals.keep (ho.2 _ h.seals.lt h.bc.symm) }
theorem IdealAt.addS {w w' : World} {F : Nat → Prop} {B N a b c : Nat} {S : VS} {l : List Four} (h : IdealAt w F B N a b c S) (ho : Only c w w') (hn : Nums keyS 184 w' c l) : IdealAt w' F B N a b c { S with seals := l } :=
  { h with
    row := h.row.only ho (row_not_map h.row h.seals)
    num := h.num.only ho (row_not_map h.num h.seals)
    texts := h.texts.keep (ho.2 _ h.texts.lt h.ac)
    marks := h.marks.keep (ho.2 _ h.marks.lt h.bc)
    seals := hn }

/-- The ways of the numbering. -/
theorem nhash_any (N a : Nat) (l : List ByteArray) (s : ByteArray) (hs : fitT s) (hl : l.length ≤ 1000000) (w : World) (c0 : w.cell? ⟨N, 0, none⟩ = some (.map (some a))) (h : Nums keyT 177 w a l) :
    Calls Tryd.prog 105 #[.pointer (some ⟨N, 0, none⟩), .string s] w fun e w' => e = .returned (.string (wideS (numOf (addN l s) s) 32)) ∧ Nums keyT 177 w' a (addN l s) ∧ Only a w w' := by
  have hc := countT_any a l s hs hl w h
  have hn := Nat.le_trans (numOf_le s (addN l s)) (addN_length l s)
  have hw := fun W => wide_any (numOf (addN l s) s) 32 (by omega) (by decide) (by decide) W
  generalize numOf (addN l s) s = n at *
  simp only [keyT] at hc
  clear h hs
  go_enter Tryd.func105, Tryd.ntmps105
  go_wp2_with fail
  refine hc.mono ?_
  rintro e w1 ⟨rfl, hN, hO⟩
  clear hc c0
  go_wp2_with fail
  refine (hw _).mono ?_
  rintro e w2 ⟨rfl, hb⟩
  have HF : Hid (Nums keyT 177 w2 a (addN l s) ∧ Only a w w2) := ⟨hN.keep (hb.block a hN.lt), hO.trans (Only.of_below hb)⟩
  clear hN hO hb hw
  go_wp2
  go_ret
  exact ⟨rfl, HF.out⟩
end Go.Proofs.YtgfhaadcajlifaaDoor

namespace Go.Proofs.YtgfhaadcajlifaaDoor
set_option maxRecDepth 20000
open Go.RowKit Go.Maps

theorem lt_of_cell {w : World} {N i : Nat} {v : Value} (h : w.cell? ⟨N, i, none⟩ = some v) : N < w.heap.size := by
  by_cases hn : N < w.heap.size
  · exact hn
  · rw [World.cell?] at h
    simp [Array.getElem?_eq_none (Nat.le_of_not_lt hn)] at h
/-- What stands ahead of the last 16 bytes, and these. -/
def headS (s : ByteArray) : ByteArray := s.extract 0 (s.size - 16)
def tagS16 (s : ByteArray) : ByteArray := s.extract (s.size - 16) s.size
end Go.Proofs.YtgfhaadcajlifaaDoor

namespace Go.Proofs.YtgfhaadcajlifaaDoor
set_option maxRecDepth 20000
open Go.RowKit Go.Maps

theorem given_any (B : Nat) (t : TypeId) (v : Value) (w : World) (c : w.cell? ⟨B, 0, none⟩ = some (.iface t v)) : Calls Tryd.prog 57 #[.pointer (some ⟨B, 0, none⟩)] w fun e w' => e = .returned (.bool true) ∧ w' = w := by
  go_enter Tryd.func57, Tryd.ntmps57
  go_wp2_with fail
  go_ret
  exact ⟨rfl, rfl⟩
theorem given_nil (w : World) : Calls Tryd.prog 57 #[.pointer none] w fun e w' => e = .returned (.bool false) ∧ w' = w := by
  go_enter Tryd.func57, Tryd.ntmps57
  go_wp2_with fail
  go_ret
  exact ⟨rfl, rfl⟩
theorem given_zero (B : Nat) (w : World) (c : w.cell? ⟨B, 0, none⟩ = some .nilIface) : Calls Tryd.prog 57 #[.pointer (some ⟨B, 0, none⟩)] w fun e w' => e = .returned (.bool false) ∧ w' = w := by
  go_enter Tryd.func57, Tryd.ntmps57
  go_wp2_with fail
  go_ret
  exact ⟨rfl, rfl⟩

def hashP (S : VS) (s : ByteArray) : VS := { S with texts := addN S.texts s }
def hashS (S : VS) (s : ByteArray) : ByteArray := wideS (numOf (addN S.texts s) s) 32
def macP (S : VS) (l s : ByteArray) : VS := { S with marks := addN S.marks (l, s) }
def macS (S : VS) (l s : ByteArray) : ByteArray := wideS (numOf (addN S.marks (l, s)) (l, s)) 16
def madeB (S : VS) (l s tag : ByteArray) : Bool := decide (numOf S.marks (l, s) ≠ 0 ∧ tag = wideS (numOf S.marks (l, s)) 16)
/-- There is such a salt, and the nonce has its length. -/
def fitB (z : Int) (n : ByteArray) : Bool := decide (0 ≤ z ∧ z ≤ 281474976710655 ∧ n.size = 12)
def sealP (S : VS) (z : Int) (n a s : ByteArray) : VS := if fitB z n then { S with seals := addN S.seals ⟨z, n, a, s⟩ } else S
def sealS (S : VS) (z : Int) (n a s : ByteArray) : ByteArray := if fitB z n then s ++ wideS (numOf (addN S.seals ⟨z, n, a, s⟩) ⟨z, n, a, s⟩) 16 else ⟨#[]⟩
def sealE (z : Int) (n : ByteArray) : Int := if fitB z n then 0 else 1
/-- What is opened: the number of the four, and the tag is that. -/
def openB (S : VS) (z : Int) (n a s : ByteArray) : Bool := decide (numOf S.seals ⟨z, n, a, headS s⟩ ≠ 0 ∧ tagS16 s = wideS (numOf S.seals ⟨z, n, a, headS s⟩) 16)
def openS (S : VS) (z : Int) (n a s : ByteArray) : ByteArray := if fitB z n then (if s.size < 16 then ⟨#[]⟩ else if openB S z n a s then headS s else ⟨#[]⟩) else ⟨#[]⟩
def openE (S : VS) (z : Int) (n a s : ByteArray) : Int := if fitB z n then (if s.size < 16 then 3 else if openB S z n a s then 0 else 10) else 1

theorem vhash_any (B : Nat) (F : Nat → Prop) (S : VS) (s : ByteArray) (hs : fitT s) (hl : S.texts.length ≤ 1000000) (w : World) (hp : Ideal w F B S) :
    Calls Tryd.prog 42 #[.pointer (some ⟨B, 0, none⟩), .string s] w fun e w' => e = .returned (.string (hashS S s)) ∧ Ideal w' F B (hashP S s) ∧ Touch F w w' := by
  obtain ⟨N, a, b, c, h⟩ := hp
  have c0 : w.cell? ⟨B, 0, none⟩ = some (.iface 90 (.pointer (some ⟨N, 0, none⟩))) := h.row.cell 0
  have hg := given_any B _ _ w c0
  have hn := nhash_any N a S.texts s hs hl w (h.num.cell 0) h.texts
  have hm : ∀ w : World, (method 287 90 (.pointer (some ⟨N, 0, none⟩)) "grapnel/vault.hash").run Tryd.prog w = .ok (105, .pointer (some ⟨N, 0, none⟩)) w := fun _ => by kernel_rfl
  have HK : Hid (∀ w', Nums keyT 177 w' a (addN S.texts s) → Only a w w' → Ideal w' F B (hashP S s) ∧ Touch F w w') := fun w' h1 h2 => ⟨⟨N, a, b, c, h.addT h2 h1⟩, Touch.of_only h2 h.fa⟩
  unfold hashS
  generalize wideS (numOf (addN S.texts s) s) 32 = u at *
  clear h hs
  go_enter Tryd.func42, Tryd.ntmps42
  go_wp2_with fail
  refine hg.mono ?_
  rintro e w1 ⟨rfl, rfl⟩
  clear hg
  go_wp2_with fail
  refine hn.mono ?_
  rintro e w2 ⟨rfl, h1, h2⟩
  have HF : Hid _ := HK.out w2 h1 h2
  clear h1 h2 hn
  go_wp2
  go_ret
  exact ⟨rfl, HF.out⟩
end Go.Proofs.YtgfhaadcajlifaaDoor
