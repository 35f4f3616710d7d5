/- The ideal vault in plain words: what it has numbered; how it lies in memory; and each way of its numbering. -/
import Derived.Test.YtkopbpbmfdogfaaDoorTouchBase
import Derived.Test.YtkopbpbmfdogfaaDoorVtCount
namespace Go.Proofs.YtkopbpbmfdogfaaDoor
set_option maxRecDepth 20000
open Go.RowKit Go.Maps

structure VS where
  texts : List ByteArray
  marks : List (ByteArray × ByteArray)
  seals : List Four

structure IdealAt (w : World) (F : Nat → Prop) (B N a b c : Nat) (S : VS) : Prop where
  row : Row w B 46 [.iface 41 (.pointer (some ⟨N, 0, none⟩))]
  num : Row w N 59 [.map (some a), .map (some b), .map (some c)]
  texts : Nums keyT 153 w a S.texts
  marks : Nums keyM 155 w b S.marks
  seals : Nums keyS 146 w c S.seals
  fB : F B
  fN : F N
  fa : F a
  fb : F b
  fc : F c
  ab : a ≠ b
  ac : a ≠ c
  bc : b ≠ c
def Ideal (w : World) (F : Nat → Prop) (B : Nat) (S : VS) : Prop := ∃ N a b c, IdealAt w F B N a b c S

theorem row_not_map {α : Type} [DecidableEq α] {key : α → Value} {K t : TypeId} {w : World} {g b : Nat} {l : List α} {cs : List Value} (h : Row w g t cs) (k : Nums key K w b l) : g ≠ b := by
  rintro rfl
  obtain ⟨D, ⟨es, cl, hb, _⟩, _⟩ := k
  have h : w.heap[g]? = _ := h
  rw [h] at hb
  cases hb
theorem IdealAt.keep {w w' : World} {F : Nat → Prop} {B N a b c : Nat} {S : VS} (h : IdealAt w F B N a b c S) (hk : ∀ k, k < w.heap.size → F k → w'.heap[k]? = w.heap[k]?) : IdealAt w' F B N a b c S :=
  { h with
    row := (hk B h.row.lt h.fB).trans h.row
    num := (hk N h.num.lt h.fN).trans h.num
    texts := h.texts.keep (hk a h.texts.lt h.fa)
    marks := h.marks.keep (hk b h.marks.lt h.fb)
    seals := h.seals.keep (hk c h.seals.lt h.fc) }
theorem Ideal.keep {w w' : World} {F : Nat → Prop} {B : Nat} {S : VS} (h : Ideal w F B S) (hk : ∀ k, k < w.heap.size → F k → w'.heap[k]? = w.heap[k]?) : Ideal w' F B S := by
  obtain ⟨N, a, b, c, h⟩ := h
  exact ⟨N, a, b, c, h.keep hk⟩
theorem Ideal.below {w w' : World} {F : Nat → Prop} {B : Nat} {S : VS} (h : Ideal w F B S) (hb : Below w.heap.size w w') : Ideal w' F B S := h.keep fun k hk _ => hb.block k hk
theorem Ideal.mono {w : World} {F F' : Nat → Prop} {B : Nat} {S : VS} (h : Ideal w F B S) (hF : ∀ k, k < w.heap.size → F k → F' k) : Ideal w F' B S := by
  obtain ⟨N, a, b, c, h⟩ := h
  exact ⟨N, a, b, c, { h with fB := hF _ h.row.lt h.fB, fN := hF _ h.num.lt h.fN, fa := hF _ h.texts.lt h.fa, fb := hF _ h.marks.lt h.fb, fc := hF _ h.seals.lt h.fc }⟩
theorem Ideal.lt {w : World} {F : Nat → Prop} {B : Nat} {S : VS} (h : Ideal w F B S) : B < w.heap.size := by
  obtain ⟨N, a, b, c, h⟩ := h
  exact h.row.lt
theorem Touch.of_only {F : Nat → Prop} {w w' : World} {b : Nat} (h : Only b w w') (hb : F b) : Touch F w w' := ⟨h.1, fun k hk hn => h.2 k hk fun e => hn (e ▸ hb)⟩
theorem IdealAt.addT {w w' : World} {F : Nat → Prop} {B N a b c : Nat} {S : VS} {l : List ByteArray} (h : IdealAt w F B N a b c S) (ho : Only a w w') (hn : Nums keyT 153 w' a l) : IdealAt w' F B N a b c { S with texts := l } :=
  { h with
    row := h.row.only ho (row_not_map h.row h.texts)
    num := h.num.only ho (row_not_map h.num h.texts)
    texts := hn
    marks := h.marks.keep (ho.2 _ h.marks.lt h.ab.symm)
    seals := h.seals.keep (ho.2 _ h.seals.lt h.ac.symm) }
theorem IdealAt.addM {w w' : World} {F : Nat → Prop} {B N a b c : Nat} {S : VS} {l : List (ByteArray × ByteArray)} (h : IdealAt w F B N a b c S) (ho : Only b w w') (hn : Nums keyM 155 w' b l) : IdealAt w' F B N a b c { S with marks := l } :=
  { h with
    row := h.row.only ho (row_not_map h.row h.marks)
    num := h.num.only ho (row_not_map h.num h.marks)
    texts := h.texts.keep (ho.2 _ h.texts.lt h.ab)
    marks := hn
    seals := h.seals.keep (ho.2 _ h.seals.lt h.bc.symm) }
theorem IdealAt.addS {w w' : World} {F : Nat → Prop} {B N a b c : Nat} {S : VS} {l : List Four} (h : IdealAt w F B N a b c S) (ho : Only c w w') (hn : Nums keyS 146 w' c l) : IdealAt w' F B N a b c { S with seals := l } :=
  { h with
    row := h.row.only ho (row_not_map h.row h.seals)
    num := h.num.only ho (row_not_map h.num h.seals)
    texts := h.texts.keep (ho.2 _ h.texts.lt h.ac)
    marks := h.marks.keep (ho.2 _ h.marks.lt h.bc)
    seals := hn }

theorem nseal_any (N c : Nat) (l : List Four) (x : Four) (hs : fitF x) (hl : l.length ≤ 1000000) (w : World) (c2 : w.cell? ⟨N, 2, none⟩ = some (.map (some c))) (h : Nums keyS 146 w c l) :
    Calls Tryd.prog 92 #[.pointer (some ⟨N, 0, none⟩), .int .i64 x.salt, .string x.nonce, .string x.ad, .string x.text] w fun e w' => e = .returned (.tuple #[.string (x.text ++ wideS (numOf (addN l x) x) 16), .int .i64 0]) ∧ Nums keyS 146 w' c (addN l x) ∧ Only c w w' := by
  have hc := countS_any c l x hs hl w h
  have hn := Nat.le_trans (numOf_le x (addN l x)) (addN_length l x)
  have hw := fun W => wide_any (numOf (addN l x) x) 16 (by omega) (by decide) (by decide) W
  have hz : (wideS (numOf (addN l x) x) 16).size = 16 := wideS_size (by omega) (by decide)
  have ht := hs.2.2.2
  generalize numOf (addN l x) x = n at *
  generalize addN l x = l2 at *
  obtain ⟨z, a, b, s⟩ := x
  simp only [keyS] at hc ht ⊢
  generalize wideS n 16 = u at *
  have ha : ∀ w', (Op.stringOp .add s u).run Tryd.prog w' = .ok (.string (s ++ u)) w' := fun w' => run_string_add_sum (P := Tryd.prog) (w := w') _ _ (by omega)
  clear h hs
  go_enter Tryd.func92, Tryd.ntmps92
  go_wp2_with fail
  refine hc.mono ?_
  rintro e w1 ⟨rfl, hN, hO⟩
  clear hc c2
  go_wp2_with fail
  refine (hw _).mono ?_
  rintro e w2 ⟨rfl, hb⟩
  have HF : Hid (Nums keyS 146 w2 c l2 ∧ Only c w w2) := ⟨hN.keep (hb.block c hN.lt), hO.trans (Only.of_below hb)⟩
  clear hN hO hb hw
  go_wp2
  go_ret2
  exact ⟨rfl, HF.out⟩
end Go.Proofs.YtkopbpbmfdogfaaDoor
