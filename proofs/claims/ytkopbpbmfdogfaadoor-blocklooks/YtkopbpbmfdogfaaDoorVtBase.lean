/- What the ideal vault numbers: keys that are structs of texts and numbers, maps that number them, and what such a map is good for. -/
import Derived.Test.YtkopbpbmfdogfaaDoorBxRow
import Derived.Test.YtkopbpbmfdogfaaDoorVtClone
import Derived.Test.YtkopbpbmfdogfaaDoorVtWide
import Derived.Maps.OwnSet
import Derived.Maps.OwnOps
import Derived.Maps.Views
import Derived.DeepKeys4
namespace Go.Proofs.YtkopbpbmfdogfaaDoor
set_option maxRecDepth 20000
open Go.RowKit Go.Maps

theorem vt_laidOut : laidOutB Tryd.prog = true := by kernel_rfl
theorem types_some : 0 < Tryd.prog.types.size := of_decide_eq_true (by kernel_rfl)
theorem law_text : Keyed Tryd.prog 153 := Keyed.of_law (deep_law_laid vt_laidOut (m := 4) (by decide) (of_decide_eq_true (by kernel_rfl)) (by kernel_rfl) (by kernel_rfl))
theorem law_mark : Keyed Tryd.prog 155 := Keyed.of_law (deep_law_laid vt_laidOut (m := 4) (by decide) (of_decide_eq_true (by kernel_rfl)) (by kernel_rfl) (by kernel_rfl))
theorem law_seal : Keyed Tryd.prog 146 := Keyed.of_law (deep_law_laid vt_laidOut (m := 4) (by decide) (of_decide_eq_true (by kernel_rfl)) (by kernel_rfl) (by kernel_rfl))
theorem zero_int (w : World) : (zeroValue 3).run Tryd.prog w = .ok (.int .i64 0) w := by kernel_rfl

/-- The keys. -/
def keyT (s : ByteArray) : Value := .agg #[.string s]
def keyM (p : ByteArray × ByteArray) : Value := .agg #[.string p.1, .string p.2]
structure Four where
  salt : Int
  nonce : ByteArray
  ad : ByteArray
  text : ByteArray
deriving DecidableEq
def keyS (x : Four) : Value := .agg #[.int .i64 x.salt, .string x.nonce, .string x.ad, .string x.text]
theorem keyT_inj {a b : ByteArray} (h : keyT a = keyT b) : a = b := by simpa [keyT] using h
theorem keyM_inj {a b : ByteArray × ByteArray} (h : keyM a = keyM b) : a = b := by
  simp [keyM] at h
  exact Prod.ext h.1 h.2
theorem keyS_inj {a b : Four} (h : keyS a = keyS b) : a = b := by
  obtain ⟨a1, a2, a3, a4⟩ := a
  obtain ⟨b1, b2, b3, b4⟩ := b
  simp [keyS] at h
  obtain ⟨rfl, rfl, rfl, rfl⟩ := h
  rfl
/-- What may be a key. -/
def fitT (s : ByteArray) : Prop := s.size ≤ 140737488355328
def fitM (p : ByteArray × ByteArray) : Prop := p.1.size ≤ 140737488355328 ∧ p.2.size ≤ 140737488355328
def fitF (x : Four) : Prop := (Lit.int .i64 x.salt).wf = true ∧ x.nonce.size ≤ 140737488355328 ∧ x.ad.size ≤ 140737488355328 ∧ x.text.size ≤ 140737488355328
theorem cells_text : Tryd.prog.cellsOf 153 = 1 := by kernel_rfl
theorem cells_mark : Tryd.prog.cellsOf 155 = 2 := by kernel_rfl
theorem cells_seal : Tryd.prog.cellsOf 146 = 4 := by kernel_rfl
theorem cells_str : Tryd.prog.cellsOf 9 = 1 := by kernel_rfl
theorem cells_num : Tryd.prog.cellsOf 3 = 1 := by kernel_rfl
theorem len_ok {n : Nat} (h : n ≤ 140737488355328) : n ≤ maxLen := by unfold maxLen; omega
theorem mapM_some {α β : Type} {g : α → Option β} : ∀ {l : List α}, (∀ x ∈ l, ∃ y, g x = some y) → ∃ ys, l.mapM g = some ys
  | [], _ => ⟨[], by simp⟩
  | x :: t, h => by
    obtain ⟨y, hy⟩ := h x (by simp)
    obtain ⟨ys, hys⟩ := mapM_some (l := t) fun z hz => h z (by simp [hz])
    exact ⟨y :: ys, by simp [List.mapM_cons, hy, hys]⟩
theorem keyOf_fields {P : Program} {k : TypeId} {fs : Array Field} (hu : P.underlying k = some (.struct fs)) (hk : P.keyType k = true) {cs : Array Value} (hc : P.cellsOf k = cs.size) (hn : fs.all (·.name != "_") = true)
    (hall : ∀ f ∈ fs.toList, ∃ ls, P.keyLits P.types.size f.type ((cs.toList.drop f.offset).take (P.cellsOf f.type)) = some ls) : ∃ kl, keyOf P k (.agg cs) = some kl := by
  obtain ⟨ys, hys⟩ := mapM_some hall
  have hf : (Value.agg cs).formed P k = true := by simp [Value.formed, hu, hc]
  have hl : P.keyLits (P.types.size + 1) k (Value.agg cs).cells.toList = some ys.flatten := by
    unfold Program.keyLits
    simp only [hu, Value.cells]
    rw [if_pos ⟨by rw [hc]; simp, hn⟩, hys]
    rfl
  refine ⟨.string (keyBytes ys.flatten), ?_⟩
  unfold keyOf
  simp only [hu]
  rw [if_pos (by rw [hk, hf]; rfl), hl]
  rfl
theorem keyLits_str {P : Program} {t : TypeId} (hu : P.underlying t = some .string) (hp : 0 < P.types.size) {s : ByteArray} (hs : s.size ≤ maxLen) : ∃ ls, P.keyLits P.types.size t [.string s] = some ls := by
  obtain ⟨m, hm⟩ : ∃ m, P.types.size = m + 1 := ⟨P.types.size - 1, by omega⟩
  rw [hm]
  unfold Program.keyLits
  simp [hu, hs]
theorem keyLits_num {P : Program} {t : TypeId} (hu : P.underlying t = some (.int .i64)) (hp : 0 < P.types.size) {n : Int} (hs : (Lit.int .i64 n).wf = true) : ∃ ls, P.keyLits P.types.size t [.int .i64 n] = some ls := by
  obtain ⟨m, hm⟩ : ∃ m, P.types.size = m + 1 := ⟨P.types.size - 1, by omega⟩
  rw [hm]
  unfold Program.keyLits
  simp [hu, hs]
theorem lits_str {s : ByteArray} (hs : s.size ≤ 140737488355328) : ∃ ls, Tryd.prog.keyLits Tryd.prog.types.size 9 [.string s] = some ls := keyLits_str Tryd.underlying9 types_some (len_ok hs)
theorem lits_num {n : Int} (hs : (Lit.int .i64 n).wf = true) : ∃ ls, Tryd.prog.keyLits Tryd.prog.types.size 3 [.int .i64 n] = some ls := keyLits_num Tryd.underlying3 types_some hs
theorem key_text {s : ByteArray} (h : fitT s) : ∃ kl, keyOf Tryd.prog 153 (keyT s) = some kl := by
  refine keyOf_fields (cs := #[.string s]) Tryd.underlying153 (by kernel_rfl) cells_text (by kernel_rfl) fun f hf => ?_
  simp only [List.mem_cons, List.not_mem_nil, or_false] at hf
  subst hf
  simp only [cells_str]; exact lits_str h
theorem key_mark {p : ByteArray × ByteArray} (h : fitM p) : ∃ kl, keyOf Tryd.prog 155 (keyM p) = some kl := by
  refine keyOf_fields (cs := #[.string p.1, .string p.2]) Tryd.underlying155 (by kernel_rfl) cells_mark (by kernel_rfl) fun f hf => ?_
  simp only [List.mem_cons, List.not_mem_nil, or_false] at hf
  rcases hf with rfl | rfl
  · simp only [cells_str]; exact lits_str h.1
  · simp only [cells_str]; exact lits_str h.2
theorem key_seal {x : Four} (h : fitF x) : ∃ kl, keyOf Tryd.prog 146 (keyS x) = some kl := by
  refine keyOf_fields (cs := #[.int .i64 x.salt, .string x.nonce, .string x.ad, .string x.text]) Tryd.underlying146 (by kernel_rfl) cells_seal (by kernel_rfl) fun f hf => ?_
  simp only [List.mem_cons, List.not_mem_nil, or_false] at hf
  rcases hf with rfl | rfl | rfl | rfl
  · simp only [cells_num]; exact lits_num h.1
  · simp only [cells_str]; exact lits_str h.2.1
  · simp only [cells_str]; exact lits_str h.2.2.1
  · simp only [cells_str]; exact lits_str h.2.2.2

section
variable {α : Type} [DecidableEq α]
/-- A map in block b that numbers the things of a list. -/
def Nums (key : α → Value) (K : TypeId) (w : World) (b : Nat) (l : List α) : Prop :=
  ∃ D : DataW Unit, w.ownsMap Tryd.prog K (plainElem Tryd.prog 3) b l.length D ∧ Maps.size D = l.length ∧
    ∀ x kl, keyOf Tryd.prog K (key x) = some kl → Maps.has D kl = decide (numOf l x ≠ 0) ∧ D.atKey kl (.lit (.int .i64 0)) = .lit (.int .i64 (numOf l x : Nat))
variable {key : α → Value} {K : TypeId} {w w' : World} {b : Nat} {l : List α}
theorem Nums.lt (h : Nums key K w b l) : b < w.heap.size := by
  obtain ⟨D, h, _⟩ := h
  exact h.lt
theorem owns_at {H : Type} {R : Value → Option (DataW H × List MemPlace)} {n : Nat} {D : DataW H} (h : w.ownsMap Tryd.prog K R b n D) (hb : w'.heap[b]? = w.heap[b]?) : w'.ownsMap Tryd.prog K R b n D := by
  obtain ⟨es, clock, h1, r⟩ := h
  exact ⟨es, clock, hb.trans h1, r⟩
theorem Nums.keep (h : Nums key K w b l) (hb : w'.heap[b]? = w.heap[b]?) : Nums key K w' b l := by
  obtain ⟨D, h, r⟩ := h
  exact ⟨D, owns_at h hb, r⟩
theorem Nums.made (key : α → Value) (K : TypeId) (w : World) : Nums key K (w.alloc (.map #[] 0)) w.heap.size [] :=
  ⟨.map [], World.ownsMap_made _ _ _ _, rfl, fun _ _ _ => ⟨rfl, rfl⟩⟩
theorem nums_put (L : Keyed Tryd.prog K) (inj : ∀ {a b : α}, key a = key b → a = b) {D : DataW Unit} {x : α} {kl : Lit} {n : Nat} (hD : IsMap D) (ht : Tidy D) (hs : Maps.size D = l.length) (hx : numOf l x = 0) (hk : keyOf Tryd.prog K (key x) = some kl) (hn : n = l.length + 1)
    (hall : ∀ y kl, keyOf Tryd.prog K (key y) = some kl → Maps.has D kl = decide (numOf l y ≠ 0) ∧ D.atKey kl (.lit (.int .i64 0)) = .lit (.int .i64 (numOf l y : Nat))) :
    Maps.size (D.put kl (.lit (.int .i64 (n : Nat)))) = (l ++ [x]).length ∧ ∀ y kl', keyOf Tryd.prog K (key y) = some kl' → Maps.has (D.put kl (.lit (.int .i64 (n : Nat)))) kl' = decide (numOf (l ++ [x]) y ≠ 0) ∧ (D.put kl (.lit (.int .i64 (n : Nat)))).atKey kl' (.lit (.int .i64 0)) = .lit (.int .i64 (numOf (l ++ [x]) y : Nat)) := by
  have hh : Maps.has D kl = false := by rw [(hall x kl hk).1, hx]; rfl
  refine ⟨by rw [Maps.size_put ht, hh, hs]; simp, fun y kl' hy => ?_⟩
  by_cases e : x = y
  · subst e
    rw [hk] at hy
    cases hy
    rw [Maps.has_put_same hD (L.key hk), Maps.atKey_put_same hD (L.key hk), numOf_snoc, if_pos hx, if_pos rfl, hn]
    exact ⟨by simp, rfl⟩
  · have hne : kl' ≠ kl := fun e2 => e (inj (L.inj hk (e2 ▸ hy)))
    rw [Maps.has_put_other hne, Maps.atKey_put_other hne, numOf_snoc, if_neg e]
    have := hall y kl' hy
    by_cases h0 : numOf l y = 0
    · rw [if_pos h0]; rw [h0] at this; exact this
    · rw [if_neg h0]; exact this
end
theorem Only.of_grown {b : Nat} {w w' : World} (h : w.grownBy w' (some b)) : Only b w w' :=
  ⟨⟨h.os, h.tape, h.output, h.size, fun k hk => absurd hk (Nat.not_lt_zero k)⟩, fun k hk hne => h.block k hk fun e => hne (Option.some.inj e)⟩
end Go.Proofs.YtkopbpbmfdogfaaDoor
