/- The number of a thing in a list of unlike things: its place, and one more; 0, where it is not there. And a number as so many bytes. · vault.inBytes and vault.wide: a number as so many bytes. · What the ideal vault numbers: keys that are structs of texts and numbers, maps that number them, and what such a map is good for. -/
import Derived.Test.YtbmjablmmlnieaaGreatDoorMg04
import Derived.Maps.OwnSet
import Derived.Maps.OwnOps
import Derived.Maps.Views
import Derived.DeepKeys4
namespace Go.Proofs.YtbmjablmmlnieaaGreatDoor
set_option maxRecDepth 20000

section
variable {α : Type} [DecidableEq α]
def numOf : List α → α → Nat
  | [], _ => 0
  | y :: t, x => if y = x then 1 else if numOf t x = 0 then 0 else numOf t x + 1
theorem numOf_zero {x : α} : ∀ {l : List α}, numOf l x = 0 ↔ x ∉ l
  | [] => by simp [numOf]
  | y :: t => by
    have ih := numOf_zero (x := x) (l := t)
    unfold numOf
    by_cases e : y = x
    · simp [e]
    · by_cases h : numOf t x = 0
      · simp [h, e, ih.1 h, Ne.symm e]
      · have := mt ih.2 h
        simp [h, e] at this ⊢
        intro _; exact this
theorem numOf_le (x : α) : ∀ l : List α, numOf l x ≤ l.length
  | [] => Nat.le_refl _
  | y :: t => by
    have := numOf_le x t
    unfold numOf
    simp only [List.length_cons]
    split
    · omega
    · split <;> omega
theorem numOf_get {x : α} : ∀ {l : List α} {k : Nat}, numOf l x = k + 1 → l[k]? = some x
  | [], k, h => by simp [numOf] at h
  | y :: t, k, h => by
    unfold numOf at h
    by_cases e : y = x
    · rw [if_pos e] at h
      obtain rfl : k = 0 := by omega
      simp [e]
    · rw [if_neg e] at h
      by_cases h0 : numOf t x = 0
      · rw [if_pos h0] at h; omega
      · rw [if_neg h0] at h
        obtain ⟨m, rfl⟩ : ∃ m, k = m + 1 := ⟨k - 1, by omega⟩
        rw [List.getElem?_cons_succ]
        exact numOf_get (by omega)
theorem numOf_first {x : α} : ∀ {l : List α} {k : Nat}, l[k]? = some x → (∀ j, j < k → l[j]? ≠ some x) → numOf l x = k + 1
  | [], k, h, _ => by simp at h
  | y :: t, 0, h, _ => by simp at h; unfold numOf; rw [if_pos h]
  | y :: t, k + 1, h, hn => by
    have e : ¬ y = x := fun e => hn 0 (by omega) (by simp [e])
    have := numOf_first (l := t) (k := k) (by simpa using h) (fun j hj => by have := hn (j + 1) (by omega); simpa using this)
    unfold numOf
    rw [if_neg e, this, if_neg (by omega)]
theorem numOf_before {x : α} : ∀ {l : List α} {k : Nat}, numOf l x = k + 1 → ∀ j, j < k → l[j]? ≠ some x
  | [], k, h, _, _ => by simp [numOf] at h
  | y :: t, k, h, j, hj => by
    unfold numOf at h
    by_cases e : y = x
    · rw [if_pos e] at h; omega
    · rw [if_neg e] at h
      by_cases h0 : numOf t x = 0
      · rw [if_pos h0] at h; omega
      · rw [if_neg h0] at h
        obtain ⟨m, rfl⟩ : ∃ m, k = m + 1 := ⟨k - 1, by omega⟩
        cases j with
        | zero => simpa using e
        | succ j =>
          rw [List.getElem?_cons_succ]
          exact numOf_before (l := t) (k := m) (by omega) j (by omega)
theorem numOf_none {x : α} {l : List α} (h : ∀ j, j < l.length → l[j]? ≠ some x) : numOf l x = 0 :=
  numOf_zero.2 fun hm => by
    obtain ⟨j, hj, e⟩ := List.getElem_of_mem hm
    exact h j hj (by rw [List.getElem?_eq_getElem hj, e])
theorem numOf_snoc (l : List α) (y x : α) : numOf (l ++ [y]) x = if numOf l x = 0 then (if y = x then l.length + 1 else 0) else numOf l x := by
  induction l with
  | nil => simp [numOf]
  | cons z t ih =>
    rw [List.cons_append]
    unfold numOf
    by_cases e : z = x
    · simp [e]
    · rw [if_neg e, if_neg e, ih]
      by_cases h0 : numOf t x = 0
      · simp only [h0, if_true]
        by_cases e2 : y = x
        · simp [e2]
        · simp [e2]
      · simp [h0]
theorem numOf_inj {l : List α} {x y : α} (h : numOf l x = numOf l y) (hx : numOf l x ≠ 0) : x = y := by
  obtain ⟨k, hk⟩ : ∃ k, numOf l x = k + 1 := ⟨numOf l x - 1, by omega⟩
  have h1 := numOf_get hk
  have h2 := numOf_get (h.symm.trans hk)
  rw [h1] at h2
  exact Option.some.inj h2
/-- The list with a thing, that is numbered once. -/
def addN (l : List α) (x : α) : List α := if numOf l x = 0 then l ++ [x] else l
theorem addN_new {l : List α} {x : α} (h : numOf l x = 0) : addN l x = l ++ [x] := by unfold addN; rw [if_pos h]
theorem addN_old {l : List α} {x : α} (h : ¬ numOf l x = 0) : addN l x = l := by unfold addN; rw [if_neg h]
theorem addN_length (l : List α) (x : α) : (addN l x).length ≤ l.length + 1 := by
  unfold addN; split <;> simp
theorem numOf_add (l : List α) (x : α) : numOf (addN l x) x = if numOf l x = 0 then l.length + 1 else numOf l x := by
  by_cases h : numOf l x = 0
  · rw [addN_new h, numOf_snoc, if_pos h, if_pos h, if_pos rfl]
  · rw [addN_old h, if_neg h]
theorem numOf_add_pos (l : List α) (x : α) : numOf (addN l x) x ≠ 0 := by
  rw [numOf_add]; split <;> omega
theorem numOf_add_keeps {l : List α} (x : α) {y : α} (h : numOf l y ≠ 0) : numOf (addN l x) y = numOf l y := by
  by_cases h0 : numOf l x = 0
  · rw [addN_new h0, numOf_snoc, if_neg h]
  · rw [addN_old h0]
theorem numOf_add_other {l : List α} {x y : α} (h : x ≠ y) : numOf (addN l x) y = numOf l y := by
  by_cases h0 : numOf l x = 0
  · rw [addN_new h0, numOf_snoc, if_neg h]
    split
    · rename_i e; exact e.symm
    · rfl
  · rw [addN_old h0]
end

/-- A number as so many bytes. -/
def wideS (n k : Nat) : ByteArray := putS n 6 ++ noughtsS (k - 6)
theorem put6 {n : Nat} (hn : n < 281474976710656) : putS n 6 = strOfNums (leI 6 n) := putS_ok (m := 6) (by decide) (by decide) (by omega) (by rw [show (256 : Int) ^ 6 = 281474976710656 by decide]; omega)
theorem put6_size {n : Nat} (hn : n < 281474976710656) : (putS n 6).size = 6 := by rw [put6 hn, strOfNums_size, leI_length]
theorem wideS_size {n k : Nat} (hn : n < 281474976710656) (hk : 6 ≤ k) : (wideS n k).size = k := by
  unfold wideS
  rw [ByteArray.size_append, put6_size hn, noughtsS_size]
  omega
theorem pad_wide {n k : Nat} (hn : n < 281474976710656) (hk : 6 ≤ k) (hk2 : k ≤ 4096) : padS (putS n 6) k = wideS n k := by
  unfold wideS
  rw [padS_ok hk2 (by rw [put6_size hn]; exact hk), pad_append, put6_size hn]
theorem mk_inj {l m : List UInt8} (h : (⟨l.toArray⟩ : ByteArray) = ⟨m.toArray⟩) : l = m := by
  injection h with h
  simpa using h
theorem str_inj {l m : List Int} (h : strOfNums l = strOfNums m) : l.map (fun x => UInt8.ofNat x.toNat) = m.map (fun x => UInt8.ofNat x.toNat) := mk_inj h
theorem put6_val {n : Nat} (hn : n < 281474976710656) : leVal ((leI 6 (n : Int)).map fun x => UInt8.ofNat x.toNat) = n :=
  leVal_leI 6 n (by omega) (by rw [show (256 : Int) ^ 6 = 281474976710656 by decide]; omega)
theorem put6_inj {m n : Nat} (hm : m < 281474976710656) (hn : n < 281474976710656) (h : putS m 6 = putS n 6) : m = n := by
  rw [put6 hm, put6 hn] at h
  have e := congrArg leVal (str_inj h)
  rw [put6_val hm, put6_val hn] at e
  omega
theorem app_inj {a b c : ByteArray} (hs : a.size = b.size) (h : a ++ c = b ++ c) : a = b := by
  have h2 := congrArg (fun b : ByteArray => b.data.toList) h
  simp only [ByteArray.data_append, Array.toList_append] at h2
  have h3 := (List.append_inj h2 (by simpa using hs)).1
  exact ByteArray.ext (Array.toList_inj.1 h3)
theorem wideS_inj {m n k : Nat} (hm : m < 281474976710656) (hn : n < 281474976710656) (h : wideS m k = wideS n k) : m = n :=
  put6_inj hm hn (app_inj ((put6_size hm).trans (put6_size hn).symm) h)
end Go.Proofs.YtbmjablmmlnieaaGreatDoor

namespace Go.Proofs.YtbmjablmmlnieaaGreatDoor
set_option maxRecDepth 20000
open Go.RowKit

theorem inBytes_any (n : Nat) (w : World) :
    Calls Tryz.prog 185 #[.int .i64 (n : Nat)] w fun e w' => e = .returned (.string (putS n 6)) ∧ Below w.heap.size w w' := by
  go_enter Tryz.func185, Tryz.ntmps185
  go_wp2_with fail
  refine (put_any n 6 _).mono ?_
  rintro e w1 ⟨rfl, hb⟩
  go_wp2
  go_ret
  exact ⟨rfl, hb⟩
theorem wide_any (n k : Nat) (hn : n < 281474976710656) (hk : 6 ≤ k) (hk2 : k ≤ 4096) (w : World) :
    Calls Tryz.prog 181 #[.int .i64 (n : Nat), .int .i64 (k : Nat)] w fun e w' => e = .returned (.string (wideS n k)) ∧ Below w.heap.size w w' := by
  have HP : Hid (padS (putS n 6) k = wideS n k) := pad_wide hn hk hk2
  generalize hs : putS n 6 = s at *
  have hi := inBytes_any n w
  rw [hs] at hi
  clear hs
  go_enter Tryz.func181, Tryz.ntmps181
  go_wp2_with fail
  refine hi.mono ?_
  rintro e w1 ⟨rfl, hb⟩
  clear hi
  go_wp2_with fail
  refine (pad_any s k _).mono ?_
  rintro e w2 ⟨rfl, hb2⟩
  rw [HP.out]
  have HB : Hid (Below w.heap.size w w2) := hb.trans (hb2.mono hb.size)
  clear hb hb2
  go_wp2
  go_ret
  exact ⟨rfl, HB.out⟩
end Go.Proofs.YtbmjablmmlnieaaGreatDoor

namespace Go.Proofs.YtbmjablmmlnieaaGreatDoor
set_option maxRecDepth 20000
open Go.RowKit Go.Maps

theorem vt_laidOut : laidOutB Tryz.prog = true := by kernel_rfl
theorem types_some : 0 < Tryz.prog.types.size := of_decide_eq_true (by kernel_rfl)
theorem law_text : Keyed Tryz.prog 271 := Keyed.of_law (deep_law_laid vt_laidOut (m := 4) (by decide) (of_decide_eq_true (by kernel_rfl)) (by kernel_rfl) (by kernel_rfl))
theorem law_mark : Keyed Tryz.prog 281 := Keyed.of_law (deep_law_laid vt_laidOut (m := 4) (by decide) (of_decide_eq_true (by kernel_rfl)) (by kernel_rfl) (by kernel_rfl))
theorem law_seal : Keyed Tryz.prog 274 := Keyed.of_law (deep_law_laid vt_laidOut (m := 4) (by decide) (of_decide_eq_true (by kernel_rfl)) (by kernel_rfl) (by kernel_rfl))
theorem zero_int (w : World) : (zeroValue 3).run Tryz.prog w = .ok (.int .i64 0) w := by kernel_rfl

/-- The keys. -/
def keyT (s : ByteArray) : Value := .agg #[.string s]
def keyM (p : ByteArray × ByteArray) : Value := .agg #[.string p.1, .string p.2]
structure Four where
  salt : Int
  nonce : ByteArray
  ad : ByteArray
  text : ByteArray
deriving DecidableEq
def keyS (x : Four) : Value := .agg #[.int .i64 x.salt, .string x.nonce, .string x.ad, .string x.text]
theorem keyT_inj {a b : ByteArray} (h : keyT a = keyT b) : a = b := by simpa [keyT] using h
theorem keyM_inj {a b : ByteArray × ByteArray} (h : keyM a = keyM b) : a = b := by
  simp [keyM] at h
  exact Prod.ext h.1 h.2
theorem keyS_inj {a b : Four} (h : keyS a = keyS b) : a = b := by
  obtain ⟨a1, a2, a3, a4⟩ := a
  obtain ⟨b1, b2, b3, b4⟩ := b
  simp [keyS] at h
  obtain ⟨rfl, rfl, rfl, rfl⟩ := h
  rfl
/-- What may be a key. -/
def fitT (s : ByteArray) : Prop := s.size ≤ 140737488355328
def fitM (p : ByteArray × ByteArray) : Prop := p.1.size ≤ 140737488355328 ∧ p.2.size ≤ 140737488355328
def fitF (x : Four) : Prop := (Lit.int .i64 x.salt).wf = true ∧ x.nonce.size ≤ 140737488355328 ∧ x.ad.size ≤ 140737488355328 ∧ x.text.size ≤ 140737488355328
theorem cells_text : Tryz.prog.cellsOf 271 = 1 := by kernel_rfl
theorem cells_mark : Tryz.prog.cellsOf 281 = 2 := by kernel_rfl
theorem cells_seal : Tryz.prog.cellsOf 274 = 4 := by kernel_rfl
theorem cells_str : Tryz.prog.cellsOf 9 = 1 := by kernel_rfl
theorem cells_num : Tryz.prog.cellsOf 3 = 1 := by kernel_rfl
theorem len_ok {n : Nat} (h : n ≤ 140737488355328) : n ≤ maxLen := by unfold maxLen; omega
theorem mapM_some {α β : Type} {g : α → Option β} : ∀ {l : List α}, (∀ x ∈ l, ∃ y, g x = some y) → ∃ ys, l.mapM g = some ys
  | [], _ => ⟨[], by simp⟩
  | x :: t, h => by
    obtain ⟨y, hy⟩ := h x (by simp)
    obtain ⟨ys, hys⟩ := mapM_some (l := t) fun z hz => h z (by simp [hz])
    exact ⟨y :: ys, by simp [List.mapM_cons, hy, hys]⟩
theorem keyOf_fields {P : Program} {k : TypeId} {fs : Array Field} (hu : P.underlying k = some (.struct fs)) (hk : P.keyType k = true) {cs : Array Value} (hc : P.cellsOf k = cs.size) (hn : fs.all (·.name != "_") = true)
    (hall : ∀ f ∈ fs.toList, ∃ ls, P.keyLits P.types.size f.type ((cs.toList.drop f.offset).take (P.cellsOf f.type)) = some ls) : ∃ kl, keyOf P k (.agg cs) = some kl := by
  obtain ⟨ys, hys⟩ := mapM_some hall
  have hf : (Value.agg cs).formed P k = true := by simp [Value.formed, hu, hc]
  have hl : P.keyLits (P.types.size + 1) k (Value.agg cs).cells.toList = some ys.flatten := by
    unfold Program.keyLits
    simp only [hu, Value.cells]
    rw [if_pos ⟨by rw [hc]; simp, hn⟩, hys]
    rfl
  refine ⟨.string (keyBytes ys.flatten), ?_⟩
  unfold keyOf
  simp only [hu]
  rw [if_pos (by rw [hk, hf]; rfl), hl]
  rfl
theorem keyLits_str {P : Program} {t : TypeId} (hu : P.underlying t = some .string) (hp : 0 < P.types.size) {s : ByteArray} (hs : s.size ≤ maxLen) : ∃ ls, P.keyLits P.types.size t [.string s] = some ls := by
  obtain ⟨m, hm⟩ : ∃ m, P.types.size = m + 1 := ⟨P.types.size - 1, by omega⟩
  rw [hm]
  unfold Program.keyLits
  simp [hu, hs]
theorem keyLits_num {P : Program} {t : TypeId} (hu : P.underlying t = some (.int .i64)) (hp : 0 < P.types.size) {n : Int} (hs : (Lit.int .i64 n).wf = true) : ∃ ls, P.keyLits P.types.size t [.int .i64 n] = some ls := by
  obtain ⟨m, hm⟩ : ∃ m, P.types.size = m + 1 := ⟨P.types.size - 1, by omega⟩
  rw [hm]
  unfold Program.keyLits
  simp [hu, hs]
theorem lits_str {s : ByteArray} (hs : s.size ≤ 140737488355328) : ∃ ls, Tryz.prog.keyLits Tryz.prog.types.size 9 [.string s] = some ls := keyLits_str Tryz.underlying9 types_some (len_ok hs)
theorem lits_num {n : Int} (hs : (Lit.int .i64 n).wf = true) : ∃ ls, Tryz.prog.keyLits Tryz.prog.types.size 3 [.int .i64 n] = some ls := keyLits_num Tryz.underlying3 types_some hs
theorem key_text {s : ByteArray} (h : fitT s) : ∃ kl, keyOf Tryz.prog 271 (keyT s) = some kl := by
  refine keyOf_fields (cs := #[.string s]) Tryz.underlying271 (by kernel_rfl) cells_text (by kernel_rfl) fun f hf => ?_
  simp only [List.mem_cons, List.not_mem_nil, or_false] at hf
  subst hf
  simp only [cells_str]; exact lits_str h
theorem key_mark {p : ByteArray × ByteArray} (h : fitM p) : ∃ kl, keyOf Tryz.prog 281 (keyM p) = some kl := by
  refine keyOf_fields (cs := #[.string p.1, .string p.2]) Tryz.underlying281 (by kernel_rfl) cells_mark (by kernel_rfl) fun f hf => ?_
  simp only [List.mem_cons, List.not_mem_nil, or_false] at hf
  rcases hf with rfl | rfl
  · simp only [cells_str]; exact lits_str h.1
  · simp only [cells_str]; exact lits_str h.2
theorem key_seal {x : Four} (h : fitF x) : ∃ kl, keyOf Tryz.prog 274 (keyS x) = some kl := by
  refine keyOf_fields (cs := #[.int .i64 x.salt, .string x.nonce, .string x.ad, .string x.text]) Tryz.underlying274 (by kernel_rfl) cells_seal (by kernel_rfl) fun f hf => ?_
  simp only [List.mem_cons, List.not_mem_nil, or_false] at hf
  rcases hf with rfl | rfl | rfl | rfl
  · simp only [cells_num]; exact lits_num h.1
  · simp only [cells_str]; exact lits_str h.2.1
  · simp only [cells_str]; exact lits_str h.2.2.1
  · simp only [cells_str]; exact lits_str h.2.2.2

section
variable {α : Type} [DecidableEq α]
/-- A map in block b that numbers the things of a list. -/
def Nums (key : α → Value) (K : TypeId) (w : World) (b : Nat) (l : List α) : Prop :=
  ∃ D : DataW Unit, w.ownsMap Tryz.prog K (plainElem Tryz.prog 3) b l.length D ∧ Maps.size D = l.length ∧
    ∀ x kl, keyOf Tryz.prog K (key x) = some kl → Maps.has D kl = decide (numOf l x ≠ 0) ∧ D.atKey kl (.lit (.int .i64 0)) = .lit (.int .i64 (numOf l x : Nat))
variable {key : α → Value} {K : TypeId} {w w' : World} {b : Nat} {l : List α}
theorem Nums.lt (h : Nums key K w b l) : b < w.heap.size := by
  obtain ⟨D, h, _⟩ := h
  exact h.lt
theorem owns_at {H : Type} {R : Value → Option (DataW H × List MemPlace)} {n : Nat} {D : DataW H} (h : w.ownsMap Tryz.prog K R b n D) (hb : w'.heap[b]? = w.heap[b]?) : w'.ownsMap Tryz.prog K R b n D := by
  obtain ⟨es, clock, h1, r⟩ := h
  exact ⟨es, clock, hb.trans h1, r⟩
theorem Nums.keep (h : Nums key K w b l) (hb : w'.heap[b]? = w.heap[b]?) : Nums key K w' b l := by
  obtain ⟨D, h, r⟩ := h
  exact ⟨D, owns_at h hb, r⟩
theorem Nums.made (key : α → Value) (K : TypeId) (w : World) : Nums key K (w.alloc (.map #[] 0)) w.heap.size [] :=
  ⟨.map [], World.ownsMap_made _ _ _ _, rfl, fun _ _ _ => ⟨rfl, rfl⟩⟩
theorem nums_put (L : Keyed Tryz.prog K) (inj : ∀ {a b : α}, key a = key b → a = b) {D : DataW Unit} {x : α} {kl : Lit} {n : Nat} (hD : IsMap D) (ht : Tidy D) (hs : Maps.size D = l.length) (hx : numOf l x = 0) (hk : keyOf Tryz.prog K (key x) = some kl) (hn : n = l.length + 1)
    (hall : ∀ y kl, keyOf Tryz.prog K (key y) = some kl → Maps.has D kl = decide (numOf l y ≠ 0) ∧ D.atKey kl (.lit (.int .i64 0)) = .lit (.int .i64 (numOf l y : Nat))) :
    Maps.size (D.put kl (.lit (.int .i64 (n : Nat)))) = (l ++ [x]).length ∧ ∀ y kl', keyOf Tryz.prog K (key y) = some kl' → Maps.has (D.put kl (.lit (.int .i64 (n : Nat)))) kl' = decide (numOf (l ++ [x]) y ≠ 0) ∧ (D.put kl (.lit (.int .i64 (n : Nat)))).atKey kl' (.lit (.int .i64 0)) = .lit (.int .i64 (numOf (l ++ [x]) y : Nat)) := by
  have hh : Maps.has D kl = false := by rw [(hall x kl hk).1, hx]; rfl
  refine ⟨by rw [Maps.size_put ht, hh, hs]; simp, fun y kl' hy => ?_⟩
  by_cases e : x = y
  · subst e
    rw [hk] at hy
    cases hy
    rw [Maps.has_put_same hD (L.key hk), Maps.atKey_put_same hD (L.key hk), numOf_snoc, if_pos hx, if_pos rfl, hn]
    exact ⟨by simp, rfl⟩
  · have hne : kl' ≠ kl := fun e2 => e (inj (L.inj hk (e2 ▸ hy)))
    rw [Maps.has_put_other hne, Maps.atKey_put_other hne, numOf_snoc, if_neg e]
    have := hall y kl' hy
    by_cases h0 : numOf l y = 0
    · rw [if_pos h0]; rw [h0] at this; exact this
    · rw [if_neg h0]; exact this
end
theorem Only.of_grown {b : Nat} {w w' : World} (h : w.grownBy w' (some b)) : Only b w w' :=
  ⟨⟨h.os, h.tape, h.output, h.size, fun k hk => absurd hk (Nat.not_lt_zero k)⟩, fun k hk hne => h.block k hk fun e => hne (Option.some.inj e)⟩
end Go.Proofs.YtbmjablmmlnieaaGreatDoor
