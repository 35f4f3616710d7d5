/- Pages and bodies as functions of lists; nothing of the program. -/
import Derived.Test.YtlcadhojfnanfaaDoorShSpare
import Derived.Test.YtlcadhojfnanfaaDoorInj
import Derived.Test.YtlcadhojfnanfaaDoorCanonBase
namespace Go.Proofs.YtlcadhojfnanfaaDoor
set_option maxRecDepth 20000
open Go.RowKit

/-- The first number of a list that is not 0; 0: there is none. -/
def firstE (l : List Int) : Int := (l.find? (· != 0)).getD 0
theorem firstE_nil : firstE [] = 0 := rfl
theorem firstE_cons (x : Int) (l : List Int) : firstE (x :: l) = if x = 0 then firstE l else x := by
  unfold firstE
  by_cases h : x = 0
  · rw [if_pos h, List.find?_cons_of_neg (by simp [h])]
  · rw [if_neg h, List.find?_cons_of_pos (by simp [h])]
    rfl
theorem firstE_hit : ∀ (l : List Int) (k : Nat) (x : Int), l[k]? = some x → x ≠ 0 → (∀ j y, j < k → l[j]? = some y → y = 0) → firstE l = x
  | [], k, x, h, _, _ => by simp at h
  | y :: l, 0, x, h, h0, _ => by
    obtain rfl : y = x := by simpa using h
    rw [firstE_cons, if_neg h0]
  | y :: l, k + 1, x, h, h0, ha => by
    rw [firstE_cons, if_pos (ha 0 y (by omega) rfl)]
    exact firstE_hit l k x (by simpa using h) h0 fun j z hj hz => ha (j + 1) z (by omega) (by simpa using hz)
theorem firstE_zero : ∀ (l : List Int), (∀ x ∈ l, x = 0) → firstE l = 0
  | [], _ => rfl
  | x :: l, h => by rw [firstE_cons, if_pos (h x (List.mem_cons_self ..))]; exact firstE_zero l fun y hy => h y (List.mem_cons_of_mem _ hy)
theorem firstE_inv : ∀ (l : List Int), firstE l = 0 → ∀ x ∈ l, x = 0
  | [], _, x, hx => by simp at hx
  | y :: l, h, x, hx => by
    rw [firstE_cons] at h
    by_cases h0 : y = 0
    · rw [if_pos h0] at h
      rcases List.mem_cons.1 hx with rfl | hx
      · exact h0
      · exact firstE_inv l h x hx
    · rw [if_neg h0] at h; exact absurd h h0
def piece (s : ByteArray) (i : Nat) : ByteArray := s.extract (i * 28) (i * 28 + 28)
def enOf (s : ByteArray) : En := ⟨entryOR s, entryON s 20 4, entryON s 24 4⟩
def pageE (s : ByteArray) : Int := if s.size = 448 then firstE ((List.range 16).map fun i => entryOE (piece s i)) else 1
def pageF (s : ByteArray) (k : Nat) : List En := (List.range k).map fun i => enOf (piece s i)
def pageL (s : ByteArray) : List En := if pageE s = 0 then pageF s 16 else []
def entEx (x : En) : Int := entE x.nm x.ino x.gen
def entSx (x : En) : ByteArray := entS x.nm x.ino x.gen
def bodyF (l : List En) : List UInt8 := l.flatMap fun x => (entSx x).data.toList
def bodyE (l : List En) : Int := if l.length = 16 then firstE (l.map entEx) else 1
def bodyS (l : List En) : ByteArray := if bodyE l = 0 then ⟨(bodyF l).toArray⟩ else ByteArray.empty
theorem pageF_len (s : ByteArray) (k : Nat) : (pageF s k).length = k := by simp [pageF]
theorem pageF_succ (s : ByteArray) (k : Nat) : pageF s (k + 1) = pageF s k ++ [enOf (piece s k)] := by simp [pageF, List.range_succ]
theorem pageE_bad {s : ByteArray} {k : Nat} (h : s.size = 448) (hk : k < 16) (he : entryOE (piece s k) ≠ 0) (ha : ∀ j, j < k → entryOE (piece s j) = 0) : pageE s = entryOE (piece s k) := by
  rw [pageE, if_pos h]
  refine firstE_hit _ k _ (by rw [List.getElem?_map, List.getElem?_range hk]; rfl) he fun j y hj hy => ?_
  rw [List.getElem?_map, List.getElem?_range (by omega)] at hy
  rw [← Option.some.inj hy]
  exact ha j hj
theorem pageE_good {s : ByteArray} (h : s.size = 448) (ha : ∀ j, j < 16 → entryOE (piece s j) = 0) : pageE s = 0 := by
  rw [pageE, if_pos h]
  refine firstE_zero _ fun x hx => ?_
  obtain ⟨i, hi, rfl⟩ := List.mem_map.1 hx
  exact ha i (List.mem_range.1 hi)
theorem pageE_inv {s : ByteArray} (h : pageE s = 0) : s.size = 448 ∧ ∀ j, j < 16 → entryOE (piece s j) = 0 := by
  by_cases h4 : s.size = 448
  · rw [pageE, if_pos h4] at h
    exact ⟨h4, fun j hj => firstE_inv _ h _ (List.mem_map.2 ⟨j, List.mem_range.2 hj, rfl⟩)⟩
  · rw [pageE, if_neg h4] at h; cases h
theorem bodyE_bad {l : List En} {k : Nat} (h : l.length = 16) (hk : k < l.length) (he : entEx l[k] ≠ 0) (ha : ∀ j (hj : j < l.length), j < k → entEx l[j] = 0) : bodyE l = entEx l[k] := by
  rw [bodyE, if_pos h]
  refine firstE_hit _ k _ (by rw [List.getElem?_map, List.getElem?_eq_getElem hk]; rfl) he fun j y hj hy => ?_
  rw [List.getElem?_map, List.getElem?_eq_getElem (by omega)] at hy
  rw [← Option.some.inj hy]
  exact ha j (by omega) hj
theorem bodyE_good {l : List En} (h : l.length = 16) (ha : ∀ x ∈ l, entEx x = 0) : bodyE l = 0 := by
  rw [bodyE, if_pos h]
  refine firstE_zero _ fun x hx => ?_
  obtain ⟨y, hy, rfl⟩ := List.mem_map.1 hx
  exact ha y hy
theorem bodyE_inv {l : List En} (h : bodyE l = 0) : l.length = 16 ∧ ∀ x ∈ l, entEx x = 0 := by
  by_cases h4 : l.length = 16
  · rw [bodyE, if_pos h4] at h
    exact ⟨h4, fun x hx => firstE_inv _ h _ (List.mem_map.2 ⟨x, hx, rfl⟩)⟩
  · rw [bodyE, if_neg h4] at h; cases h
theorem entSx_len {x : En} (h : entEx x = 0) : (entSx x).data.toList.length = 28 := by
  obtain ⟨h1, h2, h3⟩ := entE_zero h
  have e : entSx x = recS (entPre x.nm) (entPs x.ino x.gen) 0 := by unfold entSx entS; rw [if_pos ⟨h1, h2⟩]
  rw [e, recS_ok h3]
  have := entPre_length h1
  show (entPre x.nm ++ laidL (entPs x.ino x.gen) ++ List.replicate 0 0).length = 28
  simp only [List.length_append, List.length_replicate, this]
  have e2 := laidL_length _ h3
  have e3 : widthSum (entPs x.ino x.gen) = 8 := rfl
  rw [e2, e3]
theorem bodyF_take {l : List En} {k : Nat} (hk : k < l.length) : bodyF (l.take (k + 1)) = bodyF (l.take k) ++ (entSx l[k]).data.toList := by
  rw [List.take_add_one, List.getElem?_eq_getElem hk]
  show (l.take k ++ [l[k]]).flatMap _ = _
  rw [List.flatMap_append, List.flatMap_singleton]
  rfl
theorem flat_set : ∀ (L : List En) (i : Nat) (x : En), i < L.length → (((L.flatMap En.cells).set (i * 3) (.string x.nm)).set (i * 3 + 1) (.int .i64 x.ino)).set (i * 3 + 2) (.int .i64 x.gen) = (L.set i x).flatMap En.cells
  | [], i, x, h => by simp at h
  | y :: L, 0, x, _ => rfl
  | y :: L, i + 1, x, h => by
    have e := flat_set L i x (by simpa using h)
    rw [List.set_cons_succ, List.flatMap_cons, List.flatMap_cons, ← e, show (i + 1) * 3 = i * 3 + 1 + 1 + 1 by omega]
    rfl
/-- An entry stored over the entry at a place of a row. -/
theorem set_en {w : World} {g : Nat} {t : TypeId} {L : List En} {i : Nat} (x : En) (h : w.heap[g]? = some (.cells (L.flatMap En.cells).toArray t (0, 0))) (hi : i < L.length) :
    (((w.setCell ⟨g, i * 3, none⟩ (.string x.nm)).setCell ⟨g, i * 3 + 1, none⟩ (.int .i64 x.ino)).setCell ⟨g, i * 3 + 2, none⟩ (.int .i64 x.gen)).heap[g]? = some (.cells ((L.set i x).flatMap En.cells).toArray t (0, 0)) := by
  have hs := flat_len L
  have e0 := heap_setCell_same w g (i * 3) _ t (.string x.nm) h
  have e1 := heap_setCell_same _ g (i * 3 + 1) _ t (.int .i64 x.ino) e0
  have e2 := heap_setCell_same _ g (i * 3 + 2) _ t (.int .i64 x.gen) e1
  rw [e2, ← flat_set L i x hi]
  simp
/-- A block that holds just these entries. -/
def RowE (w : World) (g : Nat) (L : List En) : Prop := w.heap[g]? = some (.cells (L.flatMap En.cells).toArray 28 (0, 0))
theorem RowE.at {w : World} {g : Nat} {L : List En} (h : RowE w g L) {i : Nat} (hi : i < L.length) : EnAt w g (i * 3) L[i] := by
  have k : ∀ c, c < 3 → w.cell? ⟨g, i * 3 + c, none⟩ = (L[i]).cells[c]? := fun c hc => by
    rw [cell_of_row _ _ _ _ _ _ h, List.getElem?_toArray, flat_at L i _ (List.getElem?_eq_getElem hi) c hc]
  exact ⟨k 0 (by omega), k 1 (by omega), k 2 (by omega)⟩
theorem RowE.frozen {w : World} {g : Nat} {L : List En} (h : RowE w g L) (i : Nat) : w.frozen? ⟨g, i, none⟩ = false := by
  have h' : w.heap[g]? = some (.cells (L.flatMap En.cells).toArray 28 (0, 0)) := h
  simp [World.frozen?, h']
theorem RowE.lt {w : World} {g : Nat} {L : List En} (h : RowE w g L) : g < w.heap.size := lt_of_block h
theorem RowE.below {w w' : World} {g : Nat} {L : List En} (h : RowE w g L) (hb : Below w.heap.size w w') : RowE w' g L := (hb.block g h.lt).trans h
theorem RowE.of {w : World} {base g n : Nat} {L : List En} (h : w.ownsRow base 28 3 (.slice (some ⟨g, 0, none⟩) n n) n (L.flatMap En.cells)) : RowE w g L := by
  rcases h.2 with ⟨e, _⟩ | ⟨g', cap, cur, e, h0, hg, h1, h2, h3, h4⟩
  · cases e
  · simp only [Value.slice.injEq, Option.some.injEq, Addr.mk.injEq] at e
    obtain ⟨⟨rfl, _⟩, _, rfl⟩ := e
    have : cur = (L.flatMap En.cells).toArray := by
      rw [← h4, List.take_of_length_le (by rw [Array.length_toList, h3]; exact Nat.le_refl _)]
    rw [this] at hg
    exact hg
theorem RowE.owns {w : World} {g base : Nat} {L : List En} (h : RowE w g L) (hb : base ≤ g) (hl : L.length ≤ maxLen) : EZ w base (.slice (some ⟨g, 0, none⟩) L.length L.length) L :=
  ⟨flat_len L, .inr ⟨g, L.length, _, rfl, hb, h, Nat.le_refl _, hl, by rw [List.size_toArray, flat_len], by rw [List.take_of_length_le (by rw [flat_len]; exact Nat.le_refl _)]⟩⟩
theorem RowE.set {w : World} {g : Nat} {L : List En} (h : RowE w g L) {i : Nat} (hi : i < L.length) (x : En) :
    RowE (((w.setCell ⟨g, i * 3, none⟩ (.string x.nm)).setCell ⟨g, i * 3 + 1, none⟩ (.int .i64 x.ino)).setCell ⟨g, i * 3 + 2, none⟩ (.int .i64 x.gen)) g (L.set i x) := set_en x h hi
theorem below_set3 {w w' : World} {g B : Nat} (h : Below B w w') (hg : B ≤ g) (a b c : Nat) (x y z : Value) : Below B w (((w'.setCell ⟨g, a, none⟩ x).setCell ⟨g, b, none⟩ y).setCell ⟨g, c, none⟩ z) :=
  ((h.setCell (p := ⟨g, a, none⟩) hg x).setCell (p := ⟨g, b, none⟩) hg y).setCell (p := ⟨g, c, none⟩) hg z
def zeroEn : En := ⟨⟨#[]⟩, 0, 0⟩
theorem made_en : (madeCells #[.string ByteArray.empty, .int .i64 0, .int .i64 0] 48).toList = (List.replicate 16 zeroEn).flatMap En.cells := by kernel_rfl
end Go.Proofs.YtlcadhojfnanfaaDoor
