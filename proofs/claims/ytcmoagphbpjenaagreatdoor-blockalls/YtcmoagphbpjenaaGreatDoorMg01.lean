/- Rows of cells told by a function of the place; one cell written anew; a row loaded and stored whole, and told as a result. · What a call changes: blocks of a set, and new ones; rows of cells that are owned. · strings.Clone: the shelf's contract, laid at the seat. -/
import Derived.Test.YtcmoagphbpjenaaGreatDoorMg00
import Derived.Maps.AppendAt
import Derived.Shelf.Strconv.Clone
namespace Go.Proofs.YtcmoagphbpjenaaGreatDoor
set_option maxRecDepth 20000
open Go.RowKit

def rowF (n : Nat) (f : Nat → Value) : List Value := (List.range n).map f
theorem rowF_length (n : Nat) (f : Nat → Value) : (rowF n f).length = n := by simp [rowF]
theorem rowF_get (n : Nat) (f : Nat → Value) (i : Nat) (h : i < n) : (rowF n f)[i]? = some (f i) := by simp [rowF, h]
theorem rowF_congr {n : Nat} {f f' : Nat → Value} (h : ∀ k, k < n → f k = f' k) : rowF n f = rowF n f' :=
  List.map_congr_left fun k hk => h k (List.mem_range.1 hk)
theorem rowF_set (n : Nat) (f : Nat → Value) (i : Nat) (v : Value) : (rowF n f).set i v = rowF n fun k => if k = i then v else f k := by
  refine List.ext_getElem? fun k => ?_
  rw [List.getElem?_set]
  by_cases hk : k < n
  · rw [rowF_get _ _ _ hk, rowF_get _ _ _ hk, rowF_length]
    by_cases e : i = k
    · subst e; simp [hk]
    · simp [e, Ne.symm e]
  · rw [List.getElem?_eq_none (by rw [rowF_length]; omega), List.getElem?_eq_none (by rw [rowF_length]; omega), rowF_length]
    by_cases e : i = k
    · subst e; simp [hk]
    · simp [e]
theorem Row.setF {w : World} {g t n : Nat} {f : Nat → Value} (h : Row w g t (rowF n f)) (i : Nat) (v : Value) : Row (w.setCell ⟨g, i, none⟩ v) g t (rowF n fun k => if k = i then v else f k) := by
  have h1 := heap_setCell_same w g i _ t v h
  rw [List.setIfInBounds_toArray, rowF_set] at h1
  exact h1
theorem Row.cellF {w : World} {g t n : Nat} {f : Nat → Value} (h : Row w g t (rowF n f)) (i : Nat) (hi : i < n) : w.cell? ⟨g, i, none⟩ = some (f i) := by
  rw [h.cell, rowF_get _ _ _ hi]
theorem byV_rowF (l : List Nat) : byV l = rowF l.length fun k => .int .u8 (l.getD k 0 : Nat) := by
  refine List.ext_getElem? fun k => ?_
  by_cases hk : k < l.length
  · rw [byV_get _ _ hk, rowF_get _ _ _ hk]
  · rw [List.getElem?_eq_none (by simp [byV]; omega), List.getElem?_eq_none (by rw [rowF_length]; omega)]
theorem Row.congr {w : World} {g t : Nat} {l l' : List Value} (h : Row w g t l) (e : l = l') : Row w g t l' := e ▸ h
end Go.Proofs.YtcmoagphbpjenaaGreatDoor

namespace Go.Proofs.YtcmoagphbpjenaaGreatDoor
set_option maxRecDepth 20000
open Go.RowKit

/-- Nothing that was there is changed but blocks of F; the blocks of F, and those that are new. -/
def Touch (F : Nat → Prop) (w w' : World) : Prop := Below 0 w w' ∧ ∀ k, k < w.heap.size → ¬ F k → w'.heap[k]? = w.heap[k]?
def grow (F : Nat → Prop) (w w' : World) : Nat → Prop := fun k => F k ∨ (w.heap.size ≤ k ∧ k < w'.heap.size)
theorem Touch.refl (F : Nat → Prop) (w : World) : Touch F w w := ⟨Below.refl _ _, fun _ _ _ => rfl⟩
theorem Touch.size {F : Nat → Prop} {w w' : World} (h : Touch F w w') : w.heap.size ≤ w'.heap.size := h.1.size
theorem Touch.trans {F : Nat → Prop} {w w1 w2 : World} (h : Touch F w w1) (k : Touch (grow F w w1) w1 w2) : Touch F w w2 :=
  ⟨h.1.trans k.1, fun i hi hF => (k.2 i (Nat.lt_of_lt_of_le hi h.size) (fun hg => hg.elim hF fun hg => by omega)).trans (h.2 i hi hF)⟩
theorem Touch.of_below {F : Nat → Prop} {w w' : World} (h : Below w.heap.size w w') : Touch F w w' := ⟨h.mono (Nat.zero_le _), fun k hk _ => h.block k hk⟩
theorem Touch.mono {F F' : Nat → Prop} {w w' : World} (h : Touch F w w') (hF : ∀ k, F k → F' k) : Touch F' w w' := ⟨h.1, fun k hk hn => h.2 k hk fun hf => hn (hF k hf)⟩
theorem Touch.drew {F : Nat → Prop} {w w' : World} (h : Touch F w w') : Touch F w w'.drew := ⟨h.1.drew, fun k hk hb => h.2 k hk hb⟩
theorem Touch.setCell {F : Nat → Prop} {w w' : World} (h : Touch F w w') (b i : Nat) (v : Value) (hb : F b ∨ w.heap.size ≤ b) : Touch F w (w'.setCell ⟨b, i, none⟩ v) :=
  ⟨h.1.setCell (p := ⟨b, i, none⟩) (Nat.zero_le _) _, fun k hk hn => (Below.heap_setCell w' ⟨b, i, none⟩ _ k (fun e => by
    subst e
    rcases hb with hb | hb
    · exact hn hb
    · exact absurd hb (Nat.not_le.2 hk))).trans (h.2 k hk hn)⟩
theorem Touch.below {F : Nat → Prop} {w w' : World} (h : Touch F w w') {B : Nat} (hB : B ≤ w.heap.size) (hF : ∀ k, F k → B ≤ k) : Below B w w' :=
  ⟨h.1.os, h.1.tape, h.1.output, h.1.size, fun k hk => h.2 k (by omega) fun hf => absurd (hF k hf) (by omega)⟩

theorem Row.setL {w : World} {g t : Nat} {l : List Value} (h : Row w g t l) (i : Nat) (v : Value) : Row (w.setCell ⟨g, i, none⟩ v) g t (l.set i v) := by
  have h1 := heap_setCell_same w g i _ t v h
  rw [List.setIfInBounds_toArray] at h1
  exact h1
theorem Row.off {w : World} {g t b : Nat} {l : List Value} (h : Row w g t l) (hb : g ≠ b) (i : Nat) (v : Value) : Row (w.setCell ⟨b, i, none⟩ v) g t l := (Below.heap_setCell w ⟨b, i, none⟩ _ g hb).trans h
theorem owns_keep {w w' : World} {e : TypeId} {z n : Nat} {v : Value} {xs : List Value} (h : w.ownsRow 0 e z v n xs) (hb : ∀ g, v.ownBlock = some g → w'.heap[g]? = w.heap[g]?) : w'.ownsRow 0 e z v n xs := by
  refine ⟨h.1, ?_⟩
  rcases h.2 with hn | ⟨g, cap, cur, rfl, h0, hg, hr⟩
  · exact .inl hn
  · exact .inr ⟨g, cap, cur, rfl, h0, (hb g rfl).trans hg, hr⟩
theorem owns_lt {w : World} {e : TypeId} {z n : Nat} {v : Value} {xs : List Value} (h : w.ownsRow 0 e z v n xs) (g : Nat) (hv : v.ownBlock = some g) : g < w.heap.size := by
  rcases h.2 with ⟨rfl, _⟩ | ⟨g', cap, cur, rfl, h0, hg, hr⟩
  · cases hv
  · cases hv; exact lt_of_block hg
theorem owns_form {w : World} {e : TypeId} {z n : Nat} {v : Value} {xs : List Value} (h : w.ownsRow 0 e z v n xs) (hn : 0 < n) : ∃ g cap, v = .slice (some ⟨g, 0, none⟩) n cap ∧ n ≤ cap ∧ ∀ i u, xs[i]? = some u → w.cell? ⟨g, i, none⟩ = some u := by
  rcases h.2 with ⟨rfl, h0⟩ | ⟨g, cap, cur, rfl, h0, hg, hc, hm, hs, ht⟩
  · omega
  · refine ⟨g, cap, rfl, hc, fun i u hu => ?_⟩
    rw [cell_of_row _ _ _ _ _ _ hg]
    rw [← ht, List.getElem?_take] at hu
    split at hu
    · simpa using hu
    · cases hu
theorem owns_off {w : World} {e : TypeId} {z n b : Nat} {v : Value} {xs : List Value} (h : w.ownsRow 0 e z v n xs) (hb : v.ownBlock ≠ some b) (i : Nat) (u : Value) : (w.setCell ⟨b, i, none⟩ u).ownsRow 0 e z v n xs :=
  owns_keep h fun g hg => Below.heap_setCell w ⟨b, i, none⟩ _ g fun e => hb (by rw [hg, e])

theorem owns_slice {w : World} {e : TypeId} {z n : Nat} {v : Value} {xs : List Value} (h : w.ownsRow 0 e z v n xs) : ∃ oa cap, v = .slice oa n cap := by
  rcases h.2 with ⟨rfl, h0⟩ | ⟨g, cap, cur, rfl, _⟩
  · exact ⟨none, 0, by rw [h0]⟩
  · exact ⟨_, _, rfl⟩
end Go.Proofs.YtcmoagphbpjenaaGreatDoor

namespace Go.Proofs.YtcmoagphbpjenaaGreatDoor
set_option maxRecDepth 20000
open Go.Shelf Go.RowKit

def pl_laysM316_ren : Go.Shelf.Ren := ⟨fun | 316 => 51 | n => n, fun | 9 => 9 | 3 => 3 | 4 => 4 | 37 => 31 | 0 => 0 | 127 => 128 | 5 => 5 | n => n, fun | n => n⟩
theorem pl_laysM316 : Go.Proofs.LaysM.n316 Tryz.prog pl_laysM316_ren := {
  mixed := by kernel_rfl
  f316 := Tryz.func51.trans (congrArg some (by kernel_rfl))
  t0 := Tryz.underlying0
  a0 := Tryz.isAgg0
  z0 := Tryz.sizeOf0
  v0 := Tryz.zeroValue0
  t3 := Tryz.underlying3
  a3 := Tryz.isAgg3
  z3 := Tryz.sizeOf3
  v3 := Tryz.zeroValue3
  t4 := Tryz.underlying4
  a4 := Tryz.isAgg4
  z4 := Tryz.sizeOf4
  v4 := Tryz.zeroValue4
  t9 := Tryz.underlying9
  a9 := Tryz.isAgg9
  z9 := Tryz.sizeOf9
  v9 := Tryz.zeroValue9
  t37 := Tryz.underlying31
  a37 := Tryz.isAgg31
  z37 := Tryz.sizeOf31
  v37 := Tryz.zeroValue31
  t127 := Tryz.underlying128
  a127 := Tryz.isAgg128
  z127 := Tryz.sizeOf128
  v127 := Tryz.zeroValue128
  t5 := Tryz.underlying5
  a5 := Tryz.isAgg5
  z5 := Tryz.sizeOf5
  v5 := Tryz.zeroValue5
  i0 := by kernel_rfl
  i3 := by kernel_rfl
  i4 := by kernel_rfl
  i5 := by kernel_rfl
  i9 := by kernel_rfl
  i37 := by kernel_rfl
  i127 := by kernel_rfl }

theorem slClone_any (s : ByteArray) (w : World) (hs : s.size ≤ 281474976710656) :
    Calls Tryz.prog 51 #[.string s] w fun e w' => e = .returned (.string s) ∧ Below w.heap.size w w' := Any.stringslite_Clone pl_laysM316 s w hs
theorem clone_any (s : ByteArray) (w : World) (hs : s.size ≤ 281474976710656) :
    Calls Tryz.prog 33 #[.string s] w fun e w' => e = .returned (.string s) ∧ Below w.heap.size w w' := by
  go_enter Tryz.func33, Tryz.ntmps33
  go_wp2_with fail
  refine (slClone_any s _ hs).mono ?_
  rintro e w1 ⟨rfl, hb⟩
  go_wp2
  go_ret
  exact ⟨rfl, hb⟩
end Go.Proofs.YtcmoagphbpjenaaGreatDoor
