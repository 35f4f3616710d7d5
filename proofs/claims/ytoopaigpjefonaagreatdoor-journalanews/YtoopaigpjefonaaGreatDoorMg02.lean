/- The numbers of a text that is a head are laid as that text; nothing of the program's calls. · A number that is laid as bytes, the lowest first, is the number of these bytes. · Numbers in the same widths, and entries, that are laid as the same bytes are the same. · Rows of cells told by a function of the place; one cell written anew; a row loaded and stored whole, and told as a result. · What a call changes: blocks of a set, and new ones; rows of cells that are owned. · strings.Clone: the shelf's contract, laid at the seat. · pack.Pad, called with any text and any number, tells the text padS and the error padE, and changes nothing that was there. · The number of a thing in a list of unlike things: its place, and one more; 0, where it is not there. And a number as so many bytes. · vault.inBytes and vault.wide: a number as so many bytes. · What the ideal vault numbers: keys that are structs of texts and numbers, maps that number them, and what such a map is good for. -/
import Derived.Test.YtoopaigpjefonaaGreatDoorMg00
import Derived.Test.YtoopaigpjefonaaGreatDoorMg01
import Derived.Maps.AppendAt
import Derived.Shelf.Strconv.Clone
import Derived.Maps.OwnSet
import Derived.Maps.OwnOps
import Derived.Maps.Views
import Derived.DeepKeys4
namespace Go.Proofs.YtoopaigpjefonaaGreatDoor
set_option maxRecDepth 20000

theorem list_three (L : List UInt8) (a m : Nat) : L.take a ++ (L.drop a).take m ++ L.drop (a + m) = L := by
  rw [List.append_assoc, ← List.drop_drop, List.take_append_drop, List.take_append_drop]
theorem size_of_list (s : ByteArray) : s.data.toList.length = s.size := by simp

theorem head_parts {s : ByteArray} (h : headE s = 0) : s.size = 48 ∧ (s.extract 0 4).toList = [71, 82, 80, 78] ∧ allZ (s.extract 40 48) = true := by
  unfold headE at h
  by_cases h1 : 48 < s.size
  · rw [if_pos h1] at h; omega
  rw [if_neg h1] at h
  by_cases h2 : s.size < 48
  · rw [if_pos h2] at h; omega
  rw [if_neg h2] at h
  by_cases h3 : ((s.extract 0 4).toList == [71, 82, 80, 78]) = true
  case neg => rw [if_neg h3] at h; omega
  rw [if_pos h3] at h
  by_cases h4 : allZ (s.extract 40 48) = true
  case neg => rw [if_neg h4] at h; omega
  exact ⟨by omega, eq_of_beq h3, h4⟩
theorem head_back {s : ByteArray} (h : headE s = 0) : recE (headPs (headN s 4 6) (headN s 10 4) (headN s 14 2) (headN s 16 4) (headN s 20 4) (headN s 24 4) (headN s 28 6) (headN s 34 6)) = 0 ∧ recS [71, 82, 80, 78] (headPs (headN s 4 6) (headN s 10 4) (headN s 14 2) (headN s 16 4) (headN s 20 4) (headN s 24 4) (headN s 28 6) (headN s 34 6)) 8 = s := by
  obtain ⟨h48, hm, hz⟩ := head_parts h
  have e : headPs (headN s 4 6) (headN s 10 4) (headN s 14 2) (headN s 16 4) (headN s 20 4) (headN s 24 4) (headN s 28 6) (headN s 34 6) = pairsOf s.data.toList 4 [6, 4, 2, 4, 4, 4, 6, 6] := by
    simp only [headN, if_pos h]
    rfl
  have hl := size_of_list s
  obtain ⟨p1, p2⟩ := pairs_laid s.data.toList [6, 4, 2, 4, 4, 4, 6, 6] 4 (by decide) (by rw [hl, h48]; decide)
  rw [e]
  refine ⟨recE_ok p1, ?_⟩
  rw [recS_ok p1, p2]
  refine ba_of ?_
  have c1 := text_cut s 0 4
  rw [ByteArray.toList_eq] at hm
  rw [hm] at c1
  have c2 := text_zeros s 40 48 h48 (by decide) hz
  have c3 := list_three s.data.toList 4 36
  rw [show (s.data.toList.take 4) = [71, 82, 80, 78] from c1, c2] at c3
  exact c3.symm
end Go.Proofs.YtoopaigpjefonaaGreatDoor

namespace Go.Proofs.YtoopaigpjefonaaGreatDoor
set_option maxRecDepth 20000
theorem leVal_leI : ∀ (k : Nat) (n : Int), 0 ≤ n → n < 256 ^ k → leVal ((leI k n).map fun x => UInt8.ofNat x.toNat) = n
  | 0, n, h, h' => by simp at h'; simp [leI, leVal]; omega
  | k + 1, n, h, h' => by
    rw [leI_succ, List.map_append, List.map_cons, List.map_nil, leVal_snoc, List.length_map, leI_length]
    have hp : (0 : Int) < 256 ^ k := Int.pow_pos (by decide)
    have hq : n / 256 ^ k < 256 := Int.ediv_lt_of_lt_mul hp (by rw [Int.pow_succ, Int.mul_comm] at h'; exact h')
    have hq0 : 0 ≤ n / 256 ^ k := Int.ediv_nonneg h (Int.le_of_lt hp)
    have hlow : leI k n = leI k (n % 256 ^ k) := by
      unfold leI
      apply List.map_congr_left
      intro i hi
      have hik : i < k := List.mem_range.1 hi
      have e : (256 : Int) ^ k = 256 ^ i * 256 ^ (k - i) := by rw [← Int.pow_add]; congr 1; omega
      have e2 : (256 : Int) ^ (k - i) = 256 * 256 ^ (k - i - 1) := by rw [Int.mul_comm, ← Int.pow_succ]; congr 1; omega
      have hi0 : (0 : Int) < 256 ^ i := Int.pow_pos (by decide)
      conv => lhs; rw [← Int.mul_ediv_add_emod n (256 ^ k)]
      rw [e, Int.mul_assoc, Int.add_comm, Int.add_mul_ediv_left _ _ (by omega), e2, Int.mul_assoc, Int.add_mul_emod_self_left]
    rw [hlow, leVal_leI k (n % 256 ^ k) (Int.emod_nonneg _ (by omega)) (Int.emod_lt_of_pos _ hp)]
    rw [Int.emod_eq_of_lt hq0 hq]
    have hb : ((UInt8.ofNat (n / 256 ^ k).toNat).toNat : Int) = n / 256 ^ k := by
      rw [UInt8.toNat_ofNat', Nat.mod_eq_of_lt (by omega)]; omega
    rw [hb, Int.mul_comm, Int.add_comm]
    exact Int.mul_ediv_add_emod n (256 ^ k)
end Go.Proofs.YtoopaigpjefonaaGreatDoor

namespace Go.Proofs.YtoopaigpjefonaaGreatDoor
set_option maxRecDepth 20000
open Go.RowKit Go.Lib

theorem putS_val {n k : Int} (h : putE n k = 0) : leVal (putS n k).data.toList = n := by
  unfold putE at h
  split at h
  · omega
  split at h
  · omega
  unfold putS
  rw [if_pos (by omega)]
  exact leVal_leI k.toNat n (by omega) (by omega)
theorem putS_inj {a b k : Int} (ha : putE a k = 0) (hb : putE b k = 0) (h : (putS a k).data.toList = (putS b k).data.toList) : a = b := by
  rw [← putS_val ha, ← putS_val hb, h]
theorem laidL_inj : ∀ (ps qs : List (Int × Int)), ps.map (·.2) = qs.map (·.2) → laidOk ps = true → laidOk qs = true → laidL ps = laidL qs → ps = qs
  | [], [], _, _, _, _ => rfl
  | [], q :: r, h, _, _, _ => by simp at h
  | p :: r, [], h, _, _, _ => by simp at h
  | p :: r, q :: t, h, hp, hq, hl => by
    simp only [List.map_cons, List.cons.injEq] at h
    simp only [laidOk, Bool.and_eq_true, beq_iff_eq] at hp hq
    rw [laidL, laidL] at hl
    have hk : (putS p.1 p.2).data.toList.length = (putS q.1 q.2).data.toList.length := by rw [putS_size hp.1, putS_size hq.1, h.1]
    obtain ⟨h1, h2⟩ := List.append_inj hl hk
    have e1 : p.1 = q.1 := putS_inj (k := q.2) (by rw [← h.1]; exact hp.1) hq.1 (by rw [← h1, h.1])
    rw [laidL_inj r t h.2 hp.2 hq.2 h2, show p = q from Prod.ext e1 h.1]
theorem recE_zero {ps : List (Int × Int)} (h : recE ps = 0) : laidOk ps = true := by
  unfold recE at h
  split at h
  · assumption
  · omega
theorem ba_inj {l m : List UInt8} (h : (⟨l.toArray⟩ : ByteArray) = ⟨m.toArray⟩) : l = m := by
  have := congrArg (fun b : ByteArray => b.data.toList) h
  simpa using this
theorem recS_inj {pre pre' : List UInt8} {ps qs : List (Int × Int)} {z : Nat} (hw : ps.map (·.2) = qs.map (·.2)) (hpre : pre.length = pre'.length) (hp : laidOk ps = true) (hq : laidOk qs = true) (h : recS pre ps z = recS pre' qs z) : pre = pre' ∧ ps = qs := by
  rw [recS_ok hp, recS_ok hq] at h
  have h1 := ba_inj h
  have h2 := List.append_cancel_right h1
  obtain ⟨h3, h4⟩ := List.append_inj h2 hpre
  exact ⟨h3, laidL_inj ps qs hw hp hq h4⟩
theorem entE_zero {s : ByteArray} {a1 a2 : Int} (h : entE s a1 a2 = 0) : s.size ≤ 19 ∧ entFree s a1 a2 = true ∧ laidOk (entPs a1 a2) = true := by
  unfold entE at h
  split at h
  · split at h
    · exact ⟨by assumption, by assumption, recE_zero h⟩
    · omega
  · omega
theorem entPre_length {s : ByteArray} (h : s.size ≤ 19) : (entPre s).length = 20 := by
  unfold entPre
  rw [List.length_append, List.length_append, (entLen h).2, List.length_replicate, show s.data.toList.length = s.size by simp]
  omega
theorem entS_inj {s t : ByteArray} {a1 a2 b1 b2 : Int} (hs : entE s a1 a2 = 0) (ht : entE t b1 b2 = 0) (h : entS s a1 a2 = entS t b1 b2) : s = t ∧ a1 = b1 ∧ a2 = b2 := by
  obtain ⟨s1, s2, s3⟩ := entE_zero hs
  obtain ⟨t1, t2, t3⟩ := entE_zero ht
  unfold entS at h
  rw [if_pos ⟨s1, s2⟩, if_pos ⟨t1, t2⟩] at h
  obtain ⟨h1, h2⟩ := recS_inj (pre := entPre s) (pre' := entPre t) (ps := entPs a1 a2) (qs := entPs b1 b2) (z := 0) rfl (by rw [entPre_length s1, entPre_length t1]) s3 t3 h
  have h3 : s = t := by
    unfold entPre at h1
    rw [List.append_assoc, List.append_assoc] at h1
    obtain ⟨e1, e2⟩ := List.append_inj h1 (by rw [(entLen s1).2, (entLen t1).2])
    have e3 : (s.size : Int) = t.size := putS_inj (k := 1) (entLen s1).1 (entLen t1).1 e1
    obtain ⟨e4, _⟩ := List.append_inj e2 (by simp; omega)
    apply ByteArray.ext
    exact Array.toList_inj.1 e4
  unfold entPs at h2
  simp only [List.cons.injEq, Prod.mk.injEq, and_true] at h2
  exact ⟨h3, h2.1, h2.2⟩
end Go.Proofs.YtoopaigpjefonaaGreatDoor

namespace Go.Proofs.YtoopaigpjefonaaGreatDoor
set_option maxRecDepth 20000
open Go.RowKit

def rowF (n : Nat) (f : Nat → Value) : List Value := (List.range n).map f
theorem rowF_length (n : Nat) (f : Nat → Value) : (rowF n f).length = n := by simp [rowF]
theorem rowF_get (n : Nat) (f : Nat → Value) (i : Nat) (h : i < n) : (rowF n f)[i]? = some (f i) := by simp [rowF, h]
theorem rowF_congr {n : Nat} {f f' : Nat → Value} (h : ∀ k, k < n → f k = f' k) : rowF n f = rowF n f' :=
  List.map_congr_left fun k hk => h k (List.mem_range.1 hk)
theorem rowF_set (n : Nat) (f : Nat → Value) (i : Nat) (v : Value) : (rowF n f).set i v = rowF n fun k => if k = i then v else f k := by
  refine List.ext_getElem? fun k => ?_
  rw [List.getElem?_set]
  by_cases hk : k < n
  · rw [rowF_get _ _ _ hk, rowF_get _ _ _ hk, rowF_length]
    by_cases e : i = k
    · subst e; simp [hk]
    · simp [e, Ne.symm e]
  · rw [List.getElem?_eq_none (by rw [rowF_length]; omega), List.getElem?_eq_none (by rw [rowF_length]; omega), rowF_length]
    by_cases e : i = k
    · subst e; simp [hk]
    · simp [e]
theorem Row.setF {w : World} {g t n : Nat} {f : Nat → Value} (h : Row w g t (rowF n f)) (i : Nat) (v : Value) : Row (w.setCell ⟨g, i, none⟩ v) g t (rowF n fun k => if k = i then v else f k) := by
  have h1 := heap_setCell_same w g i _ t v h
  rw [List.setIfInBounds_toArray, rowF_set] at h1
  exact h1
theorem Row.cellF {w : World} {g t n : Nat} {f : Nat → Value} (h : Row w g t (rowF n f)) (i : Nat) (hi : i < n) : w.cell? ⟨g, i, none⟩ = some (f i) := by
  rw [h.cell, rowF_get _ _ _ hi]
theorem byV_rowF (l : List Nat) : byV l = rowF l.length fun k => .int .u8 (l.getD k 0 : Nat) := by
  refine List.ext_getElem? fun k => ?_
  by_cases hk : k < l.length
  · rw [byV_get _ _ hk, rowF_get _ _ _ hk]
  · rw [List.getElem?_eq_none (by simp [byV]; omega), List.getElem?_eq_none (by rw [rowF_length]; omega)]
theorem Row.congr {w : World} {g t : Nat} {l l' : List Value} (h : Row w g t l) (e : l = l') : Row w g t l' := e ▸ h
end Go.Proofs.YtoopaigpjefonaaGreatDoor

namespace Go.Proofs.YtoopaigpjefonaaGreatDoor
set_option maxRecDepth 20000
open Go.RowKit

/-- Nothing that was there is changed but blocks of F; the blocks of F, and those that are new. -/
def Touch (F : Nat → Prop) (w w' : World) : Prop := Below 0 w w' ∧ ∀ k, k < w.heap.size → ¬ F k → w'.heap[k]? = w.heap[k]?
def grow (F : Nat → Prop) (w w' : World) : Nat → Prop := fun k => F k ∨ (w.heap.size ≤ k ∧ k < w'.heap.size)
theorem Touch.refl (F : Nat → Prop) (w : World) : Touch F w w := ⟨Below.refl _ _, fun _ _ _ => rfl⟩
theorem Touch.size {F : Nat → Prop} {w w' : World} (h : Touch F w w') : w.heap.size ≤ w'.heap.size := h.1.size
theorem Touch.trans {F : Nat → Prop} {w w1 w2 : World} (h : Touch F w w1) (k : Touch (grow F w w1) w1 w2) : Touch F w w2 :=
  ⟨h.1.trans k.1, fun i hi hF => (k.2 i (Nat.lt_of_lt_of_le hi h.size) (fun hg => hg.elim hF fun hg => by omega)).trans (h.2 i hi hF)⟩
theorem Touch.of_below {F : Nat → Prop} {w w' : World} (h : Below w.heap.size w w') : Touch F w w' := ⟨h.mono (Nat.zero_le _), fun k hk _ => h.block k hk⟩
theorem Touch.mono {F F' : Nat → Prop} {w w' : World} (h : Touch F w w') (hF : ∀ k, F k → F' k) : Touch F' w w' := ⟨h.1, fun k hk hn => h.2 k hk fun hf => hn (hF k hf)⟩
theorem Touch.drew {F : Nat → Prop} {w w' : World} (h : Touch F w w') : Touch F w w'.drew := ⟨h.1.drew, fun k hk hb => h.2 k hk hb⟩
theorem Touch.setCell {F : Nat → Prop} {w w' : World} (h : Touch F w w') (b i : Nat) (v : Value) (hb : F b ∨ w.heap.size ≤ b) : Touch F w (w'.setCell ⟨b, i, none⟩ v) :=
  ⟨h.1.setCell (p := ⟨b, i, none⟩) (Nat.zero_le _) _, fun k hk hn => (Below.heap_setCell w' ⟨b, i, none⟩ _ k (fun e => by
    subst e
    rcases hb with hb | hb
    · exact hn hb
    · exact absurd hb (Nat.not_le.2 hk))).trans (h.2 k hk hn)⟩
theorem Touch.below {F : Nat → Prop} {w w' : World} (h : Touch F w w') {B : Nat} (hB : B ≤ w.heap.size) (hF : ∀ k, F k → B ≤ k) : Below B w w' :=
  ⟨h.1.os, h.1.tape, h.1.output, h.1.size, fun k hk => h.2 k (by omega) fun hf => absurd (hF k hf) (by omega)⟩

theorem Row.setL {w : World} {g t : Nat} {l : List Value} (h : Row w g t l) (i : Nat) (v : Value) : Row (w.setCell ⟨g, i, none⟩ v) g t (l.set i v) := by
  have h1 := heap_setCell_same w g i _ t v h
  rw [List.setIfInBounds_toArray] at h1
  exact h1
theorem Row.off {w : World} {g t b : Nat} {l : List Value} (h : Row w g t l) (hb : g ≠ b) (i : Nat) (v : Value) : Row (w.setCell ⟨b, i, none⟩ v) g t l := (Below.heap_setCell w ⟨b, i, none⟩ _ g hb).trans h
theorem owns_keep {w w' : World} {e : TypeId} {z n : Nat} {v : Value} {xs : List Value} (h : w.ownsRow 0 e z v n xs) (hb : ∀ g, v.ownBlock = some g → w'.heap[g]? = w.heap[g]?) : w'.ownsRow 0 e z v n xs := by
  refine ⟨h.1, ?_⟩
  rcases h.2 with hn | ⟨g, cap, cur, rfl, h0, hg, hr⟩
  · exact .inl hn
  · exact .inr ⟨g, cap, cur, rfl, h0, (hb g rfl).trans hg, hr⟩
theorem owns_lt {w : World} {e : TypeId} {z n : Nat} {v : Value} {xs : List Value} (h : w.ownsRow 0 e z v n xs) (g : Nat) (hv : v.ownBlock = some g) : g < w.heap.size := by
  rcases h.2 with ⟨rfl, _⟩ | ⟨g', cap, cur, rfl, h0, hg, hr⟩
  · cases hv
  · cases hv; exact lt_of_block hg
theorem owns_form {w : World} {e : TypeId} {z n : Nat} {v : Value} {xs : List Value} (h : w.ownsRow 0 e z v n xs) (hn : 0 < n) : ∃ g cap, v = .slice (some ⟨g, 0, none⟩) n cap ∧ n ≤ cap ∧ ∀ i u, xs[i]? = some u → w.cell? ⟨g, i, none⟩ = some u := by
  rcases h.2 with ⟨rfl, h0⟩ | ⟨g, cap, cur, rfl, h0, hg, hc, hm, hs, ht⟩
  · omega
  · refine ⟨g, cap, rfl, hc, fun i u hu => ?_⟩
    rw [cell_of_row _ _ _ _ _ _ hg]
    rw [← ht, List.getElem?_take] at hu
    split at hu
    · simpa using hu
    · cases hu
theorem owns_off {w : World} {e : TypeId} {z n b : Nat} {v : Value} {xs : List Value} (h : w.ownsRow 0 e z v n xs) (hb : v.ownBlock ≠ some b) (i : Nat) (u : Value) : (w.setCell ⟨b, i, none⟩ u).ownsRow 0 e z v n xs :=
  owns_keep h fun g hg => Below.heap_setCell w ⟨b, i, none⟩ _ g fun e => hb (by rw [hg, e])

theorem owns_slice {w : World} {e : TypeId} {z n : Nat} {v : Value} {xs : List Value} (h : w.ownsRow 0 e z v n xs) : ∃ oa cap, v = .slice oa n cap := by
  rcases h.2 with ⟨rfl, h0⟩ | ⟨g, cap, cur, rfl, _⟩
  · exact ⟨none, 0, by rw [h0]⟩
  · exact ⟨_, _, rfl⟩
end Go.Proofs.YtoopaigpjefonaaGreatDoor

namespace Go.Proofs.YtoopaigpjefonaaGreatDoor
set_option maxRecDepth 20000
open Go.Shelf Go.RowKit

def pl_laysM316_ren : Go.Shelf.Ren := ⟨fun | 316 => 188 | n => n, fun | 9 => 9 | 3 => 3 | 4 => 4 | 37 => 143 | 0 => 0 | 127 => 220 | 5 => 5 | n => n, fun | n => n⟩
theorem pl_laysM316 : Go.Proofs.LaysM.n316 Tryz.prog pl_laysM316_ren := {
  mixed := by kernel_rfl
  f316 := Tryz.func188.trans (congrArg some (by kernel_rfl))
  t0 := Tryz.underlying0
  a0 := Tryz.isAgg0
  z0 := Tryz.sizeOf0
  v0 := Tryz.zeroValue0
  t3 := Tryz.underlying3
  a3 := Tryz.isAgg3
  z3 := Tryz.sizeOf3
  v3 := Tryz.zeroValue3
  t4 := Tryz.underlying4
  a4 := Tryz.isAgg4
  z4 := Tryz.sizeOf4
  v4 := Tryz.zeroValue4
  t9 := Tryz.underlying9
  a9 := Tryz.isAgg9
  z9 := Tryz.sizeOf9
  v9 := Tryz.zeroValue9
  t37 := Tryz.underlying143
  a37 := Tryz.isAgg143
  z37 := Tryz.sizeOf143
  v37 := Tryz.zeroValue143
  t127 := Tryz.underlying220
  a127 := Tryz.isAgg220
  z127 := Tryz.sizeOf220
  v127 := Tryz.zeroValue220
  t5 := Tryz.underlying5
  a5 := Tryz.isAgg5
  z5 := Tryz.sizeOf5
  v5 := Tryz.zeroValue5
  i0 := by kernel_rfl
  i3 := by kernel_rfl
  i4 := by kernel_rfl
  i5 := by kernel_rfl
  i9 := by kernel_rfl
  i37 := by kernel_rfl
  i127 := by kernel_rfl }

theorem slClone_any (s : ByteArray) (w : World) (hs : s.size ≤ 281474976710656) :
    Calls Tryz.prog 188 #[.string s] w fun e w' => e = .returned (.string s) ∧ Below w.heap.size w w' := Any.stringslite_Clone pl_laysM316 s w hs
theorem clone_any (s : ByteArray) (w : World) (hs : s.size ≤ 281474976710656) :
    Calls Tryz.prog 170 #[.string s] w fun e w' => e = .returned (.string s) ∧ Below w.heap.size w w' := by
  go_enter Tryz.func170, Tryz.ntmps170
  go_wp2_with fail
  refine (slClone_any s _ hs).mono ?_
  rintro e w1 ⟨rfl, hb⟩
  go_wp2
  go_ret
  exact ⟨rfl, hb⟩
end Go.Proofs.YtoopaigpjefonaaGreatDoor

namespace Go.Proofs.YtoopaigpjefonaaGreatDoor
set_option maxRecDepth 20000
open Go.RowKit
theorem size5 (w : World) : (Go.sizeOf 5).run Tryz.prog w = .ok 1 w := by
  obtain ⟨i0, hi, hz0, hz1, hz2⟩ := info_parts info5
  simp [Go.sizeOf, typeInfo, hi, hz1]

theorem pad_arg (s : ByteArray) (n : Int) (h : n < 0 ∨ 4096 < n) (w : World) :
    Calls Tryz.prog 93 #[.string s, .int .i64 n] w fun e w' => e = .returned (.tuple #[.string ByteArray.empty, .int .i64 1]) ∧ w' = w := by
  rcases h with h | h
  · go_enter Tryz.func93, Tryz.ntmps93
    go_wp2
    go_ret2
    exact ⟨rfl, rfl⟩
  · have h1 : ¬ n < 0 := by omega
    go_enter Tryz.func93, Tryz.ntmps93
    go_wp2
    go_ret2
    exact ⟨rfl, rfl⟩

theorem pad_long (s : ByteArray) (n : Nat) (h1 : n ≤ 4096) (h : n < s.size) (w : World) :
    Calls Tryz.prog 93 #[.string s, .int .i64 n] w fun e w' => e = .returned (.tuple #[.string ByteArray.empty, .int .i64 4]) ∧ w' = w := by
  have a1 : ¬ (n : Int) < 0 := by omega
  have a2 : ¬ (4096 : Int) < n := by omega
  have a3 : (n : Int) < s.size := by omega
  go_enter Tryz.func93, Tryz.ntmps93
  go_wp2
  go_ret2
  exact ⟨rfl, rfl⟩

set_option maxHeartbeats 400000 in
theorem pad_ok (s : ByteArray) (n : Nat) (h1 : n ≤ 4096) (h : s.size ≤ n) (w : World) :
    Calls Tryz.prog 93 #[.string s, .int .i64 n] w fun e w' => e = .returned (.tuple #[.string (strOfNums (padNums s n)), .int .i64 0]) ∧ Below w.heap.size w w' := by
  have a1 : ¬ (n : Int) < 0 := by omega
  have a2 : ¬ (4096 : Int) < n := by omega
  have a3 : ¬ (n : Int) < s.size := by omega
  obtain ⟨i0, hi, hz0, hz1, hz2⟩ := info_parts info5
  go_enter Tryz.func93, Tryz.ntmps93
  go_wp2_with (at_make; refine wpList_make_full _ rfl _ _ 143 rfl w.heap.size 5 i0 (.int .u8 0) 1 Tryz.underlying143 hi hz0 hz1 .i64 .i64 _ _ n rfl rfl rfl rfl ?c1 ?c2 (Nat.le_refl _) ?_)
  case c1 => first | omega | (rw [hz2]; omega)
  case c2 => unfold maxLen; omega
  intro w1 hown1 hgrow1
  have hb1 : Below w.heap.size w w1 := (Below.refl _ _).grown hgrow1 (Nat.le_refl _) (fun k hk => by simp at hk)
  have hown2 : w1.ownsRow w.heap.size 5 1 (.slice (some ⟨w.heap.size, 0, none⟩) n n) n (List.replicate n (Value.int .u8 0)) := by
    simpa [toList_madeCells_one, Value.cells] using hown1
  clear hown1 hgrow1
  have hcv := run_convert_bytes_arg (P := Tryz.prog) (w1.setCells w.heap.size 0 (s.data.toList.map fun x => Value.int .u8 (x.toNat : Int))) 143 5 Tryz.underlying143 Tryz.underlying5 w.heap.size 0 n n (padNums s n) (padNums_length s n h) (fun i hi => by
    have hl : s.data.toList.length = s.size := by simp
    have ho := ownsRow_setCells (s.data.toList.map fun x => Value.int .u8 (x.toNat : Int)) 0 w1 _ hown2
    rw [setMany_eq _ _ _ (by simp only [List.length_map, hl, List.length_replicate]; omega)] at ho
    rw [Nat.zero_add, ho.cellAt i (by omega)]
    simp only [List.take_zero, List.nil_append, Nat.zero_add, List.length_map, hl, List.drop_replicate]
    have e : (s.data.toList.map fun x => Value.int .u8 (x.toNat : Int)) ++ List.replicate (n - s.size) (Value.int .u8 0) = (padNums s n).map (Value.int .u8) := by simp [padNums]
    rw [e, List.getElem?_map, List.getD_eq_getElem?_getD, List.getElem?_eq_getElem (by rw [padNums_length s n h]; exact hi)]
    rfl) 9 Tryz.underlying9
  have hb2 : Below w.heap.size w (w1.setCells w.heap.size 0 (s.data.toList.map fun x => Value.int .u8 (x.toNat : Int))) := below_setCells (Nat.le_refl _) _ _ _ hb1
  have hcp := run_copy_string (P := Tryz.prog) w1 143 9 3 5 w.heap.size 0 n n s Tryz.underlying143 size5 h (fun j hj => by rw [Nat.zero_add, hown2.cellAt j (by omega)]; simp; omega) (fun j hj => by rw [Nat.zero_add]; exact hown2.frozenAt j)
  generalize w1.setCells w.heap.size 0 (s.data.toList.map fun x => Value.int .u8 (x.toNat : Int)) = w2 at *
  clear hown2 hb1
  go_wp2
  go_ret2
  exact ⟨rfl, hb2⟩

/-- pack.Pad, whatever it is handed. -/
theorem pad_any (s : ByteArray) (n : Int) (w : World) :
    Calls Tryz.prog 93 #[.string s, .int .i64 n] w fun e w' => e = .returned (.tuple #[.string (padS s n), .int .i64 (padE s n)]) ∧ Below w.heap.size w w' := by
  by_cases hk : n < 0 ∨ 4096 < n
  · refine (pad_arg s n hk w).mono fun e w' ⟨he, hw⟩ => ?_
    rw [padS_no (.inl hk), padE_arg hk]
    exact ⟨he, hw ▸ Below.refl _ _⟩
  · obtain ⟨m, rfl⟩ := Int.eq_ofNat_of_zero_le (show 0 ≤ n by omega)
    have h1 : m ≤ 4096 := by omega
    by_cases hl : m < s.size
    · refine (pad_long s m h1 hl w).mono fun e w' ⟨he, hw⟩ => ?_
      rw [padS_no (.inr (by omega)), padE_long h1 hl]
      exact ⟨he, hw ▸ Below.refl _ _⟩
    · rw [padS_ok h1 (by omega), padE_ok h1 (by omega), ← strOf_padNums]
      exact pad_ok s m h1 (by omega) w
end Go.Proofs.YtoopaigpjefonaaGreatDoor

namespace Go.Proofs.YtoopaigpjefonaaGreatDoor
set_option maxRecDepth 20000

section
variable {α : Type} [DecidableEq α]
def numOf : List α → α → Nat
  | [], _ => 0
  | y :: t, x => if y = x then 1 else if numOf t x = 0 then 0 else numOf t x + 1
theorem numOf_zero {x : α} : ∀ {l : List α}, numOf l x = 0 ↔ x ∉ l
  | [] => by simp [numOf]
  | y :: t => by
    have ih := numOf_zero (x := x) (l := t)
    unfold numOf
    by_cases e : y = x
    · simp [e]
    · by_cases h : numOf t x = 0
      · simp [h, e, ih.1 h, Ne.symm e]
      · have := mt ih.2 h
        simp [h, e] at this ⊢
        intro _; exact this
theorem numOf_le (x : α) : ∀ l : List α, numOf l x ≤ l.length
  | [] => Nat.le_refl _
  | y :: t => by
    have := numOf_le x t
    unfold numOf
    simp only [List.length_cons]
    split
    · omega
    · split <;> omega
theorem numOf_get {x : α} : ∀ {l : List α} {k : Nat}, numOf l x = k + 1 → l[k]? = some x
  | [], k, h => by simp [numOf] at h
  | y :: t, k, h => by
    unfold numOf at h
    by_cases e : y = x
    · rw [if_pos e] at h
      obtain rfl : k = 0 := by omega
      simp [e]
    · rw [if_neg e] at h
      by_cases h0 : numOf t x = 0
      · rw [if_pos h0] at h; omega
      · rw [if_neg h0] at h
        obtain ⟨m, rfl⟩ : ∃ m, k = m + 1 := ⟨k - 1, by omega⟩
        rw [List.getElem?_cons_succ]
        exact numOf_get (by omega)
theorem numOf_first {x : α} : ∀ {l : List α} {k : Nat}, l[k]? = some x → (∀ j, j < k → l[j]? ≠ some x) → numOf l x = k + 1
  | [], k, h, _ => by simp at h
  | y :: t, 0, h, _ => by simp at h; unfold numOf; rw [if_pos h]
  | y :: t, k + 1, h, hn => by
    have e : ¬ y = x := fun e => hn 0 (by omega) (by simp [e])
    have := numOf_first (l := t) (k := k) (by simpa using h) (fun j hj => by have := hn (j + 1) (by omega); simpa using this)
    unfold numOf
    rw [if_neg e, this, if_neg (by omega)]
theorem numOf_before {x : α} : ∀ {l : List α} {k : Nat}, numOf l x = k + 1 → ∀ j, j < k → l[j]? ≠ some x
  | [], k, h, _, _ => by simp [numOf] at h
  | y :: t, k, h, j, hj => by
    unfold numOf at h
    by_cases e : y = x
    · rw [if_pos e] at h; omega
    · rw [if_neg e] at h
      by_cases h0 : numOf t x = 0
      · rw [if_pos h0] at h; omega
      · rw [if_neg h0] at h
        obtain ⟨m, rfl⟩ : ∃ m, k = m + 1 := ⟨k - 1, by omega⟩
        cases j with
        | zero => simpa using e
        | succ j =>
          rw [List.getElem?_cons_succ]
          exact numOf_before (l := t) (k := m) (by omega) j (by omega)
theorem numOf_none {x : α} {l : List α} (h : ∀ j, j < l.length → l[j]? ≠ some x) : numOf l x = 0 :=
  numOf_zero.2 fun hm => by
    obtain ⟨j, hj, e⟩ := List.getElem_of_mem hm
    exact h j hj (by rw [List.getElem?_eq_getElem hj, e])
theorem numOf_snoc (l : List α) (y x : α) : numOf (l ++ [y]) x = if numOf l x = 0 then (if y = x then l.length + 1 else 0) else numOf l x := by
  induction l with
  | nil => simp [numOf]
  | cons z t ih =>
    rw [List.cons_append]
    unfold numOf
    by_cases e : z = x
    · simp [e]
    · rw [if_neg e, if_neg e, ih]
      by_cases h0 : numOf t x = 0
      · simp only [h0, if_true]
        by_cases e2 : y = x
        · simp [e2]
        · simp [e2]
      · simp [h0]
theorem numOf_inj {l : List α} {x y : α} (h : numOf l x = numOf l y) (hx : numOf l x ≠ 0) : x = y := by
  obtain ⟨k, hk⟩ : ∃ k, numOf l x = k + 1 := ⟨numOf l x - 1, by omega⟩
  have h1 := numOf_get hk
  have h2 := numOf_get (h.symm.trans hk)
  rw [h1] at h2
  exact Option.some.inj h2
/-- The list with a thing, that is numbered once. -/
def addN (l : List α) (x : α) : List α := if numOf l x = 0 then l ++ [x] else l
theorem addN_new {l : List α} {x : α} (h : numOf l x = 0) : addN l x = l ++ [x] := by unfold addN; rw [if_pos h]
theorem addN_old {l : List α} {x : α} (h : ¬ numOf l x = 0) : addN l x = l := by unfold addN; rw [if_neg h]
theorem addN_length (l : List α) (x : α) : (addN l x).length ≤ l.length + 1 := by
  unfold addN; split <;> simp
theorem numOf_add (l : List α) (x : α) : numOf (addN l x) x = if numOf l x = 0 then l.length + 1 else numOf l x := by
  by_cases h : numOf l x = 0
  · rw [addN_new h, numOf_snoc, if_pos h, if_pos h, if_pos rfl]
  · rw [addN_old h, if_neg h]
theorem numOf_add_pos (l : List α) (x : α) : numOf (addN l x) x ≠ 0 := by
  rw [numOf_add]; split <;> omega
theorem numOf_add_keeps {l : List α} (x : α) {y : α} (h : numOf l y ≠ 0) : numOf (addN l x) y = numOf l y := by
  by_cases h0 : numOf l x = 0
  · rw [addN_new h0, numOf_snoc, if_neg h]
  · rw [addN_old h0]
theorem numOf_add_other {l : List α} {x y : α} (h : x ≠ y) : numOf (addN l x) y = numOf l y := by
  by_cases h0 : numOf l x = 0
  · rw [addN_new h0, numOf_snoc, if_neg h]
    split
    · rename_i e; exact e.symm
    · rfl
  · rw [addN_old h0]
end

/-- A number as so many bytes. -/
def wideS (n k : Nat) : ByteArray := putS n 6 ++ noughtsS (k - 6)
theorem put6 {n : Nat} (hn : n < 281474976710656) : putS n 6 = strOfNums (leI 6 n) := putS_ok (m := 6) (by decide) (by decide) (by omega) (by rw [show (256 : Int) ^ 6 = 281474976710656 by decide]; omega)
theorem put6_size {n : Nat} (hn : n < 281474976710656) : (putS n 6).size = 6 := by rw [put6 hn, strOfNums_size, leI_length]
theorem wideS_size {n k : Nat} (hn : n < 281474976710656) (hk : 6 ≤ k) : (wideS n k).size = k := by
  unfold wideS
  rw [ByteArray.size_append, put6_size hn, noughtsS_size]
  omega
theorem pad_wide {n k : Nat} (hn : n < 281474976710656) (hk : 6 ≤ k) (hk2 : k ≤ 4096) : padS (putS n 6) k = wideS n k := by
  unfold wideS
  rw [padS_ok hk2 (by rw [put6_size hn]; exact hk), pad_append, put6_size hn]
theorem mk_inj {l m : List UInt8} (h : (⟨l.toArray⟩ : ByteArray) = ⟨m.toArray⟩) : l = m := by
  injection h with h
  simpa using h
theorem str_inj {l m : List Int} (h : strOfNums l = strOfNums m) : l.map (fun x => UInt8.ofNat x.toNat) = m.map (fun x => UInt8.ofNat x.toNat) := mk_inj h
theorem put6_val {n : Nat} (hn : n < 281474976710656) : leVal ((leI 6 (n : Int)).map fun x => UInt8.ofNat x.toNat) = n :=
  leVal_leI 6 n (by omega) (by rw [show (256 : Int) ^ 6 = 281474976710656 by decide]; omega)
theorem put6_inj {m n : Nat} (hm : m < 281474976710656) (hn : n < 281474976710656) (h : putS m 6 = putS n 6) : m = n := by
  rw [put6 hm, put6 hn] at h
  have e := congrArg leVal (str_inj h)
  rw [put6_val hm, put6_val hn] at e
  omega
theorem app_inj {a b c : ByteArray} (hs : a.size = b.size) (h : a ++ c = b ++ c) : a = b := by
  have h2 := congrArg (fun b : ByteArray => b.data.toList) h
  simp only [ByteArray.data_append, Array.toList_append] at h2
  have h3 := (List.append_inj h2 (by simpa using hs)).1
  exact ByteArray.ext (Array.toList_inj.1 h3)
theorem wideS_inj {m n k : Nat} (hm : m < 281474976710656) (hn : n < 281474976710656) (h : wideS m k = wideS n k) : m = n :=
  put6_inj hm hn (app_inj ((put6_size hm).trans (put6_size hn).symm) h)
end Go.Proofs.YtoopaigpjefonaaGreatDoor

namespace Go.Proofs.YtoopaigpjefonaaGreatDoor
set_option maxRecDepth 20000
open Go.RowKit

theorem inBytes_any (n : Nat) (w : World) :
    Calls Tryz.prog 258 #[.int .i64 (n : Nat)] w fun e w' => e = .returned (.string (putS n 6)) ∧ Below w.heap.size w w' := by
  go_enter Tryz.func258, Tryz.ntmps258
  go_wp2_with fail
  refine (put_any n 6 _).mono ?_
  rintro e w1 ⟨rfl, hb⟩
  go_wp2
  go_ret
  exact ⟨rfl, hb⟩
theorem wide_any (n k : Nat) (hn : n < 281474976710656) (hk : 6 ≤ k) (hk2 : k ≤ 4096) (w : World) :
    Calls Tryz.prog 285 #[.int .i64 (n : Nat), .int .i64 (k : Nat)] w fun e w' => e = .returned (.string (wideS n k)) ∧ Below w.heap.size w w' := by
  have HP : Hid (padS (putS n 6) k = wideS n k) := pad_wide hn hk hk2
  generalize hs : putS n 6 = s at *
  have hi := inBytes_any n w
  rw [hs] at hi
  clear hs
  go_enter Tryz.func285, Tryz.ntmps285
  go_wp2_with fail
  refine hi.mono ?_
  rintro e w1 ⟨rfl, hb⟩
  clear hi
  go_wp2_with fail
  refine (pad_any s k _).mono ?_
  rintro e w2 ⟨rfl, hb2⟩
  rw [HP.out]
  have HB : Hid (Below w.heap.size w w2) := hb.trans (hb2.mono hb.size)
  clear hb hb2
  go_wp2
  go_ret
  exact ⟨rfl, HB.out⟩
end Go.Proofs.YtoopaigpjefonaaGreatDoor

namespace Go.Proofs.YtoopaigpjefonaaGreatDoor
set_option maxRecDepth 20000
open Go.RowKit Go.Maps

theorem vt_laidOut : laidOutB Tryz.prog = true := by kernel_rfl
theorem types_some : 0 < Tryz.prog.types.size := of_decide_eq_true (by kernel_rfl)
theorem law_text : Keyed Tryz.prog 376 := Keyed.of_law (deep_law_laid vt_laidOut (m := 4) (by decide) (of_decide_eq_true (by kernel_rfl)) (by kernel_rfl) (by kernel_rfl))
theorem law_mark : Keyed Tryz.prog 385 := Keyed.of_law (deep_law_laid vt_laidOut (m := 4) (by decide) (of_decide_eq_true (by kernel_rfl)) (by kernel_rfl) (by kernel_rfl))
theorem law_seal : Keyed Tryz.prog 379 := Keyed.of_law (deep_law_laid vt_laidOut (m := 4) (by decide) (of_decide_eq_true (by kernel_rfl)) (by kernel_rfl) (by kernel_rfl))
theorem zero_int (w : World) : (zeroValue 3).run Tryz.prog w = .ok (.int .i64 0) w := by kernel_rfl

/-- The keys. -/
def keyT (s : ByteArray) : Value := .agg #[.string s]
def keyM (p : ByteArray × ByteArray) : Value := .agg #[.string p.1, .string p.2]
structure Four where
  salt : Int
  nonce : ByteArray
  ad : ByteArray
  text : ByteArray
deriving DecidableEq
def keyS (x : Four) : Value := .agg #[.int .i64 x.salt, .string x.nonce, .string x.ad, .string x.text]
theorem keyT_inj {a b : ByteArray} (h : keyT a = keyT b) : a = b := by simpa [keyT] using h
theorem keyM_inj {a b : ByteArray × ByteArray} (h : keyM a = keyM b) : a = b := by
  simp [keyM] at h
  exact Prod.ext h.1 h.2
theorem keyS_inj {a b : Four} (h : keyS a = keyS b) : a = b := by
  obtain ⟨a1, a2, a3, a4⟩ := a
  obtain ⟨b1, b2, b3, b4⟩ := b
  simp [keyS] at h
  obtain ⟨rfl, rfl, rfl, rfl⟩ := h
  rfl
/-- What may be a key. -/
def fitT (s : ByteArray) : Prop := s.size ≤ 140737488355328
def fitM (p : ByteArray × ByteArray) : Prop := p.1.size ≤ 140737488355328 ∧ p.2.size ≤ 140737488355328
def fitF (x : Four) : Prop := (Lit.int .i64 x.salt).wf = true ∧ x.nonce.size ≤ 140737488355328 ∧ x.ad.size ≤ 140737488355328 ∧ x.text.size ≤ 140737488355328
theorem cells_text : Tryz.prog.cellsOf 376 = 1 := by kernel_rfl
theorem cells_mark : Tryz.prog.cellsOf 385 = 2 := by kernel_rfl
theorem cells_seal : Tryz.prog.cellsOf 379 = 4 := by kernel_rfl
theorem cells_str : Tryz.prog.cellsOf 9 = 1 := by kernel_rfl
theorem cells_num : Tryz.prog.cellsOf 3 = 1 := by kernel_rfl
theorem len_ok {n : Nat} (h : n ≤ 140737488355328) : n ≤ maxLen := by unfold maxLen; omega
theorem mapM_some {α β : Type} {g : α → Option β} : ∀ {l : List α}, (∀ x ∈ l, ∃ y, g x = some y) → ∃ ys, l.mapM g = some ys
  | [], _ => ⟨[], by simp⟩
  | x :: t, h => by
    obtain ⟨y, hy⟩ := h x (by simp)
    obtain ⟨ys, hys⟩ := mapM_some (l := t) fun z hz => h z (by simp [hz])
    exact ⟨y :: ys, by simp [List.mapM_cons, hy, hys]⟩
theorem keyOf_fields {P : Program} {k : TypeId} {fs : Array Field} (hu : P.underlying k = some (.struct fs)) (hk : P.keyType k = true) {cs : Array Value} (hc : P.cellsOf k = cs.size) (hn : fs.all (·.name != "_") = true)
    (hall : ∀ f ∈ fs.toList, ∃ ls, P.keyLits P.types.size f.type ((cs.toList.drop f.offset).take (P.cellsOf f.type)) = some ls) : ∃ kl, keyOf P k (.agg cs) = some kl := by
  obtain ⟨ys, hys⟩ := mapM_some hall
  have hf : (Value.agg cs).formed P k = true := by simp [Value.formed, hu, hc]
  have hl : P.keyLits (P.types.size + 1) k (Value.agg cs).cells.toList = some ys.flatten := by
    unfold Program.keyLits
    simp only [hu, Value.cells]
    rw [if_pos ⟨by rw [hc]; simp, hn⟩, hys]
    rfl
  refine ⟨.string (keyBytes ys.flatten), ?_⟩
  unfold keyOf
  simp only [hu]
  rw [if_pos (by rw [hk, hf]; rfl), hl]
  rfl
theorem keyLits_str {P : Program} {t : TypeId} (hu : P.underlying t = some .string) (hp : 0 < P.types.size) {s : ByteArray} (hs : s.size ≤ maxLen) : ∃ ls, P.keyLits P.types.size t [.string s] = some ls := by
  obtain ⟨m, hm⟩ : ∃ m, P.types.size = m + 1 := ⟨P.types.size - 1, by omega⟩
  rw [hm]
  unfold Program.keyLits
  simp [hu, hs]
theorem keyLits_num {P : Program} {t : TypeId} (hu : P.underlying t = some (.int .i64)) (hp : 0 < P.types.size) {n : Int} (hs : (Lit.int .i64 n).wf = true) : ∃ ls, P.keyLits P.types.size t [.int .i64 n] = some ls := by
  obtain ⟨m, hm⟩ : ∃ m, P.types.size = m + 1 := ⟨P.types.size - 1, by omega⟩
  rw [hm]
  unfold Program.keyLits
  simp [hu, hs]
theorem lits_str {s : ByteArray} (hs : s.size ≤ 140737488355328) : ∃ ls, Tryz.prog.keyLits Tryz.prog.types.size 9 [.string s] = some ls := keyLits_str Tryz.underlying9 types_some (len_ok hs)
theorem lits_num {n : Int} (hs : (Lit.int .i64 n).wf = true) : ∃ ls, Tryz.prog.keyLits Tryz.prog.types.size 3 [.int .i64 n] = some ls := keyLits_num Tryz.underlying3 types_some hs
theorem key_text {s : ByteArray} (h : fitT s) : ∃ kl, keyOf Tryz.prog 376 (keyT s) = some kl := by
  refine keyOf_fields (cs := #[.string s]) Tryz.underlying376 (by kernel_rfl) cells_text (by kernel_rfl) fun f hf => ?_
  simp only [List.mem_cons, List.not_mem_nil, or_false] at hf
  subst hf
  simp only [cells_str]; exact lits_str h
theorem key_mark {p : ByteArray × ByteArray} (h : fitM p) : ∃ kl, keyOf Tryz.prog 385 (keyM p) = some kl := by
  refine keyOf_fields (cs := #[.string p.1, .string p.2]) Tryz.underlying385 (by kernel_rfl) cells_mark (by kernel_rfl) fun f hf => ?_
  simp only [List.mem_cons, List.not_mem_nil, or_false] at hf
  rcases hf with rfl | rfl
  · simp only [cells_str]; exact lits_str h.1
  · simp only [cells_str]; exact lits_str h.2
theorem key_seal {x : Four} (h : fitF x) : ∃ kl, keyOf Tryz.prog 379 (keyS x) = some kl := by
  refine keyOf_fields (cs := #[.int .i64 x.salt, .string x.nonce, .string x.ad, .string x.text]) Tryz.underlying379 (by kernel_rfl) cells_seal (by kernel_rfl) fun f hf => ?_
  simp only [List.mem_cons, List.not_mem_nil, or_false] at hf
  rcases hf with rfl | rfl | rfl | rfl
  · simp only [cells_num]; exact lits_num h.1
  · simp only [cells_str]; exact lits_str h.2.1
  · simp only [cells_str]; exact lits_str h.2.2.1
  · simp only [cells_str]; exact lits_str h.2.2.2

section
variable {α : Type} [DecidableEq α]
/-- A map in block b that numbers the things of a list. -/
def Nums (key : α → Value) (K : TypeId) (w : World) (b : Nat) (l : List α) : Prop :=
  ∃ D : DataW Unit, w.ownsMap Tryz.prog K (plainElem Tryz.prog 3) b l.length D ∧ Maps.size D = l.length ∧
    ∀ x kl, keyOf Tryz.prog K (key x) = some kl → Maps.has D kl = decide (numOf l x ≠ 0) ∧ D.atKey kl (.lit (.int .i64 0)) = .lit (.int .i64 (numOf l x : Nat))
variable {key : α → Value} {K : TypeId} {w w' : World} {b : Nat} {l : List α}
theorem Nums.lt (h : Nums key K w b l) : b < w.heap.size := by
  obtain ⟨D, h, _⟩ := h
  exact h.lt
theorem owns_at {H : Type} {R : Value → Option (DataW H × List MemPlace)} {n : Nat} {D : DataW H} (h : w.ownsMap Tryz.prog K R b n D) (hb : w'.heap[b]? = w.heap[b]?) : w'.ownsMap Tryz.prog K R b n D := by
  obtain ⟨es, clock, h1, r⟩ := h
  exact ⟨es, clock, hb.trans h1, r⟩
theorem Nums.keep (h : Nums key K w b l) (hb : w'.heap[b]? = w.heap[b]?) : Nums key K w' b l := by
  obtain ⟨D, h, r⟩ := h
  exact ⟨D, owns_at h hb, r⟩
theorem Nums.made (key : α → Value) (K : TypeId) (w : World) : Nums key K (w.alloc (.map #[] 0)) w.heap.size [] :=
  ⟨.map [], World.ownsMap_made _ _ _ _, rfl, fun _ _ _ => ⟨rfl, rfl⟩⟩
theorem nums_put (L : Keyed Tryz.prog K) (inj : ∀ {a b : α}, key a = key b → a = b) {D : DataW Unit} {x : α} {kl : Lit} {n : Nat} (hD : IsMap D) (ht : Tidy D) (hs : Maps.size D = l.length) (hx : numOf l x = 0) (hk : keyOf Tryz.prog K (key x) = some kl) (hn : n = l.length + 1)
    (hall : ∀ y kl, keyOf Tryz.prog K (key y) = some kl → Maps.has D kl = decide (numOf l y ≠ 0) ∧ D.atKey kl (.lit (.int .i64 0)) = .lit (.int .i64 (numOf l y : Nat))) :
    Maps.size (D.put kl (.lit (.int .i64 (n : Nat)))) = (l ++ [x]).length ∧ ∀ y kl', keyOf Tryz.prog K (key y) = some kl' → Maps.has (D.put kl (.lit (.int .i64 (n : Nat)))) kl' = decide (numOf (l ++ [x]) y ≠ 0) ∧ (D.put kl (.lit (.int .i64 (n : Nat)))).atKey kl' (.lit (.int .i64 0)) = .lit (.int .i64 (numOf (l ++ [x]) y : Nat)) := by
  have hh : Maps.has D kl = false := by rw [(hall x kl hk).1, hx]; rfl
  refine ⟨by rw [Maps.size_put ht, hh, hs]; simp, fun y kl' hy => ?_⟩
  by_cases e : x = y
  · subst e
    rw [hk] at hy
    cases hy
    rw [Maps.has_put_same hD (L.key hk), Maps.atKey_put_same hD (L.key hk), numOf_snoc, if_pos hx, if_pos rfl, hn]
    exact ⟨by simp, rfl⟩
  · have hne : kl' ≠ kl := fun e2 => e (inj (L.inj hk (e2 ▸ hy)))
    rw [Maps.has_put_other hne, Maps.atKey_put_other hne, numOf_snoc, if_neg e]
    have := hall y kl' hy
    by_cases h0 : numOf l y = 0
    · rw [if_pos h0]; rw [h0] at this; exact this
    · rw [if_neg h0]; exact this
end
theorem Only.of_grown {b : Nat} {w w' : World} (h : w.grownBy w' (some b)) : Only b w w' :=
  ⟨⟨h.os, h.tape, h.output, h.size, fun k hk => absurd hk (Nat.not_lt_zero k)⟩, fun k hk hne => h.block k hk fun e => hne (Option.some.inj e)⟩
end Go.Proofs.YtoopaigpjefonaaGreatDoor
