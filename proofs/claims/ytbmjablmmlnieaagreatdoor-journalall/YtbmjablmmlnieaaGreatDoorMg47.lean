/- Slices that came in: of truth values, of bytes, of a script's steps. · A cut that came in; a list of cuts, each with a slice of truth values of its own. · The law JournalAll: what its walk knows of the lists. -/
import Derived.Test.YtbmjablmmlnieaaGreatDoorMg15
import Derived.Deep.Slices
import Derived.WideShapes
import Derived.ProofKit
import Derived.ChangeOld
import Derived.Test.YtbmjablmmlnieaaGreatDoorMg46
import Derived.Test.YtbmjablmmlnieaaGreatDoorMg34
import Derived.Laws.OwnMore
namespace Go.Proofs.YtbmjablmmlnieaaGreatDoor
set_option maxRecDepth 20000
open Go.ChangeShapes Go.WideShapes Go.RowKit Go.Deep

section
variable {H : Type} {enc : TypeId × Value → H} {W : World}
theorem bools_of_cells {fuel : Nat} {cs : List Value} {x : DataW H × List MemPlace} (h : DataW.trod enc Tryz.prog W 0 (fun _ => true) true fuel 38 cs = some x) : ∃ v l, cs = [v] ∧ Bools W (fun k => W.heap.size ≤ k) v l := by
  have hlt := DataW.trod_lt fuel _ _ _ h
  rcases open_slice1 Tryz.underlying38 (show Tryz.prog.cellsOf 4 = 1 by kernel_rfl) h with ⟨rfl, rfl⟩ | ⟨a, len, cap, m, n, V, D, Pl, rfl, _, hl, hm, hmm, rfl, hx⟩
  · exact ⟨_, [], rfl, .inl ⟨none, 0, rfl, rfl⟩⟩
  · simp only [if_true] at hmm
    by_cases h0 : len = 0
    · subst h0; exact ⟨_, [], rfl, .inl ⟨_, _, rfl, rfl⟩⟩
    have hV : ∀ i, i < len → ∃ b, W.cell? (a.add i) = some (.bool b) := fun i hi => by
      obtain ⟨h1, h2⟩ := hx i (by omega)
      obtain ⟨b, hb, _⟩ := DataW.trod_bool Tryz.underlying4 h2
      simp only [List.cons.injEq, and_true] at hb
      exact ⟨b, by rw [h1, hb]⟩
    obtain ⟨f, hf⟩ := choose_lt hV
    obtain ⟨b, off, spot⟩ := a
    have hspot : spot = none := by simpa [Addr.add] using World.cell?_spot (hf 0 (by omega))
    subst hspot
    have hbW : b < W.heap.size := hlt (.cell b off) (List.mem_append_left _ (MemPlace.mem_row.2 ⟨0, by omega, by simp⟩))
    refine ⟨_, (List.range len).map f, rfl, .inr ⟨b, off, cap, by simp, hbW, Nat.not_le.2 hbW, fun i u hu => ?_⟩⟩
    rw [List.getElem?_map] at hu
    have hi : i < len := by
      by_cases hi : i < len
      · exact hi
      · rw [List.getElem?_eq_none (by simp; omega)] at hu; cases hu
    rw [List.getElem?_range hi] at hu
    simp only [Option.map_some, Option.some.injEq] at hu
    rw [← hu, ← add_plain]
    exact hf i hi
theorem bools_of_trod {v : Value} {d : DataW H} {p : List MemPlace} {base : Nat} (hok : Value.okWide Tryz.prog W .any base 38 v) (h : DataW.Trod enc Tryz.prog W 0 (fun _ => true) true 38 v d p) : ∃ l, Bools W (fun k => W.heap.size ≤ k) v l := by
  obtain ⟨a0, len, cap, rfl⟩ := okWide_slice Tryz.underlying38 hok
  obtain ⟨fuel, hf⟩ := h
  obtain ⟨v', l, e, hb⟩ := bools_of_cells hf
  have e2 : .slice a0 len cap = v' := by simpa [Value.cells] using e
  subst e2
  exact ⟨l, hb⟩

/-- A list of bytes that came in. -/
def Nums8 (w : World) (v : Value) (l : List Nat) : Prop := (∃ oa cap, v = .slice oa 0 cap ∧ l = []) ∨ ∃ g o cap, v = .slice (some ⟨g, o, none⟩) l.length cap ∧ g < w.heap.size ∧ ∀ i x, l[i]? = some x → w.cell? ⟨g, o + i, none⟩ = some (.int .u8 (x : Nat))
theorem nums_of_trod {v : Value} {d : DataW H} {p : List MemPlace} {base : Nat} (hok : Value.okWide Tryz.prog W .any base 92 v) (h : DataW.Trod enc Tryz.prog W 0 (fun _ => true) true 92 v d p) : ∃ l, Nums8 W v l := by
  obtain ⟨a0, len, cap, rfl⟩ := okWide_slice Tryz.underlying92 hok
  obtain ⟨fuel, hf⟩ := h
  have hlt := DataW.trod_lt fuel _ _ _ hf
  rcases open_slice1 Tryz.underlying92 (show Tryz.prog.cellsOf 5 = 1 by kernel_rfl) hf with ⟨hcs, hx⟩ | ⟨a, len', cap', m, n, V, D, Pl, hcs, _, hl, hm, hmm, hx0, hx⟩
  · simp [Value.cells] at hcs
    obtain ⟨rfl, rfl, rfl⟩ := hcs
    exact ⟨[], .inl ⟨none, 0, rfl, rfl⟩⟩
  · simp [Value.cells] at hcs
    obtain ⟨rfl, rfl, rfl⟩ := hcs
    simp only [if_true] at hmm
    by_cases h0 : len = 0
    · subst h0; exact ⟨[], .inl ⟨_, _, rfl, rfl⟩⟩
    have hV : ∀ i, i < len → ∃ b : Nat, W.cell? (a.add i) = some (.int .u8 (b : Nat)) := fun i hi => by
      obtain ⟨h1, h2⟩ := hx i (by omega)
      obtain ⟨b, hb, _, hw⟩ := DataW.trod_int Tryz.underlying5 h2
      simp only [List.cons.injEq, and_true] at hb
      have hb0 : 0 ≤ b := by simp [Lit.wf, IntKind.min, IntKind.max, IntKind.signed, IntKind.bits] at hw; omega
      exact ⟨b.toNat, by rw [h1, hb, Int.toNat_of_nonneg hb0]⟩
    obtain ⟨f, hf⟩ := choose_lt hV
    obtain ⟨b, off, spot⟩ := a
    have hspot : spot = none := by simpa [Addr.add] using World.cell?_spot (hf 0 (by omega))
    subst hspot
    have hbW : b < W.heap.size := hlt (.cell b off) (by rw [hx0]; exact List.mem_append_left _ (MemPlace.mem_row.2 ⟨0, by omega, by simp⟩))
    refine ⟨(List.range len).map f, .inr ⟨b, off, cap, by simp, hbW, fun i u hu => ?_⟩⟩
    rw [List.getElem?_map] at hu
    have hi : i < len := by
      by_cases hi : i < len
      · exact hi
      · rw [List.getElem?_eq_none (by simp; omega)] at hu; cases hu
    rw [List.getElem?_range hi] at hu
    simp only [Option.map_some, Option.some.injEq] at hu
    rw [← hu, ← add_plain]
    exact hf i hi
end
end Go.Proofs.YtbmjablmmlnieaaGreatDoor

namespace Go.Proofs.YtbmjablmmlnieaaGreatDoor
set_option maxRecDepth 20000
open Go.ChangeShapes Go.WideShapes Go.RowKit Go.Deep

structure CutT where
  fuse : Int
  kv : Value
  keep : List Bool
instance : Inhabited CutT := ⟨⟨0, .slice none 0 0, []⟩⟩
structure CutAt (W : World) (g o : Nat) (x : CutT) : Prop where
  c0 : W.cell? ⟨g, o, none⟩ = some (.int .i64 x.fuse)
  c1 : W.cell? ⟨g, o + 1, none⟩ = some x.kv
  bools : Bools W (fun k => W.heap.size ≤ k) x.kv x.keep
  wf : x.fuse < 9223372036854775808
def Cuts (W : World) (v : Value) (l : List CutT) : Prop := (∃ oa cap, v = .slice oa 0 cap ∧ l = []) ∨ ∃ g o cap, v = .slice (some ⟨g, o, none⟩) l.length cap ∧ g < W.heap.size ∧ ∀ i x, l[i]? = some x → CutAt W g (o + i * 2) x
theorem Cuts.form {W : World} {v : Value} {l : List CutT} (h : Cuts W v l) : ∃ oa cap, v = .slice oa l.length cap := by
  rcases h with ⟨oa, cap, rfl, rfl⟩ | ⟨g, o, cap, rfl, _⟩
  · exact ⟨oa, cap, rfl⟩
  · exact ⟨_, cap, rfl⟩
theorem Cuts.get {W : World} {oa : Option Addr} {cap : Nat} {l : List CutT} (h : Cuts W (.slice oa l.length cap) l) {i : Nat} (hi : i < l.length) : ∃ g o, oa = some ⟨g, o, none⟩ ∧ g < W.heap.size ∧ ∀ j x, l[j]? = some x → CutAt W g (o + j * 2) x := by
  rcases h with ⟨oa', cap', e, rfl⟩ | ⟨g, o, cap', e, hg, hx⟩
  · simp at hi
  · simp only [Value.slice.injEq] at e
    exact ⟨g, o, e.1, hg, hx⟩
theorem CutAt.cells {W W' : World} {g o : Nat} {x : CutT} (h : CutAt W g o x) (k : W'.heap[g]? = W.heap[g]?) : W'.cell? ⟨g, o, none⟩ = some (.int .i64 x.fuse) ∧ W'.cell? ⟨g, o + 1, none⟩ = some x.kv := ⟨(World.cell?_of_block (a := ⟨g, o, none⟩) k).trans h.c0, (World.cell?_of_block (a := ⟨g, o + 1, none⟩) k).trans h.c1⟩
section
variable {H : Type} {enc : TypeId × Value → H} {W : World}
theorem cut_add_plain (b o j : Nat) : (⟨b, o, none⟩ : Addr).add j = ⟨b, o + j, none⟩ := by unfold Addr.add; split <;> simp_all
set_option maxRecDepth 100000 in
theorem cut_of_cells {fuel : Nat} {cs : List Value} {x : DataW H × List MemPlace} (h : DataW.trod enc Tryz.prog W 0 (fun _ => true) true fuel 40 cs = some x) : ∃ (k : Int) (kv : Value) (l : List Bool), cs = [.int .i64 k, kv] ∧ Bools W (fun k => W.heap.size ≤ k) kv l ∧ k < 9223372036854775808 := by
  obtain ⟨xs, n, _, rfl, hl, hlen, hf⟩ := DataW.trod_struct Tryz.underlying40 h
  have h6 : Tryz.prog.cellsOf 40 = 2 := by kernel_rfl
  rw [h6] at hl
  match xs, hlen with
  | [y0, y1], _ =>
  match cs, hl with
  | [d0, d1], _ =>
  have g : ∀ (i t o : Nat) (f : Field) (d : Value) (y : DataW H × List MemPlace), (match Tryz.prog.underlying 40 with | some (.struct fs) => fs[i]? | _ => none) = some f → f.type = t → f.offset = o → Tryz.prog.cellsOf t = 1 → (([d0, d1] : List Value).drop o).take 1 = [d] → ([y0, y1] : List (DataW H × List MemPlace))[i]? = some y → DataW.trod enc Tryz.prog W 0 (fun _ => true) true n t [d] = some y := fun i t o f d y h0 h1 h2 h3 h4 h5 => by
    rw [Tryz.underlying40] at h0
    have := hf i f h0
    rw [h1, h2, h3, h4, h5] at this
    exact this
  have f0 := g 0 3 0 _ d0 y0 (by rw [Tryz.underlying40]; rfl) rfl rfl (by kernel_rfl) rfl rfl
  have f1 := g 1 38 1 _ d1 y1 (by rw [Tryz.underlying40]; rfl) rfl rfl (by kernel_rfl) rfl rfl
  obtain ⟨a0, h0', _, w0⟩ := DataW.trod_int Tryz.underlying3 f0
  obtain ⟨kv, l, h1', hb⟩ := bools_of_cells f1
  simp only [List.cons.injEq, and_true] at h0' h1'
  subst h0' h1'
  refine ⟨a0, d1, l, rfl, hb, ?_⟩
  simp [Lit.wf, IntKind.min, IntKind.max, IntKind.signed, IntKind.bits] at w0
  omega
theorem cut_of_trod {v : Value} {d : DataW H} {p : List MemPlace} {base : Nat} (hok : Value.okWide Tryz.prog W .any base 40 v) (h : DataW.Trod enc Tryz.prog W 0 (fun _ => true) true 40 v d p) : ∃ (k : Int) (kv : Value) (l : List Bool), v = .agg #[.int .i64 k, kv] ∧ Bools W (fun k => W.heap.size ≤ k) kv l ∧ k < 9223372036854775808 := by
  obtain ⟨cs, rfl, hsz⟩ := okWide_struct Tryz.underlying40 hok
  obtain ⟨fuel, hf⟩ := h
  obtain ⟨k, kv, l, e, hb, hk⟩ := cut_of_cells hf
  have e2 : cs.toList = [.int .i64 k, kv] := e
  refine ⟨k, kv, l, ?_, hb, hk⟩
  obtain ⟨L⟩ := cs
  have e3 : L = [.int .i64 k, kv] := e2
  rw [e3]
theorem cuts_of_trod {v : Value} {d : DataW H} {p : List MemPlace} {base : Nat} (hok : Value.okWide Tryz.prog W .any base 41 v) (h : DataW.Trod enc Tryz.prog W 0 (fun _ => true) true 41 v d p) : ∃ l, Cuts W v l := by
  obtain ⟨a0, len, cap, rfl⟩ := okWide_slice Tryz.underlying41 hok
  obtain ⟨fuel, hf⟩ := h
  have hlt := DataW.trod_lt fuel _ _ _ hf
  have h5 : Tryz.prog.cellsOf 40 = 2 := by kernel_rfl
  rcases open_slice Tryz.underlying41 hf with ⟨hcs, hx⟩ | ⟨a, len', cap', m, n, D, Pl, hcs, _, hl, hm, hmm, hx0, hx⟩
  · simp [Value.cells] at hcs
    obtain ⟨rfl, rfl, rfl⟩ := hcs
    exact ⟨[], .inl ⟨none, 0, rfl, rfl⟩⟩
  · simp [Value.cells] at hcs
    obtain ⟨rfl, rfl, rfl⟩ := hcs
    simp only [if_true] at hmm
    by_cases h0 : len = 0
    · subst h0; exact ⟨[], .inl ⟨_, _, rfl, rfl⟩⟩
    rw [h5] at hx hx0
    simp only [Prod.mk.injEq] at hx0
    obtain ⟨hd0, hp0⟩ := hx0
    obtain ⟨b, off, spot⟩ := a
    have hsp : spot = none := by
      obtain ⟨cs', h1, h2⟩ := hx 0 (by omega)
      obtain ⟨_, hlen, hc⟩ := World.cells?_some h1
      have := hc 0 (by omega)
      rw [List.getElem?_eq_getElem (by omega)] at this
      simpa [Addr.add] using World.cell?_spot this
    subst hsp
    have hV : ∀ i, i < len → ∃ x : CutT, CutAt W b (off + i * 2) x := fun i hi => by
      obtain ⟨cs', h1, h2⟩ := hx i (by omega)
      obtain ⟨_, hlen, hc⟩ := World.cells?_some h1
      obtain ⟨k, kv, l, rfl, hb, hk⟩ := cut_of_cells h2
      have g : ∀ c, c < 2 → W.cell? ⟨b, off + i * 2 + c, none⟩ = ([Value.int .i64 k, kv] : List Value)[c]? := fun c hc5 => by
        rw [← hc c hc5, cut_add_plain, cut_add_plain]
      exact ⟨⟨k, kv, l⟩, g 0 (by omega), g 1 (by omega), hb, hk⟩
    obtain ⟨f, hf⟩ := choose_lt hV
    have hbW : b < W.heap.size := hlt (.cell b off) (by rw [hp0]; exact List.mem_append_left _ (MemPlace.mem_row.2 ⟨0, by omega, by simp⟩))
    refine ⟨(List.range len).map f, .inr ⟨b, off, cap, by simp, hbW, fun i u hu => ?_⟩⟩
    rw [List.getElem?_map] at hu
    have hi : i < len := by
      by_cases hi : i < len
      · exact hi
      · rw [List.getElem?_eq_none (by simp; omega)] at hu; cases hu
    rw [List.getElem?_range hi] at hu
    simp only [Option.map_some, Option.some.injEq] at hu
    rw [← hu]
    exact hf i hi
end
end Go.Proofs.YtbmjablmmlnieaaGreatDoor

namespace Go.Proofs.YtbmjablmmlnieaaGreatDoor
set_option maxRecDepth 20000
open Go.RowKit

theorem blks_below {W W' : World} {v : Value} {l : List Blk} (h : Blks W v l) (hb : Below W.heap.size W W') : Blks W' v l := by
  rcases h with h | ⟨g, o, cap, e, hg, hx⟩
  · exact .inl h
  · exact .inr ⟨g, o, cap, e, Nat.lt_of_lt_of_le hg hb.size, fun i r hr => (hx i r hr).keep (hb.block g hg)⟩
theorem flat_set : ∀ (l : List Wt) (j : Nat) (x : Wt) (r : ByteArray), l[j]? = some x → (l.flatMap Wt.cells).set (j * 2 + 1) (.string r) = (l.set j ⟨x.at_, r⟩).flatMap Wt.cells
  | [], j, x, r, h => by simp at h
  | y :: l, 0, x, r, h => by
    obtain rfl : y = x := by simpa using h
    rfl
  | y :: l, j + 1, x, r, h => by
    have ih := flat_set l j x r (by simpa using h)
    rw [List.set_cons_succ, List.flatMap_cons, List.flatMap_cons, ← ih]
    show (Value.int .i64 y.at_ :: .string y.raw :: l.flatMap Wt.cells).set _ _ = Value.int .i64 y.at_ :: .string y.raw :: _
    rw [show (j + 1) * 2 + 1 = j * 2 + 1 + 1 + 1 by omega, List.set_cons_succ, List.set_cons_succ]
    rfl
theorem WZ.len {w : World} {base len cap : Nat} {oz : Option Addr} {l : List Wt} (h : WZ w base (.slice oz len cap) l) : len = l.length := by
  obtain ⟨oa, ca, e⟩ := h.form
  simp only [Value.slice.injEq] at e
  exact e.2.1
theorem WZ.set {w : World} {base : Nat} {g len cap : Nat} {l : List Wt} (h : WZ w base (.slice (some ⟨g, 0, none⟩) len cap) l) {j : Nat} {x : Wt} (hx : l[j]? = some x) (r : ByteArray) : WZ (w.setCell ⟨g, j * 2 + 1, none⟩ (.string r)) base (.slice (some ⟨g, 0, none⟩) len cap) (l.set j ⟨x.at_, r⟩) := by
  obtain rfl := h.len
  have q := (World.ownsRow.stored h (j * 2 + 1) (.string r)).1
  rw [flat_set l j x r hx] at q
  unfold WZ
  rw [List.length_set]
  exact q
theorem WZ.get {w : World} {base : Nat} {oz : Option Addr} {len cap : Nat} {l : List Wt} (h : WZ w base (.slice oz len cap) l) {j : Nat} (hj : j < l.length) : ∃ g, oz = some ⟨g, 0, none⟩ ∧ base ≤ g ∧ g < w.heap.size ∧ ∀ x, l[j]? = some x → w.cell? ⟨g, j * 2, none⟩ = some (.int .i64 x.at_) ∧ w.cell? ⟨g, j * 2 + 1, none⟩ = some (.string x.raw) ∧ w.frozen? ⟨g, j * 2 + 1, none⟩ = false := by
  obtain rfl := h.len
  obtain ⟨h1, h2⟩ := h.wts
  obtain ⟨g, o, e, hg, hx⟩ := h1.get hj
  have h3 : o = 0 := by
    rcases h.2 with ⟨e', _⟩ | ⟨g', cap', cur, e', _⟩
    · rw [e] at e'; cases e'
    · rw [e] at e'
      simp only [Value.slice.injEq, Option.some.injEq, Addr.mk.injEq] at e'
      exact e'.1.2.1
  subst h3 e
  have h4 := h2 g 0 l.length cap rfl
  refine ⟨g, rfl, h4.1, hg, fun x hx2 => ?_⟩
  have h5 := hx j x hx2
  rw [Nat.zero_add] at h5
  exact ⟨h5.c0, h5.c1, World.ownsRow.frozenAt h (j * 2 + 1)⟩
theorem WZ.frozen {w : World} {base g len cap : Nat} {l : List Wt} (h : WZ w base (.slice (some ⟨g, 0, none⟩) len cap) l) (k : Nat) : w.frozen? ⟨g, k, none⟩ = false := by
  obtain rfl := h.len
  exact World.ownsRow.frozenAt h k
def mixL (N : List Wt) (j : Nat) : List Wt := (N.take j).map oldW ++ N.drop j
theorem mixL_length (N : List Wt) (j : Nat) : (mixL N j).length = N.length := by
  unfold mixL
  rw [List.length_append, List.length_map, List.length_take, List.length_drop]
  omega
theorem mixL_zero (N : List Wt) : mixL N 0 = N := by simp [mixL]
theorem mixL_all (N : List Wt) : mixL N N.length = N.map oldW := by simp [mixL]
theorem mixL_at {N : List Wt} {j : Nat} {x : Wt} (h : N[j]? = some x) : (mixL N j)[j]? = some x := by
  have hj := (List.getElem?_eq_some_iff.1 h).1
  unfold mixL
  rw [List.getElem?_append_right (by rw [List.length_map, List.length_take]; omega), List.length_map, List.length_take, Nat.min_eq_left (by omega), Nat.sub_self, List.getElem?_drop, Nat.add_zero]
  exact h
theorem mixL_next {N : List Wt} {j : Nat} {x : Wt} (h : N[j]? = some x) : (mixL N j).set j (oldW x) = mixL N (j + 1) := by
  obtain ⟨hj, rfl⟩ := List.getElem?_eq_some_iff.1 h
  unfold mixL
  have e : N.drop j = N[j] :: N.drop (j + 1) := List.drop_eq_getElem_cons hj
  have hl : ((N.take j).map oldW).length = j := by rw [List.length_map, List.length_take]; omega
  rw [e, List.set_append_right _ _ (by omega), hl, Nat.sub_self, List.set_cons_zero, List.take_add_one, List.getElem?_eq_getElem hj, List.map_append]
  simp
/-- The rows of a list, kept. -/
def KeepL (v : Value) (w5 : World) (g : Nat) (c : Obj) : Prop := (∃ o len cap, v = .slice (some ⟨g, o, none⟩) len cap) ∧ w5.heap[g]? = some c
theorem wts_keepL {w5 W : World} {v : Value} {l : List Wt} (h : Wts w5 v l) (hk : ∀ g c, KeepL v w5 g c → W.heap[g]? = some c) : Wts W v l := by
  rcases h with h | ⟨g, o, cap, e, hg, hx⟩
  · exact .inl h
  · have hc : w5.heap[g]? = some w5.heap[g] := Array.getElem?_eq_getElem hg
    have q := hk g _ ⟨⟨_, _, _, e⟩, hc⟩
    exact .inr ⟨g, o, cap, e, lt_of_block q, fun i x hi => (hx i x hi).keep (q.trans hc.symm)⟩
theorem LawD.hold {K : Nat → Obj → Prop} {V B : Nat} {w0 w3 w : World} {F : Nat → Prop} {P : PS} {T : VS} (h : LawD K V B w0 w3 F P T) (hb : Below w3.heap.size w3 w) (v : Value) (hv : ∀ g o len cap, v = .slice (some ⟨g, o, none⟩) len cap → w3.heap.size ≤ g) : LawD (KeepL v w) V B w0 w F P T := by
  have h2 := h.below hb
  refine ⟨h2.duo, h2.above, h2.err, h2.out, h2.bel, fun g c ⟨⟨o, len, cap, e⟩, hc⟩ => ⟨hc, fun hk => ?_⟩⟩
  have q1 := hv g o len cap e
  have q2 := h.duo.lt g hk
  omega
theorem LawD.wto {V B : Nat} {w0 w5 w : World} {F : Nat → Prop} {P : PS} {T : VS} {v : Value} {l : List Wt} (h : LawD (KeepL v w5) V B w0 w F P T) (hw : Wts w5 v l) : WtO F w v l := by
  refine ⟨wts_keepL hw fun g c hk => (h.keep g c hk).1, fun hne g o len cap e hk => ?_⟩
  rcases hw with ⟨oa, cap', e', e2⟩ | ⟨g', o', cap', e', hg, _⟩
  · exact hne e2
  · rw [e] at e'
    simp only [Value.slice.injEq, Option.some.injEq, Addr.mk.injEq] at e'
    obtain ⟨⟨rfl, _⟩, _⟩ := e'
    have hc : w5.heap[g]? = some w5.heap[g] := Array.getElem?_eq_getElem hg
    exact (h.keep g _ ⟨⟨_, _, _, e⟩, hc⟩).2 hk
end Go.Proofs.YtbmjablmmlnieaaGreatDoor
