/- A list of heads that came in. -/
import Derived.Test.YtkopbpbmfdogfaaDoorBkArgs
namespace Go.Proofs.YtkopbpbmfdogfaaDoor
set_option maxRecDepth 20000
open Go.ChangeShapes Go.WideShapes Go.RowKit Go.Deep

def hdI (h : Hd) : Prop := IsInt h.v0 ∧ IsInt h.v1 ∧ IsInt h.v2 ∧ IsInt h.v3 ∧ IsInt h.v4 ∧ IsInt h.v5 ∧ IsInt h.v6 ∧ IsInt h.v7
def Hd.cells (h : Hd) : List Value := [.int .i64 h.v0, .int .i64 h.v1, .int .i64 h.v2, .int .i64 h.v3, .int .i64 h.v4, .int .i64 h.v5, .int .i64 h.v6, .int .i64 h.v7]
def HdAt (W : World) (g o : Nat) (h : Hd) : Prop := ∀ c, c < 8 → W.cell? ⟨g, o + c, none⟩ = h.cells[c]?
def HdsV (W : World) (v : Value) (l : List Hd) : Prop := (∀ x ∈ l, hdI x) ∧ ((∃ oa cap, v = .slice oa 0 cap ∧ l = []) ∨ ∃ g o cap, v = .slice (some ⟨g, o, none⟩) l.length cap ∧ g < W.heap.size ∧ ∀ i x, l[i]? = some x → HdAt W g (o + i * 8) x)
theorem HdsV.form {W : World} {v : Value} {l : List Hd} (h : HdsV W v l) : ∃ oa cap, v = .slice oa l.length cap := by
  rcases h.2 with ⟨oa, cap, rfl, rfl⟩ | ⟨g, o, cap, rfl, _⟩
  · exact ⟨oa, cap, rfl⟩
  · exact ⟨_, cap, rfl⟩
theorem HdsV.get {W : World} {oa : Option Addr} {cap : Nat} {l : List Hd} (h : HdsV W (.slice oa l.length cap) l) {i : Nat} (hi : i < l.length) : ∃ g o, oa = some ⟨g, o, none⟩ ∧ g < W.heap.size ∧ ∀ j x, l[j]? = some x → HdAt W g (o + j * 8) x := by
  rcases h.2 with ⟨oa', cap', e, rfl⟩ | ⟨g, o, cap', e, hg, hx⟩
  · simp at hi
  · simp only [Value.slice.injEq] at e
    exact ⟨g, o, e.1, hg, hx⟩
instance : Inhabited Hd := ⟨Hd.zero⟩
section
variable {H : Type} {enc : TypeId × Value → H} {W : World}
set_option maxRecDepth 100000 in
theorem hd_of_cells {fuel : Nat} {cs : List Value} {x : DataW H × List MemPlace} (h : DataW.trod enc Tryd.prog W 0 (fun _ => true) true fuel 33 cs = some x) : ∃ o : Hd, hdI o ∧ cs = o.cells := by
  obtain ⟨xs, n, _, rfl, hl, hlen, hf⟩ := DataW.trod_struct Tryd.underlying33 h
  rw [cells_head] at hl
  match xs, hlen with
  | [y0, y1, y2, y3, y4, y5, y6, y7], _ =>
  match cs, hl with
  | [d0, d1, d2, d3, d4, d5, d6, d7], _ =>
  have g : ∀ (i o : Nat) (f : Field) (d : Value) (y : DataW H × List MemPlace), (match Tryd.prog.underlying 33 with | some (.struct fs) => fs[i]? | _ => none) = some f → f.type = 3 → f.offset = o → (([d0, d1, d2, d3, d4, d5, d6, d7] : List Value).drop o).take 1 = [d] → ([y0, y1, y2, y3, y4, y5, y6, y7] : List (DataW H × List MemPlace))[i]? = some y → DataW.trod enc Tryd.prog W 0 (fun _ => true) true n 3 [d] = some y := fun i o f d y h0 h1 h2 h4 h5 => by
    rw [Tryd.underlying33] at h0
    have := hf i f h0
    rw [h1, h2, cells_num, h4, h5] at this
    exact this
  have f0 := g 0 0 _ d0 y0 (by rw [Tryd.underlying33]; rfl) rfl rfl rfl rfl
  obtain ⟨k0, e0, _, w0⟩ := DataW.trod_int Tryd.underlying3 f0
  have f1 := g 1 1 _ d1 y1 (by rw [Tryd.underlying33]; rfl) rfl rfl rfl rfl
  obtain ⟨k1, e1, _, w1⟩ := DataW.trod_int Tryd.underlying3 f1
  have f2 := g 2 2 _ d2 y2 (by rw [Tryd.underlying33]; rfl) rfl rfl rfl rfl
  obtain ⟨k2, e2, _, w2⟩ := DataW.trod_int Tryd.underlying3 f2
  have f3 := g 3 3 _ d3 y3 (by rw [Tryd.underlying33]; rfl) rfl rfl rfl rfl
  obtain ⟨k3, e3, _, w3⟩ := DataW.trod_int Tryd.underlying3 f3
  have f4 := g 4 4 _ d4 y4 (by rw [Tryd.underlying33]; rfl) rfl rfl rfl rfl
  obtain ⟨k4, e4, _, w4⟩ := DataW.trod_int Tryd.underlying3 f4
  have f5 := g 5 5 _ d5 y5 (by rw [Tryd.underlying33]; rfl) rfl rfl rfl rfl
  obtain ⟨k5, e5, _, w5⟩ := DataW.trod_int Tryd.underlying3 f5
  have f6 := g 6 6 _ d6 y6 (by rw [Tryd.underlying33]; rfl) rfl rfl rfl rfl
  obtain ⟨k6, e6, _, w6⟩ := DataW.trod_int Tryd.underlying3 f6
  have f7 := g 7 7 _ d7 y7 (by rw [Tryd.underlying33]; rfl) rfl rfl rfl rfl
  obtain ⟨k7, e7, _, w7⟩ := DataW.trod_int Tryd.underlying3 f7
  simp only [List.cons.injEq, and_true] at e0 e1 e2 e3 e4 e5 e6 e7
  subst e0 e1 e2 e3 e4 e5 e6 e7
  exact ⟨⟨k0, k1, k2, k3, k4, k5, k6, k7⟩, ⟨w0, w1, w2, w3, w4, w5, w6, w7⟩, rfl⟩
set_option maxRecDepth 100000 in
theorem heads_of_trod {v : Value} {d : DataW H} {p : List MemPlace} {base : Nat} (hok : Value.okWide Tryd.prog W .any base 22 v) (h : DataW.Trod enc Tryd.prog W 0 (fun _ => true) true 22 v d p) : ∃ l, HdsV W v l := by
  obtain ⟨a0, len, cap, rfl⟩ := okWide_slice Tryd.underlying22 hok
  obtain ⟨fuel, hf⟩ := h
  have hlt := DataW.trod_lt fuel _ _ _ hf
  rcases open_slice Tryd.underlying22 hf with ⟨hcs, hx⟩ | ⟨a, len', cap', m, n, D, Pl, hcs, _, hl, hm, hmm, hx0, hx⟩
  · simp [Value.cells] at hcs
    obtain ⟨rfl, rfl, rfl⟩ := hcs
    exact ⟨[], by simp, .inl ⟨none, 0, rfl, rfl⟩⟩
  · simp [Value.cells] at hcs
    obtain ⟨rfl, rfl, rfl⟩ := hcs
    simp only [if_true] at hmm
    by_cases h0 : len = 0
    · subst h0; exact ⟨[], by simp, .inl ⟨_, _, rfl, rfl⟩⟩
    rw [cells_head] at hx hx0
    simp only [Prod.mk.injEq] at hx0
    obtain ⟨hd0, hp0⟩ := hx0
    obtain ⟨b, off, spot⟩ := a
    have hsp : spot = none := by
      obtain ⟨cs', h1, h2⟩ := hx 0 (by omega)
      obtain ⟨_, hlen, hc⟩ := World.cells?_some h1
      have := hc 0 (by omega)
      rw [List.getElem?_eq_getElem (by omega)] at this
      simpa [Addr.add] using World.cell?_spot this
    subst hsp
    have hadd : ∀ k, (⟨b, off, none⟩ : Addr).add k = ⟨b, off + k, none⟩ := fun k => by unfold Addr.add; split <;> simp_all
    have hadd2 : ∀ q k, (⟨b, q, none⟩ : Addr).add k = ⟨b, q + k, none⟩ := fun q k => by unfold Addr.add; split <;> simp_all
    have hV : ∀ i, i < len → ∃ x : Hd, hdI x ∧ HdAt W b (off + i * 8) x := fun i hi => by
      obtain ⟨cs', h1, h2⟩ := hx i (by omega)
      obtain ⟨_, hlen, hc⟩ := World.cells?_some h1
      obtain ⟨x, hox, rfl⟩ := hd_of_cells h2
      refine ⟨x, hox, fun c hc8 => ?_⟩
      rw [← hc c hc8, hadd, hadd2]
    obtain ⟨f, hf⟩ := choose_lt hV
    have hbW : b < W.heap.size := hlt (.cell b off) (by rw [hp0]; exact List.mem_append_left _ (MemPlace.mem_row.2 ⟨0, by omega, by simp⟩))
    refine ⟨(List.range len).map f, fun x hx => ?_, .inr ⟨b, off, cap, by simp, hbW, fun i u hu => ?_⟩⟩
    · obtain ⟨i, hi, rfl⟩ := List.mem_map.1 hx
      exact (hf i (List.mem_range.1 hi)).1
    rw [List.getElem?_map] at hu
    have hi : i < len := by
      by_cases hi : i < len
      · exact hi
      · rw [List.getElem?_eq_none (by simp; omega)] at hu; cases hu
    rw [List.getElem?_range hi] at hu
    simp only [Option.map_some, Option.some.injEq] at hu
    rw [← hu]
    exact (hf i hi).2
end
theorem HdAt.cells8 {w : World} {g o : Nat} {h : Hd} (a : HdAt w g o h) : w.cell? ⟨g, o, none⟩ = some (.int .i64 h.v0) ∧ w.cell? ⟨g, o + 1, none⟩ = some (.int .i64 h.v1) ∧ w.cell? ⟨g, o + 2, none⟩ = some (.int .i64 h.v2) ∧ w.cell? ⟨g, o + 3, none⟩ = some (.int .i64 h.v3) ∧ w.cell? ⟨g, o + 4, none⟩ = some (.int .i64 h.v4) ∧ w.cell? ⟨g, o + 5, none⟩ = some (.int .i64 h.v5) ∧ w.cell? ⟨g, o + 6, none⟩ = some (.int .i64 h.v6) ∧ w.cell? ⟨g, o + 7, none⟩ = some (.int .i64 h.v7) :=
  ⟨a 0 (by omega), a 1 (by omega), a 2 (by omega), a 3 (by omega), a 4 (by omega), a 5 (by omega), a 6 (by omega), a 7 (by omega)⟩
theorem HdAt.later {w w' : World} {g o B : Nat} {h : Hd} (a : HdAt w g o h) (hb : Below B w w') (hg : g < B) : HdAt w' g o h := fun c hc => (hb.cell (p := ⟨g, o + c, none⟩) hg).trans (a c hc)
end Go.Proofs.YtkopbpbmfdogfaaDoor
