/- Scripts of steps that came in. -/
import Derived.Test.YtmpbpioigfnneaaGrArgs
namespace Go.Proofs.Ytmpbpioigfnneaa
set_option maxRecDepth 20000
open Go.ChangeShapes Go.WideShapes Go.RowKit Go.Deep

structure GOp where
  kind : Int
  at_ : Int
  n : Int
  used : Bool
instance : Inhabited GOp := ⟨⟨0, 0, 0, false⟩⟩
structure GOp.Ok (x : GOp) : Prop where
  kind : (Lit.int .i64 x.kind).wf = true
  at_ : (Lit.int .i64 x.at_).wf = true
  n : (Lit.int .i64 x.n).wf = true
  used : x.used = x.used
def GOp.cells (x : GOp) : List Value := [.int .i64 x.kind, .int .i64 x.at_, .int .i64 x.n, .bool x.used]
structure GOpAt (W : World) (g o : Nat) (x : GOp) : Prop where
  c0 : W.cell? ⟨g, o, none⟩ = some (.int .i64 x.kind)
  c1 : W.cell? ⟨g, o + 1, none⟩ = some (.int .i64 x.at_)
  c2 : W.cell? ⟨g, o + 2, none⟩ = some (.int .i64 x.n)
  c3 : W.cell? ⟨g, o + 3, none⟩ = some (.bool x.used)
def GOps (W : World) (v : Value) (l : List GOp) : Prop := (∃ oa cap, v = .slice oa 0 cap ∧ l = []) ∨ ∃ g o cap, v = .slice (some ⟨g, o, none⟩) l.length cap ∧ g < W.heap.size ∧ ∀ i x, l[i]? = some x → GOpAt W g (o + i * 4) x
theorem GOps.form {W : World} {v : Value} {l : List GOp} (h : GOps W v l) : ∃ oa cap, v = .slice oa l.length cap := by
  rcases h with ⟨oa, cap, rfl, rfl⟩ | ⟨g, o, cap, rfl, _⟩
  · exact ⟨oa, cap, rfl⟩
  · exact ⟨_, cap, rfl⟩
theorem GOps.get {W : World} {oa : Option Addr} {cap : Nat} {l : List GOp} (h : GOps W (.slice oa l.length cap) l) {i : Nat} (hi : i < l.length) : ∃ g o, oa = some ⟨g, o, none⟩ ∧ g < W.heap.size ∧ ∀ j x, l[j]? = some x → GOpAt W g (o + j * 4) x := by
  rcases h with ⟨oa', cap', e, rfl⟩ | ⟨g, o, cap', e, hg, hx⟩
  · simp at hi
  · simp only [Value.slice.injEq] at e
    exact ⟨g, o, e.1, hg, hx⟩
theorem GOpAt.keep {W W' : World} {g o : Nat} {x : GOp} (h : GOpAt W g o x) (k : W'.heap[g]? = W.heap[g]?) : GOpAt W' g o x := ⟨(World.cell?_of_block (a := ⟨g, o, none⟩) k).trans h.c0, (World.cell?_of_block (a := ⟨g, o + 1, none⟩) k).trans h.c1, (World.cell?_of_block (a := ⟨g, o + 2, none⟩) k).trans h.c2, (World.cell?_of_block (a := ⟨g, o + 3, none⟩) k).trans h.c3⟩
section
variable {H : Type} {enc : TypeId × Value → H} {W : World}
theorem gop_add_plain (b o j : Nat) : (⟨b, o, none⟩ : Addr).add j = ⟨b, o + j, none⟩ := by unfold Addr.add; split <;> simp_all
set_option maxRecDepth 100000 in
theorem gop_of_cells {fuel : Nat} {cs : List Value} {x : DataW H × List MemPlace} (h : DataW.trod enc Try.prog W 0 (fun _ => true) true fuel 43 cs = some x) : ∃ o : GOp, o.Ok ∧ cs = o.cells := by
  obtain ⟨xs, n, _, rfl, hl, hlen, hf⟩ := DataW.trod_struct Try.underlying43 h
  have h6 : Try.prog.cellsOf 43 = 4 := by kernel_rfl
  rw [h6] at hl
  match xs, hlen with
  | [y0, y1, y2, y3], _ =>
  match cs, hl with
  | [d0, d1, d2, d3], _ =>
  have g : ∀ (i t o : Nat) (f : Field) (d : Value) (y : DataW H × List MemPlace), (match Try.prog.underlying 43 with | some (.struct fs) => fs[i]? | _ => none) = some f → f.type = t → f.offset = o → Try.prog.cellsOf t = 1 → (([d0, d1, d2, d3] : List Value).drop o).take 1 = [d] → ([y0, y1, y2, y3] : List (DataW H × List MemPlace))[i]? = some y → DataW.trod enc Try.prog W 0 (fun _ => true) true n t [d] = some y := fun i t o f d y h0 h1 h2 h3 h4 h5 => by
    rw [Try.underlying43] at h0
    have := hf i f h0
    rw [h1, h2, h3, h4, h5] at this
    exact this
  have f0 := g 0 3 0 _ d0 y0 (by rw [Try.underlying43]; rfl) rfl rfl (by kernel_rfl) rfl rfl
  have f1 := g 1 3 1 _ d1 y1 (by rw [Try.underlying43]; rfl) rfl rfl (by kernel_rfl) rfl rfl
  have f2 := g 2 3 2 _ d2 y2 (by rw [Try.underlying43]; rfl) rfl rfl (by kernel_rfl) rfl rfl
  have f3 := g 3 4 3 _ d3 y3 (by rw [Try.underlying43]; rfl) rfl rfl (by kernel_rfl) rfl rfl
  obtain ⟨a0, h0', _, w0⟩ := DataW.trod_int Try.underlying3 f0
  obtain ⟨a1, h1', _, w1⟩ := DataW.trod_int Try.underlying3 f1
  obtain ⟨a2, h2', _, w2⟩ := DataW.trod_int Try.underlying3 f2
  obtain ⟨a3, h3', _⟩ := DataW.trod_bool Try.underlying4 f3
  simp only [List.cons.injEq, and_true] at h0' h1' h2' h3'
  subst h0' h1' h2' h3' 
  exact ⟨⟨a0, a1, a2, a3⟩, ⟨w0, w1, w2, rfl⟩, rfl⟩
set_option maxRecDepth 100000 in
theorem gops_of_trod {v : Value} {d : DataW H} {p : List MemPlace} {base : Nat} (hok : Value.okWide Try.prog W .any base 39 v) (h : DataW.Trod enc Try.prog W 0 (fun _ => true) true 39 v d p) : ∃ l, GOps W v l ∧ ∀ x ∈ l, x.Ok := by
  obtain ⟨a0, len, cap, rfl⟩ := okWide_slice Try.underlying39 hok
  obtain ⟨fuel, hf⟩ := h
  have hlt := DataW.trod_lt fuel _ _ _ hf
  have h6 : Try.prog.cellsOf 43 = 4 := by kernel_rfl
  rcases open_slice Try.underlying39 hf with ⟨hcs, hx⟩ | ⟨a, len', cap', m, n, D, Pl, hcs, _, hl, hm, hmm, hx0, hx⟩
  · simp [Value.cells] at hcs
    obtain ⟨rfl, rfl, rfl⟩ := hcs
    exact ⟨[], .inl ⟨none, 0, rfl, rfl⟩, by simp⟩
  · simp [Value.cells] at hcs
    obtain ⟨rfl, rfl, rfl⟩ := hcs
    simp only [if_true] at hmm
    by_cases h0 : len = 0
    · subst h0; exact ⟨[], .inl ⟨_, _, rfl, rfl⟩, by simp⟩
    rw [h6] at hx hx0
    simp only [Prod.mk.injEq] at hx0
    obtain ⟨hd0, hp0⟩ := hx0
    obtain ⟨b, off, spot⟩ := a
    have hsp : spot = none := by
      obtain ⟨cs', h1, h2⟩ := hx 0 (by omega)
      obtain ⟨_, hlen, hc⟩ := World.cells?_some h1
      have := hc 0 (by omega)
      rw [List.getElem?_eq_getElem (by omega)] at this
      simpa [Addr.add] using World.cell?_spot this
    subst hsp
    have hV : ∀ i, i < len → ∃ x : GOp, x.Ok ∧ GOpAt W b (off + i * 4) x := fun i hi => by
      obtain ⟨cs', h1, h2⟩ := hx i (by omega)
      obtain ⟨_, hlen, hc⟩ := World.cells?_some h1
      obtain ⟨x, hox, rfl⟩ := gop_of_cells h2
      have g : ∀ c, c < 4 → W.cell? ⟨b, off + i * 4 + c, none⟩ = x.cells[c]? := fun c hc6 => by
        rw [← hc c hc6, gop_add_plain, gop_add_plain]
      exact ⟨x, hox, g 0 (by omega), g 1 (by omega), g 2 (by omega), g 3 (by omega)⟩
    obtain ⟨f, hf⟩ := choose_lt hV
    have hbW : b < W.heap.size := hlt (.cell b off) (by rw [hp0]; exact List.mem_append_left _ (MemPlace.mem_row.2 ⟨0, by omega, by simp⟩))
    refine ⟨(List.range len).map f, .inr ⟨b, off, cap, by simp, hbW, fun i u hu => ?_⟩, fun x hx => ?_⟩
    · rw [List.getElem?_map] at hu
      have hi : i < len := by
        by_cases hi : i < len
        · exact hi
        · rw [List.getElem?_eq_none (by simp; omega)] at hu; cases hu
      rw [List.getElem?_range hi] at hu
      simp only [Option.map_some, Option.some.injEq] at hu
      rw [← hu]
      exact (hf i hi).2
    · obtain ⟨i, hi, rfl⟩ := List.mem_map.1 hx
      exact (hf i (List.mem_range.1 hi)).1
end
end Go.Proofs.Ytmpbpioigfnneaa
