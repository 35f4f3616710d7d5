/- A script that came in: a slice of steps, each with a slice of truth values of its own. -/
import Derived.Test.YtmnojmcbghdciaaPlArgs
namespace Go.Proofs.Ytmnojmcbghdciaa
open Go.ChangeShapes Go.WideShapes Go.RowKit Go.Deep

structure OpT where
  kind : Int
  at_ : Int
  len : Int
  v : Nat
  kv : Value
  keep : List Bool
instance : Inhabited OpT := ⟨⟨0, 0, 0, 0, .slice none 0 0, []⟩⟩
structure OpAt (W : World) (g o : Nat) (x : OpT) : Prop where
  c0 : W.cell? ⟨g, o, none⟩ = some (.int .i64 x.kind)
  c1 : W.cell? ⟨g, o + 1, none⟩ = some (.int .i64 x.at_)
  c2 : W.cell? ⟨g, o + 2, none⟩ = some (.int .i64 x.len)
  c3 : W.cell? ⟨g, o + 3, none⟩ = some (.int .u8 (x.v : Nat))
  c4 : W.cell? ⟨g, o + 4, none⟩ = some x.kv
  bools : Bools W (fun k => W.heap.size ≤ k) x.kv x.keep
  wat : (Lit.int .i64 x.at_).wf = true
  byte : x.v < 256
def Ops (W : World) (v : Value) (l : List OpT) : Prop := (∃ oa cap, v = .slice oa 0 cap ∧ l = []) ∨ ∃ g o cap, v = .slice (some ⟨g, o, none⟩) l.length cap ∧ g < W.heap.size ∧ ∀ i x, l[i]? = some x → OpAt W g (o + i * 5) x

section
variable {H : Type} {enc : TypeId × Value → H} {W : World}
theorem field_at {n : Nat} {cs : List Value} {xs : List (DataW H × List MemPlace)} {fs : Array Field} (hf : ∀ (i : Nat) (f : Field), fs[i]? = some f → DataW.trod enc Try.prog W 0 (fun _ => true) true n f.type ((cs.drop f.offset).take (Try.prog.cellsOf f.type)) = xs[i]?)
    (i t o : Nat) (f : Field) (h0 : fs[i]? = some f) (h1 : f.type = t) (h2 : f.offset = o) (h3 : Try.prog.cellsOf t = 1) : DataW.trod enc Try.prog W 0 (fun _ => true) true n t ((cs.drop o).take 1) = xs[i]? := by
  subst h1 h2
  rw [← h3]
  exact hf i f h0
theorem op_of_cells {fuel : Nat} {cs : List Value} {x : DataW H × List MemPlace} (h : DataW.trod enc Try.prog W 0 (fun _ => true) true fuel 33 cs = some x) :
    ∃ (k a n : Int) (v : Nat) (kv : Value) (l : List Bool), cs = [.int .i64 k, .int .i64 a, .int .i64 n, .int .u8 (v : Nat), kv] ∧ Bools W (fun k => W.heap.size ≤ k) kv l ∧ (Lit.int .i64 a).wf = true ∧ v < 256 := by
  obtain ⟨xs, n, _, rfl, hl, hlen, hf⟩ := DataW.trod_struct Try.underlying33 h
  have h5 : Try.prog.cellsOf 33 = 5 := by kernel_rfl
  have e3 : Try.prog.cellsOf 3 = 1 := by kernel_rfl
  have e5 : Try.prog.cellsOf 5 = 1 := by kernel_rfl
  have e31 : Try.prog.cellsOf 31 = 1 := by kernel_rfl
  rw [h5] at hl
  match xs, hlen with
  | [y0, y1, y2, y3, y4], _ =>
  match cs, hl with
  | [d0, d1, d2, d3, d4], _ =>
  have f0 : DataW.trod enc Try.prog W 0 (fun _ => true) true n 3 [d0] = some y0 := field_at hf 0 3 0 _ rfl rfl rfl e3
  have f1 : DataW.trod enc Try.prog W 0 (fun _ => true) true n 3 [d1] = some y1 := field_at hf 1 3 1 _ rfl rfl rfl e3
  have f2 : DataW.trod enc Try.prog W 0 (fun _ => true) true n 3 [d2] = some y2 := field_at hf 2 3 2 _ rfl rfl rfl e3
  have f3 : DataW.trod enc Try.prog W 0 (fun _ => true) true n 5 [d3] = some y3 := field_at hf 3 5 3 _ rfl rfl rfl e5
  have f4 : DataW.trod enc Try.prog W 0 (fun _ => true) true n 31 [d4] = some y4 := field_at hf 4 31 4 _ rfl rfl rfl e31
  obtain ⟨k, hk, _⟩ := DataW.trod_int Try.underlying3 f0
  obtain ⟨a, ha, _, wa⟩ := DataW.trod_int Try.underlying3 f1
  obtain ⟨m, hm, _⟩ := DataW.trod_int Try.underlying3 f2
  obtain ⟨v, hv, _, wv⟩ := DataW.trod_int Try.underlying5 f3
  obtain ⟨kv, l, hkv, hb⟩ := bools_of_cells f4
  simp only [List.cons.injEq, and_true] at hk ha hm hv hkv
  subst hk ha hm hv hkv
  obtain ⟨u, rfl, hu⟩ : ∃ m : Nat, v = m ∧ m < 256 := by
    have : 0 ≤ v ∧ v < 256 := by simp [Lit.wf, IntKind.min, IntKind.max, IntKind.signed, IntKind.bits] at wv; omega
    exact ⟨v.toNat, by omega, by omega⟩
  exact ⟨k, a, m, u, d4, l, rfl, hb, wa, hu⟩
theorem ops_of_trod {v : Value} {d : DataW H} {p : List MemPlace} {base : Nat} (hok : Value.okWide Try.prog W .any base 22 v) (h : DataW.Trod enc Try.prog W 0 (fun _ => true) true 22 v d p) : ∃ l, Ops W v l := by
  obtain ⟨a0, len, cap, rfl⟩ := okWide_slice Try.underlying22 hok
  obtain ⟨fuel, hf⟩ := h
  have hlt := DataW.trod_lt fuel _ _ _ hf
  have h5 : Try.prog.cellsOf 33 = 5 := by kernel_rfl
  rcases open_slice Try.underlying22 hf with ⟨hcs, hx⟩ | ⟨a, len', cap', m, n, D, Pl, hcs, _, hl, hm, hmm, hx0, hx⟩
  · simp [Value.cells] at hcs
    obtain ⟨rfl, rfl, rfl⟩ := hcs
    exact ⟨[], .inl ⟨none, 0, rfl, rfl⟩⟩
  · simp [Value.cells] at hcs
    obtain ⟨rfl, rfl, rfl⟩ := hcs
    simp only [if_true] at hmm
    by_cases h0 : len = 0
    · subst h0; exact ⟨[], .inl ⟨_, _, rfl, rfl⟩⟩
    rw [h5] at hx hx0
    obtain ⟨b, off, spot⟩ := a
    have hsp : spot = none := by
      obtain ⟨cs', h1, h2⟩ := hx 0 (by omega)
      obtain ⟨_, hlen, hc⟩ := World.cells?_some h1
      have := hc 0 (by omega)
      rw [List.getElem?_eq_getElem (by omega)] at this
      simpa [Addr.add] using World.cell?_spot this
    subst hsp
    have hV : ∀ i, i < len → ∃ x : OpT, OpAt W b (off + i * 5) x := fun i hi => by
      obtain ⟨cs', h1, h2⟩ := hx i (by omega)
      obtain ⟨_, hlen, hc⟩ := World.cells?_some h1
      obtain ⟨k, a, q, v, kv, l, rfl, hb, wa, hv⟩ := op_of_cells h2
      have g : ∀ c, c < 5 → W.cell? ⟨b, off + i * 5 + c, none⟩ = ([Value.int .i64 k, .int .i64 a, .int .i64 q, .int .u8 (v : Nat), kv] : List Value)[c]? := fun c hc5 => by
        rw [← hc c hc5, add_plain, add_plain]
      exact ⟨⟨k, a, q, v, kv, l⟩, g 0 (by omega), g 1 (by omega), g 2 (by omega), g 3 (by omega), g 4 (by omega), hb, wa, hv⟩
    obtain ⟨f, hf⟩ := choose_lt hV
    have hbW : b < W.heap.size := hlt (.cell b off) (by rw [hx0]; exact List.mem_append_left _ (MemPlace.mem_row.2 ⟨0, by omega, by simp⟩))
    refine ⟨(List.range len).map f, .inr ⟨b, off, cap, by simp, hbW, fun i u hu => ?_⟩⟩
    rw [List.getElem?_map] at hu
    have hi : i < len := by
      by_cases hi : i < len
      · exact hi
      · rw [List.getElem?_eq_none (by simp; omega)] at hu; cases hu
    rw [List.getElem?_range hi] at hu
    simp only [Option.map_some, Option.some.injEq] at hu
    rw [← hu]
    exact hf i hi
end
theorem Ops.form {W : World} {v : Value} {l : List OpT} (h : Ops W v l) : ∃ oa cap, v = .slice oa l.length cap := by
  rcases h with ⟨oa, cap, rfl, rfl⟩ | ⟨g, o, cap, rfl, _⟩
  · exact ⟨_, _, rfl⟩
  · exact ⟨_, _, rfl⟩
theorem Ops.get {W : World} {oa : Option Addr} {cap : Nat} {l : List OpT} (h : Ops W (.slice oa l.length cap) l) (hl : 0 < l.length) : ∃ g o, oa = some ⟨g, o, none⟩ ∧ g < W.heap.size ∧ ∀ i x, l[i]? = some x → OpAt W g (o + i * 5) x := by
  rcases h with ⟨oa', cap', e, e2⟩ | ⟨g, o, cap', e, hg, hx⟩
  · rw [e2] at hl; exact absurd hl (Nat.lt_irrefl 0)
  · cases e; exact ⟨g, o, rfl, hg, hx⟩
theorem Bools.form {W : World} {F : Nat → Prop} {v : Value} {l : List Bool} (h : Bools W F v l) : ∃ oa cap, v = .slice oa l.length cap := by
  rcases h with ⟨oa, cap, rfl, rfl⟩ | ⟨g, o, cap, rfl, _⟩
  · exact ⟨_, _, rfl⟩
  · exact ⟨_, _, rfl⟩
/-- What a step says, in a later world of the call. -/
theorem OpAt.later {W w' : World} {g o : Nat} {x : OpT} (h : OpAt W g o x) (hg : g < W.heap.size) (hb : Below W.heap.size W w') :
    w'.cell? ⟨g, o, none⟩ = some (.int .i64 x.kind) ∧ w'.cell? ⟨g, o + 1, none⟩ = some (.int .i64 x.at_) ∧ w'.cell? ⟨g, o + 2, none⟩ = some (.int .i64 x.len) ∧ w'.cell? ⟨g, o + 3, none⟩ = some (.int .u8 (x.v : Nat)) ∧ w'.cell? ⟨g, o + 4, none⟩ = some x.kv := by
  have hk := hb.block g hg
  refine ⟨?_, ?_, ?_, ?_, ?_⟩
  · rw [World.cell?_of_block (a := ⟨g, o, none⟩) hk]; exact h.c0
  · rw [World.cell?_of_block (a := ⟨g, o + 1, none⟩) hk]; exact h.c1
  · rw [World.cell?_of_block (a := ⟨g, o + 2, none⟩) hk]; exact h.c2
  · rw [World.cell?_of_block (a := ⟨g, o + 3, none⟩) hk]; exact h.c3
  · rw [World.cell?_of_block (a := ⟨g, o + 4, none⟩) hk]; exact h.c4
end Go.Proofs.Ytmnojmcbghdciaa
