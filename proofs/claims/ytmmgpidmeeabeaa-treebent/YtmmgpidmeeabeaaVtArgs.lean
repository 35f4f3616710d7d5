/- What came in: steps, scripts of steps, lists of texts; no text of them has more bytes than a process has addresses. -/
import Derived.Test.YtmmgpidmeeabeaaVtNew
import Derived.Deep.Slices
import Derived.WideShapes
import Derived.ProofKit
import Derived.ChangeOld
import Derived.SizedLaws
namespace Go.Proofs.Ytmmgpidmeeabeaa
set_option maxRecDepth 20000
open Go.ChangeShapes Go.WideShapes Go.RowKit Go.Deep

structure OpV where
  kind : Int
  salt : Int
  nonce : ByteArray
  label : ByteArray
  text : ByteArray
  tag : ByteArray
instance : Inhabited OpV := ⟨⟨0, 0, ⟨#[]⟩, ⟨#[]⟩, ⟨#[]⟩, ⟨#[]⟩⟩⟩
structure OpV.Ok (x : OpV) : Prop where
  kind : (Lit.int .i64 x.kind).wf = true
  salt : (Lit.int .i64 x.salt).wf = true
  nonce : x.nonce.size ≤ 140737488355328
  label : x.label.size ≤ 140737488355328
  text : x.text.size ≤ 140737488355328
  tag : x.tag.size ≤ 140737488355328
def OpV.cells (x : OpV) : List Value := [.int .i64 x.kind, .int .i64 x.salt, .string x.nonce, .string x.label, .string x.text, .string x.tag]
structure OpVAt (W : World) (g o : Nat) (x : OpV) : Prop where
  c0 : W.cell? ⟨g, o, none⟩ = some (.int .i64 x.kind)
  c1 : W.cell? ⟨g, o + 1, none⟩ = some (.int .i64 x.salt)
  c2 : W.cell? ⟨g, o + 2, none⟩ = some (.string x.nonce)
  c3 : W.cell? ⟨g, o + 3, none⟩ = some (.string x.label)
  c4 : W.cell? ⟨g, o + 4, none⟩ = some (.string x.text)
  c5 : W.cell? ⟨g, o + 5, none⟩ = some (.string x.tag)
def OpsV (W : World) (v : Value) (l : List OpV) : Prop := (∀ x ∈ l, x.Ok) ∧ ((∃ oa cap, v = .slice oa 0 cap ∧ l = []) ∨ ∃ g o cap, v = .slice (some ⟨g, o, none⟩) l.length cap ∧ g < W.heap.size ∧ ∀ i x, l[i]? = some x → OpVAt W g (o + i * 6) x)
/-- A list of texts that came in. -/
def StrsV (W : World) (v : Value) (l : List ByteArray) : Prop := (∀ x ∈ l, x.size ≤ 140737488355328) ∧ ((∃ oa cap, v = .slice oa 0 cap ∧ l = []) ∨ ∃ g o cap, v = .slice (some ⟨g, o, none⟩) l.length cap ∧ g < W.heap.size ∧ ∀ i x, l[i]? = some x → W.cell? ⟨g, o + i, none⟩ = some (.string x))

section
variable {H : Type} {enc : TypeId × Value → H} {W : World}
theorem weights_all {P : Program} {e : TypeId} {d : DataW H} {n : Nat} : ∀ {l : List (DataW H)}, d ∈ l → n ∈ d.weights P e → n ∈ DataW.weightsAll P e l
  | x :: r, hd, hn => by
    rw [DataW.weightsAll, List.mem_append]
    rcases List.mem_cons.1 hd with rfl | hd
    · exact .inl hn
    · exact .inr (weights_all hd hn)
theorem weights_slice {P : Program} {t e : TypeId} (hu : P.underlying t = some (.slice e)) {len m : Nat} {D : Nat → DataW H} {sp : List (DataW H)} {i n : Nat} (hi : i < len) (hn : n ∈ (D i).weights P e) (_ : m = m) : n ∈ (DataW.slice ((List.range len).map D) sp).weights P t := by
  simp only [DataW.weights, hu, List.mem_cons, List.mem_append]
  exact .inr (.inl (weights_all (List.mem_map.2 ⟨i, List.mem_range.2 hi, rfl⟩) hn))
theorem weights_field {P : Program} {t ft : TypeId} {fs : Array Field} (hu : P.underlying t = some (.struct fs)) {xs : List (DataW H)} {i : Nat} {s : List UInt8} (hf : (fs.toList.map (·.type))[i]? = some ft) (hx : xs[i]? = some (.lit (.string s))) : s.length ∈ (DataW.agg xs).weights P t := by
  simp only [DataW.weights, hu]
  exact DataW.weights_mem_each hf hx s.length (by simp [DataW.weights])
theorem reach_le {n : Nat} (h : n ≤ reachBytes) : n ≤ 140737488355328 := Nat.le_trans h (by decide)
set_option maxRecDepth 100000 in
theorem strsv_of_trod {v : Value} {d : DataW H} {p : List MemPlace} {base : Nat} (hok : Value.okWide Try.prog W .any base 22 v) (h : DataW.Trod enc Try.prog W 0 (fun _ => true) true 22 v d p) (hw : ∀ n ∈ d.weights Try.prog 22, n ≤ reachBytes) : ∃ l, StrsV W v l := by
  obtain ⟨a0, len, cap, rfl⟩ := okWide_slice Try.underlying22 hok
  obtain ⟨fuel, hf⟩ := h
  have hlt := DataW.trod_lt fuel _ _ _ hf
  rcases open_slice1 Try.underlying22 cells_str hf with ⟨hcs, hx⟩ | ⟨a, len', cap', m, n, V, D, Pl, hcs, _, hl, hm, hmm, hx0, hx⟩
  · simp [Value.cells] at hcs
    obtain ⟨rfl, rfl, rfl⟩ := hcs
    exact ⟨[], by simp, .inl ⟨none, 0, rfl, rfl⟩⟩
  · simp [Value.cells] at hcs
    obtain ⟨rfl, rfl, rfl⟩ := hcs
    simp only [if_true] at hmm
    by_cases h0 : len = 0
    · subst h0; exact ⟨[], by simp, .inl ⟨_, _, rfl, rfl⟩⟩
    simp only [Prod.mk.injEq] at hx0
    obtain ⟨hd0, hp0⟩ := hx0
    have hV : ∀ i, i < len → ∃ s : ByteArray, s.size ≤ 140737488355328 ∧ W.cell? (a.add i) = some (.string s) := fun i hi => by
      obtain ⟨h1, h2⟩ := hx i (by omega)
      obtain ⟨s, hb, e, _⟩ := DataW.trod_string Try.underlying9 h2
      simp only [List.cons.injEq, and_true] at hb
      simp only [Prod.mk.injEq] at e
      have := hw s.data.toList.length (by rw [hd0]; exact weights_slice (m := m) Try.underlying22 hi (by rw [e.1]; simp [DataW.weights]) rfl)
      exact ⟨s, reach_le (by simpa using this), by rw [h1, hb]⟩
    obtain ⟨f, hf⟩ := choose_lt hV
    obtain ⟨b, off, spot⟩ := a
    have hspot : spot = none := by simpa [Addr.add] using World.cell?_spot (hf 0 (by omega)).2
    subst hspot
    have hbW : b < W.heap.size := hlt (.cell b off) (by rw [hp0]; exact List.mem_append_left _ (MemPlace.mem_row.2 ⟨0, by omega, by simp⟩))
    refine ⟨(List.range len).map f, fun x hx => ?_, .inr ⟨b, off, cap, by simp, hbW, fun i u hu => ?_⟩⟩
    · obtain ⟨i, hi, rfl⟩ := List.mem_map.1 hx
      exact (hf i (List.mem_range.1 hi)).1
    rw [List.getElem?_map] at hu
    have hi : i < len := by
      by_cases hi : i < len
      · exact hi
      · rw [List.getElem?_eq_none (by simp; omega)] at hu; cases hu
    rw [List.getElem?_range hi] at hu
    simp only [Option.map_some, Option.some.injEq] at hu
    rw [← hu, ← add_plain]
    exact (hf i hi).2
theorem each_le {P : Program} {ts : List TypeId} {ds : List (DataW H)} (h : (DataW.weightsEach P ts ds).all (· ≤ reachBytes) = true) {j : Nat} {t : TypeId} {d : DataW H} (ht : ts[j]? = some t) (hd : ds[j]? = some d) : ∀ n ∈ d.weights P t, n ≤ reachBytes := fun n hn => by
  simpa using List.all_eq_true.1 h n (DataW.weights_mem_each ht hd n hn)
end
theorem OpsV.form {W : World} {v : Value} {l : List OpV} (h : OpsV W v l) : ∃ oa cap, v = .slice oa l.length cap := by
  rcases h.2 with ⟨oa, cap, rfl, rfl⟩ | ⟨g, o, cap, rfl, _⟩
  · exact ⟨_, _, rfl⟩
  · exact ⟨_, _, rfl⟩
theorem OpsV.get {W : World} {oa : Option Addr} {cap : Nat} {l : List OpV} (h : OpsV W (.slice oa l.length cap) l) (hl : 0 < l.length) : ∃ g o, oa = some ⟨g, o, none⟩ ∧ g < W.heap.size ∧ ∀ i x, l[i]? = some x → OpVAt W g (o + i * 6) x := by
  rcases h.2 with ⟨oa', cap', e, e2⟩ | ⟨g, o, cap', e, hg, hx⟩
  · rw [e2] at hl; exact absurd hl (Nat.lt_irrefl 0)
  · cases e; exact ⟨g, o, rfl, hg, hx⟩
theorem StrsV.form {W : World} {v : Value} {l : List ByteArray} (h : StrsV W v l) : ∃ oa cap, v = .slice oa l.length cap := by
  rcases h.2 with ⟨oa, cap, rfl, rfl⟩ | ⟨g, o, cap, rfl, _⟩
  · exact ⟨_, _, rfl⟩
  · exact ⟨_, _, rfl⟩
theorem StrsV.get {W : World} {oa : Option Addr} {cap : Nat} {l : List ByteArray} (h : StrsV W (.slice oa l.length cap) l) (hl : 0 < l.length) : ∃ g o, oa = some ⟨g, o, none⟩ ∧ g < W.heap.size ∧ ∀ i x, l[i]? = some x → W.cell? ⟨g, o + i, none⟩ = some (.string x) := by
  rcases h.2 with ⟨oa', cap', e, e2⟩ | ⟨g, o, cap', e, hg, hx⟩
  · rw [e2] at hl; exact absurd hl (Nat.lt_irrefl 0)
  · cases e; exact ⟨g, o, rfl, hg, hx⟩
theorem OpVAt.later {W w' : World} {g o : Nat} {x : OpV} (h : OpVAt W g o x) (hg : g < W.heap.size) (hb : Below W.heap.size W w') : OpVAt w' g o x := by
  have hk := hb.block g hg
  have e : ∀ i, w'.cell? ⟨g, i, none⟩ = W.cell? ⟨g, i, none⟩ := fun i => World.cell?_of_block (a := ⟨g, i, none⟩) hk
  exact ⟨(e _).trans h.c0, (e _).trans h.c1, (e _).trans h.c2, (e _).trans h.c3, (e _).trans h.c4, (e _).trans h.c5⟩
end Go.Proofs.Ytmmgpidmeeabeaa
