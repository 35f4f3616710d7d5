/- A list of entries that came in; a list of entries of one's own. -/
import Derived.Test.YtlcadhojfnanfaaDoorShBuild
import Derived.Test.YtlcadhojfnanfaaDoorPtSize
import Derived.Test.YtlcadhojfnanfaaDoorOpenEntry
import Derived.Test.YtlcadhojfnanfaaDoorEntry
import Derived.Test.YtlcadhojfnanfaaDoorEntryOf
namespace Go.Proofs.YtlcadhojfnanfaaDoor
set_option maxRecDepth 20000
open Go.ChangeShapes Go.WideShapes Go.RowKit Go.Deep

section
variable {H : Type}
theorem weights_all {P : Program} {e : TypeId} {d : DataW H} {n : Nat} : ∀ {l : List (DataW H)}, d ∈ l → n ∈ d.weights P e → n ∈ DataW.weightsAll P e l
  | x :: r, hd, hn => by
    rw [DataW.weightsAll, List.mem_append]
    rcases List.mem_cons.1 hd with rfl | hd
    · exact .inl hn
    · exact .inr (weights_all hd hn)
theorem weights_slice {P : Program} {t e : TypeId} (hu : P.underlying t = some (.slice e)) {len m : Nat} {D : Nat → DataW H} {sp : List (DataW H)} {i n : Nat} (hi : i < len) (hn : n ∈ (D i).weights P e) (_ : m = m) : n ∈ (DataW.slice ((List.range len).map D) sp).weights P t := by
  simp only [DataW.weights, hu, List.mem_cons, List.mem_append]
  exact .inr (.inl (weights_all (List.mem_map.2 ⟨i, List.mem_range.2 hi, rfl⟩) hn))
theorem weights_field {P : Program} {t ft : TypeId} {fs : Array Field} (hu : P.underlying t = some (.struct fs)) {xs : List (DataW H)} {i : Nat} {s : List UInt8} (hf : (fs.toList.map (·.type))[i]? = some ft) (hx : xs[i]? = some (.lit (.string s))) : s.length ∈ (DataW.agg xs).weights P t := by
  simp only [DataW.weights, hu]
  exact DataW.weights_mem_each hf hx s.length (by simp [DataW.weights])
theorem reach_le {n : Nat} (h : n ≤ reachBytes) : n ≤ 140737488355328 := Nat.le_trans h (by decide)
end
structure En where
  nm : ByteArray
  ino : Int
  gen : Int
instance : Inhabited En := ⟨⟨⟨#[]⟩, 0, 0⟩⟩
structure En.Ok (x : En) : Prop where
  nm : x.nm.size ≤ 140737488355328
  ino : (Lit.int .i64 x.ino).wf = true
  gen : (Lit.int .i64 x.gen).wf = true
def En.cells (x : En) : List Value := [.string x.nm, .int .i64 x.ino, .int .i64 x.gen]
structure EnAt (W : World) (g o : Nat) (x : En) : Prop where
  c0 : W.cell? ⟨g, o, none⟩ = some (.string x.nm)
  c1 : W.cell? ⟨g, o + 1, none⟩ = some (.int .i64 x.ino)
  c2 : W.cell? ⟨g, o + 2, none⟩ = some (.int .i64 x.gen)
def Ens (W : World) (v : Value) (l : List En) : Prop := (∃ oa cap, v = .slice oa 0 cap ∧ l = []) ∨ ∃ g o cap, v = .slice (some ⟨g, o, none⟩) l.length cap ∧ g < W.heap.size ∧ ∀ i x, l[i]? = some x → EnAt W g (o + i * 3) x
theorem Ens.form {W : World} {v : Value} {l : List En} (h : Ens W v l) : ∃ oa cap, v = .slice oa l.length cap := by
  rcases h with ⟨oa, cap, rfl, rfl⟩ | ⟨g, o, cap, rfl, _⟩
  · exact ⟨oa, cap, rfl⟩
  · exact ⟨_, cap, rfl⟩
theorem Ens.get {W : World} {oa : Option Addr} {cap : Nat} {l : List En} (h : Ens W (.slice oa l.length cap) l) {i : Nat} (hi : i < l.length) : ∃ g o, oa = some ⟨g, o, none⟩ ∧ g < W.heap.size ∧ ∀ j x, l[j]? = some x → EnAt W g (o + j * 3) x := by
  rcases h with ⟨oa', cap', e, rfl⟩ | ⟨g, o, cap', e, hg, hx⟩
  · simp at hi
  · simp only [Value.slice.injEq] at e
    exact ⟨g, o, e.1, hg, hx⟩
theorem EnAt.keep {W W' : World} {g o : Nat} {x : En} (h : EnAt W g o x) (k : W'.heap[g]? = W.heap[g]?) : EnAt W' g o x := ⟨(World.cell?_of_block (a := ⟨g, o, none⟩) k).trans h.c0, (World.cell?_of_block (a := ⟨g, o + 1, none⟩) k).trans h.c1, (World.cell?_of_block (a := ⟨g, o + 2, none⟩) k).trans h.c2⟩
section
variable {H : Type} {enc : TypeId × Value → H} {W : World}
theorem en_add_plain (b o j : Nat) : (⟨b, o, none⟩ : Addr).add j = ⟨b, o + j, none⟩ := by unfold Addr.add; split <;> simp_all
set_option maxRecDepth 100000 in
theorem en_of_cells {fuel : Nat} {cs : List Value} {x : DataW H × List MemPlace} (h : DataW.trod enc Tryd.prog W 0 (fun _ => true) true fuel 28 cs = some x) (hw : ∀ n ∈ x.1.weights Tryd.prog 28, n ≤ reachBytes) : ∃ o : En, o.Ok ∧ cs = o.cells := by
  obtain ⟨xs, n, _, rfl, hl, hlen, hf⟩ := DataW.trod_struct Tryd.underlying28 h
  have h6 : Tryd.prog.cellsOf 28 = 3 := by kernel_rfl
  rw [h6] at hl
  match xs, hlen with
  | [y0, y1, y2], _ =>
  match cs, hl with
  | [d0, d1, d2], _ =>
  have g : ∀ (i t o : Nat) (f : Field) (d : Value) (y : DataW H × List MemPlace), (match Tryd.prog.underlying 28 with | some (.struct fs) => fs[i]? | _ => none) = some f → f.type = t → f.offset = o → Tryd.prog.cellsOf t = 1 → (([d0, d1, d2] : List Value).drop o).take 1 = [d] → ([y0, y1, y2] : List (DataW H × List MemPlace))[i]? = some y → DataW.trod enc Tryd.prog W 0 (fun _ => true) true n t [d] = some y := fun i t o f d y h0 h1 h2 h3 h4 h5 => by
    rw [Tryd.underlying28] at h0
    have := hf i f h0
    rw [h1, h2, h3, h4, h5] at this
    exact this
  have f0 := g 0 9 0 _ d0 y0 (by rw [Tryd.underlying28]; rfl) rfl rfl (by kernel_rfl) rfl rfl
  have f1 := g 1 3 1 _ d1 y1 (by rw [Tryd.underlying28]; rfl) rfl rfl (by kernel_rfl) rfl rfl
  have f2 := g 2 3 2 _ d2 y2 (by rw [Tryd.underlying28]; rfl) rfl rfl (by kernel_rfl) rfl rfl
  obtain ⟨a0, h0', e0, _⟩ := DataW.trod_string Tryd.underlying9 f0
  obtain ⟨a1, h1', _, w1⟩ := DataW.trod_int Tryd.underlying3 f1
  obtain ⟨a2, h2', _, w2⟩ := DataW.trod_int Tryd.underlying3 f2
  simp only [List.cons.injEq, and_true] at h0' h1' h2'
  subst h0' h1' h2' e0
  have w0 := hw _ (weights_field (ft := 9) (s := a0.data.toList) (i := 0) Tryd.underlying28 rfl rfl)
  have l0 : a0.data.toList.length = a0.size := by simp
  rw [l0] at w0
  exact ⟨⟨a0, a1, a2⟩, ⟨reach_le w0, w1, w2⟩, rfl⟩
set_option maxRecDepth 100000 in
theorem ens_of_trod {v : Value} {d : DataW H} {p : List MemPlace} {base : Nat} (hok : Value.okWide Tryd.prog W .any base 22 v) (h : DataW.Trod enc Tryd.prog W 0 (fun _ => true) true 22 v d p) (hw : ∀ n ∈ d.weights Tryd.prog 22, n ≤ reachBytes) : ∃ l, Ens W v l ∧ (∀ x ∈ l, x.Ok) ∧ Capped v := by
  obtain ⟨a0, len, cap, rfl⟩ := okWide_slice Tryd.underlying22 hok
  obtain ⟨fuel, hf⟩ := h
  have hlt := DataW.trod_lt fuel _ _ _ hf
  have h6 : Tryd.prog.cellsOf 28 = 3 := by kernel_rfl
  rcases open_slice Tryd.underlying22 hf with ⟨hcs, hx⟩ | ⟨a, len', cap', m, n, D, Pl, hcs, _, hl, hm, hmm, hx0, hx⟩
  · simp [Value.cells] at hcs
    obtain ⟨rfl, rfl, rfl⟩ := hcs
    exact ⟨[], .inl ⟨none, 0, rfl, rfl⟩, by simp, fun _ _ _ e => by simp at e; obtain ⟨_, rfl, rfl⟩ := e; exact ⟨Nat.le_refl _, Nat.zero_le _⟩⟩
  · simp [Value.cells] at hcs
    obtain ⟨rfl, rfl, rfl⟩ := hcs
    simp only [if_true] at hmm
    have hcap : Capped (.slice (some a) len cap) := fun _ _ _ e => by simp at e; obtain ⟨_, rfl, rfl⟩ := e; exact ⟨hl, hm⟩
    by_cases h0 : len = 0
    · subst h0; exact ⟨[], .inl ⟨_, _, rfl, rfl⟩, by simp, hcap⟩
    rw [h6] at hx hx0
    simp only [Prod.mk.injEq] at hx0
    obtain ⟨hd0, hp0⟩ := hx0
    obtain ⟨b, off, spot⟩ := a
    have hsp : spot = none := by
      obtain ⟨cs', h1, h2⟩ := hx 0 (by omega)
      obtain ⟨_, hlen, hc⟩ := World.cells?_some h1
      have := hc 0 (by omega)
      rw [List.getElem?_eq_getElem (by omega)] at this
      simpa [Addr.add] using World.cell?_spot this
    subst hsp
    have hV : ∀ i, i < len → ∃ x : En, x.Ok ∧ EnAt W b (off + i * 3) x := fun i hi => by
      obtain ⟨cs', h1, h2⟩ := hx i (by omega)
      obtain ⟨_, hlen, hc⟩ := World.cells?_some h1
      obtain ⟨x, hox, rfl⟩ := en_of_cells h2 (fun k hk => hw k (by rw [hd0]; exact weights_slice (m := m) Tryd.underlying22 hi hk rfl))
      have g : ∀ c, c < 3 → W.cell? ⟨b, off + i * 3 + c, none⟩ = x.cells[c]? := fun c hc6 => by
        rw [← hc c hc6, en_add_plain, en_add_plain]
      exact ⟨x, hox, g 0 (by omega), g 1 (by omega), g 2 (by omega)⟩
    obtain ⟨f, hf⟩ := choose_lt hV
    have hbW : b < W.heap.size := hlt (.cell b off) (by rw [hp0]; exact List.mem_append_left _ (MemPlace.mem_row.2 ⟨0, by omega, by simp⟩))
    refine ⟨(List.range len).map f, .inr ⟨b, off, cap, by simp, hbW, fun i u hu => ?_⟩, fun x hx => ?_, hcap⟩
    · rw [List.getElem?_map] at hu
      have hi : i < len := by
        by_cases hi : i < len
        · exact hi
        · rw [List.getElem?_eq_none (by simp; omega)] at hu; cases hu
      rw [List.getElem?_range hi] at hu
      simp only [Option.map_some, Option.some.injEq] at hu
      rw [← hu]
      exact (hf i hi).2
    · obtain ⟨i, hi, rfl⟩ := List.mem_map.1 hx
      exact (hf i (List.mem_range.1 hi)).1
end

theorem EnAt.below {W W' : World} {g o B : Nat} {x : En} (h : EnAt W g o x) (hb : Below B W W') (hg : g < B) : EnAt W' g o x := h.keep (hb.block g hg)
theorem Ens.below {w w' : World} {v : Value} {l : List En} (h : Ens w v l) (hb : Below w.heap.size w w') : Ens w' v l := by
  rcases h with h | ⟨g, o, cap, e, hg, hx⟩
  · exact .inl h
  · exact .inr ⟨g, o, cap, e, Nat.lt_of_lt_of_le hg hb.size, fun i x hi => (hx i x hi).keep (hb.block g hg)⟩
theorem Ens.at {W : World} {oa : Option Addr} {cap : Nat} {l : List En} (h : Ens W (.slice oa l.length cap) l) {i : Nat} (hi : i < l.length) : ∃ g o, oa = some ⟨g, o, none⟩ ∧ g < W.heap.size ∧ EnAt W g (o + i * 3) l[i] := by
  obtain ⟨g, o, e, hg, hx⟩ := h.get hi
  exact ⟨g, o, e, hg, hx i _ (List.getElem?_eq_getElem hi)⟩
theorem Ens.cut {W : World} {oa : Option Addr} {cap : Nat} {l : List En} (h : Ens W (.slice oa l.length cap) l) (k : Nat) (hk : k < l.length) (c : Nat) : Ens W (.slice oa k c) (l.take k) := by
  obtain ⟨g, o, rfl, hg, hx⟩ := h.get hk
  refine .inr ⟨g, o, c, by rw [List.length_take, Nat.min_eq_left (by omega)], hg, fun i x hi => hx i x ?_⟩
  rw [List.getElem?_take] at hi
  split at hi
  · exact hi
  · cases hi
theorem flat_len : ∀ l : List En, (l.flatMap En.cells).length = l.length * 3
  | [] => rfl
  | x :: l => by rw [List.flatMap_cons, List.length_append, flat_len l]; show 3 + _ = _; rw [List.length_cons]; omega
theorem flat_at : ∀ (l : List En) (i : Nat) (x : En), l[i]? = some x → ∀ c, c < 3 → (l.flatMap En.cells)[i * 3 + c]? = x.cells[c]?
  | [], i, x, h, _, _ => by simp at h
  | y :: l, 0, x, h, c, hc => by
    obtain rfl : y = x := by simpa using h
    rw [List.flatMap_cons, List.getElem?_append_left (by show 0 * 3 + c < 3; omega), Nat.zero_mul, Nat.zero_add]
  | y :: l, i + 1, x, h, c, hc => by
    have h3 : y.cells.length = 3 := rfl
    rw [List.flatMap_cons, List.getElem?_append_right (by rw [h3]; omega), h3, show (i + 1) * 3 + c - 3 = i * 3 + c by omega]
    exact flat_at l i x (by simpa using h) c hc
/-- A list of entries of one's own. -/
def EZ (w : World) (base : Nat) (v : Value) (l : List En) : Prop := w.ownsRow base 28 3 v l.length (l.flatMap En.cells)
theorem EZ.nil (w : World) (base : Nat) : EZ w base (.slice none 0 0) [] := World.ownsRow_nil _ _ _ _
theorem EZ.form {w : World} {base : Nat} {v : Value} {l : List En} (h : EZ w base v l) : ∃ oa cap, v = .slice oa l.length cap := by
  rcases h.2 with ⟨e, h0⟩ | ⟨g, cap, cur, e, _⟩
  · exact ⟨none, 0, by rw [e, h0]⟩
  · exact ⟨_, _, e⟩
theorem EZ.below {w w' : World} {base : Nat} {v : Value} {l : List En} (h : EZ w base v l) (hb : Below w.heap.size w w') : EZ w' base v l := by
  refine ⟨h.1, ?_⟩
  rcases h.2 with h0 | ⟨g, cap, cur, e, h0, hg, h1, h2, h3, h4⟩
  · exact .inl h0
  · exact .inr ⟨g, cap, cur, e, h0, (hb.block g (lt_of_block hg)).trans hg, h1, h2, h3, h4⟩
theorem EZ.ens {w : World} {base : Nat} {v : Value} {l : List En} (h : EZ w base v l) : Ens w v l := by
  have hh := h
  unfold EZ at hh
  rcases h.2 with ⟨e, h0⟩ | ⟨g, cap, cur, e, h0, hg, h1, h2, h3, h4⟩
  · exact .inl ⟨none, 0, e, List.eq_nil_of_length_eq_zero h0⟩
  · refine .inr ⟨g, 0, cap, e, lt_of_block hg, fun i x hx => ?_⟩
    subst e
    have hi := (List.getElem?_eq_some_iff.1 hx).1
    have k : ∀ c, c < 3 → w.cell? ⟨g, 0 + i * 3 + c, none⟩ = x.cells[c]? := fun c hc => by
      have := hh.cellAt (i * 3 + c) (by omega)
      rw [Nat.zero_add, this, flat_at l i x hx c hc]
    exact ⟨k 0 (by omega), k 1 (by omega), k 2 (by omega)⟩
theorem sh_info_en : (Tryd.prog.info? 28).map (fun i => (i.zero, i.size, i.bytes)) = some (some (.agg #[.string ByteArray.empty, .int .i64 0, .int .i64 0]), 3, 32) := by kernel_rfl
noncomputable instance : DecidableEq En := fun _ _ => Classical.propDecidable _
theorem En.ext_iff' {x y : En} : x = y ↔ x.nm = y.nm ∧ x.ino = y.ino ∧ x.gen = y.gen := by
  cases x; cases y; simp
end Go.Proofs.YtlcadhojfnanfaaDoor
