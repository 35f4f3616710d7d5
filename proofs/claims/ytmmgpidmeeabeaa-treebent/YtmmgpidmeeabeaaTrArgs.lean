/- What came in: paths, and what TreeBent asks. -/
import Derived.Test.YtmmgpidmeeabeaaVtArgs
import Derived.Test.YtmmgpidmeeabeaaTrLead
namespace Go.Proofs.Ytmmgpidmeeabeaa
set_option maxRecDepth 20000
open Go.ChangeShapes Go.WideShapes Go.RowKit Go.Deep

/-- A path that came in. -/
def StepsV (W : World) (v : Value) (p : List Stp) : Prop := (∃ oa cap, v = .slice oa 0 cap ∧ p = []) ∨ ∃ g o cap, v = .slice (some ⟨g, o, none⟩) p.length cap ∧ g < W.heap.size ∧ p.length ≤ 140737488355328 ∧ ∀ (k : Nat) (s : Stp), p[k]? = some s → StepIn W (fun _ => False) g (o + k * 2) s
section
variable {H : Type} {enc : TypeId × Value → H} {W : World}
theorem bytes_str : Try.prog.bytesOf 9 = 16 := by kernel_rfl
theorem bytes_stp : Try.prog.bytesOf 39 = 32 := by kernel_rfl
set_option maxRecDepth 100000 in
theorem strs_of_cells {fuel : Nat} {cs : List Value} {x : DataW H × List MemPlace} (h : DataW.trod enc Try.prog W 0 (fun _ => true) true fuel 22 cs = some x) (hw : ∀ n ∈ x.1.weights Try.prog 22, n ≤ reachBytes) : ∃ (ob : Option Addr) (l : List ByteArray) (cb : Nat), cs = [.slice ob l.length cb] ∧ StrsV W (.slice ob l.length cb) l ∧ l.length ≤ cb ∧ cb ≤ 140737488355328 ∧ (ob = none → cb = 0) := by
  have hlt := DataW.trod_lt fuel _ _ _ h
  rcases open_slice1 Try.underlying22 cells_str h with ⟨hcs, hx⟩ | ⟨a, len, cap, m, n, V, D, Pl, hcs, _, hl, hm, hmm, hx0, hx⟩
  · exact ⟨none, [], 0, hcs, ⟨by simp, .inl ⟨none, 0, rfl, rfl⟩⟩, Nat.le_refl _, by decide, fun _ => rfl⟩
  · simp only [if_true] at hmm
    subst hx0 hmm
    have hcap : m ≤ 140737488355328 := by
      have := hw ((len + (m - len)) * 16) (by
        simp only [DataW.weights, Try.underlying22, bytes_str, List.length_map, List.length_range]
        exact List.mem_cons_self)
      have h2 := reach_le this
      omega
    by_cases h0 : len = 0
    · subst h0
      exact ⟨some a, [], m, hcs, ⟨by simp, .inl ⟨_, _, rfl, rfl⟩⟩, Nat.zero_le _, hcap, (fun e => by cases e)⟩
    have hV : ∀ i, i < len → ∃ s : ByteArray, s.size ≤ 140737488355328 ∧ W.cell? (a.add i) = some (.string s) := fun i hi => by
      obtain ⟨h1, h2⟩ := hx i (by omega)
      obtain ⟨s, hb, e, _⟩ := DataW.trod_string Try.underlying9 h2
      simp only [List.cons.injEq, and_true] at hb
      simp only [Prod.mk.injEq] at e
      have := hw s.data.toList.length (weights_slice (m := m) Try.underlying22 hi (by rw [e.1]; simp [DataW.weights]) rfl)
      exact ⟨s, reach_le (by simpa using this), by rw [h1, hb]⟩
    obtain ⟨f, hf⟩ := choose_lt hV
    obtain ⟨b, off, spot⟩ := a
    have hspot : spot = none := by simpa [Addr.add] using World.cell?_spot (hf 0 (by omega)).2
    subst hspot
    have hbW : b < W.heap.size := hlt (.cell b off) (List.mem_append_left _ (MemPlace.mem_row.2 ⟨0, by omega, by simp⟩))
    refine ⟨some ⟨b, off, none⟩, (List.range len).map f, m, by simp [hcs], ⟨fun x hx => ?_, .inr ⟨b, off, m, by simp, hbW, fun i u hu => ?_⟩⟩, by simpa using hl, hcap, (fun e => by cases e)⟩
    · obtain ⟨i, hi, rfl⟩ := List.mem_map.1 hx
      exact (hf i (List.mem_range.1 hi)).1
    · rw [List.getElem?_map] at hu
      have hi : i < len := by
        by_cases hi : i < len
        · exact hi
        · rw [List.getElem?_eq_none (by simp; omega)] at hu; cases hu
      rw [List.getElem?_range hi] at hu
      simp only [Option.map_some, Option.some.injEq] at hu
      rw [← hu, ← add_plain]
      exact (hf i hi).2
set_option maxRecDepth 100000 in
theorem stp_of_cells {fuel : Nat} {cs : List Value} {x : DataW H × List MemPlace} (h : DataW.trod enc Try.prog W 0 (fun _ => true) true fuel 39 cs = some x) (hw : ∀ n ∈ x.1.weights Try.prog 39, n ≤ reachBytes) : ∃ (s : Stp) (ob : Option Addr) (cb : Nat), cs = [.int .i64 s.at_, .slice ob s.sides.length cb] ∧ StrsV W (.slice ob s.sides.length cb) s.sides ∧ s.sides.length ≤ cb ∧ cb ≤ 140737488355328 ∧ (ob = none → cb = 0) := by
  obtain ⟨xs, n, _, rfl, hl, hlen, hf⟩ := DataW.trod_struct Try.underlying39 h
  have h2 : Try.prog.cellsOf 39 = 2 := by kernel_rfl
  have h1s : Try.prog.cellsOf 22 = 1 := by kernel_rfl
  rw [h2] at hl
  match xs, hlen with
  | [y0, y1], _ =>
  match cs, hl with
  | [d0, d1], _ =>
  have g : ∀ (i t o : Nat) (f : Field) (d : Value) (y : DataW H × List MemPlace), (match Try.prog.underlying 39 with | some (.struct fs) => fs[i]? | _ => none) = some f → f.type = t → f.offset = o → Try.prog.cellsOf t = 1 → (([d0, d1] : List Value).drop o).take 1 = [d] → ([y0, y1] : List (DataW H × List MemPlace))[i]? = some y → DataW.trod enc Try.prog W 0 (fun _ => true) true n t [d] = some y := fun i t o f d y h0 h1 h2 h3 h4 h5 => by
    rw [Try.underlying39] at h0
    have := hf i f h0
    rw [h1, h2, h3, h4, h5] at this
    exact this
  have f0 := g 0 3 0 _ d0 y0 (by rw [Try.underlying39]; rfl) rfl rfl cells_num rfl rfl
  have f1 := g 1 22 1 _ d1 y1 (by rw [Try.underlying39]; rfl) rfl rfl h1s rfl rfl
  obtain ⟨k, hk, _, wk⟩ := DataW.trod_int Try.underlying3 f0
  obtain ⟨ob, l, cb, e1, e2, e3, e4, e5⟩ := strs_of_cells f1 fun m hm => hw m (by
    simp only [DataW.weights, Try.underlying39]
    exact DataW.weights_mem_each (j := 1) (t := 22) rfl rfl m hm)
  simp only [List.cons.injEq, and_true] at hk e1
  subst hk e1
  exact ⟨⟨k, l⟩, ob, cb, rfl, e2, e3, e4, e5⟩
theorem step_in {W : World} {b o : Nat} {s : Stp} {ob : Option Addr} {cb : Nat} (c0 : W.cell? ⟨b, o, none⟩ = some (.int .i64 s.at_)) (c1 : W.cell? ⟨b, o + 1, none⟩ = some (.slice ob s.sides.length cb)) (h : StrsV W (.slice ob s.sides.length cb) s.sides) (h3 : s.sides.length ≤ cb) (h4 : cb ≤ 140737488355328) (h5 : ob = none → cb = 0) : StepIn W (fun _ => False) b o s := by
  refine ⟨c0, ob, cb, c1, h3, h4, h5, fun i x hx => ?_⟩
  obtain ⟨g, o2, e1, e2, e3⟩ := h.get (Nat.lt_of_le_of_lt (Nat.zero_le i) (List.getElem?_eq_some_iff.1 hx).1)
  exact ⟨g, o2, e1, e2, fun h => h, e3 i x hx⟩
set_option maxRecDepth 100000 in
theorem steps_of_cells {fuel : Nat} {cs : List Value} {x : DataW H × List MemPlace} (h : DataW.trod enc Try.prog W 0 (fun _ => true) true fuel 28 cs = some x) (hw : ∀ n ∈ x.1.weights Try.prog 28, n ≤ reachBytes) : ∃ (v : Value) (p : List Stp), cs = [v] ∧ StepsV W v p := by
  have hlt := DataW.trod_lt fuel _ _ _ h
  have h2 : Try.prog.cellsOf 39 = 2 := by kernel_rfl
  rcases open_slice Try.underlying28 h with ⟨hcs, hx⟩ | ⟨a, len, cap, m, n, D, Pl, hcs, _, hl, hm, hmm, hx0, hx⟩
  · exact ⟨_, [], hcs, .inl ⟨none, 0, rfl, rfl⟩⟩
  · simp only [if_true] at hmm
    subst hx0 hmm
    have hcap : m ≤ 140737488355328 := by
      have := hw ((len + (m - len)) * 32) (by
        simp only [DataW.weights, Try.underlying28, bytes_stp, List.length_map, List.length_range]
        exact List.mem_cons_self)
      have h2 := reach_le this
      omega
    by_cases h0 : len = 0
    · subst h0
      exact ⟨_, [], hcs, .inl ⟨_, _, rfl, rfl⟩⟩
    rw [h2] at hx
    obtain ⟨b, off, spot⟩ := a
    have hsp : spot = none := by
      obtain ⟨cs', h1, h2⟩ := hx 0 (by omega)
      obtain ⟨_, hlen, hc⟩ := World.cells?_some h1
      have := hc 0 (by omega)
      rw [List.getElem?_eq_getElem (by omega)] at this
      simpa [Addr.add] using World.cell?_spot this
    subst hsp
    have hV : ∀ i, i < len → ∃ s : Stp, StepIn W (fun _ => False) b (off + i * 2) s := fun i hi => by
      obtain ⟨cs', h1, h2⟩ := hx i (by omega)
      obtain ⟨_, hlen, hc⟩ := World.cells?_some h1
      obtain ⟨s, ob, cb, rfl, e2, e3, e4, e5⟩ := stp_of_cells h2 (fun k hk => hw k (weights_slice (m := m) Try.underlying28 hi hk rfl))
      have g : ∀ c, c < 2 → W.cell? ⟨b, off + i * 2 + c, none⟩ = ([.int .i64 s.at_, .slice ob s.sides.length cb] : List Value)[c]? := fun c hc6 => by
        rw [← hc c hc6, add_plain, add_plain]
      exact ⟨s, step_in (g 0 (by omega)) (g 1 (by omega)) e2 e3 e4 e5⟩
    obtain ⟨f, hf⟩ := choose_lt hV
    have hbW : b < W.heap.size := hlt (.cell b off) (List.mem_append_left _ (MemPlace.mem_row.2 ⟨0, (by rw [h2]; omega), by simp⟩))
    refine ⟨_, (List.range len).map f, hcs, .inr ⟨b, off, m, by simp, hbW, (by rw [List.length_map, List.length_range]; omega), fun i u hu => ?_⟩⟩
    rw [List.getElem?_map] at hu
    have hi : i < len := by
      by_cases hi : i < len
      · exact hi
      · rw [List.getElem?_eq_none (by simp; omega)] at hu; cases hu
    rw [List.getElem?_range hi] at hu
    simp only [Option.map_some, Option.some.injEq] at hu
    rw [← hu]
    exact hf i hi
end
theorem StepsV.form {W : World} {v : Value} {p : List Stp} (h : StepsV W v p) : ∃ oa cap, v = .slice oa p.length cap := by
  rcases h with ⟨oa, cap, rfl, rfl⟩ | ⟨g, o, cap, rfl, _⟩
  · exact ⟨_, _, rfl⟩
  · exact ⟨_, _, rfl⟩
theorem StepIn.weaken {W : World} {G : Nat → Prop} {b o : Nat} {s : Stp} (h : StepIn W (fun _ => False) b o s) (hG : ∀ k, k < W.heap.size → ¬ G k) : StepIn W G b o s := by
  obtain ⟨h1, ob, cb, h2, h3, h4, h5, h6⟩ := h
  refine ⟨h1, ob, cb, h2, h3, h4, h5, fun i x hx => ?_⟩
  obtain ⟨b2, o2, e1, e2, _, e4⟩ := h6 i x hx
  exact ⟨b2, o2, e1, e2, hG b2 e2, e4⟩
theorem StepsV.pathIn {W : World} {oa : Option Addr} {cap : Nat} {p : List Stp} (h : StepsV W (.slice oa p.length cap) p) {G : Nat → Prop} (hG : ∀ k, k < W.heap.size → ¬ G k) : PathIn W G oa p := fun k s hs => by
  rcases h with ⟨oa', cap', e, e2⟩ | ⟨g, o, cap', e, hg, _, hx⟩
  · rw [e2] at hs; simp at hs
  · cases e
    exact ⟨g, o, rfl, hg, hG g hg, (hx k s hs).weaken hG⟩
end Go.Proofs.Ytmmgpidmeeabeaa
