/- The real vault as one that hashes, and the document's. · What came in: paths, and what TreeBent asks. -/
import Derived.Test.YtgokehbdappcdaaDoorMg15
import Derived.Test.YtgokehbdappcdaaDoorMg10
import Derived.Test.YtgokehbdappcdaaDoorMg23
import Derived.Test.YtgokehbdappcdaaDoorMg40
import Derived.Test.YtgokehbdappcdaaDoorMg34
import Derived.Test.YtgokehbdappcdaaDoorMg44
import Derived.Test.YtgokehbdappcdaaDoorMg47
import Derived.Test.YtgokehbdappcdaaDoorMg16
import Derived.Test.YtgokehbdappcdaaDoorMg13
namespace Go.Proofs.YtgokehbdappcdaaDoor
set_option maxRecDepth 20000
open Go.RowKit

def TabT (w : World) : Prop := Sm.First w ∧ Sm.Cubes w
def realH (x : ByteArray) : ByteArray := Sm.shaS (Sm.numsOf x)
theorem realH_size (x : ByteArray) : (realH x).size = 32 := by
  unfold realH Sm.shaS
  rw [strOfNums_size, List.length_map, Sm.shaL_length]
theorem TabT.below {w w' : World} (h : TabT w) (hb : Below w.heap.size w w') : TabT w' := ⟨h.1.below hb h.1.1, h.2.below hb h.2.1⟩
theorem thash_in (N : Nat) (s : ByteArray) (hs : s.size ≤ 1048576) (w : World) (ht : TabT w) :
    Calls Tryd.prog 98 #[.pointer (some ⟨N, 0, none⟩), .string s] w fun e w' => e = .returned (.string (realH s)) ∧ Below w.heap.size w w' := by
  have h := Sm.sum_any s (by omega) w ht.1 ht.2
  rw [show Sm.shaS (Sm.numsOf s) = realH s from rfl] at h
  generalize realH s = x at *
  clear ht hs
  go_enter Tryd.func98, Tryd.ntmps98
  go_wp2_with fail
  refine h.mono ?_
  rintro e w1 ⟨rfl, hb⟩
  clear h
  go_wp2
  go_ret
  exact ⟨rfl, hb⟩
theorem thash_any (B : Nat) (key s : ByteArray) (hs : s.size ≤ 1048576) (w : World) (ht : TabT w) (hp : RealV w B key) :
    Calls Tryd.prog 35 #[.pointer (some ⟨B, 0, none⟩), .string s] w fun e w' => e = .returned (.string (realH s)) ∧ Below w.heap.size w w' := by
  obtain ⟨N, r1, r2⟩ := hp
  have c0 : w.cell? ⟨B, 0, none⟩ = some (.iface 71 (.pointer (some ⟨N, 0, none⟩))) := r1.cell 0
  have hg := given_any B _ _ w c0
  have hn := thash_in N s hs w ht
  have hm : ∀ w : World, (method 280 71 (.pointer (some ⟨N, 0, none⟩)) "grapnel/vault.hash").run Tryd.prog w = .ok (98, .pointer (some ⟨N, 0, none⟩)) w := fun _ => by kernel_rfl
  generalize realH s = u at *
  clear ht hs r1 r2
  go_enter Tryd.func35, Tryd.ntmps35
  go_wp2_with fail
  refine hg.mono ?_
  rintro e w1 ⟨rfl, rfl⟩
  clear hg
  go_wp2_with fail
  refine hn.mono ?_
  rintro e w2 ⟨rfl, h1⟩
  have HF : Hid _ := h1
  clear h1 hn
  go_wp2
  go_ret
  exact ⟨rfl, HF.out⟩
theorem trhash_any (B : Nat) (key s : ByteArray) (hs : s.size ≤ 1048576) (w : World) (hr : RefR w B key) :
    Calls Tryd.prog 31 #[.pointer (some ⟨B, 0, none⟩), .string s] w fun e w' => e = .returned (.string (realH s)) ∧ Below w.heap.size w w' := by
  have h := Sm.rsum_any s (by omega) w
  rw [show Sm.shaS (Sm.numsOf s) = realH s from rfl] at h
  have c : w.cell? ⟨B, 0, none⟩ = some (.bool false) := Row.cell hr 0
  generalize realH s = x at *
  clear hs hr
  go_enter Tryd.func31, Tryd.ntmps31
  go_wp2_with fail
  refine h.mono ?_
  rintro e w1 ⟨rfl, hb⟩
  have HB : Hid _ := hb
  clear h c hb
  go_wp2
  go_ret
  exact ⟨rfl, HB.out⟩
theorem realRV (B : Nat) (key : ByteArray) : RV (fun w => RefR w B key) realH B := ⟨fun h hb => h.keep hb, fun s hs w hr => trhash_any B key s hs w hr⟩
def realK : HK ByteArray := ⟨fun w F _ B key => (∃ N, Row w B 77 [.iface 71 (.pointer (some ⟨N, 0, none⟩))] ∧ Row w N 73 [.string key] ∧ F B ∧ F N) ∧ TabT w ∧ F 0 ∧ F 1, fun _ x => realH x, fun _ _ => True, fun _ => 0⟩
theorem some_block {w : World} {k : Nat} (h : k < w.heap.size) : ∃ o, w.heap[k]? = some o := ⟨_, Array.getElem?_eq_getElem h⟩
theorem realK_keep {w w' : World} {F G : Nat → Prop} {B : Nat} {key : ByteArray} (v : realK.V w F G B key) (hk : ∀ k, k < w.heap.size → F k → w'.heap[k]? = w.heap[k]?) : realK.V w' F G B key := by
  obtain ⟨⟨N, r1, r2, fB, fN⟩, ⟨t1, t2⟩, f0, f1⟩ := v
  have e0 := hk 0 t1.1 f0
  have e1 := hk 1 t2.1 f1
  obtain ⟨o0, ho0⟩ := some_block t1.1
  obtain ⟨o1, ho1⟩ := some_block t2.1
  exact ⟨⟨N, (hk B (Row.lt r1) fB).trans r1, (hk N (Row.lt r2) fN).trans r2, fB, fN⟩, ⟨⟨lt_of_block (e0.trans ho0), fun i hi => (World.cell?_of_block (a := ⟨0, i, none⟩) e0).trans (t1.2 i hi)⟩, ⟨lt_of_block (e1.trans ho1), fun i hi => (World.cell?_of_block (a := ⟨1, i, none⟩) e1).trans (t2.2 i hi)⟩⟩, f0, f1⟩
theorem realOk : HKOk realK where
  keep := realK_keep
  call := fun w F G B S x hx _ v => by
    have v' := v
    obtain ⟨⟨N, r1, r2, fB, fN⟩, ht, f0, f1⟩ := v
    refine (thash_any B S x hx w ht ⟨N, r1, r2⟩).mono fun e w' ⟨he, hb⟩ => ?_
    exact ⟨S, he, realK_keep v' fun k hk _ => hb.block k hk, Touch.of_below hb, HK.ext_refl _ _, trivial, Nat.zero_le _⟩
  size := fun _ x _ _ => realH_size x
set_option maxHeartbeats 1000000 in
/-- The laws' two vaults. -/
theorem treal_any (w : World) (ht : TabT w) : Calls Tryd.prog 6 #[] w fun e w' => (∃ B1 B2 key, e = .returned (.tuple #[.pointer (some ⟨B1, 0, none⟩), .pointer (some ⟨B2, 0, none⟩)]) ∧ RealV w' B1 key ∧ RefR w' B2 key) ∧ Below w.heap.size w w' := by
  have h1 := real_yes (pass := ⟨#[112]⟩) (salt := ⟨#[115]⟩) (rounds := 1) w (Sm.Stretch_in ⟨#[112]⟩ ⟨#[115]⟩ 1 32 (by decide) (by decide) (by decide) (by decide) (by decide) w ht.1 ht.2)
  have h2 := fun w' => rreal_yes (pass := ⟨#[112]⟩) (salt := ⟨#[115]⟩) (rounds := 1) w' (Sm.rStretch_in ⟨#[112]⟩ ⟨#[115]⟩ 1 32 (by decide) (by decide) (by decide) (by decide) (by decide) w')
  generalize Sm.strS ⟨#[112]⟩ ⟨#[115]⟩ 1 32 = X at *
  clear ht
  go_enter Tryd.func6, Tryd.ntmps6
  go_wp2_with fail
  refine h1.mono ?_
  rintro e w1 ⟨B1, rfl, hv1, hb1⟩
  clear h1
  have HV : Hid (RealV w1 B1 X ∧ Below w.heap.size w w1) := ⟨hv1, hb1⟩
  clear hv1 hb1
  go_wp2_with fail
  refine (h2 _).mono ?_
  rintro e w2 ⟨B2, rfl, hv2, hb2⟩
  clear h2
  have HF : Hid (RealV w2 B1 X ∧ RefR w2 B2 X ∧ Below w.heap.size w w2) := ⟨HV.out.1.below hb2, hv2, HV.out.2.trans (hb2.mono HV.out.2.size)⟩
  clear hv2 hb2 HV
  go_wp2
  go_ret2
  exact ⟨⟨B1, B2, X, rfl, HF.out.1, HF.out.2.1⟩, HF.out.2.2⟩
end Go.Proofs.YtgokehbdappcdaaDoor

namespace Go.Proofs.YtgokehbdappcdaaDoor
set_option maxRecDepth 20000
open Go.ChangeShapes Go.WideShapes Go.RowKit Go.Deep

/-- A path that came in. -/
def StepsV (W : World) (v : Value) (p : List Stp) : Prop := (∃ oa cap, v = .slice oa 0 cap ∧ p = []) ∨ ∃ g o cap, v = .slice (some ⟨g, o, none⟩) p.length cap ∧ g < W.heap.size ∧ p.length ≤ 140737488355328 ∧ ∀ (k : Nat) (s : Stp), p[k]? = some s → StepIn W (fun _ => False) g (o + k * 2) s
section
variable {H : Type} {enc : TypeId × Value → H} {W : World}
theorem bytes_str : Tryd.prog.bytesOf 9 = 16 := by kernel_rfl
theorem bytes_stp : Tryd.prog.bytesOf 41 = 32 := by kernel_rfl
set_option maxRecDepth 100000 in
theorem strs_of_cells {fuel : Nat} {cs : List Value} {x : DataW H × List MemPlace} (h : DataW.trod enc Tryd.prog W 0 (fun _ => true) true fuel 22 cs = some x) (hw : ∀ n ∈ x.1.weights Tryd.prog 22, n ≤ reachBytes) : ∃ (ob : Option Addr) (l : List ByteArray) (cb : Nat), cs = [.slice ob l.length cb] ∧ StrsV W (.slice ob l.length cb) l ∧ l.length ≤ cb ∧ cb ≤ 140737488355328 ∧ (ob = none → cb = 0) := by
  have hlt := DataW.trod_lt fuel _ _ _ h
  rcases open_slice1 Tryd.underlying22 cells_str h with ⟨hcs, hx⟩ | ⟨a, len, cap, m, n, V, D, Pl, hcs, _, hl, hm, hmm, hx0, hx⟩
  · exact ⟨none, [], 0, hcs, ⟨by simp, .inl ⟨none, 0, rfl, rfl⟩⟩, Nat.le_refl _, by decide, fun _ => rfl⟩
  · simp only [if_true] at hmm
    subst hx0 hmm
    have hcap : m ≤ 140737488355328 := by
      have := hw ((len + (m - len)) * 16) (by
        simp only [DataW.weights, Tryd.underlying22, bytes_str, List.length_map, List.length_range]
        exact List.mem_cons_self)
      have h2 := reach_le this
      omega
    by_cases h0 : len = 0
    · subst h0
      exact ⟨some a, [], m, hcs, ⟨by simp, .inl ⟨_, _, rfl, rfl⟩⟩, Nat.zero_le _, hcap, (fun e => by cases e)⟩
    have hV : ∀ i, i < len → ∃ s : ByteArray, s.size ≤ 140737488355328 ∧ W.cell? (a.add i) = some (.string s) := fun i hi => by
      obtain ⟨h1, h2⟩ := hx i (by omega)
      obtain ⟨s, hb, e, _⟩ := DataW.trod_string Tryd.underlying9 h2
      simp only [List.cons.injEq, and_true] at hb
      simp only [Prod.mk.injEq] at e
      have := hw s.data.toList.length (weights_slice (m := m) Tryd.underlying22 hi (by rw [e.1]; simp [DataW.weights]) rfl)
      exact ⟨s, reach_le (by simpa using this), by rw [h1, hb]⟩
    obtain ⟨f, hf⟩ := choose_lt hV
    obtain ⟨b, off, spot⟩ := a
    have hspot : spot = none := by simpa [Addr.add] using World.cell?_spot (hf 0 (by omega)).2
    subst hspot
    have hbW : b < W.heap.size := hlt (.cell b off) (List.mem_append_left _ (MemPlace.mem_row.2 ⟨0, by omega, by simp⟩))
    refine ⟨some ⟨b, off, none⟩, (List.range len).map f, m, by simp [hcs], ⟨fun x hx => ?_, .inr ⟨b, off, m, by simp, hbW, fun i u hu => ?_⟩⟩, by simpa using hl, hcap, (fun e => by cases e)⟩
    · obtain ⟨i, hi, rfl⟩ := List.mem_map.1 hx
      exact (hf i (List.mem_range.1 hi)).1
    · rw [List.getElem?_map] at hu
      have hi : i < len := by
        by_cases hi : i < len
        · exact hi
        · rw [List.getElem?_eq_none (by simp; omega)] at hu; cases hu
      rw [List.getElem?_range hi] at hu
      simp only [Option.map_some, Option.some.injEq] at hu
      rw [← hu, ← add_plain]
      exact (hf i hi).2
set_option maxRecDepth 100000 in
theorem stp_of_cells {fuel : Nat} {cs : List Value} {x : DataW H × List MemPlace} (h : DataW.trod enc Tryd.prog W 0 (fun _ => true) true fuel 41 cs = some x) (hw : ∀ n ∈ x.1.weights Tryd.prog 41, n ≤ reachBytes) : ∃ (s : Stp) (ob : Option Addr) (cb : Nat), cs = [.int .i64 s.at_, .slice ob s.sides.length cb] ∧ StrsV W (.slice ob s.sides.length cb) s.sides ∧ s.sides.length ≤ cb ∧ cb ≤ 140737488355328 ∧ (ob = none → cb = 0) := by
  obtain ⟨xs, n, _, rfl, hl, hlen, hf⟩ := DataW.trod_struct Tryd.underlying41 h
  have h2 : Tryd.prog.cellsOf 41 = 2 := by kernel_rfl
  have h1s : Tryd.prog.cellsOf 22 = 1 := by kernel_rfl
  rw [h2] at hl
  match xs, hlen with
  | [y0, y1], _ =>
  match cs, hl with
  | [d0, d1], _ =>
  have g : ∀ (i t o : Nat) (f : Field) (d : Value) (y : DataW H × List MemPlace), (match Tryd.prog.underlying 41 with | some (.struct fs) => fs[i]? | _ => none) = some f → f.type = t → f.offset = o → Tryd.prog.cellsOf t = 1 → (([d0, d1] : List Value).drop o).take 1 = [d] → ([y0, y1] : List (DataW H × List MemPlace))[i]? = some y → DataW.trod enc Tryd.prog W 0 (fun _ => true) true n t [d] = some y := fun i t o f d y h0 h1 h2 h3 h4 h5 => by
    rw [Tryd.underlying41] at h0
    have := hf i f h0
    rw [h1, h2, h3, h4, h5] at this
    exact this
  have f0 := g 0 3 0 _ d0 y0 (by rw [Tryd.underlying41]; rfl) rfl rfl cells_num rfl rfl
  have f1 := g 1 22 1 _ d1 y1 (by rw [Tryd.underlying41]; rfl) rfl rfl h1s rfl rfl
  obtain ⟨k, hk, _, wk⟩ := DataW.trod_int Tryd.underlying3 f0
  obtain ⟨ob, l, cb, e1, e2, e3, e4, e5⟩ := strs_of_cells f1 fun m hm => hw m (by
    simp only [DataW.weights, Tryd.underlying41]
    exact DataW.weights_mem_each (j := 1) (t := 22) rfl rfl m hm)
  simp only [List.cons.injEq, and_true] at hk e1
  subst hk e1
  exact ⟨⟨k, l⟩, ob, cb, rfl, e2, e3, e4, e5⟩
theorem step_in {W : World} {b o : Nat} {s : Stp} {ob : Option Addr} {cb : Nat} (c0 : W.cell? ⟨b, o, none⟩ = some (.int .i64 s.at_)) (c1 : W.cell? ⟨b, o + 1, none⟩ = some (.slice ob s.sides.length cb)) (h : StrsV W (.slice ob s.sides.length cb) s.sides) (h3 : s.sides.length ≤ cb) (h4 : cb ≤ 140737488355328) (h5 : ob = none → cb = 0) : StepIn W (fun _ => False) b o s := by
  refine ⟨c0, ob, cb, c1, h3, h4, h5, fun i x hx => ?_⟩
  obtain ⟨g, o2, e1, e2, e3⟩ := h.get (Nat.lt_of_le_of_lt (Nat.zero_le i) (List.getElem?_eq_some_iff.1 hx).1)
  exact ⟨g, o2, e1, e2, fun h => h, e3 i x hx⟩
set_option maxRecDepth 100000 in
theorem steps_of_cells {fuel : Nat} {cs : List Value} {x : DataW H × List MemPlace} (h : DataW.trod enc Tryd.prog W 0 (fun _ => true) true fuel 39 cs = some x) (hw : ∀ n ∈ x.1.weights Tryd.prog 39, n ≤ reachBytes) : ∃ (v : Value) (p : List Stp), cs = [v] ∧ StepsV W v p := by
  have hlt := DataW.trod_lt fuel _ _ _ h
  have h2 : Tryd.prog.cellsOf 41 = 2 := by kernel_rfl
  rcases open_slice Tryd.underlying39 h with ⟨hcs, hx⟩ | ⟨a, len, cap, m, n, D, Pl, hcs, _, hl, hm, hmm, hx0, hx⟩
  · exact ⟨_, [], hcs, .inl ⟨none, 0, rfl, rfl⟩⟩
  · simp only [if_true] at hmm
    subst hx0 hmm
    have hcap : m ≤ 140737488355328 := by
      have := hw ((len + (m - len)) * 32) (by
        simp only [DataW.weights, Tryd.underlying39, bytes_stp, List.length_map, List.length_range]
        exact List.mem_cons_self)
      have h2 := reach_le this
      omega
    by_cases h0 : len = 0
    · subst h0
      exact ⟨_, [], hcs, .inl ⟨_, _, rfl, rfl⟩⟩
    rw [h2] at hx
    obtain ⟨b, off, spot⟩ := a
    have hsp : spot = none := by
      obtain ⟨cs', h1, h2⟩ := hx 0 (by omega)
      obtain ⟨_, hlen, hc⟩ := World.cells?_some h1
      have := hc 0 (by omega)
      rw [List.getElem?_eq_getElem (by omega)] at this
      simpa [Addr.add] using World.cell?_spot this
    subst hsp
    have hV : ∀ i, i < len → ∃ s : Stp, StepIn W (fun _ => False) b (off + i * 2) s := fun i hi => by
      obtain ⟨cs', h1, h2⟩ := hx i (by omega)
      obtain ⟨_, hlen, hc⟩ := World.cells?_some h1
      obtain ⟨s, ob, cb, rfl, e2, e3, e4, e5⟩ := stp_of_cells h2 (fun k hk => hw k (weights_slice (m := m) Tryd.underlying39 hi hk rfl))
      have g : ∀ c, c < 2 → W.cell? ⟨b, off + i * 2 + c, none⟩ = ([.int .i64 s.at_, .slice ob s.sides.length cb] : List Value)[c]? := fun c hc6 => by
        rw [← hc c hc6, add_plain, add_plain]
      exact ⟨s, step_in (g 0 (by omega)) (g 1 (by omega)) e2 e3 e4 e5⟩
    obtain ⟨f, hf⟩ := choose_lt hV
    have hbW : b < W.heap.size := hlt (.cell b off) (List.mem_append_left _ (MemPlace.mem_row.2 ⟨0, (by rw [h2]; omega), by simp⟩))
    refine ⟨_, (List.range len).map f, hcs, .inr ⟨b, off, m, by simp, hbW, (by rw [List.length_map, List.length_range]; omega), fun i u hu => ?_⟩⟩
    rw [List.getElem?_map] at hu
    have hi : i < len := by
      by_cases hi : i < len
      · exact hi
      · rw [List.getElem?_eq_none (by simp; omega)] at hu; cases hu
    rw [List.getElem?_range hi] at hu
    simp only [Option.map_some, Option.some.injEq] at hu
    rw [← hu]
    exact hf i hi
end
theorem StepsV.form {W : World} {v : Value} {p : List Stp} (h : StepsV W v p) : ∃ oa cap, v = .slice oa p.length cap := by
  rcases h with ⟨oa, cap, rfl, rfl⟩ | ⟨g, o, cap, rfl, _⟩
  · exact ⟨_, _, rfl⟩
  · exact ⟨_, _, rfl⟩
theorem StepIn.weaken {W : World} {G : Nat → Prop} {b o : Nat} {s : Stp} (h : StepIn W (fun _ => False) b o s) (hG : ∀ k, k < W.heap.size → ¬ G k) : StepIn W G b o s := by
  obtain ⟨h1, ob, cb, h2, h3, h4, h5, h6⟩ := h
  refine ⟨h1, ob, cb, h2, h3, h4, h5, fun i x hx => ?_⟩
  obtain ⟨b2, o2, e1, e2, _, e4⟩ := h6 i x hx
  exact ⟨b2, o2, e1, e2, hG b2 e2, e4⟩
theorem StepsV.pathIn {W : World} {oa : Option Addr} {cap : Nat} {p : List Stp} (h : StepsV W (.slice oa p.length cap) p) {G : Nat → Prop} (hG : ∀ k, k < W.heap.size → ¬ G k) : PathIn W G oa p := fun k s hs => by
  rcases h with ⟨oa', cap', e, e2⟩ | ⟨g, o, cap', e, hg, _, hx⟩
  · rw [e2] at hs; simp at hs
  · cases e
    exact ⟨g, o, rfl, hg, hG g hg, (hx k s hs).weaken hG⟩
end Go.Proofs.YtgokehbdappcdaaDoor
