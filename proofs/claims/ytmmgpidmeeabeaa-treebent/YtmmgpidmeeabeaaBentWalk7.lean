/- The law TreeBent, called with any texts and any question, returns true, and changes nothing that was there. -/
import Derived.Test.YtmmgpidmeeabeaaShownWalk7
import Derived.Test.YtmmgpidmeeabeaaTrArgs
namespace Go.Proofs.Ytmmgpidmeeabeaa
set_option maxRecDepth 20000
open Go.ChangeShapes Go.WideShapes Go.RowKit Go.Deep

structure BendV where
  vL : Value
  L : List ByteArray
  I : Int
  S : ByteArray
  vP : Value
  P : List Stp
  At : Int
  N : Int
  Pl : Int
def BendV.arr (x : BendV) : Array Value := #[x.vL, .int .i64 x.I, .string x.S, x.vP, .int .i64 x.At, .int .i64 x.N, .int .i64 x.Pl]
def BendV.Ok (W : World) (x : BendV) : Prop := StrsV W x.vL x.L ∧ StepsV W x.vP x.P
set_option maxRecDepth 100000 in
theorem bend_of_trod {H : Type} {enc : TypeId × Value → H} {W : World} {v : Value} {d : DataW H} {p : List MemPlace} {base : Nat} (hok : Value.okWide Try.prog W .any base 37 v) (h : DataW.Trod enc Try.prog W 0 (fun _ => true) true 37 v d p) (hw : ∀ n ∈ d.weights Try.prog 37, n ≤ reachBytes) : ∃ x : BendV, x.Ok W ∧ v = .agg x.arr := by
  obtain ⟨cs, rfl, _⟩ := okWide_struct Try.underlying37 hok
  obtain ⟨fuel, hf⟩ := h
  obtain ⟨xs, n, _, hdd, hl, hlen, hf⟩ := DataW.trod_struct Try.underlying37 hf
  have h7 : Try.prog.cellsOf 37 = 7 := by kernel_rfl
  have h1s : Try.prog.cellsOf 22 = 1 := by kernel_rfl
  have h1p : Try.prog.cellsOf 28 = 1 := by kernel_rfl
  have hcs : (Value.agg cs).cells.toList = cs.toList := rfl
  rw [h7, hcs] at hl
  rw [hcs] at hf
  obtain ⟨ls⟩ := cs
  match xs, hlen with
  | [y0, y1, y2, y3, y4, y5, y6], _ =>
  match ls, hl with
  | [d0, d1, d2, d3, d4, d5, d6], _ =>
  have g : ∀ (i t o : Nat) (f : Field) (d : Value) (y : DataW H × List MemPlace), (match Try.prog.underlying 37 with | some (.struct fs) => fs[i]? | _ => none) = some f → f.type = t → f.offset = o → Try.prog.cellsOf t = 1 → (([d0, d1, d2, d3, d4, d5, d6] : List Value).drop o).take 1 = [d] → ([y0, y1, y2, y3, y4, y5, y6] : List (DataW H × List MemPlace))[i]? = some y → DataW.trod enc Try.prog W 0 (fun _ => true) true n t [d] = some y := fun i t o f d y h0 h1 h2 h3 h4 h5 => by
    rw [Try.underlying37] at h0
    have := hf i f h0
    rw [h1, h2, h3, h5] at this
    rw [← this]
    exact congrArg (DataW.trod enc Try.prog W 0 (fun _ => true) true n t) h4.symm
  have f0 := g 0 22 0 _ d0 y0 (by rw [Try.underlying37]; rfl) rfl rfl h1s rfl rfl
  have f1 := g 1 3 1 _ d1 y1 (by rw [Try.underlying37]; rfl) rfl rfl cells_num rfl rfl
  have f2 := g 2 9 2 _ d2 y2 (by rw [Try.underlying37]; rfl) rfl rfl cells_str rfl rfl
  have f3 := g 3 28 3 _ d3 y3 (by rw [Try.underlying37]; rfl) rfl rfl h1p rfl rfl
  have f4 := g 4 3 4 _ d4 y4 (by rw [Try.underlying37]; rfl) rfl rfl cells_num rfl rfl
  have f5 := g 5 3 5 _ d5 y5 (by rw [Try.underlying37]; rfl) rfl rfl cells_num rfl rfl
  have f6 := g 6 3 6 _ d6 y6 (by rw [Try.underlying37]; rfl) rfl rfl cells_num rfl rfl
  have hdw : d = .agg [y0.1, y1.1, y2.1, y3.1, y4.1, y5.1, y6.1] := by
    have := congrArg Prod.fst hdd
    simpa using this
  have hwe : ∀ (j t : Nat) (dd : DataW H), ((match Try.prog.underlying 37 with | some (.struct fs) => fs.toList.map (·.type) | _ => []) : List TypeId)[j]? = some t → ([y0.1, y1.1, y2.1, y3.1, y4.1, y5.1, y6.1] : List (DataW H))[j]? = some dd → ∀ m ∈ dd.weights Try.prog t, m ≤ reachBytes := fun j t dd h1 h2 m hm => hw m (by
    rw [hdw]
    rw [Try.underlying37] at h1
    simp only [DataW.weights, Try.underlying37]
    exact DataW.weights_mem_each h1 h2 m hm)
  obtain ⟨oL, L, cL, e0, sL, _⟩ := strs_of_cells f0 (hwe 0 22 _ (by rw [Try.underlying37]; rfl) rfl)
  obtain ⟨I, e1, _, _⟩ := DataW.trod_int Try.underlying3 f1
  obtain ⟨S, e2, _, _⟩ := DataW.trod_string Try.underlying9 f2
  obtain ⟨vP, P, e3, sP⟩ := steps_of_cells f3 (hwe 3 28 _ (by rw [Try.underlying37]; rfl) rfl)
  obtain ⟨At, e4, _, _⟩ := DataW.trod_int Try.underlying3 f4
  obtain ⟨Nn, e5, _, _⟩ := DataW.trod_int Try.underlying3 f5
  obtain ⟨Pl, e6, _, _⟩ := DataW.trod_int Try.underlying3 f6
  simp only [List.cons.injEq, and_true] at e0 e1 e2 e3 e4 e5 e6
  subst e0 e1 e2 e3 e4 e5 e6
  exact ⟨⟨_, L, I, S, _, P, At, Nn, Pl⟩, ⟨sL, sP⟩, rfl⟩
theorem StrsV.later {W W' : World} {v : Value} {l : List ByteArray} (h : StrsV W v l) (hb : Below W.heap.size W W') : StrsV W' v l := by
  obtain ⟨h1, h2⟩ := h
  exact ⟨h1, h2.imp id fun ⟨g, o, cap, e, hg, hc⟩ => ⟨g, o, cap, e, Nat.lt_of_lt_of_le hg hb.size, fun i x hx => (hb.cell (p := ⟨g, o + i, none⟩) hg).trans (hc i x hx)⟩⟩
/-- What a true answer of Check says of a tree's root. -/
theorem bent_chk {S S' : VS} {l : List ByteArray} {N i : Int} {s : ByteArray} {p : List Stp} (hl : l.length ≤ 200) (tin : TreeInK (idealK.D S) (idealK.h S) l (hgt l.length)) (d : idealK.D S (rootT l.length (topS (idealK.h S) l))) (hx : idealK.ext S S') (hn : idealK.n S' ≤ 2000000) (hc : okB (idealK.h S (rootT l.length (topS (idealK.h S) l))) N i p = true → ClimbIn (idealK.D S') (idealK.h S') s p ∧ idealK.D S' (rootT N.toNat (climb (idealK.h S') (idealK.h S' (leafT s)) p))) (h : chkB (idealK.h S') (idealK.h S (rootT l.length (topS (idealK.h S) l))) N i s p = true) : ∃ k : Nat, N = (l.length : Nat) ∧ i = (k : Nat) ∧ k < l.length ∧ l[k]? = some s := by
  unfold chkB at h
  rw [Bool.and_eq_true, decide_eq_true_eq] at h
  obtain ⟨hok, he⟩ := h
  obtain ⟨c1, c2⟩ := hc hok
  unfold okB at hok
  simp only [Bool.and_eq_true, Bool.not_eq_true', decide_eq_true_eq] at hok
  obtain ⟨_, k1, k2, k3, k4⟩ := hok
  have t1 : TreeIn (idealK.D S) (idealK.h S) l := tin
  have e1 : topS (idealK.h S') l = topS (idealK.h S) l := top_same t1 fun x hx' => (hx x hx').2
  obtain ⟨d1, d2⟩ := hx _ d
  rw [← d2] at he
  obtain ⟨r1, r2⟩ := rootT_inj (by omega) (by omega) (ideal_inj S' hn _ _ c2 d1 he)
  rw [← e1] at r2
  refine ⟨i.toNat, by omega, by omega, by omega, ?_⟩
  rw [r1] at k4
  exact bent_top (t1.mono hx) c1 (fun x hx' => idealOk.size S' x hx' hn) (fun x y h1 h2 e => ideal_inj S' hn x y h1 h2 e) (by omega) (leadB_iff.1 k4) r2
end Go.Proofs.Ytmmgpidmeeabeaa
