/- Both devices, plate's and the document's, behind the same marks: the laws' both. -/
import Derived.Test.YtcmoagphbpjenaaGreatDoorMg16
import Derived.Test.YtcmoagphbpjenaaGreatDoorMg40
import Derived.Test.YtcmoagphbpjenaaGreatDoorMg44
namespace Go.Proofs.YtcmoagphbpjenaaGreatDoor
set_option maxRecDepth 20000
open Go.ChangeShapes Go.WideShapes Go.RowKit Go.Deep

structure MarkV where
  kind : Int
  at_ : Int
  v : Int
instance : Inhabited MarkV := ⟨⟨0, 0, 0⟩⟩
structure MarkV.Ok (x : MarkV) : Prop where
  kind : (Lit.int .i64 x.kind).wf = true
  at_ : (Lit.int .i64 x.at_).wf = true
  v : (Lit.int .u8 x.v).wf = true
def MarkV.cells (x : MarkV) : List Value := [.int .i64 x.kind, .int .i64 x.at_, .int .u8 x.v]
structure MarkVAt (W : World) (g o : Nat) (x : MarkV) : Prop where
  c0 : W.cell? ⟨g, o, none⟩ = some (.int .i64 x.kind)
  c1 : W.cell? ⟨g, o + 1, none⟩ = some (.int .i64 x.at_)
  c2 : W.cell? ⟨g, o + 2, none⟩ = some (.int .u8 x.v)
def MarkVs (W : World) (v : Value) (l : List MarkV) : Prop := (∃ oa cap, v = .slice oa 0 cap ∧ l = []) ∨ ∃ g o cap, v = .slice (some ⟨g, o, none⟩) l.length cap ∧ g < W.heap.size ∧ ∀ i x, l[i]? = some x → MarkVAt W g (o + i * 3) x
theorem MarkVs.form {W : World} {v : Value} {l : List MarkV} (h : MarkVs W v l) : ∃ oa cap, v = .slice oa l.length cap := by
  rcases h with ⟨oa, cap, rfl, rfl⟩ | ⟨g, o, cap, rfl, _⟩
  · exact ⟨oa, cap, rfl⟩
  · exact ⟨_, cap, rfl⟩
theorem MarkVs.get {W : World} {oa : Option Addr} {cap : Nat} {l : List MarkV} (h : MarkVs W (.slice oa l.length cap) l) {i : Nat} (hi : i < l.length) : ∃ g o, oa = some ⟨g, o, none⟩ ∧ g < W.heap.size ∧ ∀ j x, l[j]? = some x → MarkVAt W g (o + j * 3) x := by
  rcases h with ⟨oa', cap', e, rfl⟩ | ⟨g, o, cap', e, hg, hx⟩
  · simp at hi
  · simp only [Value.slice.injEq] at e
    exact ⟨g, o, e.1, hg, hx⟩
theorem MarkVAt.keep {W W' : World} {g o : Nat} {x : MarkV} (h : MarkVAt W g o x) (k : W'.heap[g]? = W.heap[g]?) : MarkVAt W' g o x := ⟨(World.cell?_of_block (a := ⟨g, o, none⟩) k).trans h.c0, (World.cell?_of_block (a := ⟨g, o + 1, none⟩) k).trans h.c1, (World.cell?_of_block (a := ⟨g, o + 2, none⟩) k).trans h.c2⟩
section
variable {H : Type} {enc : TypeId × Value → H} {W : World}
theorem markv_add_plain (b o j : Nat) : (⟨b, o, none⟩ : Addr).add j = ⟨b, o + j, none⟩ := by unfold Addr.add; split <;> simp_all
set_option maxRecDepth 100000 in
theorem markv_of_cells {fuel : Nat} {cs : List Value} {x : DataW H × List MemPlace} (h : DataW.trod enc Tryz.prog W 0 (fun _ => true) true fuel 56 cs = some x) : ∃ o : MarkV, o.Ok ∧ cs = o.cells := by
  obtain ⟨xs, n, _, rfl, hl, hlen, hf⟩ := DataW.trod_struct Tryz.underlying56 h
  have h6 : Tryz.prog.cellsOf 56 = 3 := by kernel_rfl
  rw [h6] at hl
  match xs, hlen with
  | [y0, y1, y2], _ =>
  match cs, hl with
  | [d0, d1, d2], _ =>
  have g : ∀ (i t o : Nat) (f : Field) (d : Value) (y : DataW H × List MemPlace), (match Tryz.prog.underlying 56 with | some (.struct fs) => fs[i]? | _ => none) = some f → f.type = t → f.offset = o → Tryz.prog.cellsOf t = 1 → (([d0, d1, d2] : List Value).drop o).take 1 = [d] → ([y0, y1, y2] : List (DataW H × List MemPlace))[i]? = some y → DataW.trod enc Tryz.prog W 0 (fun _ => true) true n t [d] = some y := fun i t o f d y h0 h1 h2 h3 h4 h5 => by
    rw [Tryz.underlying56] at h0
    have := hf i f h0
    rw [h1, h2, h3, h4, h5] at this
    exact this
  have f0 := g 0 3 0 _ d0 y0 (by rw [Tryz.underlying56]; rfl) rfl rfl (by kernel_rfl) rfl rfl
  have f1 := g 1 3 1 _ d1 y1 (by rw [Tryz.underlying56]; rfl) rfl rfl (by kernel_rfl) rfl rfl
  have f2 := g 2 5 2 _ d2 y2 (by rw [Tryz.underlying56]; rfl) rfl rfl (by kernel_rfl) rfl rfl
  obtain ⟨a0, h0', _, w0⟩ := DataW.trod_int Tryz.underlying3 f0
  obtain ⟨a1, h1', _, w1⟩ := DataW.trod_int Tryz.underlying3 f1
  obtain ⟨a2, h2', _, w2⟩ := DataW.trod_int Tryz.underlying5 f2
  simp only [List.cons.injEq, and_true] at h0' h1' h2'
  subst h0' h1' h2' 
  exact ⟨⟨a0, a1, a2⟩, ⟨w0, w1, w2⟩, rfl⟩
set_option maxRecDepth 100000 in
theorem markvs_of_trod {v : Value} {d : DataW H} {p : List MemPlace} {base : Nat} (hok : Value.okWide Tryz.prog W .any base 22 v) (h : DataW.Trod enc Tryz.prog W 0 (fun _ => true) true 22 v d p) : ∃ l, MarkVs W v l ∧ ∀ x ∈ l, x.Ok := by
  obtain ⟨a0, len, cap, rfl⟩ := okWide_slice Tryz.underlying22 hok
  obtain ⟨fuel, hf⟩ := h
  have hlt := DataW.trod_lt fuel _ _ _ hf
  have h6 : Tryz.prog.cellsOf 56 = 3 := by kernel_rfl
  rcases open_slice Tryz.underlying22 hf with ⟨hcs, hx⟩ | ⟨a, len', cap', m, n, D, Pl, hcs, _, hl, hm, hmm, hx0, hx⟩
  · simp [Value.cells] at hcs
    obtain ⟨rfl, rfl, rfl⟩ := hcs
    exact ⟨[], .inl ⟨none, 0, rfl, rfl⟩, by simp⟩
  · simp [Value.cells] at hcs
    obtain ⟨rfl, rfl, rfl⟩ := hcs
    simp only [if_true] at hmm
    by_cases h0 : len = 0
    · subst h0; exact ⟨[], .inl ⟨_, _, rfl, rfl⟩, by simp⟩
    rw [h6] at hx hx0
    simp only [Prod.mk.injEq] at hx0
    obtain ⟨hd0, hp0⟩ := hx0
    obtain ⟨b, off, spot⟩ := a
    have hsp : spot = none := by
      obtain ⟨cs', h1, h2⟩ := hx 0 (by omega)
      obtain ⟨_, hlen, hc⟩ := World.cells?_some h1
      have := hc 0 (by omega)
      rw [List.getElem?_eq_getElem (by omega)] at this
      simpa [Addr.add] using World.cell?_spot this
    subst hsp
    have hV : ∀ i, i < len → ∃ x : MarkV, x.Ok ∧ MarkVAt W b (off + i * 3) x := fun i hi => by
      obtain ⟨cs', h1, h2⟩ := hx i (by omega)
      obtain ⟨_, hlen, hc⟩ := World.cells?_some h1
      obtain ⟨x, hox, rfl⟩ := markv_of_cells h2
      have g : ∀ c, c < 3 → W.cell? ⟨b, off + i * 3 + c, none⟩ = x.cells[c]? := fun c hc6 => by
        rw [← hc c hc6, markv_add_plain, markv_add_plain]
      exact ⟨x, hox, g 0 (by omega), g 1 (by omega), g 2 (by omega)⟩
    obtain ⟨f, hf⟩ := choose_lt hV
    have hbW : b < W.heap.size := hlt (.cell b off) (by rw [hp0]; exact List.mem_append_left _ (MemPlace.mem_row.2 ⟨0, by omega, by simp⟩))
    refine ⟨(List.range len).map f, .inr ⟨b, off, cap, by simp, hbW, fun i u hu => ?_⟩, fun x hx => ?_⟩
    · rw [List.getElem?_map] at hu
      have hi : i < len := by
        by_cases hi : i < len
        · exact hi
        · rw [List.getElem?_eq_none (by simp; omega)] at hu; cases hu
      rw [List.getElem?_range hi] at hu
      simp only [Option.map_some, Option.some.injEq] at hu
      rw [← hu]
      exact (hf i hi).2
    · obtain ⟨i, hi, rfl⟩ := List.mem_map.1 hx
      exact (hf i (List.mem_range.1 hi)).1
end
section
variable {H : Type} {enc : TypeId × Value → H} {W : World}
theorem marks_of_trod {v : Value} {d : DataW H} {p : List MemPlace} {base : Nat} (hok : Value.okWide Tryz.prog W .any base 22 v) (h : DataW.Trod enc Tryz.prog W 0 (fun _ => true) true 22 v d p) : ∃ l, MarkVs W v l ∧ ∀ x ∈ l, x.Ok := markvs_of_trod hok h
end
/-- Both devices, in blocks from base on. -/
def Pr (base : Nat) (w : World) (B1 B2 : Nat) (S1 S2 : PS) : Prop := PairF w (fun k => base ≤ k) B1 B2 S1 S2
theorem Pr.below {base : Nat} {w w' : World} {B1 B2 : Nat} {S1 S2 : PS} (h : Pr base w B1 B2 S1 S2) (hb : Below w.heap.size w w') : Pr base w' B1 B2 S1 S2 := h.keep hb.size fun k hk _ => hb.block k hk
theorem Pr.left {base : Nat} {wc : World} {B1 B2 f : Nat} {args : Array Value} {S1 S2 S1' : PS} {R : Ending → Prop} (h : Pr base wc B1 B2 S1 S2) (hb : base ≤ wc.heap.size)
    (hc : ∀ F1, (∀ k, F1 k → base ≤ k) → Plate wc F1 B1 S1 → Calls Tryz.prog f args wc fun e w' => R e ∧ Plate w' (grow F1 wc w') B1 S1' ∧ Touch F1 wc w') : Calls Tryz.prog f args wc fun e w' => R e ∧ Pr base w' B1 B2 S1' S2 ∧ Below base wc w' := by
  have hf : Far (fun k => base ≤ k) wc wc B1 B2 S1 S2 := ⟨h.mono fun _ _ hk => .inl hk, Touch.refl _ _⟩
  refine (hf.leftF (R := R) fun F1 hF hp => hc F1 (fun k hk => (hF k hk).elim id fun x => by omega) hp).mono fun e w' ⟨he, h1⟩ => ?_
  exact ⟨he, h1.pair.mono fun k _ hk => hk.elim id fun x => Nat.le_trans hb x.1, h1.touch.below hb fun k hk => hk⟩
theorem Pr.right {base : Nat} {wc : World} {B1 B2 f : Nat} {args : Array Value} {S1 S2 S2' : PS} {R : Ending → Prop} (h : Pr base wc B1 B2 S1 S2) (hb : base ≤ wc.heap.size)
    (hc : ∀ F2, RefP wc F2 B2 S2 → Calls Tryz.prog f args wc fun e w' => R e ∧ RefP w' (grow F2 wc w') B2 S2' ∧ Touch F2 wc w') : Calls Tryz.prog f args wc fun e w' => R e ∧ Pr base w' B1 B2 S1 S2' ∧ Below base wc w' := by
  have hf : Far (fun k => base ≤ k) wc wc B1 B2 S1 S2 := ⟨h.mono fun _ _ hk => .inl hk, Touch.refl _ _⟩
  refine (hf.right (R := R) fun F2 hp => hc F2 hp).mono fun e w' ⟨he, h1⟩ => ?_
  exact ⟨he, h1.pair.mono fun k _ hk => hk.elim id fun x => Nat.le_trans hb x.1, h1.touch.below hb fun k hk => hk⟩
theorem layP_wait (S : PS) (a : Int) (s : ByteArray) : (layP S a s).wait = S.wait ∧ (layP S a s).kept.length = S.kept.length := by
  unfold layP; split
  · split
    · exact ⟨rfl, List.length_set ..⟩
    · exact ⟨rfl, rfl⟩
  · exact ⟨rfl, rfl⟩
theorem spoilP_wait (S : PS) (a : Int) : (spoilP S a).wait = S.wait ∧ (spoilP S a).kept.length = S.kept.length := by
  unfold spoilP; split
  · exact ⟨rfl, List.length_set ..⟩
  · exact ⟨rfl, rfl⟩
theorem writeP_wait (S : PS) (a : Int) (s : ByteArray) : (writeP S a s).wait.length ≤ S.wait.length + 1 ∧ (writeP S a s).kept.length = S.kept.length := by
  unfold writeP
  split
  · split
    · split
      · split
        · exact ⟨Nat.le_succ _, rfl⟩
        · exact ⟨by simp, rfl⟩
      · exact ⟨Nat.le_succ _, rfl⟩
    · exact ⟨Nat.le_succ _, rfl⟩
  · exact ⟨Nat.le_succ _, rfl⟩
theorem both_bad (n : Int) (hn : n < 0 ∨ 32768 < n) (v : Value) (w : World) :
    Calls Tryz.prog 6 #[.int .i64 n, v] w fun e w' => e = .returned (.tuple #[.pointer none, .pointer none]) ∧ w' = w := by
  go_enter Tryz.func6, Tryz.ntmps6
  go_wp2_with fail
  refine (new_bad n hn _).mono ?_
  rintro e w1 ⟨rfl, rfl⟩
  go_wp2_with fail
  refine (rnew_bad n hn _).mono ?_
  rintro e w2 ⟨rfl, rfl⟩
  go_wp2
  go_ret2
  exact ⟨rfl, rfl⟩
/-- So many bytes have been filled in. -/
def fillF (v j : Nat) (k : Nat) : Value := .int .u8 ((if k < j then v else 0 : Nat) : Int)
theorem fill_get (n v i : Nat) (h : i < n) : ((List.replicate n v).map fun (x : Nat) => (x : Int)).getD i 0 = (v : Int) := by
  rw [List.map_replicate, List.getD_eq_getElem?_getD, List.getElem?_replicate, if_pos h]
  rfl
theorem fillF_step (v j k : Nat) : (if k = j then Value.int .u8 (v : Int) else fillF v j k) = fillF v (j + 1) k := by
  unfold fillF
  by_cases e : k = j
  · rw [if_pos e, if_pos (by omega)]
  · rw [if_neg e]
    by_cases h : k < j
    · rw [if_pos h, if_pos (by omega)]
    · rw [if_neg h, if_neg (by omega)]
set_option maxHeartbeats 4000000 in
theorem both_any (n : Nat) (hn : n ≤ 32768) (v : Value) (l : List MarkV) (w : World) (hv : MarkVs w v l ∧ ∀ x ∈ l, x.Ok) :
    Calls Tryz.prog 6 #[.int .i64 (n : Int), v] w fun e w' => (∃ B1 B2 S, e = .returned (.tuple #[.pointer (some ⟨B1, 0, none⟩), .pointer (some ⟨B2, 0, none⟩)]) ∧ Pr w.heap.size w' B1 B2 S S ∧ S.wait.length ≤ 40 ∧ S.kept.length = n) ∧ Below w.heap.size w w' := by
  obtain ⟨oa, cap, rfl⟩ := hv.1.form
  have HV : Hid (MarkVs w (.slice oa l.length cap) l ∧ ∀ x ∈ l, x.Ok) := hv
  obtain ⟨len, hle⟩ : ∃ len, len = l.length := ⟨_, rfl⟩
  have HN : Hid (len = l.length) := hle
  rw [← hle]
  clear hle hv
  go_enter Tryz.func6, Tryz.ntmps6
  go_wp2_with fail
  refine (new_any n hn w).mono ?_
  rintro e w1 ⟨B1, rfl, hp1, hb1⟩
  have H1 : Hid (Plate w1 (fun k => w.heap.size ≤ k ∧ k < w1.heap.size) B1 (newP n) ∧ Below w.heap.size w w1) := ⟨hp1, hb1⟩
  clear hp1 hb1
  go_wp2_with fail
  refine (rnew_any n hn w1).mono ?_
  rintro e w2 ⟨B2, rfl, hp2, hb2⟩
  have H2 : Hid (Pr w.heap.size w2 B1 B2 (newP n) (newP n) ∧ Below w.heap.size w w2) := by
    have hz := H1.out.2.size
    have hz2 := hb2.size
    refine ⟨⟨_, _, H1.out.1.keep fun k hk _ => hb2.block k hk, hp2, fun k hk => hk.1, fun k hk => Nat.le_trans hz hk.1, fun k h1 h2 => ?_, fun k hk => ?_⟩, H1.out.2.trans (hb2.mono hz)⟩
    · have := h1.2; have := h2.1; omega
    · rcases hk with hk | hk
      · have := hk.2; omega
      · exact hk.2
  clear H1 hp2 hb2
  go_wp2_with fail
  go_loopw [10] (fun iv wr => ∃ (j : Nat) (S : PS), j ≤ len ∧ iv = .int .i64 (j : Int) ∧ j ≤ 40 ∧ S.wait.length ≤ j ∧ S.kept.length = n ∧ Pr w.heap.size wr B1 B2 S S ∧ Below w.heap.size w wr) (fun iv _ => len - (intOf iv).toNat)
  case atStart => exact ⟨0, newP n, Nat.zero_le _, rfl, Nat.zero_le _, Nat.zero_le _, by simp [newP], H2.out.1, H2.out.2⟩
  case round =>
    clear H2
    obtain ⟨j, S, hj, rfl, hj40, hwt, hkl, hpr, hb⟩ := hrel
    have HP : Hid (Pr w.heap.size wr B1 B2 S S ∧ Below w.heap.size w wr) := ⟨hpr, hb⟩
    by_cases hlt : j < len ∧ j < 40
    · have j1 : (j : Int) < (len : Nat) := by omega
      have j2 : (j : Int) < 40 := by omega
      obtain ⟨g, o, e, hg, hx⟩ := HV.out.1.get (i := j) (by rw [← HN.out]; exact hlt.1)
      subst e
      obtain ⟨x, hxj⟩ : ∃ x, l[j]? = some x := ⟨_, List.getElem?_eq_getElem (by rw [← HN.out]; exact hlt.1)⟩
      obtain ⟨c0, c1, c2⟩ := (hx j x hxj).keep (hb.block g hg)
      have hok := HV.out.2 x (List.mem_of_getElem? hxj)
      obtain ⟨kd, at_, vb⟩ := x
      obtain ⟨vn, rfl⟩ : ∃ vn : Nat, vb = (vn : Int) := ⟨vb.toNat, by
        have h1 := hok.v
        simp [Lit.wf, IntKind.min, IntKind.max, IntKind.signed, IntKind.bits] at h1
        omega⟩
      simp only at c0 c1 c2
      have hmk : ∀ wq : World, (Instr.makeSlice 31 (.int .i64 64) (.int .i64 64)).run Tryz.prog wq = .ok (.slice (some ⟨wq.heap.size, 0, none⟩) 64 64) (wq.alloc (.cells (madeCells #[.int .u8 0] 64) 5)) := fun wq => run_make_row' (P := Tryz.prog) 31 5 (.int .u8 0) 1 Tryz.underlying31 info_u8 rfl .i64 .i64 64 (by omega) (by omega) wq
      clear hpr hb hx hxj hok hlt
      have HA : Hid (Row ((wr.alloc (.cells #[.int .i64 kd, .int .i64 at_, .int .u8 (vn : Int)] 56)).alloc (.cells (madeCells #[.int .u8 0] 64) 5)) wr.heap.size 56 [.int .i64 kd, .int .i64 at_, .int .u8 (vn : Int)] ∧ Row ((wr.alloc (.cells #[.int .i64 kd, .int .i64 at_, .int .u8 (vn : Int)] 56)).alloc (.cells (madeCells #[.int .u8 0] 64) 5)) (wr.heap.size + 1) 5 (rowF 64 (fillF vn 0)) ∧ Below wr.heap.size wr ((wr.alloc (.cells #[.int .i64 kd, .int .i64 at_, .int .u8 (vn : Int)] 56)).alloc (.cells (madeCells #[.int .u8 0] 64) 5))) := by
        have e1 : (wr.alloc (.cells #[.int .i64 kd, .int .i64 at_, .int .u8 (vn : Int)] 56)).heap.size = wr.heap.size + 1 := by simp
        refine ⟨?_, ?_, ((Below.refl _ _).alloc (Nat.le_refl _) _).alloc (by rw [e1]; omega) _⟩
        · exact (Below.heap_alloc _ _ _ (by rw [e1]; omega)).trans (heap_alloc_new wr _)
        · have h1 : Row ((wr.alloc (.cells #[.int .i64 kd, .int .i64 at_, .int .u8 (vn : Int)] 56)).alloc (.cells (madeCells #[.int .u8 0] 64) 5)) (wr.heap.size + 1) 5 (List.replicate 64 (.int .u8 0)) := by rw [← e1]; exact made_row (heap_alloc_new _ _)
          refine h1.congr ?_
          show _ = (List.range 64).map fun k => fillF vn 0 k
          simp only [fillF, Nat.not_lt_zero, if_false]
          rw [List.map_const', List.length_range]
          rfl
      go_wp2_with fail
      generalize (wr.alloc (.cells #[.int .i64 kd, .int .i64 at_, .int .u8 (vn : Int)] 56)).alloc (.cells (madeCells #[.int .u8 0] 64) 5) = w4 at *
      generalize wr = wo at *
      clear hmk c0 c1 c2
      go_loopw [13] (fun qv wr => ∃ q : Nat, q ≤ 64 ∧ qv = .int .i64 (q : Int) ∧ Row wr (wo.heap.size + 1) 5 (rowF 64 (fillF vn q)) ∧ Only (wo.heap.size + 1) w4 wr) (fun qv _ => 64 - (intOf qv).toNat)
      case atStart => exact ⟨0, Nat.zero_le _, rfl, HA.out.2.1, Only.refl _ _⟩
      case round =>
        obtain ⟨q, hq, rfl, hrow, honly⟩ := hrel
        have hrm : Row wr wo.heap.size 56 [.int .i64 kd, .int .i64 at_, .int .u8 (vn : Int)] := HA.out.1.only honly (by omega)
        by_cases hql : q < 64
        · have q1 : (q : Int) < 64 := by omega
          have m2 : wr.cell? ⟨wo.heap.size, 2, none⟩ = some (.int .u8 (vn : Int)) := hrm.cell 2
          have cq := hrow.cellF q hql
          have fq := hrow.frozen q
          have HF : Hid (Row (wr.setCell ⟨wo.heap.size + 1, q, none⟩ (.int .u8 (vn : Int))) (wo.heap.size + 1) 5 (rowF 64 (fillF vn (q + 1))) ∧ Only (wo.heap.size + 1) w4 (wr.setCell ⟨wo.heap.size + 1, q, none⟩ (.int .u8 (vn : Int)))) := ⟨(hrow.setF q _).congr (rowF_congr fun k _ => fillF_step vn q k), honly.setCell q _⟩
          generalize fillF vn q q = old at *
          clear hrow honly hrm
          go_wp2
          go_roundw
          case rel => exact ⟨q + 1, by omega, by go_num, HF.out⟩
          case measure => simp [intOf]; omega
        · obtain rfl : q = 64 := by omega
          have hb5 : Below wo.heap.size wo wr := HA.out.2.2.trans ((honly.below (Nat.le_of_lt HA.out.2.1.lt)).mono (by omega))
          have hz5 : wo.heap.size < wr.heap.size := hrm.lt
          have hy5 : wo.heap.size + 1 < wr.heap.size := hrow.lt
          have hcv : ∀ wc : World, Row wc (wo.heap.size + 1) 5 (rowF 64 (fillF vn 64)) → (convert 31 9 (.slice (some ⟨wo.heap.size + 1, 0, none⟩) 64 64)).run Tryz.prog wc = .ok (.string (fillS vn 64)) wc := fun wc hr => by
            have := run_convert_bytes_arg (P := Tryz.prog) wc 31 5 Tryz.underlying31 Tryz.underlying5 (wo.heap.size + 1) 0 64 64 ((List.replicate 64 vn).map fun (x : Nat) => (x : Int)) (by simp) (fun i hi => by
              have hi' : i < 64 := by simpa using hi
              rw [Nat.zero_add, hr.cellF i hi', fill_get 64 vn i hi', fillF, if_pos hi']) 9 Tryz.underlying9
            exact this
          have HX : Hid (∀ wc, Touch (fun k => w.heap.size ≤ k ∧ k < wo.heap.size) wr wc → wc.cell? ⟨wo.heap.size, 0, none⟩ = some (.int .i64 kd) ∧ wc.cell? ⟨wo.heap.size, 1, none⟩ = some (.int .i64 at_) ∧ (convert 31 9 (.slice (some ⟨wo.heap.size + 1, 0, none⟩) 64 64)).run Tryz.prog wc = .ok (.string (fillS vn 64)) wc) := fun wc ht => by
            have hr1 : Row wc wo.heap.size _ _ := (ht.2 _ hz5 (by omega)).trans hrm
            have hr2 : Row wc (wo.heap.size + 1) _ _ := (ht.2 _ hy5 (by omega)).trans hrow
            exact ⟨hr1.cell 0, hr1.cell 1, hcv wc hr2⟩
          have hf0 : Far (fun k => w.heap.size ≤ k ∧ k < wo.heap.size) wr wr B1 B2 S S := ⟨(HP.out.1.tight.keep hb5.size fun k hk _ => hb5.block k hk).mono fun k _ h => .inl h, Touch.refl _ _⟩
          have HEND : Hid (∀ w' S', Far (fun k => w.heap.size ≤ k ∧ k < wo.heap.size) wr w' B1 B2 S' S' → Pr w.heap.size w' B1 B2 S' S' ∧ Below w.heap.size w w') := fun w' S' h => by
            have hs := h.touch.size
            have hws := HP.out.2.size
            refine ⟨h.pair.mono fun k _ hk => ?_, HP.out.2.trans ((hb5.mono hws).trans (h.touch.below (by omega) fun k hk => hk.1))⟩
            rcases hk with x | x
            · exact x.1
            · have := x.1; omega
          obtain ⟨x0, x1, x2⟩ := HX.out wr hf0.touch
          have hwt2 : S.wait.length ≤ 1000000 := by omega
          have HS : Hid (S.wait.length ≤ j ∧ S.kept.length = n) := ⟨hwt, hkl⟩
          have HZ : Hid (Below wo.heap.size wo wr) := hb5
          generalize fillS vn 64 = fs at *
          clear hrow honly hrm hcv HA hb5 hwt hkl
          by_cases hk1 : kd = 1
          · subst hk1
            have hl := hf0.left (R := fun e => e = .returned (.int .i64 (layE S at_ fs))) fun F1 h => (lay_any B1 F1 S at_ fs wr h).mono fun _ _ ⟨he, h1, h2⟩ => ⟨he, plate_grow h1, h2⟩
            generalize layE S at_ fs = le at *
            go_wp2_with fail
            refine hl.mono ?_
            rintro e wB ⟨rfl, hfB⟩
            obtain ⟨_, y1, y2⟩ := HX.out wB hfB.touch
            have hr := hfB.right (R := fun e => e = .returned (.int .i64 (layE S at_ fs))) fun F2 h => (rlay_any B2 F2 S at_ fs wB h).mono fun _ _ ⟨he, h1, h2⟩ => ⟨he, ref_grow h1, h2⟩
            generalize layE S at_ fs = le at *
            clear hl hfB x0 x1 x2 hf0
            go_wp2_with fail
            refine hr.mono ?_
            rintro e wC ⟨rfl, hfC⟩
            have HF : Hid (_ ∧ _) := HEND.out _ _ hfC
            clear hr hfC y1 y2
            go_wp2
            go_roundw
            case rel => exact ⟨j + 1, layP S at_ fs, by omega, by go_num, by omega, by rw [(layP_wait S at_ fs).1]; have := HS.out.1; omega, by rw [(layP_wait S at_ fs).2]; exact HS.out.2, HF.out.1, HF.out.2⟩
            case measure => simp [intOf]; omega
          · by_cases hk2 : kd = 2
            · subst hk2
              have hl := hf0.left (R := fun e => e = .returned (.int .i64 (spoilE S at_))) fun F1 h => (spoil_any B1 F1 S at_ wr h).mono fun _ _ ⟨he, h1, h2⟩ => ⟨he, plate_grow h1, h2⟩
              generalize spoilE S at_ = le at *
              go_wp2_with fail
              refine hl.mono ?_
              rintro e wB ⟨rfl, hfB⟩
              obtain ⟨_, y1, y2⟩ := HX.out wB hfB.touch
              have hr := hfB.right (R := fun e => e = .returned (.int .i64 (spoilE S at_))) fun F2 h => (rspoil_any B2 F2 S at_ wB h).mono fun _ _ ⟨he, h1, h2⟩ => ⟨he, ref_grow h1, h2⟩
              generalize spoilE S at_ = le at *
              clear hl hfB x0 x1 x2 hf0
              go_wp2_with fail
              refine hr.mono ?_
              rintro e wC ⟨rfl, hfC⟩
              have HF : Hid (_ ∧ _) := HEND.out _ _ hfC
              clear hr hfC y1 y2
              go_wp2
              go_roundw
              case rel => exact ⟨j + 1, spoilP S at_, by omega, by go_num, by omega, by rw [(spoilP_wait S at_).1]; have := HS.out.1; omega, by rw [(spoilP_wait S at_).2]; exact HS.out.2, HF.out.1, HF.out.2⟩
              case measure => simp [intOf]; omega
            · by_cases hk3 : kd = 3
              · subst hk3
                have hl := hf0.left (R := fun e => e = .returned (.int .i64 (writeE S at_ fs))) fun F1 h => write_any B1 F1 S at_ fs wr h hwt2
                generalize writeE S at_ fs = le at *
                go_wp2_with fail
                refine hl.mono ?_
                rintro e wB ⟨rfl, hfB⟩
                obtain ⟨_, y1, y2⟩ := HX.out wB hfB.touch
                have hr := hfB.right (R := fun e => e = .returned (.int .i64 (writeE S at_ fs))) fun F2 h => rwrite_any B2 F2 S at_ fs wB h hwt2
                generalize writeE S at_ fs = le at *
                clear hl hfB x0 x1 x2 hf0
                go_wp2_with fail
                refine hr.mono ?_
                rintro e wC ⟨rfl, hfC⟩
                have HF : Hid (_ ∧ _) := HEND.out _ _ hfC
                clear hr hfC y1 y2
                go_wp2
                go_roundw
                case rel => exact ⟨j + 1, writeP S at_ fs, by omega, by go_num, by omega, by have := (writeP_wait S at_ fs).1; have := HS.out.1; omega, by rw [(writeP_wait S at_ fs).2]; exact HS.out.2, HF.out.1, HF.out.2⟩
                case measure => simp [intOf]; omega
              · have z1 : (kd == 1) = false := by simp [hk1]
                have z2 : (kd == 2) = false := by simp [hk2]
                have z3 : (kd == 3) = false := by simp [hk3]
                have HF : Hid (_ ∧ _) := HEND.out _ _ hf0
                clear hf0 x1 x2
                go_wp2
                go_roundw
                case rel => exact ⟨j + 1, S, by omega, by go_num, by omega, by have := HS.out.1; omega, HS.out.2, HF.out.1, HF.out.2⟩
                case measure => simp [intOf]; omega
    · have HF : Hid (Pr w.heap.size wr B1 B2 S S ∧ S.wait.length ≤ 40 ∧ S.kept.length = n ∧ Below w.heap.size w wr) := ⟨HP.out.1, by omega, hkl, HP.out.2⟩
      have hj2 : (¬ (j : Int) < (len : Nat)) ∨ ((j : Int) < (len : Nat) ∧ decide ((j : Int) < 40) = false) := by
        by_cases h : j < len
        · exact .inr ⟨by omega, decide_eq_false (by omega)⟩
        · exact .inl (by omega)
      clear hlt hpr hb HP hkl hwt
      rcases hj2 with j1 | ⟨j1, j2⟩
      all_goals
        go_wp2
        go_ret2
        first | exact ⟨⟨B1, B2, S, rfl, HF.out.1, HF.out.2.1, HF.out.2.2.1⟩, HF.out.2.2.2⟩ | exact ⟨⟨B1, B2, rfl, S, HF.out.1, HF.out.2.1, HF.out.2.2.1⟩, HF.out.2.2.2⟩
end Go.Proofs.YtcmoagphbpjenaaGreatDoor
