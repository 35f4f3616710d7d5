/- A list of blocks, of readings that came in. · The document's Layout. · The laws' text, super and sectors. -/
import Derived.Test.YtdngoicpcocnnaaGreatDoorMg19
import Derived.Test.YtdngoicpcocnnaaGreatDoorMg38
import Derived.Test.YtdngoicpcocnnaaGreatDoorMg26
import Derived.Test.YtdngoicpcocnnaaGreatDoorMg21
import Derived.Test.YtdngoicpcocnnaaGreatDoorMg22
import Derived.Test.YtdngoicpcocnnaaGreatDoorMg17
import Derived.Test.YtdngoicpcocnnaaGreatDoorMg27
namespace Go.Proofs.YtdngoicpcocnnaaGreatDoor
set_option maxRecDepth 20000
open Go.ChangeShapes Go.WideShapes Go.RowKit Go.Deep

structure Blk where
  At : Int
  V : Int
  Bad : Bool
instance : Inhabited Blk := ⟨⟨0, 0, false⟩⟩
structure Blk.Ok (x : Blk) : Prop where
  At : (Lit.int .i64 x.At).wf = true
  V : (Lit.int .u8 x.V).wf = true
  Bad : x.Bad = x.Bad
def Blk.cells (x : Blk) : List Value := [.int .i64 x.At, .int .u8 x.V, .bool x.Bad]
structure BlkAt (W : World) (g o : Nat) (x : Blk) : Prop where
  c0 : W.cell? ⟨g, o, none⟩ = some (.int .i64 x.At)
  c1 : W.cell? ⟨g, o + 1, none⟩ = some (.int .u8 x.V)
  c2 : W.cell? ⟨g, o + 2, none⟩ = some (.bool x.Bad)
def Blks (W : World) (v : Value) (l : List Blk) : Prop := (∃ oa cap, v = .slice oa 0 cap ∧ l = []) ∨ ∃ g o cap, v = .slice (some ⟨g, o, none⟩) l.length cap ∧ g < W.heap.size ∧ ∀ i x, l[i]? = some x → BlkAt W g (o + i * 3) x
theorem Blks.form {W : World} {v : Value} {l : List Blk} (h : Blks W v l) : ∃ oa cap, v = .slice oa l.length cap := by
  rcases h with ⟨oa, cap, rfl, rfl⟩ | ⟨g, o, cap, rfl, _⟩
  · exact ⟨oa, cap, rfl⟩
  · exact ⟨_, cap, rfl⟩
theorem Blks.get {W : World} {oa : Option Addr} {cap : Nat} {l : List Blk} (h : Blks W (.slice oa l.length cap) l) {i : Nat} (hi : i < l.length) : ∃ g o, oa = some ⟨g, o, none⟩ ∧ g < W.heap.size ∧ ∀ j x, l[j]? = some x → BlkAt W g (o + j * 3) x := by
  rcases h with ⟨oa', cap', e, rfl⟩ | ⟨g, o, cap', e, hg, hx⟩
  · simp at hi
  · simp only [Value.slice.injEq] at e
    exact ⟨g, o, e.1, hg, hx⟩
theorem BlkAt.keep {W W' : World} {g o : Nat} {x : Blk} (h : BlkAt W g o x) (k : W'.heap[g]? = W.heap[g]?) : BlkAt W' g o x := ⟨(World.cell?_of_block (a := ⟨g, o, none⟩) k).trans h.c0, (World.cell?_of_block (a := ⟨g, o + 1, none⟩) k).trans h.c1, (World.cell?_of_block (a := ⟨g, o + 2, none⟩) k).trans h.c2⟩
section
variable {H : Type} {enc : TypeId × Value → H} {W : World}
theorem blk_add_plain (b o j : Nat) : (⟨b, o, none⟩ : Addr).add j = ⟨b, o + j, none⟩ := by unfold Addr.add; split <;> simp_all
set_option maxRecDepth 100000 in
theorem blk_of_cells {fuel : Nat} {cs : List Value} {x : DataW H × List MemPlace} (h : DataW.trod enc Tryz.prog W 0 (fun _ => true) true fuel 75 cs = some x) : ∃ o : Blk, o.Ok ∧ cs = o.cells := by
  obtain ⟨xs, n, _, rfl, hl, hlen, hf⟩ := DataW.trod_struct Tryz.underlying75 h
  have h6 : Tryz.prog.cellsOf 75 = 3 := by kernel_rfl
  rw [h6] at hl
  match xs, hlen with
  | [y0, y1, y2], _ =>
  match cs, hl with
  | [d0, d1, d2], _ =>
  have g : ∀ (i t o : Nat) (f : Field) (d : Value) (y : DataW H × List MemPlace), (match Tryz.prog.underlying 75 with | some (.struct fs) => fs[i]? | _ => none) = some f → f.type = t → f.offset = o → Tryz.prog.cellsOf t = 1 → (([d0, d1, d2] : List Value).drop o).take 1 = [d] → ([y0, y1, y2] : List (DataW H × List MemPlace))[i]? = some y → DataW.trod enc Tryz.prog W 0 (fun _ => true) true n t [d] = some y := fun i t o f d y h0 h1 h2 h3 h4 h5 => by
    rw [Tryz.underlying75] at h0
    have := hf i f h0
    rw [h1, h2, h3, h4, h5] at this
    exact this
  have f0 := g 0 3 0 _ d0 y0 (by rw [Tryz.underlying75]; rfl) rfl rfl (by kernel_rfl) rfl rfl
  have f1 := g 1 5 1 _ d1 y1 (by rw [Tryz.underlying75]; rfl) rfl rfl (by kernel_rfl) rfl rfl
  have f2 := g 2 4 2 _ d2 y2 (by rw [Tryz.underlying75]; rfl) rfl rfl (by kernel_rfl) rfl rfl
  obtain ⟨a0, h0', _, w0⟩ := DataW.trod_int Tryz.underlying3 f0
  obtain ⟨a1, h1', _, w1⟩ := DataW.trod_int Tryz.underlying5 f1
  obtain ⟨a2, h2', _⟩ := DataW.trod_bool Tryz.underlying4 f2
  simp only [List.cons.injEq, and_true] at h0' h1' h2'
  subst h0' h1' h2' 
  exact ⟨⟨a0, a1, a2⟩, ⟨w0, w1, rfl⟩, rfl⟩
set_option maxRecDepth 100000 in
theorem blks_of_trod {v : Value} {d : DataW H} {p : List MemPlace} {base : Nat} (hok : Value.okWide Tryz.prog W .any base 37 v) (h : DataW.Trod enc Tryz.prog W 0 (fun _ => true) true 37 v d p) : ∃ l, Blks W v l ∧ ∀ x ∈ l, x.Ok := by
  obtain ⟨a0, len, cap, rfl⟩ := okWide_slice Tryz.underlying37 hok
  obtain ⟨fuel, hf⟩ := h
  have hlt := DataW.trod_lt fuel _ _ _ hf
  have h6 : Tryz.prog.cellsOf 75 = 3 := by kernel_rfl
  rcases open_slice Tryz.underlying37 hf with ⟨hcs, hx⟩ | ⟨a, len', cap', m, n, D, Pl, hcs, _, hl, hm, hmm, hx0, hx⟩
  · simp [Value.cells] at hcs
    obtain ⟨rfl, rfl, rfl⟩ := hcs
    exact ⟨[], .inl ⟨none, 0, rfl, rfl⟩, by simp⟩
  · simp [Value.cells] at hcs
    obtain ⟨rfl, rfl, rfl⟩ := hcs
    simp only [if_true] at hmm
    by_cases h0 : len = 0
    · subst h0; exact ⟨[], .inl ⟨_, _, rfl, rfl⟩, by simp⟩
    rw [h6] at hx hx0
    simp only [Prod.mk.injEq] at hx0
    obtain ⟨hd0, hp0⟩ := hx0
    obtain ⟨b, off, spot⟩ := a
    have hsp : spot = none := by
      obtain ⟨cs', h1, h2⟩ := hx 0 (by omega)
      obtain ⟨_, hlen, hc⟩ := World.cells?_some h1
      have := hc 0 (by omega)
      rw [List.getElem?_eq_getElem (by omega)] at this
      simpa [Addr.add] using World.cell?_spot this
    subst hsp
    have hV : ∀ i, i < len → ∃ x : Blk, x.Ok ∧ BlkAt W b (off + i * 3) x := fun i hi => by
      obtain ⟨cs', h1, h2⟩ := hx i (by omega)
      obtain ⟨_, hlen, hc⟩ := World.cells?_some h1
      obtain ⟨x, hox, rfl⟩ := blk_of_cells h2
      have g : ∀ c, c < 3 → W.cell? ⟨b, off + i * 3 + c, none⟩ = x.cells[c]? := fun c hc6 => by
        rw [← hc c hc6, blk_add_plain, blk_add_plain]
      exact ⟨x, hox, g 0 (by omega), g 1 (by omega), g 2 (by omega)⟩
    obtain ⟨f, hf⟩ := choose_lt hV
    have hbW : b < W.heap.size := hlt (.cell b off) (by rw [hp0]; exact List.mem_append_left _ (MemPlace.mem_row.2 ⟨0, by omega, by simp⟩))
    refine ⟨(List.range len).map f, .inr ⟨b, off, cap, by simp, hbW, fun i u hu => ?_⟩, fun x hx => ?_⟩
    · rw [List.getElem?_map] at hu
      have hi : i < len := by
        by_cases hi : i < len
        · exact hi
        · rw [List.getElem?_eq_none (by simp; omega)] at hu; cases hu
      rw [List.getElem?_range hi] at hu
      simp only [Option.map_some, Option.some.injEq] at hu
      rw [← hu]
      exact (hf i hi).2
    · obtain ⟨i, hi, rfl⟩ := List.mem_map.1 hx
      exact (hf i (List.mem_range.1 hi)).1
end
end Go.Proofs.YtdngoicpcocnnaaGreatDoor

namespace Go.Proofs.YtdngoicpcocnnaaGreatDoor
set_option maxRecDepth 20000
open Go.RowKit

theorem rlay_ret (tmps : Array Value) (w w' : World) (y : Int) (cs : Array Value) (h1 : tmps.getD 2 undef = .pointer (some ⟨w.heap.size, 0, none⟩)) (h3 : tmps.getD 3 undef = .int .i64 y) (hg : w'.heap[w.heap.size]? = some (.cells cs 71 (0, 0))) (hs : cs.size = 16) (hb : Below w.heap.size w w') :
    bodyPost Tryz.prog Tryz.f28 (fun e w'' => e = .returned (.tuple #[.agg cs, .int .i64 y]) ∧ Below w.heap.size w w'') .ret { tmps := tmps, defers := [] } w' := by
  have hr := run_loadVar_row (P := Tryz.prog) w' w.heap.size 71 71 cs (0, 0) _ hg Tryz.underlying71 rfl (by rw [hs]; kernel_rfl)
  simp at h1 h3
  exact bodyPost_ret (v := .tuple #[.agg cs, .int .i64 y]) (by simp [results, Tryz.results28, asAddr, hr, h1, h3]) rfl ⟨rfl, hb⟩
theorem rlayout_bad (n : Int) (hn : n < 48 ∨ 1024 < n) (w : World) :
    Calls Tryz.prog 28 #[.int .i64 n] w fun e w' => e = .returned (.tuple #[.agg layZ, .int .i64 1]) ∧ Below w.heap.size w w' := by
  unfold layZ
  rcases hn with h | h
  · go_enter Tryz.func28, Tryz.ntmps28
    go_wp2
    exact rlay_ret _ w _ 1 _ rfl rfl (heap_alloc_new w _) rfl ((Below.refl _ _).alloc (Nat.le_refl _) _)
  · have h0 : ¬ n < 48 := by omega
    go_enter Tryz.func28, Tryz.ntmps28
    go_wp2
    exact rlay_ret _ w _ 1 _ rfl rfl (heap_alloc_new w _) rfl ((Below.refl _ _).alloc (Nat.le_refl _) _)
set_option maxHeartbeats 2000000 in
theorem rlayout_any (n : Nat) (h0 : 48 ≤ n) (h1 : n ≤ 1024) (w : World) :
    Calls Tryz.prog 28 #[.int .i64 (n : Int)] w fun e w' => e = .returned (.tuple #[.agg (layA n (layQ n) (layS n) (layT n)), .int .i64 0]) ∧ Below w.heap.size w w' := by
  have i0 : ¬ (n : Int) < 48 := by omega
  have i1 : ¬ (1024 : Int) < n := by omega
  have r1 := rup_any (n / 8) 16 (by omega) (by decide) (by decide)
  have r2 := rup_any n 64 (by omega) (by decide) (by decide)
  have d1 : (n : Int) / 8 = ((layQ n : Nat) : Int) := rfl
  have b1 : layQ n ≤ 128 := by unfold layQ; omega
  have b2 : layS n ≤ 9 := by unfold layS; omega
  have b3 : layT n ≤ 17 := by unfold layT; omega
  rw [show n / 8 = layQ n from rfl, show (layQ n + 16 - 1) / 16 = layS n from rfl] at r1
  rw [show (n + 64 - 1) / 64 = layT n from rfl] at r2
  generalize layQ n = q at *
  generalize layS n = s at *
  generalize layT n = t at *
  have e1 : (30 : Int) + q + s = 29 + q + s + 1 := by omega
  have e2 : (2 : Int) * n + 1 + t = n + 1 + t + n := by omega
  have HE : Hid ((30 : Int) + q + s = 29 + q + s + 1 ∧ (2 : Int) * n + 1 + t = n + 1 + t + n) := ⟨e1, e2⟩
  clear e1 e2
  go_enter Tryz.func28, Tryz.ntmps28
  go_wp2_with fail
  refine (r1 _).mono ?_
  rintro e w1 ⟨rfl, rfl⟩
  go_wp2_with fail
  refine (r2 _).mono ?_
  rintro e w1 ⟨rfl, rfl⟩
  go_wp2_with fail
  rw [HE.out.1, HE.out.2]
  exact rlay_ret _ w _ 0 (layA n q s t) rfl rfl (heap_alloc_new w _) rfl ((Below.refl _ _).alloc (Nat.le_refl _) _)
theorem rlayout_all (n : Int) (w : World) : Calls Tryz.prog 28 #[.int .i64 n] w fun e w' => e = .returned (.tuple #[.agg (layV n), .int .i64 (clayE n)]) ∧ Below w.heap.size w w' := by
  unfold layV clayE
  by_cases h : 48 ≤ n ∧ n ≤ 1024
  · rw [if_pos h, if_pos h]
    obtain ⟨m, rfl⟩ : ∃ m : Nat, n = m := ⟨n.toNat, by omega⟩
    exact rlayout_any m (by omega) (by omega) w
  · rw [if_neg h, if_neg h]
    exact rlayout_bad n (by omega) w
end Go.Proofs.YtdngoicpcocnnaaGreatDoor

namespace Go.Proofs.YtdngoicpcocnnaaGreatDoor
set_option maxRecDepth 20000
open Go.RowKit

theorem jfillS_num (v n : Nat) : fillS v n = strOfNums ((List.replicate n v).map fun (x : Nat) => (x : Int)) := rfl
set_option maxHeartbeats 1000000 in
theorem jtext_any (v n : Nat) (hn : n ≤ 600) (w : World) :
    Calls Tryz.prog 16 #[.int .u8 (v : Nat), .int .i64 (n : Nat)] w fun e w' => e = .returned (.string (fillS v n)) ∧ Below w.heap.size w w' := by
  have hm := run_make_row' (P := Tryz.prog) 92 5 (.int .u8 0) 1 Tryz.underlying92 info_u8 rfl .i64 .i64 n (by omega) (by omega)
  have hr0 : Row (w.alloc (.cells (madeCells #[.int .u8 0] n) 5)) w.heap.size 5 (rowF n fun k => .int .u8 ((if k < 0 then v else 0 : Nat) : Int)) := by
    have h1 : Row (w.alloc (.cells (madeCells #[.int .u8 0] n) 5)) w.heap.size 5 (List.replicate n (.int .u8 0)) := made_row (heap_alloc_new w _)
    refine h1.congr ?_
    rw [rowF]
    simp only [Nat.not_lt_zero, if_false]
    rw [List.map_const', List.length_range]
    rfl
  have hb0 := (Below.refl w.heap.size w).alloc (Nat.le_refl _) (.cells (madeCells #[.int .u8 0] n) 5)
  obtain ⟨w0, hw0⟩ : ∃ w0, w.alloc (.cells (madeCells #[.int .u8 0] n) 5) = w0 := ⟨_, rfl⟩
  rw [hw0] at hr0 hb0
  go_enter Tryz.func16, Tryz.ntmps16
  go_wp2_with fail
  go_loopw [6] (fun i wr => ∃ j : Nat, j ≤ n ∧ i = .int .i64 j ∧ Row wr w.heap.size 5 (rowF n fun k => .int .u8 ((if k < j then v else 0 : Nat) : Int)) ∧ Below w.heap.size w wr) (fun i _ => n - (intOf i).toNat)
  case atStart => exact ⟨0, Nat.zero_le _, rfl, hr0, hb0⟩
  case round =>
    clear hr0 hb0 hm hw0
    obtain ⟨j, hj, rfl, hr, hb⟩ := hrel
    by_cases hlt : j < n
    · have j1 : (j : Int) < n := by omega
      have c := hr.cellF j hlt
      have fz : wr.frozen? ⟨w.heap.size, j, none⟩ = false := hr.frozen j
      have hr2 : Row (wr.setCell ⟨w.heap.size, j, none⟩ (.int .u8 (v : Nat))) w.heap.size 5 (rowF n fun k => .int .u8 ((if k < j + 1 then v else 0 : Nat) : Int)) := (hr.setF j (.int .u8 (v : Nat))).congr (rowF_congr fun k _ => by
        by_cases e : k = j
        · subst e; simp
        · by_cases e2 : k < j
          · rw [if_neg e, if_pos e2, if_pos (by omega)]
          · rw [if_neg e, if_neg e2, if_neg (by omega)])
      have hb2 : Below w.heap.size w (wr.setCell ⟨w.heap.size, j, none⟩ (.int .u8 (v : Nat))) := hb.setCell (p := ⟨w.heap.size, j, none⟩) (Nat.le_refl _) _
      have HF : Hid (_ ∧ _) := ⟨hr2, hb2⟩
      clear hr hb hr2 hb2
      go_wp2
      go_roundw
      case rel => exact ⟨j + 1, by omega, by go_num, HF.out.1, HF.out.2⟩
      case measure => simp [intOf]; omega
    · obtain rfl : j = n := by omega
      have hcv := run_convert_bytes_arg (P := Tryz.prog) wr 92 5 Tryz.underlying92 Tryz.underlying5 w.heap.size 0 j j ((List.replicate j v).map fun (x : Nat) => (x : Int)) (by simp) (fun i hi => by
        rw [Nat.zero_add, hr.cellF i hi, if_pos hi, List.getD_eq_getElem?_getD, List.getElem?_map, List.getElem?_eq_getElem (by simpa using hi)]
        simp) 9 Tryz.underlying9
      rw [← jfillS_num] at hcv
      have HF : Hid (Below w.heap.size w wr) := hb
      clear hr hb
      obtain ⟨X, hX⟩ : ∃ X, X = fillS v j := ⟨_, rfl⟩
      rw [← hX] at hcv
      have HX : Hid (X = fillS v j) := hX
      clear hX
      go_wp2
      first
        | (rw [hcv]; go_wp2)
        | skip
      go_ret
      exact ⟨by rw [← HX.out]; rfl, HF.out⟩

theorem jlsup_ret (tmps : Array Value) (g : Nat) (w' : World) (cs : Array Value) (R : Ending → World → Prop) (h1 : tmps.getD 4 undef = .pointer (some ⟨g, 0, none⟩)) (hg : w'.heap[g]? = some (.cells cs 33 (0, 0))) (hs : cs.size = 5) (hR : R (.returned (.agg cs)) w') :
    bodyPost Tryz.prog Tryz.f18 R .ret { tmps := tmps, defers := [] } w' :=
  bodyPost_ret (v := .agg cs) (results_cell_row Tryz.results18 tmps w' g 33 cs (0, 0) _ h1 hg Tryz.underlying33 rfl (by rw [hs]; kernel_rfl)) rfl hR
/-- The law's superblock. -/
def lawSp (live ep : Int) : Sp := ⟨7, ep, 5, live, fillS 3 32⟩
set_option maxHeartbeats 2000000 in
theorem jlsup_any (live ep : Int) (w : World) : Calls Tryz.prog 18 #[.int .i64 live, .int .i64 ep] w fun e w' => e = .returned (.agg (lawSp live ep).arr) ∧ Below w.heap.size w w' := by
  have ht := fun w => jtext_any 3 32 (by decide) w
  unfold lawSp Sp.arr
  simp only
  generalize fillS 3 32 = z at *
  go_enter Tryz.func18, Tryz.ntmps18
  go_wp2_with fail
  refine (ht _).mono ?_
  rintro e w1 ⟨rfl, hb1⟩
  have g0 := (hb1.block w.heap.size (by simp)).trans (heap_alloc_new w _)
  have hbw : Below w.heap.size w w1 := (below_new w _).trans (hb1.mono (by simp))
  clear hb1 ht
  go_wp2_with (refine wpList_store_row rfl 33 _ _ rfl w.heap.size #[.int .i64 7, .int .i64 ep, .int .i64 5, .int .i64 live, .string z] rfl rfl 33 _ g0 (by kernel_rfl) rfl (by simp [Value.oneCell']) ?_)
  exact jlsup_ret _ w.heap.size _ #[.int .i64 7, .int .i64 ep, .int .i64 5, .int .i64 live, .string z] _ rfl (setRow_heap _ _ _ _ _ _ g0) rfl ⟨rfl, below_setRow hbw (Nat.le_refl _) _⟩
set_option maxHeartbeats 4000000 in
theorem jsectors_any (w : World) : Calls Tryz.prog 13 #[.int .i64 48] w fun e w' => e = .returned (.int .i64 784) ∧ Below w.heap.size w w' := by
  have hl := fun w => rlayout_any 48 (by decide) (by decide) w
  have hA : layA 48 (layQ 48) (layS 48) (layT 48) = #[.int .i64 48, .int .i64 2, .int .i64 3, .int .i64 27, .int .i64 28, .int .i64 29, .int .i64 (layQ 48 : Nat), .int .i64 (29 + (layQ 48 : Nat)), .int .i64 (layS 48 : Nat), .int .i64 (29 + (layQ 48 : Nat) + (layS 48 : Nat)), .int .i64 (29 + (layQ 48 : Nat) + (layS 48 : Nat) + 1), .int .i64 48, .int .i64 49, .int .i64 1, .int .i64 50, .int .i64 98] := rfl
  rw [hA] at hl
  generalize ((layQ 48 : Nat) : Int) = q at *
  generalize ((layS 48 : Nat) : Int) = s at *
  clear hA
  go_enter Tryz.func13, Tryz.ntmps13
  go_wp2_with fail
  refine (hl _).mono ?_
  rintro e w1 ⟨rfl, hb1⟩
  have HB : Hid (Below w.heap.size w w1) := hb1
  clear hb1 hl
  go_wp2
  go_ret
  exact ⟨rfl, HB.out.alloc HB.out.size _⟩
end Go.Proofs.YtdngoicpcocnnaaGreatDoor
