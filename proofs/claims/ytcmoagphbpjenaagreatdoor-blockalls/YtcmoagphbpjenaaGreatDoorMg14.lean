/- Slices that came in: of truth values, of bytes, of a script's steps. · The law PlateOrder, called with any bytes and any truth values, returns true, and changes nothing that was there. -/
import Derived.Test.YtcmoagphbpjenaaGreatDoorMg09
import Derived.Deep.Slices
import Derived.WideShapes
import Derived.ProofKit
import Derived.ChangeOld
namespace Go.Proofs.YtcmoagphbpjenaaGreatDoor
set_option maxRecDepth 20000
open Go.ChangeShapes Go.WideShapes Go.RowKit Go.Deep

section
variable {H : Type} {enc : TypeId × Value → H} {W : World}
theorem bools_of_cells {fuel : Nat} {cs : List Value} {x : DataW H × List MemPlace} (h : DataW.trod enc Tryz.prog W 0 (fun _ => true) true fuel 37 cs = some x) : ∃ v l, cs = [v] ∧ Bools W (fun k => W.heap.size ≤ k) v l := by
  have hlt := DataW.trod_lt fuel _ _ _ h
  rcases open_slice1 Tryz.underlying37 (show Tryz.prog.cellsOf 4 = 1 by kernel_rfl) h with ⟨rfl, rfl⟩ | ⟨a, len, cap, m, n, V, D, Pl, rfl, _, hl, hm, hmm, rfl, hx⟩
  · exact ⟨_, [], rfl, .inl ⟨none, 0, rfl, rfl⟩⟩
  · simp only [if_true] at hmm
    by_cases h0 : len = 0
    · subst h0; exact ⟨_, [], rfl, .inl ⟨_, _, rfl, rfl⟩⟩
    have hV : ∀ i, i < len → ∃ b, W.cell? (a.add i) = some (.bool b) := fun i hi => by
      obtain ⟨h1, h2⟩ := hx i (by omega)
      obtain ⟨b, hb, _⟩ := DataW.trod_bool Tryz.underlying4 h2
      simp only [List.cons.injEq, and_true] at hb
      exact ⟨b, by rw [h1, hb]⟩
    obtain ⟨f, hf⟩ := choose_lt hV
    obtain ⟨b, off, spot⟩ := a
    have hspot : spot = none := by simpa [Addr.add] using World.cell?_spot (hf 0 (by omega))
    subst hspot
    have hbW : b < W.heap.size := hlt (.cell b off) (List.mem_append_left _ (MemPlace.mem_row.2 ⟨0, by omega, by simp⟩))
    refine ⟨_, (List.range len).map f, rfl, .inr ⟨b, off, cap, by simp, hbW, Nat.not_le.2 hbW, fun i u hu => ?_⟩⟩
    rw [List.getElem?_map] at hu
    have hi : i < len := by
      by_cases hi : i < len
      · exact hi
      · rw [List.getElem?_eq_none (by simp; omega)] at hu; cases hu
    rw [List.getElem?_range hi] at hu
    simp only [Option.map_some, Option.some.injEq] at hu
    rw [← hu, ← add_plain]
    exact hf i hi
theorem bools_of_trod {v : Value} {d : DataW H} {p : List MemPlace} {base : Nat} (hok : Value.okWide Tryz.prog W .any base 37 v) (h : DataW.Trod enc Tryz.prog W 0 (fun _ => true) true 37 v d p) : ∃ l, Bools W (fun k => W.heap.size ≤ k) v l := by
  obtain ⟨a0, len, cap, rfl⟩ := okWide_slice Tryz.underlying37 hok
  obtain ⟨fuel, hf⟩ := h
  obtain ⟨v', l, e, hb⟩ := bools_of_cells hf
  have e2 : .slice a0 len cap = v' := by simpa [Value.cells] using e
  subst e2
  exact ⟨l, hb⟩

/-- A list of bytes that came in. -/
def Nums8 (w : World) (v : Value) (l : List Nat) : Prop := (∃ oa cap, v = .slice oa 0 cap ∧ l = []) ∨ ∃ g o cap, v = .slice (some ⟨g, o, none⟩) l.length cap ∧ g < w.heap.size ∧ ∀ i x, l[i]? = some x → w.cell? ⟨g, o + i, none⟩ = some (.int .u8 (x : Nat))
theorem nums_of_trod {v : Value} {d : DataW H} {p : List MemPlace} {base : Nat} (hok : Value.okWide Tryz.prog W .any base 31 v) (h : DataW.Trod enc Tryz.prog W 0 (fun _ => true) true 31 v d p) : ∃ l, Nums8 W v l := by
  obtain ⟨a0, len, cap, rfl⟩ := okWide_slice Tryz.underlying31 hok
  obtain ⟨fuel, hf⟩ := h
  have hlt := DataW.trod_lt fuel _ _ _ hf
  rcases open_slice1 Tryz.underlying31 (show Tryz.prog.cellsOf 5 = 1 by kernel_rfl) hf with ⟨hcs, hx⟩ | ⟨a, len', cap', m, n, V, D, Pl, hcs, _, hl, hm, hmm, hx0, hx⟩
  · simp [Value.cells] at hcs
    obtain ⟨rfl, rfl, rfl⟩ := hcs
    exact ⟨[], .inl ⟨none, 0, rfl, rfl⟩⟩
  · simp [Value.cells] at hcs
    obtain ⟨rfl, rfl, rfl⟩ := hcs
    simp only [if_true] at hmm
    by_cases h0 : len = 0
    · subst h0; exact ⟨[], .inl ⟨_, _, rfl, rfl⟩⟩
    have hV : ∀ i, i < len → ∃ b : Nat, W.cell? (a.add i) = some (.int .u8 (b : Nat)) := fun i hi => by
      obtain ⟨h1, h2⟩ := hx i (by omega)
      obtain ⟨b, hb, _, hw⟩ := DataW.trod_int Tryz.underlying5 h2
      simp only [List.cons.injEq, and_true] at hb
      have hb0 : 0 ≤ b := by simp [Lit.wf, IntKind.min, IntKind.max, IntKind.signed, IntKind.bits] at hw; omega
      exact ⟨b.toNat, by rw [h1, hb, Int.toNat_of_nonneg hb0]⟩
    obtain ⟨f, hf⟩ := choose_lt hV
    obtain ⟨b, off, spot⟩ := a
    have hspot : spot = none := by simpa [Addr.add] using World.cell?_spot (hf 0 (by omega))
    subst hspot
    have hbW : b < W.heap.size := hlt (.cell b off) (by rw [hx0]; exact List.mem_append_left _ (MemPlace.mem_row.2 ⟨0, by omega, by simp⟩))
    refine ⟨(List.range len).map f, .inr ⟨b, off, cap, by simp, hbW, fun i u hu => ?_⟩⟩
    rw [List.getElem?_map] at hu
    have hi : i < len := by
      by_cases hi : i < len
      · exact hi
      · rw [List.getElem?_eq_none (by simp; omega)] at hu; cases hu
    rw [List.getElem?_range hi] at hu
    simp only [Option.map_some, Option.some.injEq] at hu
    rw [← hu, ← add_plain]
    exact hf i hi
end
end Go.Proofs.YtcmoagphbpjenaaGreatDoor

namespace Go.Proofs.YtcmoagphbpjenaaGreatDoor
set_option maxRecDepth 20000
open Go.RowKit

theorem rep_get (v : Value) (n i : Nat) (h : i < n) : (List.replicate n v)[i]? = some v := by simp [h]
theorem rep_getD (n i : Nat) (h : i < n) : ((List.replicate n 0).map fun (x : Nat) => (x : Int)).getD i 0 = 0 := by
  rw [List.getD_eq_getElem?_getD, List.getElem?_map, List.getElem?_replicate, if_pos h]; rfl

set_option maxHeartbeats 400000 in
theorem blank_any (w : World) : Calls Tryz.prog 40 #[] w fun e w' => e = .returned (.string (fillS 0 64)) ∧ Below w.heap.size w w' := by
  have hm : ∀ w, (Instr.makeSlice 31 (.int .i64 64) (.int .i64 64)).run Tryz.prog w = .ok (.slice (some ⟨w.heap.size, 0, none⟩) 64 64) (w.alloc (.cells (madeCells #[.int .u8 0] 64) 5)) := run_make_row' (P := Tryz.prog) 31 5 (.int .u8 0) 1 Tryz.underlying31 info_u8 rfl .i64 .i64 64 (by omega) (by omega)
  have hr : Row (w.alloc (.cells (madeCells #[.int .u8 0] 64) 5)) w.heap.size 5 (List.replicate 64 (.int .u8 0)) := made_row (heap_alloc_new w _)
  have hb := (Below.refl w.heap.size w).alloc (Nat.le_refl _) (.cells (madeCells #[.int .u8 0] 64) 5)
  obtain ⟨ms, hms⟩ : ∃ ms, madeCells #[.int .u8 0] 64 = ms := ⟨_, rfl⟩
  rw [hms] at hr hb
  simp only [hms] at hm
  clear hms
  obtain ⟨w0, hw0⟩ : ∃ w0, w.alloc (.cells ms 5) = w0 := ⟨_, rfl⟩
  rw [hw0] at hr hb
  have hcv := run_convert_bytes_arg (P := Tryz.prog) w0 31 5 Tryz.underlying31 Tryz.underlying5 w.heap.size 0 64 64 ((List.replicate 64 0).map fun (x : Nat) => (x : Int)) (by simp) (fun i hi => by
    rw [Nat.zero_add, hr.cell, rep_get _ _ _ hi, rep_getD _ _ hi]) 9 Tryz.underlying9
  rw [← fillS_num] at hcv
  have HF : Hid (Below w.heap.size w w0) := hb
  clear hr hb
  obtain ⟨X, hX⟩ : ∃ X, X = fillS 0 64 := ⟨_, rfl⟩
  rw [← hX] at hcv
  have HX : Hid (X = fillS 0 64) := hX
  clear hX
  go_enter Tryz.func40, Tryz.ntmps40
  go_wp2
  first
    | (rw [hcv]; go_wp2)
    | skip
  go_ret
  exact ⟨by rw [← HX.out]; rfl, HF.out⟩

/-- Behind j writes, and what the sector must say then. -/
def orderS (l : List Nat) (j : Nat) : PS := ⟨[fillS 0 64], (List.range j).map fun i => (0, fillS (l.getD i 0) 64), -1, true, 0, (j : Nat)⟩
def wantS (l : List Nat) (k : List Bool) : Nat → ByteArray
  | 0 => fillS 0 64
  | j + 1 => if lastsB k j = true then fillS (l.getD j 0) 64 else wantS l k j
theorem wantS_size (l : List Nat) (k : List Bool) : ∀ j, (wantS l k j).size = 64
  | 0 => fillS_size _ _
  | j + 1 => by
    simp only [wantS]
    split
    · exact fillS_size _ _
    · exact wantS_size l k j
theorem orderS_wait (l : List Nat) (j : Nat) : (orderS l j).wait.length = j := by simp [orderS]
theorem orderS_step (l : List Nat) (j : Nat) (hj : j < 60) : writeP (orderS l j) 0 (fillS (l.getD j 0) 64) = orderS l (j + 1) := by
  have hb : hasB (orderS l j) 0 = true := by simp [hasB, orderS]
  have hf1 : (orderS l j).fuse = -1 := rfl
  have hu : (orderS l j).up = true := rfl
  have hw : wrap64 ((orderS l j).writes + 1) = ((j + 1 : Nat) : Int) := by simp only [orderS, wrap64]; omega
  simp only [writeP, fillS_size, hu, hb, hf1, if_true, hw]
  simp only [orderS, List.range_succ, List.map_append, List.map_cons, List.map_nil]
  rfl
theorem order_kept (l : List Nat) (k : List Bool) (J : Nat) : ∀ j, j ≤ J → keptAt (lastsB k) (orderS l J).wait [fillS 0 64] j = [wantS l k j]
  | 0, _ => rfl
  | j + 1, hj => by
    have ih := order_kept l k J j (by omega)
    have hw : (orderS l J).wait[j]? = some (0, fillS (l.getD j 0) 64) := by
      show ((List.range J).map _)[j]? = _
      rw [List.getElem?_map, List.getElem?_range (by omega)]
      rfl
    rw [keptAt_step hw, ih, wantS]
    split <;> rfl
theorem order_end (l : List Nat) (k : List Bool) (J : Nat) : readS (startP k (orderS l J)) 0 = wantS l k J ∧ readE (startP k (orderS l J)) 0 = 0 ∧ (startP k (orderS l J)).wait.length = 0 := by
  have e : startP k (orderS l J) = ⟨[wantS l k J], [], -1, true, 0, (J : Nat)⟩ := by
    have h1 := order_kept l k J J (Nat.le_refl _)
    have h2 : (orderS l J).kept = [fillS 0 64] := rfl
    simp only [startP, settleP, orderS_wait, h2, h1]
    rfl
  rw [e]
  refine ⟨by simp [readS, hasB, textOf, textR, heldS, keptS], by simp [readE, hasB, textOf, textR, heldE, keptS, wantS_size], rfl⟩

end Go.Proofs.YtcmoagphbpjenaaGreatDoor
