/- Expand's closure: the next piece. -/
import Derived.Test.YtfndgiddoijdeaaDoorGatherE
namespace Go.Proofs.YtfndgiddoijdeaaDoor
open Go.RowKit

/-- Three texts. -/
def three (a b c : ByteArray) : Nat → ByteArray
  | 0 => a
  | 1 => b
  | _ => c
theorem three_size (a b c : ByteArray) (ha : a.size ≤ 1048576) (hb : b.size ≤ 1048576) (hc : c.size = 1) : ∀ j, j ≤ 3 → (catS (three a b c) j).length < 549755813888 := by
  intro j hj
  have h : j = 0 ∨ j = 1 ∨ j = 2 ∨ j = 3 := by omega
  rcases h with rfl | rfl | rfl | rfl
  all_goals simp [catS, three, numsOf_length]
  all_goals omega

set_option maxRecDepth 10000 in
set_option maxHeartbeats 1000000 in
theorem piece_any (KB LB IB : Nat) (K : List Nat) (hKl : K.length = 64) (hKb : Bytes K) (R1 R2 : List Value) (hR1 : RestOk R1) (hR2 : RestOk R2) (last info : ByteArray) (hl : last.size ≤ 1048576) (hi : info.size ≤ 1048576) (i : Nat) (hi2 : i < 256) (w : World) (hq : Cubes w)
    (hr : Row w KB 57 (keyV K R1 R2)) (hL : Row w LB 9 [.string last]) (hI : Row w IB 9 [.string info]) :
    Calls Tryd.prog 34 #[.int .i64 i, .pointer (some ⟨KB, 0, none⟩), .pointer (some ⟨LB, 0, none⟩), .pointer (some ⟨IB, 0, none⟩)] w fun e w' => e = .returned (.agg (byV (macL K (numsOf last ++ numsOf info ++ [i]))).toArray) ∧ Row w' LB 9 [.string (strOfNums ((macL K (numsOf last ++ numsOf info ++ [i])).map fun (x : Nat) => (x : Int)))] ∧ Only LB w w' := by
  obtain ⟨zd, hzd⟩ : ∃ zd : Array Value, zd = (digV []).toArray := ⟨_, rfl⟩
  have hdv : ∀ w, (zeroValue 60).run Tryd.prog w = .ok (.agg zd) w := by rw [hzd]; exact (zero_of_info (n := 32) (by kernel_rfl)).1
  have hzd32 : zd.size = 32 := by rw [hzd]; rfl
  have hb0 : Below w.heap.size w (w.alloc (.cells zd 60)) := (Below.refl _ _).alloc (Nat.le_refl _) _
  have hd0 : Row (w.alloc (.cells zd 60)) w.heap.size 60 (digV []) := by rw [hzd]; exact heap_alloc_new w _
  obtain ⟨w0, hw0⟩ : ∃ w0, w.alloc (.cells zd 60) = w0 := ⟨_, rfl⟩
  have hw0s : w0.heap.size = w.heap.size + 1 := by rw [← hw0]; simp
  rw [hw0] at hb0 hd0
  have hr0 := hr.below hb0 hr.lt
  have hL0 := hL.below hb0 hL.lt
  have hI0 := hI.below hb0 hI.lt
  have hq0 : Cubes w0 := hq.below hb0 hq.1
  have cL : w0.cell? ⟨LB, 0, none⟩ = some (.string last) := hL0.cell 0
  have cI : w0.cell? ⟨IB, 0, none⟩ = some (.string info) := hI0.cell 0
  have zi : IntKind.u8.wrap (i : Int) = i := by rw [IntKind.wrap_u8]; omega
  have hIlt := hI0.lt
  have cI2 : ∀ o, (w0.alloc o).cell? ⟨IB, 0, none⟩ = some (.string info) := fun o => (World.cell?_of_block (Below.heap_alloc w0 o IB (by omega))).trans cI
  have hcv := run_convert_bytes_arg (P := Tryd.prog) (w0.alloc (.cells #[.int .u8 (i : Int)] 5)) 40 5 Tryd.underlying40 Tryd.underlying5 w0.heap.size 0 1 1 [(i : Int)] rfl (fun j hj => by
    obtain rfl : j = 0 := by omega
    exact (cell_of_row _ _ _ _ _ _ (heap_alloc_new w0 _))) 9 Tryd.underlying9
  obtain ⟨bs, hbs⟩ : ∃ bs, bs = strOfNums [(i : Int)] := ⟨_, rfl⟩
  rw [← hbs, hw0s] at hcv
  have hbn : numsOf bs = [i] := by rw [hbs]; exact numsOf_str [i] (fun x hx => by rw [List.mem_singleton] at hx; omega)
  have H0 : Hid (Row w0 KB 57 (keyV K R1 R2) ∧ Row w0 LB 9 [.string last] ∧ Row w0 IB 9 [.string info] ∧ Cubes w0 ∧ Below w.heap.size w w0 ∧ Row w0 w.heap.size 60 (digV []) ∧ numsOf bs = [i] ∧ LB < w.heap.size) := ⟨hr0, hL0, hI0, hq0, hb0, hd0, hbn, hL.lt⟩
  clear hzd hr hL hI hq hr0 hL0 hI0 hq0 hb0 hd0 hbn hbs
  go_enter Tryd.func34, Tryd.ntmps34
  go_wp2_with fail
  first
    | (rw [hcv]; go_wp2_with fail)
    | skip
  have hst : Strs ((w0.alloc (.cells #[.int .u8 (i : Int)] 5)).alloc (.cells #[.string last, .string info, .string bs] 9)) (.slice (some ⟨w.heap.size + 1 + 1, 0, none⟩) 3 3) 3 (three last info bs) := by
    refine ⟨_, _, rfl, by unfold maxLen; decide, .inr ⟨w.heap.size + 1 + 1, 0, rfl, by simp; omega, fun j hj => ?_⟩⟩
    have h2 := heap_alloc2_new w0 (.cells #[.int .u8 (i : Int)] 5) (.cells #[.string last, .string info, .string bs] 9)
    rw [hw0s] at h2
    rw [cell_of_row _ _ _ _ _ _ h2, Nat.zero_add]
    match j, hj with
    | 0, _ => rfl
    | 1, _ => rfl
    | 2, _ => rfl
  have hcat : catS (three last info bs) 3 = numsOf last ++ numsOf info ++ [i] := by
    rw [← H0.out.2.2.2.2.2.2.1]; rfl
  have hb2 : Below w0.heap.size w0 ((w0.alloc (.cells #[.int .u8 (i : Int)] 5)).alloc (.cells #[.string last, .string info, .string bs] 9)) := ((Below.refl _ _).alloc (Nat.le_refl _) _).alloc (by simp) _
  obtain ⟨w2, hw2⟩ : ∃ w2, (w0.alloc (.cells #[.int .u8 (i : Int)] 5)).alloc (.cells #[.string last, .string info, .string bs] 9) = w2 := ⟨_, rfl⟩
  rw [hw2] at hst hb2
  rw [hw2]
  have hbl : bs.size = 1 := by rw [← numsOf_length, H0.out.2.2.2.2.2.2.1]; rfl
  have hmc := mac_any KB K hKl hKb R1 R2 hR1 hR2 _ 3 (three last info bs) w2 hst (three_size last info bs hl hi hbl) (H0.out.2.2.2.1.below hb2 H0.out.2.2.2.1.1) (H0.out.1.below hb2 H0.out.1.lt)
  rw [hcat] at hmc
  have HMC : Hid (Calls Tryd.prog 30 #[.pointer (some ⟨KB, 0, none⟩), .slice (some ⟨w.heap.size + 1 + 1, 0, none⟩) 3 3] w2 fun e w' => e = .returned (.agg (byV (macL K (numsOf last ++ numsOf info ++ [i]))).toArray) ∧ Below w2.heap.size w2 w') := hmc
  clear hmc hst hw2 hcat
  refine HMC.out.mono ?_
  rintro e w3 ⟨rfl, hb3⟩
  have hb3' := hb2.trans (hb3.mono hb2.size)
  clear HMC hb2 hb3 hcv cI2
  obtain ⟨M, hM⟩ : ∃ M, M = macL K (numsOf last ++ numsOf info ++ [i]) := ⟨_, rfl⟩
  have hMl : M.length = 32 := by rw [hM]; exact macL_length _ _
  have HMM : Hid (M = macL K (numsOf last ++ numsOf info ++ [i])) := hM
  rw [← hM]
  clear hM
  obtain ⟨ds, hds⟩ : ∃ ds, ds = (byV M).toArray := ⟨_, rfl⟩
  have hsz2 : ds.size = 32 := by rw [hds]; simp [byV, hMl]
  have hone : ds.all (·.oneCell') = true := by rw [hds]; simp [byV, Value.oneCell']
  have hinfo : (Tryd.prog.info? 60).map (·.size) = some ds.size := by rw [hsz2]; kernel_rfl
  have hz32 : zd.size = ds.size := by rw [hzd32, hsz2]
  rw [← hds]
  have HDS : Hid (ds = (byV M).toArray) := hds
  clear hds
  have hset : (w3.alloc (.cells zd 60)).setRow w3.heap.size ds = w3.alloc (.cells ds 60) := World.setRow_alloc_new _ _ _ _
  have k4 : Row (w3.alloc (.cells ds 60)) w3.heap.size 60 (byV M) := by rw [HDS.out]; exact heap_alloc_new w3 _
  have hb4 := hb3'.alloc hb3'.size (.cells ds 60)
  obtain ⟨w4, hw4⟩ : ∃ w4, w4 = w3.alloc (.cells ds 60) := ⟨_, rfl⟩
  rw [← hw4] at hset k4 hb4
  clear hw4
  have hcv2 := run_convert_bytes_arg (P := Tryd.prog) w4 40 5 Tryd.underlying40 Tryd.underlying5 w3.heap.size 0 32 32 (M.map fun (x : Nat) => (x : Int)) (by simp [hMl]) (fun i hi => by
    rw [Nat.zero_add, k4.cell, byV_get _ _ (by rw [hMl]; exact hi)]
    simp [List.getD, hMl, hi]) 9 Tryd.underlying9
  obtain ⟨X, hX⟩ : ∃ X, X = strOfNums (M.map fun (x : Nat) => (x : Int)) := ⟨_, rfl⟩
  rw [← hX] at hcv2
  have HX : Hid (X = strOfNums (M.map fun (x : Nat) => (x : Int))) := hX
  clear hX
  have hL4 := H0.out.2.1.below hb4 H0.out.2.1.lt
  have cL4 : w4.cell? ⟨LB, 0, none⟩ = some (.string last) := hL4.cell 0
  have fL4 : w4.frozen? ⟨LB, 0, none⟩ = false := hL4.frozen 0
  have hlt3 : w0.heap.size ≤ w3.heap.size := hb3'.size
  have hL5 : Row (w4.setCell ⟨LB, 0, none⟩ (.string X)) LB 9 [.string X] := Row.set (A := []) (C := []) (q := .string last) hL4 (.string X) rfl
  have ho5 : Only LB w4 (w4.setCell ⟨LB, 0, none⟩ (.string X)) := (Only.refl _ _).setCell _ _
  obtain ⟨w5, hw5⟩ : ∃ w5, w4.setCell ⟨LB, 0, none⟩ (.string X) = w5 := ⟨_, rfl⟩
  rw [hw5] at hL5 ho5
  have k5 : w5.heap[w3.heap.size]? = some (.cells ds 60 (0, 0)) := by rw [HDS.out]; exact k4.only ho5 (by have := H0.out.2.2.2.2.2.2.2; omega)
  have hd5 : w5.heap[w.heap.size]? = some (.cells (digV []).toArray 60 (0, 0)) := (H0.out.2.2.2.2.2.1.below hb4 H0.out.2.2.2.2.2.1.lt).only ho5 (by have := H0.out.2.2.2.2.2.2.2; omega)
  have hs0 : (digV []).toArray.size = ds.size := by rw [hsz2]; rfl
  have hl0 := run_loadVar_row (P := Tryd.prog) (w5.setRow w.heap.size ds) w.heap.size 60 60 ds (0, 0) _ (setRow_heap _ _ _ _ _ _ hd5) Tryd.underlying60 rfl hinfo
  have HF : Hid (Row (w5.setRow w.heap.size ds) LB 9 [.string X] ∧ Only LB w (w5.setRow w.heap.size ds)) := by
    have hLlt := H0.out.2.2.2.2.2.2.2
    have hbw : Below w.heap.size w w4 := H0.out.2.2.2.2.1.trans (hb4.mono H0.out.2.2.2.2.1.size)
    refine ⟨(setRow_other _ _ _ _ (by omega)).trans hL5, ?_⟩
    exact only_below ((Only.of_below hbw).trans ho5) (below_rowH (Below.refl _ _) (Nat.le_refl _) ds)
  clear hL4 hL5 ho5 k4 hb4 hb3'
  go_wp2_with (first | refine wpList_load_row rfl 60 _ rfl w3.heap.size rfl 60 _ (0, 0) _ k5 Tryd.underlying60 rfl hinfo ?_ | (refine wpList_store_row rfl 60 _ _ rfl w3.heap.size ds rfl rfl 60 _ (heap_alloc_new w3 _) hinfo hz32 hone ?_; rw [hset]) | refine wpList_store_row rfl 60 _ _ rfl w.heap.size ds rfl rfl 60 _ hd5 hinfo hs0 hone ?_)
  exact bodyPost_ret (v := .agg ds) (by simp [results, Tryd.results34, asAddr, Act.put, hl0]) rfl ⟨by rw [HDS.out, HMM.out], by rw [← HMM.out, ← HX.out]; exact HF.out.1, HF.out.2⟩
end Go.Proofs.YtfndgiddoijdeaaDoor
