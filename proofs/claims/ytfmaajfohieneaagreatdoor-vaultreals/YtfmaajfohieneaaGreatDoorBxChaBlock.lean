/- box's state.block: the bytes of a block. -/
import Derived.Test.YtfmaajfohieneaaGreatDoorMg22
namespace Go.Proofs.YtfmaajfohieneaaGreatDoor.Bx
set_option maxRecDepth 20000
open Go.RowKit

theorem le4_get (W i : Nat) : (le4 W).getD i 0 = if i = 0 then W % 256 else if i = 1 then W / 256 % 256 else if i = 2 then W / 65536 % 256 else if i = 3 then W / 16777216 % 256 else 0 := by
  match i with
  | 0 => rfl
  | 1 => rfl
  | 2 => rfl
  | 3 => rfl
  | i + 4 => rw [if_neg (by omega), if_neg (by omega), if_neg (by omega), if_neg (by omega)]; rfl
theorem blk_step (s : S16) (j k : Nat) :
    (if k = 4 * j + 3 then blkW s j / 16777216 % 256 else if k = 4 * j + 2 then blkW s j / 65536 % 256 else if k = 4 * j + 1 then blkW s j / 256 % 256 else if k = 4 * j then blkW s j % 256 else (blkN s j).getD k 0) = (blkN s (j + 1)).getD k 0 := by
  have hl := blkN_length s j
  rw [blkN]
  by_cases h : k < 4 * j
  · rw [getD_left _ _ _ _ (by omega), if_neg (by omega), if_neg (by omega), if_neg (by omega), if_neg (by omega)]
  · rw [getD_right _ _ _ _ (by omega), hl, getD_beyond (blkN s j) _ (by omega), le4_get]
    by_cases h0 : k = 4 * j
    · rw [if_neg (by omega), if_neg (by omega), if_neg (by omega), if_pos h0, if_pos (by omega)]
    · by_cases h1 : k = 4 * j + 1
      · rw [if_neg (by omega), if_neg (by omega), if_pos h1, if_neg (by omega), if_pos (by omega)]
      · by_cases h2 : k = 4 * j + 2
        · rw [if_neg (by omega), if_pos h2, if_neg (by omega), if_neg (by omega), if_pos (by omega)]
        · by_cases h3 : k = 4 * j + 3
          · rw [if_pos h3, if_neg (by omega), if_neg (by omega), if_neg (by omega), if_pos (by omega)]
          · rw [if_neg h3, if_neg h2, if_neg h1, if_neg h0, if_neg (by omega), if_neg (by omega), if_neg (by omega), if_neg (by omega)]
/-- A row of 64 bytes, of which the first ones are told. -/
def blkF (l : List Nat) (k : Nat) : Value := .int .u8 (l.getD k 0 : Nat)
theorem le4_bytes (n : Nat) : Bytes (le4 n) := by
  intro x hx
  simp only [le4, List.mem_cons, List.not_mem_nil, or_false] at hx
  omega
theorem blkN_bytes (s : S16) : ∀ n, Bytes (blkN s n)
  | 0 => fun x hx => by simp [blkN] at hx
  | n + 1 => (blkN_bytes s n).append (le4_bytes _)
theorem blkL_bytes (s : S16) : Bytes (blkL s) := blkN_bytes s 16
theorem blkF_all (s : S16) : rowF 64 (blkF (blkN s 16)) = byV (blkL s) := by
  rw [byV_rowF, blkL_length]
  rfl
theorem toL_get (s : S16) (i : Nat) (h : i < 16) : (wdV s.toL)[i]? = some (.int .u32 (s.toL.getD i 0 : Nat)) := wdV_get _ _ (by rw [S16.toL_length]; exact h)
theorem index_state (cs : Array Value) (j : Nat) (v : Value) (hj : j < 16) (hv : cs[j]? = some v) (w : World) : (Instr.index 139 (.agg cs) (.int .i64 j)).run Tryz.prog w = .ok v w := by
  simp [Instr.index, run_underlying Tryz.underlying139, asIntOf, hj, hv, go_sem]
theorem blkW_add (s : S16) (i : Nat) : IntKind.u32.wrap (((s.rounds 10).toL.getD i 0 : Nat) + (s.toL.getD i 0 : Nat)) = (blkW s i : Nat) := by
  rw [add_u32]; rfl
theorem blkW_lt (s : S16) (i : Nat) : blkW s i < 4294967296 := Nat.mod_lt _ (by decide)
/-- A state with another number of a block. -/
def S16.at (s : S16) (n : Nat) : S16 := ⟨s.a0, s.a1, s.a2, s.a3, s.b0, s.b1, s.b2, s.b3, s.c0, s.c1, s.c2, s.c3, n, s.d1, s.d2, s.d3⟩
theorem S16.at_ok {s : S16} (h : s.ok) {n : Nat} (hn : n < 4294967296) : (s.at n).ok := by
  obtain ⟨h1, h2, h3, h4, h5, h6, h7, h8, h9, h10, h11, h12, _, h14, h15, h16⟩ := S16.ok_all h
  simp [S16.ok, S16.toL, S16.at, *]
theorem Row.at12 {w : World} {g t : Nat} {s : S16} (h : Row w g t (wdV s.toL)) (n : Nat) : Row (w.setCell ⟨g, 12, none⟩ (.int .u32 n)) g t (wdV (s.at n).toL) :=
  Row.set (A := wdV [s.a0, s.a1, s.a2, s.a3, s.b0, s.b1, s.b2, s.b3, s.c0, s.c1, s.c2, s.c3]) (q := .int .u32 s.d0) (C := wdV [s.d1, s.d2, s.d3]) h _ rfl

set_option maxRecDepth 10000 in
set_option maxHeartbeats 2000000 in
theorem block_any (s : S16) (hs : s.ok) (n : Nat) (hn : n < 4294967296) (g : Nat) (w : World) (hr : Row w g 139 (wdV s.toL)) :
    Calls Tryz.prog 109 #[.pointer (some ⟨g, 0, none⟩), .int .u32 n] w fun e w' => e = .returned (.agg (byV (blkL (s.at n))).toArray) ∧ Below w.heap.size w w' := by
  have hg := hr.lt
  obtain ⟨cs, hcs⟩ : ∃ cs, cs = (wdV s.toL).toArray := ⟨_, rfl⟩
  have hsz : cs.size = 16 := by rw [hcs]; rfl
  have hone : cs.all (·.oneCell') = true := by rw [hcs]; simp [wdV, Value.oneCell']
  have hinfo : (Tryz.prog.info? 139).map (·.size) = some cs.size := by rw [hsz]; kernel_rfl
  have hg0 : ∀ o, (w.alloc o).heap[g]? = some (.cells cs 139 (0, 0)) := fun o => by rw [hcs]; exact (Below.heap_alloc w o g hg).trans hr
  have HCS : Hid (cs = (wdV s.toL).toArray) := hcs
  clear hcs hr
  obtain ⟨w0, hw0⟩ : ∃ w0, ((w.alloc (.cells #[.int .u8 0, .int .u8 0, .int .u8 0, .int .u8 0, .int .u8 0, .int .u8 0, .int .u8 0, .int .u8 0, .int .u8 0, .int .u8 0, .int .u8 0, .int .u8 0, .int .u8 0, .int .u8 0, .int .u8 0, .int .u8 0, .int .u8 0, .int .u8 0, .int .u8 0, .int .u8 0, .int .u8 0, .int .u8 0, .int .u8 0, .int .u8 0, .int .u8 0, .int .u8 0, .int .u8 0, .int .u8 0, .int .u8 0, .int .u8 0, .int .u8 0, .int .u8 0, .int .u8 0, .int .u8 0, .int .u8 0, .int .u8 0, .int .u8 0, .int .u8 0, .int .u8 0, .int .u8 0, .int .u8 0, .int .u8 0, .int .u8 0, .int .u8 0, .int .u8 0, .int .u8 0, .int .u8 0, .int .u8 0, .int .u8 0, .int .u8 0, .int .u8 0, .int .u8 0, .int .u8 0, .int .u8 0, .int .u8 0, .int .u8 0, .int .u8 0, .int .u8 0, .int .u8 0, .int .u8 0, .int .u8 0, .int .u8 0, .int .u8 0, .int .u8 0] 58)).alloc (.cells #[.int .u32 0, .int .u32 0, .int .u32 0, .int .u32 0, .int .u32 0, .int .u32 0, .int .u32 0, .int .u32 0, .int .u32 0, .int .u32 0, .int .u32 0, .int .u32 0, .int .u32 0, .int .u32 0, .int .u32 0, .int .u32 0] 139)).setRow (w.heap.size + 1) cs = w0 := ⟨_, rfl⟩
  have hk1 := heap_alloc2_new w (.cells #[.int .u8 0, .int .u8 0, .int .u8 0, .int .u8 0, .int .u8 0, .int .u8 0, .int .u8 0, .int .u8 0, .int .u8 0, .int .u8 0, .int .u8 0, .int .u8 0, .int .u8 0, .int .u8 0, .int .u8 0, .int .u8 0, .int .u8 0, .int .u8 0, .int .u8 0, .int .u8 0, .int .u8 0, .int .u8 0, .int .u8 0, .int .u8 0, .int .u8 0, .int .u8 0, .int .u8 0, .int .u8 0, .int .u8 0, .int .u8 0, .int .u8 0, .int .u8 0, .int .u8 0, .int .u8 0, .int .u8 0, .int .u8 0, .int .u8 0, .int .u8 0, .int .u8 0, .int .u8 0, .int .u8 0, .int .u8 0, .int .u8 0, .int .u8 0, .int .u8 0, .int .u8 0, .int .u8 0, .int .u8 0, .int .u8 0, .int .u8 0, .int .u8 0, .int .u8 0, .int .u8 0, .int .u8 0, .int .u8 0, .int .u8 0, .int .u8 0, .int .u8 0, .int .u8 0, .int .u8 0, .int .u8 0, .int .u8 0, .int .u8 0, .int .u8 0] 58) (.cells #[.int .u32 0, .int .u32 0, .int .u32 0, .int .u32 0, .int .u32 0, .int .u32 0, .int .u32 0, .int .u32 0, .int .u32 0, .int .u32 0, .int .u32 0, .int .u32 0, .int .u32 0, .int .u32 0, .int .u32 0, .int .u32 0] 139)
  have a1 : Row w0 (w.heap.size + 1) 139 (wdV s.toL) := by rw [← hw0]; have := setRow_heap _ (w.heap.size + 1) _ cs _ _ hk1; rw [HCS.out] at this ⊢; exact this
  have a0 : Row w0 w.heap.size 58 (byV (List.replicate 64 0)) := by rw [← hw0]; exact (setRow_other _ _ _ _ (by omega)).trans (heap_alloc2_old w _ _)
  have ab : Below w.heap.size w w0 := by rw [← hw0]; exact below_rowH (((Below.refl _ _).alloc (Nat.le_refl _) _).alloc (by simp) _) (by omega) cs
  have c12 : w0.cell? ⟨w.heap.size + 1, 12, none⟩ = some (.int .u32 s.d0) := a1.cell 12
  have f12 : w0.frozen? ⟨w.heap.size + 1, 12, none⟩ = false := a1.frozen 12
  have b1 := a1.at12 n
  have b0 : Row (w0.setCell ⟨w.heap.size + 1, 12, none⟩ (.int .u32 n)) w.heap.size 58 (byV (List.replicate 64 0)) := (Below.heap_setCell _ _ _ _ (by simp)).trans a0
  have bb := ab.setCell (p := ⟨w.heap.size + 1, 12, none⟩) (by simp) (.int .u32 n)
  obtain ⟨w1, hw1⟩ : ∃ w1, w0.setCell ⟨w.heap.size + 1, 12, none⟩ (.int .u32 n) = w1 := ⟨_, rfl⟩
  rw [hw1] at b1 b0 bb
  clear a1 a0 ab hk1
  have HM := mixed_any (s.at n) (S16.at_ok hs hn) (w.heap.size + 1) 139 w1 b1
  have hnW := fun i => blkW_add (s.at n) i
  have hlW := fun i => blkW_lt (s.at n) i
  have hstep := fun j k => blk_step (s.at n) j k
  have hall := blkF_all (s.at n)
  have hlen := fun j => blkN_length (s.at n) j
  have hsz2 : (wdV ((s.at n).rounds 10).toL).toArray.size = 16 := rfl
  have hone2 : (wdV ((s.at n).rounds 10).toL).toArray.all (·.oneCell') = true := by simp [wdV, Value.oneCell']
  have hget2 : ∀ i, i < 16 → (wdV ((s.at n).rounds 10).toL).toArray[i]? = some (.int .u32 (((s.at n).rounds 10).toL.getD i 0 : Nat)) := fun i hi => by rw [List.getElem?_toArray]; exact toL_get _ i hi
  have hget1 : ∀ i, i < 16 → (wdV (s.at n).toL)[i]? = some (.int .u32 ((s.at n).toL.getD i 0 : Nat)) := fun i hi => toL_get _ i hi
  obtain ⟨ms, hms⟩ : ∃ ms, ms = (wdV ((s.at n).rounds 10).toL).toArray := ⟨_, rfl⟩
  rw [← hms] at HM hsz2 hone2 hget2
  clear hms
  have hinfo2 : (Tryz.prog.info? 139).map (·.size) = some ms.size := by rw [hsz2]; kernel_rfl
  generalize (s.at n).rounds 10 = T at *
  have HH : Hid (Row w1 (w.heap.size + 1) 139 (wdV (s.at n).toL) ∧ Row w1 w.heap.size 58 (byV (List.replicate 64 0)) ∧ Below w.heap.size w w1) := ⟨b1, b0, bb⟩
  clear b1 b0 bb
  generalize s.at n = S at *
  go_enter Tryz.func109, Tryz.ntmps109
  go_wp2_with (first | refine wpList_load_row rfl 139 _ rfl g rfl 139 _ (0, 0) _ (hg0 _) Tryz.underlying139 rfl hinfo ?_ | refine wpList_store_row rfl 139 _ _ rfl (w.heap.size + 1) cs rfl rfl 139 _ (heap_alloc2_new w _ _) hinfo (by rw [hsz]; rfl) hone ?_)
  refine HM.mono ?_
  rintro e w2 ⟨rfl, hb2⟩
  have k1 := HH.out.1.below hb2 HH.out.1.lt
  have k0 := HH.out.2.1.below hb2 HH.out.2.1.lt
  have hbw := HH.out.2.2.trans (hb2.mono HH.out.2.2.size)
  have hlt2 : w.heap.size + 1 < w2.heap.size := k1.lt
  clear HM hb2 HH hw0 hw1 hg0 c12 f12 hinfo hone hsz
  obtain ⟨w3, hw3⟩ : ∃ w3, ((w2.alloc (.cells #[.int .u32 0, .int .u32 0, .int .u32 0, .int .u32 0, .int .u32 0, .int .u32 0, .int .u32 0, .int .u32 0, .int .u32 0, .int .u32 0, .int .u32 0, .int .u32 0, .int .u32 0, .int .u32 0, .int .u32 0, .int .u32 0] 139)).setRow w2.heap.size ms).alloc (.cells #[.int .u8 0, .int .u8 0, .int .u8 0, .int .u8 0, .int .u8 0, .int .u8 0, .int .u8 0, .int .u8 0, .int .u8 0, .int .u8 0, .int .u8 0, .int .u8 0, .int .u8 0, .int .u8 0, .int .u8 0, .int .u8 0, .int .u8 0, .int .u8 0, .int .u8 0, .int .u8 0, .int .u8 0, .int .u8 0, .int .u8 0, .int .u8 0, .int .u8 0, .int .u8 0, .int .u8 0, .int .u8 0, .int .u8 0, .int .u8 0, .int .u8 0, .int .u8 0, .int .u8 0, .int .u8 0, .int .u8 0, .int .u8 0, .int .u8 0, .int .u8 0, .int .u8 0, .int .u8 0, .int .u8 0, .int .u8 0, .int .u8 0, .int .u8 0, .int .u8 0, .int .u8 0, .int .u8 0, .int .u8 0, .int .u8 0, .int .u8 0, .int .u8 0, .int .u8 0, .int .u8 0, .int .u8 0, .int .u8 0, .int .u8 0, .int .u8 0, .int .u8 0, .int .u8 0, .int .u8 0, .int .u8 0, .int .u8 0, .int .u8 0, .int .u8 0] 58) = w3 := ⟨_, rfl⟩
  have hw3' : (w2.alloc (.cells ms 139)).alloc (.cells #[.int .u8 0, .int .u8 0, .int .u8 0, .int .u8 0, .int .u8 0, .int .u8 0, .int .u8 0, .int .u8 0, .int .u8 0, .int .u8 0, .int .u8 0, .int .u8 0, .int .u8 0, .int .u8 0, .int .u8 0, .int .u8 0, .int .u8 0, .int .u8 0, .int .u8 0, .int .u8 0, .int .u8 0, .int .u8 0, .int .u8 0, .int .u8 0, .int .u8 0, .int .u8 0, .int .u8 0, .int .u8 0, .int .u8 0, .int .u8 0, .int .u8 0, .int .u8 0, .int .u8 0, .int .u8 0, .int .u8 0, .int .u8 0, .int .u8 0, .int .u8 0, .int .u8 0, .int .u8 0, .int .u8 0, .int .u8 0, .int .u8 0, .int .u8 0, .int .u8 0, .int .u8 0, .int .u8 0, .int .u8 0, .int .u8 0, .int .u8 0, .int .u8 0, .int .u8 0, .int .u8 0, .int .u8 0, .int .u8 0, .int .u8 0, .int .u8 0, .int .u8 0, .int .u8 0, .int .u8 0, .int .u8 0, .int .u8 0, .int .u8 0, .int .u8 0] 58) = w3 := by rw [← hw3, World.setRow_alloc_new]
  have m3 : w3.heap[w2.heap.size]? = some (.cells ms 139 (0, 0)) := by rw [← hw3']; exact heap_alloc2_old w2 _ _
  have n3 : Row w3 (w2.heap.size + 1) 58 (rowF 64 (blkF (blkN S 0))) := by rw [← hw3']; exact heap_alloc2_new w2 _ _
  have b3 : Below w2.heap.size w2 w3 := by rw [← hw3']; exact ((Below.refl _ _).alloc (Nat.le_refl _) _).alloc (by simp) _
  have k1' := k1.below b3 k1.lt
  have k0' := k0.below b3 k0.lt
  have hbw' := hbw.trans (b3.mono hbw.size)
  have HL : Hid (Row w3 (w2.heap.size + 1) 58 (rowF 64 (blkF (blkN S 0))) ∧ Row w3 (w.heap.size + 1) 139 (wdV S.toL) ∧ Row w3 w.heap.size 58 (byV (List.replicate 64 0)) ∧ Below w.heap.size w w3) := ⟨n3, k1', k0', hbw'⟩
  clear k1 k0 hbw k1' k0' hbw' n3 b3 hw3'
  go_wp2_with (first | refine wpList_store_row rfl 139 _ _ rfl w2.heap.size ms rfl rfl 139 _ (heap_alloc_new w2 _) hinfo2 (by rw [hsz2]; rfl) hone2 ?_ | refine wpList_load_row rfl 139 _ rfl w2.heap.size rfl 139 _ (0, 0) _ m3 Tryz.underlying139 rfl hinfo2 ?_)
  clear hw3 m3 hinfo2 hone2 hsz2
  go_loopw [17] (fun i wr => ∃ j : Nat, j ≤ 16 ∧ i = .int .i64 j ∧ Row wr (w2.heap.size + 1) 58 (rowF 64 (blkF (blkN S j))) ∧ Row wr (w.heap.size + 1) 139 (wdV S.toL) ∧ Row wr w.heap.size 58 (byV (List.replicate 64 0)) ∧ Below w.heap.size w wr) (fun i _ => 16 - (intOf i).toNat)
  case atStart => exact ⟨0, Nat.zero_le _, rfl, HL.out⟩
  case round =>
    clear HL
    obtain ⟨j, hj, rfl, k2, k1, k0, hbw⟩ := hrel
    by_cases hlt : j < 16
    · have hix := fun w => index_state ms j _ hlt (hget2 j hlt) w
      have c1 : wr.cell? ⟨w.heap.size + 1, j, none⟩ = some (.int .u32 (S.toL.getD j 0 : Nat)) := by rw [k1.cell, hget1 j hlt]
      have v1 := hnW j
      have lW := hlW j
      have hst := fun k => hstep j k
      have d0 := k2.cellF (4 * j) (by omega)
      have d1 := k2.cellF (4 * j + 1) (by omega)
      have d2 := k2.cellF (4 * j + 2) (by omega)
      have d3 := k2.cellF (4 * j + 3) (by omega)
      have ff : ∀ i, wr.frozen? ⟨w2.heap.size + 1, i, none⟩ = false := fun i => k2.frozen i
      generalize blkW S j = W at *
      generalize T.toL.getD j 0 = x at *
      generalize S.toL.getD j 0 = y at *
      have k3 := (((k2.setF (4 * j) (.int .u8 ((W : Int) % 256))).setF (4 * j + 1) (.int .u8 ((W : Int) / 256 % 256))).setF (4 * j + 2) (.int .u8 ((W : Int) / 65536 % 256))).setF (4 * j + 3) (.int .u8 ((W : Int) / 16777216))
      have hrow : (rowF 64 fun k => if k = 4 * j + 3 then Value.int .u8 ((W : Int) / 16777216) else if k = 4 * j + 2 then Value.int .u8 ((W : Int) / 65536 % 256) else if k = 4 * j + 1 then Value.int .u8 ((W : Int) / 256 % 256) else if k = 4 * j then Value.int .u8 ((W : Int) % 256) else blkF (blkN S j) k) = rowF 64 (blkF (blkN S (j + 1))) := rowF_congr fun k _ => by
        show _ = Value.int .u8 ((blkN S (j + 1)).getD k 0 : Nat)
        rw [← hst k]
        by_cases h3 : k = 4 * j + 3
        · rw [if_pos h3, if_pos h3, Nat.mod_eq_of_lt (by omega)]; rfl
        · rw [if_neg h3, if_neg h3]
          by_cases h2 : k = 4 * j + 2
          · rw [if_pos h2, if_pos h2]; rfl
          · rw [if_neg h2, if_neg h2]
            by_cases h1 : k = 4 * j + 1
            · rw [if_pos h1, if_pos h1]; rfl
            · rw [if_neg h1, if_neg h1]
              by_cases h0 : k = 4 * j
              · rw [if_pos h0, if_pos h0]; rfl
              · rw [if_neg h0, if_neg h0]; rfl
      rw [hrow] at k3
      have ho : Only (w2.heap.size + 1) wr ((((wr.setCell ⟨w2.heap.size + 1, 4 * j, none⟩ (.int .u8 ((W : Int) % 256))).setCell ⟨w2.heap.size + 1, 4 * j + 1, none⟩ (.int .u8 ((W : Int) / 256 % 256))).setCell ⟨w2.heap.size + 1, 4 * j + 2, none⟩ (.int .u8 ((W : Int) / 65536 % 256))).setCell ⟨w2.heap.size + 1, 4 * j + 3, none⟩ (.int .u8 ((W : Int) / 16777216))) := ((((Only.refl _ _).setCell _ _).setCell _ _).setCell _ _).setCell _ _
      have k1' := k1.only ho (by omega)
      have k0' := k0.only ho (by omega)
      have hbw' := hbw.trans ((ho.below (Nat.le_of_lt k2.lt)).mono (by omega))
      have HR : Hid (Row ((((wr.setCell ⟨w2.heap.size + 1, 4 * j, none⟩ (.int .u8 ((W : Int) % 256))).setCell ⟨w2.heap.size + 1, 4 * j + 1, none⟩ (.int .u8 ((W : Int) / 256 % 256))).setCell ⟨w2.heap.size + 1, 4 * j + 2, none⟩ (.int .u8 ((W : Int) / 65536 % 256))).setCell ⟨w2.heap.size + 1, 4 * j + 3, none⟩ (.int .u8 ((W : Int) / 16777216))) (w2.heap.size + 1) 58 (rowF 64 (blkF (blkN S (j + 1)))) ∧ Row ((((wr.setCell ⟨w2.heap.size + 1, 4 * j, none⟩ (.int .u8 ((W : Int) % 256))).setCell ⟨w2.heap.size + 1, 4 * j + 1, none⟩ (.int .u8 ((W : Int) / 256 % 256))).setCell ⟨w2.heap.size + 1, 4 * j + 2, none⟩ (.int .u8 ((W : Int) / 65536 % 256))).setCell ⟨w2.heap.size + 1, 4 * j + 3, none⟩ (.int .u8 ((W : Int) / 16777216))) (w.heap.size + 1) 139 (wdV S.toL) ∧ Row ((((wr.setCell ⟨w2.heap.size + 1, 4 * j, none⟩ (.int .u8 ((W : Int) % 256))).setCell ⟨w2.heap.size + 1, 4 * j + 1, none⟩ (.int .u8 ((W : Int) / 256 % 256))).setCell ⟨w2.heap.size + 1, 4 * j + 2, none⟩ (.int .u8 ((W : Int) / 65536 % 256))).setCell ⟨w2.heap.size + 1, 4 * j + 3, none⟩ (.int .u8 ((W : Int) / 16777216))) w.heap.size 58 (byV (List.replicate 64 0)) ∧ Below w.heap.size w ((((wr.setCell ⟨w2.heap.size + 1, 4 * j, none⟩ (.int .u8 ((W : Int) % 256))).setCell ⟨w2.heap.size + 1, 4 * j + 1, none⟩ (.int .u8 ((W : Int) / 256 % 256))).setCell ⟨w2.heap.size + 1, 4 * j + 2, none⟩ (.int .u8 ((W : Int) / 65536 % 256))).setCell ⟨w2.heap.size + 1, 4 * j + 3, none⟩ (.int .u8 ((W : Int) / 16777216)))) := ⟨k3, k1', k0', hbw'⟩
      clear hrow k3 ho k1' k0' hbw' k2 k1 k0 hbw hst hget1 hget2 hnW hlW hstep hall hlen
      have q0 : IntKind.i64.wrap (4 * (j : Int)) = 4 * j := by rw [IntKind.wrap_i64]; omega
      have q1 : IntKind.i64.wrap (4 * (j : Int) + 1) = 4 * j + 1 := by rw [IntKind.wrap_i64]; omega
      have q2 : IntKind.i64.wrap (4 * (j : Int) + 2) = 4 * j + 2 := by rw [IntKind.wrap_i64]; omega
      have q3 : IntKind.i64.wrap (4 * (j : Int) + 3) = 4 * j + 3 := by rw [IntKind.wrap_i64]; omega
      have t0 : (4 * (j : Int)).toNat = 4 * j := by omega
      have t1 : (4 * (j : Int) + 1).toNat = 4 * j + 1 := by omega
      have t2 : (4 * (j : Int) + 2).toNat = 4 * j + 2 := by omega
      have t3 : (4 * (j : Int) + 3).toNat = 4 * j + 3 := by omega
      have r0 : (0 : Int) ≤ 4 * (j : Int) := by omega
      have r1 : (0 : Int) ≤ 4 * (j : Int) + 1 := by omega
      have r2 : (0 : Int) ≤ 4 * (j : Int) + 2 := by omega
      have r3 : (0 : Int) ≤ 4 * (j : Int) + 3 := by omega
      have s0 : 4 * (j : Int) < 64 := by omega
      have s1 : 4 * (j : Int) + 1 < 64 := by omega
      have s2 : 4 * (j : Int) + 2 < 64 := by omega
      have s3 : 4 * (j : Int) + 3 < 64 := by omega
      have s4 : (j : Int) < 16 := by omega
      go_wp2_with fail
      go_roundw
      case rel => exact ⟨j + 1, by omega, by go_num, HR.out⟩
      case measure => simp [intOf]; omega
    · obtain rfl : j = 16 := by omega
      rw [hall] at k2
      obtain ⟨ds, hds⟩ : ∃ ds, ds = (byV (blkL S)).toArray := ⟨_, rfl⟩
      have hsz : ds.size = 64 := by rw [hds]; simp [byV, blkL_length]
      have hone : ds.all (·.oneCell') = true := by rw [hds]; simp [byV, Value.oneCell']
      have k1' : wr.heap[w2.heap.size + 1]? = some (.cells ds 58 (0, 0)) := by rw [hds]; exact k2
      have HDS : Hid (ds = (byV (blkL S)).toArray) := hds
      clear hds k2 k1 hget1 hget2 hnW hlW hstep hall hlen
      have k0' : wr.heap[w.heap.size]? = some (.cells (byV (List.replicate 64 0)).toArray 58 (0, 0)) := k0
      have hs0 : (byV (List.replicate 64 0)).toArray.size = ds.size := by rw [hsz]; rfl
      have hinfo : (Tryz.prog.info? 58).map (·.size) = some ds.size := by rw [hsz]; kernel_rfl
      have hba := below_rowH hbw (Nat.le_refl _) ds
      have hl0 := run_loadVar_row (P := Tryz.prog) (wr.setRow w.heap.size ds) w.heap.size 58 58 ds (0, 0) _ (setRow_heap _ _ _ _ _ _ k0') Tryz.underlying58 rfl hinfo
      go_wp2_with (first | refine wpList_load_row rfl 58 _ rfl (w2.heap.size + 1) rfl 58 _ (0, 0) _ k1' Tryz.underlying58 rfl hinfo ?_ | refine wpList_store_row rfl 58 _ _ rfl w.heap.size ds rfl rfl 58 _ k0' hinfo hs0 hone ?_)
      exact bodyPost_ret (v := .agg ds) (by simp [results, Tryz.results109, asAddr, Act.put, hl0]) rfl ⟨by rw [HDS.out], hba⟩
end Go.Proofs.YtfmaajfohieneaaGreatDoor.Bx
