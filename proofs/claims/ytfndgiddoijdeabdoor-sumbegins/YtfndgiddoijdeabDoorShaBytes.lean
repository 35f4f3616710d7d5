/- sum's state.bytes, called with a state, tells its 32 bytes, and changes nothing that was there. -/
import Derived.Test.YtfndgiddoijdeabDoorShaHigh
namespace Go.Proofs.YtfndgiddoijdeabDoor
open Go.RowKit

/-- A state as a value's cells. -/
def stC (s : St) : Array Value := #[.int .u32 (s.a : Nat), .int .u32 (s.b : Nat), .int .u32 (s.c : Nat), .int .u32 (s.d : Nat), .int .u32 (s.e : Nat), .int .u32 (s.f : Nat), .int .u32 (s.g : Nat), .int .u32 (s.h : Nat)]
/-- Bytes as values. -/
def byV (l : List Nat) : List Value := l.map fun x => Value.int .u8 (x : Nat)

/-- Word i of a state. -/
def St.at (s : St) (i : Nat) : Nat := [s.a, s.b, s.c, s.d, s.e, s.f, s.g, s.h].getD i 0
theorem St.at_lt {s : St} (h : s.ok) (i : Nat) : s.at i < 4294967296 := by
  obtain ⟨h1, h2, h3, h4, h5, h6, h7, h8⟩ := h
  refine getD_lt (by decide) (fun x hx => ?_) i
  simp only [List.mem_cons, List.not_mem_nil, or_false] at hx
  rcases hx with rfl | rfl | rfl | rfl | rfl | rfl | rfl | rfl <;> assumption
theorem stC_at (s : St) (i : Nat) (h : i < 8) : (stC s)[i]? = some (.int .u32 (s.at i : Nat)) := by
  match i, h with
  | 0, _ => rfl
  | 1, _ => rfl
  | 2, _ => rfl
  | 3, _ => rfl
  | 4, _ => rfl
  | 5, _ => rfl
  | 6, _ => rfl
  | 7, _ => rfl
theorem beV4 (n : Nat) : beV 4 n = byV (be4 n) := by
  simp [beV, byV, be4, List.range, List.range.loop]
/-- The bytes of a state's first n words. -/
def outN (s : St) : Nat → List Nat
  | 0 => []
  | n + 1 => outN s n ++ be4 (s.at n)
theorem outN_length (s : St) : ∀ n, (outN s n).length = 4 * n
  | 0 => rfl
  | n + 1 => by rw [outN, List.length_append, outN_length s n, be4_length]; omega
theorem outN_all (s : St) : outN s 8 = outL s := rfl
/-- 32 bytes, of which the first ones are told. -/
def digV (l : List Nat) : List Value := byV l ++ List.replicate (32 - l.length) (Value.int .u8 0)

theorem below_rowH {B g : Nat} {w0 w : World} (h : Below B w0 w) (hg : B ≤ g) (cs : Array Value) : Below B w0 (w.setRow g cs) :=
  h.trans ⟨rfl, rfl, rfl, by simp [World.setRow], fun k hk => setRow_other _ _ _ _ (by omega)⟩
theorem index_state (cs : Array Value) (j : Nat) (v : Value) (hj : j < 8) (hv : cs[j]? = some v) (w : World) : (Instr.index 38 (.agg cs) (.int .i64 j)).run Tryd.prog w = .ok v w := by
  simp [Instr.index, run_underlying Tryd.underlying38, asIntOf, hj, hv, go_sem]
theorem digV_split (s : St) (j : Nat) (h : j < 8) : digV (outN s j) = byV (outN s j) ++ List.replicate 4 (Value.int .u8 0) ++ List.replicate (28 - 4 * j) (Value.int .u8 0) := by
  rw [digV, outN_length, List.append_assoc, List.replicate_append_replicate]
  congr 2
  omega
theorem digV_step (s : St) (j : Nat) (h : j < 8) : byV (outN s j) ++ beV 4 (s.at j) ++ List.replicate (28 - 4 * j) (Value.int .u8 0) = digV (outN s (j + 1)) := by
  rw [digV, outN_length, beV4, outN, byV, byV, byV, List.map_append]
  congr 2
  omega

set_option maxHeartbeats 1000000 in
theorem bytes_any (s : St) (hs : s.ok) (w : World) :
    Calls Tryd.prog 32 #[.agg (stC s)] w fun e w' => e = .returned (.agg (byV (outL s)).toArray) ∧ Below w.heap.size w w' := by
  have HS : Hid (∀ i, i < 8 → (stC s)[i]? = some (.int .u32 (s.at i : Nat)) ∧ s.at i < 4294967296) := fun i h => ⟨stC_at s i h, St.at_lt hs i⟩
  have hinf : (Tryd.prog.info? 38).map (·.size) = some (stC s).size := by show _ = some 8; kernel_rfl
  obtain ⟨cs, hcs⟩ : ∃ cs, cs = stC s := ⟨_, rfl⟩
  rw [← hcs] at HS hinf
  rw [← hcs]
  clear hcs
  have hg0 : ∀ o1 o2, (((w.alloc (.cells cs 38)).alloc o1).alloc o2).heap[w.heap.size]? = some (.cells cs 38 (0, 0)) := fun o1 o2 => (Below.heap_alloc _ _ _ (by simp; omega)).trans (heap_alloc2_old w _ _)
  go_enter Tryd.func32, Tryd.ntmps32
  go_wp2_with (refine wpList_load_row rfl 38 _ rfl w.heap.size rfl 38 _ (0, 0) _ (hg0 _ _) Tryd.underlying38 rfl hinf ?_)
  have HB : Hid (Below w.heap.size w (((w.alloc (.cells cs 38)).alloc (.cells (digV []).toArray 49)).alloc (.cells (digV []).toArray 49))) := (((Below.refl _ _).alloc (Nat.le_refl _) _).alloc (by simp) _).alloc (by simp; omega) _
  clear hg0 hinf
  go_loopw [7] (fun i wr => ∃ j : Nat, j ≤ 8 ∧ i = .int .i64 j ∧ Row wr (w.heap.size + 1 + 1) 49 (digV (outN s j)) ∧ Row wr (w.heap.size + 1) 49 (digV []) ∧ Below w.heap.size w wr) (fun i _ => 8 - (intOf i).toNat)
  case atStart =>
    refine ⟨0, Nat.zero_le _, rfl, ?_, ?_, HB.out⟩
    · have := heap_alloc_new ((w.alloc (.cells cs 38)).alloc (.cells (digV []).toArray 49)) (.cells (digV []).toArray 49)
      simpa [Row, digV, outN, byV] using this
    · exact (Below.heap_alloc _ _ _ (by simp)).trans (heap_alloc2_new w _ _)
  case round =>
    obtain ⟨j, hj, rfl, k1, k0, hbw⟩ := hrel
    by_cases hlt : j < 8
    · obtain ⟨ha, hal⟩ := HS.out j hlt
      obtain ⟨x, hx⟩ : ∃ x, x = s.at j := ⟨_, rfl⟩
      rw [← hx] at ha hal
      have hix := index_state cs j _ hlt ha wr
      clear ha
      have HX : Hid (x = s.at j) := hx
      clear hx
      have q0 : IntKind.i64.wrap (4 * (j : Int)) = 4 * j := by rw [IntKind.wrap_i64]; omega
      have q1 : IntKind.i64.wrap (4 * (j : Int) + 4) = 4 * j + 4 := by rw [IntKind.wrap_i64]; omega
      have t0 : ((4 : Int) * j).toNat = 4 * j := by omega
      have t1 : ((4 : Int) * j + 4).toNat = 4 * j + 4 := by omega
      have r0 : (0 : Int) ≤ 4 * (j : Int) := by omega
      have r1 : 4 * (j : Int) ≤ 4 * (j : Int) + 4 := by omega
      have r2 : 4 * (j : Int) + 4 ≤ 32 := by omega
      have s4 : (j : Int) < 8 := by omega
      have n4 : ¬ 32 = 4 * j := by omega
      have k1' : Row wr (w.heap.size + 1 + 1) 49 (byV (outN s j) ++ List.replicate 4 (Value.int .u8 0) ++ List.replicate (28 - 4 * j) (Value.int .u8 0)) := by rw [← digV_split s j hlt]; exact k1
      have HP := putHigh_at (w.heap.size + 1 + 1) 49 (4 * j) _ _ _ (by simp [byV, outN_length]) 4 (32 - 4 * j) x (by decide) (by simp) wr k1'
      have HA : Hid (byV (outN s j) ++ beV 4 x ++ List.replicate (28 - 4 * j) (Value.int .u8 0) = digV (outN s (j + 1))) := by
        show _ = _
        rw [HX.out]; exact digV_step s j hlt
      rw [HA.out] at HP
      clear k1 k1'
      go_wp2_with fail
      refine HP.mono ?_
      rintro e w2 ⟨rfl, k1, ho⟩
      have hlt0 : w.heap.size + 1 < wr.heap.size := lt_of_block k0
      have k0' : Row w2 (w.heap.size + 1) 49 (digV []) := (ho.2 _ hlt0 (by omega)).trans k0
      have hbw' : Below w.heap.size w w2 := hbw.trans ((ho.below (by omega)).mono (by omega))
      clear HP k0 hbw hix ho
      go_wp2
      go_roundw
      case rel => exact ⟨j + 1, by omega, by go_num, k1, k0', hbw'⟩
      case measure => simp [intOf]; omega
    · obtain rfl : j = 8 := by omega
      have hrow : digV (outN s 8) = byV (outL s) := by rw [digV, outN_length, outN_all]; simp
      rw [hrow] at k1
      obtain ⟨ds, hds⟩ : ∃ ds, ds = (byV (outL s)).toArray := ⟨_, rfl⟩
      have hsz : ds.size = 32 := by rw [hds]; simp [byV, outL_length]
      have hone : ds.all (·.oneCell') = true := by rw [hds]; simp [byV, Value.oneCell']
      have k1' : wr.heap[w.heap.size + 1 + 1]? = some (.cells ds 49 (0, 0)) := by rw [hds]; exact k1
      have HDS : Hid (ds = (byV (outL s)).toArray) := hds
      clear hds k1 hrow
      have k0' : wr.heap[w.heap.size + 1]? = some (.cells (digV []).toArray 49 (0, 0)) := k0
      have hs0 : (digV []).toArray.size = ds.size := by rw [hsz]; rfl
      have hinfo : (Tryd.prog.info? 49).map (·.size) = some ds.size := by rw [hsz]; kernel_rfl
      have hba := below_rowH hbw (show w.heap.size ≤ w.heap.size + 1 by omega) ds
      have hl0 := run_loadVar_row (P := Tryd.prog) (wr.setRow (w.heap.size + 1) ds) (w.heap.size + 1) 49 49 ds (0, 0) _ (setRow_heap _ _ _ _ _ _ k0') Tryd.underlying49 rfl hinfo
      go_wp2_with (first | refine wpList_load_row rfl 49 _ rfl (w.heap.size + 1 + 1) rfl 49 _ (0, 0) _ k1' Tryd.underlying49 rfl hinfo ?_ | refine wpList_store_row rfl 49 _ _ rfl (w.heap.size + 1) ds rfl rfl 49 _ k0' hinfo hs0 hone ?_)
      exact bodyPost_ret (v := .agg ds) (by simp [results, Tryd.results32, asAddr, Act.put, hl0]) rfl ⟨by rw [HDS.out], hba⟩
end Go.Proofs.YtfndgiddoijdeabDoor
