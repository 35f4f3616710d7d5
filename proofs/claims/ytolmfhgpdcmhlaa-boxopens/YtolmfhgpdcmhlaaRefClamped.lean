/- The document's clamped: the first sixteen bytes of a key, bits taken away. -/
import Derived.Test.YtolmfhgpdcmhlaaRefLess
namespace Go.Proofs.Ytolmfhgpdcmhlaa
open Go.RowKit

/-- A block's first cells, told by a function. -/
structure CellsF (w : World) (g n : Nat) (f : Nat → Value) : Prop where
  lt : g < w.heap.size
  cells : ∀ i, i < n → w.cell? ⟨g, i, none⟩ = some (f i)
  free : ∀ i, i < n → w.frozen? ⟨g, i, none⟩ = false
theorem CellsF.below {w w' : World} {g B n : Nat} {f : Nat → Value} (h : CellsF w g n f) (hb : Below B w w') (hg : g < B) : CellsF w' g n f :=
  ⟨Nat.lt_of_lt_of_le h.lt hb.size, fun i hi => (hb.cell (p := ⟨g, i, none⟩) hg).trans (h.cells i hi), fun i hi => (hb.frozen (p := ⟨g, i, none⟩) hg).trans (h.free i hi)⟩
theorem CellsF.congr {w : World} {g n : Nat} {f f' : Nat → Value} (h : CellsF w g n f) (e : ∀ i, i < n → f i = f' i) : CellsF w g n f' := ⟨h.lt, fun i hi => by rw [h.cells i hi, e i hi], h.free⟩
theorem CellsF.drewN {w : World} {g n : Nat} {f : Nat → Value} (h : CellsF w g n f) (k : Nat) : CellsF (w.drewN k) g n f := ⟨h.lt, h.cells, h.free⟩
theorem CellsF.set {w : World} {g n : Nat} {f : Nat → Value} (h : CellsF w g n f) (i : Nat) (v : Value) (hi : i < n) : CellsF (w.setCell ⟨g, i, none⟩ v) g n (fun k => if k = i then v else f k) := by
  refine ⟨by have := h.lt; simp [World.setCell]; exact this, fun j hj => ?_, fun j hj => ?_⟩
  · by_cases e : j = i
    · subst e
      rw [if_pos rfl, World.cell?_setCell_same _ _ _ (h.cells j hj)]
    · rw [if_neg e, World.cell?_setCell_other _ _ _ _ (by intro hh; injection hh with _ h2; exact e h2.symm)]
      exact h.cells j hj
  · rw [World.frozen?_setCell]; exact h.free j hj
def cl (l : List Nat) (j k : Nat) : Nat := if k < j then clampB k (l.getD k 0) else l.getD k 0
theorem cl_step (l : List Nat) (j k : Nat) : (if k = j then Value.int .u8 ((clampB j (l.getD j 0) : Nat) : Int) else .int .u8 ((cl l j k : Nat) : Int)) = .int .u8 ((cl l (j + 1) k : Nat) : Int) := by
  unfold cl
  by_cases e : k = j
  · subst e
    rw [if_pos rfl, if_pos (by omega)]
  · rw [if_neg e]
    by_cases h : k < j
    · rw [if_pos h, if_pos (by omega)]
    · rw [if_neg h, if_neg (by omega)]
theorem cl_same (l : List Nat) (j k : Nat) (h : clampB j (l.getD j 0) = l.getD j 0) : cl l j k = cl l (j + 1) k := by
  unfold cl
  by_cases e : k = j
  · subst e
    rw [if_neg (by omega), if_pos (by omega), h]
  · by_cases h : k < j
    · rw [if_pos h, if_pos (by omega)]
    · rw [if_neg h, if_neg (by omega)]

set_option maxRecDepth 10000 in
set_option maxHeartbeats 1000000 in
theorem rclamped_any (key : ByteArray) (hk : key.size = 32) (w : World) :
    Calls Try.prog 28 #[.string key] w fun e w' => e = .returned (.string (strN (clampL (numsOf key)))) ∧ Below w.heap.size w w' := by
  have hxs : (key.extract 0 16).size = 16 := by simp; omega
  have hcv := fun w' => Lib.run_convert_string_bytes (P := Try.prog) w' 9 37 5 (key.extract 0 16) Try.underlying9 Try.underlying37 Try.underlying5
  have hO := bytesWorld_own w 5 (key.extract 0 16) (by rw [hxs]; decide)
  have hB := bytesWorld_below w 5 (key.extract 0 16)
  rw [numsV, numsOf_extract, hxs] at hO
  rw [hxs] at hcv
  have hkl : (numsOf key).length = 32 := by rw [numsOf_length]; exact hk
  have hkb := numsOf_bytes key
  obtain ⟨R, hR⟩ : ∃ R, R = strN (clampL (numsOf key)) := ⟨_, rfl⟩
  rw [← hR]
  have HR : Hid (R = strN (clampL (numsOf key))) := hR
  clear hR
  generalize numsOf key = l at *
  have hC : CellsF (Lib.bytesWorld w 5 (key.extract 0 16)) w.heap.size 16 (fun k => .int .u8 ((cl l 0 k : Nat) : Int)) := by
    refine ⟨hO.lt, fun i hi => ?_, fun i hi => hO.free i (by have := hO.room; omega)⟩
    refine hO.cells i _ ?_
    rw [byV_get _ _ (by simp; omega)]
    congr 3
    rw [getD_at _ _ (by simp; omega)]
    unfold cl
    rw [if_neg (by omega), getD_at _ _ (by omega)]
    simp
  have HC : Hid (CellsF (Lib.bytesWorld w 5 (key.extract 0 16)) w.heap.size 16 (fun k => .int .u8 ((cl l 0 k : Nat) : Int)) ∧ Below w.heap.size w (Lib.bytesWorld w 5 (key.extract 0 16))) := ⟨hC, hB⟩
  clear hC hB hO
  go_enter Try.func28, Try.ntmps28
  go_wp2_with fail
  go_loopw [4] (fun i wr => ∃ j : Nat, j ≤ 16 ∧ i = .int .i64 j ∧ CellsF wr w.heap.size 16 (fun k => .int .u8 ((cl l j k : Nat) : Int)) ∧ Below w.heap.size w wr) (fun i _ => 16 - (intOf i).toNat)
  case atStart => exact ⟨0, Nat.zero_le _, rfl, HC.out⟩
  case round =>
    clear HC hcv
    obtain ⟨j, hj, rfl, hC, hb⟩ := hrel
    by_cases hlt : j < 16
    · have cx : wr.cell? ⟨w.heap.size, j, none⟩ = some (.int .u8 (l.getD j 0 : Nat)) := by
        rw [hC.cells j hlt]
        unfold cl
        rw [if_neg (by omega)]
      have fx := hC.free j hlt
      have lx : l.getD j 0 < 256 := getD_lt (by decide) hkb j
      have j16 : (j : Int) < 16 := by omega
      have HS : Hid (∀ v, v = clampB j (l.getD j 0) → ∀ n, CellsF ((wr.setCell ⟨w.heap.size, j, none⟩ (.int .u8 (v : Nat))).drewN n) w.heap.size 16 (fun k => .int .u8 ((cl l (j + 1) k : Nat) : Int)) ∧ Below w.heap.size w ((wr.setCell ⟨w.heap.size, j, none⟩ (.int .u8 (v : Nat))).drewN n)) := fun v hv n => by
        subst hv
        exact ⟨((hC.set j _ hlt).congr fun k _ => cl_step l j k).drewN n, below_drewN (hb.setCell (p := ⟨w.heap.size, j, none⟩) (Nat.le_refl _) _) n⟩
      by_cases h3 : j % 4 = 3
      · have HF0 := HS.out (l.getD j 0 % 16) (by unfold clampB; rw [if_pos h3]) 0
        have HF : Hid _ := HF0
        have h3i : (j : Int) % 4 = 3 := by omega
        clear hC hb HS HF0
        generalize l.getD j 0 = x at *
        have v1 : ((x % 16 : Nat) : Int) = (x : Int) % 16 := by omega
        rw [v1] at HF
        clear v1
        go_wp2
        go_roundw
        case rel => exact ⟨j + 1, by omega, by go_num, HF.out.1, HF.out.2⟩
        case measure => simp [intOf]; omega
      · by_cases h0 : j % 4 = 0 ∧ 0 < j
        · have HF0 := HS.out (l.getD j 0 - l.getD j 0 % 4) (by unfold clampB; rw [if_neg h3, if_pos h0])
          have HF : Hid _ := HF0
          have h3i : (j : Int) % 4 = 0 := by omega
          have h0i : (0 : Int) < j := by omega
          have h0n : 0 < j := h0.2
          clear hC hb HS HF0
          generalize l.getD j 0 = x at *
          have v1 : IntKind.u8.wrap ((x : Int) - (x : Int) % 4) = ((x - x % 4 : Nat) : Int) := by rw [IntKind.wrap_u8]; omega
          go_wp2_with fail
          go_region
          all_goals
            go_wp2
            go_roundw
            case rel => exact ⟨j + 1, by omega, by go_num, (HF.out 1).1, (HF.out 1).2⟩
            case measure => simp [intOf]; omega
        · have HF : Hid (CellsF wr w.heap.size 16 (fun k => .int .u8 ((cl l (j + 1) k : Nat) : Int)) ∧ Below w.heap.size w wr) := ⟨hC.congr fun k _ => by rw [cl_same l j k (by unfold clampB; rw [if_neg h3, if_neg h0])], hb⟩
          have h3i : ¬ (j : Int) % 4 = 3 := by omega
          clear hC hb HS cx fx lx
          by_cases hz : j = 0
          · subst hz
            go_wp2
            go_roundw
            case rel => exact ⟨1, by omega, rfl, HF.out⟩
            case measure => simp [intOf]
          · have h4i : ¬ (j : Int) % 4 = 0 := by omega
            clear h0
            go_wp2
            go_roundw
            case rel => exact ⟨j + 1, by omega, by go_num, HF.out⟩
            case measure => simp [intOf]; omega
    · obtain rfl : j = 16 := by omega
      have hcv := run_convert_bytes_arg (P := Try.prog) wr 37 5 Try.underlying37 Try.underlying5 w.heap.size 0 16 (grownCap w 16 0 5) ((clampL l).map fun (x : Nat) => (x : Int)) (by simp [clampL]) (fun i hi => by
        rw [Nat.zero_add, hC.cells i hi]
        unfold cl
        rw [if_pos hi]
        simp [clampL, List.getD, hi]) 9 Try.underlying9
      rw [show strOfNums ((clampL l).map fun (x : Nat) => (x : Int)) = strN (clampL l) from rfl, ← HR.out] at hcv
      have HF : Hid (Below w.heap.size w wr) := hb
      clear hC hb
      go_wp2
      go_ret
      exact ⟨rfl, HF.out⟩
end Go.Proofs.Ytolmfhgpdcmhlaa
