/- sum.putHigh, called with a part of a block's cells and a number, lays the number there, the highest byte first, and changes nothing else. · sum's state.bytes, called with a state, tells its 32 bytes, and changes nothing that was there. -/
import Derived.Test.YtgokehbdappcdaaDoorMg24
import Derived.Deep.WholeRow
import Derived.Deep.RegionHeld3
import Derived.Deep.QuietTactic
import Derived.BigQuiet
namespace Go.Proofs.YtgokehbdappcdaaDoor.Sm
set_option maxRecDepth 20000
open Go.RowKit

/-- A block whose cells are these. -/
def Row (w : World) (g : Nat) (t : TypeId) (l : List Value) : Prop := w.heap[g]? = some (.cells l.toArray t (0, 0))
/-- Nothing that was there is changed but block b. -/
def Only (b : Nat) (w w' : World) : Prop := Below 0 w w' ∧ ∀ k, k < w.heap.size → k ≠ b → w'.heap[k]? = w.heap[k]?
theorem Only.refl (b : Nat) (w : World) : Only b w w := ⟨Below.refl _ _, fun _ _ _ => rfl⟩
theorem Only.trans {b : Nat} {w w1 w2 : World} (h : Only b w w1) (k : Only b w1 w2) : Only b w w2 :=
  ⟨h.1.trans k.1, fun i hi hb => (k.2 i (Nat.lt_of_lt_of_le hi h.1.size) hb).trans (h.2 i hi hb)⟩
theorem Only.of_below {b : Nat} {w w' : World} (h : Below w.heap.size w w') : Only b w w' := ⟨h.mono (Nat.zero_le _), fun k hk _ => h.block k hk⟩
theorem Only.below {b : Nat} {w w' : World} (h : Only b w w') (hb : b ≤ w.heap.size) : Below b w w' := ⟨h.1.os, h.1.tape, h.1.output, h.1.size, fun k hk => h.2 k (by omega) (by omega)⟩
theorem Only.size {b : Nat} {w w' : World} (h : Only b w w') : w.heap.size ≤ w'.heap.size := h.1.size
theorem Only.drew {b : Nat} {w w' : World} (h : Only b w w') : Only b w w'.drew := ⟨h.1.drew, fun k hk hb => h.2 k hk hb⟩
theorem Only.setCell {b : Nat} {w w' : World} (h : Only b w w') (i : Nat) (v : Value) : Only b w (w'.setCell ⟨b, i, none⟩ v) :=
  ⟨h.1.setCell (p := ⟨b, i, none⟩) (Nat.zero_le _) _, fun k hk hb => (Below.heap_setCell w' ⟨b, i, none⟩ _ k hb).trans (h.2 k hk hb)⟩
theorem set_mid (A P Q C : List Value) (v q : Value) (n : Nat) (hn : n = A.length + P.length) : (A ++ P ++ (q :: Q) ++ C).toArray.setIfInBounds n v = (A ++ (P ++ [v]) ++ Q ++ C).toArray := by
  subst hn
  rw [List.setIfInBounds_toArray]
  congr 1
  rw [List.append_assoc, List.set_append_right _ _ (by simp), List.length_append, Nat.sub_self]
  simp
/-- A number's bytes, n of them, the highest first. -/
def beV (L n : Nat) : List Value := (List.range L).map fun i => Value.int .u8 ((n / 2 ^ (8 * (L - 1 - i)) % 256 : Nat) : Int)

set_option maxHeartbeats 1000000 in
theorem putHigh_any (g t : Nat) (A B C : List Value) (L cap n : Nat) (hL : L ≤ 8) (hB : B.length = L) (w : World) (hr : Row w g t (A ++ B ++ C)) :
    Calls Tryd.prog 68 #[.slice (some ⟨g, A.length, none⟩) L cap, .int .u64 n] w fun e w' => e = .returned (.tuple #[]) ∧ Row w' g t (A ++ beV L n ++ C) ∧ Only g w w' := by
  go_enter Tryd.func68, Tryd.ntmps68
  go_wp2_with fail
  go_loopw [7] (fun i wr => ∃ j : Nat, j ≤ L ∧ i = .int .i64 j ∧ Row wr g t (A ++ (beV L n).take j ++ B.drop j ++ C) ∧ Only g w wr) (fun i _ => L - (intOf i).toNat)
  case atStart => exact ⟨0, Nat.zero_le _, rfl, by simpa using hr, Only.refl _ _⟩
  case round =>
    clear hr
    obtain ⟨j, hj, rfl, hr, ho⟩ := hrel
    by_cases hlt : j < L
    · obtain ⟨q, Q, hq⟩ : ∃ q Q, B.drop j = q :: Q := ⟨B[j], B.drop (j + 1), List.drop_eq_getElem_cons (by omega)⟩
      have hQ : Q = B.drop (j + 1) := by
        have h1 := congrArg List.tail hq
        simpa using h1.symm
      have hbl : (beV L n).length = L := by simp [beV]
      have hbt : (beV L n).take (j + 1) = (beV L n).take j ++ [Value.int .u8 ((n / 2 ^ (8 * (L - 1 - j)) % 256 : Nat) : Int)] := by
        rw [List.take_succ_eq_append_getElem (by omega)]
        simp [beV]
      rw [hq] at hr
      have hpl : ((beV L n).take j).length = j := by simp; omega
      have d1 : wr.cell? ⟨g, A.length + j, none⟩ = some q := (cell_of_row _ _ _ _ _ _ hr).trans (by
        rw [List.getElem?_toArray, List.append_assoc, List.getElem?_append_right (by simp; omega), List.length_append, hpl, Nat.sub_self]
        rfl)
      have d2 : wr.frozen? ⟨g, A.length + j, none⟩ = false := by simp [World.frozen?, show wr.heap[g]? = _ from hr]
      obtain ⟨m, hm⟩ : ∃ m, m = L - 1 - j := ⟨_, rfl⟩
      rw [← hm] at hbt
      have e1 : (L : Int) - 1 - (j : Int) = m := by omega
      have e2 : IntKind.i64.wrap ((L : Int) - 1) = L - 1 := by rw [IntKind.wrap_i64]; omega
      have e3 : IntKind.i64.wrap (m : Int) = m := by rw [IntKind.wrap_i64]; omega
      have e4 : IntKind.i64.wrap (8 * (m : Int)) = 8 * m := by rw [IntKind.wrap_i64]; omega
      have e5 : (8 * (m : Int)).toNat = 8 * m := by omega
      have e6 : (0 : Int) ≤ 8 * (m : Int) := by omega
      have s1 : (j : Int) < L := by omega
      clear hm hq hbl
      have hv : Value.int .u8 ((n : Int) / 2 ^ (8 * m) % 256) = Value.int .u8 ((n / 2 ^ (8 * m) % 256 : Nat) : Int) := by
        congr 1
      have hr' := heap_setCell_same wr g (A.length + j) _ _ (Value.int .u8 ((n : Int) / 2 ^ (8 * m) % 256)) hr
      rw [set_mid A ((beV L n).take j) Q C _ q _ (by rw [hpl]), hv, ← hbt, hQ] at hr'
      have HR : Hid (Row (wr.setCell ⟨g, A.length + j, none⟩ (Value.int .u8 ((n / 2 ^ (8 * m) % 256 : Nat) : Int))) g t (A ++ (beV L n).take (j + 1) ++ B.drop (j + 1) ++ C)) := hr'
      clear hr hr' hbt hQ hpl hv
      go_wp2_with fail
      refine ⟨⟨j + 1, by omega, by go_num, ?_, ho.setCell _ _⟩, by simp [intOf]; omega⟩
      exact HR.out
    · obtain rfl : j = L := by omega
      go_wp2
      go_end0
      refine ⟨rfl, ?_, ho⟩
      have h1 : (beV j n).take j = beV j n := List.take_of_length_le (by simp [beV])
      have h2 : B.drop j = [] := List.drop_eq_nil_of_le (by omega)
      rw [h1, h2, List.append_nil] at hr
      exact hr
theorem putHigh_at (g t o : Nat) (A B C : List Value) (ho : o = A.length) (L cap n : Nat) (hL : L ≤ 8) (hB : B.length = L) (w : World) (hr : Row w g t (A ++ B ++ C)) :
    Calls Tryd.prog 68 #[.slice (some ⟨g, o, none⟩) L cap, .int .u64 n] w fun e w' => e = .returned (.tuple #[]) ∧ Row w' g t (A ++ beV L n ++ C) ∧ Only g w w' := by
  subst ho
  exact putHigh_any g t A B C L cap n hL hB w hr
end Go.Proofs.YtgokehbdappcdaaDoor.Sm

namespace Go.Proofs.YtgokehbdappcdaaDoor.Sm
set_option maxRecDepth 20000
open Go.RowKit

/-- A state as a value's cells. -/
def stC (s : St) : Array Value := #[.int .u32 (s.a : Nat), .int .u32 (s.b : Nat), .int .u32 (s.c : Nat), .int .u32 (s.d : Nat), .int .u32 (s.e : Nat), .int .u32 (s.f : Nat), .int .u32 (s.g : Nat), .int .u32 (s.h : Nat)]
/-- Bytes as values. -/
def byV (l : List Nat) : List Value := l.map fun x => Value.int .u8 (x : Nat)

/-- Word i of a state. -/
def St.at (s : St) (i : Nat) : Nat := [s.a, s.b, s.c, s.d, s.e, s.f, s.g, s.h].getD i 0
theorem St.at_lt {s : St} (h : s.ok) (i : Nat) : s.at i < 4294967296 := by
  obtain ⟨h1, h2, h3, h4, h5, h6, h7, h8⟩ := h
  refine getD_lt (by decide) (fun x hx => ?_) i
  simp only [List.mem_cons, List.not_mem_nil, or_false] at hx
  rcases hx with rfl | rfl | rfl | rfl | rfl | rfl | rfl | rfl <;> assumption
theorem stC_at (s : St) (i : Nat) (h : i < 8) : (stC s)[i]? = some (.int .u32 (s.at i : Nat)) := by
  match i, h with
  | 0, _ => rfl
  | 1, _ => rfl
  | 2, _ => rfl
  | 3, _ => rfl
  | 4, _ => rfl
  | 5, _ => rfl
  | 6, _ => rfl
  | 7, _ => rfl
theorem beV4 (n : Nat) : beV 4 n = byV (be4 n) := by
  simp [beV, byV, be4, List.range, List.range.loop]
/-- The bytes of a state's first n words. -/
def outN (s : St) : Nat → List Nat
  | 0 => []
  | n + 1 => outN s n ++ be4 (s.at n)
theorem outN_length (s : St) : ∀ n, (outN s n).length = 4 * n
  | 0 => rfl
  | n + 1 => by rw [outN, List.length_append, outN_length s n, be4_length]; omega
theorem outN_all (s : St) : outN s 8 = outL s := rfl
/-- 32 bytes, of which the first ones are told. -/
def digV (l : List Nat) : List Value := byV l ++ List.replicate (32 - l.length) (Value.int .u8 0)

theorem below_rowH {B g : Nat} {w0 w : World} (h : Below B w0 w) (hg : B ≤ g) (cs : Array Value) : Below B w0 (w.setRow g cs) :=
  h.trans ⟨rfl, rfl, rfl, by simp [World.setRow], fun k hk => setRow_other _ _ _ _ (by omega)⟩
theorem index_state (cs : Array Value) (j : Nat) (v : Value) (hj : j < 8) (hv : cs[j]? = some v) (w : World) : (Instr.index 92 (.agg cs) (.int .i64 j)).run Tryd.prog w = .ok v w := by
  simp [Instr.index, run_underlying Tryd.underlying92, asIntOf, hj, hv, go_sem]
theorem digV_split (s : St) (j : Nat) (h : j < 8) : digV (outN s j) = byV (outN s j) ++ List.replicate 4 (Value.int .u8 0) ++ List.replicate (28 - 4 * j) (Value.int .u8 0) := by
  rw [digV, outN_length, List.append_assoc, List.replicate_append_replicate]
  congr 2
  omega
theorem digV_step (s : St) (j : Nat) (h : j < 8) : byV (outN s j) ++ beV 4 (s.at j) ++ List.replicate (28 - 4 * j) (Value.int .u8 0) = digV (outN s (j + 1)) := by
  rw [digV, outN_length, beV4, outN, byV, byV, byV, List.map_append]
  congr 2
  omega

set_option maxHeartbeats 1000000 in
theorem bytes_any (s : St) (hs : s.ok) (w : World) :
    Calls Tryd.prog 80 #[.agg (stC s)] w fun e w' => e = .returned (.agg (byV (outL s)).toArray) ∧ Below w.heap.size w w' := by
  have HS : Hid (∀ i, i < 8 → (stC s)[i]? = some (.int .u32 (s.at i : Nat)) ∧ s.at i < 4294967296) := fun i h => ⟨stC_at s i h, St.at_lt hs i⟩
  have hinf : (Tryd.prog.info? 92).map (·.size) = some (stC s).size := by show _ = some 8; kernel_rfl
  obtain ⟨cs, hcs⟩ : ∃ cs, cs = stC s := ⟨_, rfl⟩
  rw [← hcs] at HS hinf
  rw [← hcs]
  clear hcs
  have hg0 : ∀ o1 o2, (((w.alloc (.cells cs 92)).alloc o1).alloc o2).heap[w.heap.size]? = some (.cells cs 92 (0, 0)) := fun o1 o2 => (Below.heap_alloc _ _ _ (by simp; omega)).trans (heap_alloc2_old w _ _)
  go_enter Tryd.func80, Tryd.ntmps80
  go_wp2_with (refine wpList_load_row rfl 92 _ rfl w.heap.size rfl 92 _ (0, 0) _ (hg0 _ _) Tryd.underlying92 rfl hinf ?_)
  have HB : Hid (Below w.heap.size w (((w.alloc (.cells cs 92)).alloc (.cells (digV []).toArray 102)).alloc (.cells (digV []).toArray 102))) := (((Below.refl _ _).alloc (Nat.le_refl _) _).alloc (by simp) _).alloc (by simp; omega) _
  clear hg0 hinf
  go_loopw [7] (fun i wr => ∃ j : Nat, j ≤ 8 ∧ i = .int .i64 j ∧ Row wr (w.heap.size + 1 + 1) 102 (digV (outN s j)) ∧ Row wr (w.heap.size + 1) 102 (digV []) ∧ Below w.heap.size w wr) (fun i _ => 8 - (intOf i).toNat)
  case atStart =>
    refine ⟨0, Nat.zero_le _, rfl, ?_, ?_, HB.out⟩
    · have := heap_alloc_new ((w.alloc (.cells cs 92)).alloc (.cells (digV []).toArray 102)) (.cells (digV []).toArray 102)
      simpa [Row, digV, outN, byV] using this
    · exact (Below.heap_alloc _ _ _ (by simp)).trans (heap_alloc2_new w _ _)
  case round =>
    obtain ⟨j, hj, rfl, k1, k0, hbw⟩ := hrel
    by_cases hlt : j < 8
    · obtain ⟨ha, hal⟩ := HS.out j hlt
      obtain ⟨x, hx⟩ : ∃ x, x = s.at j := ⟨_, rfl⟩
      rw [← hx] at ha hal
      have hix := index_state cs j _ hlt ha wr
      clear ha
      have HX : Hid (x = s.at j) := hx
      clear hx
      have q0 : IntKind.i64.wrap (4 * (j : Int)) = 4 * j := by rw [IntKind.wrap_i64]; omega
      have q1 : IntKind.i64.wrap (4 * (j : Int) + 4) = 4 * j + 4 := by rw [IntKind.wrap_i64]; omega
      have t0 : ((4 : Int) * j).toNat = 4 * j := by omega
      have t1 : ((4 : Int) * j + 4).toNat = 4 * j + 4 := by omega
      have r0 : (0 : Int) ≤ 4 * (j : Int) := by omega
      have r1 : 4 * (j : Int) ≤ 4 * (j : Int) + 4 := by omega
      have r2 : 4 * (j : Int) + 4 ≤ 32 := by omega
      have s4 : (j : Int) < 8 := by omega
      have n4 : ¬ 32 = 4 * j := by omega
      have k1' : Row wr (w.heap.size + 1 + 1) 102 (byV (outN s j) ++ List.replicate 4 (Value.int .u8 0) ++ List.replicate (28 - 4 * j) (Value.int .u8 0)) := by rw [← digV_split s j hlt]; exact k1
      have HP := putHigh_at (w.heap.size + 1 + 1) 102 (4 * j) _ _ _ (by simp [byV, outN_length]) 4 (32 - 4 * j) x (by decide) (by simp) wr k1'
      have HA : Hid (byV (outN s j) ++ beV 4 x ++ List.replicate (28 - 4 * j) (Value.int .u8 0) = digV (outN s (j + 1))) := by
        show _ = _
        rw [HX.out]; exact digV_step s j hlt
      rw [HA.out] at HP
      clear k1 k1'
      go_wp2_with fail
      refine HP.mono ?_
      rintro e w2 ⟨rfl, k1, ho⟩
      have hlt0 : w.heap.size + 1 < wr.heap.size := lt_of_block k0
      have k0' : Row w2 (w.heap.size + 1) 102 (digV []) := (ho.2 _ hlt0 (by omega)).trans k0
      have hbw' : Below w.heap.size w w2 := hbw.trans ((ho.below (by omega)).mono (by omega))
      clear HP k0 hbw hix ho
      go_wp2
      go_roundw
      case rel => exact ⟨j + 1, by omega, by go_num, k1, k0', hbw'⟩
      case measure => simp [intOf]; omega
    · obtain rfl : j = 8 := by omega
      have hrow : digV (outN s 8) = byV (outL s) := by rw [digV, outN_length, outN_all]; simp
      rw [hrow] at k1
      obtain ⟨ds, hds⟩ : ∃ ds, ds = (byV (outL s)).toArray := ⟨_, rfl⟩
      have hsz : ds.size = 32 := by rw [hds]; simp [byV, outL_length]
      have hone : ds.all (·.oneCell') = true := by rw [hds]; simp [byV, Value.oneCell']
      have k1' : wr.heap[w.heap.size + 1 + 1]? = some (.cells ds 102 (0, 0)) := by rw [hds]; exact k1
      have HDS : Hid (ds = (byV (outL s)).toArray) := hds
      clear hds k1 hrow
      have k0' : wr.heap[w.heap.size + 1]? = some (.cells (digV []).toArray 102 (0, 0)) := k0
      have hs0 : (digV []).toArray.size = ds.size := by rw [hsz]; rfl
      have hinfo : (Tryd.prog.info? 102).map (·.size) = some ds.size := by rw [hsz]; kernel_rfl
      have hba := below_rowH hbw (show w.heap.size ≤ w.heap.size + 1 by omega) ds
      have hl0 := run_loadVar_row (P := Tryd.prog) (wr.setRow (w.heap.size + 1) ds) (w.heap.size + 1) 102 102 ds (0, 0) _ (setRow_heap _ _ _ _ _ _ k0') Tryd.underlying102 rfl hinfo
      go_wp2_with (first | refine wpList_load_row rfl 102 _ rfl (w.heap.size + 1 + 1) rfl 102 _ (0, 0) _ k1' Tryd.underlying102 rfl hinfo ?_ | refine wpList_store_row rfl 102 _ _ rfl (w.heap.size + 1) ds rfl rfl 102 _ k0' hinfo hs0 hone ?_)
      exact bodyPost_ret (v := .agg ds) (by simp [results, Tryd.results80, asAddr, Act.put, hl0]) rfl ⟨by rw [HDS.out], hba⟩
end Go.Proofs.YtgokehbdappcdaaDoor.Sm
