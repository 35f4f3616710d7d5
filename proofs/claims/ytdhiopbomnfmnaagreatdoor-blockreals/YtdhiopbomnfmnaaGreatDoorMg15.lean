/- sum.putHigh, called with a part of a block's cells and a number, lays the number there, the highest byte first, and changes nothing else. · sum's state.bytes, called with a state, tells its 32 bytes, and changes nothing that was there. · sum's state.with, called with a state and a pointer to a block of 64 bytes, tells the state behind the block, and changes nothing that was there. -/
import Derived.Test.YtdhiopbomnfmnaaGreatDoorMg14
import Derived.Deep.WholeRow
import Derived.Deep.RegionHeld3
import Derived.Deep.QuietTactic
import Derived.BigQuiet
import Derived.Laws.DeepNot64
namespace Go.Proofs.YtdhiopbomnfmnaaGreatDoor.Sm
set_option maxRecDepth 20000
open Go.RowKit

/-- A block whose cells are these. -/
def Row (w : World) (g : Nat) (t : TypeId) (l : List Value) : Prop := w.heap[g]? = some (.cells l.toArray t (0, 0))
/-- Nothing that was there is changed but block b. -/
def Only (b : Nat) (w w' : World) : Prop := Below 0 w w' ∧ ∀ k, k < w.heap.size → k ≠ b → w'.heap[k]? = w.heap[k]?
theorem Only.refl (b : Nat) (w : World) : Only b w w := ⟨Below.refl _ _, fun _ _ _ => rfl⟩
theorem Only.trans {b : Nat} {w w1 w2 : World} (h : Only b w w1) (k : Only b w1 w2) : Only b w w2 :=
  ⟨h.1.trans k.1, fun i hi hb => (k.2 i (Nat.lt_of_lt_of_le hi h.1.size) hb).trans (h.2 i hi hb)⟩
theorem Only.of_below {b : Nat} {w w' : World} (h : Below w.heap.size w w') : Only b w w' := ⟨h.mono (Nat.zero_le _), fun k hk _ => h.block k hk⟩
theorem Only.below {b : Nat} {w w' : World} (h : Only b w w') (hb : b ≤ w.heap.size) : Below b w w' := ⟨h.1.os, h.1.tape, h.1.output, h.1.size, fun k hk => h.2 k (by omega) (by omega)⟩
theorem Only.size {b : Nat} {w w' : World} (h : Only b w w') : w.heap.size ≤ w'.heap.size := h.1.size
theorem Only.drew {b : Nat} {w w' : World} (h : Only b w w') : Only b w w'.drew := ⟨h.1.drew, fun k hk hb => h.2 k hk hb⟩
theorem Only.setCell {b : Nat} {w w' : World} (h : Only b w w') (i : Nat) (v : Value) : Only b w (w'.setCell ⟨b, i, none⟩ v) :=
  ⟨h.1.setCell (p := ⟨b, i, none⟩) (Nat.zero_le _) _, fun k hk hb => (Below.heap_setCell w' ⟨b, i, none⟩ _ k hb).trans (h.2 k hk hb)⟩
theorem set_mid (A P Q C : List Value) (v q : Value) (n : Nat) (hn : n = A.length + P.length) : (A ++ P ++ (q :: Q) ++ C).toArray.setIfInBounds n v = (A ++ (P ++ [v]) ++ Q ++ C).toArray := by
  subst hn
  rw [List.setIfInBounds_toArray]
  congr 1
  rw [List.append_assoc, List.set_append_right _ _ (by simp), List.length_append, Nat.sub_self]
  simp
/-- A number's bytes, n of them, the highest first. -/
def beV (L n : Nat) : List Value := (List.range L).map fun i => Value.int .u8 ((n / 2 ^ (8 * (L - 1 - i)) % 256 : Nat) : Int)

set_option maxHeartbeats 1000000 in
theorem putHigh_any (g t : Nat) (A B C : List Value) (L cap n : Nat) (hL : L ≤ 8) (hB : B.length = L) (w : World) (hr : Row w g t (A ++ B ++ C)) :
    Calls Tryz.prog 51 #[.slice (some ⟨g, A.length, none⟩) L cap, .int .u64 n] w fun e w' => e = .returned (.tuple #[]) ∧ Row w' g t (A ++ beV L n ++ C) ∧ Only g w w' := by
  go_enter Tryz.func51, Tryz.ntmps51
  go_wp2_with fail
  go_loopw [7] (fun i wr => ∃ j : Nat, j ≤ L ∧ i = .int .i64 j ∧ Row wr g t (A ++ (beV L n).take j ++ B.drop j ++ C) ∧ Only g w wr) (fun i _ => L - (intOf i).toNat)
  case atStart => exact ⟨0, Nat.zero_le _, rfl, by simpa using hr, Only.refl _ _⟩
  case round =>
    clear hr
    obtain ⟨j, hj, rfl, hr, ho⟩ := hrel
    by_cases hlt : j < L
    · obtain ⟨q, Q, hq⟩ : ∃ q Q, B.drop j = q :: Q := ⟨B[j], B.drop (j + 1), List.drop_eq_getElem_cons (by omega)⟩
      have hQ : Q = B.drop (j + 1) := by
        have h1 := congrArg List.tail hq
        simpa using h1.symm
      have hbl : (beV L n).length = L := by simp [beV]
      have hbt : (beV L n).take (j + 1) = (beV L n).take j ++ [Value.int .u8 ((n / 2 ^ (8 * (L - 1 - j)) % 256 : Nat) : Int)] := by
        rw [List.take_succ_eq_append_getElem (by omega)]
        simp [beV]
      rw [hq] at hr
      have hpl : ((beV L n).take j).length = j := by simp; omega
      have d1 : wr.cell? ⟨g, A.length + j, none⟩ = some q := (cell_of_row _ _ _ _ _ _ hr).trans (by
        rw [List.getElem?_toArray, List.append_assoc, List.getElem?_append_right (by simp; omega), List.length_append, hpl, Nat.sub_self]
        rfl)
      have d2 : wr.frozen? ⟨g, A.length + j, none⟩ = false := by simp [World.frozen?, show wr.heap[g]? = _ from hr]
      obtain ⟨m, hm⟩ : ∃ m, m = L - 1 - j := ⟨_, rfl⟩
      rw [← hm] at hbt
      have e1 : (L : Int) - 1 - (j : Int) = m := by omega
      have e2 : IntKind.i64.wrap ((L : Int) - 1) = L - 1 := by rw [IntKind.wrap_i64]; omega
      have e3 : IntKind.i64.wrap (m : Int) = m := by rw [IntKind.wrap_i64]; omega
      have e4 : IntKind.i64.wrap (8 * (m : Int)) = 8 * m := by rw [IntKind.wrap_i64]; omega
      have e5 : (8 * (m : Int)).toNat = 8 * m := by omega
      have e6 : (0 : Int) ≤ 8 * (m : Int) := by omega
      have s1 : (j : Int) < L := by omega
      clear hm hq hbl
      have hv : Value.int .u8 ((n : Int) / 2 ^ (8 * m) % 256) = Value.int .u8 ((n / 2 ^ (8 * m) % 256 : Nat) : Int) := by
        congr 1
      have hr' := heap_setCell_same wr g (A.length + j) _ _ (Value.int .u8 ((n : Int) / 2 ^ (8 * m) % 256)) hr
      rw [set_mid A ((beV L n).take j) Q C _ q _ (by rw [hpl]), hv, ← hbt, hQ] at hr'
      have HR : Hid (Row (wr.setCell ⟨g, A.length + j, none⟩ (Value.int .u8 ((n / 2 ^ (8 * m) % 256 : Nat) : Int))) g t (A ++ (beV L n).take (j + 1) ++ B.drop (j + 1) ++ C)) := hr'
      clear hr hr' hbt hQ hpl hv
      go_wp2_with fail
      refine ⟨⟨j + 1, by omega, by go_num, ?_, ho.setCell _ _⟩, by simp [intOf]; omega⟩
      exact HR.out
    · obtain rfl : j = L := by omega
      go_wp2
      go_end0
      refine ⟨rfl, ?_, ho⟩
      have h1 : (beV j n).take j = beV j n := List.take_of_length_le (by simp [beV])
      have h2 : B.drop j = [] := List.drop_eq_nil_of_le (by omega)
      rw [h1, h2, List.append_nil] at hr
      exact hr
theorem putHigh_at (g t o : Nat) (A B C : List Value) (ho : o = A.length) (L cap n : Nat) (hL : L ≤ 8) (hB : B.length = L) (w : World) (hr : Row w g t (A ++ B ++ C)) :
    Calls Tryz.prog 51 #[.slice (some ⟨g, o, none⟩) L cap, .int .u64 n] w fun e w' => e = .returned (.tuple #[]) ∧ Row w' g t (A ++ beV L n ++ C) ∧ Only g w w' := by
  subst ho
  exact putHigh_any g t A B C L cap n hL hB w hr
end Go.Proofs.YtdhiopbomnfmnaaGreatDoor.Sm

namespace Go.Proofs.YtdhiopbomnfmnaaGreatDoor.Sm
set_option maxRecDepth 20000
open Go.RowKit

/-- A state as a value's cells. -/
def stC (s : St) : Array Value := #[.int .u32 (s.a : Nat), .int .u32 (s.b : Nat), .int .u32 (s.c : Nat), .int .u32 (s.d : Nat), .int .u32 (s.e : Nat), .int .u32 (s.f : Nat), .int .u32 (s.g : Nat), .int .u32 (s.h : Nat)]
/-- Bytes as values. -/
def byV (l : List Nat) : List Value := l.map fun x => Value.int .u8 (x : Nat)

/-- Word i of a state. -/
def St.at (s : St) (i : Nat) : Nat := [s.a, s.b, s.c, s.d, s.e, s.f, s.g, s.h].getD i 0
theorem St.at_lt {s : St} (h : s.ok) (i : Nat) : s.at i < 4294967296 := by
  obtain ⟨h1, h2, h3, h4, h5, h6, h7, h8⟩ := h
  refine getD_lt (by decide) (fun x hx => ?_) i
  simp only [List.mem_cons, List.not_mem_nil, or_false] at hx
  rcases hx with rfl | rfl | rfl | rfl | rfl | rfl | rfl | rfl <;> assumption
theorem stC_at (s : St) (i : Nat) (h : i < 8) : (stC s)[i]? = some (.int .u32 (s.at i : Nat)) := by
  match i, h with
  | 0, _ => rfl
  | 1, _ => rfl
  | 2, _ => rfl
  | 3, _ => rfl
  | 4, _ => rfl
  | 5, _ => rfl
  | 6, _ => rfl
  | 7, _ => rfl
theorem beV4 (n : Nat) : beV 4 n = byV (be4 n) := by
  simp [beV, byV, be4, List.range, List.range.loop]
/-- The bytes of a state's first n words. -/
def outN (s : St) : Nat → List Nat
  | 0 => []
  | n + 1 => outN s n ++ be4 (s.at n)
theorem outN_length (s : St) : ∀ n, (outN s n).length = 4 * n
  | 0 => rfl
  | n + 1 => by rw [outN, List.length_append, outN_length s n, be4_length]; omega
theorem outN_all (s : St) : outN s 8 = outL s := rfl
/-- 32 bytes, of which the first ones are told. -/
def digV (l : List Nat) : List Value := byV l ++ List.replicate (32 - l.length) (Value.int .u8 0)

theorem below_rowH {B g : Nat} {w0 w : World} (h : Below B w0 w) (hg : B ≤ g) (cs : Array Value) : Below B w0 (w.setRow g cs) :=
  h.trans ⟨rfl, rfl, rfl, by simp [World.setRow], fun k hk => setRow_other _ _ _ _ (by omega)⟩
theorem index_state (cs : Array Value) (j : Nat) (v : Value) (hj : j < 8) (hv : cs[j]? = some v) (w : World) : (Instr.index 65 (.agg cs) (.int .i64 j)).run Tryz.prog w = .ok v w := by
  simp [Instr.index, run_underlying Tryz.underlying65, asIntOf, hj, hv, go_sem]
theorem digV_split (s : St) (j : Nat) (h : j < 8) : digV (outN s j) = byV (outN s j) ++ List.replicate 4 (Value.int .u8 0) ++ List.replicate (28 - 4 * j) (Value.int .u8 0) := by
  rw [digV, outN_length, List.append_assoc, List.replicate_append_replicate]
  congr 2
  omega
theorem digV_step (s : St) (j : Nat) (h : j < 8) : byV (outN s j) ++ beV 4 (s.at j) ++ List.replicate (28 - 4 * j) (Value.int .u8 0) = digV (outN s (j + 1)) := by
  rw [digV, outN_length, beV4, outN, byV, byV, byV, List.map_append]
  congr 2
  omega

set_option maxHeartbeats 1000000 in
theorem bytes_any (s : St) (hs : s.ok) (w : World) :
    Calls Tryz.prog 80 #[.agg (stC s)] w fun e w' => e = .returned (.agg (byV (outL s)).toArray) ∧ Below w.heap.size w w' := by
  have HS : Hid (∀ i, i < 8 → (stC s)[i]? = some (.int .u32 (s.at i : Nat)) ∧ s.at i < 4294967296) := fun i h => ⟨stC_at s i h, St.at_lt hs i⟩
  have hinf : (Tryz.prog.info? 65).map (·.size) = some (stC s).size := by show _ = some 8; kernel_rfl
  obtain ⟨cs, hcs⟩ : ∃ cs, cs = stC s := ⟨_, rfl⟩
  rw [← hcs] at HS hinf
  rw [← hcs]
  clear hcs
  have hg0 : ∀ o1 o2, (((w.alloc (.cells cs 65)).alloc o1).alloc o2).heap[w.heap.size]? = some (.cells cs 65 (0, 0)) := fun o1 o2 => (Below.heap_alloc _ _ _ (by simp; omega)).trans (heap_alloc2_old w _ _)
  go_enter Tryz.func80, Tryz.ntmps80
  go_wp2_with (refine wpList_load_row rfl 65 _ rfl w.heap.size rfl 65 _ (0, 0) _ (hg0 _ _) Tryz.underlying65 rfl hinf ?_)
  have HB : Hid (Below w.heap.size w (((w.alloc (.cells cs 65)).alloc (.cells (digV []).toArray 75)).alloc (.cells (digV []).toArray 75))) := (((Below.refl _ _).alloc (Nat.le_refl _) _).alloc (by simp) _).alloc (by simp; omega) _
  clear hg0 hinf
  go_loopw [7] (fun i wr => ∃ j : Nat, j ≤ 8 ∧ i = .int .i64 j ∧ Row wr (w.heap.size + 1 + 1) 75 (digV (outN s j)) ∧ Row wr (w.heap.size + 1) 75 (digV []) ∧ Below w.heap.size w wr) (fun i _ => 8 - (intOf i).toNat)
  case atStart =>
    refine ⟨0, Nat.zero_le _, rfl, ?_, ?_, HB.out⟩
    · have := heap_alloc_new ((w.alloc (.cells cs 65)).alloc (.cells (digV []).toArray 75)) (.cells (digV []).toArray 75)
      simpa [Row, digV, outN, byV] using this
    · exact (Below.heap_alloc _ _ _ (by simp)).trans (heap_alloc2_new w _ _)
  case round =>
    obtain ⟨j, hj, rfl, k1, k0, hbw⟩ := hrel
    by_cases hlt : j < 8
    · obtain ⟨ha, hal⟩ := HS.out j hlt
      obtain ⟨x, hx⟩ : ∃ x, x = s.at j := ⟨_, rfl⟩
      rw [← hx] at ha hal
      have hix := index_state cs j _ hlt ha wr
      clear ha
      have HX : Hid (x = s.at j) := hx
      clear hx
      have q0 : IntKind.i64.wrap (4 * (j : Int)) = 4 * j := by rw [IntKind.wrap_i64]; omega
      have q1 : IntKind.i64.wrap (4 * (j : Int) + 4) = 4 * j + 4 := by rw [IntKind.wrap_i64]; omega
      have t0 : ((4 : Int) * j).toNat = 4 * j := by omega
      have t1 : ((4 : Int) * j + 4).toNat = 4 * j + 4 := by omega
      have r0 : (0 : Int) ≤ 4 * (j : Int) := by omega
      have r1 : 4 * (j : Int) ≤ 4 * (j : Int) + 4 := by omega
      have r2 : 4 * (j : Int) + 4 ≤ 32 := by omega
      have s4 : (j : Int) < 8 := by omega
      have n4 : ¬ 32 = 4 * j := by omega
      have k1' : Row wr (w.heap.size + 1 + 1) 75 (byV (outN s j) ++ List.replicate 4 (Value.int .u8 0) ++ List.replicate (28 - 4 * j) (Value.int .u8 0)) := by rw [← digV_split s j hlt]; exact k1
      have HP := putHigh_at (w.heap.size + 1 + 1) 75 (4 * j) _ _ _ (by simp [byV, outN_length]) 4 (32 - 4 * j) x (by decide) (by simp) wr k1'
      have HA : Hid (byV (outN s j) ++ beV 4 x ++ List.replicate (28 - 4 * j) (Value.int .u8 0) = digV (outN s (j + 1))) := by
        show _ = _
        rw [HX.out]; exact digV_step s j hlt
      rw [HA.out] at HP
      clear k1 k1'
      go_wp2_with fail
      refine HP.mono ?_
      rintro e w2 ⟨rfl, k1, ho⟩
      have hlt0 : w.heap.size + 1 < wr.heap.size := lt_of_block k0
      have k0' : Row w2 (w.heap.size + 1) 75 (digV []) := (ho.2 _ hlt0 (by omega)).trans k0
      have hbw' : Below w.heap.size w w2 := hbw.trans ((ho.below (by omega)).mono (by omega))
      clear HP k0 hbw hix ho
      go_wp2
      go_roundw
      case rel => exact ⟨j + 1, by omega, by go_num, k1, k0', hbw'⟩
      case measure => simp [intOf]; omega
    · obtain rfl : j = 8 := by omega
      have hrow : digV (outN s 8) = byV (outL s) := by rw [digV, outN_length, outN_all]; simp
      rw [hrow] at k1
      obtain ⟨ds, hds⟩ : ∃ ds, ds = (byV (outL s)).toArray := ⟨_, rfl⟩
      have hsz : ds.size = 32 := by rw [hds]; simp [byV, outL_length]
      have hone : ds.all (·.oneCell') = true := by rw [hds]; simp [byV, Value.oneCell']
      have k1' : wr.heap[w.heap.size + 1 + 1]? = some (.cells ds 75 (0, 0)) := by rw [hds]; exact k1
      have HDS : Hid (ds = (byV (outL s)).toArray) := hds
      clear hds k1 hrow
      have k0' : wr.heap[w.heap.size + 1]? = some (.cells (digV []).toArray 75 (0, 0)) := k0
      have hs0 : (digV []).toArray.size = ds.size := by rw [hsz]; rfl
      have hinfo : (Tryz.prog.info? 75).map (·.size) = some ds.size := by rw [hsz]; kernel_rfl
      have hba := below_rowH hbw (show w.heap.size ≤ w.heap.size + 1 by omega) ds
      have hl0 := run_loadVar_row (P := Tryz.prog) (wr.setRow (w.heap.size + 1) ds) (w.heap.size + 1) 75 75 ds (0, 0) _ (setRow_heap _ _ _ _ _ _ k0') Tryz.underlying75 rfl hinfo
      go_wp2_with (first | refine wpList_load_row rfl 75 _ rfl (w.heap.size + 1 + 1) rfl 75 _ (0, 0) _ k1' Tryz.underlying75 rfl hinfo ?_ | refine wpList_store_row rfl 75 _ _ rfl (w.heap.size + 1) ds rfl rfl 75 _ k0' hinfo hs0 hone ?_)
      exact bodyPost_ret (v := .agg ds) (by simp [results, Tryz.results80, asAddr, Act.put, hl0]) rfl ⟨by rw [HDS.out], hba⟩
end Go.Proofs.YtdhiopbomnfmnaaGreatDoor.Sm

namespace Go.Proofs.YtdhiopbomnfmnaaGreatDoor.Sm
set_option maxRecDepth 20000
open Go.RowKit

/-- A world in which the table of k stands where the program has it. -/
def Cubes (w : World) : Prop := 1 < w.heap.size ∧ ∀ i, i < 64 → w.cell? ⟨1, i, none⟩ = some (.int .u32 (keyN i : Nat))

theorem not_nat (e : Nat) (h : e < 4294967296) : 4294967295 ^^^ e = 4294967295 - e := by
  apply Nat.eq_of_testBit_eq
  intro i
  have h1 : (4294967295 - e).testBit i = (decide (i < 32) && !e.testBit i) := by
    rw [show 4294967295 - e = 2 ^ 32 - (e + 1) by omega]
    exact Nat.testBit_two_pow_sub_succ (n := 32) h i
  have h2 : Nat.testBit 4294967295 i = decide (i < 32) := Nat.testBit_two_pow_sub_one 32 i
  rw [Nat.testBit_xor, h1, h2]
  by_cases hi : i < 32
  · simp [hi]
  · have h3 : e.testBit i = false := Nat.testBit_lt_two_pow (Nat.lt_of_lt_of_le h (Nat.pow_le_pow_right (n := 2) (by decide) (by omega : 32 ≤ i)))
    simp [hi, h3]
theorem bs1_bits (e : Nat) : bits .xor .u32 (bits .xor .u32 ((rotr e 6 : Nat) : Int) ((rotr e 11 : Nat) : Int)) ((rotr e 25 : Nat) : Int) = ((bs1 e : Nat) : Int) := by
  rw [u32_xor_nat _ _ (rotr_lt _ _) (rotr_lt _ _), u32_xor_nat _ _ (xor_lt (rotr_lt _ _) (rotr_lt _ _)) (rotr_lt _ _)]
  rfl
theorem bs0_bits (e : Nat) : bits .xor .u32 (bits .xor .u32 ((rotr e 2 : Nat) : Int) ((rotr e 13 : Nat) : Int)) ((rotr e 22 : Nat) : Int) = ((bs0 e : Nat) : Int) := by
  rw [u32_xor_nat _ _ (rotr_lt _ _) (rotr_lt _ _), u32_xor_nat _ _ (xor_lt (rotr_lt _ _) (rotr_lt _ _)) (rotr_lt _ _)]
  rfl
theorem chf_bits (e f g : Nat) (he : e < 4294967296) (hf : f < 4294967296) (hg : g < 4294967296) : bits .xor .u32 (bits .and .u32 (e : Int) (f : Int)) (bits .and .u32 (bits .xor .u32 IntKind.u32.max (e : Int)) (g : Int)) = ((chf e f g : Nat) : Int) := by
  rw [show (IntKind.u32.max : Int) = ((4294967295 : Nat) : Int) from rfl, u32_xor_nat _ _ (by decide) he, not_nat e he, u32_and_nat _ _ he hf, u32_and_nat _ _ (by omega) hg, u32_xor_nat _ _ (and_lt hf) (and_lt hg)]
  rfl
theorem maj_bits (a b c : Nat) (ha : a < 4294967296) (hb : b < 4294967296) (hc : c < 4294967296) : bits .xor .u32 (bits .xor .u32 (bits .and .u32 (a : Int) (b : Int)) (bits .and .u32 (a : Int) (c : Int))) (bits .and .u32 (b : Int) (c : Int)) = ((maj a b c : Nat) : Int) := by
  rw [u32_and_nat _ _ ha hb, u32_and_nat _ _ ha hc, u32_and_nat _ _ hb hc, u32_xor_nat _ _ (and_lt hb) (and_lt hc), u32_xor_nat _ _ (xor_lt (and_lt hb) (and_lt hc)) (and_lt hc)]
  rfl
theorem t_bits (e f g h k y : Nat) (he : e < 4294967296) (hf : f < 4294967296) (hg : g < 4294967296) :
    IntKind.u32.wrap (IntKind.u32.wrap (IntKind.u32.wrap (IntKind.u32.wrap ((h : Int) + bits .xor .u32 (bits .xor .u32 ((rotr e 6 : Nat) : Int) ((rotr e 11 : Nat) : Int)) ((rotr e 25 : Nat) : Int)) + bits .xor .u32 (bits .and .u32 (e : Int) (f : Int)) (bits .and .u32 (bits .xor .u32 IntKind.u32.max (e : Int)) (g : Int))) + (k : Int)) + (y : Int)) = (((h + bs1 e + chf e f g + k + y) % 4294967296 : Nat) : Int) := by
  rw [bs1_bits, chf_bits e f g he hf hg, IntKind.wrap_u32, IntKind.wrap_u32, IntKind.wrap_u32, IntKind.wrap_u32]
  omega
theorem u_bits (a b c : Nat) (ha : a < 4294967296) (hb : b < 4294967296) (hc : c < 4294967296) :
    IntKind.u32.wrap (bits .xor .u32 (bits .xor .u32 ((rotr a 2 : Nat) : Int) ((rotr a 13 : Nat) : Int)) ((rotr a 22 : Nat) : Int) + bits .xor .u32 (bits .xor .u32 (bits .and .u32 (a : Int) (b : Int)) (bits .and .u32 (a : Int) (c : Int))) (bits .and .u32 (b : Int) (c : Int))) = (((bs0 a + maj a b c) % 4294967296 : Nat) : Int) := by
  rw [bs0_bits, maj_bits a b c ha hb hc, IntKind.wrap_u32]
  omega
theorem add_bits (x y : Nat) : IntKind.u32.wrap ((x : Int) + (y : Int)) = (((x + y) % 4294967296 : Nat) : Int) := by
  rw [IntKind.wrap_u32]
  omega

set_option maxRecDepth 10000 in
set_option maxHeartbeats 1000000 in
theorem with_any (s : St) (hs : s.ok) (b : List Nat) (hb : Bytes b) (g off : Nat) (w : World) (hq : Cubes w) (hg : g < w.heap.size)
    (hc : ∀ i, i < 64 → w.cell? ⟨g, off + i, none⟩ = some (.int .u8 (b.getD i 0 : Nat))) :
    Calls Tryz.prog 65 #[.agg (stC s), .pointer (some ⟨g, off, none⟩)] w fun e w' => e = .returned (.agg (stC (comp s b))) ∧ Below w.heap.size w w' := by
  have HC : Hid (∀ i, i < 64 → w.cell? ⟨g, off + i, none⟩ = some (.int .u8 (b.getD i 0 : Nat))) := hc
  have HQ : Hid (Cubes w) := hq
  clear hc hq
  go_enter Tryz.func65, Tryz.ntmps65
  go_wp2_with fail
  have h0 : Below w.heap.size w ((w.alloc (.cells (stC s) 65)).alloc (.cells #[.int .u32 0, .int .u32 0, .int .u32 0, .int .u32 0, .int .u32 0, .int .u32 0, .int .u32 0, .int .u32 0] 65)) := ((Below.refl _ _).alloc (Nat.le_refl _) _).alloc (by simp) _
  have g0 := heap_alloc2_old w (.cells (stC s) 65) (.cells #[.int .u32 0, .int .u32 0, .int .u32 0, .int .u32 0, .int .u32 0, .int .u32 0, .int .u32 0, .int .u32 0] 65)
  have r0 := heap_alloc2_new w (.cells (stC s) 65) (.cells #[.int .u32 0, .int .u32 0, .int .u32 0, .int .u32 0, .int .u32 0, .int .u32 0, .int .u32 0, .int .u32 0] 65)
  generalize (w.alloc (.cells (stC s) 65)).alloc (.cells #[.int .u32 0, .int .u32 0, .int .u32 0, .int .u32 0, .int .u32 0, .int .u32 0, .int .u32 0, .int .u32 0] 65) = w0 at *
  refine (schedule_any b hb g off w0 (Nat.lt_of_lt_of_le hg h0.size) (fun i hi => (h0.cell (p := ⟨g, off + i, none⟩) hg).trans (HC.out i hi))).mono ?_
  rintro e w1 ⟨rfl, hb1⟩
  have g1 := (hb1.block _ (lt_of_block g0)).trans g0
  have r1 := (hb1.block _ (lt_of_block r0)).trans r0
  have h1 := h0.trans (hb1.mono h0.size)
  have hlt1 := lt_of_block r1
  clear h0 g0 r0 hb1
  obtain ⟨cs, hcs⟩ : ∃ cs, cs = ((schedL b).map fun x => Value.int .u32 (x : Nat)).toArray := ⟨_, rfl⟩
  have hsz : cs.size = 64 := by rw [hcs]; simp [schedL_length]
  have hone : cs.all (·.oneCell') = true := by rw [hcs]; simp [Value.oneCell']
  have HW : Hid (∀ i, i < 64 → cs[i]? = some (.int .u32 (schedN b i : Nat))) := fun i hi => by
    rw [hcs, List.getElem?_toArray, List.getElem?_map, List.getElem?_eq_getElem (by rw [schedL_length]; exact hi)]
    show some _ = some _
    rw [schedN, getD_at _ _ (by rw [schedL_length]; exact hi)]
  rw [← hcs]
  clear hcs
  have hinfo : (Tryz.prog.info? 139).map (·.size) = some cs.size := by rw [hsz]; kernel_rfl
  go_wp2_with (refine wpList_store_row rfl 139 _ _ rfl w1.heap.size cs rfl rfl 139 _ (heap_alloc_new w1 _) hinfo (by rw [hsz]; rfl) hone ?_)
  rw [World.setRow_alloc_new]
  have k2 := heap_alloc_new w1 (.cells cs 139)
  have g2 := (Below.heap_alloc w1 (.cells cs 139) w.heap.size (lt_of_block g1)).trans g1
  have r2 := (Below.heap_alloc w1 (.cells cs 139) (w.heap.size + 1) (lt_of_block r1)).trans r1
  have h2 := h1.alloc h1.size (.cells cs 139)
  clear h1 g1 r1 hinfo hone
  generalize w1.alloc (.cells cs 139) = w2 at *
  have c0 : w2.cell? ⟨w.heap.size, 0, none⟩ = some (.int .u32 (s.a : Nat)) := by simp [World.cell?, g2, stC]
  have c1 : w2.cell? ⟨w.heap.size, 1, none⟩ = some (.int .u32 (s.b : Nat)) := by simp [World.cell?, g2, stC]
  have c2 : w2.cell? ⟨w.heap.size, 2, none⟩ = some (.int .u32 (s.c : Nat)) := by simp [World.cell?, g2, stC]
  have c3 : w2.cell? ⟨w.heap.size, 3, none⟩ = some (.int .u32 (s.d : Nat)) := by simp [World.cell?, g2, stC]
  have c4 : w2.cell? ⟨w.heap.size, 4, none⟩ = some (.int .u32 (s.e : Nat)) := by simp [World.cell?, g2, stC]
  have c5 : w2.cell? ⟨w.heap.size, 5, none⟩ = some (.int .u32 (s.f : Nat)) := by simp [World.cell?, g2, stC]
  have c6 : w2.cell? ⟨w.heap.size, 6, none⟩ = some (.int .u32 (s.g : Nat)) := by simp [World.cell?, g2, stC]
  have c7 : w2.cell? ⟨w.heap.size, 7, none⟩ = some (.int .u32 (s.h : Nat)) := by simp [World.cell?, g2, stC]
  go_region_held3 (fun w' => w'.cell? ⟨w.heap.size, 0, none⟩ = some (.int .u32 (s.a : Nat)) ∧ w'.cell? ⟨w.heap.size, 1, none⟩ = some (.int .u32 (s.b : Nat)) ∧ w'.cell? ⟨w.heap.size, 2, none⟩ = some (.int .u32 (s.c : Nat)) ∧ w'.cell? ⟨w.heap.size, 3, none⟩ = some (.int .u32 (s.d : Nat)) ∧ w'.cell? ⟨w.heap.size, 4, none⟩ = some (.int .u32 (s.e : Nat)) ∧ w'.cell? ⟨w.heap.size, 5, none⟩ = some (.int .u32 (s.f : Nat)) ∧ w'.cell? ⟨w.heap.size, 6, none⟩ = some (.int .u32 (s.g : Nat)) ∧ w'.cell? ⟨w.heap.size, 7, none⟩ = some (.int .u32 (s.h : Nat))) (simp [go_sem, *]) (fail)
  clear c0 c1 c2 c3 c4 c5 c6 c7
  go_wp2_with fail
  go_loopw [6, 7, 8, 9, 10, 11, 12, 13, 35] (fun a b' c d e f g' h i wr => ∃ j : Nat, j ≤ 64 ∧ i = .int .i64 j ∧ a = .int .u32 ((rnds (schedL b) s j).a : Nat) ∧ b' = .int .u32 ((rnds (schedL b) s j).b : Nat) ∧ c = .int .u32 ((rnds (schedL b) s j).c : Nat) ∧ d = .int .u32 ((rnds (schedL b) s j).d : Nat) ∧ e = .int .u32 ((rnds (schedL b) s j).e : Nat) ∧ f = .int .u32 ((rnds (schedL b) s j).f : Nat) ∧ g' = .int .u32 ((rnds (schedL b) s j).g : Nat) ∧ h = .int .u32 ((rnds (schedL b) s j).h : Nat) ∧ wr.heap[w1.heap.size]? = some (.cells cs 139 (0, 0)) ∧ wr.heap[w.heap.size]? = some (.cells (stC s) 65 (0, 0)) ∧ wr.heap[w.heap.size + 1]? = some (.cells #[.int .u32 0, .int .u32 0, .int .u32 0, .int .u32 0, .int .u32 0, .int .u32 0, .int .u32 0, .int .u32 0] 65 (0, 0)) ∧ Below w.heap.size w wr) (fun _ _ _ _ _ _ _ _ i _ => 64 - (intOf i).toNat)
  case atStart => exact ⟨0, Nat.zero_le _, rfl, rfl, rfl, rfl, rfl, rfl, rfl, rfl, rfl, k2, g2, r2, h2.drew⟩
  case round =>
    clear k2 g2 r2 h2
    obtain ⟨j, hj, rfl, rfl, rfl, rfl, rfl, rfl, rfl, rfl, rfl, k2, g2, r2, h2⟩ := hrel
    obtain ⟨st, hst⟩ : ∃ st, st = rnds (schedL b) s j := ⟨_, rfl⟩
    have hok : st.ok := by rw [hst]; exact rnds_ok hs _ _
    rw [← hst]
    by_cases hlt : j < 64
    · have ck := (h2.cell (p := ⟨1, j, none⟩) HQ.out.1).trans (HQ.out.2 j hlt)
      have cw := (cell_of_row _ _ j _ _ _ k2).trans (HW.out j hlt)
      obtain ⟨k, hk⟩ : ∃ k, k = keyN j := ⟨_, rfl⟩
      obtain ⟨y, hy⟩ : ∃ y, y = schedN b j := ⟨_, rfl⟩
      rw [← hk] at ck
      rw [← hy] at cw
      have HST : Hid (rnds (schedL b) s (j + 1) = rnd k y st) := by
        show rnds (schedL b) s (j + 1) = _
        rw [rnds, hk, hy, hst]; rfl
      have HK : Hid (k < 4294967296 ∧ y < 4294967296) := ⟨by rw [hk]; exact keyN_lt j, by rw [hy]; exact schedN_lt hb j⟩
      clear hk hy hst
      have HOK : Hid st.ok := hok
      obtain ⟨hA, hB, hC, hD, hE, hF, hG, hH⟩ := hok
      have s4 : (j : Int) < 64 := by omega
      obtain ⟨xa, xb, xc, xd, xe, xf, xg, xh⟩ := st
      simp only at hA hB hC hD hE hF hG hH
      go_wp2_with fail
      go_region_held3 (fun w' => w'.cell? ⟨1, j, none⟩ = some (.int .u32 (k : Nat)) ∧ w'.cell? ⟨w1.heap.size, j, none⟩ = some (.int .u32 (y : Nat))) (simp [go_sem, *]) (first | (go_at_call 79; refine (right_any xe 6 hE (by decide) (by decide) _).mono ?_; rintro e w' ⟨rfl, rfl⟩) | (go_at_call 79; refine (right_any xe 11 hE (by decide) (by decide) _).mono ?_; rintro e w' ⟨rfl, rfl⟩) | (go_at_call 79; refine (right_any xe 25 hE (by decide) (by decide) _).mono ?_; rintro e w' ⟨rfl, rfl⟩))
      rw [t_bits xe xf xg xh k y hE hF hG]
      obtain ⟨T, hT⟩ : ∃ T, T = (xh + bs1 xe + chf xe xf xg + k + y) % 4294967296 := ⟨_, rfl⟩
      rw [← hT]
      have HT : Hid (T = (xh + bs1 xe + chf xe xf xg + k + y) % 4294967296) := hT
      clear hT ck cw
      go_wp2_with fail
      refine (right_any xa 2 hA (by decide) (by decide) _).mono ?_
      rintro e w' ⟨rfl, rfl⟩
      go_wp2_with fail
      refine (right_any xa 13 hA (by decide) (by decide) _).mono ?_
      rintro e w' ⟨rfl, rfl⟩
      go_wp2_with fail
      refine (right_any xa 22 hA (by decide) (by decide) _).mono ?_
      rintro e w' ⟨rfl, rfl⟩
      go_wp2_with fail
      rw [bs0_bits, maj_bits xa xb xc hA hB hC]
      refine ⟨⟨j + 1, by omega, by go_num, ?_⟩, by simp [intOf]; omega⟩
      rw [HST.out]
      refine ⟨?_, rfl, rfl, rfl, ?_, rfl, rfl, rfl, k2, g2, r2, h2.drew⟩
      · show _ = Value.int .u32 (((xh + bs1 xe + chf xe xf xg + k + y + (bs0 xa + maj xa xb xc)) % 4294967296 : Nat) : Int)
        congr 1
        rw [HT.out]
        omega
      · show _ = Value.int .u32 (((xd + (xh + bs1 xe + chf xe xf xg + k + y)) % 4294967296 : Nat) : Int)
        congr 1
        rw [HT.out]
        omega
    · obtain rfl : j = 64 := by omega
      have HS : Hid (st = rnds (schedL b) s 64) := hst
      clear hst
      obtain ⟨xa, xb, xc, xd, xe, xf, xg, xh⟩ := st
      have c0 : wr.cell? ⟨w.heap.size, 0, none⟩ = some (.int .u32 (s.a : Nat)) := by simp [World.cell?, g2, stC]
      have c1 : wr.cell? ⟨w.heap.size, 1, none⟩ = some (.int .u32 (s.b : Nat)) := by simp [World.cell?, g2, stC]
      have c2 : wr.cell? ⟨w.heap.size, 2, none⟩ = some (.int .u32 (s.c : Nat)) := by simp [World.cell?, g2, stC]
      have c3 : wr.cell? ⟨w.heap.size, 3, none⟩ = some (.int .u32 (s.d : Nat)) := by simp [World.cell?, g2, stC]
      have c4 : wr.cell? ⟨w.heap.size, 4, none⟩ = some (.int .u32 (s.e : Nat)) := by simp [World.cell?, g2, stC]
      have c5 : wr.cell? ⟨w.heap.size, 5, none⟩ = some (.int .u32 (s.f : Nat)) := by simp [World.cell?, g2, stC]
      have c6 : wr.cell? ⟨w.heap.size, 6, none⟩ = some (.int .u32 (s.g : Nat)) := by simp [World.cell?, g2, stC]
      have c7 : wr.cell? ⟨w.heap.size, 7, none⟩ = some (.int .u32 (s.h : Nat)) := by simp [World.cell?, g2, stC]
      have HC2 : Hid (comp s b = addSt s ⟨xa, xb, xc, xd, xe, xf, xg, xh⟩) := by show comp s b = _; rw [comp, ← HS.out]
      have hinfo : (Tryz.prog.info? 65).map (·.size) = some (stC (addSt s ⟨xa, xb, xc, xd, xe, xf, xg, xh⟩)).size := by show _ = some 8; kernel_rfl
      have hone : (stC (addSt s ⟨xa, xb, xc, xd, xe, xf, xg, xh⟩)).all (·.oneCell') = true := by simp [stC, Value.oneCell']
      go_wp2_with (refine wpList_store_row rfl 65 _ _ rfl (w.heap.size + 1) (stC (addSt s ⟨xa, xb, xc, xd, xe, xf, xg, xh⟩)) rfl rfl 65 _ r2 hinfo rfl hone ?_)
      have hl0 := run_loadVar_row (P := Tryz.prog) (wr.setRow (w.heap.size + 1) (stC (addSt s ⟨xa, xb, xc, xd, xe, xf, xg, xh⟩))) (w.heap.size + 1) 65 65 (stC (addSt s ⟨xa, xb, xc, xd, xe, xf, xg, xh⟩)) (0, 0) _ (setRow_heap _ _ _ _ _ _ r2) Tryz.underlying65 rfl hinfo
      have hba := below_rowG h2 (show w.heap.size ≤ w.heap.size + 1 by omega) (stC (addSt s ⟨xa, xb, xc, xd, xe, xf, xg, xh⟩))
      exact bodyPost_ret (v := .agg (stC (addSt s ⟨xa, xb, xc, xd, xe, xf, xg, xh⟩))) (by simp [results, Tryz.results65, asAddr, Act.put, hl0]) rfl ⟨by rw [HC2.out], hba⟩
end Go.Proofs.YtdhiopbomnfmnaaGreatDoor.Sm
