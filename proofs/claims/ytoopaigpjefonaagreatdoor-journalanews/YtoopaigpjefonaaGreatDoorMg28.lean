/- sum.putHigh, called with a part of a block's cells and a number, lays the number there, the highest byte first, and changes nothing else. · sum's state.bytes, called with a state, tells its 32 bytes, and changes nothing that was there. · sum's state.with, called with a state and a pointer to a block of 64 bytes, tells the state behind the block, and changes nothing that was there. · Blocks of cells: a part of one written anew; copy of a text's first bytes into one. · sum.finish, called with a mix of bytes, tells their sum, and changes nothing that was there. · sum's Mix.Feed: what was fed stands behind what the mix has; nothing else is changed. -/
import Derived.Test.YtoopaigpjefonaaGreatDoorMg27
import Derived.Deep.WholeRow
import Derived.Deep.RegionHeld3
import Derived.Deep.QuietTactic
import Derived.BigQuiet
import Derived.Laws.DeepNot64
import Derived.Lib.LazyBuf
import Derived.Lib.SliceRun
namespace Go.Proofs.YtoopaigpjefonaaGreatDoor.Sm
set_option maxRecDepth 20000
open Go.RowKit

/-- A block whose cells are these. -/
def Row (w : World) (g : Nat) (t : TypeId) (l : List Value) : Prop := w.heap[g]? = some (.cells l.toArray t (0, 0))
/-- Nothing that was there is changed but block b. -/
def Only (b : Nat) (w w' : World) : Prop := Below 0 w w' ∧ ∀ k, k < w.heap.size → k ≠ b → w'.heap[k]? = w.heap[k]?
theorem Only.refl (b : Nat) (w : World) : Only b w w := ⟨Below.refl _ _, fun _ _ _ => rfl⟩
theorem Only.trans {b : Nat} {w w1 w2 : World} (h : Only b w w1) (k : Only b w1 w2) : Only b w w2 :=
  ⟨h.1.trans k.1, fun i hi hb => (k.2 i (Nat.lt_of_lt_of_le hi h.1.size) hb).trans (h.2 i hi hb)⟩
theorem Only.of_below {b : Nat} {w w' : World} (h : Below w.heap.size w w') : Only b w w' := ⟨h.mono (Nat.zero_le _), fun k hk _ => h.block k hk⟩
theorem Only.below {b : Nat} {w w' : World} (h : Only b w w') (hb : b ≤ w.heap.size) : Below b w w' := ⟨h.1.os, h.1.tape, h.1.output, h.1.size, fun k hk => h.2 k (by omega) (by omega)⟩
theorem Only.size {b : Nat} {w w' : World} (h : Only b w w') : w.heap.size ≤ w'.heap.size := h.1.size
theorem Only.drew {b : Nat} {w w' : World} (h : Only b w w') : Only b w w'.drew := ⟨h.1.drew, fun k hk hb => h.2 k hk hb⟩
theorem Only.setCell {b : Nat} {w w' : World} (h : Only b w w') (i : Nat) (v : Value) : Only b w (w'.setCell ⟨b, i, none⟩ v) :=
  ⟨h.1.setCell (p := ⟨b, i, none⟩) (Nat.zero_le _) _, fun k hk hb => (Below.heap_setCell w' ⟨b, i, none⟩ _ k hb).trans (h.2 k hk hb)⟩
theorem set_mid (A P Q C : List Value) (v q : Value) (n : Nat) (hn : n = A.length + P.length) : (A ++ P ++ (q :: Q) ++ C).toArray.setIfInBounds n v = (A ++ (P ++ [v]) ++ Q ++ C).toArray := by
  subst hn
  rw [List.setIfInBounds_toArray]
  congr 1
  rw [List.append_assoc, List.set_append_right _ _ (by simp), List.length_append, Nat.sub_self]
  simp
/-- A number's bytes, n of them, the highest first. -/
def beV (L n : Nat) : List Value := (List.range L).map fun i => Value.int .u8 ((n / 2 ^ (8 * (L - 1 - i)) % 256 : Nat) : Int)

set_option maxHeartbeats 1000000 in
theorem putHigh_any (g t : Nat) (A B C : List Value) (L cap n : Nat) (hL : L ≤ 8) (hB : B.length = L) (w : World) (hr : Row w g t (A ++ B ++ C)) :
    Calls Tryz.prog 127 #[.slice (some ⟨g, A.length, none⟩) L cap, .int .u64 n] w fun e w' => e = .returned (.tuple #[]) ∧ Row w' g t (A ++ beV L n ++ C) ∧ Only g w w' := by
  go_enter Tryz.func127, Tryz.ntmps127
  go_wp2_with fail
  go_loopw [7] (fun i wr => ∃ j : Nat, j ≤ L ∧ i = .int .i64 j ∧ Row wr g t (A ++ (beV L n).take j ++ B.drop j ++ C) ∧ Only g w wr) (fun i _ => L - (intOf i).toNat)
  case atStart => exact ⟨0, Nat.zero_le _, rfl, by simpa using hr, Only.refl _ _⟩
  case round =>
    clear hr
    obtain ⟨j, hj, rfl, hr, ho⟩ := hrel
    by_cases hlt : j < L
    · obtain ⟨q, Q, hq⟩ : ∃ q Q, B.drop j = q :: Q := ⟨B[j], B.drop (j + 1), List.drop_eq_getElem_cons (by omega)⟩
      have hQ : Q = B.drop (j + 1) := by
        have h1 := congrArg List.tail hq
        simpa using h1.symm
      have hbl : (beV L n).length = L := by simp [beV]
      have hbt : (beV L n).take (j + 1) = (beV L n).take j ++ [Value.int .u8 ((n / 2 ^ (8 * (L - 1 - j)) % 256 : Nat) : Int)] := by
        rw [List.take_succ_eq_append_getElem (by omega)]
        simp [beV]
      rw [hq] at hr
      have hpl : ((beV L n).take j).length = j := by simp; omega
      have d1 : wr.cell? ⟨g, A.length + j, none⟩ = some q := (cell_of_row _ _ _ _ _ _ hr).trans (by
        rw [List.getElem?_toArray, List.append_assoc, List.getElem?_append_right (by simp; omega), List.length_append, hpl, Nat.sub_self]
        rfl)
      have d2 : wr.frozen? ⟨g, A.length + j, none⟩ = false := by simp [World.frozen?, show wr.heap[g]? = _ from hr]
      obtain ⟨m, hm⟩ : ∃ m, m = L - 1 - j := ⟨_, rfl⟩
      rw [← hm] at hbt
      have e1 : (L : Int) - 1 - (j : Int) = m := by omega
      have e2 : IntKind.i64.wrap ((L : Int) - 1) = L - 1 := by rw [IntKind.wrap_i64]; omega
      have e3 : IntKind.i64.wrap (m : Int) = m := by rw [IntKind.wrap_i64]; omega
      have e4 : IntKind.i64.wrap (8 * (m : Int)) = 8 * m := by rw [IntKind.wrap_i64]; omega
      have e5 : (8 * (m : Int)).toNat = 8 * m := by omega
      have e6 : (0 : Int) ≤ 8 * (m : Int) := by omega
      have s1 : (j : Int) < L := by omega
      clear hm hq hbl
      have hv : Value.int .u8 ((n : Int) / 2 ^ (8 * m) % 256) = Value.int .u8 ((n / 2 ^ (8 * m) % 256 : Nat) : Int) := by
        congr 1
      have hr' := heap_setCell_same wr g (A.length + j) _ _ (Value.int .u8 ((n : Int) / 2 ^ (8 * m) % 256)) hr
      rw [set_mid A ((beV L n).take j) Q C _ q _ (by rw [hpl]), hv, ← hbt, hQ] at hr'
      have HR : Hid (Row (wr.setCell ⟨g, A.length + j, none⟩ (Value.int .u8 ((n / 2 ^ (8 * m) % 256 : Nat) : Int))) g t (A ++ (beV L n).take (j + 1) ++ B.drop (j + 1) ++ C)) := hr'
      clear hr hr' hbt hQ hpl hv
      go_wp2_with fail
      refine ⟨⟨j + 1, by omega, by go_num, ?_, ho.setCell _ _⟩, by simp [intOf]; omega⟩
      exact HR.out
    · obtain rfl : j = L := by omega
      go_wp2
      go_end0
      refine ⟨rfl, ?_, ho⟩
      have h1 : (beV j n).take j = beV j n := List.take_of_length_le (by simp [beV])
      have h2 : B.drop j = [] := List.drop_eq_nil_of_le (by omega)
      rw [h1, h2, List.append_nil] at hr
      exact hr
theorem putHigh_at (g t o : Nat) (A B C : List Value) (ho : o = A.length) (L cap n : Nat) (hL : L ≤ 8) (hB : B.length = L) (w : World) (hr : Row w g t (A ++ B ++ C)) :
    Calls Tryz.prog 127 #[.slice (some ⟨g, o, none⟩) L cap, .int .u64 n] w fun e w' => e = .returned (.tuple #[]) ∧ Row w' g t (A ++ beV L n ++ C) ∧ Only g w w' := by
  subst ho
  exact putHigh_any g t A B C L cap n hL hB w hr
end Go.Proofs.YtoopaigpjefonaaGreatDoor.Sm

namespace Go.Proofs.YtoopaigpjefonaaGreatDoor.Sm
set_option maxRecDepth 20000
open Go.RowKit

/-- A state as a value's cells. -/
def stC (s : St) : Array Value := #[.int .u32 (s.a : Nat), .int .u32 (s.b : Nat), .int .u32 (s.c : Nat), .int .u32 (s.d : Nat), .int .u32 (s.e : Nat), .int .u32 (s.f : Nat), .int .u32 (s.g : Nat), .int .u32 (s.h : Nat)]
/-- Bytes as values. -/
def byV (l : List Nat) : List Value := l.map fun x => Value.int .u8 (x : Nat)

/-- Word i of a state. -/
def St.at (s : St) (i : Nat) : Nat := [s.a, s.b, s.c, s.d, s.e, s.f, s.g, s.h].getD i 0
theorem St.at_lt {s : St} (h : s.ok) (i : Nat) : s.at i < 4294967296 := by
  obtain ⟨h1, h2, h3, h4, h5, h6, h7, h8⟩ := h
  refine getD_lt (by decide) (fun x hx => ?_) i
  simp only [List.mem_cons, List.not_mem_nil, or_false] at hx
  rcases hx with rfl | rfl | rfl | rfl | rfl | rfl | rfl | rfl <;> assumption
theorem stC_at (s : St) (i : Nat) (h : i < 8) : (stC s)[i]? = some (.int .u32 (s.at i : Nat)) := by
  match i, h with
  | 0, _ => rfl
  | 1, _ => rfl
  | 2, _ => rfl
  | 3, _ => rfl
  | 4, _ => rfl
  | 5, _ => rfl
  | 6, _ => rfl
  | 7, _ => rfl
theorem beV4 (n : Nat) : beV 4 n = byV (be4 n) := by
  simp [beV, byV, be4, List.range, List.range.loop]
/-- The bytes of a state's first n words. -/
def outN (s : St) : Nat → List Nat
  | 0 => []
  | n + 1 => outN s n ++ be4 (s.at n)
theorem outN_length (s : St) : ∀ n, (outN s n).length = 4 * n
  | 0 => rfl
  | n + 1 => by rw [outN, List.length_append, outN_length s n, be4_length]; omega
theorem outN_all (s : St) : outN s 8 = outL s := rfl
/-- 32 bytes, of which the first ones are told. -/
def digV (l : List Nat) : List Value := byV l ++ List.replicate (32 - l.length) (Value.int .u8 0)

theorem below_rowH {B g : Nat} {w0 w : World} (h : Below B w0 w) (hg : B ≤ g) (cs : Array Value) : Below B w0 (w.setRow g cs) :=
  h.trans ⟨rfl, rfl, rfl, by simp [World.setRow], fun k hk => setRow_other _ _ _ _ (by omega)⟩
theorem index_state (cs : Array Value) (j : Nat) (v : Value) (hj : j < 8) (hv : cs[j]? = some v) (w : World) : (Instr.index 162 (.agg cs) (.int .i64 j)).run Tryz.prog w = .ok v w := by
  simp [Instr.index, run_underlying Tryz.underlying162, asIntOf, hj, hv, go_sem]
theorem digV_split (s : St) (j : Nat) (h : j < 8) : digV (outN s j) = byV (outN s j) ++ List.replicate 4 (Value.int .u8 0) ++ List.replicate (28 - 4 * j) (Value.int .u8 0) := by
  rw [digV, outN_length, List.append_assoc, List.replicate_append_replicate]
  congr 2
  omega
theorem digV_step (s : St) (j : Nat) (h : j < 8) : byV (outN s j) ++ beV 4 (s.at j) ++ List.replicate (28 - 4 * j) (Value.int .u8 0) = digV (outN s (j + 1)) := by
  rw [digV, outN_length, beV4, outN, byV, byV, byV, List.map_append]
  congr 2
  omega

set_option maxHeartbeats 1000000 in
theorem bytes_any (s : St) (hs : s.ok) (w : World) :
    Calls Tryz.prog 177 #[.agg (stC s)] w fun e w' => e = .returned (.agg (byV (outL s)).toArray) ∧ Below w.heap.size w w' := by
  have HS : Hid (∀ i, i < 8 → (stC s)[i]? = some (.int .u32 (s.at i : Nat)) ∧ s.at i < 4294967296) := fun i h => ⟨stC_at s i h, St.at_lt hs i⟩
  have hinf : (Tryz.prog.info? 162).map (·.size) = some (stC s).size := by show _ = some 8; kernel_rfl
  obtain ⟨cs, hcs⟩ : ∃ cs, cs = stC s := ⟨_, rfl⟩
  rw [← hcs] at HS hinf
  rw [← hcs]
  clear hcs
  have hg0 : ∀ o1 o2, (((w.alloc (.cells cs 162)).alloc o1).alloc o2).heap[w.heap.size]? = some (.cells cs 162 (0, 0)) := fun o1 o2 => (Below.heap_alloc _ _ _ (by simp; omega)).trans (heap_alloc2_old w _ _)
  go_enter Tryz.func177, Tryz.ntmps177
  go_wp2_with (refine wpList_load_row rfl 162 _ rfl w.heap.size rfl 162 _ (0, 0) _ (hg0 _ _) Tryz.underlying162 rfl hinf ?_)
  have HB : Hid (Below w.heap.size w (((w.alloc (.cells cs 162)).alloc (.cells (digV []).toArray 172)).alloc (.cells (digV []).toArray 172))) := (((Below.refl _ _).alloc (Nat.le_refl _) _).alloc (by simp) _).alloc (by simp; omega) _
  clear hg0 hinf
  go_loopw [7] (fun i wr => ∃ j : Nat, j ≤ 8 ∧ i = .int .i64 j ∧ Row wr (w.heap.size + 1 + 1) 172 (digV (outN s j)) ∧ Row wr (w.heap.size + 1) 172 (digV []) ∧ Below w.heap.size w wr) (fun i _ => 8 - (intOf i).toNat)
  case atStart =>
    refine ⟨0, Nat.zero_le _, rfl, ?_, ?_, HB.out⟩
    · have := heap_alloc_new ((w.alloc (.cells cs 162)).alloc (.cells (digV []).toArray 172)) (.cells (digV []).toArray 172)
      simpa [Row, digV, outN, byV] using this
    · exact (Below.heap_alloc _ _ _ (by simp)).trans (heap_alloc2_new w _ _)
  case round =>
    obtain ⟨j, hj, rfl, k1, k0, hbw⟩ := hrel
    by_cases hlt : j < 8
    · obtain ⟨ha, hal⟩ := HS.out j hlt
      obtain ⟨x, hx⟩ : ∃ x, x = s.at j := ⟨_, rfl⟩
      rw [← hx] at ha hal
      have hix := index_state cs j _ hlt ha wr
      clear ha
      have HX : Hid (x = s.at j) := hx
      clear hx
      have q0 : IntKind.i64.wrap (4 * (j : Int)) = 4 * j := by rw [IntKind.wrap_i64]; omega
      have q1 : IntKind.i64.wrap (4 * (j : Int) + 4) = 4 * j + 4 := by rw [IntKind.wrap_i64]; omega
      have t0 : ((4 : Int) * j).toNat = 4 * j := by omega
      have t1 : ((4 : Int) * j + 4).toNat = 4 * j + 4 := by omega
      have r0 : (0 : Int) ≤ 4 * (j : Int) := by omega
      have r1 : 4 * (j : Int) ≤ 4 * (j : Int) + 4 := by omega
      have r2 : 4 * (j : Int) + 4 ≤ 32 := by omega
      have s4 : (j : Int) < 8 := by omega
      have n4 : ¬ 32 = 4 * j := by omega
      have k1' : Row wr (w.heap.size + 1 + 1) 172 (byV (outN s j) ++ List.replicate 4 (Value.int .u8 0) ++ List.replicate (28 - 4 * j) (Value.int .u8 0)) := by rw [← digV_split s j hlt]; exact k1
      have HP := putHigh_at (w.heap.size + 1 + 1) 172 (4 * j) _ _ _ (by simp [byV, outN_length]) 4 (32 - 4 * j) x (by decide) (by simp) wr k1'
      have HA : Hid (byV (outN s j) ++ beV 4 x ++ List.replicate (28 - 4 * j) (Value.int .u8 0) = digV (outN s (j + 1))) := by
        show _ = _
        rw [HX.out]; exact digV_step s j hlt
      rw [HA.out] at HP
      clear k1 k1'
      go_wp2_with fail
      refine HP.mono ?_
      rintro e w2 ⟨rfl, k1, ho⟩
      have hlt0 : w.heap.size + 1 < wr.heap.size := lt_of_block k0
      have k0' : Row w2 (w.heap.size + 1) 172 (digV []) := (ho.2 _ hlt0 (by omega)).trans k0
      have hbw' : Below w.heap.size w w2 := hbw.trans ((ho.below (by omega)).mono (by omega))
      clear HP k0 hbw hix ho
      go_wp2
      go_roundw
      case rel => exact ⟨j + 1, by omega, by go_num, k1, k0', hbw'⟩
      case measure => simp [intOf]; omega
    · obtain rfl : j = 8 := by omega
      have hrow : digV (outN s 8) = byV (outL s) := by rw [digV, outN_length, outN_all]; simp
      rw [hrow] at k1
      obtain ⟨ds, hds⟩ : ∃ ds, ds = (byV (outL s)).toArray := ⟨_, rfl⟩
      have hsz : ds.size = 32 := by rw [hds]; simp [byV, outL_length]
      have hone : ds.all (·.oneCell') = true := by rw [hds]; simp [byV, Value.oneCell']
      have k1' : wr.heap[w.heap.size + 1 + 1]? = some (.cells ds 172 (0, 0)) := by rw [hds]; exact k1
      have HDS : Hid (ds = (byV (outL s)).toArray) := hds
      clear hds k1 hrow
      have k0' : wr.heap[w.heap.size + 1]? = some (.cells (digV []).toArray 172 (0, 0)) := k0
      have hs0 : (digV []).toArray.size = ds.size := by rw [hsz]; rfl
      have hinfo : (Tryz.prog.info? 172).map (·.size) = some ds.size := by rw [hsz]; kernel_rfl
      have hba := below_rowH hbw (show w.heap.size ≤ w.heap.size + 1 by omega) ds
      have hl0 := run_loadVar_row (P := Tryz.prog) (wr.setRow (w.heap.size + 1) ds) (w.heap.size + 1) 172 172 ds (0, 0) _ (setRow_heap _ _ _ _ _ _ k0') Tryz.underlying172 rfl hinfo
      go_wp2_with (first | refine wpList_load_row rfl 172 _ rfl (w.heap.size + 1 + 1) rfl 172 _ (0, 0) _ k1' Tryz.underlying172 rfl hinfo ?_ | refine wpList_store_row rfl 172 _ _ rfl (w.heap.size + 1) ds rfl rfl 172 _ k0' hinfo hs0 hone ?_)
      exact bodyPost_ret (v := .agg ds) (by simp [results, Tryz.results177, asAddr, Act.put, hl0]) rfl ⟨by rw [HDS.out], hba⟩
end Go.Proofs.YtoopaigpjefonaaGreatDoor.Sm

namespace Go.Proofs.YtoopaigpjefonaaGreatDoor.Sm
set_option maxRecDepth 20000
open Go.RowKit

/-- A world in which the table of k stands where the program has it. -/
def Cubes (w : World) : Prop := 2 < w.heap.size ∧ ∀ i, i < 64 → w.cell? ⟨2, i, none⟩ = some (.int .u32 (keyN i : Nat))

theorem not_nat (e : Nat) (h : e < 4294967296) : 4294967295 ^^^ e = 4294967295 - e := by
  apply Nat.eq_of_testBit_eq
  intro i
  have h1 : (4294967295 - e).testBit i = (decide (i < 32) && !e.testBit i) := by
    rw [show 4294967295 - e = 2 ^ 32 - (e + 1) by omega]
    exact Nat.testBit_two_pow_sub_succ (n := 32) h i
  have h2 : Nat.testBit 4294967295 i = decide (i < 32) := Nat.testBit_two_pow_sub_one 32 i
  rw [Nat.testBit_xor, h1, h2]
  by_cases hi : i < 32
  · simp [hi]
  · have h3 : e.testBit i = false := Nat.testBit_lt_two_pow (Nat.lt_of_lt_of_le h (Nat.pow_le_pow_right (n := 2) (by decide) (by omega : 32 ≤ i)))
    simp [hi, h3]
theorem bs1_bits (e : Nat) : bits .xor .u32 (bits .xor .u32 ((rotr e 6 : Nat) : Int) ((rotr e 11 : Nat) : Int)) ((rotr e 25 : Nat) : Int) = ((bs1 e : Nat) : Int) := by
  rw [u32_xor_nat _ _ (rotr_lt _ _) (rotr_lt _ _), u32_xor_nat _ _ (xor_lt (rotr_lt _ _) (rotr_lt _ _)) (rotr_lt _ _)]
  rfl
theorem bs0_bits (e : Nat) : bits .xor .u32 (bits .xor .u32 ((rotr e 2 : Nat) : Int) ((rotr e 13 : Nat) : Int)) ((rotr e 22 : Nat) : Int) = ((bs0 e : Nat) : Int) := by
  rw [u32_xor_nat _ _ (rotr_lt _ _) (rotr_lt _ _), u32_xor_nat _ _ (xor_lt (rotr_lt _ _) (rotr_lt _ _)) (rotr_lt _ _)]
  rfl
theorem chf_bits (e f g : Nat) (he : e < 4294967296) (hf : f < 4294967296) (hg : g < 4294967296) : bits .xor .u32 (bits .and .u32 (e : Int) (f : Int)) (bits .and .u32 (bits .xor .u32 IntKind.u32.max (e : Int)) (g : Int)) = ((chf e f g : Nat) : Int) := by
  rw [show (IntKind.u32.max : Int) = ((4294967295 : Nat) : Int) from rfl, u32_xor_nat _ _ (by decide) he, not_nat e he, u32_and_nat _ _ he hf, u32_and_nat _ _ (by omega) hg, u32_xor_nat _ _ (and_lt hf) (and_lt hg)]
  rfl
theorem maj_bits (a b c : Nat) (ha : a < 4294967296) (hb : b < 4294967296) (hc : c < 4294967296) : bits .xor .u32 (bits .xor .u32 (bits .and .u32 (a : Int) (b : Int)) (bits .and .u32 (a : Int) (c : Int))) (bits .and .u32 (b : Int) (c : Int)) = ((maj a b c : Nat) : Int) := by
  rw [u32_and_nat _ _ ha hb, u32_and_nat _ _ ha hc, u32_and_nat _ _ hb hc, u32_xor_nat _ _ (and_lt hb) (and_lt hc), u32_xor_nat _ _ (xor_lt (and_lt hb) (and_lt hc)) (and_lt hc)]
  rfl
theorem t_bits (e f g h k y : Nat) (he : e < 4294967296) (hf : f < 4294967296) (hg : g < 4294967296) :
    IntKind.u32.wrap (IntKind.u32.wrap (IntKind.u32.wrap (IntKind.u32.wrap ((h : Int) + bits .xor .u32 (bits .xor .u32 ((rotr e 6 : Nat) : Int) ((rotr e 11 : Nat) : Int)) ((rotr e 25 : Nat) : Int)) + bits .xor .u32 (bits .and .u32 (e : Int) (f : Int)) (bits .and .u32 (bits .xor .u32 IntKind.u32.max (e : Int)) (g : Int))) + (k : Int)) + (y : Int)) = (((h + bs1 e + chf e f g + k + y) % 4294967296 : Nat) : Int) := by
  rw [bs1_bits, chf_bits e f g he hf hg, IntKind.wrap_u32, IntKind.wrap_u32, IntKind.wrap_u32, IntKind.wrap_u32]
  omega
theorem u_bits (a b c : Nat) (ha : a < 4294967296) (hb : b < 4294967296) (hc : c < 4294967296) :
    IntKind.u32.wrap (bits .xor .u32 (bits .xor .u32 ((rotr a 2 : Nat) : Int) ((rotr a 13 : Nat) : Int)) ((rotr a 22 : Nat) : Int) + bits .xor .u32 (bits .xor .u32 (bits .and .u32 (a : Int) (b : Int)) (bits .and .u32 (a : Int) (c : Int))) (bits .and .u32 (b : Int) (c : Int))) = (((bs0 a + maj a b c) % 4294967296 : Nat) : Int) := by
  rw [bs0_bits, maj_bits a b c ha hb hc, IntKind.wrap_u32]
  omega
theorem add_bits (x y : Nat) : IntKind.u32.wrap ((x : Int) + (y : Int)) = (((x + y) % 4294967296 : Nat) : Int) := by
  rw [IntKind.wrap_u32]
  omega

set_option maxRecDepth 10000 in
set_option maxHeartbeats 1000000 in
theorem with_any (s : St) (hs : s.ok) (b : List Nat) (hb : Bytes b) (g off : Nat) (w : World) (hq : Cubes w) (hg : g < w.heap.size)
    (hc : ∀ i, i < 64 → w.cell? ⟨g, off + i, none⟩ = some (.int .u8 (b.getD i 0 : Nat))) :
    Calls Tryz.prog 156 #[.agg (stC s), .pointer (some ⟨g, off, none⟩)] w fun e w' => e = .returned (.agg (stC (comp s b))) ∧ Below w.heap.size w w' := by
  have HC : Hid (∀ i, i < 64 → w.cell? ⟨g, off + i, none⟩ = some (.int .u8 (b.getD i 0 : Nat))) := hc
  have HQ : Hid (Cubes w) := hq
  clear hc hq
  go_enter Tryz.func156, Tryz.ntmps156
  go_wp2_with fail
  have h0 : Below w.heap.size w ((w.alloc (.cells (stC s) 162)).alloc (.cells #[.int .u32 0, .int .u32 0, .int .u32 0, .int .u32 0, .int .u32 0, .int .u32 0, .int .u32 0, .int .u32 0] 162)) := ((Below.refl _ _).alloc (Nat.le_refl _) _).alloc (by simp) _
  have g0 := heap_alloc2_old w (.cells (stC s) 162) (.cells #[.int .u32 0, .int .u32 0, .int .u32 0, .int .u32 0, .int .u32 0, .int .u32 0, .int .u32 0, .int .u32 0] 162)
  have r0 := heap_alloc2_new w (.cells (stC s) 162) (.cells #[.int .u32 0, .int .u32 0, .int .u32 0, .int .u32 0, .int .u32 0, .int .u32 0, .int .u32 0, .int .u32 0] 162)
  generalize (w.alloc (.cells (stC s) 162)).alloc (.cells #[.int .u32 0, .int .u32 0, .int .u32 0, .int .u32 0, .int .u32 0, .int .u32 0, .int .u32 0, .int .u32 0] 162) = w0 at *
  refine (schedule_any b hb g off w0 (Nat.lt_of_lt_of_le hg h0.size) (fun i hi => (h0.cell (p := ⟨g, off + i, none⟩) hg).trans (HC.out i hi))).mono ?_
  rintro e w1 ⟨rfl, hb1⟩
  have g1 := (hb1.block _ (lt_of_block g0)).trans g0
  have r1 := (hb1.block _ (lt_of_block r0)).trans r0
  have h1 := h0.trans (hb1.mono h0.size)
  have hlt1 := lt_of_block r1
  clear h0 g0 r0 hb1
  obtain ⟨cs, hcs⟩ : ∃ cs, cs = ((schedL b).map fun x => Value.int .u32 (x : Nat)).toArray := ⟨_, rfl⟩
  have hsz : cs.size = 64 := by rw [hcs]; simp [schedL_length]
  have hone : cs.all (·.oneCell') = true := by rw [hcs]; simp [Value.oneCell']
  have HW : Hid (∀ i, i < 64 → cs[i]? = some (.int .u32 (schedN b i : Nat))) := fun i hi => by
    rw [hcs, List.getElem?_toArray, List.getElem?_map, List.getElem?_eq_getElem (by rw [schedL_length]; exact hi)]
    show some _ = some _
    rw [schedN, getD_at _ _ (by rw [schedL_length]; exact hi)]
  rw [← hcs]
  clear hcs
  have hinfo : (Tryz.prog.info? 276).map (·.size) = some cs.size := by rw [hsz]; kernel_rfl
  go_wp2_with (refine wpList_store_row rfl 276 _ _ rfl w1.heap.size cs rfl rfl 276 _ (heap_alloc_new w1 _) hinfo (by rw [hsz]; rfl) hone ?_)
  rw [World.setRow_alloc_new]
  have k2 := heap_alloc_new w1 (.cells cs 276)
  have g2 := (Below.heap_alloc w1 (.cells cs 276) w.heap.size (lt_of_block g1)).trans g1
  have r2 := (Below.heap_alloc w1 (.cells cs 276) (w.heap.size + 1) (lt_of_block r1)).trans r1
  have h2 := h1.alloc h1.size (.cells cs 276)
  clear h1 g1 r1 hinfo hone
  generalize w1.alloc (.cells cs 276) = w2 at *
  have c0 : w2.cell? ⟨w.heap.size, 0, none⟩ = some (.int .u32 (s.a : Nat)) := by simp [World.cell?, g2, stC]
  have c1 : w2.cell? ⟨w.heap.size, 1, none⟩ = some (.int .u32 (s.b : Nat)) := by simp [World.cell?, g2, stC]
  have c2 : w2.cell? ⟨w.heap.size, 2, none⟩ = some (.int .u32 (s.c : Nat)) := by simp [World.cell?, g2, stC]
  have c3 : w2.cell? ⟨w.heap.size, 3, none⟩ = some (.int .u32 (s.d : Nat)) := by simp [World.cell?, g2, stC]
  have c4 : w2.cell? ⟨w.heap.size, 4, none⟩ = some (.int .u32 (s.e : Nat)) := by simp [World.cell?, g2, stC]
  have c5 : w2.cell? ⟨w.heap.size, 5, none⟩ = some (.int .u32 (s.f : Nat)) := by simp [World.cell?, g2, stC]
  have c6 : w2.cell? ⟨w.heap.size, 6, none⟩ = some (.int .u32 (s.g : Nat)) := by simp [World.cell?, g2, stC]
  have c7 : w2.cell? ⟨w.heap.size, 7, none⟩ = some (.int .u32 (s.h : Nat)) := by simp [World.cell?, g2, stC]
  go_region_held3 (fun w' => w'.cell? ⟨w.heap.size, 0, none⟩ = some (.int .u32 (s.a : Nat)) ∧ w'.cell? ⟨w.heap.size, 1, none⟩ = some (.int .u32 (s.b : Nat)) ∧ w'.cell? ⟨w.heap.size, 2, none⟩ = some (.int .u32 (s.c : Nat)) ∧ w'.cell? ⟨w.heap.size, 3, none⟩ = some (.int .u32 (s.d : Nat)) ∧ w'.cell? ⟨w.heap.size, 4, none⟩ = some (.int .u32 (s.e : Nat)) ∧ w'.cell? ⟨w.heap.size, 5, none⟩ = some (.int .u32 (s.f : Nat)) ∧ w'.cell? ⟨w.heap.size, 6, none⟩ = some (.int .u32 (s.g : Nat)) ∧ w'.cell? ⟨w.heap.size, 7, none⟩ = some (.int .u32 (s.h : Nat))) (simp [go_sem, *]) (fail)
  clear c0 c1 c2 c3 c4 c5 c6 c7
  go_wp2_with fail
  go_loopw [6, 7, 8, 9, 10, 11, 12, 13, 35] (fun a b' c d e f g' h i wr => ∃ j : Nat, j ≤ 64 ∧ i = .int .i64 j ∧ a = .int .u32 ((rnds (schedL b) s j).a : Nat) ∧ b' = .int .u32 ((rnds (schedL b) s j).b : Nat) ∧ c = .int .u32 ((rnds (schedL b) s j).c : Nat) ∧ d = .int .u32 ((rnds (schedL b) s j).d : Nat) ∧ e = .int .u32 ((rnds (schedL b) s j).e : Nat) ∧ f = .int .u32 ((rnds (schedL b) s j).f : Nat) ∧ g' = .int .u32 ((rnds (schedL b) s j).g : Nat) ∧ h = .int .u32 ((rnds (schedL b) s j).h : Nat) ∧ wr.heap[w1.heap.size]? = some (.cells cs 276 (0, 0)) ∧ wr.heap[w.heap.size]? = some (.cells (stC s) 162 (0, 0)) ∧ wr.heap[w.heap.size + 1]? = some (.cells #[.int .u32 0, .int .u32 0, .int .u32 0, .int .u32 0, .int .u32 0, .int .u32 0, .int .u32 0, .int .u32 0] 162 (0, 0)) ∧ Below w.heap.size w wr) (fun _ _ _ _ _ _ _ _ i _ => 64 - (intOf i).toNat)
  case atStart => exact ⟨0, Nat.zero_le _, rfl, rfl, rfl, rfl, rfl, rfl, rfl, rfl, rfl, k2, g2, r2, h2.drew⟩
  case round =>
    clear k2 g2 r2 h2
    obtain ⟨j, hj, rfl, rfl, rfl, rfl, rfl, rfl, rfl, rfl, rfl, k2, g2, r2, h2⟩ := hrel
    obtain ⟨st, hst⟩ : ∃ st, st = rnds (schedL b) s j := ⟨_, rfl⟩
    have hok : st.ok := by rw [hst]; exact rnds_ok hs _ _
    rw [← hst]
    by_cases hlt : j < 64
    · have ck := (h2.cell (p := ⟨2, j, none⟩) HQ.out.1).trans (HQ.out.2 j hlt)
      have cw := (cell_of_row _ _ j _ _ _ k2).trans (HW.out j hlt)
      obtain ⟨k, hk⟩ : ∃ k, k = keyN j := ⟨_, rfl⟩
      obtain ⟨y, hy⟩ : ∃ y, y = schedN b j := ⟨_, rfl⟩
      rw [← hk] at ck
      rw [← hy] at cw
      have HST : Hid (rnds (schedL b) s (j + 1) = rnd k y st) := by
        show rnds (schedL b) s (j + 1) = _
        rw [rnds, hk, hy, hst]; rfl
      have HK : Hid (k < 4294967296 ∧ y < 4294967296) := ⟨by rw [hk]; exact keyN_lt j, by rw [hy]; exact schedN_lt hb j⟩
      clear hk hy hst
      have HOK : Hid st.ok := hok
      obtain ⟨hA, hB, hC, hD, hE, hF, hG, hH⟩ := hok
      have s4 : (j : Int) < 64 := by omega
      obtain ⟨xa, xb, xc, xd, xe, xf, xg, xh⟩ := st
      simp only at hA hB hC hD hE hF hG hH
      go_wp2_with fail
      go_region_held3 (fun w' => w'.cell? ⟨2, j, none⟩ = some (.int .u32 (k : Nat)) ∧ w'.cell? ⟨w1.heap.size, j, none⟩ = some (.int .u32 (y : Nat))) (simp [go_sem, *]) (first | (go_at_call 176; refine (right_any xe 6 hE (by decide) (by decide) _).mono ?_; rintro e w' ⟨rfl, rfl⟩) | (go_at_call 176; refine (right_any xe 11 hE (by decide) (by decide) _).mono ?_; rintro e w' ⟨rfl, rfl⟩) | (go_at_call 176; refine (right_any xe 25 hE (by decide) (by decide) _).mono ?_; rintro e w' ⟨rfl, rfl⟩))
      rw [t_bits xe xf xg xh k y hE hF hG]
      obtain ⟨T, hT⟩ : ∃ T, T = (xh + bs1 xe + chf xe xf xg + k + y) % 4294967296 := ⟨_, rfl⟩
      rw [← hT]
      have HT : Hid (T = (xh + bs1 xe + chf xe xf xg + k + y) % 4294967296) := hT
      clear hT ck cw
      go_wp2_with fail
      refine (right_any xa 2 hA (by decide) (by decide) _).mono ?_
      rintro e w' ⟨rfl, rfl⟩
      go_wp2_with fail
      refine (right_any xa 13 hA (by decide) (by decide) _).mono ?_
      rintro e w' ⟨rfl, rfl⟩
      go_wp2_with fail
      refine (right_any xa 22 hA (by decide) (by decide) _).mono ?_
      rintro e w' ⟨rfl, rfl⟩
      go_wp2_with fail
      rw [bs0_bits, maj_bits xa xb xc hA hB hC]
      refine ⟨⟨j + 1, by omega, by go_num, ?_⟩, by simp [intOf]; omega⟩
      rw [HST.out]
      refine ⟨?_, rfl, rfl, rfl, ?_, rfl, rfl, rfl, k2, g2, r2, h2.drew⟩
      · show _ = Value.int .u32 (((xh + bs1 xe + chf xe xf xg + k + y + (bs0 xa + maj xa xb xc)) % 4294967296 : Nat) : Int)
        congr 1
        rw [HT.out]
        omega
      · show _ = Value.int .u32 (((xd + (xh + bs1 xe + chf xe xf xg + k + y)) % 4294967296 : Nat) : Int)
        congr 1
        rw [HT.out]
        omega
    · obtain rfl : j = 64 := by omega
      have HS : Hid (st = rnds (schedL b) s 64) := hst
      clear hst
      obtain ⟨xa, xb, xc, xd, xe, xf, xg, xh⟩ := st
      have c0 : wr.cell? ⟨w.heap.size, 0, none⟩ = some (.int .u32 (s.a : Nat)) := by simp [World.cell?, g2, stC]
      have c1 : wr.cell? ⟨w.heap.size, 1, none⟩ = some (.int .u32 (s.b : Nat)) := by simp [World.cell?, g2, stC]
      have c2 : wr.cell? ⟨w.heap.size, 2, none⟩ = some (.int .u32 (s.c : Nat)) := by simp [World.cell?, g2, stC]
      have c3 : wr.cell? ⟨w.heap.size, 3, none⟩ = some (.int .u32 (s.d : Nat)) := by simp [World.cell?, g2, stC]
      have c4 : wr.cell? ⟨w.heap.size, 4, none⟩ = some (.int .u32 (s.e : Nat)) := by simp [World.cell?, g2, stC]
      have c5 : wr.cell? ⟨w.heap.size, 5, none⟩ = some (.int .u32 (s.f : Nat)) := by simp [World.cell?, g2, stC]
      have c6 : wr.cell? ⟨w.heap.size, 6, none⟩ = some (.int .u32 (s.g : Nat)) := by simp [World.cell?, g2, stC]
      have c7 : wr.cell? ⟨w.heap.size, 7, none⟩ = some (.int .u32 (s.h : Nat)) := by simp [World.cell?, g2, stC]
      have HC2 : Hid (comp s b = addSt s ⟨xa, xb, xc, xd, xe, xf, xg, xh⟩) := by show comp s b = _; rw [comp, ← HS.out]
      have hinfo : (Tryz.prog.info? 162).map (·.size) = some (stC (addSt s ⟨xa, xb, xc, xd, xe, xf, xg, xh⟩)).size := by show _ = some 8; kernel_rfl
      have hone : (stC (addSt s ⟨xa, xb, xc, xd, xe, xf, xg, xh⟩)).all (·.oneCell') = true := by simp [stC, Value.oneCell']
      go_wp2_with (refine wpList_store_row rfl 162 _ _ rfl (w.heap.size + 1) (stC (addSt s ⟨xa, xb, xc, xd, xe, xf, xg, xh⟩)) rfl rfl 162 _ r2 hinfo rfl hone ?_)
      have hl0 := run_loadVar_row (P := Tryz.prog) (wr.setRow (w.heap.size + 1) (stC (addSt s ⟨xa, xb, xc, xd, xe, xf, xg, xh⟩))) (w.heap.size + 1) 162 162 (stC (addSt s ⟨xa, xb, xc, xd, xe, xf, xg, xh⟩)) (0, 0) _ (setRow_heap _ _ _ _ _ _ r2) Tryz.underlying162 rfl hinfo
      have hba := below_rowG h2 (show w.heap.size ≤ w.heap.size + 1 by omega) (stC (addSt s ⟨xa, xb, xc, xd, xe, xf, xg, xh⟩))
      exact bodyPost_ret (v := .agg (stC (addSt s ⟨xa, xb, xc, xd, xe, xf, xg, xh⟩))) (by simp [results, Tryz.results156, asAddr, Act.put, hl0]) rfl ⟨by rw [HC2.out], hba⟩
end Go.Proofs.YtoopaigpjefonaaGreatDoor.Sm

namespace Go.Proofs.YtoopaigpjefonaaGreatDoor.Sm
set_option maxRecDepth 20000
open Go.RowKit

theorem Row.lt {w : World} {g : Nat} {t : TypeId} {l : List Value} (h : Row w g t l) : g < w.heap.size := lt_of_block h
theorem Row.cell {w : World} {g : Nat} {t : TypeId} {l : List Value} (h : Row w g t l) (i : Nat) : w.cell? ⟨g, i, none⟩ = l[i]? := (cell_of_row _ _ _ _ _ _ h).trans (by simp)
theorem Row.frozen {w : World} {g : Nat} {t : TypeId} {l : List Value} (h : Row w g t l) (i : Nat) : w.frozen? ⟨g, i, none⟩ = false := by simp [World.frozen?, show w.heap[g]? = _ from h]
theorem Row.below {w w' : World} {g : Nat} {t : TypeId} {l : List Value} (h : Row w g t l) {B : Nat} (hb : Below B w w') (hg : g < B) : Row w' g t l := (hb.block _ hg).trans h
theorem Row.only {w w' : World} {g b : Nat} {t : TypeId} {l : List Value} (h : Row w g t l) (ho : Only b w w') (hg : g ≠ b) : Row w' g t l := (ho.2 _ h.lt hg).trans h
theorem Row.set {w : World} {g n : Nat} {t : TypeId} {A C : List Value} {q : Value} (h : Row w g t (A ++ [q] ++ C)) (v : Value) (hn : n = A.length) : Row (w.setCell ⟨g, n, none⟩ v) g t (A ++ [v] ++ C) := by
  have h1 := heap_setCell_same w g n _ t v h
  have h2 := set_mid A [] [] C v q n (by simpa using hn)
  simp only [List.append_nil, List.nil_append] at h2
  rw [h2] at h1
  exact h1
theorem Row.setCells {g : Nat} {t : TypeId} {C : List Value} : ∀ (vs B A : List Value) (w : World) (n : Nat), vs.length = B.length → n = A.length → Row w g t (A ++ B ++ C) → Row (w.setCells g n vs) g t (A ++ vs ++ C)
  | [], [], A, w, n, _, _, h => h
  | v :: vs, q :: B, A, w, n, hl, hn, h => by
    have h1 : Row w g t (A ++ [q] ++ (B ++ C)) := by simpa using h
    have h2 := h1.set v hn
    have h3 : Row (w.setCell ⟨g, n, none⟩ v) g t ((A ++ [v]) ++ B ++ C) := by simpa using h2
    have h4 := Row.setCells vs B (A ++ [v]) _ (n + 1) (by simpa using hl) (by simp [hn]) h3
    show Row ((w.setCell ⟨g, n, none⟩ v).setCells g (n + 1) vs) g t (A ++ (v :: vs) ++ C)
    rw [show A ++ (v :: vs) ++ C = (A ++ [v]) ++ vs ++ C by simp]
    exact h4
  | v :: vs, [], A, w, n, hl, _, _ => by simp at hl
  | [], q :: B, A, w, n, hl, _, _ => by simp at hl
theorem Only.setCells {b : Nat} {w : World} : ∀ (vs : List Value) (n : Nat) (w' : World), Only b w w' → Only b w (w'.setCells b n vs)
  | [], _, _, h => h
  | v :: vs, n, _, h => Only.setCells vs (n + 1) _ (h.setCell n v)

/-- copy of a text that is longer than there is room. -/
theorem run_copy_part {P : Program} (w : World) (dT sT ty elem : TypeId) (b o dLen dCap : Nat) (t : ByteArray)
    (hu : P.underlying dT = some (.slice elem)) (hz : ∀ w, (Go.sizeOf elem).run P w = .ok 1 w) (hle : dLen ≤ t.size)
    (hc : ∀ j, j < dLen → (w.cell? ⟨b, o + j, none⟩).isSome = true) (hf : ∀ j, j < dLen → w.frozen? ⟨b, o + j, none⟩ = false) :
    (Builtin.copy_ #[dT, sT] ty #[.slice (some ⟨b, o, none⟩) dLen dCap, .string t]).run P w = .ok (goInt dLen) (w.setCells b o ((t.data.toList.take dLen).map fun x => Value.int .u8 (x.toNat : Int))) := by
  have hmin : Nat.min t.size dLen = dLen := Nat.min_eq_right hle
  have hl : ((t.data.toList.take dLen).map fun x => Value.int .u8 (x.toNat : Int)).length = dLen := by
    rw [List.length_map, List.length_take, ← Lib.size_eq]; omega
  have hst := run_storeCells_cells (P := P) b o ((t.data.toList.take dLen).map fun x => Value.int .u8 (x.toNat : Int)) 0 w (by rw [hl]; simpa using hc) (by rw [hl]; simpa using hf) (by
    intro v hv
    obtain ⟨x, _, rfl⟩ := List.mem_map.1 hv
    rfl)
  simp [Builtin.copy_, run_underlying hu, Builtin.lenOf, Builtin.firstCells, hz, hmin]
  rw [← List.map_take, hst]
  rfl
end Go.Proofs.YtoopaigpjefonaaGreatDoor.Sm

namespace Go.Proofs.YtoopaigpjefonaaGreatDoor.Sm
set_option maxRecDepth 20000
open Go.RowKit

/-- A mix's cells. -/
def mixA (st : St) : List Value := [Value.bool true, .int .u32 (st.a : Nat), .int .u32 (st.b : Nat), .int .u32 (st.c : Nat), .int .u32 (st.d : Nat), .int .u32 (st.e : Nat), .int .u32 (st.f : Nat), .int .u32 (st.g : Nat), .int .u32 (st.h : Nat)]
def mixT (have_ size : Nat) : List Value := [Value.int .i64 (have_ : Nat), Value.int .i64 (size : Nat)]
def mixV (st : St) (rest : List Value) (have_ size : Nat) : List Value := mixA st ++ rest ++ mixT have_ size

theorem Cubes.below {w w' : World} (h : Cubes w) {B : Nat} (hb : Below B w w') (hB : 2 < B) : Cubes w' := ⟨Nat.lt_of_lt_of_le h.1 hb.size, fun i hi => (hb.cell (p := ⟨2, i, none⟩) hB).trans (h.2 i hi)⟩
theorem zero_u8 (w : World) : (zeroValue 5).run Tryz.prog w = .ok (.int .u8 0) w := (zero_of_info (n := 1) (by kernel_rfl)).1 w
theorem putHigh_z (g t o : Nat) (A B C : List Value) (ho : o = A.length) (L cap n : Nat) (z : Int) (hz : z = (n : Int)) (hL : L ≤ 8) (hB : B.length = L) (w : World) (hr : Row w g t (A ++ B ++ C)) :
    Calls Tryz.prog 127 #[.slice (some ⟨g, o, none⟩) L cap, .int .u64 z] w fun e w' => e = .returned (.tuple #[]) ∧ Row w' g t (A ++ beV L n ++ C) ∧ Only g w w' := by
  subst hz
  exact putHigh_at g t o A B C ho L cap n hL hB w hr
theorem size_cell (w : World) (g t : Nat) (A : List Value) (m h_ n : Nat) (hl : A.length = 65) (hr : Row w g t (A ++ beV 8 m ++ mixT h_ n)) : w.cell? ⟨g, 74, none⟩ = some (.int .i64 (n : Nat)) := by
  have h8 : (beV 8 m).length = 8 := by simp [beV]
  rw [hr.cell, List.getElem?_append_right (by rw [List.length_append, hl, h8]; decide), List.length_append, hl, h8]
  rfl
theorem beV8 (n : Nat) : beV 8 n = byV (be8 n) := by
  have h : ∀ a b, n / a / b = n / (a * b) := fun a b => Nat.div_div_eq_div_mul n a b
  simp [beV, byV, be8, be4, List.range, List.range.loop, h]
theorem byV_append (a b : List Nat) : byV (a ++ b) = byV a ++ byV b := by simp [byV]
theorem byV_zeros (n : Nat) : byV (List.replicate n 0) = List.replicate n (Value.int .u8 0) := by simp [byV]
theorem byV_get (b : List Nat) (i : Nat) (h : i < b.length) : (byV b)[i]? = some (.int .u8 (b.getD i 0 : Nat)) := by
  rw [byV, List.getElem?_map, List.getElem?_eq_getElem h, getD_at _ _ h]
  rfl

set_option maxRecDepth 10000 in
set_option maxHeartbeats 1000000 in
theorem finish_small (st : St) (hok : st.ok) (d : List Nat) (hb : Bytes d) (h_ n : Nat) (hl : d.length = h_) (hh : h_ < 56) (r0 : Value) (R : List Value) (hR : R.length = 63 - h_) (hs : n < 1099511627776) (w : World) (hq : Cubes w) :
    Calls Tryz.prog 157 #[.agg (mixV st (byV d ++ r0 :: R) h_ n).toArray] w fun e w' => e = .returned (.agg (byV (outL (comp st (d ++ 128 :: (List.replicate (55 - h_) 0 ++ be8 (8 * n)))))).toArray) ∧ Below w.heap.size w w' := by
  have hbl : (byV d).length = h_ := by simp [byV, hl]
  obtain ⟨cs, hcs⟩ : ∃ cs, cs = mixV st (byV d ++ r0 :: R) h_ n := ⟨_, rfl⟩
  have hr0 : Row ((w.alloc (.cells cs.toArray 166)).alloc (.cells #[.int .u8 0, .int .u8 0, .int .u8 0, .int .u8 0, .int .u8 0, .int .u8 0, .int .u8 0, .int .u8 0, .int .u8 0, .int .u8 0, .int .u8 0, .int .u8 0, .int .u8 0, .int .u8 0, .int .u8 0, .int .u8 0, .int .u8 0, .int .u8 0, .int .u8 0, .int .u8 0, .int .u8 0, .int .u8 0, .int .u8 0, .int .u8 0, .int .u8 0, .int .u8 0, .int .u8 0, .int .u8 0, .int .u8 0, .int .u8 0, .int .u8 0, .int .u8 0] 172)) w.heap.size 166 (mixA st ++ byV d ++ [r0] ++ (R ++ mixT h_ n)) := by
    have := heap_alloc2_old w (.cells cs.toArray 166) (.cells #[.int .u8 0, .int .u8 0, .int .u8 0, .int .u8 0, .int .u8 0, .int .u8 0, .int .u8 0, .int .u8 0, .int .u8 0, .int .u8 0, .int .u8 0, .int .u8 0, .int .u8 0, .int .u8 0, .int .u8 0, .int .u8 0, .int .u8 0, .int .u8 0, .int .u8 0, .int .u8 0, .int .u8 0, .int .u8 0, .int .u8 0, .int .u8 0, .int .u8 0, .int .u8 0, .int .u8 0, .int .u8 0, .int .u8 0, .int .u8 0, .int .u8 0, .int .u8 0] 172)
    rw [Row, this, hcs]
    simp [mixV]
  have hz0 : Row ((w.alloc (.cells cs.toArray 166)).alloc (.cells #[.int .u8 0, .int .u8 0, .int .u8 0, .int .u8 0, .int .u8 0, .int .u8 0, .int .u8 0, .int .u8 0, .int .u8 0, .int .u8 0, .int .u8 0, .int .u8 0, .int .u8 0, .int .u8 0, .int .u8 0, .int .u8 0, .int .u8 0, .int .u8 0, .int .u8 0, .int .u8 0, .int .u8 0, .int .u8 0, .int .u8 0, .int .u8 0, .int .u8 0, .int .u8 0, .int .u8 0, .int .u8 0, .int .u8 0, .int .u8 0, .int .u8 0, .int .u8 0] 172)) (w.heap.size + 1) 172 (digV []) := heap_alloc2_new w _ _
  have hb0 : Below w.heap.size w ((w.alloc (.cells cs.toArray 166)).alloc (.cells #[.int .u8 0, .int .u8 0, .int .u8 0, .int .u8 0, .int .u8 0, .int .u8 0, .int .u8 0, .int .u8 0, .int .u8 0, .int .u8 0, .int .u8 0, .int .u8 0, .int .u8 0, .int .u8 0, .int .u8 0, .int .u8 0, .int .u8 0, .int .u8 0, .int .u8 0, .int .u8 0, .int .u8 0, .int .u8 0, .int .u8 0, .int .u8 0, .int .u8 0, .int .u8 0, .int .u8 0, .int .u8 0, .int .u8 0, .int .u8 0, .int .u8 0, .int .u8 0] 172)) := ((Below.refl _ _).alloc (Nat.le_refl _) _).alloc (by simp) _
  obtain ⟨w0, hw0⟩ : ∃ w0, (w.alloc (.cells cs.toArray 166)).alloc (.cells #[.int .u8 0, .int .u8 0, .int .u8 0, .int .u8 0, .int .u8 0, .int .u8 0, .int .u8 0, .int .u8 0, .int .u8 0, .int .u8 0, .int .u8 0, .int .u8 0, .int .u8 0, .int .u8 0, .int .u8 0, .int .u8 0, .int .u8 0, .int .u8 0, .int .u8 0, .int .u8 0, .int .u8 0, .int .u8 0, .int .u8 0, .int .u8 0, .int .u8 0, .int .u8 0, .int .u8 0, .int .u8 0, .int .u8 0, .int .u8 0, .int .u8 0, .int .u8 0] 172) = w0 := ⟨_, rfl⟩
  rw [hw0] at hr0 hz0 hb0
  have c1 : w0.cell? ⟨w.heap.size, 73, none⟩ = some (.int .i64 (h_ : Nat)) := by
    rw [hr0.cell]
    have : (mixA st ++ byV d ++ [r0] ++ R).length = 73 := by simp [mixA, hbl]; omega
    rw [← List.append_assoc, List.getElem?_append_right (by omega), this]
    rfl
  have c2 : w0.cell? ⟨w.heap.size, 9 + h_, none⟩ = some r0 := by
    rw [hr0.cell]
    have : (mixA st ++ byV d).length = 9 + h_ := by simp [mixA, hbl]; omega
    rw [List.append_assoc _ [r0], List.getElem?_append_right (by omega), this, Nat.sub_self]
    rfl
  have c3 : ∀ i, w0.frozen? ⟨w.heap.size, i, none⟩ = false := fun i => hr0.frozen i
  have hr1 : Row (w0.setCell ⟨w.heap.size, 9 + h_, none⟩ (.int .u8 128)) w.heap.size 166 (mixA st ++ byV d ++ [.int .u8 128] ++ (R ++ mixT h_ n)) := hr0.set _ (by simp [mixA, hbl]; omega)
  have hz1 : Row (w0.setCell ⟨w.heap.size, 9 + h_, none⟩ (.int .u8 128)) (w.heap.size + 1) 172 (digV []) := (Below.heap_setCell _ _ _ _ (by simp)).trans hz0
  have hb1 := hb0.setCell (p := ⟨w.heap.size, 9 + h_, none⟩) (Nat.le_refl _) (.int .u8 128)
  obtain ⟨w1, hw1⟩ : ∃ w1, w0.setCell ⟨w.heap.size, 9 + h_, none⟩ (.int .u8 128) = w1 := ⟨_, rfl⟩
  rw [hw1] at hr1 hz1 hb1
  have c4 : w1.cell? ⟨w.heap.size, 73, none⟩ = some (.int .i64 (h_ : Nat)) := by
    rw [hr1.cell]
    have : (mixA st ++ byV d ++ [Value.int .u8 128] ++ R).length = 73 := by simp [mixA, hbl]; omega
    rw [← List.append_assoc, List.getElem?_append_right (by omega), this]
    rfl
  clear hr0 hz0 hb0
  have i1 : (h_ : Int) < 64 := by omega
  have i2 : IntKind.i64.wrap ((h_ : Int) + 1) = h_ + 1 := by rw [IntKind.wrap_i64]; omega
  have i3 : (0 : Int) ≤ (h_ : Int) + 1 := by omega
  have i4 : (h_ : Int) + 1 ≤ 64 := by omega
  have i5 : ((h_ : Int) + 1).toNat = h_ + 1 := by omega
  have i6 : ¬ 64 = h_ + 1 := by omega
  have hclr := Lib.run_clear_slice (P := Tryz.prog) w1 143 5 0 (.int .u8 0) Tryz.underlying143 zero_u8 rfl rfl w.heap.size (9 + (h_ + 1)) (63 - h_) (63 - h_) (by omega) (fun j hj => by
    rw [hr1.cell, List.getElem?_eq_getElem (by simp [mixA, mixT, hbl]; omega)]; rfl) (fun j _ => hr1.frozen _)
  have hr2 : Row (w1.setCells w.heap.size (9 + (h_ + 1)) (List.replicate (63 - h_) (.int .u8 0))) w.heap.size 166 ((mixA st ++ byV d ++ [.int .u8 128]) ++ List.replicate (63 - h_) (.int .u8 0) ++ mixT h_ n) := Row.setCells _ R _ _ _ (by simp [hR]) (by simp [mixA, hbl]; omega) (by simpa using hr1)
  have ho2 : Only w.heap.size w1 (w1.setCells w.heap.size (9 + (h_ + 1)) (List.replicate (63 - h_) (.int .u8 0))) := Only.setCells _ _ _ (Only.refl _ _)
  obtain ⟨w2, hw2⟩ : ∃ w2, w1.setCells w.heap.size (9 + (h_ + 1)) (List.replicate (63 - h_) (.int .u8 0)) = w2 := ⟨_, rfl⟩
  rw [hw2] at hclr hr2 ho2
  have hz2 := hz1.only ho2 (by omega)
  have hlt1 := hr1.lt
  have hb2 := hb1.trans ((ho2.below (by omega)))
  clear hw2 hr1 hz1 hb1 ho2
  have hr2' : Row w2 w.heap.size 166 ((mixA st ++ byV d ++ [.int .u8 128] ++ List.replicate (55 - h_) (.int .u8 0)) ++ List.replicate 8 (.int .u8 0) ++ mixT h_ n) := by
    have e : List.replicate (63 - h_) (Value.int .u8 0) = List.replicate (55 - h_) (Value.int .u8 0) ++ List.replicate 8 (Value.int .u8 0) := by
      rw [List.replicate_append_replicate]; congr 1; omega
    rw [e] at hr2
    simpa using hr2
  have hl65 : (mixA st ++ byV d ++ [Value.int .u8 128] ++ List.replicate (55 - h_) (Value.int .u8 0)).length = 65 := by simp [mixA, hbl]; omega
  have c5 : w2.cell? ⟨w.heap.size, 73, none⟩ = some (.int .i64 (h_ : Nat)) := by
    rw [hr2'.cell, List.getElem?_append_right (by rw [List.length_append, hl65]; simp), List.length_append, hl65]
    rfl
  have c6 : w2.cell? ⟨w.heap.size, 74, none⟩ = some (.int .i64 (n : Nat)) := by
    rw [hr2'.cell, List.getElem?_append_right (by rw [List.length_append, hl65]; simp), List.length_append, hl65]
    rfl
  have ib : decide ((56 : Int) ≤ (h_ : Int)) = false := decide_eq_false (by omega)
  have j1 : IntKind.u64.wrap (n : Int) = n := by rw [IntKind.wrap_u64]; omega
  have j2 : IntKind.u64.wrap (8 * (n : Int)) = 8 * n := by rw [IntKind.wrap_u64]; omega
  have HR : Hid (Row w2 w.heap.size 166 ((mixA st ++ byV d ++ [.int .u8 128] ++ List.replicate (55 - h_) (.int .u8 0)) ++ List.replicate 8 (.int .u8 0) ++ mixT h_ n)) := hr2'
  have HZ : Hid (Row w2 (w.heap.size + 1) 172 (digV []) ∧ Below w.heap.size w w2) := ⟨hz2, hb2⟩
  rw [← hcs]
  clear hcs hr2 hr2' hz2 hb2
  go_enter Tryz.func157, Tryz.ntmps157
  go_wp2_with fail
  go_region_held3 (fun w' => w'.cell? ⟨w.heap.size, 74, none⟩ = some (.int .i64 (n : Nat))) (simp [go_sem, *]) (first | (go_at_call 127; refine (putHigh_z w.heap.size 166 65 _ _ _ hl65.symm 8 8 (8 * n) (8 * (n : Int)) (by omega) (by decide) List.length_replicate w2.drew HR.out).mono ?_; rintro e w3 ⟨rfl, hr3, ho3⟩; have c7 := size_cell w3 _ _ _ _ h_ n hl65 hr3))
  obtain ⟨b, hbd⟩ : ∃ b, b = d ++ 128 :: (List.replicate (55 - h_) 0 ++ be8 (8 * n)) := ⟨_, rfl⟩
  have hr3' : Row w3 w.heap.size 166 (mixA st ++ byV b ++ mixT h_ n) := by
    have e : byV b = byV d ++ [Value.int .u8 128] ++ List.replicate (55 - h_) (Value.int .u8 0) ++ beV 8 (8 * n) := by
      rw [hbd, byV_append, beV8, ← byV_zeros]
      simp [byV]
    rw [e]
    simpa using hr3
  have hbb : Bytes b := by rw [hbd]; exact hb.append (Bytes.cons (by decide) ((Bytes.zeros _).append (be8_bytes _)))
  have hbl64 : b.length = 64 := by rw [hbd]; simp [be8_length, hl]; omega
  have HBD : Hid (b = d ++ 128 :: (List.replicate (55 - h_) 0 ++ be8 (8 * n))) := hbd
  have e1 : w3.cell? ⟨w.heap.size, 1, none⟩ = some (.int .u32 (st.a : Nat)) := hr3'.cell 1
  have e2 : w3.cell? ⟨w.heap.size, 2, none⟩ = some (.int .u32 (st.b : Nat)) := hr3'.cell 2
  have e3 : w3.cell? ⟨w.heap.size, 3, none⟩ = some (.int .u32 (st.c : Nat)) := hr3'.cell 3
  have e4 : w3.cell? ⟨w.heap.size, 4, none⟩ = some (.int .u32 (st.d : Nat)) := hr3'.cell 4
  have e5 : w3.cell? ⟨w.heap.size, 5, none⟩ = some (.int .u32 (st.e : Nat)) := hr3'.cell 5
  have e6 : w3.cell? ⟨w.heap.size, 6, none⟩ = some (.int .u32 (st.f : Nat)) := hr3'.cell 6
  have e7 : w3.cell? ⟨w.heap.size, 7, none⟩ = some (.int .u32 (st.g : Nat)) := hr3'.cell 7
  have e8 : w3.cell? ⟨w.heap.size, 8, none⟩ = some (.int .u32 (st.h : Nat)) := hr3'.cell 8
  have HC : Hid (∀ i, i < 64 → w3.cell? ⟨w.heap.size, 9 + i, none⟩ = some (.int .u8 (b.getD i 0 : Nat))) := fun i hi => by
    rw [hr3'.cell, List.append_assoc, List.getElem?_append_right (by simp [mixA]), show 9 + i - (mixA st).length = i by simp [mixA], List.getElem?_append_left (by simp [byV, hbl64]; omega), byV_get b i (by omega)]
  have hz3 : Row w3 (w.heap.size + 1) 172 (digV []) := Row.only (w := w2.drew) HZ.out.1 ho3 (by omega)
  have hb3 : Below w.heap.size w w3 := HZ.out.2.drew.trans (ho3.below (Nat.le_of_lt HR.out.lt))
  have hq3 := hq.below hb3 hq.1
  have hlt3 := hr3'.lt
  have HS3 : Hid (Cubes w3 ∧ w.heap.size < w3.heap.size) := ⟨hq3, hlt3⟩
  clear hr3 ho3 hr3' hbd c7 hq3 hlt3 hl65 HR HZ
  go_wp2_with fail
  refine (with_any st hok b hbb w.heap.size 9 w3 HS3.out.1 HS3.out.2 HC.out).mono ?_
  rintro e w4 ⟨rfl, hb4⟩
  have hz4 := hz3.below hb4 hz3.lt
  have hb4' := hb3.trans (hb4.mono hb3.size)
  clear hz3 hb3 hb4 e1 e2 e3 e4 e5 e6 e7 e8 HC
  go_wp2_with fail
  refine (bytes_any (comp st b) (comp_ok _ _) w4).mono ?_
  rintro e w5 ⟨rfl, hb5⟩
  have hz5 : w5.heap[w.heap.size + 1]? = some (.cells (digV []).toArray 172 (0, 0)) := hz4.below hb5 hz4.lt
  have hb5' := hb4'.trans (hb5.mono hb4'.size)
  clear hz4 hb4' hb5
  obtain ⟨ds, hds⟩ : ∃ ds, ds = (byV (outL (comp st b))).toArray := ⟨_, rfl⟩
  have hsz : ds.size = 32 := by rw [hds]; simp [byV, outL_length]
  have hone : ds.all (·.oneCell') = true := by rw [hds]; simp [byV, Value.oneCell']
  have HDS : Hid (ds = (byV (outL (comp st b))).toArray) := hds
  rw [← hds]
  clear hds
  have hs0 : (digV []).toArray.size = ds.size := by rw [hsz]; rfl
  have hinfo : (Tryz.prog.info? 172).map (·.size) = some ds.size := by rw [hsz]; kernel_rfl
  have hba := below_rowH hb5' (show w.heap.size ≤ w.heap.size + 1 by omega) ds
  have hl0 := run_loadVar_row (P := Tryz.prog) (w5.setRow (w.heap.size + 1) ds) (w.heap.size + 1) 172 172 ds (0, 0) _ (setRow_heap _ _ _ _ _ _ hz5) Tryz.underlying172 rfl hinfo
  go_wp2_with (refine wpList_store_row rfl 172 _ _ rfl (w.heap.size + 1) ds rfl rfl 172 _ hz5 hinfo hs0 hone ?_)
  exact bodyPost_ret (v := .agg ds) (by simp [results, Tryz.results157, asAddr, Act.put, hl0]) rfl ⟨by rw [HDS.out, HBD.out], hba⟩
end Go.Proofs.YtoopaigpjefonaaGreatDoor.Sm

namespace Go.Proofs.YtoopaigpjefonaaGreatDoor.Sm
set_option maxRecDepth 20000
open Go.RowKit

/-- A text's bytes as numbers. -/
def numsOf (s : ByteArray) : List Nat := s.data.toList.map (·.toNat)
theorem numsOf_length (s : ByteArray) : (numsOf s).length = s.size := by simp [numsOf]
theorem numsOf_bytes (s : ByteArray) : Bytes (numsOf s) := fun x hx => by
  obtain ⟨y, _, rfl⟩ := List.mem_map.1 hx
  exact y.toNat_lt
def strSize : Value → Nat
  | .string t => t.size
  | _ => 0
/-- The mix in block B has the bytes l; its count says n. -/
def MixAt (w : World) (B : Nat) (l : List Nat) (n : Nat) : Prop := ∃ R : List Value, R.length = 64 - l.length % 64 ∧ Row w B 166 (mixV (absorb l (l.length / 64)) (byV (l.drop (64 * (l.length / 64))) ++ R) (l.length % 64) n)

theorem size_u8 (w : World) : (Go.sizeOf 5).run Tryz.prog w = .ok 1 w := by
  obtain ⟨i0, hi, hz0, hz1, hz2⟩ := info_parts (show (Tryz.prog.info? 5).map (fun i => (i.zero, i.size, i.bytes)) = some (some (.int .u8 0), 1, 1) by kernel_rfl)
  simp [Go.sizeOf, typeInfo, hi, hz1]
theorem numsOf_extract (s : ByteArray) (p q : Nat) : numsOf (s.extract p q) = ((numsOf s).drop p).take (q - p) := by
  rw [numsOf, Lib.extract_data, List.map_take, List.map_drop]
  rfl
theorem mix_len (l : List Nat) (R : List Value) (hR : R.length = 64 - l.length % 64) : (mixA (absorb l (l.length / 64)) ++ (byV (l.drop (64 * (l.length / 64))) ++ R)).length = 73 := by
  simp [mixA, byV, hR]; omega

theorem mixAt_part (w : World) (B : Nat) (l1 un : List Nat) (R : List Value) (h_ k N : Nat) (z : Int) (hz : z = ((h_ + k : Nat) : Int)) (hh : h_ = l1.length % 64) (hk : un.length = k) (hlt : h_ + k < 64) (hR : R.length = 64 - (h_ + k))
    (hr : Row w B 166 ((mixA (absorb l1 (l1.length / 64)) ++ byV (l1.drop (64 * (l1.length / 64))) ++ byV un ++ R) ++ [.int .i64 z] ++ [.int .i64 (N : Nat)])) : MixAt w B (l1 ++ un) N := by
  have e1 : (l1 ++ un).length / 64 = l1.length / 64 := by rw [List.length_append]; omega
  have e2 : (l1 ++ un).length % 64 = h_ + k := by rw [List.length_append]; omega
  refine ⟨R, by rw [e2]; exact hR, ?_⟩
  rw [e1, e2, absorb_append _ _ _ (by omega), List.drop_append_of_le_length (by omega), byV_append, mixV, mixT, ← hz]
  simpa using hr
set_option maxRecDepth 10000 in
set_option maxHeartbeats 1000000 in
theorem feed_short (B : Nat) (l : List Nat) (s : ByteArray) (hf : l.length % 64 + s.size < 64) (hs : l.length + s.size < 1099511627776) (w : World) (hm : MixAt w B l l.length) :
    Calls Tryz.prog 126 #[.pointer (some ⟨B, 0, none⟩), .string s] w fun e w' => e = .returned (.tuple #[]) ∧ MixAt w' B (l ++ numsOf s) (l ++ numsOf s).length ∧ Only B w w' := by
  have HF0 : Hid (l.length % 64 + s.size < 64) := hf
  clear hf
  obtain ⟨R, hR, hr⟩ := hm
  have hlm : (mixA (absorb l (l.length / 64)) ++ (byV (l.drop (64 * (l.length / 64))) ++ R)).length = 73 := by simp [mixA, byV, hR]; omega
  have c0 : w.cell? ⟨B, 0, none⟩ = some (.bool true) := hr.cell 0
  have c1 : w.cell? ⟨B, 74, none⟩ = some (.int .i64 (l.length : Nat)) := by
    rw [hr.cell, mixV, List.getElem?_append_right (by rw [hlm]; decide), hlm]; rfl
  have c2 : ∀ i, w.frozen? ⟨B, i, none⟩ = false := fun i => hr.frozen i
  have j1 : IntKind.i64.wrap ((l.length : Int) + (s.size : Int)) = l.length + s.size := by rw [IntKind.wrap_i64]; omega
  go_enter Tryz.func126, Tryz.ntmps126
  go_wp2_with fail
  obtain ⟨W1, hW1⟩ : ∃ W1, w.setCell ⟨B, 74, none⟩ (.int .i64 ((l.length : Int) + (s.size : Int))) = W1 := ⟨_, rfl⟩
  have hm1 : MixAt W1 B l (l ++ numsOf s).length := by
    refine ⟨R, hR, ?_⟩
    rw [← hW1]
    have h1 : Row w B 166 ((mixA (absorb l (l.length / 64)) ++ (byV (l.drop (64 * (l.length / 64))) ++ R) ++ [.int .i64 ((l.length % 64 : Nat) : Int)]) ++ [.int .i64 (l.length : Nat)] ++ []) := by simpa [mixV, mixT] using hr
    have h2 := h1.set (n := 74) (.int .i64 ((l.length : Int) + (s.size : Int))) (by rw [List.length_append, hlm]; rfl)
    have h3 : ((l ++ numsOf s).length : Int) = (l.length : Int) + (s.size : Int) := by rw [List.length_append, numsOf_length]; omega
    rw [mixV, mixT, h3]
    simpa using h2
  have ho1 : Only B w W1 := by rw [← hW1]; exact (Only.refl _ _).setCell _ _
  rw [hW1]
  clear c0 c1 c2 hlm hR hr hW1
  go_loopw [1] (fun v wr => ∃ p : Nat, p ≤ s.size ∧ v = .string (s.extract p s.size) ∧ MixAt wr B (l ++ (numsOf s).take p) (l ++ numsOf s).length ∧ Only B w wr) (fun v _ => strSize v)
  case atStart => exact ⟨0, Nat.zero_le _, by simp, by simpa using hm1, ho1⟩
  case round =>
    clear hm1 ho1
    obtain ⟨p, hp, rfl, hm1, ho1⟩ := hrel
    by_cases hlt : p < s.size
    case neg =>
      obtain rfl : p = s.size := by omega
      have hx : (s.extract s.size s.size).size = 0 := by simp
      obtain ⟨u, hu⟩ : ∃ u, u = s.extract s.size s.size := ⟨_, rfl⟩
      rw [← hu] at hx
      rw [← hu]
      clear hu
      go_wp2
      go_end0
      rw [List.take_of_length_le (by rw [numsOf_length]; exact Nat.le_refl _)] at hm1
      exact ⟨rfl, hm1, ho1⟩
    obtain ⟨l1, hl1⟩ : ∃ l1, l1 = l ++ (numsOf s).take p := ⟨_, rfl⟩
    obtain ⟨N, hN⟩ : ∃ N, N = (l ++ numsOf s).length := ⟨_, rfl⟩
    rw [← hl1, ← hN] at hm1
    obtain ⟨R, hR, hr⟩ := hm1
    obtain ⟨h_, hh⟩ : ∃ h_, h_ = l1.length % 64 := ⟨_, rfl⟩
    have hh64 : h_ < 64 := by omega
    have hlm := mix_len l1 R hR
    have hdl : (byV (l1.drop (64 * (l1.length / 64)))).length = h_ := by simp [byV]; omega
    rw [← hh] at hr hR
    obtain ⟨u, hu⟩ : ∃ u, u = s.extract p s.size := ⟨_, rfl⟩
    have hus : u.size = s.size - p := by rw [hu]; simp
    have hun : numsOf u = (numsOf s).drop p := by
      rw [hu, numsOf_extract, List.take_of_length_le (by rw [List.length_drop, numsOf_length]; omega)]
    have c1 : wr.cell? ⟨B, 73, none⟩ = some (.int .i64 (h_ : Nat)) := by
      rw [hr.cell, mixV, List.getElem?_append_right (by rw [hlm]; decide), hlm]; rfl
    have i0 : (0 : Int) < (u.size : Int) := by omega
    have i1 : (0 : Int) ≤ (h_ : Int) := by omega
    have i2 : (h_ : Int) ≤ 64 := by omega
    have i3 : ¬ 64 = h_ := by omega
    obtain ⟨D, hD⟩ : ∃ D, D = l1.drop (64 * (l1.length / 64)) := ⟨_, rfl⟩
    obtain ⟨st, hst⟩ : ∃ st, st = absorb l1 (l1.length / 64) := ⟨_, rfl⟩
    rw [← hD, ← hst] at hr
    rw [← hD] at hdl
    have hul : (byV (numsOf u)).length = u.size := by simp [byV, numsOf_length]
    rw [← hu]
    have HH : Hid (l1 = l ++ (numsOf s).take p ∧ N = (l ++ numsOf s).length ∧ h_ = l1.length % 64 ∧ u = s.extract p s.size ∧ u.size = s.size - p ∧ numsOf u = (numsOf s).drop p ∧ D = l1.drop (64 * (l1.length / 64)) ∧ st = absorb l1 (l1.length / 64)) := ⟨hl1, hN, hh, hu, hus, hun, hD, hst⟩
    clear hlm hl1 hN hh hu hus hun hD hst hp hs
    by_cases hroom : u.size < 64 - h_
    · have hcells : ∀ j, j < u.size → (wr.drew.cell? ⟨B, 9 + h_ + j, none⟩).isSome = true := fun j hj => by
        show (wr.cell? ⟨B, 9 + h_ + j, none⟩).isSome = true
        rw [hr.cell, List.getElem?_eq_getElem (by simp [mixV, mixA, mixT, hdl, hR]; omega)]; rfl
      have hcp := run_copy_string (P := Tryz.prog) wr.drew 143 9 3 5 B (9 + h_) (64 - h_) (64 - h_) u Tryz.underlying143 size_u8 (by omega) hcells (fun j _ => hr.frozen _)
      have hv : (u.data.toList.map fun x => Value.int .u8 (x.toNat : Int)) = byV (numsOf u) := by simp [byV, numsOf]
      rw [hv] at hcp
      have hr2 : Row (wr.drew.setCells B (9 + h_) (byV (numsOf u))) B 166 ((mixA st ++ byV D) ++ byV (numsOf u) ++ (R.drop u.size ++ mixT h_ N)) := Row.setCells _ (R.take u.size) _ _ _ (by rw [hul, List.length_take, hR]; omega) (by simp [mixA, hdl]; omega) (by
        have e : mixV st (byV D ++ (R.take u.size ++ R.drop u.size)) h_ N = (mixA st ++ byV D) ++ R.take u.size ++ (R.drop u.size ++ mixT h_ N) := by simp only [mixV, List.append_assoc]
        rw [← e, List.take_append_drop]
        exact hr)
      have ho2 : Only B w (wr.drew.setCells B (9 + h_) (byV (numsOf u))) := Only.setCells _ _ _ ho1.drew
      obtain ⟨w2, hw2⟩ : ∃ w2, wr.drew.setCells B (9 + h_) (byV (numsOf u)) = w2 := ⟨_, rfl⟩
      rw [hw2] at hcp hr2 ho2
      have hl73 : (mixA st ++ byV D ++ byV (numsOf u) ++ R.drop u.size).length = 73 := by simp [mixA, hdl, hul, hR]; omega
      have c2 : w2.cell? ⟨B, 73, none⟩ = some (.int .i64 (h_ : Nat)) := by
        rw [hr2.cell, ← List.append_assoc, List.getElem?_append_right (by rw [hl73]; decide), hl73]; rfl
      have c3 : ∀ i, w2.frozen? ⟨B, i, none⟩ = false := fun i => hr2.frozen i
      have j2 : IntKind.i64.wrap ((h_ : Int) + (u.size : Int)) = h_ + u.size := by rw [IntKind.wrap_i64]; omega
      have hr3 : Row (w2.setCell ⟨B, 73, none⟩ (.int .i64 ((h_ : Int) + (u.size : Int)))) B 166 ((mixA st ++ byV D ++ byV (numsOf u) ++ R.drop u.size) ++ [.int .i64 ((h_ : Int) + (u.size : Int))] ++ [.int .i64 (N : Nat)]) := Row.set (q := .int .i64 (h_ : Nat)) (by simpa [mixT] using hr2) _ hl73.symm
      have ho3 := ho2.setCell 73 (.int .i64 ((h_ : Int) + (u.size : Int)))
      obtain ⟨w3, hw3⟩ : ∃ w3, w2.setCell ⟨B, 73, none⟩ (.int .i64 ((h_ : Int) + (u.size : Int))) = w3 := ⟨_, rfl⟩
      rw [hw3] at hr3 ho3
      have c4 : w3.cell? ⟨B, 73, none⟩ = some (.int .i64 ((h_ : Int) + (u.size : Int))) := by
        rw [hr3.cell, List.append_assoc, List.getElem?_append_right (by rw [hl73]; decide), hl73]; rfl
      have ib : (((h_ : Int) + (u.size : Int)) == 64) = false := by simp; omega
      have k1 : (u.size : Int) ≤ u.size := by omega
      have HF : Hid (MixAt w3 B (l ++ (numsOf s).take s.size) N ∧ Only B w w3) := by
        obtain ⟨hl1, hN, hh, hu, hus, hun, hD, hst⟩ := HH.out
        have e : l ++ (numsOf s).take s.size = l1 ++ numsOf u := by
          rw [hl1, hun, List.append_assoc, List.take_append_drop, List.take_of_length_le (by rw [numsOf_length]; exact Nat.le_refl _)]
        rw [e]
        refine ⟨mixAt_part w3 B l1 (numsOf u) (R.drop u.size) h_ u.size N _ ?_ hh (numsOf_length u) (by omega) (by rw [List.length_drop, hR]; omega) (by rw [← hst, ← hD]; exact hr3), ho3⟩
        omega
      clear hr hr2 hr3 ho1 ho2 ho3 hcells hv
      go_wp2_with fail
      go_region_held3 (fun w' => w'.cell? ⟨B, 73, none⟩ = some (.int .i64 (h_ : Nat))) (simp [go_sem, *]) (fail)
      go_wp2_with fail
      refine ⟨⟨s.size, Nat.le_refl _, by simp, ?_, HF.out.2⟩, by simp [strSize]; omega⟩
      have := HF.out.1
      rw [HH.out.2.1] at this
      exact this
    · exfalso
      obtain ⟨hl1, hN, hh, hu, hus, hun, hD, hst⟩ := HH.out
      have h1 : l1.length = l.length + p := by rw [hl1, List.length_append, List.length_take, numsOf_length]; omega
      have h2 := HF0.out
      omega
end Go.Proofs.YtoopaigpjefonaaGreatDoor.Sm
