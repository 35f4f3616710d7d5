/- sum.Expand: of any key, purpose and number the bytes, or the error. · sum.Mac and sum.Extract: of any key and text the HMAC. · Lists of numbers, bytes, blocks of cells, parts of a block written anew, bits of numbers: nothing of the program. -/
import Derived.Test.YtfmaajfohieneaaGreatDoorMg20
import Derived.Test.YtfmaajfohieneaaGreatDoorMg18
import Derived.Test.YtfmaajfohieneaaGreatDoorProg
import Derived.WalkKit
import Derived.Laws.BitsAllLaws
import Derived.Laws.BitsLemmas
import Derived.Laws.BytesArg
import Derived.Lib.LazyBuf
import Derived.Lib.SliceRun
import Derived.Deep.WholeRow
import Derived.Deep.RegionHeld3
import Derived.Deep.QuietTactic
import Derived.BigQuiet
namespace Go.Proofs.YtfmaajfohieneaaGreatDoor.Sm
set_option maxRecDepth 20000
open Go.RowKit

/-- HKDF's pieces: the i-th; the one ahead of the first is empty. -/
def expT (K info : List Nat) : Nat → List Nat
  | 0 => []
  | i + 1 => macL K (expT K info i ++ info ++ [(i + 1) % 256])
def expL (K info : List Nat) (n : Nat) : List Nat := (catD (fun i => expT K info (i + 1)) ((n + 31) / 32)).take n
def expS (key info : ByteArray) (n : Nat) : ByteArray := strOfNums ((expL (keyP (numsOf key)) (numsOf info) n).map fun (x : Nat) => (x : Int))
def tS (K info : List Nat) (i : Nat) : ByteArray := strOfNums ((expT K info i).map fun (x : Nat) => (x : Int))
theorem expT_bytes (K info : List Nat) (i : Nat) : Bytes (expT K info i) := by
  cases i with
  | zero => intro x hx; simp [expT] at hx
  | succ i => exact macL_bytes _ _
theorem expT_length (K info : List Nat) (i : Nat) : (expT K info (i + 1)).length = 32 := macL_length _ _
theorem tS_nums (K info : List Nat) (i : Nat) : numsOf (tS K info i) = expT K info i := numsOf_str _ (expT_bytes K info i)
theorem tS_size (K info : List Nat) (i : Nat) : (tS K info i).size ≤ 32 := by
  rw [← numsOf_length, tS_nums]
  cases i with
  | zero => exact Nat.zero_le _
  | succ i => rw [expT_length]; exact Nat.le_refl _

set_option maxRecDepth 10000 in
set_option maxHeartbeats 1000000 in
theorem Expand_in (key info : ByteArray) (n : Nat) (hn : n ≤ 8160) (hk : key.size < 1099511627776) (hi : info.size ≤ 1048576) (w : World) (hf : First w) (hq : Cubes w) :
    Calls Tryz.prog 101 #[.string key, .string info, .int .i64 n] w fun e w' => e = .returned (.tuple #[.string (expS key info n), .int .i64 0]) ∧ Below w.heap.size w w' := by
  have h1 : ¬ (n : Int) < 0 := by omega
  have h2 : ¬ (8160 : Int) < n := by omega
  obtain ⟨zk, hzk⟩ : ∃ zk : Array Value, zk = (mixZ ++ mixZ).toArray := ⟨_, rfl⟩
  have hkv : ∀ w, (zeroValue 63).run Tryz.prog w = .ok (.agg zk) w := by rw [hzk]; exact (zero_of_info (n := 150) (by kernel_rfl)).1
  have hkn : zk.size = 150 := by rw [hzk]; rfl
  clear hzk
  have hb0 : Below w.heap.size w (w.alloc (.cells #[.string info] 9)) := (Below.refl _ _).alloc (Nat.le_refl _) _
  have hI0 : Row (w.alloc (.cells #[.string info] 9)) w.heap.size 9 [.string info] := heap_alloc_new w _
  have hmf : ∀ (fn : Fn) (first cap : Array Value) (w : World), (Instr.makeFunc fn first cap).run Tryz.prog w = .ok (.func fn first cap) w := fun _ _ _ _ => rfl
  obtain ⟨w0, hw0⟩ : ∃ w0, w.alloc (.cells #[.string info] 9) = w0 := ⟨_, rfl⟩
  rw [hw0] at hb0 hI0
  have HK : Hid (First w0 ∧ Cubes w0 ∧ Below w.heap.size w w0 ∧ Row w0 w.heap.size 9 [.string info]) := ⟨hf.below hb0 hf.1, hq.below hb0 hq.1, hb0, hI0⟩
  clear hf hq hb0 hI0
  go_enter Tryz.func101, Tryz.ntmps101
  go_wp2_with fail
  refine (keyOf_any key hk w0 HK.out.1 HK.out.2.1).mono ?_
  rintro e w1 ⟨R1, R2, hR1, hR2, rfl, hb1⟩
  obtain ⟨cs, hcs⟩ : ∃ cs, cs = (keyV (keyP (numsOf key)) R1 R2).toArray := ⟨_, rfl⟩
  have hcn : cs.size = 150 := by rw [hcs]; simp [keyV, mixV, mixA, mixT, hR1.1, hR2.1]
  have hone : cs.all (·.oneCell') = true := by
    rw [hcs]
    refine all_oneCell_toArray fun v hv => ?_
    rcases List.mem_append.1 hv with h | h
    · exact mixV_one _ _ _ _ hR1.2 v h
    · exact mixV_one _ _ _ _ hR2.2 v h
  have hinfo : (Tryz.prog.info? 63).map (·.size) = some cs.size := by rw [hcn]; kernel_rfl
  have hs0 : zk.size = cs.size := by rw [hkn, hcn]
  rw [← hcs]
  have HCS : Hid (cs = (keyV (keyP (numsOf key)) R1 R2).toArray) := hcs
  clear hcs
  go_wp2_with (refine wpList_store_row rfl 63 _ _ rfl w1.heap.size cs rfl rfl 63 _ (heap_alloc_new w1 _) hinfo hs0 hone ?_)
  rw [World.setRow_alloc_new]
  have hle : w0.heap.size ≤ w1.heap.size := hb1.size
  have hIlt := HK.out.2.2.2.lt
  have hb2 : Below w1.heap.size w1 ((w1.alloc (.cells cs 63)).alloc (.cells #[.string ⟨#[]⟩] 9)) := ((Below.refl _ _).alloc (Nat.le_refl _) _).alloc (by simp) _
  have kK : Row ((w1.alloc (.cells cs 63)).alloc (.cells #[.string ⟨#[]⟩] 9)) w1.heap.size 63 (keyV (keyP (numsOf key)) R1 R2) := by
    have := heap_alloc2_old w1 (.cells cs 63) (.cells #[.string ⟨#[]⟩] 9)
    rw [Row, this, HCS.out]
  have kL : Row ((w1.alloc (.cells cs 63)).alloc (.cells #[.string ⟨#[]⟩] 9)) (w1.heap.size + 1) 9 [.string ⟨#[]⟩] := heap_alloc2_new w1 _ _
  have hw2s : ((w1.alloc (.cells cs 63)).alloc (.cells #[.string ⟨#[]⟩] 9)).heap.size = w1.heap.size + 1 + 1 := by simp
  obtain ⟨w2, hw2⟩ : ∃ w2, (w1.alloc (.cells cs 63)).alloc (.cells #[.string ⟨#[]⟩] 9) = w2 := ⟨_, rfl⟩
  rw [hw2] at hb2 kK kL hw2s
  rw [hw2]
  have hb2' : Below w0.heap.size w0 w2 := hb1.trans (hb2.mono hle)
  have kI : Row w2 w.heap.size 9 [.string info] := HK.out.2.2.2.below hb2' hIlt
  have hq2 : Cubes w2 := HK.out.2.1.below hb2' HK.out.2.1.1
  have hKb : Bytes (keyP (numsOf key)) := keyP_bytes (numsOf_bytes key)
  have hKl := keyP_length (numsOf key)
  have HX : Hid (expS key info n = strOfNums (((catD (fun i => expT (keyP (numsOf key)) (numsOf info) (i + 1)) ((n + 31) / 32)).take n).map fun (x : Nat) => (x : Int))) := rfl
  generalize keyP (numsOf key) = K at *
  have hg := gatherE n hn (.pointer (some ⟨w1.heap.size, 0, none⟩)) (.pointer (some ⟨w1.heap.size + 1, 0, none⟩)) (.pointer (some ⟨w.heap.size, 0, none⟩)) (w1.heap.size + 1) (fun i => expT K (numsOf info) (i + 1)) (fun i => expT_length _ _ _)
    (fun j W => Row W w1.heap.size 63 (keyV K R1 R2) ∧ Row W (w1.heap.size + 1) 9 [.string (tS K (numsOf info) j)] ∧ Row W w.heap.size 9 [.string info] ∧ Cubes W) w2 (by omega) ⟨kK, kL, kI, hq2⟩
    (fun j W1 W2 hI hB => ⟨hI.1.below hB (by omega), hI.2.1.below hB (by omega), hI.2.2.1.below hB (by omega), hI.2.2.2.below hB (by have := HK.out.2.1.1; omega)⟩)
    (fun j W1 hj hI hle => by
      have hp := piece_any w1.heap.size (w1.heap.size + 1) w.heap.size K hKl hKb R1 R2 hR1 hR2 (tS K (numsOf info) j) info (Nat.le_trans (tS_size _ _ _) (by decide)) hi (j + 1) (by omega) W1 hI.2.2.2 hI.1 hI.2.1 hI.2.2.1
      rw [tS_nums] at hp
      have e1 : macL K (expT K (numsOf info) j ++ numsOf info ++ [j + 1]) = expT K (numsOf info) (j + 1) := by
        rw [expT, Nat.mod_eq_of_lt (by omega)]
      rw [e1] at hp
      rw [show ((j : Int) + 1) = ((j + 1 : Nat) : Int) by omega]
      refine hp.mono fun e W2 ⟨he, hL, ho⟩ => ⟨he, ⟨hI.1.only ho (by omega), hL, hI.2.2.1.only ho (by omega), hI.2.2.2.only ho (by have := HK.out.2.1.1; omega)⟩, ho⟩)
  rw [← HX.out] at hg
  clear hone hinfo hs0 hcn HCS hw2 hb1 hb2 kK kL kI hq2
  refine hg.mono ?_
  rintro e w3 ⟨rfl, _, ho3⟩
  have hb3 : Below w.heap.size w w3 := HK.out.2.2.1.trans ((hb2'.mono HK.out.2.2.1.size).trans ((ho3.below (by omega)).mono (by omega)))
  clear ho3 hb2' hg
  go_wp2
  go_ret2
  exact ⟨rfl, hb3⟩

theorem Expand_out (key info : ByteArray) (n : Int) (hn : n < 0 ∨ 8160 < n) (w : World) :
    Calls Tryz.prog 101 #[.string key, .string info, .int .i64 n] w fun e w' => e = .returned (.tuple #[.string ⟨#[]⟩, .int .i64 1]) ∧ Below w.heap.size w w' := by
  have hb0 : Below w.heap.size w (w.alloc (.cells #[.string info] 9)) := (Below.refl _ _).alloc (Nat.le_refl _) _
  rcases hn with h | h
  · go_enter Tryz.func101, Tryz.ntmps101
    go_wp2
    go_ret2
    exact ⟨rfl, hb0⟩
  · have h1 : ¬ n < 0 := by omega
    go_enter Tryz.func101, Tryz.ntmps101
    go_wp2
    go_ret2
    exact ⟨rfl, hb0⟩
end Go.Proofs.YtfmaajfohieneaaGreatDoor.Sm

namespace Go.Proofs.YtfmaajfohieneaaGreatDoor.Sm
set_option maxRecDepth 20000
open Go.RowKit

set_option maxRecDepth 10000 in
set_option maxHeartbeats 1000000 in
theorem Mac_any (key s : ByteArray) (hk : key.size < 1099511627776) (hs : s.size < 549755813888) (w : World) (hf : First w) (hq : Cubes w) :
    Calls Tryz.prog 95 #[.string key, .string s] w fun e w' => e = .returned (.string (macS key s)) ∧ Below w.heap.size w w' := by
  obtain ⟨zk, hzk⟩ : ∃ zk : Array Value, zk = (mixZ ++ mixZ).toArray := ⟨_, rfl⟩
  have hkv : ∀ w, (zeroValue 63).run Tryz.prog w = .ok (.agg zk) w := by rw [hzk]; exact (zero_of_info (n := 150) (by kernel_rfl)).1
  have hkn : zk.size = 150 := by rw [hzk]; rfl
  obtain ⟨zd, hzd⟩ : ∃ zd : Array Value, zd = (digV []).toArray := ⟨_, rfl⟩
  have hdv : ∀ w, (zeroValue 67).run Tryz.prog w = .ok (.agg zd) w := by rw [hzd]; exact (zero_of_info (n := 32) (by kernel_rfl)).1
  have hzd32 : zd.size = 32 := by rw [hzd]; rfl
  clear hzk hzd
  have HK : Hid (First w ∧ Cubes w) := ⟨hf, hq⟩
  clear hf hq
  go_enter Tryz.func95, Tryz.ntmps95
  go_wp2_with fail
  refine (keyOf_any key hk w HK.out.1 HK.out.2).mono ?_
  rintro e w1 ⟨R1, R2, hR1, hR2, rfl, hb1⟩
  obtain ⟨cs, hcs⟩ : ∃ cs, cs = (keyV (keyP (numsOf key)) R1 R2).toArray := ⟨_, rfl⟩
  have hcn : cs.size = 150 := by rw [hcs]; simp [keyV, mixV, mixA, mixT, hR1.1, hR2.1]
  have hone : cs.all (·.oneCell') = true := by
    rw [hcs]
    refine all_oneCell_toArray fun v hv => ?_
    rcases List.mem_append.1 hv with h | h
    · exact mixV_one _ _ _ _ hR1.2 v h
    · exact mixV_one _ _ _ _ hR2.2 v h
  have hinfo : (Tryz.prog.info? 63).map (·.size) = some cs.size := by rw [hcn]; kernel_rfl
  have hs0 : zk.size = cs.size := by rw [hkn, hcn]
  rw [← hcs]
  have HCS : Hid (cs = (keyV (keyP (numsOf key)) R1 R2).toArray) := hcs
  clear hcs
  go_wp2_with (refine wpList_store_row rfl 63 _ _ rfl w1.heap.size cs rfl rfl 63 _ (heap_alloc_new w1 _) hinfo hs0 hone ?_)
  rw [World.setRow_alloc_new]
  have k2 : Row (w1.alloc (.cells cs 63)) w1.heap.size 63 (keyV (keyP (numsOf key)) R1 R2) := by rw [HCS.out]; exact heap_alloc_new w1 _
  have hb2 := hb1.alloc hb1.size (.cells cs 63)
  have hl1 := hb1.size
  have hw2s : (w1.alloc (.cells cs 63)).heap.size = w1.heap.size + 1 := by simp
  generalize w1.alloc (.cells cs 63) = w2 at *
  clear hone hinfo hs0 hcn HCS hb1
  go_wp2_with fail
  have hst : Strs (w2.alloc (.cells #[.string s] 9)) (.slice (some ⟨w1.heap.size + 1, 0, none⟩) 1 1) 1 (fun _ => s) := by
    refine ⟨_, _, rfl, by unfold maxLen; decide, .inr ⟨w1.heap.size + 1, 0, rfl, by simp; omega, fun i hi => ?_⟩⟩
    obtain rfl : i = 0 := by omega
    rw [← hw2s]
    exact (cell_of_row _ _ _ _ _ _ (heap_alloc_new w2 _))
  have hcat : catS (fun _ => s) 1 = numsOf s := rfl
  have hb3 := hb2.alloc hb2.size (.cells #[.string s] 9)
  have k3 : Row (w2.alloc (.cells #[.string s] 9)) w1.heap.size 63 (keyV (keyP (numsOf key)) R1 R2) := (Below.heap_alloc w2 _ _ (by omega)).trans k2
  obtain ⟨w3, hw3⟩ : ∃ w3, w2.alloc (.cells #[.string s] 9) = w3 := ⟨_, rfl⟩
  rw [hw3] at hst hb3 k3
  rw [hw3]
  have hmc := mac_any w1.heap.size (keyP (numsOf key)) (keyP_length _) (keyP_bytes (numsOf_bytes key)) R1 R2 hR1 hR2 _ 1 (fun _ => s) w3 hst (fun j hj => by
    have h : j = 0 ∨ j = 1 := by omega
    rcases h with rfl | rfl
    · simp [catS]
    · rw [hcat, numsOf_length]; omega) (HK.out.2.below hb3 HK.out.2.1) k3
  rw [hcat] at hmc
  have HMC : Hid (Calls Tryz.prog 42 #[.pointer (some ⟨w1.heap.size, 0, none⟩), .slice (some ⟨w1.heap.size + 1, 0, none⟩) 1 1] w3 fun e w' => e = .returned (.agg (byV (macL (keyP (numsOf key)) (numsOf s))).toArray) ∧ Below w3.heap.size w3 w') := hmc
  clear hmc hst k2 k3 hw3 hb2 hcat
  refine HMC.out.mono ?_
  rintro e w4 ⟨rfl, hb4⟩
  have hb4' := hb3.trans (hb4.mono hb3.size)
  clear HMC hb3 hb4
  obtain ⟨M, hM⟩ : ∃ M, M = macL (keyP (numsOf key)) (numsOf s) := ⟨_, rfl⟩
  have hMl : M.length = 32 := by rw [hM]; exact macL_length _ _
  have HMS : Hid (strOfNums (M.map fun (x : Nat) => (x : Int)) = macS key s) := by show _ = _; rw [hM]; rfl
  rw [← hM]
  clear hM
  obtain ⟨ds, hds⟩ : ∃ ds, ds = (byV M).toArray := ⟨_, rfl⟩
  have hsz2 : ds.size = 32 := by rw [hds]; simp [byV, hMl]
  have hone : ds.all (·.oneCell') = true := by rw [hds]; simp [byV, Value.oneCell']
  have hinfo : (Tryz.prog.info? 67).map (·.size) = some ds.size := by rw [hsz2]; kernel_rfl
  have hz32 : zd.size = ds.size := by rw [hzd32, hsz2]
  rw [← hds]
  have HDS : Hid (ds = (byV M).toArray) := hds
  clear hds
  go_wp2_with (refine wpList_store_row rfl 67 _ _ rfl w4.heap.size ds rfl rfl 67 _ (heap_alloc_new w4 _) hinfo hz32 hone ?_)
  rw [World.setRow_alloc_new]
  have k5 : Row (w4.alloc (.cells ds 67)) w4.heap.size 67 (byV M) := by rw [HDS.out]; exact heap_alloc_new w4 _
  have hb5 := hb4'.alloc hb4'.size (.cells ds 67)
  generalize w4.alloc (.cells ds 67) = w5 at *
  have hcv := run_convert_bytes_arg (P := Tryz.prog) w5 71 5 Tryz.underlying71 Tryz.underlying5 w4.heap.size 0 32 32 (M.map fun (x : Nat) => (x : Int)) (by simp [hMl]) (fun i hi => by
    rw [Nat.zero_add, k5.cell, byV_get _ _ (by rw [hMl]; exact hi)]
    simp [List.getD, hMl, hi]) 9 Tryz.underlying9
  rw [HMS.out] at hcv
  clear k5 hone hinfo hsz2 hb4' HDS hz32
  go_wp2
  first
    | (rw [hcv]; go_wp2)
    | skip
  go_ret
  exact ⟨rfl, hb5⟩

end Go.Proofs.YtfmaajfohieneaaGreatDoor.Sm

namespace Go.Proofs.YtfmaajfohieneaaGreatDoor.Bx
set_option maxRecDepth 20000
open Go.RowKit
theorem getD_beyond (l : List Nat) (d : Nat) {i : Nat} (h : l.length ≤ i) : l.getD i d = d := by
  rw [List.getD_eq_getElem?_getD, List.getElem?_eq_none h]; rfl
theorem getD_at (l : List Nat) (d : Nat) {i : Nat} (h : i < l.length) : l.getD i d = l[i] := by
  rw [List.getD_eq_getElem?_getD, List.getElem?_eq_getElem h]; rfl
theorem getD_left (l m : List Nat) (d i : Nat) (h : i < l.length) : (l ++ m).getD i d = l.getD i d := by
  rw [List.getD_eq_getElem?_getD, List.getElem?_append_left h, List.getD_eq_getElem?_getD]
theorem getD_right (l m : List Nat) (d i : Nat) (h : l.length ≤ i) : (l ++ m).getD i d = m.getD (i - l.length) d := by
  rw [List.getD_eq_getElem?_getD, List.getElem?_append_right h, List.getD_eq_getElem?_getD]
theorem pow32 : (2 : Nat) ^ 32 = 4294967296 := rfl
theorem xor_lt {a b : Nat} (ha : a < 4294967296) (hb : b < 4294967296) : a ^^^ b < 4294967296 := Nat.xor_lt_two_pow (n := 32) ha hb
theorem and_lt {a b : Nat} (hb : b < 4294967296) : a &&& b < 4294967296 := Nat.and_lt_two_pow (n := 32) a hb
theorem or_lt {a b : Nat} (ha : a < 4294967296) (hb : b < 4294967296) : a ||| b < 4294967296 := Nat.or_lt_two_pow (n := 32) ha hb
/-- Numbers that are bytes; that are words. -/
def Bytes (b : List Nat) : Prop := ∀ x ∈ b, x < 256
theorem getD_lt {b : List Nat} {m : Nat} (hm : 0 < m) (h : ∀ x ∈ b, x < m) (i : Nat) : b.getD i 0 < m := by
  by_cases hi : i < b.length
  · rw [getD_at _ _ hi]; exact h _ (List.getElem_mem _)
  · rw [getD_beyond _ _ (by omega)]; exact hm
theorem Bytes.append {a b : List Nat} (ha : Bytes a) (hb : Bytes b) : Bytes (a ++ b) := fun x hx => by
  rcases List.mem_append.1 hx with h | h
  · exact ha x h
  · exact hb x h
theorem Bytes.cons {x : Nat} {b : List Nat} (hx : x < 256) (hb : Bytes b) : Bytes (x :: b) := fun y hy => by
  rcases List.mem_cons.1 hy with h | h
  · omega
  · exact hb y h
theorem Bytes.zeros (n : Nat) : Bytes (List.replicate n 0) := fun x hx => by
  have := (List.mem_replicate.1 hx).2
  omega
theorem Bytes.take {b : List Nat} (h : Bytes b) (n : Nat) : Bytes (b.take n) := fun x hx => h x (List.mem_of_mem_take hx)
theorem Bytes.drop {b : List Nat} (h : Bytes b) (n : Nat) : Bytes (b.drop n) := fun x hx => h x (List.mem_of_mem_drop hx)
/-- A block whose cells are these. -/
def Row (w : World) (g : Nat) (t : TypeId) (l : List Value) : Prop := w.heap[g]? = some (.cells l.toArray t (0, 0))
/-- Nothing that was there is changed but block b. -/
def Only (b : Nat) (w w' : World) : Prop := Below 0 w w' ∧ ∀ k, k < w.heap.size → k ≠ b → w'.heap[k]? = w.heap[k]?
theorem Only.refl (b : Nat) (w : World) : Only b w w := ⟨Below.refl _ _, fun _ _ _ => rfl⟩
theorem Only.trans {b : Nat} {w w1 w2 : World} (h : Only b w w1) (k : Only b w1 w2) : Only b w w2 :=
  ⟨h.1.trans k.1, fun i hi hb => (k.2 i (Nat.lt_of_lt_of_le hi h.1.size) hb).trans (h.2 i hi hb)⟩
theorem Only.of_below {b : Nat} {w w' : World} (h : Below w.heap.size w w') : Only b w w' := ⟨h.mono (Nat.zero_le _), fun k hk _ => h.block k hk⟩
theorem Only.below {b : Nat} {w w' : World} (h : Only b w w') (hb : b ≤ w.heap.size) : Below b w w' := ⟨h.1.os, h.1.tape, h.1.output, h.1.size, fun k hk => h.2 k (by omega) (by omega)⟩
theorem Only.size {b : Nat} {w w' : World} (h : Only b w w') : w.heap.size ≤ w'.heap.size := h.1.size
theorem Only.drew {b : Nat} {w w' : World} (h : Only b w w') : Only b w w'.drew := ⟨h.1.drew, fun k hk hb => h.2 k hk hb⟩
theorem Only.setCell {b : Nat} {w w' : World} (h : Only b w w') (i : Nat) (v : Value) : Only b w (w'.setCell ⟨b, i, none⟩ v) :=
  ⟨h.1.setCell (p := ⟨b, i, none⟩) (Nat.zero_le _) _, fun k hk hb => (Below.heap_setCell w' ⟨b, i, none⟩ _ k hb).trans (h.2 k hk hb)⟩
theorem set_mid (A P Q C : List Value) (v q : Value) (n : Nat) (hn : n = A.length + P.length) : (A ++ P ++ (q :: Q) ++ C).toArray.setIfInBounds n v = (A ++ (P ++ [v]) ++ Q ++ C).toArray := by
  subst hn
  rw [List.setIfInBounds_toArray]
  congr 1
  rw [List.append_assoc, List.set_append_right _ _ (by simp), List.length_append, Nat.sub_self]
  simp
/-- Bytes as values. -/
def byV (l : List Nat) : List Value := l.map fun x => Value.int .u8 (x : Nat)
theorem below_rowH {B g : Nat} {w0 w : World} (h : Below B w0 w) (hg : B ≤ g) (cs : Array Value) : Below B w0 (w.setRow g cs) :=
  h.trans ⟨rfl, rfl, rfl, by simp [World.setRow], fun k hk => setRow_other _ _ _ _ (by omega)⟩
theorem Row.lt {w : World} {g : Nat} {t : TypeId} {l : List Value} (h : Row w g t l) : g < w.heap.size := lt_of_block h
theorem Row.cell {w : World} {g : Nat} {t : TypeId} {l : List Value} (h : Row w g t l) (i : Nat) : w.cell? ⟨g, i, none⟩ = l[i]? := (cell_of_row _ _ _ _ _ _ h).trans (by simp)
theorem Row.frozen {w : World} {g : Nat} {t : TypeId} {l : List Value} (h : Row w g t l) (i : Nat) : w.frozen? ⟨g, i, none⟩ = false := by simp [World.frozen?, show w.heap[g]? = _ from h]
theorem Row.below {w w' : World} {g : Nat} {t : TypeId} {l : List Value} (h : Row w g t l) {B : Nat} (hb : Below B w w') (hg : g < B) : Row w' g t l := (hb.block _ hg).trans h
theorem Row.only {w w' : World} {g b : Nat} {t : TypeId} {l : List Value} (h : Row w g t l) (ho : Only b w w') (hg : g ≠ b) : Row w' g t l := (ho.2 _ h.lt hg).trans h
theorem Row.set {w : World} {g n : Nat} {t : TypeId} {A C : List Value} {q : Value} (h : Row w g t (A ++ [q] ++ C)) (v : Value) (hn : n = A.length) : Row (w.setCell ⟨g, n, none⟩ v) g t (A ++ [v] ++ C) := by
  have h1 := heap_setCell_same w g n _ t v h
  have h2 := set_mid A [] [] C v q n (by simpa using hn)
  simp only [List.append_nil, List.nil_append] at h2
  rw [h2] at h1
  exact h1
theorem Row.setCells {g : Nat} {t : TypeId} {C : List Value} : ∀ (vs B A : List Value) (w : World) (n : Nat), vs.length = B.length → n = A.length → Row w g t (A ++ B ++ C) → Row (w.setCells g n vs) g t (A ++ vs ++ C)
  | [], [], A, w, n, _, _, h => h
  | v :: vs, q :: B, A, w, n, hl, hn, h => by
    have h1 : Row w g t (A ++ [q] ++ (B ++ C)) := by simpa using h
    have h2 := h1.set v hn
    have h3 : Row (w.setCell ⟨g, n, none⟩ v) g t ((A ++ [v]) ++ B ++ C) := by simpa using h2
    have h4 := Row.setCells vs B (A ++ [v]) _ (n + 1) (by simpa using hl) (by simp [hn]) h3
    show Row ((w.setCell ⟨g, n, none⟩ v).setCells g (n + 1) vs) g t (A ++ (v :: vs) ++ C)
    rw [show A ++ (v :: vs) ++ C = (A ++ [v]) ++ vs ++ C by simp]
    exact h4
  | v :: vs, [], A, w, n, hl, _, _ => by simp at hl
  | [], q :: B, A, w, n, hl, _, _ => by simp at hl
theorem Only.setCells {b : Nat} {w : World} : ∀ (vs : List Value) (n : Nat) (w' : World), Only b w w' → Only b w (w'.setCells b n vs)
  | [], _, _, h => h
  | v :: vs, n, _, h => Only.setCells vs (n + 1) _ (h.setCell n v)
/-- copy of a text that is longer than there is room. -/
theorem run_copy_part {P : Program} (w : World) (dT sT ty elem : TypeId) (b o dLen dCap : Nat) (t : ByteArray)
    (hu : P.underlying dT = some (.slice elem)) (hz : ∀ w, (Go.sizeOf elem).run P w = .ok 1 w) (hle : dLen ≤ t.size)
    (hc : ∀ j, j < dLen → (w.cell? ⟨b, o + j, none⟩).isSome = true) (hf : ∀ j, j < dLen → w.frozen? ⟨b, o + j, none⟩ = false) :
    (Builtin.copy_ #[dT, sT] ty #[.slice (some ⟨b, o, none⟩) dLen dCap, .string t]).run P w = .ok (goInt dLen) (w.setCells b o ((t.data.toList.take dLen).map fun x => Value.int .u8 (x.toNat : Int))) := by
  have hmin : Nat.min t.size dLen = dLen := Nat.min_eq_right hle
  have hl : ((t.data.toList.take dLen).map fun x => Value.int .u8 (x.toNat : Int)).length = dLen := by
    rw [List.length_map, List.length_take, ← Lib.size_eq]; omega
  have hst := run_storeCells_cells (P := P) b o ((t.data.toList.take dLen).map fun x => Value.int .u8 (x.toNat : Int)) 0 w (by rw [hl]; simpa using hc) (by rw [hl]; simpa using hf) (by
    intro v hv
    obtain ⟨x, _, rfl⟩ := List.mem_map.1 hv
    rfl)
  simp [Builtin.copy_, run_underlying hu, Builtin.lenOf, Builtin.firstCells, hz, hmin]
  rw [← List.map_take, hst]
  rfl
theorem byV_append (a b : List Nat) : byV (a ++ b) = byV a ++ byV b := by simp [byV]
theorem byV_zeros (n : Nat) : byV (List.replicate n 0) = List.replicate n (Value.int .u8 0) := by simp [byV]
theorem byV_get (b : List Nat) (i : Nat) (h : i < b.length) : (byV b)[i]? = some (.int .u8 (b.getD i 0 : Nat)) := by
  rw [byV, List.getElem?_map, List.getElem?_eq_getElem h, getD_at _ _ h]
  rfl
theorem zero_u8 (w : World) : (zeroValue 5).run Tryz.prog w = .ok (.int .u8 0) w := (zero_of_info (n := 1) (by kernel_rfl)).1 w
/-- A text's bytes as numbers. -/
def numsOf (s : ByteArray) : List Nat := s.data.toList.map (·.toNat)
theorem numsOf_length (s : ByteArray) : (numsOf s).length = s.size := by simp [numsOf]
theorem numsOf_bytes (s : ByteArray) : Bytes (numsOf s) := fun x hx => by
  obtain ⟨y, _, rfl⟩ := List.mem_map.1 hx
  exact y.toNat_lt
def strSize : Value → Nat
  | .string t => t.size
  | _ => 0
theorem size_u8 (w : World) : (Go.sizeOf 5).run Tryz.prog w = .ok 1 w := by
  obtain ⟨i0, hi, hz0, hz1, hz2⟩ := info_parts (show (Tryz.prog.info? 5).map (fun i => (i.zero, i.size, i.bytes)) = some (some (.int .u8 0), 1, 1) by kernel_rfl)
  simp [Go.sizeOf, typeInfo, hi, hz1]
theorem numsOf_extract (s : ByteArray) (p q : Nat) : numsOf (s.extract p q) = ((numsOf s).drop p).take (q - p) := by
  rw [numsOf, Lib.extract_data, List.map_take, List.map_drop]
  rfl
theorem numsOf_append (s t : ByteArray) : numsOf (s ++ t) = numsOf s ++ numsOf t := by
  simp [numsOf]
theorem numsOf_str (l : List Nat) (h : Bytes l) : numsOf (strOfNums (l.map fun (x : Nat) => (x : Int))) = l := by
  unfold numsOf strOfNums
  rw [List.map_map, List.map_map]
  conv => rhs; rw [← List.map_id l]
  refine List.map_congr_left fun x hx => ?_
  have hx := h x hx
  simp
  omega
theorem wraps_i64 (n : Int) (h0 : 0 ≤ n) (h1 : n < 2 ^ 63) : IntKind.i64.wrap n = n := by rw [IntKind.wrap_i64]; omega
theorem i64_and_nat (a b : Nat) (ha : a < 9223372036854775808) (hb : b < 9223372036854775808) : bits .and .i64 (a : Int) (b : Int) = ((a &&& b : Nat) : Int) := (bits_nat .i64 63 (by decide) wraps_i64 a b ha hb).1
theorem i64_or_nat (a b : Nat) (ha : a < 9223372036854775808) (hb : b < 9223372036854775808) : bits .or .i64 (a : Int) (b : Int) = ((a ||| b : Nat) : Int) := (bits_nat .i64 63 (by decide) wraps_i64 a b ha hb).2
theorem i64_xor_nat (a b : Nat) (ha : a < 9223372036854775808) (hb : b < 9223372036854775808) : bits .xor .i64 (a : Int) (b : Int) = ((a ^^^ b : Nat) : Int) := by
  have hx : a ^^^ b < 2 ^ 63 := Nat.xor_lt_two_pow ha hb
  show IntKind.i64.wrap ((BitVec.ofInt 64 (a : Int) ^^^ BitVec.ofInt 64 (b : Int)).toNat : Int) = _
  rw [BitVec.toNat_xor, ofInt_u64 a (by omega), ofInt_u64 b (by omega)]
  exact wraps_i64 _ (Int.natCast_nonneg _) (by exact_mod_cast hx)
theorem info_u8 : (Tryz.prog.info? 5).map (fun i => (i.zero, i.size, i.bytes)) = some (some (.int .u8 0), 1, 1) := by kernel_rfl
theorem numsV (s : ByteArray) : (s.data.toList.map fun x => Value.int .u8 (x.toNat : Int)) = byV (numsOf s) := by simp [byV, numsOf]
def sliceLen : Value → Nat
  | .slice _ n _ => n
  | _ => 0
end Go.Proofs.YtfmaajfohieneaaGreatDoor.Bx
