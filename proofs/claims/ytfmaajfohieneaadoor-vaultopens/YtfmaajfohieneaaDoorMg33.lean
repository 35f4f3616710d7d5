/- sum.Expand: of any key, purpose and number the bytes, or the error. · sum.Mac and sum.Extract: of any key and text the HMAC. -/
import Derived.Test.YtfmaajfohieneaaDoorMg32
import Derived.Test.YtfmaajfohieneaaDoorMg29
namespace Go.Proofs.YtfmaajfohieneaaDoor.Sm
set_option maxRecDepth 20000
open Go.RowKit

/-- HKDF's pieces: the i-th; the one ahead of the first is empty. -/
def expT (K info : List Nat) : Nat → List Nat
  | 0 => []
  | i + 1 => macL K (expT K info i ++ info ++ [(i + 1) % 256])
def expL (K info : List Nat) (n : Nat) : List Nat := (catD (fun i => expT K info (i + 1)) ((n + 31) / 32)).take n
def expS (key info : ByteArray) (n : Nat) : ByteArray := strOfNums ((expL (keyP (numsOf key)) (numsOf info) n).map fun (x : Nat) => (x : Int))
def tS (K info : List Nat) (i : Nat) : ByteArray := strOfNums ((expT K info i).map fun (x : Nat) => (x : Int))
theorem expT_bytes (K info : List Nat) (i : Nat) : Bytes (expT K info i) := by
  cases i with
  | zero => intro x hx; simp [expT] at hx
  | succ i => exact macL_bytes _ _
theorem expT_length (K info : List Nat) (i : Nat) : (expT K info (i + 1)).length = 32 := macL_length _ _
theorem tS_nums (K info : List Nat) (i : Nat) : numsOf (tS K info i) = expT K info i := numsOf_str _ (expT_bytes K info i)
theorem tS_size (K info : List Nat) (i : Nat) : (tS K info i).size ≤ 32 := by
  rw [← numsOf_length, tS_nums]
  cases i with
  | zero => exact Nat.zero_le _
  | succ i => rw [expT_length]; exact Nat.le_refl _

set_option maxRecDepth 10000 in
set_option maxHeartbeats 1000000 in
theorem Expand_in (key info : ByteArray) (n : Nat) (hn : n ≤ 8160) (hk : key.size < 1099511627776) (hi : info.size ≤ 1048576) (w : World) (hf : First w) (hq : Cubes w) :
    Calls Tryd.prog 60 #[.string key, .string info, .int .i64 n] w fun e w' => e = .returned (.tuple #[.string (expS key info n), .int .i64 0]) ∧ Below w.heap.size w w' := by
  have h1 : ¬ (n : Int) < 0 := by omega
  have h2 : ¬ (8160 : Int) < n := by omega
  obtain ⟨zk, hzk⟩ : ∃ zk : Array Value, zk = (mixZ ++ mixZ).toArray := ⟨_, rfl⟩
  have hkv : ∀ w, (zeroValue 52).run Tryd.prog w = .ok (.agg zk) w := by rw [hzk]; exact (zero_of_info (n := 150) (by kernel_rfl)).1
  have hkn : zk.size = 150 := by rw [hzk]; rfl
  clear hzk
  have hb0 : Below w.heap.size w (w.alloc (.cells #[.string info] 9)) := (Below.refl _ _).alloc (Nat.le_refl _) _
  have hI0 : Row (w.alloc (.cells #[.string info] 9)) w.heap.size 9 [.string info] := heap_alloc_new w _
  have hmf : ∀ (fn : Fn) (first cap : Array Value) (w : World), (Instr.makeFunc fn first cap).run Tryd.prog w = .ok (.func fn first cap) w := fun _ _ _ _ => rfl
  obtain ⟨w0, hw0⟩ : ∃ w0, w.alloc (.cells #[.string info] 9) = w0 := ⟨_, rfl⟩
  rw [hw0] at hb0 hI0
  have HK : Hid (First w0 ∧ Cubes w0 ∧ Below w.heap.size w w0 ∧ Row w0 w.heap.size 9 [.string info]) := ⟨hf.below hb0 hf.1, hq.below hb0 hq.1, hb0, hI0⟩
  clear hf hq hb0 hI0
  go_enter Tryd.func60, Tryd.ntmps60
  go_wp2_with fail
  refine (keyOf_any key hk w0 HK.out.1 HK.out.2.1).mono ?_
  rintro e w1 ⟨R1, R2, hR1, hR2, rfl, hb1⟩
  obtain ⟨cs, hcs⟩ : ∃ cs, cs = (keyV (keyP (numsOf key)) R1 R2).toArray := ⟨_, rfl⟩
  have hcn : cs.size = 150 := by rw [hcs]; simp [keyV, mixV, mixA, mixT, hR1.1, hR2.1]
  have hone : cs.all (·.oneCell') = true := by
    rw [hcs]
    refine all_oneCell_toArray fun v hv => ?_
    rcases List.mem_append.1 hv with h | h
    · exact mixV_one _ _ _ _ hR1.2 v h
    · exact mixV_one _ _ _ _ hR2.2 v h
  have hinfo : (Tryd.prog.info? 52).map (·.size) = some cs.size := by rw [hcn]; kernel_rfl
  have hs0 : zk.size = cs.size := by rw [hkn, hcn]
  rw [← hcs]
  have HCS : Hid (cs = (keyV (keyP (numsOf key)) R1 R2).toArray) := hcs
  clear hcs
  go_wp2_with (refine wpList_store_row rfl 52 _ _ rfl w1.heap.size cs rfl rfl 52 _ (heap_alloc_new w1 _) hinfo hs0 hone ?_)
  rw [World.setRow_alloc_new]
  have hle : w0.heap.size ≤ w1.heap.size := hb1.size
  have hIlt := HK.out.2.2.2.lt
  have hb2 : Below w1.heap.size w1 ((w1.alloc (.cells cs 52)).alloc (.cells #[.string ⟨#[]⟩] 9)) := ((Below.refl _ _).alloc (Nat.le_refl _) _).alloc (by simp) _
  have kK : Row ((w1.alloc (.cells cs 52)).alloc (.cells #[.string ⟨#[]⟩] 9)) w1.heap.size 52 (keyV (keyP (numsOf key)) R1 R2) := by
    have := heap_alloc2_old w1 (.cells cs 52) (.cells #[.string ⟨#[]⟩] 9)
    rw [Row, this, HCS.out]
  have kL : Row ((w1.alloc (.cells cs 52)).alloc (.cells #[.string ⟨#[]⟩] 9)) (w1.heap.size + 1) 9 [.string ⟨#[]⟩] := heap_alloc2_new w1 _ _
  have hw2s : ((w1.alloc (.cells cs 52)).alloc (.cells #[.string ⟨#[]⟩] 9)).heap.size = w1.heap.size + 1 + 1 := by simp
  obtain ⟨w2, hw2⟩ : ∃ w2, (w1.alloc (.cells cs 52)).alloc (.cells #[.string ⟨#[]⟩] 9) = w2 := ⟨_, rfl⟩
  rw [hw2] at hb2 kK kL hw2s
  rw [hw2]
  have hb2' : Below w0.heap.size w0 w2 := hb1.trans (hb2.mono hle)
  have kI : Row w2 w.heap.size 9 [.string info] := HK.out.2.2.2.below hb2' hIlt
  have hq2 : Cubes w2 := HK.out.2.1.below hb2' HK.out.2.1.1
  have hKb : Bytes (keyP (numsOf key)) := keyP_bytes (numsOf_bytes key)
  have hKl := keyP_length (numsOf key)
  have HX : Hid (expS key info n = strOfNums (((catD (fun i => expT (keyP (numsOf key)) (numsOf info) (i + 1)) ((n + 31) / 32)).take n).map fun (x : Nat) => (x : Int))) := rfl
  generalize keyP (numsOf key) = K at *
  have hg := gatherE n hn (.pointer (some ⟨w1.heap.size, 0, none⟩)) (.pointer (some ⟨w1.heap.size + 1, 0, none⟩)) (.pointer (some ⟨w.heap.size, 0, none⟩)) (w1.heap.size + 1) (fun i => expT K (numsOf info) (i + 1)) (fun i => expT_length _ _ _)
    (fun j W => Row W w1.heap.size 52 (keyV K R1 R2) ∧ Row W (w1.heap.size + 1) 9 [.string (tS K (numsOf info) j)] ∧ Row W w.heap.size 9 [.string info] ∧ Cubes W) w2 (by omega) ⟨kK, kL, kI, hq2⟩
    (fun j W1 W2 hI hB => ⟨hI.1.below hB (by omega), hI.2.1.below hB (by omega), hI.2.2.1.below hB (by omega), hI.2.2.2.below hB (by have := HK.out.2.1.1; omega)⟩)
    (fun j W1 hj hI hle => by
      have hp := piece_any w1.heap.size (w1.heap.size + 1) w.heap.size K hKl hKb R1 R2 hR1 hR2 (tS K (numsOf info) j) info (Nat.le_trans (tS_size _ _ _) (by decide)) hi (j + 1) (by omega) W1 hI.2.2.2 hI.1 hI.2.1 hI.2.2.1
      rw [tS_nums] at hp
      have e1 : macL K (expT K (numsOf info) j ++ numsOf info ++ [j + 1]) = expT K (numsOf info) (j + 1) := by
        rw [expT, Nat.mod_eq_of_lt (by omega)]
      rw [e1] at hp
      rw [show ((j : Int) + 1) = ((j + 1 : Nat) : Int) by omega]
      refine hp.mono fun e W2 ⟨he, hL, ho⟩ => ⟨he, ⟨hI.1.only ho (by omega), hL, hI.2.2.1.only ho (by omega), hI.2.2.2.only ho (by have := HK.out.2.1.1; omega)⟩, ho⟩)
  rw [← HX.out] at hg
  clear hone hinfo hs0 hcn HCS hw2 hb1 hb2 kK kL kI hq2
  refine hg.mono ?_
  rintro e w3 ⟨rfl, _, ho3⟩
  have hb3 : Below w.heap.size w w3 := HK.out.2.2.1.trans ((hb2'.mono HK.out.2.2.1.size).trans ((ho3.below (by omega)).mono (by omega)))
  clear ho3 hb2' hg
  go_wp2
  go_ret2
  exact ⟨rfl, hb3⟩

theorem Expand_out (key info : ByteArray) (n : Int) (hn : n < 0 ∨ 8160 < n) (w : World) :
    Calls Tryd.prog 60 #[.string key, .string info, .int .i64 n] w fun e w' => e = .returned (.tuple #[.string ⟨#[]⟩, .int .i64 1]) ∧ Below w.heap.size w w' := by
  have hb0 : Below w.heap.size w (w.alloc (.cells #[.string info] 9)) := (Below.refl _ _).alloc (Nat.le_refl _) _
  rcases hn with h | h
  · go_enter Tryd.func60, Tryd.ntmps60
    go_wp2
    go_ret2
    exact ⟨rfl, hb0⟩
  · have h1 : ¬ n < 0 := by omega
    go_enter Tryd.func60, Tryd.ntmps60
    go_wp2
    go_ret2
    exact ⟨rfl, hb0⟩
end Go.Proofs.YtfmaajfohieneaaDoor.Sm

namespace Go.Proofs.YtfmaajfohieneaaDoor.Sm
set_option maxRecDepth 20000
open Go.RowKit

set_option maxRecDepth 10000 in
set_option maxHeartbeats 1000000 in
theorem Mac_any (key s : ByteArray) (hk : key.size < 1099511627776) (hs : s.size < 549755813888) (w : World) (hf : First w) (hq : Cubes w) :
    Calls Tryd.prog 54 #[.string key, .string s] w fun e w' => e = .returned (.string (macS key s)) ∧ Below w.heap.size w w' := by
  obtain ⟨zk, hzk⟩ : ∃ zk : Array Value, zk = (mixZ ++ mixZ).toArray := ⟨_, rfl⟩
  have hkv : ∀ w, (zeroValue 52).run Tryd.prog w = .ok (.agg zk) w := by rw [hzk]; exact (zero_of_info (n := 150) (by kernel_rfl)).1
  have hkn : zk.size = 150 := by rw [hzk]; rfl
  obtain ⟨zd, hzd⟩ : ∃ zd : Array Value, zd = (digV []).toArray := ⟨_, rfl⟩
  have hdv : ∀ w, (zeroValue 56).run Tryd.prog w = .ok (.agg zd) w := by rw [hzd]; exact (zero_of_info (n := 32) (by kernel_rfl)).1
  have hzd32 : zd.size = 32 := by rw [hzd]; rfl
  clear hzk hzd
  have HK : Hid (First w ∧ Cubes w) := ⟨hf, hq⟩
  clear hf hq
  go_enter Tryd.func54, Tryd.ntmps54
  go_wp2_with fail
  refine (keyOf_any key hk w HK.out.1 HK.out.2).mono ?_
  rintro e w1 ⟨R1, R2, hR1, hR2, rfl, hb1⟩
  obtain ⟨cs, hcs⟩ : ∃ cs, cs = (keyV (keyP (numsOf key)) R1 R2).toArray := ⟨_, rfl⟩
  have hcn : cs.size = 150 := by rw [hcs]; simp [keyV, mixV, mixA, mixT, hR1.1, hR2.1]
  have hone : cs.all (·.oneCell') = true := by
    rw [hcs]
    refine all_oneCell_toArray fun v hv => ?_
    rcases List.mem_append.1 hv with h | h
    · exact mixV_one _ _ _ _ hR1.2 v h
    · exact mixV_one _ _ _ _ hR2.2 v h
  have hinfo : (Tryd.prog.info? 52).map (·.size) = some cs.size := by rw [hcn]; kernel_rfl
  have hs0 : zk.size = cs.size := by rw [hkn, hcn]
  rw [← hcs]
  have HCS : Hid (cs = (keyV (keyP (numsOf key)) R1 R2).toArray) := hcs
  clear hcs
  go_wp2_with (refine wpList_store_row rfl 52 _ _ rfl w1.heap.size cs rfl rfl 52 _ (heap_alloc_new w1 _) hinfo hs0 hone ?_)
  rw [World.setRow_alloc_new]
  have k2 : Row (w1.alloc (.cells cs 52)) w1.heap.size 52 (keyV (keyP (numsOf key)) R1 R2) := by rw [HCS.out]; exact heap_alloc_new w1 _
  have hb2 := hb1.alloc hb1.size (.cells cs 52)
  have hl1 := hb1.size
  have hw2s : (w1.alloc (.cells cs 52)).heap.size = w1.heap.size + 1 := by simp
  generalize w1.alloc (.cells cs 52) = w2 at *
  clear hone hinfo hs0 hcn HCS hb1
  go_wp2_with fail
  have hst : Strs (w2.alloc (.cells #[.string s] 9)) (.slice (some ⟨w1.heap.size + 1, 0, none⟩) 1 1) 1 (fun _ => s) := by
    refine ⟨_, _, rfl, by unfold maxLen; decide, .inr ⟨w1.heap.size + 1, 0, rfl, by simp; omega, fun i hi => ?_⟩⟩
    obtain rfl : i = 0 := by omega
    rw [← hw2s]
    exact (cell_of_row _ _ _ _ _ _ (heap_alloc_new w2 _))
  have hcat : catS (fun _ => s) 1 = numsOf s := rfl
  have hb3 := hb2.alloc hb2.size (.cells #[.string s] 9)
  have k3 : Row (w2.alloc (.cells #[.string s] 9)) w1.heap.size 52 (keyV (keyP (numsOf key)) R1 R2) := (Below.heap_alloc w2 _ _ (by omega)).trans k2
  obtain ⟨w3, hw3⟩ : ∃ w3, w2.alloc (.cells #[.string s] 9) = w3 := ⟨_, rfl⟩
  rw [hw3] at hst hb3 k3
  rw [hw3]
  have hmc := mac_any w1.heap.size (keyP (numsOf key)) (keyP_length _) (keyP_bytes (numsOf_bytes key)) R1 R2 hR1 hR2 _ 1 (fun _ => s) w3 hst (fun j hj => by
    have h : j = 0 ∨ j = 1 := by omega
    rcases h with rfl | rfl
    · simp [catS]
    · rw [hcat, numsOf_length]; omega) (HK.out.2.below hb3 HK.out.2.1) k3
  rw [hcat] at hmc
  have HMC : Hid (Calls Tryd.prog 25 #[.pointer (some ⟨w1.heap.size, 0, none⟩), .slice (some ⟨w1.heap.size + 1, 0, none⟩) 1 1] w3 fun e w' => e = .returned (.agg (byV (macL (keyP (numsOf key)) (numsOf s))).toArray) ∧ Below w3.heap.size w3 w') := hmc
  clear hmc hst k2 k3 hw3 hb2 hcat
  refine HMC.out.mono ?_
  rintro e w4 ⟨rfl, hb4⟩
  have hb4' := hb3.trans (hb4.mono hb3.size)
  clear HMC hb3 hb4
  obtain ⟨M, hM⟩ : ∃ M, M = macL (keyP (numsOf key)) (numsOf s) := ⟨_, rfl⟩
  have hMl : M.length = 32 := by rw [hM]; exact macL_length _ _
  have HMS : Hid (strOfNums (M.map fun (x : Nat) => (x : Int)) = macS key s) := by show _ = _; rw [hM]; rfl
  rw [← hM]
  clear hM
  obtain ⟨ds, hds⟩ : ∃ ds, ds = (byV M).toArray := ⟨_, rfl⟩
  have hsz2 : ds.size = 32 := by rw [hds]; simp [byV, hMl]
  have hone : ds.all (·.oneCell') = true := by rw [hds]; simp [byV, Value.oneCell']
  have hinfo : (Tryd.prog.info? 56).map (·.size) = some ds.size := by rw [hsz2]; kernel_rfl
  have hz32 : zd.size = ds.size := by rw [hzd32, hsz2]
  rw [← hds]
  have HDS : Hid (ds = (byV M).toArray) := hds
  clear hds
  go_wp2_with (refine wpList_store_row rfl 56 _ _ rfl w4.heap.size ds rfl rfl 56 _ (heap_alloc_new w4 _) hinfo hz32 hone ?_)
  rw [World.setRow_alloc_new]
  have k5 : Row (w4.alloc (.cells ds 56)) w4.heap.size 56 (byV M) := by rw [HDS.out]; exact heap_alloc_new w4 _
  have hb5 := hb4'.alloc hb4'.size (.cells ds 56)
  generalize w4.alloc (.cells ds 56) = w5 at *
  have hcv := run_convert_bytes_arg (P := Tryd.prog) w5 61 5 Tryd.underlying61 Tryd.underlying5 w4.heap.size 0 32 32 (M.map fun (x : Nat) => (x : Int)) (by simp [hMl]) (fun i hi => by
    rw [Nat.zero_add, k5.cell, byV_get _ _ (by rw [hMl]; exact hi)]
    simp [List.getD, hMl, hi]) 9 Tryd.underlying9
  rw [HMS.out] at hcv
  clear k5 hone hinfo hsz2 hb4' HDS hz32
  go_wp2
  first
    | (rw [hcv]; go_wp2)
    | skip
  go_ret
  exact ⟨rfl, hb5⟩

end Go.Proofs.YtfmaajfohieneaaDoor.Sm
