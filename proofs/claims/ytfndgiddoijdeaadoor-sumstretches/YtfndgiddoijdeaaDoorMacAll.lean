/- sum.Mac and sum.Extract: of any key and text the HMAC. -/
import Derived.Test.YtfndgiddoijdeaaDoorMacBase
namespace Go.Proofs.YtfndgiddoijdeaaDoor
open Go.RowKit

set_option maxRecDepth 10000 in
set_option maxHeartbeats 1000000 in
theorem Mac_any (key s : ByteArray) (hk : key.size < 1099511627776) (hs : s.size < 549755813888) (w : World) (hf : First w) (hq : Cubes w) :
    Calls Tryd.prog 13 #[.string key, .string s] w fun e w' => e = .returned (.string (macS key s)) ∧ Below w.heap.size w w' := by
  obtain ⟨zk, hzk⟩ : ∃ zk : Array Value, zk = (mixZ ++ mixZ).toArray := ⟨_, rfl⟩
  have hkv : ∀ w, (zeroValue 57).run Tryd.prog w = .ok (.agg zk) w := by rw [hzk]; exact (zero_of_info (n := 150) (by kernel_rfl)).1
  have hkn : zk.size = 150 := by rw [hzk]; rfl
  obtain ⟨zd, hzd⟩ : ∃ zd : Array Value, zd = (digV []).toArray := ⟨_, rfl⟩
  have hdv : ∀ w, (zeroValue 60).run Tryd.prog w = .ok (.agg zd) w := by rw [hzd]; exact (zero_of_info (n := 32) (by kernel_rfl)).1
  have hzd32 : zd.size = 32 := by rw [hzd]; rfl
  clear hzk hzd
  have HK : Hid (First w ∧ Cubes w) := ⟨hf, hq⟩
  clear hf hq
  go_enter Tryd.func13, Tryd.ntmps13
  go_wp2_with fail
  refine (keyOf_any key hk w HK.out.1 HK.out.2).mono ?_
  rintro e w1 ⟨R1, R2, hR1, hR2, rfl, hb1⟩
  obtain ⟨cs, hcs⟩ : ∃ cs, cs = (keyV (keyP (numsOf key)) R1 R2).toArray := ⟨_, rfl⟩
  have hcn : cs.size = 150 := by rw [hcs]; simp [keyV, mixV, mixA, mixT, hR1.1, hR2.1]
  have hone : cs.all (·.oneCell') = true := by
    rw [hcs]
    refine all_oneCell_toArray fun v hv => ?_
    rcases List.mem_append.1 hv with h | h
    · exact mixV_one _ _ _ _ hR1.2 v h
    · exact mixV_one _ _ _ _ hR2.2 v h
  have hinfo : (Tryd.prog.info? 57).map (·.size) = some cs.size := by rw [hcn]; kernel_rfl
  have hs0 : zk.size = cs.size := by rw [hkn, hcn]
  rw [← hcs]
  have HCS : Hid (cs = (keyV (keyP (numsOf key)) R1 R2).toArray) := hcs
  clear hcs
  go_wp2_with (refine wpList_store_row rfl 57 _ _ rfl w1.heap.size cs rfl rfl 57 _ (heap_alloc_new w1 _) hinfo hs0 hone ?_)
  rw [World.setRow_alloc_new]
  have k2 : Row (w1.alloc (.cells cs 57)) w1.heap.size 57 (keyV (keyP (numsOf key)) R1 R2) := by rw [HCS.out]; exact heap_alloc_new w1 _
  have hb2 := hb1.alloc hb1.size (.cells cs 57)
  have hl1 := hb1.size
  have hw2s : (w1.alloc (.cells cs 57)).heap.size = w1.heap.size + 1 := by simp
  generalize w1.alloc (.cells cs 57) = w2 at *
  clear hone hinfo hs0 hcn HCS hb1
  go_wp2_with fail
  have hst : Strs (w2.alloc (.cells #[.string s] 9)) (.slice (some ⟨w1.heap.size + 1, 0, none⟩) 1 1) 1 (fun _ => s) := by
    refine ⟨_, _, rfl, by unfold maxLen; decide, .inr ⟨w1.heap.size + 1, 0, rfl, by simp; omega, fun i hi => ?_⟩⟩
    obtain rfl : i = 0 := by omega
    rw [← hw2s]
    exact (cell_of_row _ _ _ _ _ _ (heap_alloc_new w2 _))
  have hcat : catS (fun _ => s) 1 = numsOf s := rfl
  have hb3 := hb2.alloc hb2.size (.cells #[.string s] 9)
  have k3 : Row (w2.alloc (.cells #[.string s] 9)) w1.heap.size 57 (keyV (keyP (numsOf key)) R1 R2) := (Below.heap_alloc w2 _ _ (by omega)).trans k2
  obtain ⟨w3, hw3⟩ : ∃ w3, w2.alloc (.cells #[.string s] 9) = w3 := ⟨_, rfl⟩
  rw [hw3] at hst hb3 k3
  rw [hw3]
  have hmc := mac_any w1.heap.size (keyP (numsOf key)) (keyP_length _) (keyP_bytes (numsOf_bytes key)) R1 R2 hR1 hR2 _ 1 (fun _ => s) w3 hst (fun j hj => by
    have h : j = 0 ∨ j = 1 := by omega
    rcases h with rfl | rfl
    · simp [catS]
    · rw [hcat, numsOf_length]; omega) (HK.out.2.below hb3 HK.out.2.1) k3
  rw [hcat] at hmc
  have HMC : Hid (Calls Tryd.prog 30 #[.pointer (some ⟨w1.heap.size, 0, none⟩), .slice (some ⟨w1.heap.size + 1, 0, none⟩) 1 1] w3 fun e w' => e = .returned (.agg (byV (macL (keyP (numsOf key)) (numsOf s))).toArray) ∧ Below w3.heap.size w3 w') := hmc
  clear hmc hst k2 k3 hw3 hb2 hcat
  refine HMC.out.mono ?_
  rintro e w4 ⟨rfl, hb4⟩
  have hb4' := hb3.trans (hb4.mono hb3.size)
  clear HMC hb3 hb4
  obtain ⟨M, hM⟩ : ∃ M, M = macL (keyP (numsOf key)) (numsOf s) := ⟨_, rfl⟩
  have hMl : M.length = 32 := by rw [hM]; exact macL_length _ _
  have HMS : Hid (strOfNums (M.map fun (x : Nat) => (x : Int)) = macS key s) := by show _ = _; rw [hM]; rfl
  rw [← hM]
  clear hM
  obtain ⟨ds, hds⟩ : ∃ ds, ds = (byV M).toArray := ⟨_, rfl⟩
  have hsz2 : ds.size = 32 := by rw [hds]; simp [byV, hMl]
  have hone : ds.all (·.oneCell') = true := by rw [hds]; simp [byV, Value.oneCell']
  have hinfo : (Tryd.prog.info? 60).map (·.size) = some ds.size := by rw [hsz2]; kernel_rfl
  have hz32 : zd.size = ds.size := by rw [hzd32, hsz2]
  rw [← hds]
  have HDS : Hid (ds = (byV M).toArray) := hds
  clear hds
  go_wp2_with (refine wpList_store_row rfl 60 _ _ rfl w4.heap.size ds rfl rfl 60 _ (heap_alloc_new w4 _) hinfo hz32 hone ?_)
  rw [World.setRow_alloc_new]
  have k5 : Row (w4.alloc (.cells ds 60)) w4.heap.size 60 (byV M) := by rw [HDS.out]; exact heap_alloc_new w4 _
  have hb5 := hb4'.alloc hb4'.size (.cells ds 60)
  generalize w4.alloc (.cells ds 60) = w5 at *
  have hcv := run_convert_bytes_arg (P := Tryd.prog) w5 40 5 Tryd.underlying40 Tryd.underlying5 w4.heap.size 0 32 32 (M.map fun (x : Nat) => (x : Int)) (by simp [hMl]) (fun i hi => by
    rw [Nat.zero_add, k5.cell, byV_get _ _ (by rw [hMl]; exact hi)]
    simp [List.getD, hMl, hi]) 9 Tryd.underlying9
  rw [HMS.out] at hcv
  clear k5 hone hinfo hsz2 hb4' HDS hz32
  go_wp2
  first
    | (rw [hcv]; go_wp2)
    | skip
  go_ret
  exact ⟨rfl, hb5⟩

theorem Extract_any (key s : ByteArray) (hk : key.size < 1099511627776) (hs : s.size < 549755813888) (w : World) (hf : First w) (hq : Cubes w) :
    Calls Tryd.prog 15 #[.string key, .string s] w fun e w' => e = .returned (.string (macS key s)) ∧ Below w.heap.size w w' := by
  have HK : Hid (First w ∧ Cubes w) := ⟨hf, hq⟩
  clear hf hq
  go_enter Tryd.func15, Tryd.ntmps15
  go_wp2_with fail
  refine (Mac_any key s hk hs w HK.out.1 HK.out.2).mono ?_
  rintro e w1 ⟨rfl, hb1⟩
  go_wp2
  go_ret
  exact ⟨rfl, hb1⟩
end Go.Proofs.YtfndgiddoijdeaaDoor
