/- sum.New: a mix of nothing yet, in a block of its own. -/
import Derived.Test.YtfndgiddoijdeaaDoorShaSumAll
namespace Go.Proofs.YtfndgiddoijdeaaDoor
open Go.RowKit

set_option maxRecDepth 10000 in
set_option maxHeartbeats 1000000 in
theorem new_any (w : World) (hf : First w) :
    Calls Tryd.prog 16 #[] w fun e w' => ∃ B, e = .returned (.pointer (some ⟨B, 0, none⟩)) ∧ MixAt w' B [] 0 ∧ w.heap.size ≤ B ∧ Below w.heap.size w w' := by
  obtain ⟨zs, hzs⟩ : ∃ zs, zs = (mixZ).toArray := ⟨_, rfl⟩
  have hzv : ∀ w, (zeroValue 47).run Tryd.prog w = .ok (.agg zs) w := by rw [hzs]; exact mix_zero
  have hzn : zs.size = 75 := by rw [hzs]; rfl
  clear hzs
  obtain ⟨ms, hms⟩ : ∃ ms, ms = (mixV st0 (List.replicate 64 (.int .u8 0)) 0 0).toArray := ⟨_, rfl⟩
  have hmn : ms.size = 75 := by rw [hms]; rfl
  have hone : ms.all (·.oneCell') = true := by rw [hms]; simp [mixV, mixA, mixT, Value.oneCell']
  have HM : Hid (ms = (mixV st0 (List.replicate 64 (.int .u8 0)) 0 0).toArray) := hms
  have hst := start_any w hf
  rw [← hms] at hst
  clear hms
  have hinfo : (Tryd.prog.info? 47).map (·.size) = some ms.size := by rw [hmn]; exact mix_info
  have hs0 : zs.size = ms.size := by rw [hzn, hmn]
  go_enter Tryd.func16, Tryd.ntmps16
  go_wp2_with fail
  refine hst.mono ?_
  rintro e w1 ⟨rfl, hb1⟩
  clear hst
  go_wp2_with (refine wpList_store_row rfl 47 _ _ rfl w1.heap.size ms rfl rfl 47 _ (heap_alloc_new w1 _) hinfo hs0 hone ?_)
  have k2 : MixAt ((w1.alloc (.cells zs 47)).setRow w1.heap.size ms) w1.heap.size [] 0 := ⟨List.replicate 64 (.int .u8 0), rfl, by rw [World.setRow_alloc_new, HM.out]; exact heap_alloc_new w1 _⟩
  have hb2 := below_rowH (hb1.alloc hb1.size (.cells zs 47)) hb1.size ms
  generalize (w1.alloc (.cells zs 47)).setRow w1.heap.size ms = w2 at *
  have HK : Hid (MixAt w2 w1.heap.size [] 0 ∧ Below w.heap.size w w2 ∧ w.heap.size ≤ w1.heap.size) := ⟨k2, hb2, hb1.size⟩
  clear hinfo hs0 hone hzv hzn hmn HM k2 hb2 hb1
  go_wp2
  exact bodyPost_ret (v := .pointer (some ⟨w1.heap.size, 0, none⟩)) (by simp [results, Tryd.results16]) rfl ⟨w1.heap.size, rfl, HK.out.1, HK.out.2.2, HK.out.2.1⟩
end Go.Proofs.YtfndgiddoijdeaaDoor
