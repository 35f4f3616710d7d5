/- sum.finish, Told and Sum, whatever the bytes. -/
import Derived.Test.YtfndgiddoijdeaaDoorShaMixFull
import Derived.Test.YtfndgiddoijdeaaDoorShaAwake
namespace Go.Proofs.YtfndgiddoijdeaaDoor
open Go.RowKit

theorem finish_any (l : List Nat) (hb : Bytes l) (R : List Value) (hR : R.length = 64 - l.length % 64) (hs : l.length < 1099511627776) (w : World) (hq : Cubes w) :
    Calls Tryd.prog 32 #[.agg (mixV (absorb l (l.length / 64)) (byV (l.drop (64 * (l.length / 64))) ++ R) (l.length % 64) l.length).toArray] w fun e w' => e = .returned (.agg (byV (shaL l)).toArray) ∧ Below w.heap.size w w' := by
  obtain ⟨r0, R', rfl⟩ : ∃ r0 R', R = r0 :: R' := by
    cases R with
    | nil => simp at hR; omega
    | cons a b => exact ⟨a, b, rfl⟩
  have hR' : R'.length = 63 - l.length % 64 := by simp at hR; omega
  have hd : (l.drop (64 * (l.length / 64))).length = l.length % 64 := by simp; omega
  by_cases h1 : l.length % 64 < 56
  · rw [sha_small l (l.length / 64) (l.length % 64) (by omega) h1]
    exact finish_small _ (absorb_ok _ _) _ (hb.drop _) _ _ hd h1 r0 R' hR' hs w hq
  · rw [sha_large l (l.length / 64) (l.length % 64) (by omega) (by omega) (by omega)]
    by_cases h2 : l.length % 64 < 63
    · exact finish_large _ (absorb_ok _ _) _ (hb.drop _) _ _ hd (by omega) h2 r0 R' hR' hs w hq
    · have h3 : l.length % 64 = 63 := by omega
      have h4 : R' = [] := List.eq_nil_of_length_eq_zero (by omega)
      subst h4
      rw [h3]
      exact finish_full _ (absorb_ok _ _) _ (hb.drop _) _ (by omega) r0 hs w hq

set_option maxRecDepth 10000 in
set_option maxHeartbeats 1000000 in
theorem told_any (B : Nat) (l : List Nat) (hb : Bytes l) (hs : l.length < 1099511627776) (w : World) (hq : Cubes w) (hm : MixAt w B l l.length) :
    Calls Tryd.prog 18 #[.pointer (some ⟨B, 0, none⟩)] w fun e w' => e = .returned (.string (shaS l)) ∧ Below w.heap.size w w' := by
  obtain ⟨R, hR, hr⟩ := hm
  have c0 : w.cell? ⟨B, 0, none⟩ = some (.bool true) := hr.cell 0
  obtain ⟨cs, hcs⟩ : ∃ cs, cs = (mixV (absorb l (l.length / 64)) (byV (l.drop (64 * (l.length / 64))) ++ R) (l.length % 64) l.length).toArray := ⟨_, rfl⟩
  have hsz : cs.size = 75 := by
    have := mix_len l R hR
    rw [hcs, mixV]
    simp at this ⊢
    rw [mixT]; simp; omega
  have hk : w.heap[B]? = some (.cells cs 47 (0, 0)) := by rw [hcs]; exact hr
  have hinfo : (Tryd.prog.info? 47).map (·.size) = some cs.size := by rw [hsz]; exact mix_info
  have HCS : Hid (cs = (mixV (absorb l (l.length / 64)) (byV (l.drop (64 * (l.length / 64))) ++ R) (l.length % 64) l.length).toArray) := hcs
  have HFin := finish_any l hb R hR hs w hq
  rw [← hcs] at HFin
  clear hcs hr HCS
  go_enter Tryd.func18, Tryd.ntmps18
  go_wp2_with (refine wpList_load_row rfl 47 _ rfl B rfl 47 _ (0, 0) _ hk Tryd.underlying47 rfl hinfo ?_)
  refine HFin.mono ?_
  rintro e w1 ⟨rfl, hb1⟩
  clear HFin hk c0 hinfo
  obtain ⟨ds, hds⟩ : ∃ ds, ds = (byV (shaL l)).toArray := ⟨_, rfl⟩
  have hsz2 : ds.size = 32 := by rw [hds]; simp [byV, shaL_length]
  have hone : ds.all (·.oneCell') = true := by rw [hds]; simp [byV, Value.oneCell']
  have hinfo : (Tryd.prog.info? 60).map (·.size) = some ds.size := by rw [hsz2]; kernel_rfl
  rw [← hds]
  have HDS : Hid (ds = (byV (shaL l)).toArray) := hds
  clear hds
  go_wp2_with (refine wpList_store_row rfl 60 _ _ rfl w1.heap.size ds rfl rfl 60 _ (heap_alloc_new w1 _) hinfo (by rw [hsz2]; rfl) hone ?_)
  rw [World.setRow_alloc_new]
  have k2 : Row (w1.alloc (.cells ds 60)) w1.heap.size 60 (byV (shaL l)) := by rw [HDS.out]; exact heap_alloc_new w1 _
  have hb2 := hb1.alloc hb1.size (.cells ds 60)
  generalize w1.alloc (.cells ds 60) = w2 at *
  have hcv := run_convert_bytes_arg (P := Tryd.prog) w2 40 5 Tryd.underlying40 Tryd.underlying5 w1.heap.size 0 32 32 ((shaL l).map fun (x : Nat) => (x : Int)) (by simp [shaL_length]) (fun i hi => by
    rw [Nat.zero_add, k2.cell, byV_get _ _ (by rw [shaL_length]; exact hi)]
    simp [List.getD, shaL_length, hi]) 9 Tryd.underlying9
  have HCV : Hid (strOfNums ((shaL l).map fun (x : Nat) => (x : Int)) = shaS l) := rfl
  rw [HCV.out] at hcv
  clear k2 hone hinfo hsz2
  go_wp2
  rw [hcv]
  go_wp2
  go_ret
  exact ⟨rfl, hb2⟩

set_option maxRecDepth 10000 in
set_option maxHeartbeats 1000000 in
theorem sum_any (s : ByteArray) (hs : s.size < 1099511627776) (w : World) (hf : First w) (hq : Cubes w) :
    Calls Tryd.prog 10 #[.string s] w fun e w' => e = .returned (.string (shaS (numsOf s))) ∧ Below w.heap.size w w' := by
  obtain ⟨zs, hzs⟩ : ∃ zs, zs = (mixZ).toArray := ⟨_, rfl⟩
  have hzv : ∀ w, (zeroValue 47).run Tryd.prog w = .ok (.agg zs) w := by rw [hzs]; exact mix_zero
  have hzn : zs.size = 75 := by rw [hzs]; rfl
  clear hzs
  obtain ⟨ms, hms⟩ : ∃ ms, ms = (mixV st0 (List.replicate 64 (.int .u8 0)) 0 0).toArray := ⟨_, rfl⟩
  have hmn : ms.size = 75 := by rw [hms]; rfl
  have hone : ms.all (·.oneCell') = true := by rw [hms]; simp [mixV, mixA, mixT, Value.oneCell']
  have HM : Hid (ms = (mixV st0 (List.replicate 64 (.int .u8 0)) 0 0).toArray) := hms
  have hst := start_any w hf
  rw [← hms] at hst
  clear hms
  have hinfo : (Tryd.prog.info? 47).map (·.size) = some ms.size := by rw [hmn]; exact mix_info
  have hs0 : zs.size = ms.size := by rw [hzn, hmn]
  go_enter Tryd.func10, Tryd.ntmps10
  go_wp2_with fail
  refine hst.mono ?_
  rintro e w1 ⟨rfl, hb1⟩
  clear hst
  go_wp2_with (refine wpList_store_row rfl 47 _ _ rfl w1.heap.size ms rfl rfl 47 _ (heap_alloc_new w1 _) hinfo hs0 hone ?_)
  have k2 : MixAt ((w1.alloc (.cells zs 47)).setRow w1.heap.size ms) w1.heap.size [] 0 := ⟨List.replicate 64 (.int .u8 0), rfl, by rw [World.setRow_alloc_new, HM.out]; exact heap_alloc_new w1 _⟩
  have hb2 := below_rowH (hb1.alloc hb1.size (.cells zs 47)) hb1.size ms
  generalize (w1.alloc (.cells zs 47)).setRow w1.heap.size ms = w2 at *
  clear hinfo hs0 hone hzv hzn hmn HM
  refine (feed_any w1.heap.size [] (fun x hx => by simp at hx) s (by simpa using hs) w2 (hq.below hb2 hq.1) (by have := hq.1; have := hb1.size; omega) k2).mono ?_
  rintro e w3 ⟨rfl, k3, ho3⟩
  rw [List.nil_append] at k3
  have hl1 := hb1.size
  have hb3 : Below w.heap.size w w3 := hb2.trans ((ho3.below (by obtain ⟨R, hR, hr⟩ := k2; exact Nat.le_of_lt hr.lt)).mono hl1)
  clear k2 hb2 ho3 hb1
  go_wp2_with fail
  refine (told_any w1.heap.size (numsOf s) (numsOf_bytes s) (by rw [numsOf_length]; omega) w3 (hq.below hb3 hq.1) k3).mono ?_
  rintro e w4 ⟨rfl, hb4⟩
  have hb5 := hb3.trans (hb4.mono hb3.size)
  clear hb3 hb4 k3
  go_wp2
  go_ret
  exact ⟨rfl, hb5⟩

end Go.Proofs.YtfndgiddoijdeaaDoor
