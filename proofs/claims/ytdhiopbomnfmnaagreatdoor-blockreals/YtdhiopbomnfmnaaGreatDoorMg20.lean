/- sum.start, Told and Sum of a short text. · sum.Sum of a short text is the text's sum; so the laws' awake tells true; and a mix that New did not give takes nothing and tells nothing. · sum.finish, Told and Sum, whatever the bytes. -/
import Derived.Test.YtdhiopbomnfmnaaGreatDoorMg16
import Derived.Test.YtdhiopbomnfmnaaGreatDoorMg19
namespace Go.Proofs.YtdhiopbomnfmnaaGreatDoor.Sm
set_option maxRecDepth 20000
open Go.RowKit

/-- A world in which the first state stands where the program has it. -/
def First (w : World) : Prop := 0 < w.heap.size ∧ ∀ i, i < 8 → w.cell? ⟨0, i, none⟩ = some (.int .u32 (st0.at i : Nat))

/-- The sum of bytes, as a text. -/
def shaS (l : List Nat) : ByteArray := strOfNums ((shaL l).map fun (x : Nat) => (x : Int))
/-- The zero mix. -/
def mixZ : List Value := [Value.bool false] ++ List.replicate 8 (Value.int .u32 0) ++ List.replicate 64 (Value.int .u8 0) ++ [Value.int .i64 0, Value.int .i64 0]
theorem mix_zero (w : World) : (zeroValue 69).run Tryz.prog w = .ok (.agg mixZ.toArray) w := (zero_of_info (n := 75) (by kernel_rfl)).1 w
theorem mix_info : (Tryz.prog.info? 69).map (·.size) = some 75 := by kernel_rfl

set_option maxRecDepth 10000 in
set_option maxHeartbeats 1000000 in
theorem start_any (w : World) (hf : First w) :
    Calls Tryz.prog 49 #[] w fun e w' => e = .returned (.agg (mixV st0 (List.replicate 64 (.int .u8 0)) 0 0).toArray) ∧ Below w.heap.size w w' := by
  have hlt := hf.1
  have c0 : w.cell? ⟨0, 0, none⟩ = some (.int .u32 (st0.a : Nat)) := hf.2 0 (by decide)
  have c1 : w.cell? ⟨0, 1, none⟩ = some (.int .u32 (st0.b : Nat)) := hf.2 1 (by decide)
  have c2 : w.cell? ⟨0, 2, none⟩ = some (.int .u32 (st0.c : Nat)) := hf.2 2 (by decide)
  have c3 : w.cell? ⟨0, 3, none⟩ = some (.int .u32 (st0.d : Nat)) := hf.2 3 (by decide)
  have c4 : w.cell? ⟨0, 4, none⟩ = some (.int .u32 (st0.e : Nat)) := hf.2 4 (by decide)
  have c5 : w.cell? ⟨0, 5, none⟩ = some (.int .u32 (st0.f : Nat)) := hf.2 5 (by decide)
  have c6 : w.cell? ⟨0, 6, none⟩ = some (.int .u32 (st0.g : Nat)) := hf.2 6 (by decide)
  have c7 : w.cell? ⟨0, 7, none⟩ = some (.int .u32 (st0.h : Nat)) := hf.2 7 (by decide)
  clear hf
  obtain ⟨zs, hzs⟩ : ∃ zs, zs = (mixZ).toArray := ⟨_, rfl⟩
  have hzv : ∀ w, (zeroValue 69).run Tryz.prog w = .ok (.agg zs) w := by rw [hzs]; exact mix_zero
  have hzn : zs.size = 75 := by rw [hzs]; rfl
  have hne : ¬ zs = #[] := fun h => by rw [h] at hzn; simp at hzn
  have hsm : ¬ zs.size < 9 := by omega
  obtain ⟨ms, hms⟩ : ∃ ms, ms = (mixV st0 (List.replicate 64 (.int .u8 0)) 0 0).toArray := ⟨_, rfl⟩
  have hset : ((((((((zs.setIfInBounds 0 (Value.bool true)).setIfInBounds 1 (Value.int .u32 (st0.a : Nat))).setIfInBounds 2 (Value.int .u32 (st0.b : Nat))).setIfInBounds 3 (Value.int .u32 (st0.c : Nat))).setIfInBounds 4 (Value.int .u32 (st0.d : Nat))).setIfInBounds 5 (Value.int .u32 (st0.e : Nat))).setIfInBounds 6 (Value.int .u32 (st0.f : Nat))).setIfInBounds 7 (Value.int .u32 (st0.g : Nat))).setIfInBounds 8 (Value.int .u32 (st0.h : Nat)) = ms := by rw [hms, hzs]; rfl
  have hmn : ms.size = 75 := by rw [hms]; rfl
  have hone : ms.all (·.oneCell') = true := by rw [hms]; simp [mixV, mixA, mixT, Value.oneCell']
  have HM : Hid (ms = (mixV st0 (List.replicate 64 (.int .u8 0)) 0 0).toArray) := hms
  have hinfo : (Tryz.prog.info? 69).map (·.size) = some ms.size := by rw [hmn]; exact mix_info
  have hs0 : zs.size = ms.size := by rw [hzn, hmn]
  have hl0 := run_loadVar_row (P := Tryz.prog) ((w.alloc (.cells zs 69)).setRow w.heap.size ms) w.heap.size 69 69 ms (0, 0) _ (setRow_heap _ _ _ _ _ _ (heap_alloc_new w _)) Tryz.underlying69 rfl hinfo
  have hba := below_rowH ((Below.refl _ _).alloc (Nat.le_refl _) (.cells zs 69)) (Nat.le_refl w.heap.size) ms
  clear hzs hms
  go_enter Tryz.func49, Tryz.ntmps49
  go_wp2_with (refine wpList_store_row rfl 69 _ _ rfl w.heap.size ms rfl rfl 69 _ (heap_alloc_new w _) hinfo hs0 hone ?_)
  exact bodyPost_ret (v := .agg ms) (by simp [results, Tryz.results49, asAddr, Act.put, hl0]) rfl ⟨by rw [HM.out], hba⟩

set_option maxRecDepth 10000 in
set_option maxHeartbeats 1000000 in
theorem told_short (B : Nat) (l : List Nat) (hb : Bytes l) (hl : l.length % 64 < 56) (hs : l.length < 1099511627776) (w : World) (hq : Cubes w) (hm : MixAt w B l l.length) :
    Calls Tryz.prog 64 #[.pointer (some ⟨B, 0, none⟩)] w fun e w' => e = .returned (.string (shaS l)) ∧ Below w.heap.size w w' := by
  obtain ⟨R, hR, hr⟩ := hm
  have c0 : w.cell? ⟨B, 0, none⟩ = some (.bool true) := hr.cell 0
  obtain ⟨cs, hcs⟩ : ∃ cs, cs = (mixV (absorb l (l.length / 64)) (byV (l.drop (64 * (l.length / 64))) ++ R) (l.length % 64) l.length).toArray := ⟨_, rfl⟩
  have hsz : cs.size = 75 := by
    have := mix_len l R hR
    rw [hcs, mixV]
    simp at this ⊢
    rw [mixT]; simp; omega
  have hk : w.heap[B]? = some (.cells cs 69 (0, 0)) := by rw [hcs]; exact hr
  have hinfo : (Tryz.prog.info? 69).map (·.size) = some cs.size := by rw [hsz]; exact mix_info
  have HCS : Hid (cs = (mixV (absorb l (l.length / 64)) (byV (l.drop (64 * (l.length / 64))) ++ R) (l.length % 64) l.length).toArray) := hcs
  obtain ⟨r0, R', rfl⟩ : ∃ r0 R', R = r0 :: R' := by
    cases R with
    | nil => simp at hR; omega
    | cons a b => exact ⟨a, b, rfl⟩
  have HFin := finish_small (absorb l (l.length / 64)) (absorb_ok _ _) (l.drop (64 * (l.length / 64))) (hb.drop _) (l.length % 64) l.length (by simp; omega) hl r0 R' (by simp at hR; omega) hs w hq
  rw [← sha_small l (l.length / 64) (l.length % 64) (by omega) hl, ← hcs] at HFin
  clear hcs hr HCS
  go_enter Tryz.func64, Tryz.ntmps64
  go_wp2_with (refine wpList_load_row rfl 69 _ rfl B rfl 69 _ (0, 0) _ hk Tryz.underlying69 rfl hinfo ?_)
  refine HFin.mono ?_
  rintro e w1 ⟨rfl, hb1⟩
  clear HFin hk c0 hinfo
  obtain ⟨ds, hds⟩ : ∃ ds, ds = (byV (shaL l)).toArray := ⟨_, rfl⟩
  have hsz2 : ds.size = 32 := by rw [hds]; simp [byV, shaL_length]
  have hone : ds.all (·.oneCell') = true := by rw [hds]; simp [byV, Value.oneCell']
  have hinfo : (Tryz.prog.info? 75).map (·.size) = some ds.size := by rw [hsz2]; kernel_rfl
  rw [← hds]
  have HDS : Hid (ds = (byV (shaL l)).toArray) := hds
  clear hds
  go_wp2_with (refine wpList_store_row rfl 75 _ _ rfl w1.heap.size ds rfl rfl 75 _ (heap_alloc_new w1 _) hinfo (by rw [hsz2]; rfl) hone ?_)
  rw [World.setRow_alloc_new]
  have k2 : Row (w1.alloc (.cells ds 75)) w1.heap.size 75 (byV (shaL l)) := by rw [HDS.out]; exact heap_alloc_new w1 _
  have hb2 := hb1.alloc hb1.size (.cells ds 75)
  generalize w1.alloc (.cells ds 75) = w2 at *
  have hcv := run_convert_bytes_arg (P := Tryz.prog) w2 55 5 Tryz.underlying55 Tryz.underlying5 w1.heap.size 0 32 32 ((shaL l).map fun (x : Nat) => (x : Int)) (by simp [shaL_length]) (fun i hi => by
    rw [Nat.zero_add, k2.cell, byV_get _ _ (by rw [shaL_length]; exact hi)]
    simp [List.getD, shaL_length, hi]) 9 Tryz.underlying9
  have HCV : Hid (strOfNums ((shaL l).map fun (x : Nat) => (x : Int)) = shaS l) := rfl
  rw [HCV.out] at hcv
  clear k2 hone hinfo hsz2
  go_wp2
  rw [hcv]
  go_wp2
  go_ret
  exact ⟨rfl, hb2⟩
end Go.Proofs.YtdhiopbomnfmnaaGreatDoor.Sm

namespace Go.Proofs.YtdhiopbomnfmnaaGreatDoor.Sm
set_option maxRecDepth 20000
open Go.RowKit

theorem First.below {w w' : World} (h : First w) {B : Nat} (hb : Below B w w') (hB : 0 < B) : First w' := ⟨Nat.lt_of_lt_of_le h.1 hb.size, fun i hi => (hb.cell (p := ⟨0, i, none⟩) hB).trans (h.2 i hi)⟩

set_option maxRecDepth 10000 in
set_option maxHeartbeats 1000000 in
theorem sum_short (s : ByteArray) (hs : s.size < 56) (w : World) (hf : First w) (hq : Cubes w) :
    Calls Tryz.prog 48 #[.string s] w fun e w' => e = .returned (.string (shaS (numsOf s))) ∧ Below w.heap.size w w' := by
  obtain ⟨zs, hzs⟩ : ∃ zs, zs = (mixZ).toArray := ⟨_, rfl⟩
  have hzv : ∀ w, (zeroValue 69).run Tryz.prog w = .ok (.agg zs) w := by rw [hzs]; exact mix_zero
  have hzn : zs.size = 75 := by rw [hzs]; rfl
  clear hzs
  obtain ⟨ms, hms⟩ : ∃ ms, ms = (mixV st0 (List.replicate 64 (.int .u8 0)) 0 0).toArray := ⟨_, rfl⟩
  have hmn : ms.size = 75 := by rw [hms]; rfl
  have hone : ms.all (·.oneCell') = true := by rw [hms]; simp [mixV, mixA, mixT, Value.oneCell']
  have HM : Hid (ms = (mixV st0 (List.replicate 64 (.int .u8 0)) 0 0).toArray) := hms
  have hst := start_any w hf
  rw [← hms] at hst
  clear hms
  have hinfo : (Tryz.prog.info? 69).map (·.size) = some ms.size := by rw [hmn]; exact mix_info
  have hs0 : zs.size = ms.size := by rw [hzn, hmn]
  go_enter Tryz.func48, Tryz.ntmps48
  go_wp2_with fail
  refine hst.mono ?_
  rintro e w1 ⟨rfl, hb1⟩
  clear hst
  go_wp2_with (refine wpList_store_row rfl 69 _ _ rfl w1.heap.size ms rfl rfl 69 _ (heap_alloc_new w1 _) hinfo hs0 hone ?_)
  have k2 : MixAt ((w1.alloc (.cells zs 69)).setRow w1.heap.size ms) w1.heap.size [] 0 := ⟨List.replicate 64 (.int .u8 0), rfl, by rw [World.setRow_alloc_new, HM.out]; exact heap_alloc_new w1 _⟩
  have hb2 := below_rowH (hb1.alloc hb1.size (.cells zs 69)) hb1.size ms
  generalize (w1.alloc (.cells zs 69)).setRow w1.heap.size ms = w2 at *
  clear hinfo hs0 hone hzv hzn hmn HM
  refine (feed_short w1.heap.size [] s (by simp; omega) (by simp; omega) w2 k2).mono ?_
  rintro e w3 ⟨rfl, k3, ho3⟩
  rw [List.nil_append] at k3
  have hl1 := hb1.size
  have hb3 : Below w.heap.size w w3 := hb2.trans ((ho3.below (by obtain ⟨R, hR, hr⟩ := k2; exact Nat.le_of_lt hr.lt)).mono hl1)
  clear k2 hb2 ho3 hb1
  go_wp2_with fail
  refine (told_short w1.heap.size (numsOf s) (numsOf_bytes s) (by rw [numsOf_length]; omega) (by rw [numsOf_length]; omega) w3 (hq.below hb3 hq.1) k3).mono ?_
  rintro e w4 ⟨rfl, hb4⟩
  have hb5 := hb3.trans (hb4.mono hb3.size)
  clear hb3 hb4 k3
  go_wp2
  go_ret
  exact ⟨rfl, hb5⟩

/-- What the sum of abc is, for the laws' own question. -/
theorem abc_facts : (shaS [97, 98, 99]).size = 32 ∧ (((shaS [97, 98, 99]).extract 0 4).toList == [186, 120, 22, 191]) = true ∧ (((shaS [97, 98, 99]).extract 28 32).toList == [242, 0, 21, 173]) = true := by
  unfold shaS
  rw [sha_abc]
  exact ⟨by decide, by rw [ByteArray.toList_eq, Lib.extract_data]; decide, by rw [ByteArray.toList_eq, Lib.extract_data]; decide⟩

theorem feed_nil (s : ByteArray) (w : World) :
    Calls Tryz.prog 50 #[.pointer none, .string s] w fun e w' => e = .returned (.tuple #[]) ∧ w' = w := by
  go_enter Tryz.func50, Tryz.ntmps50
  go_wp2
  exact bodyPost_ret (v := .tuple #[]) (by simp [results, Tryz.results50]) rfl ⟨rfl, rfl⟩
theorem feed_zero (B : Nat) (s : ByteArray) (w : World) (c0 : w.cell? ⟨B, 0, none⟩ = some (.bool false)) :
    Calls Tryz.prog 50 #[.pointer (some ⟨B, 0, none⟩), .string s] w fun e w' => e = .returned (.tuple #[]) ∧ w' = w := by
  go_enter Tryz.func50, Tryz.ntmps50
  go_wp2
  exact bodyPost_ret (v := .tuple #[]) (by simp [results, Tryz.results50]) rfl ⟨rfl, rfl⟩
theorem told_nil (w : World) :
    Calls Tryz.prog 64 #[.pointer none] w fun e w' => e = .returned (.string ⟨#[]⟩) ∧ w' = w := by
  go_enter Tryz.func64, Tryz.ntmps64
  go_wp2
  go_ret
  exact ⟨rfl, rfl⟩
theorem told_zero (B : Nat) (w : World) (c0 : w.cell? ⟨B, 0, none⟩ = some (.bool false)) :
    Calls Tryz.prog 64 #[.pointer (some ⟨B, 0, none⟩)] w fun e w' => e = .returned (.string ⟨#[]⟩) ∧ w' = w := by
  go_enter Tryz.func64, Tryz.ntmps64
  go_wp2
  go_ret
  exact ⟨rfl, rfl⟩
end Go.Proofs.YtdhiopbomnfmnaaGreatDoor.Sm

namespace Go.Proofs.YtdhiopbomnfmnaaGreatDoor.Sm
set_option maxRecDepth 20000
open Go.RowKit

theorem finish_any (l : List Nat) (hb : Bytes l) (R : List Value) (hR : R.length = 64 - l.length % 64) (hs : l.length < 1099511627776) (w : World) (hq : Cubes w) :
    Calls Tryz.prog 66 #[.agg (mixV (absorb l (l.length / 64)) (byV (l.drop (64 * (l.length / 64))) ++ R) (l.length % 64) l.length).toArray] w fun e w' => e = .returned (.agg (byV (shaL l)).toArray) ∧ Below w.heap.size w w' := by
  obtain ⟨r0, R', rfl⟩ : ∃ r0 R', R = r0 :: R' := by
    cases R with
    | nil => simp at hR; omega
    | cons a b => exact ⟨a, b, rfl⟩
  have hR' : R'.length = 63 - l.length % 64 := by simp at hR; omega
  have hd : (l.drop (64 * (l.length / 64))).length = l.length % 64 := by simp; omega
  by_cases h1 : l.length % 64 < 56
  · rw [sha_small l (l.length / 64) (l.length % 64) (by omega) h1]
    exact finish_small _ (absorb_ok _ _) _ (hb.drop _) _ _ hd h1 r0 R' hR' hs w hq
  · rw [sha_large l (l.length / 64) (l.length % 64) (by omega) (by omega) (by omega)]
    by_cases h2 : l.length % 64 < 63
    · exact finish_large _ (absorb_ok _ _) _ (hb.drop _) _ _ hd (by omega) h2 r0 R' hR' hs w hq
    · have h3 : l.length % 64 = 63 := by omega
      have h4 : R' = [] := List.eq_nil_of_length_eq_zero (by omega)
      subst h4
      rw [h3]
      exact finish_full _ (absorb_ok _ _) _ (hb.drop _) _ (by omega) r0 hs w hq

set_option maxRecDepth 10000 in
set_option maxHeartbeats 1000000 in
theorem told_any (B : Nat) (l : List Nat) (hb : Bytes l) (hs : l.length < 1099511627776) (w : World) (hq : Cubes w) (hm : MixAt w B l l.length) :
    Calls Tryz.prog 64 #[.pointer (some ⟨B, 0, none⟩)] w fun e w' => e = .returned (.string (shaS l)) ∧ Below w.heap.size w w' := by
  obtain ⟨R, hR, hr⟩ := hm
  have c0 : w.cell? ⟨B, 0, none⟩ = some (.bool true) := hr.cell 0
  obtain ⟨cs, hcs⟩ : ∃ cs, cs = (mixV (absorb l (l.length / 64)) (byV (l.drop (64 * (l.length / 64))) ++ R) (l.length % 64) l.length).toArray := ⟨_, rfl⟩
  have hsz : cs.size = 75 := by
    have := mix_len l R hR
    rw [hcs, mixV]
    simp at this ⊢
    rw [mixT]; simp; omega
  have hk : w.heap[B]? = some (.cells cs 69 (0, 0)) := by rw [hcs]; exact hr
  have hinfo : (Tryz.prog.info? 69).map (·.size) = some cs.size := by rw [hsz]; exact mix_info
  have HCS : Hid (cs = (mixV (absorb l (l.length / 64)) (byV (l.drop (64 * (l.length / 64))) ++ R) (l.length % 64) l.length).toArray) := hcs
  have HFin := finish_any l hb R hR hs w hq
  rw [← hcs] at HFin
  clear hcs hr HCS
  go_enter Tryz.func64, Tryz.ntmps64
  go_wp2_with (refine wpList_load_row rfl 69 _ rfl B rfl 69 _ (0, 0) _ hk Tryz.underlying69 rfl hinfo ?_)
  refine HFin.mono ?_
  rintro e w1 ⟨rfl, hb1⟩
  clear HFin hk c0 hinfo
  obtain ⟨ds, hds⟩ : ∃ ds, ds = (byV (shaL l)).toArray := ⟨_, rfl⟩
  have hsz2 : ds.size = 32 := by rw [hds]; simp [byV, shaL_length]
  have hone : ds.all (·.oneCell') = true := by rw [hds]; simp [byV, Value.oneCell']
  have hinfo : (Tryz.prog.info? 75).map (·.size) = some ds.size := by rw [hsz2]; kernel_rfl
  rw [← hds]
  have HDS : Hid (ds = (byV (shaL l)).toArray) := hds
  clear hds
  go_wp2_with (refine wpList_store_row rfl 75 _ _ rfl w1.heap.size ds rfl rfl 75 _ (heap_alloc_new w1 _) hinfo (by rw [hsz2]; rfl) hone ?_)
  rw [World.setRow_alloc_new]
  have k2 : Row (w1.alloc (.cells ds 75)) w1.heap.size 75 (byV (shaL l)) := by rw [HDS.out]; exact heap_alloc_new w1 _
  have hb2 := hb1.alloc hb1.size (.cells ds 75)
  generalize w1.alloc (.cells ds 75) = w2 at *
  have hcv := run_convert_bytes_arg (P := Tryz.prog) w2 55 5 Tryz.underlying55 Tryz.underlying5 w1.heap.size 0 32 32 ((shaL l).map fun (x : Nat) => (x : Int)) (by simp [shaL_length]) (fun i hi => by
    rw [Nat.zero_add, k2.cell, byV_get _ _ (by rw [shaL_length]; exact hi)]
    simp [List.getD, shaL_length, hi]) 9 Tryz.underlying9
  have HCV : Hid (strOfNums ((shaL l).map fun (x : Nat) => (x : Int)) = shaS l) := rfl
  rw [HCV.out] at hcv
  clear k2 hone hinfo hsz2
  go_wp2
  rw [hcv]
  go_wp2
  go_ret
  exact ⟨rfl, hb2⟩

set_option maxRecDepth 10000 in
set_option maxHeartbeats 1000000 in
theorem sum_any (s : ByteArray) (hs : s.size < 1099511627776) (w : World) (hf : First w) (hq : Cubes w) :
    Calls Tryz.prog 48 #[.string s] w fun e w' => e = .returned (.string (shaS (numsOf s))) ∧ Below w.heap.size w w' := by
  obtain ⟨zs, hzs⟩ : ∃ zs, zs = (mixZ).toArray := ⟨_, rfl⟩
  have hzv : ∀ w, (zeroValue 69).run Tryz.prog w = .ok (.agg zs) w := by rw [hzs]; exact mix_zero
  have hzn : zs.size = 75 := by rw [hzs]; rfl
  clear hzs
  obtain ⟨ms, hms⟩ : ∃ ms, ms = (mixV st0 (List.replicate 64 (.int .u8 0)) 0 0).toArray := ⟨_, rfl⟩
  have hmn : ms.size = 75 := by rw [hms]; rfl
  have hone : ms.all (·.oneCell') = true := by rw [hms]; simp [mixV, mixA, mixT, Value.oneCell']
  have HM : Hid (ms = (mixV st0 (List.replicate 64 (.int .u8 0)) 0 0).toArray) := hms
  have hst := start_any w hf
  rw [← hms] at hst
  clear hms
  have hinfo : (Tryz.prog.info? 69).map (·.size) = some ms.size := by rw [hmn]; exact mix_info
  have hs0 : zs.size = ms.size := by rw [hzn, hmn]
  go_enter Tryz.func48, Tryz.ntmps48
  go_wp2_with fail
  refine hst.mono ?_
  rintro e w1 ⟨rfl, hb1⟩
  clear hst
  go_wp2_with (refine wpList_store_row rfl 69 _ _ rfl w1.heap.size ms rfl rfl 69 _ (heap_alloc_new w1 _) hinfo hs0 hone ?_)
  have k2 : MixAt ((w1.alloc (.cells zs 69)).setRow w1.heap.size ms) w1.heap.size [] 0 := ⟨List.replicate 64 (.int .u8 0), rfl, by rw [World.setRow_alloc_new, HM.out]; exact heap_alloc_new w1 _⟩
  have hb2 := below_rowH (hb1.alloc hb1.size (.cells zs 69)) hb1.size ms
  generalize (w1.alloc (.cells zs 69)).setRow w1.heap.size ms = w2 at *
  clear hinfo hs0 hone hzv hzn hmn HM
  refine (feed_any w1.heap.size [] (fun x hx => by simp at hx) s (by simpa using hs) w2 (hq.below hb2 hq.1) (by have := hq.1; have := hb1.size; omega) k2).mono ?_
  rintro e w3 ⟨rfl, k3, ho3⟩
  rw [List.nil_append] at k3
  have hl1 := hb1.size
  have hb3 : Below w.heap.size w w3 := hb2.trans ((ho3.below (by obtain ⟨R, hR, hr⟩ := k2; exact Nat.le_of_lt hr.lt)).mono hl1)
  clear k2 hb2 ho3 hb1
  go_wp2_with fail
  refine (told_any w1.heap.size (numsOf s) (numsOf_bytes s) (by rw [numsOf_length]; omega) w3 (hq.below hb3 hq.1) k3).mono ?_
  rintro e w4 ⟨rfl, hb4⟩
  have hb5 := hb3.trans (hb4.mono hb3.size)
  clear hb3 hb4 k3
  go_wp2
  go_ret
  exact ⟨rfl, hb5⟩

end Go.Proofs.YtdhiopbomnfmnaaGreatDoor.Sm
