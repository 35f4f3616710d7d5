/- sum.start, Told and Sum of a short text. · sum.Sum of a short text is the text's sum; so the laws' awake tells true; and a mix that New did not give takes nothing and tells nothing. · sum.finish, Told and Sum, whatever the bytes. · sum.keyOf: the two mixes that have taken a key. -/
import Derived.Test.YtoopaigpjefonaaGreatDoorMg28
import Derived.Test.YtoopaigpjefonaaGreatDoorMg30
import Derived.Test.YtoopaigpjefonaaGreatDoorMg29
import Derived.Deep.MidRow
namespace Go.Proofs.YtoopaigpjefonaaGreatDoor.Sm
set_option maxRecDepth 20000
open Go.RowKit

/-- A world in which the first state stands where the program has it. -/
def First (w : World) : Prop := 0 < w.heap.size ∧ ∀ i, i < 8 → w.cell? ⟨0, i, none⟩ = some (.int .u32 (st0.at i : Nat))

/-- The sum of bytes, as a text. -/
def shaS (l : List Nat) : ByteArray := strOfNums ((shaL l).map fun (x : Nat) => (x : Int))
/-- The zero mix. -/
def mixZ : List Value := [Value.bool false] ++ List.replicate 8 (Value.int .u32 0) ++ List.replicate 64 (Value.int .u8 0) ++ [Value.int .i64 0, Value.int .i64 0]
theorem mix_zero (w : World) : (zeroValue 166).run Tryz.prog w = .ok (.agg mixZ.toArray) w := (zero_of_info (n := 75) (by kernel_rfl)).1 w
theorem mix_info : (Tryz.prog.info? 166).map (·.size) = some 75 := by kernel_rfl

set_option maxRecDepth 10000 in
set_option maxHeartbeats 1000000 in
theorem start_any (w : World) (hf : First w) :
    Calls Tryz.prog 125 #[] w fun e w' => e = .returned (.agg (mixV st0 (List.replicate 64 (.int .u8 0)) 0 0).toArray) ∧ Below w.heap.size w w' := by
  have hlt := hf.1
  have c0 : w.cell? ⟨0, 0, none⟩ = some (.int .u32 (st0.a : Nat)) := hf.2 0 (by decide)
  have c1 : w.cell? ⟨0, 1, none⟩ = some (.int .u32 (st0.b : Nat)) := hf.2 1 (by decide)
  have c2 : w.cell? ⟨0, 2, none⟩ = some (.int .u32 (st0.c : Nat)) := hf.2 2 (by decide)
  have c3 : w.cell? ⟨0, 3, none⟩ = some (.int .u32 (st0.d : Nat)) := hf.2 3 (by decide)
  have c4 : w.cell? ⟨0, 4, none⟩ = some (.int .u32 (st0.e : Nat)) := hf.2 4 (by decide)
  have c5 : w.cell? ⟨0, 5, none⟩ = some (.int .u32 (st0.f : Nat)) := hf.2 5 (by decide)
  have c6 : w.cell? ⟨0, 6, none⟩ = some (.int .u32 (st0.g : Nat)) := hf.2 6 (by decide)
  have c7 : w.cell? ⟨0, 7, none⟩ = some (.int .u32 (st0.h : Nat)) := hf.2 7 (by decide)
  clear hf
  obtain ⟨zs, hzs⟩ : ∃ zs, zs = (mixZ).toArray := ⟨_, rfl⟩
  have hzv : ∀ w, (zeroValue 166).run Tryz.prog w = .ok (.agg zs) w := by rw [hzs]; exact mix_zero
  have hzn : zs.size = 75 := by rw [hzs]; rfl
  have hne : ¬ zs = #[] := fun h => by rw [h] at hzn; simp at hzn
  have hsm : ¬ zs.size < 9 := by omega
  obtain ⟨ms, hms⟩ : ∃ ms, ms = (mixV st0 (List.replicate 64 (.int .u8 0)) 0 0).toArray := ⟨_, rfl⟩
  have hset : ((((((((zs.setIfInBounds 0 (Value.bool true)).setIfInBounds 1 (Value.int .u32 (st0.a : Nat))).setIfInBounds 2 (Value.int .u32 (st0.b : Nat))).setIfInBounds 3 (Value.int .u32 (st0.c : Nat))).setIfInBounds 4 (Value.int .u32 (st0.d : Nat))).setIfInBounds 5 (Value.int .u32 (st0.e : Nat))).setIfInBounds 6 (Value.int .u32 (st0.f : Nat))).setIfInBounds 7 (Value.int .u32 (st0.g : Nat))).setIfInBounds 8 (Value.int .u32 (st0.h : Nat)) = ms := by rw [hms, hzs]; rfl
  have hmn : ms.size = 75 := by rw [hms]; rfl
  have hone : ms.all (·.oneCell') = true := by rw [hms]; simp [mixV, mixA, mixT, Value.oneCell']
  have HM : Hid (ms = (mixV st0 (List.replicate 64 (.int .u8 0)) 0 0).toArray) := hms
  have hinfo : (Tryz.prog.info? 166).map (·.size) = some ms.size := by rw [hmn]; exact mix_info
  have hs0 : zs.size = ms.size := by rw [hzn, hmn]
  have hl0 := run_loadVar_row (P := Tryz.prog) ((w.alloc (.cells zs 166)).setRow w.heap.size ms) w.heap.size 166 166 ms (0, 0) _ (setRow_heap _ _ _ _ _ _ (heap_alloc_new w _)) Tryz.underlying166 rfl hinfo
  have hba := below_rowH ((Below.refl _ _).alloc (Nat.le_refl _) (.cells zs 166)) (Nat.le_refl w.heap.size) ms
  clear hzs hms
  go_enter Tryz.func125, Tryz.ntmps125
  go_wp2_with (refine wpList_store_row rfl 166 _ _ rfl w.heap.size ms rfl rfl 166 _ (heap_alloc_new w _) hinfo hs0 hone ?_)
  exact bodyPost_ret (v := .agg ms) (by simp [results, Tryz.results125, asAddr, Act.put, hl0]) rfl ⟨by rw [HM.out], hba⟩

set_option maxRecDepth 10000 in
set_option maxHeartbeats 1000000 in
theorem told_short (B : Nat) (l : List Nat) (hb : Bytes l) (hl : l.length % 64 < 56) (hs : l.length < 1099511627776) (w : World) (hq : Cubes w) (hm : MixAt w B l l.length) :
    Calls Tryz.prog 155 #[.pointer (some ⟨B, 0, none⟩)] w fun e w' => e = .returned (.string (shaS l)) ∧ Below w.heap.size w w' := by
  obtain ⟨R, hR, hr⟩ := hm
  have c0 : w.cell? ⟨B, 0, none⟩ = some (.bool true) := hr.cell 0
  obtain ⟨cs, hcs⟩ : ∃ cs, cs = (mixV (absorb l (l.length / 64)) (byV (l.drop (64 * (l.length / 64))) ++ R) (l.length % 64) l.length).toArray := ⟨_, rfl⟩
  have hsz : cs.size = 75 := by
    have := mix_len l R hR
    rw [hcs, mixV]
    simp at this ⊢
    rw [mixT]; simp; omega
  have hk : w.heap[B]? = some (.cells cs 166 (0, 0)) := by rw [hcs]; exact hr
  have hinfo : (Tryz.prog.info? 166).map (·.size) = some cs.size := by rw [hsz]; exact mix_info
  have HCS : Hid (cs = (mixV (absorb l (l.length / 64)) (byV (l.drop (64 * (l.length / 64))) ++ R) (l.length % 64) l.length).toArray) := hcs
  obtain ⟨r0, R', rfl⟩ : ∃ r0 R', R = r0 :: R' := by
    cases R with
    | nil => simp at hR; omega
    | cons a b => exact ⟨a, b, rfl⟩
  have HFin := finish_small (absorb l (l.length / 64)) (absorb_ok _ _) (l.drop (64 * (l.length / 64))) (hb.drop _) (l.length % 64) l.length (by simp; omega) hl r0 R' (by simp at hR; omega) hs w hq
  rw [← sha_small l (l.length / 64) (l.length % 64) (by omega) hl, ← hcs] at HFin
  clear hcs hr HCS
  go_enter Tryz.func155, Tryz.ntmps155
  go_wp2_with (refine wpList_load_row rfl 166 _ rfl B rfl 166 _ (0, 0) _ hk Tryz.underlying166 rfl hinfo ?_)
  refine HFin.mono ?_
  rintro e w1 ⟨rfl, hb1⟩
  clear HFin hk c0 hinfo
  obtain ⟨ds, hds⟩ : ∃ ds, ds = (byV (shaL l)).toArray := ⟨_, rfl⟩
  have hsz2 : ds.size = 32 := by rw [hds]; simp [byV, shaL_length]
  have hone : ds.all (·.oneCell') = true := by rw [hds]; simp [byV, Value.oneCell']
  have hinfo : (Tryz.prog.info? 172).map (·.size) = some ds.size := by rw [hsz2]; kernel_rfl
  rw [← hds]
  have HDS : Hid (ds = (byV (shaL l)).toArray) := hds
  clear hds
  go_wp2_with (refine wpList_store_row rfl 172 _ _ rfl w1.heap.size ds rfl rfl 172 _ (heap_alloc_new w1 _) hinfo (by rw [hsz2]; rfl) hone ?_)
  rw [World.setRow_alloc_new]
  have k2 : Row (w1.alloc (.cells ds 172)) w1.heap.size 172 (byV (shaL l)) := by rw [HDS.out]; exact heap_alloc_new w1 _
  have hb2 := hb1.alloc hb1.size (.cells ds 172)
  generalize w1.alloc (.cells ds 172) = w2 at *
  have hcv := run_convert_bytes_arg (P := Tryz.prog) w2 143 5 Tryz.underlying143 Tryz.underlying5 w1.heap.size 0 32 32 ((shaL l).map fun (x : Nat) => (x : Int)) (by simp [shaL_length]) (fun i hi => by
    rw [Nat.zero_add, k2.cell, byV_get _ _ (by rw [shaL_length]; exact hi)]
    simp [List.getD, shaL_length, hi]) 9 Tryz.underlying9
  have HCV : Hid (strOfNums ((shaL l).map fun (x : Nat) => (x : Int)) = shaS l) := rfl
  rw [HCV.out] at hcv
  clear k2 hone hinfo hsz2
  go_wp2
  rw [hcv]
  go_wp2
  go_ret
  exact ⟨rfl, hb2⟩
end Go.Proofs.YtoopaigpjefonaaGreatDoor.Sm

namespace Go.Proofs.YtoopaigpjefonaaGreatDoor.Sm
set_option maxRecDepth 20000
open Go.RowKit

theorem First.below {w w' : World} (h : First w) {B : Nat} (hb : Below B w w') (hB : 0 < B) : First w' := ⟨Nat.lt_of_lt_of_le h.1 hb.size, fun i hi => (hb.cell (p := ⟨0, i, none⟩) hB).trans (h.2 i hi)⟩

set_option maxRecDepth 10000 in
set_option maxHeartbeats 1000000 in
theorem sum_short (s : ByteArray) (hs : s.size < 56) (w : World) (hf : First w) (hq : Cubes w) :
    Calls Tryz.prog 124 #[.string s] w fun e w' => e = .returned (.string (shaS (numsOf s))) ∧ Below w.heap.size w w' := by
  obtain ⟨zs, hzs⟩ : ∃ zs, zs = (mixZ).toArray := ⟨_, rfl⟩
  have hzv : ∀ w, (zeroValue 166).run Tryz.prog w = .ok (.agg zs) w := by rw [hzs]; exact mix_zero
  have hzn : zs.size = 75 := by rw [hzs]; rfl
  clear hzs
  obtain ⟨ms, hms⟩ : ∃ ms, ms = (mixV st0 (List.replicate 64 (.int .u8 0)) 0 0).toArray := ⟨_, rfl⟩
  have hmn : ms.size = 75 := by rw [hms]; rfl
  have hone : ms.all (·.oneCell') = true := by rw [hms]; simp [mixV, mixA, mixT, Value.oneCell']
  have HM : Hid (ms = (mixV st0 (List.replicate 64 (.int .u8 0)) 0 0).toArray) := hms
  have hst := start_any w hf
  rw [← hms] at hst
  clear hms
  have hinfo : (Tryz.prog.info? 166).map (·.size) = some ms.size := by rw [hmn]; exact mix_info
  have hs0 : zs.size = ms.size := by rw [hzn, hmn]
  go_enter Tryz.func124, Tryz.ntmps124
  go_wp2_with fail
  refine hst.mono ?_
  rintro e w1 ⟨rfl, hb1⟩
  clear hst
  go_wp2_with (refine wpList_store_row rfl 166 _ _ rfl w1.heap.size ms rfl rfl 166 _ (heap_alloc_new w1 _) hinfo hs0 hone ?_)
  have k2 : MixAt ((w1.alloc (.cells zs 166)).setRow w1.heap.size ms) w1.heap.size [] 0 := ⟨List.replicate 64 (.int .u8 0), rfl, by rw [World.setRow_alloc_new, HM.out]; exact heap_alloc_new w1 _⟩
  have hb2 := below_rowH (hb1.alloc hb1.size (.cells zs 166)) hb1.size ms
  generalize (w1.alloc (.cells zs 166)).setRow w1.heap.size ms = w2 at *
  clear hinfo hs0 hone hzv hzn hmn HM
  refine (feed_short w1.heap.size [] s (by simp; omega) (by simp; omega) w2 k2).mono ?_
  rintro e w3 ⟨rfl, k3, ho3⟩
  rw [List.nil_append] at k3
  have hl1 := hb1.size
  have hb3 : Below w.heap.size w w3 := hb2.trans ((ho3.below (by obtain ⟨R, hR, hr⟩ := k2; exact Nat.le_of_lt hr.lt)).mono hl1)
  clear k2 hb2 ho3 hb1
  go_wp2_with fail
  refine (told_short w1.heap.size (numsOf s) (numsOf_bytes s) (by rw [numsOf_length]; omega) (by rw [numsOf_length]; omega) w3 (hq.below hb3 hq.1) k3).mono ?_
  rintro e w4 ⟨rfl, hb4⟩
  have hb5 := hb3.trans (hb4.mono hb3.size)
  clear hb3 hb4 k3
  go_wp2
  go_ret
  exact ⟨rfl, hb5⟩

/-- What the sum of abc is, for the laws' own question. -/
theorem abc_facts : (shaS [97, 98, 99]).size = 32 ∧ (((shaS [97, 98, 99]).extract 0 4).toList == [186, 120, 22, 191]) = true ∧ (((shaS [97, 98, 99]).extract 28 32).toList == [242, 0, 21, 173]) = true := by
  unfold shaS
  rw [sha_abc]
  exact ⟨by decide, by rw [ByteArray.toList_eq, Lib.extract_data]; decide, by rw [ByteArray.toList_eq, Lib.extract_data]; decide⟩

theorem feed_nil (s : ByteArray) (w : World) :
    Calls Tryz.prog 126 #[.pointer none, .string s] w fun e w' => e = .returned (.tuple #[]) ∧ w' = w := by
  go_enter Tryz.func126, Tryz.ntmps126
  go_wp2
  exact bodyPost_ret (v := .tuple #[]) (by simp [results, Tryz.results126]) rfl ⟨rfl, rfl⟩
theorem feed_zero (B : Nat) (s : ByteArray) (w : World) (c0 : w.cell? ⟨B, 0, none⟩ = some (.bool false)) :
    Calls Tryz.prog 126 #[.pointer (some ⟨B, 0, none⟩), .string s] w fun e w' => e = .returned (.tuple #[]) ∧ w' = w := by
  go_enter Tryz.func126, Tryz.ntmps126
  go_wp2
  exact bodyPost_ret (v := .tuple #[]) (by simp [results, Tryz.results126]) rfl ⟨rfl, rfl⟩
theorem told_nil (w : World) :
    Calls Tryz.prog 155 #[.pointer none] w fun e w' => e = .returned (.string ⟨#[]⟩) ∧ w' = w := by
  go_enter Tryz.func155, Tryz.ntmps155
  go_wp2
  go_ret
  exact ⟨rfl, rfl⟩
theorem told_zero (B : Nat) (w : World) (c0 : w.cell? ⟨B, 0, none⟩ = some (.bool false)) :
    Calls Tryz.prog 155 #[.pointer (some ⟨B, 0, none⟩)] w fun e w' => e = .returned (.string ⟨#[]⟩) ∧ w' = w := by
  go_enter Tryz.func155, Tryz.ntmps155
  go_wp2
  go_ret
  exact ⟨rfl, rfl⟩
end Go.Proofs.YtoopaigpjefonaaGreatDoor.Sm

namespace Go.Proofs.YtoopaigpjefonaaGreatDoor.Sm
set_option maxRecDepth 20000
open Go.RowKit

theorem finish_any (l : List Nat) (hb : Bytes l) (R : List Value) (hR : R.length = 64 - l.length % 64) (hs : l.length < 1099511627776) (w : World) (hq : Cubes w) :
    Calls Tryz.prog 157 #[.agg (mixV (absorb l (l.length / 64)) (byV (l.drop (64 * (l.length / 64))) ++ R) (l.length % 64) l.length).toArray] w fun e w' => e = .returned (.agg (byV (shaL l)).toArray) ∧ Below w.heap.size w w' := by
  obtain ⟨r0, R', rfl⟩ : ∃ r0 R', R = r0 :: R' := by
    cases R with
    | nil => simp at hR; omega
    | cons a b => exact ⟨a, b, rfl⟩
  have hR' : R'.length = 63 - l.length % 64 := by simp at hR; omega
  have hd : (l.drop (64 * (l.length / 64))).length = l.length % 64 := by simp; omega
  by_cases h1 : l.length % 64 < 56
  · rw [sha_small l (l.length / 64) (l.length % 64) (by omega) h1]
    exact finish_small _ (absorb_ok _ _) _ (hb.drop _) _ _ hd h1 r0 R' hR' hs w hq
  · rw [sha_large l (l.length / 64) (l.length % 64) (by omega) (by omega) (by omega)]
    by_cases h2 : l.length % 64 < 63
    · exact finish_large _ (absorb_ok _ _) _ (hb.drop _) _ _ hd (by omega) h2 r0 R' hR' hs w hq
    · have h3 : l.length % 64 = 63 := by omega
      have h4 : R' = [] := List.eq_nil_of_length_eq_zero (by omega)
      subst h4
      rw [h3]
      exact finish_full _ (absorb_ok _ _) _ (hb.drop _) _ (by omega) r0 hs w hq

set_option maxRecDepth 10000 in
set_option maxHeartbeats 1000000 in
theorem told_any (B : Nat) (l : List Nat) (hb : Bytes l) (hs : l.length < 1099511627776) (w : World) (hq : Cubes w) (hm : MixAt w B l l.length) :
    Calls Tryz.prog 155 #[.pointer (some ⟨B, 0, none⟩)] w fun e w' => e = .returned (.string (shaS l)) ∧ Below w.heap.size w w' := by
  obtain ⟨R, hR, hr⟩ := hm
  have c0 : w.cell? ⟨B, 0, none⟩ = some (.bool true) := hr.cell 0
  obtain ⟨cs, hcs⟩ : ∃ cs, cs = (mixV (absorb l (l.length / 64)) (byV (l.drop (64 * (l.length / 64))) ++ R) (l.length % 64) l.length).toArray := ⟨_, rfl⟩
  have hsz : cs.size = 75 := by
    have := mix_len l R hR
    rw [hcs, mixV]
    simp at this ⊢
    rw [mixT]; simp; omega
  have hk : w.heap[B]? = some (.cells cs 166 (0, 0)) := by rw [hcs]; exact hr
  have hinfo : (Tryz.prog.info? 166).map (·.size) = some cs.size := by rw [hsz]; exact mix_info
  have HCS : Hid (cs = (mixV (absorb l (l.length / 64)) (byV (l.drop (64 * (l.length / 64))) ++ R) (l.length % 64) l.length).toArray) := hcs
  have HFin := finish_any l hb R hR hs w hq
  rw [← hcs] at HFin
  clear hcs hr HCS
  go_enter Tryz.func155, Tryz.ntmps155
  go_wp2_with (refine wpList_load_row rfl 166 _ rfl B rfl 166 _ (0, 0) _ hk Tryz.underlying166 rfl hinfo ?_)
  refine HFin.mono ?_
  rintro e w1 ⟨rfl, hb1⟩
  clear HFin hk c0 hinfo
  obtain ⟨ds, hds⟩ : ∃ ds, ds = (byV (shaL l)).toArray := ⟨_, rfl⟩
  have hsz2 : ds.size = 32 := by rw [hds]; simp [byV, shaL_length]
  have hone : ds.all (·.oneCell') = true := by rw [hds]; simp [byV, Value.oneCell']
  have hinfo : (Tryz.prog.info? 172).map (·.size) = some ds.size := by rw [hsz2]; kernel_rfl
  rw [← hds]
  have HDS : Hid (ds = (byV (shaL l)).toArray) := hds
  clear hds
  go_wp2_with (refine wpList_store_row rfl 172 _ _ rfl w1.heap.size ds rfl rfl 172 _ (heap_alloc_new w1 _) hinfo (by rw [hsz2]; rfl) hone ?_)
  rw [World.setRow_alloc_new]
  have k2 : Row (w1.alloc (.cells ds 172)) w1.heap.size 172 (byV (shaL l)) := by rw [HDS.out]; exact heap_alloc_new w1 _
  have hb2 := hb1.alloc hb1.size (.cells ds 172)
  generalize w1.alloc (.cells ds 172) = w2 at *
  have hcv := run_convert_bytes_arg (P := Tryz.prog) w2 143 5 Tryz.underlying143 Tryz.underlying5 w1.heap.size 0 32 32 ((shaL l).map fun (x : Nat) => (x : Int)) (by simp [shaL_length]) (fun i hi => by
    rw [Nat.zero_add, k2.cell, byV_get _ _ (by rw [shaL_length]; exact hi)]
    simp [List.getD, shaL_length, hi]) 9 Tryz.underlying9
  have HCV : Hid (strOfNums ((shaL l).map fun (x : Nat) => (x : Int)) = shaS l) := rfl
  rw [HCV.out] at hcv
  clear k2 hone hinfo hsz2
  go_wp2
  rw [hcv]
  go_wp2
  go_ret
  exact ⟨rfl, hb2⟩

set_option maxRecDepth 10000 in
set_option maxHeartbeats 1000000 in
theorem sum_any (s : ByteArray) (hs : s.size < 1099511627776) (w : World) (hf : First w) (hq : Cubes w) :
    Calls Tryz.prog 124 #[.string s] w fun e w' => e = .returned (.string (shaS (numsOf s))) ∧ Below w.heap.size w w' := by
  obtain ⟨zs, hzs⟩ : ∃ zs, zs = (mixZ).toArray := ⟨_, rfl⟩
  have hzv : ∀ w, (zeroValue 166).run Tryz.prog w = .ok (.agg zs) w := by rw [hzs]; exact mix_zero
  have hzn : zs.size = 75 := by rw [hzs]; rfl
  clear hzs
  obtain ⟨ms, hms⟩ : ∃ ms, ms = (mixV st0 (List.replicate 64 (.int .u8 0)) 0 0).toArray := ⟨_, rfl⟩
  have hmn : ms.size = 75 := by rw [hms]; rfl
  have hone : ms.all (·.oneCell') = true := by rw [hms]; simp [mixV, mixA, mixT, Value.oneCell']
  have HM : Hid (ms = (mixV st0 (List.replicate 64 (.int .u8 0)) 0 0).toArray) := hms
  have hst := start_any w hf
  rw [← hms] at hst
  clear hms
  have hinfo : (Tryz.prog.info? 166).map (·.size) = some ms.size := by rw [hmn]; exact mix_info
  have hs0 : zs.size = ms.size := by rw [hzn, hmn]
  go_enter Tryz.func124, Tryz.ntmps124
  go_wp2_with fail
  refine hst.mono ?_
  rintro e w1 ⟨rfl, hb1⟩
  clear hst
  go_wp2_with (refine wpList_store_row rfl 166 _ _ rfl w1.heap.size ms rfl rfl 166 _ (heap_alloc_new w1 _) hinfo hs0 hone ?_)
  have k2 : MixAt ((w1.alloc (.cells zs 166)).setRow w1.heap.size ms) w1.heap.size [] 0 := ⟨List.replicate 64 (.int .u8 0), rfl, by rw [World.setRow_alloc_new, HM.out]; exact heap_alloc_new w1 _⟩
  have hb2 := below_rowH (hb1.alloc hb1.size (.cells zs 166)) hb1.size ms
  generalize (w1.alloc (.cells zs 166)).setRow w1.heap.size ms = w2 at *
  clear hinfo hs0 hone hzv hzn hmn HM
  refine (feed_any w1.heap.size [] (fun x hx => by simp at hx) s (by simpa using hs) w2 (hq.below hb2 hq.1) (by have := hq.1; have := hb1.size; omega) k2).mono ?_
  rintro e w3 ⟨rfl, k3, ho3⟩
  rw [List.nil_append] at k3
  have hl1 := hb1.size
  have hb3 : Below w.heap.size w w3 := hb2.trans ((ho3.below (by obtain ⟨R, hR, hr⟩ := k2; exact Nat.le_of_lt hr.lt)).mono hl1)
  clear k2 hb2 ho3 hb1
  go_wp2_with fail
  refine (told_any w1.heap.size (numsOf s) (numsOf_bytes s) (by rw [numsOf_length]; omega) w3 (hq.below hb3 hq.1) k3).mono ?_
  rintro e w4 ⟨rfl, hb4⟩
  have hb5 := hb3.trans (hb4.mono hb3.size)
  clear hb3 hb4 k3
  go_wp2
  go_ret
  exact ⟨rfl, hb5⟩

end Go.Proofs.YtoopaigpjefonaaGreatDoor.Sm

namespace Go.Proofs.YtoopaigpjefonaaGreatDoor.Sm
set_option maxRecDepth 20000
open Go.RowKit

/-- A key of up to 64 bytes, filled up with noughts. -/
def padK (k : List Nat) : List Nat := k ++ List.replicate (64 - k.length) 0
def xorL (c : Nat) (l : List Nat) : List Nat := l.map (· ^^^ c)
theorem padK_length (k : List Nat) (h : k.length ≤ 64) : (padK k).length = 64 := by simp [padK]; omega
theorem padK_bytes {k : List Nat} (h : Bytes k) : Bytes (padK k) := h.append (Bytes.zeros _)
theorem xorL_length (c : Nat) (l : List Nat) : (xorL c l).length = l.length := by simp [xorL]
theorem xorL_bytes {c : Nat} {l : List Nat} (hc : c < 256) (h : Bytes l) : Bytes (xorL c l) := fun x hx => by
  obtain ⟨y, hy, rfl⟩ := List.mem_map.1 hx
  exact Nat.xor_lt_two_pow (n := 8) (h y hy) hc
theorem u8_xor_nat (a b : Nat) (ha : a < 256) (hb : b < 256) : bits .xor .u8 (a : Int) (b : Int) = ((a ^^^ b : Nat) : Int) := by
  have hx : a ^^^ b < 2 ^ 8 := Nat.xor_lt_two_pow ha hb
  show IntKind.u8.wrap ((BitVec.ofInt 8 (a : Int) ^^^ BitVec.ofInt 8 (b : Int)).toNat : Int) = _
  rw [BitVec.toNat_xor, BitVec.ofInt_natCast, BitVec.ofInt_natCast, BitVec.toNat_ofNat, BitVec.toNat_ofNat, Nat.mod_eq_of_lt ha, Nat.mod_eq_of_lt hb, IntKind.wrap_u8]
  have h2 : a ^^^ b < 256 := hx
  omega

theorem xorRow {w : World} {g : Nat} {t : TypeId} {K : List Nat} {c j : Nat} (h : Row w g t (byV (xorL c (K.take j) ++ K.drop j))) (hl : K.length = 64) (hj : j < 64) : Row w g t (byV (xorL c (K.take j)) ++ [.int .u8 (K.getD j 0 : Nat)] ++ byV (K.drop (j + 1))) := by
  have e : K.drop j = K.getD j 0 :: K.drop (j + 1) := by
    rw [List.drop_eq_getElem_cons (by omega), getD_at _ _ (by omega)]
  rw [byV_append, e] at h
  have e2 : byV (K.getD j 0 :: K.drop (j + 1)) = [.int .u8 (K.getD j 0 : Nat)] ++ byV (K.drop (j + 1)) := rfl
  rw [e2, ← List.append_assoc] at h
  exact h
theorem xorStep (K : List Nat) (j b b1 c : Nat) (hl : K.length = 64) (hj : j < 64) (hb : b = K.getD j 0) (h1 : b1 = b ^^^ c) : byV (xorL c (K.take j)) ++ [.int .u8 (b1 : Nat)] ++ byV (K.drop (j + 1)) = byV (xorL c (K.take (j + 1)) ++ K.drop (j + 1)) := by
  rw [List.take_succ_eq_append_getElem (by omega), xorL, xorL, List.map_append, byV_append, byV_append, h1, hb, getD_at _ _ (by omega)]
  rfl
/-- A new mix's cells. -/
def mix0 : List Value := mixV st0 (List.replicate 64 (.int .u8 0)) 0 0
set_option maxRecDepth 100000 in
theorem fold_one : Array.foldl (fun cs x => cs.setIfInBounds x.snd x.fst) (mixZ ++ mixZ).toArray ((mixV st0 (List.replicate 64 (.int .u8 0)) 0 0).toArray).zipIdx 0 75 = (mix0 ++ mixZ).toArray := by kernel_rfl
set_option maxRecDepth 100000 in
theorem fold_two : Array.foldl (fun cs x => cs.setIfInBounds (75 + x.snd) x.fst) (mix0 ++ mixZ).toArray ((mixV st0 (List.replicate 64 (.int .u8 0)) 0 0).toArray).zipIdx 0 75 = (mix0 ++ mix0).toArray := by kernel_rfl
theorem mix0_one : ((mix0 ++ mix0).toArray).all (·.oneCell') = true := by kernel_rfl
theorem numsOf_str (l : List Nat) (h : Bytes l) : numsOf (strOfNums (l.map fun (x : Nat) => (x : Int))) = l := by
  unfold numsOf strOfNums
  rw [List.map_map, List.map_map]
  conv => rhs; rw [← List.map_id l]
  refine List.map_congr_left fun x hx => ?_
  have hx := h x hx
  simp
  omega
theorem bytes_text (w : World) (g : Nat) (t : TypeId) (l : List Nat) (hl : l.length = 64) (hr : Row w g t (byV l)) : (convert 143 9 (.slice (some ⟨g, 0, none⟩) 64 64)).run Tryz.prog w = .ok (.string (strOfNums (l.map fun (x : Nat) => (x : Int)))) w :=
  run_convert_bytes_arg (P := Tryz.prog) w 143 5 Tryz.underlying143 Tryz.underlying5 g 0 64 64 (l.map fun (x : Nat) => (x : Int)) (by simp [hl]) (fun i hi => by
    rw [Nat.zero_add, hr.cell, byV_get _ _ (by omega), getD_at _ _ (by omega)]
    simp [List.getD, hl, hi]) 9 Tryz.underlying9
theorem mixIn_le {w : World} {B : Nat} {t : TypeId} {A C : List Value} {l : List Nat} {n : Nat} (h : MixIn w B t A C l n) : B ≤ w.heap.size := by
  obtain ⟨R, _, _, hr⟩ := h
  exact Nat.le_of_lt hr.lt
/-- What is left in a mix's rest: 64 cells, each a plain one. -/
def RestOk (R : List Value) : Prop := R.length = 64 ∧ ∀ v ∈ R, v.oneCell' = true
/-- The cells of a key's two mixes; R1 and R2 are what is left in their rests. -/
def keyV (K : List Nat) (R1 R2 : List Value) : List Value := mixV (absorb (xorL 54 K) 1) R1 0 64 ++ mixV (absorb (xorL 92 K) 1) R2 0 64
theorem zeros_one : ∀ v ∈ List.replicate 64 (Value.int .u8 0), v.oneCell' = true := fun v hv => by rw [List.eq_of_mem_replicate hv]; rfl
theorem key_one (ip op : List Nat) (R1 R2 : List Value) (h1 : ∀ v ∈ R1, v.oneCell' = true) (h2 : ∀ v ∈ R2, v.oneCell' = true) : ((mixV (absorb ip (64 / 64)) (byV [] ++ R1) (64 % 64) 64 ++ mixV (absorb op (64 / 64)) (byV [] ++ R2) (64 % 64) 64).toArray).all (·.oneCell') = true := by
  refine all_oneCell_toArray fun v hv => ?_
  simp only [mixV, mixA, mixT, byV, List.map_nil, List.nil_append, List.mem_append, List.mem_cons, List.not_mem_nil, or_false] at hv
  rcases hv with (((rfl | rfl | rfl | rfl | rfl | rfl | rfl | rfl | rfl) | hv) | rfl | rfl) | (((rfl | rfl | rfl | rfl | rfl | rfl | rfl | rfl | rfl) | hv) | rfl | rfl)
  all_goals first
    | exact h1 v hv
    | exact h2 v hv
    | rfl
theorem heap3_new (w : World) (o1 o2 : Obj) (cs : Array Value) (t : TypeId) : (((w.alloc o1).alloc o2).alloc (.cells cs t)).heap[w.heap.size + 1 + 1]? = some (.cells cs t (0, 0)) := by
  have := heap_alloc_new ((w.alloc o1).alloc o2) (.cells cs t)
  simpa using this

set_option maxRecDepth 10000 in
set_option maxHeartbeats 1000000 in
theorem keyOf_short (s : ByteArray) (hs : s.size ≤ 64) (w : World) (hf : First w) (hq : Cubes w) :
    Calls Tryz.prog 84 #[.string s] w fun e w' => ∃ R1 R2, RestOk R1 ∧ RestOk R2 ∧ e = .returned (.agg (keyV (padK (numsOf s)) R1 R2).toArray) ∧ Below w.heap.size w w' := by
  have h1 : ¬ (64 : Int) < s.size := by omega
  obtain ⟨zb, hzb⟩ : ∃ zb : Array Value, zb = (List.replicate 64 (Value.int .u8 0)).toArray := ⟨_, rfl⟩
  have hzv : ∀ w, (zeroValue 164).run Tryz.prog w = .ok (.agg zb) w := by rw [hzb]; exact (zero_of_info (n := 64) (by kernel_rfl)).1
  have hzn : zb.size = 64 := by rw [hzb]; rfl
  obtain ⟨zk, hzk⟩ : ∃ zk : Array Value, zk = (mixZ ++ mixZ).toArray := ⟨_, rfl⟩
  have hkv : ∀ w, (zeroValue 168).run Tryz.prog w = .ok (.agg zk) w := by rw [hzk]; exact (zero_of_info (n := 150) (by kernel_rfl)).1
  have hkn : zk.size = 150 := by rw [hzk]; rfl
  obtain ⟨H, hH⟩ : ∃ H, H = w.heap.size := ⟨_, rfl⟩
  have hx0 : Row (((w.alloc (.cells zk 168)).alloc (.cells zb 164)).alloc (.cells zb 164)) (H + 1) 164 (List.replicate 64 (Value.int .u8 0)) := by
    rw [hH, hzb]; exact (Below.heap_alloc _ _ _ (by simp)).trans (heap_alloc2_new w _ _)
  have hy0 : Row (((w.alloc (.cells zk 168)).alloc (.cells zb 164)).alloc (.cells zb 164)) (H + 1 + 1) 164 (List.replicate 64 (Value.int .u8 0)) := by
    rw [hH, hzb]; exact heap3_new w _ _ _ _
  have hk0 : Row (((w.alloc (.cells zk 168)).alloc (.cells zb 164)).alloc (.cells zb 164)) H 168 (mixZ ++ mixZ) := by
    rw [hH, hzk]; exact (Below.heap_alloc _ _ _ (by simp; omega)).trans (heap_alloc2_old w _ _)
  have hb0 : Below H w (((w.alloc (.cells zk 168)).alloc (.cells zb 164)).alloc (.cells zb 164)) := by
    rw [hH]; exact (((Below.refl _ _).alloc (Nat.le_refl _) _).alloc (by simp) _).alloc (by simp; omega) _
  have HZK : Hid (zk = (mixZ ++ mixZ).toArray) := hzk
  clear hzk hzb
  obtain ⟨w0, hw0⟩ : ∃ w0, ((w.alloc (.cells zk 168)).alloc (.cells zb 164)).alloc (.cells zb 164) = w0 := ⟨_, rfl⟩
  rw [hw0] at hx0 hy0 hk0 hb0
  -- the first copy
  have hn : (byV (numsOf s)).length = s.size := by simp [byV, numsOf_length]
  have hv : (s.data.toList.map fun x => Value.int .u8 (x.toNat : Int)) = byV (numsOf s) := by simp [byV, numsOf]
  have hpk : byV (padK (numsOf s)) = byV (numsOf s) ++ List.replicate (64 - s.size) (Value.int .u8 0) := by rw [padK, byV_append, byV_zeros, numsOf_length]
  have hrep : List.replicate 64 (Value.int .u8 0) = [] ++ List.replicate s.size (Value.int .u8 0) ++ List.replicate (64 - s.size) (Value.int .u8 0) := by
    rw [List.nil_append, List.replicate_append_replicate]; congr 1; omega
  have hcp := run_copy_string (P := Tryz.prog) w0 143 9 3 5 (H + 1) 0 64 64 s Tryz.underlying143 size_u8 hs (fun j hj => by
    rw [hx0.cell, List.getElem?_eq_getElem (by simp; omega)]; rfl) (fun j _ => hx0.frozen _)
  rw [hv] at hcp
  have hx1 : Row (w0.setCells (H + 1) 0 (byV (numsOf s))) (H + 1) 164 (byV (padK (numsOf s))) := by
    rw [hrep] at hx0
    have := Row.setCells (byV (numsOf s)) _ _ w0 0 (by rw [hn]; simp) rfl hx0
    rw [hpk]; simpa using this
  have ho1 : Only (H + 1) w0 (w0.setCells (H + 1) 0 (byV (numsOf s))) := Only.setCells _ _ _ (Only.refl _ _)
  obtain ⟨w1, hw1⟩ : ∃ w1, w0.setCells (H + 1) 0 (byV (numsOf s)) = w1 := ⟨_, rfl⟩
  rw [hw1] at hcp hx1 ho1
  have hy1 := hy0.only ho1 (by omega)
  have hk1 := hk0.only ho1 (by omega)
  -- the second copy
  have hcp2 := run_copy_string (P := Tryz.prog) w1 143 9 3 5 (H + 1 + 1) 0 64 64 s Tryz.underlying143 size_u8 hs (fun j hj => by
    rw [hy1.cell, List.getElem?_eq_getElem (by simp; omega)]; rfl) (fun j _ => hy1.frozen _)
  rw [hv] at hcp2
  have hy2 : Row (w1.setCells (H + 1 + 1) 0 (byV (numsOf s))) (H + 1 + 1) 164 (byV (padK (numsOf s))) := by
    rw [hrep] at hy1
    have := Row.setCells (byV (numsOf s)) _ _ w1 0 (by rw [hn]; simp) rfl hy1
    rw [hpk]; simpa using this
  have ho2 : Only (H + 1 + 1) w1 (w1.setCells (H + 1 + 1) 0 (byV (numsOf s))) := Only.setCells _ _ _ (Only.refl _ _)
  obtain ⟨w2, hw2⟩ : ∃ w2, w1.setCells (H + 1 + 1) 0 (byV (numsOf s)) = w2 := ⟨_, rfl⟩
  rw [hw2] at hcp2 hy2 ho2
  have hx2 := hx1.only ho2 (by omega)
  have hk2 := hk1.only ho2 (by omega)
  have hb2 : Below H w w2 := (hb0.trans ((ho1.below (Nat.le_of_lt hx0.lt)).mono (by omega))).trans ((ho2.below (Nat.le_of_lt hy1.lt)).mono (by omega))
  obtain ⟨K, hK⟩ : ∃ K, K = padK (numsOf s) := ⟨_, rfl⟩
  have hKb : Bytes K := by rw [hK]; exact padK_bytes (numsOf_bytes s)
  have hKl : K.length = 64 := by rw [hK]; exact padK_length _ (by rw [numsOf_length]; exact hs)
  rw [← hK] at hx2 hy2
  have HW : Hid (H = w.heap.size ∧ K = padK (numsOf s) ∧ Row w2 (H + 1) 164 (byV K) ∧ Row w2 (H + 1 + 1) 164 (byV K) ∧ Row w2 H 168 (mixZ ++ mixZ) ∧ Below H w w2) := ⟨hH, hK, hx2, hy2, hk2, hb2⟩
  have hHs : w.heap.size = H := hH.symm
  clear hx0 hy0 hk0 hb0 hx1 hy1 hk1 ho1 ho2 hx2 hy2 hk2 hb2 hw1 hw2 hn hv hpk hrep hK hH
  go_enter Tryz.func84, Tryz.ntmps84
  go_wp2_with fail
  go_loopw [18] (fun i wr => ∃ j : Nat, j ≤ 64 ∧ i = .int .i64 j ∧ Row wr (H + 1) 164 (byV (xorL 54 (K.take j) ++ K.drop j)) ∧ Row wr (H + 1 + 1) 164 (byV (xorL 92 (K.take j) ++ K.drop j)) ∧ Row wr H 168 (mixZ ++ mixZ) ∧ Below H w wr) (fun i _ => 64 - (intOf i).toNat)
  case atStart => exact ⟨0, Nat.zero_le _, rfl, HW.out.2.2.1, HW.out.2.2.2.1, HW.out.2.2.2.2.1, HW.out.2.2.2.2.2⟩
  case round =>
    obtain ⟨j, hj, rfl, hx, hy, hk, hb⟩ := hrel
    by_cases hlt : j < 64
    · obtain ⟨b, hbj⟩ : ∃ b, b = K.getD j 0 := ⟨_, rfl⟩
      have lb : b < 256 := by rw [hbj]; exact getD_lt (by decide) hKb j
      have hxr := (xorRow hx hKl hlt)
      have hyr := (xorRow hy hKl hlt)
      rw [← hbj] at hxr hyr
      have lx : ∀ c, (byV (xorL c (K.take j))).length = j := fun c => by simp [byV, xorL_length]; omega
      have cx := hxr.at (lx 54).symm
      have cy := hyr.at (lx 92).symm
      have fx : wr.frozen? ⟨H + 1, j, none⟩ = false := hx.frozen j
      have fy : wr.frozen? ⟨H + 1 + 1, j, none⟩ = false := hy.frozen j
      have bx : bits .xor .u8 (b : Int) 54 = ((b ^^^ 54 : Nat) : Int) := u8_xor_nat b 54 lb (by decide)
      have by' : bits .xor .u8 (b : Int) 92 = ((b ^^^ 92 : Nat) : Int) := u8_xor_nat b 92 lb (by decide)
      obtain ⟨b1, hb1⟩ : ∃ b1, b1 = b ^^^ 54 := ⟨_, rfl⟩
      obtain ⟨b2, hb2⟩ : ∃ b2, b2 = b ^^^ 92 := ⟨_, rfl⟩
      rw [← hb1] at bx
      rw [← hb2] at by'
      have hx2 := hxr.set (.int .u8 (b1 : Nat)) (lx 54).symm
      have ho2 : Only (H + 1) wr (wr.setCell ⟨H + 1, j, none⟩ (.int .u8 (b1 : Nat))) := (Only.refl _ _).setCell _ _
      obtain ⟨w3, hw3⟩ : ∃ w3, wr.setCell ⟨H + 1, j, none⟩ (.int .u8 (b1 : Nat)) = w3 := ⟨_, rfl⟩
      rw [hw3] at hx2 ho2
      have hyr3 := hyr.only ho2 (by omega)
      have cy3 := hyr3.at (lx 92).symm
      have fy3 : w3.frozen? ⟨H + 1 + 1, j, none⟩ = false := hyr3.frozen j
      have hy3 := hyr3.set (.int .u8 (b2 : Nat)) (lx 92).symm
      have ho3 : Only (H + 1 + 1) w3 (w3.setCell ⟨H + 1 + 1, j, none⟩ (.int .u8 (b2 : Nat))) := (Only.refl _ _).setCell _ _
      obtain ⟨w4, hw4⟩ : ∃ w4, w3.setCell ⟨H + 1 + 1, j, none⟩ (.int .u8 (b2 : Nat)) = w4 := ⟨_, rfl⟩
      rw [hw4] at hy3 ho3
      have hx4 := hx2.only ho3 (by omega)
      have hk4 := (hk.only ho2 (by omega)).only ho3 (by omega)
      have hb4 : Below H w w4 := (hb.trans ((ho2.below (Nat.le_of_lt hxr.lt)).mono (by omega))).trans ((ho3.below (Nat.le_of_lt hyr3.lt)).mono (by omega))
      rw [xorStep K j b b1 54 hKl hlt hbj hb1] at hx4
      rw [xorStep K j b b2 92 hKl hlt hbj hb2] at hy3
      have HF : Hid (Row w4 (H + 1) 164 (byV (xorL 54 (K.take (j + 1)) ++ K.drop (j + 1))) ∧ Row w4 (H + 1 + 1) 164 (byV (xorL 92 (K.take (j + 1)) ++ K.drop (j + 1))) ∧ Row w4 H 168 (mixZ ++ mixZ) ∧ Below H w w4) := ⟨hx4, hy3, hk4, hb4⟩
      have j64 : (j : Int) < 64 := by omega
      clear hx hy hk hb hxr hyr hx2 ho2 hyr3 hy3 ho3 hx4 hk4 hb4 hb1 hb2 hbj lx cy fy
      go_wp2_with fail
      go_roundw
      case rel => exact ⟨j + 1, by omega, by go_num, HF.out.1, HF.out.2.1, HF.out.2.2.1, HF.out.2.2.2⟩
      case measure => simp [intOf]; omega
    · obtain rfl : j = 64 := by omega
      rw [List.take_of_length_le (by omega), List.drop_eq_nil_of_le (by omega), List.append_nil] at hx hy
      have HF : Hid (Row wr (H + 1) 164 (byV (xorL 54 K)) ∧ Row wr (H + 1 + 1) 164 (byV (xorL 92 K)) ∧ Row wr H 168 (mixZ ++ mixZ) ∧ Below H w wr) := ⟨hx, hy, hk, hb⟩
      clear hx hy hk hb
      have hst := fun w' (h : First w') => start_any w' h
      obtain ⟨ms, hms⟩ : ∃ ms, ms = (mixV st0 (List.replicate 64 (.int .u8 0)) 0 0).toArray := ⟨_, rfl⟩
      rw [← hms] at hst
      have HST : Hid (∀ w', First w' → Calls Tryz.prog 125 #[] w' fun e w'' => e = .returned (.agg ms) ∧ Below w'.heap.size w' w'') := hst
      have hmn : ms.size = 75 := by rw [hms]; rfl
      obtain ⟨k1, hk1⟩ : ∃ k1, k1 = (mix0 ++ mixZ).toArray := ⟨_, rfl⟩
      obtain ⟨k2, hk2⟩ : ∃ k2, k2 = (mix0 ++ mix0).toArray := ⟨_, rfl⟩
      have hfo1 : Array.foldl (fun cs x => cs.setIfInBounds x.snd x.fst) zk ms.zipIdx 0 75 = k1 := by rw [hk1, hms, HZK.out]; exact fold_one
      have hfo2 : Array.foldl (fun cs x => cs.setIfInBounds (75 + x.snd) x.fst) k1 ms.zipIdx 0 75 = k2 := by rw [hk1, hk2, hms]; exact fold_two
      have hk1n : k1.size = 150 := by rw [hk1]; rfl
      have hk2n : k2.size = 150 := by rw [hk2]; rfl
      have hone : k2.all (·.oneCell') = true := by rw [hk2]; exact mix0_one
      have hinfo : (Tryz.prog.info? 168).map (·.size) = some k2.size := by rw [hk2n]; kernel_rfl
      have hs0 : zk.size = k2.size := by rw [hkn, hk2n]
      have HK2 : Hid (k2 = (mix0 ++ mix0).toArray) := hk2
      clear hst hms hk1 hk2
      have hbw := HF.out.2.2.2
      have hfr : First wr := hf.below hbw (by have := hf.1; omega)
      go_wp2_with fail
      refine (HST.out wr hfr).mono ?_
      rintro e w5 ⟨rfl, hb5⟩
      have hf5 : First w5 := hfr.below hb5 hfr.1
      go_wp2_with fail
      refine (HST.out w5 hf5).mono ?_
      rintro e w6 ⟨rfl, hb6⟩
      have hb6' := hb5.trans (hb6.mono hb5.size)
      clear hb5 hb6 hf5
      go_wp2_with (refine wpList_store_row rfl 168 _ _ rfl w6.heap.size k2 rfl rfl 168 _ (heap_alloc_new w6 _) hinfo hs0 hone ?_)
      rw [World.setRow_alloc_new]
      have k7 : Row (w6.alloc (.cells k2 168)) w6.heap.size 168 (mix0 ++ mix0) := by rw [HK2.out]; exact heap_alloc_new w6 _
      have hb7 := hb6'.alloc hb6'.size (.cells k2 168)
      obtain ⟨KB, hKB⟩ : ∃ KB, KB = w6.heap.size := ⟨_, rfl⟩
      have hKB1 : wr.heap.size ≤ KB := by rw [hKB]; exact hb6'.size
      rw [← hKB] at k7
      rw [← hKB]
      obtain ⟨w7, hw7⟩ : ∃ w7, w6.alloc (.cells k2 168) = w7 := ⟨_, rfl⟩
      rw [hw7] at k7 hb7
      rw [hw7]
      clear hw7 hKB hb6' hinfo hs0 hone hk1n hfo1 hfo2 HST hmn hk2n
      have hx7 := HF.out.1.below hb7 HF.out.1.lt
      have hy7 := HF.out.2.1.below hb7 HF.out.2.1.lt
      have hH7 := HF.out.2.2.1.below hb7 HF.out.2.2.1.lt
      have hq7 : Cubes w7 := (hq.below hbw (by have := hq.1; omega)).below hb7 (hq.below hbw (by have := hq.1; omega)).1
      have hb7w : Below H w w7 := hbw.trans (hb7.mono (by have := hbw.size; omega))
      have hmi : MixIn w7 KB 168 [] mix0 [] 0 := ⟨List.replicate 64 (.int .u8 0), rfl, zeros_one, k7⟩
      have hipl : (xorL 54 K).length = 64 := by rw [xorL_length]; exact hKl
      have hopl : (xorL 92 K).length = 64 := by rw [xorL_length]; exact hKl
      have hipb : Bytes (xorL 54 K) := xorL_bytes (by decide) hKb
      have hopb : Bytes (xorL 92 K) := xorL_bytes (by decide) hKb
      obtain ⟨ip, hip⟩ : ∃ ip, ip = xorL 54 K := ⟨_, rfl⟩
      obtain ⟨op, hop⟩ : ∃ op, op = xorL 92 K := ⟨_, rfl⟩
      rw [← hip] at hx7 hipl hipb
      rw [← hop] at hy7 hopl hopb
      have hKB2 : H + 1 + 1 < KB := by have := HF.out.2.1.lt; omega
      have hB1 : 2 < KB := by have := hq.1; omega
      have hcvx := bytes_text w7 (H + 1) 164 ip hipl hx7
      obtain ⟨sx, hsx⟩ : ∃ sx, sx = strOfNums (ip.map fun (x : Nat) => (x : Int)) := ⟨_, rfl⟩
      have hnx : numsOf sx = ip := by rw [hsx]; exact numsOf_str ip hipb
      rw [← hsx] at hcvx
      have H7 : Hid (MixIn w7 KB 168 [] mix0 [] 0 ∧ Row w7 (H + 1 + 1) 164 (byV op) ∧ Row w7 H 168 (mixZ ++ mixZ) ∧ Cubes w7 ∧ Below H w w7 ∧ numsOf sx = ip ∧ ip = xorL 54 K ∧ op = xorL 92 K) := ⟨hmi, hy7, hH7, hq7, hb7w, hnx, hip, hop⟩
      clear hx7 hy7 hH7 hq7 hb7w hmi hip hop hsx hnx k7 hb7 hbw
      have hsz : sx.size = 64 := by rw [← numsOf_length, H7.out.2.2.2.2.2.1, hipl]
      go_wp2_with fail
      rw [hcvx]
      go_wp2_with fail
      refine (feed_mid KB 0 168 [] mix0 rfl [] (fun x hx => by simp at hx) sx (by simp; omega) w7 H7.out.2.2.2.1 hB1 H7.out.1).mono ?_
      rintro e w8 ⟨rfl, hm8, ho8⟩
      rw [List.nil_append, H7.out.2.2.2.2.2.1] at hm8
      have hy8 := H7.out.2.1.only ho8 (by omega)
      have hH8 := H7.out.2.2.1.only ho8 (by omega)
      have hq8 := H7.out.2.2.2.1.only ho8 hB1
      obtain ⟨R1, hR1, hR1o, hr8⟩ := hm8
      have hb8w : Below H w w8 := H7.out.2.2.2.2.1.trans ((ho8.below (mixIn_le H7.out.1)).mono (by omega))
      rw [hipl] at hr8 hR1
      have hd1 : ip.drop (64 * (64 / 64)) = [] := List.drop_eq_nil_of_le (by omega)
      rw [hd1] at hr8
      have hA75 : (mixV (absorb ip (64 / 64)) (byV [] ++ R1) (64 % 64) 64).length = 75 := by simp [mixV, mixA, mixT, byV, hR1]
      have hmo : MixIn w8 KB 168 (mixV (absorb ip (64 / 64)) (byV [] ++ R1) (64 % 64) 64) [] [] 0 := ⟨List.replicate 64 (.int .u8 0), rfl, zeros_one, by
        rw [List.append_nil]
        exact hr8⟩
      obtain ⟨AA, hAA⟩ : ∃ AA, AA = mixV (absorb ip (64 / 64)) (byV [] ++ R1) (64 % 64) 64 := ⟨_, rfl⟩
      rw [← hAA] at hmo hA75
      have hcvy := bytes_text w8 (H + 1 + 1) 164 op hopl hy8
      obtain ⟨sy, hsy⟩ : ∃ sy, sy = strOfNums (op.map fun (x : Nat) => (x : Int)) := ⟨_, rfl⟩
      have hny : numsOf sy = op := by rw [hsy]; exact numsOf_str op hopb
      rw [← hsy] at hcvy
      have H8 : Hid (MixIn w8 KB 168 AA [] [] 0 ∧ Row w8 H 168 (mixZ ++ mixZ) ∧ Cubes w8 ∧ Below H w w8 ∧ numsOf sy = op ∧ AA = mixV (absorb ip (64 / 64)) (byV [] ++ R1) (64 % 64) 64 ∧ 75 = AA.length) := ⟨hmo, hH8, hq8, hb8w, hny, hAA, hA75.symm⟩
      clear hy8 hH8 hq8 hr8 hb8w hd1 hA75 hmo hAA hsy hny ho8 hcvx
      have hszy : sy.size = 64 := by rw [← numsOf_length, H8.out.2.2.2.2.1, hopl]
      go_wp2_with fail
      refine (feed_mid KB 75 168 AA [] H8.out.2.2.2.2.2.2 [] (fun x hx => by simp at hx) sy (by simp; omega) w8 H8.out.2.2.1 hB1 H8.out.1).mono ?_
      rintro e w9 ⟨rfl, hm9, ho9⟩
      rw [List.nil_append, H8.out.2.2.2.2.1] at hm9
      have hH9 := H8.out.2.1.only ho9 (by omega)
      obtain ⟨R2, hR2, hR2o, hr9⟩ := hm9
      have hb9w : Below H w w9 := H8.out.2.2.2.1.trans ((ho9.below (mixIn_le H8.out.1)).mono (by omega))
      rw [hopl] at hr9 hR2
      have hd2 : op.drop (64 * (64 / 64)) = [] := List.drop_eq_nil_of_le (by omega)
      rw [hd2, List.append_nil] at hr9
      obtain ⟨cs, hcs⟩ : ∃ cs, cs = (AA ++ mixV (absorb op (64 / 64)) (byV [] ++ R2) (64 % 64) 64).toArray := ⟨_, rfl⟩
      have hk9 : w9.heap[KB]? = some (.cells cs 168 (0, 0)) := by rw [hcs]; exact hr9
      have hcn : cs.size = 150 := by
        have := H8.out.2.2.2.2.2.2
        rw [hcs]; simp [mixV, mixA, mixT, byV, hR2]; omega
      have hone : cs.all (·.oneCell') = true := by rw [hcs]; rw [H8.out.2.2.2.2.2.1]; exact key_one ip op R1 R2 hR1o hR2o
      have HCS : Hid (cs = (keyV (padK (numsOf s)) R1 R2).toArray ∧ RestOk R1 ∧ RestOk R2) := ⟨by
        rw [hcs, H8.out.2.2.2.2.2.1, H7.out.2.2.2.2.2.2.1, H7.out.2.2.2.2.2.2.2, HW.out.2.1]; rfl, ⟨hR1, hR1o⟩, ⟨hR2, hR2o⟩⟩
      have hinfo : (Tryz.prog.info? 168).map (·.size) = some cs.size := by rw [hcn]; kernel_rfl
      have hH9' : w9.heap[H]? = some (.cells (mixZ ++ mixZ).toArray 168 (0, 0)) := hH9
      have hs0 : (mixZ ++ mixZ).toArray.size = cs.size := by rw [hcn]; rfl
      have hba := below_rowH hb9w (Nat.le_refl H) cs
      have hl0 := run_loadVar_row (P := Tryz.prog) (w9.setRow H cs) H 168 168 cs (0, 0) _ (setRow_heap _ _ _ _ _ _ hH9') Tryz.underlying168 rfl hinfo
      have HB : Hid (Below w.heap.size w (w9.setRow H cs)) := by
        show Below _ _ _
        rw [← HW.out.1]
        exact hba
      clear hr9 hR2 hd2 hcs hb9w ho9 hba hcvy hH9
      go_wp2_with (first | refine wpList_load_row rfl 168 _ rfl KB rfl 168 _ (0, 0) _ hk9 Tryz.underlying168 rfl hinfo ?_ | refine wpList_store_row rfl 168 _ _ rfl H cs rfl rfl 168 _ hH9' hinfo hs0 hone ?_)
      exact bodyPost_ret (v := .agg cs) (by simp [results, Tryz.results84, asAddr, Act.put, hl0]) rfl ⟨R1, R2, HCS.out.2.1, HCS.out.2.2, by rw [HCS.out.1], HB.out⟩
end Go.Proofs.YtoopaigpjefonaaGreatDoor.Sm
