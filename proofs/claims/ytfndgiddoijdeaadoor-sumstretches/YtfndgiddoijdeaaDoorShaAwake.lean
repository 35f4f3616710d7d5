/- sum.Sum of a short text is the text's sum; so the laws' awake tells true; and a mix that New did not give takes nothing and tells nothing. -/
import Derived.Test.YtfndgiddoijdeaaDoorShaSum
namespace Go.Proofs.YtfndgiddoijdeaaDoor
open Go.RowKit

theorem First.below {w w' : World} (h : First w) {B : Nat} (hb : Below B w w') (hB : 0 < B) : First w' := ⟨Nat.lt_of_lt_of_le h.1 hb.size, fun i hi => (hb.cell (p := ⟨0, i, none⟩) hB).trans (h.2 i hi)⟩

set_option maxRecDepth 10000 in
set_option maxHeartbeats 1000000 in
theorem sum_short (s : ByteArray) (hs : s.size < 56) (w : World) (hf : First w) (hq : Cubes w) :
    Calls Tryd.prog 10 #[.string s] w fun e w' => e = .returned (.string (shaS (numsOf s))) ∧ Below w.heap.size w w' := by
  obtain ⟨zs, hzs⟩ : ∃ zs, zs = (mixZ).toArray := ⟨_, rfl⟩
  have hzv : ∀ w, (zeroValue 47).run Tryd.prog w = .ok (.agg zs) w := by rw [hzs]; exact mix_zero
  have hzn : zs.size = 75 := by rw [hzs]; rfl
  clear hzs
  obtain ⟨ms, hms⟩ : ∃ ms, ms = (mixV st0 (List.replicate 64 (.int .u8 0)) 0 0).toArray := ⟨_, rfl⟩
  have hmn : ms.size = 75 := by rw [hms]; rfl
  have hone : ms.all (·.oneCell') = true := by rw [hms]; simp [mixV, mixA, mixT, Value.oneCell']
  have HM : Hid (ms = (mixV st0 (List.replicate 64 (.int .u8 0)) 0 0).toArray) := hms
  have hst := start_any w hf
  rw [← hms] at hst
  clear hms
  have hinfo : (Tryd.prog.info? 47).map (·.size) = some ms.size := by rw [hmn]; exact mix_info
  have hs0 : zs.size = ms.size := by rw [hzn, hmn]
  go_enter Tryd.func10, Tryd.ntmps10
  go_wp2_with fail
  refine hst.mono ?_
  rintro e w1 ⟨rfl, hb1⟩
  clear hst
  go_wp2_with (refine wpList_store_row rfl 47 _ _ rfl w1.heap.size ms rfl rfl 47 _ (heap_alloc_new w1 _) hinfo hs0 hone ?_)
  have k2 : MixAt ((w1.alloc (.cells zs 47)).setRow w1.heap.size ms) w1.heap.size [] 0 := ⟨List.replicate 64 (.int .u8 0), rfl, by rw [World.setRow_alloc_new, HM.out]; exact heap_alloc_new w1 _⟩
  have hb2 := below_rowH (hb1.alloc hb1.size (.cells zs 47)) hb1.size ms
  generalize (w1.alloc (.cells zs 47)).setRow w1.heap.size ms = w2 at *
  clear hinfo hs0 hone hzv hzn hmn HM
  refine (feed_short w1.heap.size [] s (by simp; omega) (by simp; omega) w2 k2).mono ?_
  rintro e w3 ⟨rfl, k3, ho3⟩
  rw [List.nil_append] at k3
  have hl1 := hb1.size
  have hb3 : Below w.heap.size w w3 := hb2.trans ((ho3.below (by obtain ⟨R, hR, hr⟩ := k2; exact Nat.le_of_lt hr.lt)).mono hl1)
  clear k2 hb2 ho3 hb1
  go_wp2_with fail
  refine (told_short w1.heap.size (numsOf s) (numsOf_bytes s) (by rw [numsOf_length]; omega) (by rw [numsOf_length]; omega) w3 (hq.below hb3 hq.1) k3).mono ?_
  rintro e w4 ⟨rfl, hb4⟩
  have hb5 := hb3.trans (hb4.mono hb3.size)
  clear hb3 hb4 k3
  go_wp2
  go_ret
  exact ⟨rfl, hb5⟩

/-- What the sum of abc is, for the laws' own question. -/
theorem abc_facts : (shaS [97, 98, 99]).size = 32 ∧ (((shaS [97, 98, 99]).extract 0 4).toList == [186, 120, 22, 191]) = true ∧ (((shaS [97, 98, 99]).extract 28 32).toList == [242, 0, 21, 173]) = true := by
  unfold shaS
  rw [sha_abc]
  exact ⟨by decide, by rw [ByteArray.toList_eq, Lib.extract_data]; decide, by rw [ByteArray.toList_eq, Lib.extract_data]; decide⟩

set_option maxRecDepth 10000 in
set_option maxHeartbeats 1000000 in
theorem awake_any (w : World) (hf : First w) (hq : Cubes w) :
    Calls Tryd.prog 12 #[] w fun e w' => e = .returned (.bool true) ∧ Below w.heap.size w w' := by
  have hc := sum_short ⟨#[97, 98, 99]⟩ (by decide) w hf hq
  rw [show numsOf ⟨#[97, 98, 99]⟩ = [97, 98, 99] from rfl] at hc
  obtain ⟨h1, h2, h3⟩ := abc_facts
  generalize shaS [97, 98, 99] = S at *
  have i1 : (4 : Int) ≤ S.size := by omega
  have i2 : (28 : Int) ≤ S.size := by omega
  have HC : Hid (Calls Tryd.prog 10 #[.string ⟨#[97, 98, 99]⟩] w fun e w' => e = .returned (.string S) ∧ Below w.heap.size w w') := hc
  clear hc hf hq
  go_enter Tryd.func12, Tryd.ntmps12
  go_wp2_with fail
  refine HC.out.mono ?_
  rintro e w1 ⟨rfl, hb1⟩
  clear HC
  go_wp2_with fail
  go_ret
  exact ⟨rfl, hb1⟩

theorem feed_nil (s : ByteArray) (w : World) :
    Calls Tryd.prog 17 #[.pointer none, .string s] w fun e w' => e = .returned (.tuple #[]) ∧ w' = w := by
  go_enter Tryd.func17, Tryd.ntmps17
  go_wp2
  exact bodyPost_ret (v := .tuple #[]) (by simp [results, Tryd.results17]) rfl ⟨rfl, rfl⟩
theorem feed_zero (B : Nat) (s : ByteArray) (w : World) (c0 : w.cell? ⟨B, 0, none⟩ = some (.bool false)) :
    Calls Tryd.prog 17 #[.pointer (some ⟨B, 0, none⟩), .string s] w fun e w' => e = .returned (.tuple #[]) ∧ w' = w := by
  go_enter Tryd.func17, Tryd.ntmps17
  go_wp2
  exact bodyPost_ret (v := .tuple #[]) (by simp [results, Tryd.results17]) rfl ⟨rfl, rfl⟩
theorem told_nil (w : World) :
    Calls Tryd.prog 18 #[.pointer none] w fun e w' => e = .returned (.string ⟨#[]⟩) ∧ w' = w := by
  go_enter Tryd.func18, Tryd.ntmps18
  go_wp2
  go_ret
  exact ⟨rfl, rfl⟩
theorem told_zero (B : Nat) (w : World) (c0 : w.cell? ⟨B, 0, none⟩ = some (.bool false)) :
    Calls Tryd.prog 18 #[.pointer (some ⟨B, 0, none⟩)] w fun e w' => e = .returned (.string ⟨#[]⟩) ∧ w' = w := by
  go_enter Tryd.func18, Tryd.ntmps18
  go_wp2
  go_ret
  exact ⟨rfl, rfl⟩
end Go.Proofs.YtfndgiddoijdeaaDoor
