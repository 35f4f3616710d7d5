/- (*sum.macKey).stretched: PBKDF2's block i. -/
import Derived.Test.YtdhiopbomnfmnaaGreatDoorMg24
namespace Go.Proofs.YtdhiopbomnfmnaaGreatDoor.Sm
set_option maxRecDepth 20000
open Go.RowKit

def xorB (a b : List Nat) : List Nat := List.zipWith (· ^^^ ·) a b
/-- PBKDF2's numbers of one block: each the HMAC of the one ahead; and what they come to together. -/
def uL (K D0 : List Nat) : Nat → List Nat
  | 0 => D0
  | j + 1 => macL K (uL K D0 j)
def aL (K D0 : List Nat) : Nat → List Nat
  | 0 => D0
  | j + 1 => xorB (aL K D0 j) (macL K (uL K D0 j))
theorem uL_length (K : List Nat) {D0 : List Nat} (h : D0.length = 32) (j : Nat) : (uL K D0 j).length = 32 := by
  cases j with
  | zero => exact h
  | succ j => exact macL_length _ _
theorem uL_bytes (K : List Nat) {D0 : List Nat} (h : Bytes D0) (j : Nat) : Bytes (uL K D0 j) := by
  cases j with
  | zero => exact h
  | succ j => exact macL_bytes _ _
theorem aL_length (K : List Nat) {D0 : List Nat} (h : D0.length = 32) (j : Nat) : (aL K D0 j).length = 32 := by
  induction j with
  | zero => exact h
  | succ j ih => rw [aL, xorB, List.length_zipWith, ih, macL_length]; rfl
theorem xorB_bytes {a b : List Nat} (ha : Bytes a) (hb : Bytes b) : Bytes (xorB a b) := by
  intro x hx
  obtain ⟨i, hi, rfl⟩ := List.mem_iff_getElem.1 hx
  rw [xorB, List.length_zipWith] at hi
  have e : (xorB a b)[i]'(by rw [xorB, List.length_zipWith]; exact hi) = a[i]'(by omega) ^^^ b[i]'(by omega) := by simp [xorB]
  rw [e]
  exact Nat.xor_lt_two_pow (n := 8) (ha _ (List.getElem_mem _)) (hb _ (List.getElem_mem _))
theorem aL_bytes (K : List Nat) {D0 : List Nat} (h : Bytes D0) (j : Nat) : Bytes (aL K D0 j) := by
  induction j with
  | zero => exact h
  | succ j ih => exact xorB_bytes ih (macL_bytes _ _)
theorem xbRow {w : World} {g : Nat} {t : TypeId} {X a : List Nat} {j : Nat} (h : Row w g t (byV (X ++ a.drop j))) (hl : a.length = 32) (hj : j < 32) : Row w g t (byV X ++ [.int .u8 (a.getD j 0 : Nat)] ++ byV (a.drop (j + 1))) := by
  have e : a.drop j = a.getD j 0 :: a.drop (j + 1) := by
    rw [List.drop_eq_getElem_cons (by omega), getD_at _ _ (by omega)]
  rw [byV_append, e] at h
  have e2 : byV (a.getD j 0 :: a.drop (j + 1)) = [.int .u8 (a.getD j 0 : Nat)] ++ byV (a.drop (j + 1)) := rfl
  rw [e2, ← List.append_assoc] at h
  exact h
theorem xbNext (a u : List Nat) (j b : Nat) (ha : a.length = 32) (hu : u.length = 32) (hj : j < 32) (hb : b = a.getD j 0 ^^^ u.getD j 0) : byV (xorB (a.take j) (u.take j)) ++ [.int .u8 (b : Nat)] ++ byV (a.drop (j + 1)) = byV (xorB (a.take (j + 1)) (u.take (j + 1)) ++ a.drop (j + 1)) := by
  rw [List.take_succ_eq_append_getElem (by omega), List.take_succ_eq_append_getElem (by omega), xorB, xorB, List.zipWith_append (by simp; omega), byV_append, byV_append, hb, getD_at _ _ (by omega), getD_at _ _ (by omega)]
  rfl
/-- PBKDF2's block i. -/
def strB (K salt : List Nat) (rounds i : Nat) : List Nat := aL K (macL K (salt ++ be4 i)) (rounds - 1)
theorem strB_length (K salt : List Nat) (rounds i : Nat) : (strB K salt rounds i).length = 32 := aL_length K (macL_length _ _) _
theorem strB_bytes (K salt : List Nat) (rounds i : Nat) : Bytes (strB K salt rounds i) := aL_bytes K (macL_bytes _ _) _
/-- Two texts. -/
def two (a b : ByteArray) : Nat → ByteArray
  | 0 => a
  | _ => b
theorem mac_two (KB : Nat) (K : List Nat) (hKl : K.length = 64) (hKb : Bytes K) (R1 R2 : List Value) (hR1 : RestOk R1) (hR2 : RestOk R2) (a b : ByteArray) (ha : a.size ≤ 1048576) (hb : b.size ≤ 1048576) (w : World) (hq : Cubes w) (hr : Row w KB 71 (keyV K R1 R2)) :
    Calls Tryz.prog 52 #[.pointer (some ⟨KB, 0, none⟩), .slice (some ⟨w.heap.size, 0, none⟩) 2 2] (w.alloc (.cells #[.string a, .string b] 9)) fun e w' => e = .returned (.agg (byV (macL K (numsOf a ++ numsOf b))).toArray) ∧ Below w.heap.size w w' := by
  have hst : Strs (w.alloc (.cells #[.string a, .string b] 9)) (.slice (some ⟨w.heap.size, 0, none⟩) 2 2) 2 (two a b) := by
    refine ⟨_, _, rfl, by unfold maxLen; decide, .inr ⟨w.heap.size, 0, rfl, by simp, fun j hj => ?_⟩⟩
    rw [cell_of_row _ _ _ _ _ _ (heap_alloc_new w _), Nat.zero_add]
    match j, hj with
    | 0, _ => rfl
    | 1, _ => rfl
  have hb2 : Below w.heap.size w (w.alloc (.cells #[.string a, .string b] 9)) := (Below.refl _ _).alloc (Nat.le_refl _) _
  have hmc := mac_any KB K hKl hKb R1 R2 hR1 hR2 _ 2 (two a b) _ hst (fun j hj => by
    have h : j = 0 ∨ j = 1 ∨ j = 2 := by omega
    rcases h with rfl | rfl | rfl
    all_goals simp [catS, two, numsOf_length]
    all_goals omega) (hq.below hb2 hq.1) (hr.below hb2 hr.lt)
  exact hmc.mono fun e w' ⟨he, hb3⟩ => ⟨he, hb2.trans (hb3.mono hb2.size)⟩
theorem mac_one (KB : Nat) (K : List Nat) (hKl : K.length = 64) (hKb : Bytes K) (R1 R2 : List Value) (hR1 : RestOk R1) (hR2 : RestOk R2) (a : ByteArray) (ha : a.size ≤ 1048576) (w : World) (hq : Cubes w) (hr : Row w KB 71 (keyV K R1 R2)) :
    Calls Tryz.prog 52 #[.pointer (some ⟨KB, 0, none⟩), .slice (some ⟨w.heap.size, 0, none⟩) 1 1] (w.alloc (.cells #[.string a] 9)) fun e w' => e = .returned (.agg (byV (macL K (numsOf a))).toArray) ∧ Below w.heap.size w w' := by
  have hst : Strs (w.alloc (.cells #[.string a] 9)) (.slice (some ⟨w.heap.size, 0, none⟩) 1 1) 1 (fun _ => a) := by
    refine ⟨_, _, rfl, by unfold maxLen; decide, .inr ⟨w.heap.size, 0, rfl, by simp, fun j hj => ?_⟩⟩
    obtain rfl : j = 0 := by omega
    exact (cell_of_row _ _ _ _ _ _ (heap_alloc_new w _))
  have hb2 : Below w.heap.size w (w.alloc (.cells #[.string a] 9)) := (Below.refl _ _).alloc (Nat.le_refl _) _
  have hmc := mac_any KB K hKl hKb R1 R2 hR1 hR2 _ 1 (fun _ => a) _ hst (fun j hj => by
    have h : j = 0 ∨ j = 1 := by omega
    rcases h with rfl | rfl
    all_goals simp [catS, numsOf_length]
    all_goals omega) (hq.below hb2 hq.1) (hr.below hb2 hr.lt)
  exact hmc.mono fun e w' ⟨he, hb3⟩ => ⟨he, hb2.trans (hb3.mono hb2.size)⟩

set_option maxRecDepth 10000 in
set_option maxHeartbeats 1000000 in
theorem stretched_any (KB : Nat) (K : List Nat) (hKl : K.length = 64) (hKb : Bytes K) (R1 R2 : List Value) (hR1 : RestOk R1) (hR2 : RestOk R2) (salt : ByteArray) (hl : salt.size ≤ 1048576) (rounds i : Nat) (hr1 : 1 ≤ rounds) (hr2 : rounds ≤ 1000) (hi2 : i < 65536) (w : World) (hq : Cubes w)
    (hr : Row w KB 71 (keyV K R1 R2)) :
    Calls Tryz.prog 27 #[.pointer (some ⟨KB, 0, none⟩), .string salt, .int .i64 rounds, .int .i64 i] w fun e w' => e = .returned (.agg (byV (strB K (numsOf salt) rounds i)).toArray) ∧ Below w.heap.size w w' := by
  obtain ⟨zd, hzd⟩ : ∃ zd : Array Value, zd = (digV []).toArray := ⟨_, rfl⟩
  have hdv : ∀ w, (zeroValue 75).run Tryz.prog w = .ok (.agg zd) w := by rw [hzd]; exact (zero_of_info (n := 32) (by kernel_rfl)).1
  have hzd32 : zd.size = 32 := by rw [hzd]; rfl
  have hb0 : Below w.heap.size w ((w.alloc (.cells zd 75)).alloc (.cells #[.int .u8 0, .int .u8 0, .int .u8 0, .int .u8 0] 105)) := ((Below.refl _ _).alloc (Nat.le_refl _) _).alloc (by simp) _
  have hd0 : Row ((w.alloc (.cells zd 75)).alloc (.cells #[.int .u8 0, .int .u8 0, .int .u8 0, .int .u8 0] 105)) w.heap.size 75 (digV []) := by rw [hzd]; exact heap_alloc2_old w _ _
  have hn0 : Row ((w.alloc (.cells zd 75)).alloc (.cells #[.int .u8 0, .int .u8 0, .int .u8 0, .int .u8 0] 105)) (w.heap.size + 1) 105 ([] ++ [.int .u8 0, .int .u8 0, .int .u8 0, .int .u8 0] ++ []) := heap_alloc2_new w _ _
  obtain ⟨w0, hw0⟩ : ∃ w0, (w.alloc (.cells zd 75)).alloc (.cells #[.int .u8 0, .int .u8 0, .int .u8 0, .int .u8 0] 105) = w0 := ⟨_, rfl⟩
  rw [hw0] at hb0 hd0 hn0
  have hr0 := hr.below hb0 hr.lt
  have hKBlt := hr.lt
  have hq0 : Cubes w0 := hq.below hb0 hq.1
  have z64 : IntKind.u64.wrap (i : Int) = i := by rw [IntKind.wrap_u64]; omega
  have HP : Hid (Calls Tryz.prog 51 #[.slice (some ⟨w.heap.size + 1, 0, none⟩) 4 4, .int .u64 (i : Nat)] w0 fun e w' => e = .returned (.tuple #[]) ∧ Row w' (w.heap.size + 1) 105 ([] ++ beV 4 i ++ []) ∧ Only (w.heap.size + 1) w0 w') := putHigh_any (w.heap.size + 1) 105 [] _ [] 4 4 i (by decide) rfl w0 hn0
  have H0 : Hid (Row w0 KB 71 (keyV K R1 R2) ∧ Cubes w0 ∧ Below w.heap.size w w0 ∧ Row w0 w.heap.size 75 (digV []) ∧ w.heap.size + 1 < w0.heap.size) := ⟨hr0, hq0, hb0, hd0, hn0.lt⟩
  clear hzd hr hq hr0 hq0 hb0 hd0 hn0
  go_enter Tryz.func27, Tryz.ntmps27
  go_wp2_with fail
  refine HP.out.mono ?_
  rintro e w1 ⟨rfl, hn1, ho1⟩
  rw [List.nil_append, List.append_nil, beV4] at hn1
  have hr1' := H0.out.1.only ho1 (by omega)
  have hd1 := H0.out.2.2.2.1.only ho1 (by omega)
  have hq1 := H0.out.2.1.only ho1 (by have := H0.out.2.1.1; have := H0.out.2.2.1.size; omega)
  have hb1 : Below w.heap.size w w1 := H0.out.2.2.1.trans ((ho1.below (by have := H0.out.2.2.2.2; omega)).mono (by omega))
  have hcv := run_convert_bytes_arg (P := Tryz.prog) w1 55 5 Tryz.underlying55 Tryz.underlying5 (w.heap.size + 1) 0 4 4 ((be4 i).map fun (x : Nat) => (x : Int)) rfl (fun j hj => by
    rw [Nat.zero_add, hn1.cell, byV_get _ _ hj, getD_at _ _ hj]
    have h1 : j < (be4 i).length := hj
    rw [List.getD_eq_getElem?_getD, List.getElem?_map, List.getElem?_eq_getElem h1]; rfl) 9 Tryz.underlying9
  obtain ⟨nb, hnb⟩ : ∃ nb, nb = strOfNums ((be4 i).map fun (x : Nat) => (x : Int)) := ⟨_, rfl⟩
  rw [← hnb] at hcv
  have hnn : numsOf nb = be4 i := by rw [hnb]; exact numsOf_str _ (be4_bytes i)
  have hns : nb.size = 4 := by rw [← numsOf_length, hnn]; rfl
  have H1 : Hid (Row w1 KB 71 (keyV K R1 R2) ∧ Cubes w1 ∧ Below w.heap.size w w1 ∧ Row w1 w.heap.size 75 (digV []) ∧ numsOf nb = be4 i) := ⟨hr1', hq1, hb1, hd1, hnn⟩
  clear hn1 ho1 hr1' hd1 hq1 hb1 hnb hnn HP
  go_wp2_with fail
  first
    | (rw [hcv]; go_wp2_with fail)
    | skip
  refine (mac_two KB K hKl hKb R1 R2 hR1 hR2 salt nb hl (by omega) w1 H1.out.2.1 H1.out.1).mono ?_
  rintro e w2 ⟨rfl, hb2⟩
  rw [H1.out.2.2.2.2]
  obtain ⟨D0, hD0⟩ : ∃ D0, D0 = macL K (numsOf salt ++ be4 i) := ⟨_, rfl⟩
  have hDl : D0.length = 32 := by rw [hD0]; exact macL_length _ _
  have HD0 : Hid (D0 = macL K (numsOf salt ++ be4 i)) := hD0
  rw [← hD0]
  clear hD0 hcv
  obtain ⟨ds, hds⟩ : ∃ ds, ds = (byV D0).toArray := ⟨_, rfl⟩
  have hsz2 : ds.size = 32 := by rw [hds]; simp [byV, hDl]
  have hone : ds.all (·.oneCell') = true := by rw [hds]; simp [byV, Value.oneCell']
  have hinfo : (Tryz.prog.info? 75).map (·.size) = some ds.size := by rw [hsz2]; kernel_rfl
  have hz32 : zd.size = ds.size := by rw [hzd32, hsz2]
  rw [← hds]
  have HDS : Hid (ds = (byV D0).toArray) := hds
  clear hds
  have hset : (w2.alloc (.cells zd 75)).setRow w2.heap.size ds = w2.alloc (.cells ds 75) := World.setRow_alloc_new _ _ _ _
  have k3 : (w2.alloc (.cells ds 75)).heap[w2.heap.size]? = some (.cells ds 75 (0, 0)) := heap_alloc_new w2 _
  have hb3 := hb2.alloc hb2.size (.cells ds 75)
  obtain ⟨w3, hw3⟩ : ∃ w3, w3 = w2.alloc (.cells ds 75) := ⟨_, rfl⟩
  rw [← hw3] at hset k3 hb3
  clear hw3
  have hrj : IntKind.i64.wrap ((rounds : Int) - 1) = ((rounds - 1 : Nat) : Int) := by rw [IntKind.wrap_i64]; omega
  obtain ⟨m, hm⟩ : ∃ m, m = rounds - 1 := ⟨_, rfl⟩
  rw [← hm] at hrj
  have HM : Hid (m = rounds - 1) := hm
  have hm1 : m ≤ 999 := by omega
  clear hm
  have hset4 : (w3.alloc (.cells zd 75)).setRow w3.heap.size ds = w3.alloc (.cells ds 75) := World.setRow_alloc_new _ _ _ _
  have k4 : Row (w3.alloc (.cells ds 75)) w3.heap.size 75 (byV D0) := by rw [HDS.out]; exact heap_alloc_new w3 _
  have hlt23 : w2.heap.size < w3.heap.size := (Array.getElem?_eq_some_iff.1 k3).1
  have k4u : Row (w3.alloc (.cells ds 75)) w2.heap.size 75 (byV D0) := by
    have h1 : Row w3 w2.heap.size 75 (byV D0) := by rw [HDS.out] at k3; exact k3
    exact (Below.heap_alloc w3 _ _ (by omega)).trans h1
  have hb4 := hb3.alloc hb3.size (.cells ds 75)
  obtain ⟨w4, hw4⟩ : ∃ w4, w4 = w3.alloc (.cells ds 75) := ⟨_, rfl⟩
  rw [← hw4] at hset4 k4 k4u hb4
  clear hw4
  go_wp2_with (first | refine wpList_load_row rfl 75 _ rfl w2.heap.size rfl 75 _ (0, 0) _ k3 Tryz.underlying75 rfl hinfo ?_ | (refine wpList_store_row rfl 75 _ _ rfl w2.heap.size ds rfl rfl 75 _ (heap_alloc_new w2 _) hinfo hz32 hone ?_; rw [hset]) | (refine wpList_store_row rfl 75 _ _ rfl w3.heap.size ds rfl rfl 75 _ (heap_alloc_new w3 _) hinfo hz32 hone ?_; rw [hset4]))
  have HL : Hid (Row w4 w2.heap.size 75 (byV D0) ∧ Row w4 w3.heap.size 75 (byV D0) ∧ Below w1.heap.size w1 w4) := ⟨k4u, k4, hb4⟩
  have hw12 : w1.heap.size ≤ w2.heap.size := hb2.size
  have H1' : Hid (w.heap.size < w1.heap.size ∧ KB < w1.heap.size) := ⟨H1.out.2.2.2.1.lt, H1.out.1.lt⟩
  clear k3 k4 k4u hb2 hb3 hb4 hset hset4 hone hinfo hz32 hsz2 HDS
  go_loopw [26] (fun c wr => ∃ j : Nat, j ≤ m ∧ c = .int .i64 j ∧ Row wr w2.heap.size 75 (byV (uL K D0 j)) ∧ Row wr w3.heap.size 75 (byV (aL K D0 j)) ∧ Below w1.heap.size w1 wr) (fun c _ => m - (intOf c).toNat)
  case atStart => exact ⟨0, Nat.zero_le _, rfl, HL.out.1, HL.out.2.1, HL.out.2.2⟩
  case round =>
    clear HL
    obtain ⟨j, hj, rfl, hu, ha, hb⟩ := hrel
    by_cases hlt : j < m
    · have j1 : (j : Int) < m := by omega
      have hul := uL_length K hDl j
      have hal := aL_length K hDl j
      have hub := uL_bytes K (show Bytes D0 by rw [HD0.out]; exact macL_bytes _ _) j
      have hab := aL_bytes K (show Bytes D0 by rw [HD0.out]; exact macL_bytes _ _) j
      have HN : Hid (uL K D0 (j + 1) = macL K (uL K D0 j) ∧ aL K D0 (j + 1) = xorB (aL K D0 j) (macL K (uL K D0 j))) := ⟨rfl, rfl⟩
      generalize uL K D0 j = uj at *
      generalize aL K D0 j = aj at *
      have hcv := run_convert_bytes_arg (P := Tryz.prog) wr 55 5 Tryz.underlying55 Tryz.underlying5 w2.heap.size 0 32 32 (uj.map fun (x : Nat) => (x : Int)) (by simp [hul]) (fun i hi => by
        rw [Nat.zero_add, hu.cell, byV_get _ _ (by rw [hul]; exact hi)]
        simp [List.getD, hul, hi]) 9 Tryz.underlying9
      obtain ⟨su, hsu⟩ : ∃ su, su = strOfNums (uj.map fun (x : Nat) => (x : Int)) := ⟨_, rfl⟩
      rw [← hsu] at hcv
      have hsn : numsOf su = uj := by rw [hsu]; exact numsOf_str _ hub
      have hss : su.size = 32 := by rw [← numsOf_length, hsn, hul]
      have hw23 : w3.heap.size < wr.heap.size := ha.lt
      have hw22 : w2.heap.size < wr.heap.size := hu.lt
      have H5 : Hid (Row wr w2.heap.size 75 (byV uj) ∧ Row wr w3.heap.size 75 (byV aj) ∧ Below w1.heap.size w1 wr ∧ numsOf su = uj) := ⟨hu, ha, hb, hsn⟩
      clear hu ha hb hsu hsn
      go_wp2_with fail
      first
        | (rw [hcv]; go_wp2_with fail)
        | skip
      refine (mac_one KB K hKl hKb R1 R2 hR1 hR2 su (by omega) wr (H1.out.2.1.below H5.out.2.2.1 H1.out.2.1.1) (H1.out.1.below H5.out.2.2.1 H1'.out.2)).mono ?_
      rintro e w5 ⟨rfl, hb5⟩
      rw [H5.out.2.2.2]
      obtain ⟨un, hun⟩ : ∃ un, un = macL K uj := ⟨_, rfl⟩
      have hunl : un.length = 32 := by rw [hun]; exact macL_length _ _
      have hunb : Bytes un := by rw [hun]; exact macL_bytes _ _
      rw [← hun]
      rw [← hun] at HN
      clear hun hcv
      have ku : w5.heap[w2.heap.size]? = some (.cells (byV uj).toArray 75 (0, 0)) := H5.out.1.below hb5 hw22
      have ka := H5.out.2.1.below hb5 hw23
      obtain ⟨ds, hds⟩ : ∃ ds, ds = (byV un).toArray := ⟨_, rfl⟩
      have hsz2 : ds.size = 32 := by rw [hds]; simp [byV, hunl]
      have hone : ds.all (·.oneCell') = true := by rw [hds]; simp [byV, Value.oneCell']
      have hinfo : (Tryz.prog.info? 75).map (·.size) = some ds.size := by rw [hsz2]; kernel_rfl
      have hs0 : (byV uj).toArray.size = ds.size := by rw [hsz2]; simp [byV, hul]
      rw [← hds]
      have ku6 : Row (w5.setRow w2.heap.size ds) w2.heap.size 75 (byV un) := by
        have := setRow_heap w5 w2.heap.size _ ds _ _ ku
        rw [hds] at this ⊢
        exact this
      have ka6 : Row (w5.setRow w2.heap.size ds) w3.heap.size 75 (byV aj) := (setRow_other _ _ _ _ (by omega)).trans ka
      have hb6 : Below w1.heap.size w1 (w5.setRow w2.heap.size ds) := below_rowH (H5.out.2.2.1.trans (hb5.mono H5.out.2.2.1.size)) hw12 ds
      obtain ⟨w6, hw6⟩ : ∃ w6, w5.setRow w2.heap.size ds = w6 := ⟨_, rfl⟩
      rw [hw6] at ku6 ka6 hb6
      clear hds
      go_wp2_with (refine wpList_store_row rfl 75 _ _ rfl w2.heap.size ds rfl rfl 75 _ ku hinfo hs0 hone ?_; rw [hw6])
      have H6 : Hid (Row w6 w2.heap.size 75 (byV un) ∧ Row w6 w3.heap.size 75 (byV aj) ∧ Below w1.heap.size w1 w6) := ⟨ku6, ka6, hb6⟩
      clear ku6 ka6 hb6 hw6 ku ka hone hinfo hs0 hsz2 hb5 H5
      go_loopw [33] (fun c wz => ∃ t : Nat, t ≤ 32 ∧ c = .int .i64 t ∧ Row wz w3.heap.size 75 (byV (xorB (aj.take t) (un.take t) ++ aj.drop t)) ∧ Only w3.heap.size w6 wz) (fun c _ => 32 - (intOf c).toNat)
      case atStart => exact ⟨0, Nat.zero_le _, rfl, H6.out.2.1, Only.refl _ _⟩
      case round =>
        obtain ⟨t, ht, rfl, hz, ho⟩ := hrel
        by_cases ht2 : t < 32
        · obtain ⟨x, hx⟩ : ∃ x, x = aj.getD t 0 := ⟨_, rfl⟩
          obtain ⟨y, hy⟩ : ∃ y, y = un.getD t 0 := ⟨_, rfl⟩
          have lx : x < 256 := by rw [hx]; exact getD_lt (by decide) hab t
          have ly : y < 256 := by rw [hy]; exact getD_lt (by decide) hunb t
          have hzr : Row wr w3.heap.size 75 (byV (xorB (aj.take t) (un.take t)) ++ [.int .u8 (x : Nat)] ++ byV (aj.drop (t + 1))) := by rw [hx]; exact xbRow hz hal ht2
          have hxl : (byV (xorB (aj.take t) (un.take t))).length = t := by simp [byV, xorB]; omega
          have cx := hzr.at hxl.symm
          have cy : wr.cell? ⟨w2.heap.size, t, none⟩ = some (.int .u8 (y : Nat)) := by
            rw [(H6.out.1.only ho (by omega)).cell, hy]
            exact byV_get un t (by omega)
          have fx : wr.frozen? ⟨w3.heap.size, t, none⟩ = false := hz.frozen t
          have bx : bits .xor .u8 (x : Int) (y : Int) = ((x ^^^ y : Nat) : Int) := u8_xor_nat x y lx ly
          obtain ⟨b1, hb1⟩ : ∃ b1, b1 = x ^^^ y := ⟨_, rfl⟩
          rw [← hb1] at bx
          have hz2 := hzr.set (.int .u8 (b1 : Nat)) hxl.symm
          rw [xbNext aj un t b1 hal hunl ht2 (by rw [hb1, hx, hy])] at hz2
          have HZ : Hid (Row (wr.setCell ⟨w3.heap.size, t, none⟩ (.int .u8 (b1 : Nat))) w3.heap.size 75 (byV (xorB (aj.take (t + 1)) (un.take (t + 1)) ++ aj.drop (t + 1))) ∧ Only w3.heap.size w6 (wr.setCell ⟨w3.heap.size, t, none⟩ (.int .u8 (b1 : Nat)))) := ⟨hz2, ho.setCell _ _⟩
          have t32 : (t : Int) < 32 := by omega
          clear hz ho hzr hz2 hb1 hx hy hxl
          go_wp2_with fail
          go_region_with (fail)
          all_goals
            go_wp2
            go_roundw
            case rel => exact ⟨t + 1, by omega, by go_num, HZ.out.1, HZ.out.2.drew⟩
            case measure => simp [intOf]; omega
        · obtain rfl : t = 32 := by omega
          have HF : Hid (Row wr w2.heap.size 75 (byV (uL K D0 (j + 1))) ∧ Row wr w3.heap.size 75 (byV (aL K D0 (j + 1))) ∧ Below w1.heap.size w1 wr) := by
            refine ⟨by rw [HN.out.1]; exact H6.out.1.only ho (by omega), ?_, H6.out.2.2.trans ((ho.below (Nat.le_of_lt H6.out.2.1.lt)).mono (by omega))⟩
            rw [HN.out.2]
            have h2 := hz
            rw [List.take_of_length_le (by omega), List.take_of_length_le (by omega), List.drop_eq_nil_of_le (by omega), List.append_nil] at h2
            exact h2
          clear hz ho
          go_wp2
          go_roundw
          case rel => exact ⟨j + 1, by omega, by go_num, HF.out.1, HF.out.2.1, HF.out.2.2⟩
          case measure => simp [intOf]; omega
    · obtain rfl : j = m := by omega
      obtain ⟨ds, hds⟩ : ∃ ds, ds = (byV (aL K D0 j)).toArray := ⟨_, rfl⟩
      have hsz2 : ds.size = 32 := by rw [hds]; simp [byV, aL_length K hDl j]
      have hone : ds.all (·.oneCell') = true := by rw [hds]; simp [byV, Value.oneCell']
      have hinfo : (Tryz.prog.info? 75).map (·.size) = some ds.size := by rw [hsz2]; kernel_rfl
      have ka : wr.heap[w3.heap.size]? = some (.cells ds 75 (0, 0)) := by rw [hds]; exact ha
      have hd9 : wr.heap[w.heap.size]? = some (.cells (digV []).toArray 75 (0, 0)) := H1.out.2.2.2.1.below hb H1'.out.1
      have hs0 : (digV []).toArray.size = ds.size := by rw [hsz2]; rfl
      have hl0 := run_loadVar_row (P := Tryz.prog) (wr.setRow w.heap.size ds) w.heap.size 75 75 ds (0, 0) _ (setRow_heap _ _ _ _ _ _ hd9) Tryz.underlying75 rfl hinfo
      have HF : Hid (ds = (byV (strB K (numsOf salt) rounds i)).toArray ∧ Below w.heap.size w (wr.setRow w.heap.size ds)) := ⟨by rw [hds, HD0.out, HM.out]; rfl, below_rowH (H1.out.2.2.1.trans (hb.mono H1.out.2.2.1.size)) (Nat.le_refl _) ds⟩
      clear hds hu ha hb
      go_wp2_with (first | refine wpList_load_row rfl 75 _ rfl w3.heap.size rfl 75 _ (0, 0) _ ka Tryz.underlying75 rfl hinfo ?_ | refine wpList_store_row rfl 75 _ _ rfl w.heap.size ds rfl rfl 75 _ hd9 hinfo hs0 hone ?_)
      exact bodyPost_ret (v := .agg ds) (by simp [results, Tryz.results27, asAddr, Act.put, hl0]) rfl ⟨by rw [HF.out.1], HF.out.2⟩
end Go.Proofs.YtdhiopbomnfmnaaGreatDoor.Sm
