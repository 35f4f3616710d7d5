/- box's state.sealTag, Seal and Open. · What box.Seal and box.Open tell, and the errors. · The law BoxBack, called with any texts, returns true, and changes nothing that was there. · The document's low and right: a number's word; a word turned to the right; and its 64 numbers k. -/
import Derived.Test.YtdhiopbomnfmnaaGreatDoorMg34
import Derived.Test.YtdhiopbomnfmnaaGreatDoorMg14
import Derived.Test.YtdhiopbomnfmnaaGreatDoorMg16
import Derived.WalkKit
import Derived.Laws.BitsAllLaws
import Derived.Laws.BitsLemmas
namespace Go.Proofs.YtdhiopbomnfmnaaGreatDoor.Bx
set_option maxRecDepth 20000
open Go.RowKit

/-- What a seal's tag is made of, and the tag. -/
def sealM (ad c : List Nat) : List Nat := fill16 ad ++ fill16 c ++ (leB 8 ad.length ++ leB 8 c.length)
def sealT (k ad c : List Nat) : List Nat := polyT (k.take 32) (sealM ad c)
theorem polyT_length (key l : List Nat) : (polyT key l).length = 16 := by simp [polyT, leB]
theorem polyT_bytes (key l : List Nat) : Bytes (polyT key l) := leB_bytes _ _

set_option maxRecDepth 10000 in
set_option maxHeartbeats 1000000 in
theorem sealTag_any (S : S16) (hok : S.ok) (g : Nat) (ad c : ByteArray) (had : ad.size < 1099511627776) (hc : c.size < 1099511627776) (w : World) (hr : Row w g 184 (wdV S.toL)) :
    Calls Tryz.prog 138 #[.pointer (some ⟨g, 0, none⟩), .string ad, .string c] w fun e w' => e = .returned (.string (strN (sealT (blkL (S.at 0)) (numsOf ad) (numsOf c)))) ∧ Below w.heap.size w w' := by
  have hBk := block_any S hok 0 (by decide) g w hr
  have hkl := blkL_length (S.at 0)
  have hkb := blkL_bytes (S.at 0)
  generalize blkL (S.at 0) = k at *
  obtain ⟨ds, hds⟩ : ∃ ds, ds = (byV k).toArray := ⟨_, rfl⟩
  rw [← hds] at hBk
  have hsz : ds.size = 64 := by rw [hds]; simp [byV, hkl]
  have hone : ds.all (·.oneCell') = true := by rw [hds]; simp [byV, Value.oneCell']
  have hinfo : (Tryz.prog.info? 66).map (·.size) = some ds.size := by rw [hsz]; kernel_rfl
  have HDS : Hid (ds = (byV k).toArray) := hds
  obtain ⟨K, hK⟩ : ∃ K, K = k.take 32 := ⟨_, rfl⟩
  have hKl : K.length = 32 := by rw [hK, List.length_take]; omega
  have hKb : Bytes K := by rw [hK]; exact hkb.take 32
  have hKs : (strN K).size = 32 := by rw [strN_size, hKl]
  have hKn : numsOf (strN K) = K := numsOf_strN K hKb
  have hOf := fun w => taggerOf_any (strN K) hKs w
  rw [hKn] at hOf
  obtain ⟨ts, hts⟩ : ∃ ts, ts = (tagC (wordAt (clampL K) 0) (wordAt (clampL K) 8) (wordAt (K.drop 16) 0) (wordAt (K.drop 16) 8) 0 0 0).toArray := ⟨_, rfl⟩
  rw [← hts] at hOf
  have hsz2 : ts.size = 7 := by rw [hts]; rfl
  have hone2 : ts.all (·.oneCell') = true := by rw [hts]; simp [tagC, Value.oneCell']
  have hinfo2 : (Tryz.prog.info? 194).map (·.size) = some ts.size := by rw [hsz2]; kernel_rfl
  have HTS : Hid (ts = (tagC (wordAt (clampL K) 0) (wordAt (clampL K) 8) (wordAt (K.drop 16) 0) (wordAt (K.drop 16) 8) 0 0 0).toArray) := hts
  have HE : Hid (strN (sealT k (numsOf ad) (numsOf c)) = strN (polyT K (fill16 (numsOf ad) ++ fill16 (numsOf c) ++ (leB 8 ad.size ++ leB 8 c.size)))) := by
    show _ = _
    rw [sealT, sealM, ← hK, numsOf_length, numsOf_length]
  rw [HE.out]
  clear hds hts hKn
  have HKF : Hid (K = k.take 32 ∧ k.length = 64) := ⟨hK, hkl⟩
  clear hK hr
  go_enter Tryz.func138, Tryz.ntmps138
  go_wp2_with fail
  refine hBk.mono ?_
  rintro e w1 ⟨rfl, hb1⟩
  clear hBk
  obtain ⟨w2, hw2⟩ : ∃ w2, w1.alloc (.cells ds 66) = w2 := ⟨_, rfl⟩
  have k2 : Row w2 w1.heap.size 66 (byV k) := by rw [← hw2, HDS.out]; exact heap_alloc_new w1 _
  have hb2 : Below w.heap.size w w2 := by rw [← hw2]; exact hb1.alloc hb1.size _
  have hcv := run_convert_bytes_arg (P := Tryz.prog) w2 55 5 Tryz.underlying55 Tryz.underlying5 w1.heap.size 0 32 64 (K.map fun (x : Nat) => (x : Int)) (by simp [hKl]) (fun i hi => by
    rw [Nat.zero_add, k2.cell, byV_get _ _ (by omega), HKF.out.1]
    simp only [List.getD_eq_getElem?_getD, List.getElem?_map, List.getElem?_take]
    rw [if_pos hi, List.getElem?_eq_getElem (by omega)]
    rfl) 9 Tryz.underlying9
  rw [show strOfNums (K.map fun (x : Nat) => (x : Int)) = strN K from rfl] at hcv
  go_wp2_with (refine wpList_store_row rfl 66 _ _ rfl w1.heap.size ds rfl rfl 66 _ (heap_alloc_new w1 _) hinfo (by rw [hsz]; rfl) hone ?_; rw [World.setRow_alloc_new, hw2])
  refine (hOf _).mono ?_
  rintro e w3 ⟨rfl, hb3⟩
  have hb3' := hb2.trans (hb3.mono hb2.size)
  clear hOf hcv k2 hb2 hb3 hw2 hone hinfo hsz hb1
  go_wp2_with (refine wpList_store_row rfl 194 _ _ rfl w3.heap.size ts rfl rfl 194 _ (heap_alloc_new w3 _) hinfo2 (by rw [hsz2]; rfl) hone2 ?_)
  rw [World.setRow_alloc_new]
  have hT : TagIn (w3.alloc (.cells ts 194)) w3.heap.size K [] := ⟨0, 0, 0, by decide, by decide, by decide, rfl, by rw [HTS.out]; exact heap_alloc_new w3 _⟩
  have hb4 := hb3'.alloc hb3'.size (.cells ts 194)
  generalize w3.alloc (.cells ts 194) = w4 at *
  have hlt3 := hb3'.size
  clear hone2 hinfo2 hsz2 HTS hb3'
  refine (takeFilled_any K hKb w3.heap.size [] rfl ad had w4 hT).mono ?_
  rintro e w5 ⟨rfl, hT5, ho5⟩
  rw [List.nil_append] at hT5
  have hb5 : Below w.heap.size w w5 := hb4.trans ((ho5.below (Nat.le_of_lt hT.lt)).mono hlt3)
  clear hT hb4 ho5
  go_wp2_with fail
  refine (takeFilled_any K hKb w3.heap.size _ (fill16_length _) c hc w5 hT5).mono ?_
  rintro e w6 ⟨rfl, hT6, ho6⟩
  have hb6 : Below w.heap.size w w6 := hb5.trans ((ho6.below (Nat.le_of_lt hT5.lt)).mono hlt3)
  have hl6 : (fill16 (numsOf ad) ++ fill16 (numsOf c)).length % 16 = 0 := by
    have h1 := fill16_length (numsOf ad)
    have h2 := fill16_length (numsOf c)
    rw [List.length_append]; omega
  clear hT5 hb5 ho6
  go_wp2_with fail
  refine (takeLengths_any K hKb w3.heap.size _ hl6 ad.size c.size had hc w6 hT6).mono ?_
  rintro e w7 ⟨rfl, hT7, ho7⟩
  have hb7 : Below w.heap.size w w7 := hb6.trans ((ho7.below (Nat.le_of_lt hT6.lt)).mono hlt3)
  clear hT6 hb6 ho7 hl6
  go_wp2_with fail
  refine (tag_told K hKl hKb w3.heap.size _ w7 hT7).mono ?_
  rintro e w8 ⟨rfl, hb8⟩
  have hb9 := hb7.trans (hb8.mono hb7.size)
  clear hb7 hb8 hT7
  go_wp2
  go_ret
  exact ⟨congrArg (fun x => Ending.returned (.string (strN (polyT K x)))) (List.append_assoc _ _ _).symm, hb9⟩

/-- What Seal tells where the lengths are right. -/
def sealC (key nonce s : ByteArray) : List Nat := chaS (numsOf key) (numsOf nonce) 1 (numsOf s)
def sealG (key nonce ad : ByteArray) (c : List Nat) : List Nat := sealT (chaL (numsOf key) (numsOf nonce) 0) (numsOf ad) c
theorem strN_append (a b : List Nat) : strN a ++ strN b = strN (a ++ b) := by
  unfold strN strOfNums
  apply ByteArray.ext
  simp

set_option maxRecDepth 10000 in
set_option maxHeartbeats 1000000 in
theorem Seal_ok (key nonce ad s : ByteArray) (hk : key.size = 32) (hn : nonce.size = 12) (had : ad.size ≤ 1048576) (hs : s.size ≤ 1048576) (w : World) :
    Calls Tryz.prog 134 #[.string key, .string nonce, .string ad, .string s] w fun e w' => e = .returned (.tuple #[.string (strN (sealC key nonce s ++ sealG key nonce ad (sealC key nonce s))), .int .i64 0]) ∧ Below w.heap.size w w' := by
  have hf := fun w => fit_yes key nonce hk hn w
  have hSt := fun w => stateOf_any key nonce hk hn w
  have hok := st16_ok key nonce 0 (by decide)
  have hcb : Bytes (sealC key nonce s) := chaS_bytes _ _ _ _ (numsOf_bytes s)
  have hcl : (sealC key nonce s).length = s.size := by rw [sealC, chaS_length, numsOf_length]
  have hSm := fun g w hr => stream_any (st16 (numsOf key) (numsOf nonce) 0) hok 1 s (by omega) hs g w hr
  have hTg := fun g w hr => sealTag_any (st16 (numsOf key) (numsOf nonce) 0) hok g ad (strN (sealC key nonce s)) (by omega) (by rw [strN_size, hcl]; omega) w hr
  rw [← chaS_strm] at hSm
  rw [numsOf_strN _ hcb] at hTg
  have hgl : (sealG key nonce ad (sealC key nonce s)).length = 16 := polyT_length _ _
  have hSm' : ∀ g w, Row w g 184 (wdV (st16 (numsOf key) (numsOf nonce) 0).toL) → Calls Tryz.prog 139 #[.pointer (some ⟨g, 0, none⟩), .int .i64 1, .string s] w fun e w' => e = .returned (.string (strN (sealC key nonce s))) ∧ Below w.heap.size w w' := hSm
  have hTg' : ∀ g w, Row w g 184 (wdV (st16 (numsOf key) (numsOf nonce) 0).toL) → Calls Tryz.prog 138 #[.pointer (some ⟨g, 0, none⟩), .string ad, .string (strN (sealC key nonce s))] w fun e w' => e = .returned (.string (strN (sealG key nonce ad (sealC key nonce s)))) ∧ Below w.heap.size w w' := hTg
  clear hSm hTg
  rw [← strN_append]
  have hz1 : (strN (sealC key nonce s)).size = s.size := by rw [strN_size, hcl]
  have hz2 : (strN (sealG key nonce ad (sealC key nonce s))).size = 16 := by rw [strN_size, hgl]
  generalize strN (sealG key nonce ad (sealC key nonce s)) = G at *
  generalize strN (sealC key nonce s) = C at *
  obtain ⟨CG, hCG⟩ : ∃ CG, CG = C ++ G := ⟨_, rfl⟩
  have hadd : ∀ w', (Op.stringOp .add C G).run Tryz.prog w' = .ok (.string CG) w' := fun w' => by rw [hCG]; exact run_string_add_sum (P := Tryz.prog) (w := w') C G (by omega)
  rw [← hCG]
  generalize st16 (numsOf key) (numsOf nonce) 0 = S at *
  obtain ⟨ds, hds⟩ : ∃ ds, ds = (wdV S.toL).toArray := ⟨_, rfl⟩
  rw [← hds] at hSt
  have hsz : ds.size = 16 := by rw [hds]; rfl
  have hone : ds.all (·.oneCell') = true := by rw [hds]; simp [wdV, Value.oneCell']
  have hinfo : (Tryz.prog.info? 184).map (·.size) = some ds.size := by rw [hsz]; kernel_rfl
  have HDS : Hid (ds = (wdV S.toL).toArray) := hds
  clear hds hCG hcb hcl hgl
  go_enter Tryz.func134, Tryz.ntmps134
  go_wp2_with fail
  refine (hf _).mono ?_
  rintro e w' ⟨rfl, rfl⟩
  clear hf
  go_wp2_with fail
  refine (hSt _).mono ?_
  rintro e w1 ⟨rfl, hb1⟩
  clear hSt
  go_wp2_with (refine wpList_store_row rfl 184 _ _ rfl w1.heap.size ds rfl rfl 184 _ (heap_alloc_new w1 _) hinfo (by rw [hsz]; rfl) hone ?_)
  rw [World.setRow_alloc_new]
  have k2 : Row (w1.alloc (.cells ds 184)) w1.heap.size 184 (wdV S.toL) := by rw [HDS.out]; exact heap_alloc_new w1 _
  have hb2 := hb1.alloc hb1.size (.cells ds 184)
  generalize w1.alloc (.cells ds 184) = w2 at *
  clear hone hinfo hsz HDS
  refine (hSm' w1.heap.size w2 k2).mono ?_
  rintro e w3 ⟨rfl, hb3⟩
  have k3 := k2.below hb3 k2.lt
  have hb4 := hb2.trans (hb3.mono hb2.size)
  clear k2 hb2 hb3 hSm'
  go_wp2_with fail
  refine (hTg' w1.heap.size w3 k3).mono ?_
  rintro e w4 ⟨rfl, hb5⟩
  have hb6 := hb4.trans (hb5.mono hb4.size)
  clear k3 hb4 hb5 hTg'
  go_wp2
  go_ret2
  exact ⟨rfl, hb6⟩

/-- What Open tells where the lengths are right, and the error. -/
def openC (s : ByteArray) : ByteArray := s.extract 0 (s.size - 16)
def openG (s : ByteArray) : ByteArray := s.extract (s.size - 16) s.size
def openB (key nonce ad s : ByteArray) : Prop := openG s = strN (sealG key nonce ad (numsOf (openC s)))
instance (key nonce ad s : ByteArray) : Decidable (openB key nonce ad s) := inferInstanceAs (Decidable (_ = _))

set_option maxRecDepth 10000 in
set_option maxHeartbeats 1000000 in
theorem Open_short (key nonce ad s : ByteArray) (hk : key.size = 32) (hn : nonce.size = 12) (hs : s.size < 16) (w : World) :
    Calls Tryz.prog 132 #[.string key, .string nonce, .string ad, .string s] w fun e w' => e = .returned (.tuple #[.string ⟨#[]⟩, .int .i64 3]) ∧ w' = w := by
  have hf := fun w => fit_yes key nonce hk hn w
  have h1 : (s.size : Int) < 16 := by omega
  go_enter Tryz.func132, Tryz.ntmps132
  go_wp2_with fail
  refine (hf _).mono ?_
  rintro e w' ⟨rfl, rfl⟩
  clear hf
  go_wp2
  go_ret2
  exact ⟨rfl, rfl⟩

set_option maxRecDepth 10000 in
set_option maxHeartbeats 1000000 in
theorem Open_long (key nonce ad s : ByteArray) (hk : key.size = 32) (hn : nonce.size = 12) (had : ad.size ≤ 1048576) (hs : s.size ≤ 1048576) (h16 : 16 ≤ s.size) (w : World) :
    Calls Tryz.prog 132 #[.string key, .string nonce, .string ad, .string s] w fun e w' => e = .returned (if openB key nonce ad s then .tuple #[.string (strN (chaS (numsOf key) (numsOf nonce) 1 (numsOf (openC s)))), .int .i64 0] else .tuple #[.string ⟨#[]⟩, .int .i64 10]) ∧ Below w.heap.size w w' := by
  have hf := fun w => fit_yes key nonce hk hn w
  have hSt := fun w => stateOf_any key nonce hk hn w
  have hok := st16_ok key nonce 0 (by decide)
  have hcs : (openC s).size = s.size - 16 := by unfold openC; simp
  have hgs : (openG s).size = 16 := by unfold openG; simp; omega
  have hSm : ∀ g w, Row w g 184 (wdV (st16 (numsOf key) (numsOf nonce) 0).toL) → Calls Tryz.prog 139 #[.pointer (some ⟨g, 0, none⟩), .int .i64 1, .string (openC s)] w fun e w' => e = .returned (.string (strN (chaS (numsOf key) (numsOf nonce) 1 (numsOf (openC s))))) ∧ Below w.heap.size w w' := fun g w hr => stream_any (st16 (numsOf key) (numsOf nonce) 0) hok 1 (openC s) (by omega) (by omega) g w hr
  have hTg : ∀ g w, Row w g 184 (wdV (st16 (numsOf key) (numsOf nonce) 0).toL) → Calls Tryz.prog 138 #[.pointer (some ⟨g, 0, none⟩), .string ad, .string (openC s)] w fun e w' => e = .returned (.string (strN (sealG key nonce ad (numsOf (openC s))))) ∧ Below w.heap.size w w' := fun g w hr => sealTag_any (st16 (numsOf key) (numsOf nonce) 0) hok g ad (openC s) (by omega) (by omega) w hr
  have hSame := fun w => same_any (openG s) (strN (sealG key nonce ad (numsOf (openC s)))) (by unfold maxLen; omega) w
  have hd : decide (openG s = strN (sealG key nonce ad (numsOf (openC s)))) = decide (openB key nonce ad s) := rfl
  rw [hd] at hSame
  have v1 : IntKind.i64.wrap ((s.size : Int) - 16) = ((s.size - 16 : Nat) : Int) := by rw [IntKind.wrap_i64]; omega
  have x1 : s.extract 0 (s.size - 16) = openC s := rfl
  have x2 : s.extract (s.size - 16) s.size = openG s := rfl
  generalize strN (sealG key nonce ad (numsOf (openC s))) = T at *
  generalize strN (chaS (numsOf key) (numsOf nonce) 1 (numsOf (openC s))) = U at *
  have hlt : ¬ (s.size : Int) < 16 := by omega
  obtain ⟨m, hm⟩ : ∃ m, m = s.size - 16 := ⟨_, rfl⟩
  rw [← hm] at v1 x1 x2
  have v2 : (s.size : Int) - 16 = m := by omega
  have v3 : IntKind.i64.wrap (m : Int) = m := by rw [IntKind.wrap_i64]; omega
  have i1 : (m : Int) ≤ s.size := by omega
  generalize openC s = C at *
  generalize openG s = G at *
  generalize st16 (numsOf key) (numsOf nonce) 0 = S at *
  obtain ⟨ds, hds⟩ : ∃ ds, ds = (wdV S.toL).toArray := ⟨_, rfl⟩
  rw [← hds] at hSt
  have hsz : ds.size = 16 := by rw [hds]; rfl
  have hone : ds.all (·.oneCell') = true := by rw [hds]; simp [wdV, Value.oneCell']
  have hinfo : (Tryz.prog.info? 184).map (·.size) = some ds.size := by rw [hsz]; kernel_rfl
  have HDS : Hid (ds = (wdV S.toL).toArray) := hds
  have HM : Hid (m = s.size - 16 ∧ C.size = s.size - 16) := ⟨hm, hcs⟩
  clear hds hm hd hcs
  by_cases hB : openB key nonce ad s
  · rw [if_pos hB]
    rw [decide_eq_true hB] at hSame
    clear hB
    go_enter Tryz.func132, Tryz.ntmps132
    go_wp2_with fail
    refine (hf _).mono ?_
    rintro e w' ⟨rfl, rfl⟩
    clear hf
    go_wp2_with fail
    refine (hSt _).mono ?_
    rintro e w1 ⟨rfl, hb1⟩
    clear hSt
    obtain ⟨w2, hw2⟩ : ∃ w2, w1.alloc (.cells ds 184) = w2 := ⟨_, rfl⟩
    have k2 : Row w2 w1.heap.size 184 (wdV S.toL) := by rw [← hw2, HDS.out]; exact heap_alloc_new w1 _
    have hb2 : Below w'.heap.size w' w2 := by rw [← hw2]; exact hb1.alloc hb1.size (.cells ds 184)
    go_wp2_with (refine wpList_store_row rfl 184 _ _ rfl w1.heap.size ds rfl rfl 184 _ (heap_alloc_new w1 _) hinfo (by rw [hsz]; rfl) hone ?_; rw [World.setRow_alloc_new, hw2])
    clear hw2 hone hinfo hsz HDS hb1
    go_quiet (fail)
    go_wp2_with fail
    refine (hTg w1.heap.size (w2.drewN _) k2).mono ?_
    rintro e w3 ⟨rfl, hb3⟩
    have k3 := Row.below (w := w2.drewN _) k2 hb3 k2.lt
    have hb4 := (bdrewN hb2 _).trans (hb3.mono (by exact hb2.size))
    clear k2 hb2 hb3 hTg
    go_wp2_with fail
    refine (hSame _).mono ?_
    rintro e w4 ⟨rfl, hb5⟩
    have k4 := k3.below hb5 k3.lt
    have hb6 := hb4.trans (hb5.mono hb4.size)
    clear k3 hb4 hb5 hSame
    go_wp2_with fail
    refine (hSm w1.heap.size w4 k4).mono ?_
    rintro e w5 ⟨rfl, hb7⟩
    have hb8 := hb6.trans (hb7.mono hb6.size)
    clear k4 hb6 hb7 hSm
    go_wp2
    go_ret2
    exact ⟨rfl, hb8⟩
  · rw [if_neg hB]
    rw [decide_eq_false hB] at hSame
    clear hB
    go_enter Tryz.func132, Tryz.ntmps132
    go_wp2_with fail
    refine (hf _).mono ?_
    rintro e w' ⟨rfl, rfl⟩
    clear hf
    go_wp2_with fail
    refine (hSt _).mono ?_
    rintro e w1 ⟨rfl, hb1⟩
    clear hSt
    obtain ⟨w2, hw2⟩ : ∃ w2, w1.alloc (.cells ds 184) = w2 := ⟨_, rfl⟩
    have k2 : Row w2 w1.heap.size 184 (wdV S.toL) := by rw [← hw2, HDS.out]; exact heap_alloc_new w1 _
    have hb2 : Below w'.heap.size w' w2 := by rw [← hw2]; exact hb1.alloc hb1.size (.cells ds 184)
    go_wp2_with (refine wpList_store_row rfl 184 _ _ rfl w1.heap.size ds rfl rfl 184 _ (heap_alloc_new w1 _) hinfo (by rw [hsz]; rfl) hone ?_; rw [World.setRow_alloc_new, hw2])
    clear hw2 hone hinfo hsz HDS hb1
    go_quiet (fail)
    go_wp2_with fail
    refine (hTg w1.heap.size (w2.drewN _) k2).mono ?_
    rintro e w3 ⟨rfl, hb3⟩
    have k3 := Row.below (w := w2.drewN _) k2 hb3 k2.lt
    have hb4 := (bdrewN hb2 _).trans (hb3.mono (by exact hb2.size))
    clear k2 hb2 hb3 hTg
    go_wp2_with fail
    refine (hSame _).mono ?_
    rintro e w4 ⟨rfl, hb5⟩
    have k4 := k3.below hb5 k3.lt
    have hb6 := hb4.trans (hb5.mono hb4.size)
    clear k3 hb4 hb5 hSame
    clear k4 hSm
    go_wp2
    go_ret2
    exact ⟨rfl, hb6⟩
end Go.Proofs.YtdhiopbomnfmnaaGreatDoor.Bx

namespace Go.Proofs.YtdhiopbomnfmnaaGreatDoor.Bx
set_option maxRecDepth 20000
open Go.RowKit

/-- What Seal and Open tell, and the errors. -/
def fitP (key nonce : ByteArray) : Prop := key.size = 32 ∧ nonce.size = 12
instance (key nonce : ByteArray) : Decidable (fitP key nonce) := inferInstanceAs (Decidable (_ ∧ _))
def sealS (key nonce ad s : ByteArray) : ByteArray := if fitP key nonce then strN (sealC key nonce s ++ sealG key nonce ad (sealC key nonce s)) else ⟨#[]⟩
def sealE (key nonce : ByteArray) : Nat := if fitP key nonce then 0 else 1
def openE (key nonce ad s : ByteArray) : Nat := if fitP key nonce then if s.size < 16 then 3 else if openB key nonce ad s then 0 else 10 else 1
def openS (key nonce ad s : ByteArray) : ByteArray := if openE key nonce ad s = 0 then strN (chaS (numsOf key) (numsOf nonce) 1 (numsOf (openC s))) else ⟨#[]⟩

theorem Seal_any (key nonce ad s : ByteArray) (had : ad.size ≤ 1048576) (hs : s.size ≤ 1048576) (w : World) :
    Calls Tryz.prog 134 #[.string key, .string nonce, .string ad, .string s] w fun e w' => e = .returned (.tuple #[.string (sealS key nonce ad s), .int .i64 (sealE key nonce : Nat)]) ∧ Below w.heap.size w w' := by
  unfold sealS sealE
  by_cases h : fitP key nonce
  · rw [if_pos h, if_pos h]
    exact Seal_ok key nonce ad s h.1 h.2 had hs w
  · rw [if_neg h, if_neg h]
    refine (Seal_bad key nonce ad s h w).mono ?_
    rintro e w' ⟨rfl, rfl⟩
    exact ⟨rfl, Below.refl _ _⟩
theorem Open_any (key nonce ad s : ByteArray) (had : ad.size ≤ 1048576) (hs : s.size ≤ 1048576) (w : World) :
    Calls Tryz.prog 132 #[.string key, .string nonce, .string ad, .string s] w fun e w' => e = .returned (.tuple #[.string (openS key nonce ad s), .int .i64 (openE key nonce ad s : Nat)]) ∧ Below w.heap.size w w' := by
  by_cases h : fitP key nonce
  · by_cases h16 : s.size < 16
    · have e1 : openE key nonce ad s = 3 := by unfold openE; rw [if_pos h, if_pos h16]
      have e2 : openS key nonce ad s = ⟨#[]⟩ := by unfold openS; rw [e1]; rfl
      rw [e1, e2]
      refine (Open_short key nonce ad s h.1 h.2 h16 w).mono ?_
      rintro e w' ⟨rfl, rfl⟩
      exact ⟨rfl, Below.refl _ _⟩
    · have ho := Open_long key nonce ad s h.1 h.2 had hs (by omega) w
      by_cases hB : openB key nonce ad s
      · have e1 : openE key nonce ad s = 0 := by unfold openE; rw [if_pos h, if_neg h16, if_pos hB]
        have e2 : openS key nonce ad s = strN (chaS (numsOf key) (numsOf nonce) 1 (numsOf (openC s))) := by unfold openS; rw [if_pos e1]
        rw [if_pos hB] at ho
        rw [e1, e2]
        exact ho
      · have e1 : openE key nonce ad s = 10 := by unfold openE; rw [if_pos h, if_neg h16, if_neg hB]
        have e2 : openS key nonce ad s = ⟨#[]⟩ := by unfold openS; rw [e1]; rfl
        rw [if_neg hB] at ho
        rw [e1, e2]
        exact ho
  · have e1 : openE key nonce ad s = 1 := by unfold openE; rw [if_neg h]
    have e2 : openS key nonce ad s = ⟨#[]⟩ := by unfold openS; rw [e1]; rfl
    rw [e1, e2]
    refine (Open_bad key nonce ad s h w).mono ?_
    rintro e w' ⟨rfl, rfl⟩
    exact ⟨rfl, Below.refl _ _⟩

end Go.Proofs.YtdhiopbomnfmnaaGreatDoor.Bx

namespace Go.Proofs.YtdhiopbomnfmnaaGreatDoor.Bx
set_option maxRecDepth 20000
open Go.RowKit

theorem back_math (key nonce ad s : ByteArray) :
    (strN (sealC key nonce s ++ sealG key nonce ad (sealC key nonce s))).size = s.size + 16 ∧ openB key nonce ad (strN (sealC key nonce s ++ sealG key nonce ad (sealC key nonce s))) ∧
    strN (chaS (numsOf key) (numsOf nonce) 1 (numsOf (openC (strN (sealC key nonce s ++ sealG key nonce ad (sealC key nonce s)))))) = s := by
  have hcb : Bytes (sealC key nonce s) := chaS_bytes _ _ _ _ (numsOf_bytes s)
  have hcl : (sealC key nonce s).length = s.size := by rw [sealC, chaS_length, numsOf_length]
  have hgl : ∀ c, (sealG key nonce ad c).length = 16 := fun c => polyT_length _ _
  have hgb : ∀ c, Bytes (sealG key nonce ad c) := fun c => polyT_bytes _ _
  have hsz : (strN (sealC key nonce s ++ sealG key nonce ad (sealC key nonce s))).size = s.size + 16 := by rw [strN_size, List.length_append, hcl, hgl]
  have hnum : numsOf (strN (sealC key nonce s ++ sealG key nonce ad (sealC key nonce s))) = sealC key nonce s ++ sealG key nonce ad (sealC key nonce s) := numsOf_strN _ (hcb.append (hgb _))
  have hoc : numsOf (openC (strN (sealC key nonce s ++ sealG key nonce ad (sealC key nonce s)))) = sealC key nonce s := by
    rw [openC, numsOf_extract, hnum, hsz, List.drop_zero, show s.size + 16 - 16 - 0 = (sealC key nonce s).length by omega, List.take_left]
  have hog : numsOf (openG (strN (sealC key nonce s ++ sealG key nonce ad (sealC key nonce s)))) = sealG key nonce ad (sealC key nonce s) := by
    rw [openG, numsOf_extract, hnum, hsz, show s.size + 16 - 16 = (sealC key nonce s).length by omega, List.drop_left, List.take_of_length_le (by rw [hgl]; omega)]
  refine ⟨hsz, ?_, ?_⟩
  · unfold openB
    rw [hoc]
    exact (strN_numsOf _).symm.trans (congrArg strN hog)
  · rw [hoc, sealC, chaS_twice, strN_numsOf]

end Go.Proofs.YtdhiopbomnfmnaaGreatDoor.Bx

namespace Go.Proofs.YtdhiopbomnfmnaaGreatDoor.Sm
set_option maxRecDepth 20000
open Go.RowKit

theorem wraps_i64 (n : Int) (h0 : 0 ≤ n) (h1 : n < 2 ^ 63) : IntKind.i64.wrap n = n := by rw [IntKind.wrap_i64]; omega
theorem i64_and_nat (a b : Nat) (ha : a < 9223372036854775808) (hb : b < 9223372036854775808) : bits .and .i64 (a : Int) (b : Int) = ((a &&& b : Nat) : Int) := (bits_nat .i64 63 (by decide) wraps_i64 a b ha hb).1
theorem i64_or_nat (a b : Nat) (ha : a < 9223372036854775808) (hb : b < 9223372036854775808) : bits .or .i64 (a : Int) (b : Int) = ((a ||| b : Nat) : Int) := (bits_nat .i64 63 (by decide) wraps_i64 a b ha hb).2
theorem i64_xor_nat (a b : Nat) (ha : a < 9223372036854775808) (hb : b < 9223372036854775808) : bits .xor .i64 (a : Int) (b : Int) = ((a ^^^ b : Nat) : Int) := by
  have hx : a ^^^ b < 2 ^ 63 := Nat.xor_lt_two_pow ha hb
  show IntKind.i64.wrap ((BitVec.ofInt 64 (a : Int) ^^^ BitVec.ofInt 64 (b : Int)).toNat : Int) = _
  rw [BitVec.toNat_xor, ofInt_u64 a (by omega), ofInt_u64 b (by omega)]
  exact wraps_i64 _ (Int.natCast_nonneg _) (by exact_mod_cast hx)

theorem low_any (n : Nat) (h : n < 9223372036854775808) (w : World) :
    Calls Tryz.prog 71 #[.int .i64 n] w fun e w' => e = .returned (.int .i64 ((n % 4294967296 : Nat) : Int)) ∧ w' = w := by
  have hb : bits .and .i64 (n : Int) 4294967295 = ((n % 4294967296 : Nat) : Int) := by
    rw [show (4294967295 : Int) = ((4294967295 : Nat) : Int) from rfl, i64_and_nat n _ h (by decide), nat_mask32]
  go_enter Tryz.func71, Tryz.ntmps71
  go_wp2
  go_ret
  exact ⟨congrArg (fun z => Ending.returned (.int .i64 z)) (by first | rfl | exact hb), rfl⟩

theorem low_z (z : Int) (n : Nat) (hz : z = (n : Int)) (h : n < 9223372036854775808) (w : World) :
    Calls Tryz.prog 71 #[.int .i64 z] w fun e w' => e = .returned (.int .i64 ((n % 4294967296 : Nat) : Int)) ∧ w' = w := by
  subst hz
  exact low_any n h w
theorem turn_lt (x n : Nat) (hx : x < 4294967296) (h1 : 2 ≤ n) : x * 2 ^ (32 - n) < 4611686018427387904 := by
  have h2 : 2 ^ (32 - n) ≤ 2 ^ 30 := Nat.pow_le_pow_right (by decide) (by omega)
  have h3 : x * 2 ^ (32 - n) ≤ x * 2 ^ 30 := Nat.mul_le_mul_left x h2
  have h4 : (2 : Nat) ^ 30 = 1073741824 := by decide
  rw [h4] at h3
  omega
theorem turn_bits (x n : Nat) (hx : x < 4294967296) (h1 : 2 ≤ n) : bits .or .i64 ((x : Int) / 2 ^ n) (IntKind.i64.wrap ((x : Int) * 2 ^ (32 - n))) = ((x / 2 ^ n ||| x * 2 ^ (32 - n) : Nat) : Int) := by
  have hl := turn_lt x n hx h1
  have e1 : (x : Int) / 2 ^ n = ((x / 2 ^ n : Nat) : Int) := by rw [Int.natCast_ediv, Int.natCast_pow]; rfl
  have e2 : (x : Int) * 2 ^ (32 - n) = ((x * 2 ^ (32 - n) : Nat) : Int) := by rw [Int.natCast_mul, Int.natCast_pow]; rfl
  have hd : x / 2 ^ n ≤ x := Nat.div_le_self _ _
  rw [e1, e2, wraps_i64 _ (Int.natCast_nonneg _) (by omega), i64_or_nat _ _ (by omega) (by omega)]

set_option maxHeartbeats 400000 in
theorem rright_any (x n : Nat) (hx : x < 4294967296) (h1 : 2 ≤ n) (h2 : n ≤ 31) (w : World) :
    Calls Tryz.prog 70 #[.int .i64 x, .int .i64 n] w fun e w' => e = .returned (.int .i64 (rotr x n : Nat)) ∧ w' = w.drew := by
  have hlt : x / 2 ^ n ||| x * 2 ^ (32 - n) < 9223372036854775808 := by
    have h1' := turn_lt x n hx h1
    have hd : x / 2 ^ n ≤ x := Nat.div_le_self _ _
    exact Nat.or_lt_two_pow (n := 63) (by omega) (by omega)
  have e1 : IntKind.i64.wrap (32 - (n : Int)) = ((32 - n : Nat) : Int) := by rw [IntKind.wrap_i64]; omega
  have e2 : ¬ (n : Int) < 0 := by omega
  have e3 : ¬ ((32 - n : Nat) : Int) < 0 := by omega
  have e4 : (0 : Int) ≤ ((32 - n : Nat) : Int) := by omega
  go_enter Tryz.func70, Tryz.ntmps70
  go_wp2_with fail
  go_region_held3 (fun _ => True) (simp [go_sem, *]) (first | (go_at_call 71; refine (low_z _ (x / 2 ^ n ||| x * 2 ^ (32 - n)) (turn_bits x n hx h1) hlt _).mono ?_; rintro e w1 ⟨rfl, rfl⟩))
  go_wp2
  go_ret
  exact ⟨rfl, rfl⟩

theorem keys_any (w : World) :
    Calls Tryz.prog 68 #[] w fun e w' => e = .returned (.slice (some ⟨w.heap.size, 0, none⟩) 64 64) ∧ Row w' w.heap.size 3 (keyL.map fun (x : Nat) => Value.int .i64 (x : Int)) ∧ Below w.heap.size w w' := by
  go_enter Tryz.func68, Tryz.ntmps68
  go_wp2
  go_ret
  exact ⟨rfl, heap_alloc_new w _, (Below.refl _ _).alloc (Nat.le_refl _) _⟩
end Go.Proofs.YtdhiopbomnfmnaaGreatDoor.Sm
