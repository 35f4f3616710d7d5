/- box's state.sealTag, Seal and Open. -/
import Derived.Test.YtfmaajfohieneaaGreatDoorMg29
namespace Go.Proofs.YtfmaajfohieneaaGreatDoor.Bx
set_option maxRecDepth 20000
open Go.RowKit

/-- What a seal's tag is made of, and the tag. -/
def sealM (ad c : List Nat) : List Nat := fill16 ad ++ fill16 c ++ (leB 8 ad.length ++ leB 8 c.length)
def sealT (k ad c : List Nat) : List Nat := polyT (k.take 32) (sealM ad c)
theorem polyT_length (key l : List Nat) : (polyT key l).length = 16 := by simp [polyT, leB]
theorem polyT_bytes (key l : List Nat) : Bytes (polyT key l) := leB_bytes _ _

set_option maxRecDepth 10000 in
set_option maxHeartbeats 1000000 in
theorem sealTag_any (S : S16) (hok : S.ok) (g : Nat) (ad c : ByteArray) (had : ad.size < 1099511627776) (hc : c.size < 1099511627776) (w : World) (hr : Row w g 139 (wdV S.toL)) :
    Calls Tryz.prog 104 #[.pointer (some ⟨g, 0, none⟩), .string ad, .string c] w fun e w' => e = .returned (.string (strN (sealT (blkL (S.at 0)) (numsOf ad) (numsOf c)))) ∧ Below w.heap.size w w' := by
  have hBk := block_any S hok 0 (by decide) g w hr
  have hkl := blkL_length (S.at 0)
  have hkb := blkL_bytes (S.at 0)
  generalize blkL (S.at 0) = k at *
  obtain ⟨ds, hds⟩ : ∃ ds, ds = (byV k).toArray := ⟨_, rfl⟩
  rw [← hds] at hBk
  have hsz : ds.size = 64 := by rw [hds]; simp [byV, hkl]
  have hone : ds.all (·.oneCell') = true := by rw [hds]; simp [byV, Value.oneCell']
  have hinfo : (Tryz.prog.info? 58).map (·.size) = some ds.size := by rw [hsz]; kernel_rfl
  have HDS : Hid (ds = (byV k).toArray) := hds
  obtain ⟨K, hK⟩ : ∃ K, K = k.take 32 := ⟨_, rfl⟩
  have hKl : K.length = 32 := by rw [hK, List.length_take]; omega
  have hKb : Bytes K := by rw [hK]; exact hkb.take 32
  have hKs : (strN K).size = 32 := by rw [strN_size, hKl]
  have hKn : numsOf (strN K) = K := numsOf_strN K hKb
  have hOf := fun w => taggerOf_any (strN K) hKs w
  rw [hKn] at hOf
  obtain ⟨ts, hts⟩ : ∃ ts, ts = (tagC (wordAt (clampL K) 0) (wordAt (clampL K) 8) (wordAt (K.drop 16) 0) (wordAt (K.drop 16) 8) 0 0 0).toArray := ⟨_, rfl⟩
  rw [← hts] at hOf
  have hsz2 : ts.size = 7 := by rw [hts]; rfl
  have hone2 : ts.all (·.oneCell') = true := by rw [hts]; simp [tagC, Value.oneCell']
  have hinfo2 : (Tryz.prog.info? 149).map (·.size) = some ts.size := by rw [hsz2]; kernel_rfl
  have HTS : Hid (ts = (tagC (wordAt (clampL K) 0) (wordAt (clampL K) 8) (wordAt (K.drop 16) 0) (wordAt (K.drop 16) 8) 0 0 0).toArray) := hts
  have HE : Hid (strN (sealT k (numsOf ad) (numsOf c)) = strN (polyT K (fill16 (numsOf ad) ++ fill16 (numsOf c) ++ (leB 8 ad.size ++ leB 8 c.size)))) := by
    show _ = _
    rw [sealT, sealM, ← hK, numsOf_length, numsOf_length]
  rw [HE.out]
  clear hds hts hKn
  have HKF : Hid (K = k.take 32 ∧ k.length = 64) := ⟨hK, hkl⟩
  clear hK hr
  go_enter Tryz.func104, Tryz.ntmps104
  go_wp2_with fail
  refine hBk.mono ?_
  rintro e w1 ⟨rfl, hb1⟩
  clear hBk
  obtain ⟨w2, hw2⟩ : ∃ w2, w1.alloc (.cells ds 58) = w2 := ⟨_, rfl⟩
  have k2 : Row w2 w1.heap.size 58 (byV k) := by rw [← hw2, HDS.out]; exact heap_alloc_new w1 _
  have hb2 : Below w.heap.size w w2 := by rw [← hw2]; exact hb1.alloc hb1.size _
  have hcv := run_convert_bytes_arg (P := Tryz.prog) w2 71 5 Tryz.underlying71 Tryz.underlying5 w1.heap.size 0 32 64 (K.map fun (x : Nat) => (x : Int)) (by simp [hKl]) (fun i hi => by
    rw [Nat.zero_add, k2.cell, byV_get _ _ (by omega), HKF.out.1]
    simp only [List.getD_eq_getElem?_getD, List.getElem?_map, List.getElem?_take]
    rw [if_pos hi, List.getElem?_eq_getElem (by omega)]
    rfl) 9 Tryz.underlying9
  rw [show strOfNums (K.map fun (x : Nat) => (x : Int)) = strN K from rfl] at hcv
  go_wp2_with (refine wpList_store_row rfl 58 _ _ rfl w1.heap.size ds rfl rfl 58 _ (heap_alloc_new w1 _) hinfo (by rw [hsz]; rfl) hone ?_; rw [World.setRow_alloc_new, hw2])
  refine (hOf _).mono ?_
  rintro e w3 ⟨rfl, hb3⟩
  have hb3' := hb2.trans (hb3.mono hb2.size)
  clear hOf hcv k2 hb2 hb3 hw2 hone hinfo hsz hb1
  go_wp2_with (refine wpList_store_row rfl 149 _ _ rfl w3.heap.size ts rfl rfl 149 _ (heap_alloc_new w3 _) hinfo2 (by rw [hsz2]; rfl) hone2 ?_)
  rw [World.setRow_alloc_new]
  have hT : TagIn (w3.alloc (.cells ts 149)) w3.heap.size K [] := ⟨0, 0, 0, by decide, by decide, by decide, rfl, by rw [HTS.out]; exact heap_alloc_new w3 _⟩
  have hb4 := hb3'.alloc hb3'.size (.cells ts 149)
  generalize w3.alloc (.cells ts 149) = w4 at *
  have hlt3 := hb3'.size
  clear hone2 hinfo2 hsz2 HTS hb3'
  refine (takeFilled_any K hKb w3.heap.size [] rfl ad had w4 hT).mono ?_
  rintro e w5 ⟨rfl, hT5, ho5⟩
  rw [List.nil_append] at hT5
  have hb5 : Below w.heap.size w w5 := hb4.trans ((ho5.below (Nat.le_of_lt hT.lt)).mono hlt3)
  clear hT hb4 ho5
  go_wp2_with fail
  refine (takeFilled_any K hKb w3.heap.size _ (fill16_length _) c hc w5 hT5).mono ?_
  rintro e w6 ⟨rfl, hT6, ho6⟩
  have hb6 : Below w.heap.size w w6 := hb5.trans ((ho6.below (Nat.le_of_lt hT5.lt)).mono hlt3)
  have hl6 : (fill16 (numsOf ad) ++ fill16 (numsOf c)).length % 16 = 0 := by
    have h1 := fill16_length (numsOf ad)
    have h2 := fill16_length (numsOf c)
    rw [List.length_append]; omega
  clear hT5 hb5 ho6
  go_wp2_with fail
  refine (takeLengths_any K hKb w3.heap.size _ hl6 ad.size c.size had hc w6 hT6).mono ?_
  rintro e w7 ⟨rfl, hT7, ho7⟩
  have hb7 : Below w.heap.size w w7 := hb6.trans ((ho7.below (Nat.le_of_lt hT6.lt)).mono hlt3)
  clear hT6 hb6 ho7 hl6
  go_wp2_with fail
  refine (tag_told K hKl hKb w3.heap.size _ w7 hT7).mono ?_
  rintro e w8 ⟨rfl, hb8⟩
  have hb9 := hb7.trans (hb8.mono hb7.size)
  clear hb7 hb8 hT7
  go_wp2
  go_ret
  exact ⟨congrArg (fun x => Ending.returned (.string (strN (polyT K x)))) (List.append_assoc _ _ _).symm, hb9⟩

/-- What Seal tells where the lengths are right. -/
def sealC (key nonce s : ByteArray) : List Nat := chaS (numsOf key) (numsOf nonce) 1 (numsOf s)
def sealG (key nonce ad : ByteArray) (c : List Nat) : List Nat := sealT (chaL (numsOf key) (numsOf nonce) 0) (numsOf ad) c
theorem strN_append (a b : List Nat) : strN a ++ strN b = strN (a ++ b) := by
  unfold strN strOfNums
  apply ByteArray.ext
  simp

set_option maxRecDepth 10000 in
set_option maxHeartbeats 1000000 in
theorem Seal_ok (key nonce ad s : ByteArray) (hk : key.size = 32) (hn : nonce.size = 12) (had : ad.size ≤ 1048576) (hs : s.size ≤ 1048576) (w : World) :
    Calls Tryz.prog 100 #[.string key, .string nonce, .string ad, .string s] w fun e w' => e = .returned (.tuple #[.string (strN (sealC key nonce s ++ sealG key nonce ad (sealC key nonce s))), .int .i64 0]) ∧ Below w.heap.size w w' := by
  have hf := fun w => fit_yes key nonce hk hn w
  have hSt := fun w => stateOf_any key nonce hk hn w
  have hok := st16_ok key nonce 0 (by decide)
  have hcb : Bytes (sealC key nonce s) := chaS_bytes _ _ _ _ (numsOf_bytes s)
  have hcl : (sealC key nonce s).length = s.size := by rw [sealC, chaS_length, numsOf_length]
  have hSm := fun g w hr => stream_any (st16 (numsOf key) (numsOf nonce) 0) hok 1 s (by omega) hs g w hr
  have hTg := fun g w hr => sealTag_any (st16 (numsOf key) (numsOf nonce) 0) hok g ad (strN (sealC key nonce s)) (by omega) (by rw [strN_size, hcl]; omega) w hr
  rw [← chaS_strm] at hSm
  rw [numsOf_strN _ hcb] at hTg
  have hgl : (sealG key nonce ad (sealC key nonce s)).length = 16 := polyT_length _ _
  have hSm' : ∀ g w, Row w g 139 (wdV (st16 (numsOf key) (numsOf nonce) 0).toL) → Calls Tryz.prog 105 #[.pointer (some ⟨g, 0, none⟩), .int .i64 1, .string s] w fun e w' => e = .returned (.string (strN (sealC key nonce s))) ∧ Below w.heap.size w w' := hSm
  have hTg' : ∀ g w, Row w g 139 (wdV (st16 (numsOf key) (numsOf nonce) 0).toL) → Calls Tryz.prog 104 #[.pointer (some ⟨g, 0, none⟩), .string ad, .string (strN (sealC key nonce s))] w fun e w' => e = .returned (.string (strN (sealG key nonce ad (sealC key nonce s)))) ∧ Below w.heap.size w w' := hTg
  clear hSm hTg
  rw [← strN_append]
  have hz1 : (strN (sealC key nonce s)).size = s.size := by rw [strN_size, hcl]
  have hz2 : (strN (sealG key nonce ad (sealC key nonce s))).size = 16 := by rw [strN_size, hgl]
  generalize strN (sealG key nonce ad (sealC key nonce s)) = G at *
  generalize strN (sealC key nonce s) = C at *
  obtain ⟨CG, hCG⟩ : ∃ CG, CG = C ++ G := ⟨_, rfl⟩
  have hadd : ∀ w', (Op.stringOp .add C G).run Tryz.prog w' = .ok (.string CG) w' := fun w' => by rw [hCG]; exact run_string_add_sum (P := Tryz.prog) (w := w') C G (by omega)
  rw [← hCG]
  generalize st16 (numsOf key) (numsOf nonce) 0 = S at *
  obtain ⟨ds, hds⟩ : ∃ ds, ds = (wdV S.toL).toArray := ⟨_, rfl⟩
  rw [← hds] at hSt
  have hsz : ds.size = 16 := by rw [hds]; rfl
  have hone : ds.all (·.oneCell') = true := by rw [hds]; simp [wdV, Value.oneCell']
  have hinfo : (Tryz.prog.info? 139).map (·.size) = some ds.size := by rw [hsz]; kernel_rfl
  have HDS : Hid (ds = (wdV S.toL).toArray) := hds
  clear hds hCG hcb hcl hgl
  go_enter Tryz.func100, Tryz.ntmps100
  go_wp2_with fail
  refine (hf _).mono ?_
  rintro e w' ⟨rfl, rfl⟩
  clear hf
  go_wp2_with fail
  refine (hSt _).mono ?_
  rintro e w1 ⟨rfl, hb1⟩
  clear hSt
  go_wp2_with (refine wpList_store_row rfl 139 _ _ rfl w1.heap.size ds rfl rfl 139 _ (heap_alloc_new w1 _) hinfo (by rw [hsz]; rfl) hone ?_)
  rw [World.setRow_alloc_new]
  have k2 : Row (w1.alloc (.cells ds 139)) w1.heap.size 139 (wdV S.toL) := by rw [HDS.out]; exact heap_alloc_new w1 _
  have hb2 := hb1.alloc hb1.size (.cells ds 139)
  generalize w1.alloc (.cells ds 139) = w2 at *
  clear hone hinfo hsz HDS
  refine (hSm' w1.heap.size w2 k2).mono ?_
  rintro e w3 ⟨rfl, hb3⟩
  have k3 := k2.below hb3 k2.lt
  have hb4 := hb2.trans (hb3.mono hb2.size)
  clear k2 hb2 hb3 hSm'
  go_wp2_with fail
  refine (hTg' w1.heap.size w3 k3).mono ?_
  rintro e w4 ⟨rfl, hb5⟩
  have hb6 := hb4.trans (hb5.mono hb4.size)
  clear k3 hb4 hb5 hTg'
  go_wp2
  go_ret2
  exact ⟨rfl, hb6⟩

/-- What Open tells where the lengths are right, and the error. -/
def openC (s : ByteArray) : ByteArray := s.extract 0 (s.size - 16)
def openG (s : ByteArray) : ByteArray := s.extract (s.size - 16) s.size
def openB (key nonce ad s : ByteArray) : Prop := openG s = strN (sealG key nonce ad (numsOf (openC s)))
instance (key nonce ad s : ByteArray) : Decidable (openB key nonce ad s) := inferInstanceAs (Decidable (_ = _))

set_option maxRecDepth 10000 in
set_option maxHeartbeats 1000000 in
theorem Open_short (key nonce ad s : ByteArray) (hk : key.size = 32) (hn : nonce.size = 12) (hs : s.size < 16) (w : World) :
    Calls Tryz.prog 98 #[.string key, .string nonce, .string ad, .string s] w fun e w' => e = .returned (.tuple #[.string ⟨#[]⟩, .int .i64 3]) ∧ w' = w := by
  have hf := fun w => fit_yes key nonce hk hn w
  have h1 : (s.size : Int) < 16 := by omega
  go_enter Tryz.func98, Tryz.ntmps98
  go_wp2_with fail
  refine (hf _).mono ?_
  rintro e w' ⟨rfl, rfl⟩
  clear hf
  go_wp2
  go_ret2
  exact ⟨rfl, rfl⟩

set_option maxRecDepth 10000 in
set_option maxHeartbeats 1000000 in
theorem Open_long (key nonce ad s : ByteArray) (hk : key.size = 32) (hn : nonce.size = 12) (had : ad.size ≤ 1048576) (hs : s.size ≤ 1048576) (h16 : 16 ≤ s.size) (w : World) :
    Calls Tryz.prog 98 #[.string key, .string nonce, .string ad, .string s] w fun e w' => e = .returned (if openB key nonce ad s then .tuple #[.string (strN (chaS (numsOf key) (numsOf nonce) 1 (numsOf (openC s)))), .int .i64 0] else .tuple #[.string ⟨#[]⟩, .int .i64 10]) ∧ Below w.heap.size w w' := by
  have hf := fun w => fit_yes key nonce hk hn w
  have hSt := fun w => stateOf_any key nonce hk hn w
  have hok := st16_ok key nonce 0 (by decide)
  have hcs : (openC s).size = s.size - 16 := by unfold openC; simp
  have hgs : (openG s).size = 16 := by unfold openG; simp; omega
  have hSm : ∀ g w, Row w g 139 (wdV (st16 (numsOf key) (numsOf nonce) 0).toL) → Calls Tryz.prog 105 #[.pointer (some ⟨g, 0, none⟩), .int .i64 1, .string (openC s)] w fun e w' => e = .returned (.string (strN (chaS (numsOf key) (numsOf nonce) 1 (numsOf (openC s))))) ∧ Below w.heap.size w w' := fun g w hr => stream_any (st16 (numsOf key) (numsOf nonce) 0) hok 1 (openC s) (by omega) (by omega) g w hr
  have hTg : ∀ g w, Row w g 139 (wdV (st16 (numsOf key) (numsOf nonce) 0).toL) → Calls Tryz.prog 104 #[.pointer (some ⟨g, 0, none⟩), .string ad, .string (openC s)] w fun e w' => e = .returned (.string (strN (sealG key nonce ad (numsOf (openC s))))) ∧ Below w.heap.size w w' := fun g w hr => sealTag_any (st16 (numsOf key) (numsOf nonce) 0) hok g ad (openC s) (by omega) (by omega) w hr
  have hSame := fun w => same_any (openG s) (strN (sealG key nonce ad (numsOf (openC s)))) (by unfold maxLen; omega) w
  have hd : decide (openG s = strN (sealG key nonce ad (numsOf (openC s)))) = decide (openB key nonce ad s) := rfl
  rw [hd] at hSame
  have v1 : IntKind.i64.wrap ((s.size : Int) - 16) = ((s.size - 16 : Nat) : Int) := by rw [IntKind.wrap_i64]; omega
  have x1 : s.extract 0 (s.size - 16) = openC s := rfl
  have x2 : s.extract (s.size - 16) s.size = openG s := rfl
  generalize strN (sealG key nonce ad (numsOf (openC s))) = T at *
  generalize strN (chaS (numsOf key) (numsOf nonce) 1 (numsOf (openC s))) = U at *
  have hlt : ¬ (s.size : Int) < 16 := by omega
  obtain ⟨m, hm⟩ : ∃ m, m = s.size - 16 := ⟨_, rfl⟩
  rw [← hm] at v1 x1 x2
  have v2 : (s.size : Int) - 16 = m := by omega
  have v3 : IntKind.i64.wrap (m : Int) = m := by rw [IntKind.wrap_i64]; omega
  have i1 : (m : Int) ≤ s.size := by omega
  generalize openC s = C at *
  generalize openG s = G at *
  generalize st16 (numsOf key) (numsOf nonce) 0 = S at *
  obtain ⟨ds, hds⟩ : ∃ ds, ds = (wdV S.toL).toArray := ⟨_, rfl⟩
  rw [← hds] at hSt
  have hsz : ds.size = 16 := by rw [hds]; rfl
  have hone : ds.all (·.oneCell') = true := by rw [hds]; simp [wdV, Value.oneCell']
  have hinfo : (Tryz.prog.info? 139).map (·.size) = some ds.size := by rw [hsz]; kernel_rfl
  have HDS : Hid (ds = (wdV S.toL).toArray) := hds
  have HM : Hid (m = s.size - 16 ∧ C.size = s.size - 16) := ⟨hm, hcs⟩
  clear hds hm hd hcs
  by_cases hB : openB key nonce ad s
  · rw [if_pos hB]
    rw [decide_eq_true hB] at hSame
    clear hB
    go_enter Tryz.func98, Tryz.ntmps98
    go_wp2_with fail
    refine (hf _).mono ?_
    rintro e w' ⟨rfl, rfl⟩
    clear hf
    go_wp2_with fail
    refine (hSt _).mono ?_
    rintro e w1 ⟨rfl, hb1⟩
    clear hSt
    obtain ⟨w2, hw2⟩ : ∃ w2, w1.alloc (.cells ds 139) = w2 := ⟨_, rfl⟩
    have k2 : Row w2 w1.heap.size 139 (wdV S.toL) := by rw [← hw2, HDS.out]; exact heap_alloc_new w1 _
    have hb2 : Below w'.heap.size w' w2 := by rw [← hw2]; exact hb1.alloc hb1.size (.cells ds 139)
    go_wp2_with (refine wpList_store_row rfl 139 _ _ rfl w1.heap.size ds rfl rfl 139 _ (heap_alloc_new w1 _) hinfo (by rw [hsz]; rfl) hone ?_; rw [World.setRow_alloc_new, hw2])
    clear hw2 hone hinfo hsz HDS hb1
    go_quiet (fail)
    go_wp2_with fail
    refine (hTg w1.heap.size (w2.drewN _) k2).mono ?_
    rintro e w3 ⟨rfl, hb3⟩
    have k3 := Row.below (w := w2.drewN _) k2 hb3 k2.lt
    have hb4 := (bdrewN hb2 _).trans (hb3.mono (by exact hb2.size))
    clear k2 hb2 hb3 hTg
    go_wp2_with fail
    refine (hSame _).mono ?_
    rintro e w4 ⟨rfl, hb5⟩
    have k4 := k3.below hb5 k3.lt
    have hb6 := hb4.trans (hb5.mono hb4.size)
    clear k3 hb4 hb5 hSame
    go_wp2_with fail
    refine (hSm w1.heap.size w4 k4).mono ?_
    rintro e w5 ⟨rfl, hb7⟩
    have hb8 := hb6.trans (hb7.mono hb6.size)
    clear k4 hb6 hb7 hSm
    go_wp2
    go_ret2
    exact ⟨rfl, hb8⟩
  · rw [if_neg hB]
    rw [decide_eq_false hB] at hSame
    clear hB
    go_enter Tryz.func98, Tryz.ntmps98
    go_wp2_with fail
    refine (hf _).mono ?_
    rintro e w' ⟨rfl, rfl⟩
    clear hf
    go_wp2_with fail
    refine (hSt _).mono ?_
    rintro e w1 ⟨rfl, hb1⟩
    clear hSt
    obtain ⟨w2, hw2⟩ : ∃ w2, w1.alloc (.cells ds 139) = w2 := ⟨_, rfl⟩
    have k2 : Row w2 w1.heap.size 139 (wdV S.toL) := by rw [← hw2, HDS.out]; exact heap_alloc_new w1 _
    have hb2 : Below w'.heap.size w' w2 := by rw [← hw2]; exact hb1.alloc hb1.size (.cells ds 139)
    go_wp2_with (refine wpList_store_row rfl 139 _ _ rfl w1.heap.size ds rfl rfl 139 _ (heap_alloc_new w1 _) hinfo (by rw [hsz]; rfl) hone ?_; rw [World.setRow_alloc_new, hw2])
    clear hw2 hone hinfo hsz HDS hb1
    go_quiet (fail)
    go_wp2_with fail
    refine (hTg w1.heap.size (w2.drewN _) k2).mono ?_
    rintro e w3 ⟨rfl, hb3⟩
    have k3 := Row.below (w := w2.drewN _) k2 hb3 k2.lt
    have hb4 := (bdrewN hb2 _).trans (hb3.mono (by exact hb2.size))
    clear k2 hb2 hb3 hTg
    go_wp2_with fail
    refine (hSame _).mono ?_
    rintro e w4 ⟨rfl, hb5⟩
    have k4 := k3.below hb5 k3.lt
    have hb6 := hb4.trans (hb5.mono hb4.size)
    clear k3 hb4 hb5 hSame
    clear k4 hSm
    go_wp2
    go_ret2
    exact ⟨rfl, hb6⟩
end Go.Proofs.YtfmaajfohieneaaGreatDoor.Bx
