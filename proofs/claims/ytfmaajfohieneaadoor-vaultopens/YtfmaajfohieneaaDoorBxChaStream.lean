/- box's state.stream: a text xor the blocks from one on. -/
import Derived.Test.YtfmaajfohieneaaDoorMg40
namespace Go.Proofs.YtfmaajfohieneaaDoor.Bx
set_option maxRecDepth 20000
open Go.RowKit

theorem extract_more (s : ByteArray) (p q : Nat) : (s.extract p s.size).extract q (s.extract p s.size).size = s.extract (p + q) s.size := by
  rw [ByteArray.extract_extract]
  congr 1
  simp
  omega
theorem bld_below {T e B b : Nat} {p : Value} {bs : List Value} {w w' : World} {C : Nat} (h : Lib.BuilderAt T e B b p bs w) (hb : Below C w w') (hC : w.heap.size ≤ C) : Lib.BuilderAt T e B b p bs w' := by
  obtain ⟨hB, v, hbk, hown, hne⟩ := h
  have hlt : b < w.heap.size := lt_of_block hbk
  refine ⟨hB, v, (hb.block b (by omega)).trans hbk, hown.kept (row := none) ⟨hb.os, hb.tape, hb.output, hb.size, fun k hk _ => hb.block k (by omega)⟩ ?_, hne⟩
  by_cases e : v.ownBlock = none
  · exact .inl e
  · exact .inr e
/-- What stands at the beginning of a round of stream. -/
structure StrmAt (w wr : World) (g : Nat) (s : S16) (a : Nat) (l : List Nat) (p : Nat) : Prop where
  bld : Lib.BuilderAt 119 5 w.heap.size w.heap.size (.pointer (some ⟨w.heap.size, 0, none⟩)) (byV ((strmL s a l).take p)) wr
  st : Row wr g 104 (wdV s.toL)
  low : g < w.heap.size
  bel : Below w.heap.size w wr

set_option maxRecDepth 10000 in
set_option maxHeartbeats 2000000 in
theorem stream_any (s : S16) (hs : s.ok) (a : Nat) (text : ByteArray) (ha : a + (text.size + 63) / 64 ≤ 4294967296) (ht : text.size ≤ 1048576) (g : Nat) (w : World) (hr : Row w g 104 (wdV s.toL)) :
    Calls Tryd.prog 64 #[.pointer (some ⟨g, 0, none⟩), .int .i64 a, .string text] w fun e w' => e = .returned (.string (strN (strmL s a (numsOf text)))) ∧ Below w.heap.size w w' := by
  have hg := hr.lt
  have hbl := numsOf_length text
  have hby := numsOf_bytes text
  have hG := fun o => bGrow_fresh w.heap.size w.heap.size text.size (w.alloc (.cells #[.pointer none, .slice none 0 0] o)) (Nat.le_refl _)
  have hr1 : ∀ o, Row (w.alloc o) g 104 (wdV s.toL) := fun o => (Below.heap_alloc w o g hg).trans hr
  go_enter Tryd.func64, Tryd.ntmps64
  go_wp2_with fail
  refine (hG 119 (heap_alloc_new w _) (by simp) (by omega)).mono ?_
  rintro e w1 ⟨rfl, hB1, hb1⟩
  have hS1 : StrmAt w w1 g s a (numsOf text) 0 := ⟨by simpa [byV] using hB1, (hr1 _).below hb1 hg, hg, ((Below.refl _ _).alloc (Nat.le_refl _) _).trans hb1⟩
  clear hG hr1 hB1 hb1 hr
  go_wp2_with fail
  go_loopw [1, 2] (fun v1 v2 wr => ∃ c q p : Nat, c = a + q ∧ p ≤ text.size ∧ (p = 64 * q ∨ p = text.size) ∧ v1 = .int .i64 (c : Nat) ∧ v2 = .string (text.extract p text.size) ∧ StrmAt w wr g s a (numsOf text) p) (fun _ v _ => strSize v)
  case atStart => exact ⟨a, 0, 0, rfl, Nat.zero_le _, .inl rfl, rfl, by simp, hS1⟩
  case round =>
    clear hS1
    obtain ⟨c, q, p, hc, hp, hpq, rfl, rfl, hS⟩ := hrel
    generalize wr = wo at *
    obtain ⟨u, hu⟩ : ∃ u, u = text.extract p text.size := ⟨_, rfl⟩
    have hus : u.size = text.size - p := by rw [hu]; simp
    have hun : numsOf u = (numsOf text).drop p := by rw [hu, numsOf_extract, List.take_of_length_le (by simp [numsOf_length])]
    have hul := numsOf_length u
    have hub := numsOf_bytes u
    rw [← hu]
    by_cases hlt : p < text.size
    · obtain ⟨n, hn⟩ : ∃ n, n = min u.size 64 := ⟨_, rfl⟩
      have hn1 : n ≤ 64 := by omega
      have hn0 : 0 < n := by omega
      have hnu : n ≤ u.size := by omega
      have hq : p = 64 * q := by omega
      have hx := extract_more text p n
      rw [← hu] at hx
      have hclt : c < 4294967296 := by omega
      obtain ⟨U, hU⟩ : ∃ U, U = (numsOf u).take 64 := ⟨_, rfl⟩
      have hUl : U.length = n := by rw [hU, List.length_take, hul, hn, Nat.min_comm]
      have hUb : Bytes U := by rw [hU]; exact hub.take 64
      obtain ⟨k, hk⟩ : ∃ k, k = blkL (s.at c) := ⟨_, rfl⟩
      have hkl : k.length = 64 := by rw [hk]; exact blkL_length _
      have hkb : Bytes k := by rw [hk]; exact blkL_bytes _
      have hnext : byV ((strmL s a (numsOf text)).take p) ++ byV (xorL n U k) = byV ((strmL s a (numsOf text)).take (p + n)) := by
        rw [strmL_step s a (numsOf text) q p n hq hn1 (by omega), byV_append, ← hc, ← hk, ← hun]
        congr 2
        unfold xorL
        refine List.map_congr_left fun i hi => ?_
        have hi := List.mem_range.1 hi
        rw [hU, List.getD_eq_getElem?_getD (l := (numsOf u).take 64), List.getElem?_take, if_pos (by omega), ← List.getD_eq_getElem?_getD]
      obtain ⟨w0, hw0⟩ : ∃ w0, wo.alloc (.cells #[.int .u8 0, .int .u8 0, .int .u8 0, .int .u8 0, .int .u8 0, .int .u8 0, .int .u8 0, .int .u8 0, .int .u8 0, .int .u8 0, .int .u8 0, .int .u8 0, .int .u8 0, .int .u8 0, .int .u8 0, .int .u8 0, .int .u8 0, .int .u8 0, .int .u8 0, .int .u8 0, .int .u8 0, .int .u8 0, .int .u8 0, .int .u8 0, .int .u8 0, .int .u8 0, .int .u8 0, .int .u8 0, .int .u8 0, .int .u8 0, .int .u8 0, .int .u8 0, .int .u8 0, .int .u8 0, .int .u8 0, .int .u8 0, .int .u8 0, .int .u8 0, .int .u8 0, .int .u8 0, .int .u8 0, .int .u8 0, .int .u8 0, .int .u8 0, .int .u8 0, .int .u8 0, .int .u8 0, .int .u8 0, .int .u8 0, .int .u8 0, .int .u8 0, .int .u8 0, .int .u8 0, .int .u8 0, .int .u8 0, .int .u8 0, .int .u8 0, .int .u8 0, .int .u8 0, .int .u8 0, .int .u8 0, .int .u8 0, .int .u8 0, .int .u8 0] 47) = w0 := ⟨_, rfl⟩
      have a1 : Row w0 wo.heap.size 47 (byV (List.replicate 64 0)) := by rw [← hw0]; exact heap_alloc_new wo _
      have ab : Below wo.heap.size wo w0 := by rw [← hw0]; exact (Below.refl _ _).alloc (Nat.le_refl _) _
      obtain ⟨w2, hcp, b1, o1⟩ := copy_row w0 wo.heap.size 47 64 _ rfl a1 u
      rw [← hn] at hcp b1
      rw [← hU] at b1
      have hB2 : Below wo.heap.size wo w2 := ab.trans (o1.below (Nat.le_of_lt a1.lt))
      have hP2 : Row w2 wo.heap.size 47 (rowF 64 (pieF U k 0)) := b1.congr (by
        rw [← pie_start U k (by omega), hUl, byV_zeros, byV_zeros, List.drop_replicate])
      have hwlt : w.heap.size < wo.heap.size := hS.bld.lt
      have HBk := block_any s hs c hclt g w2 (hS.st.below hB2 hS.st.lt)
      rw [← hk] at HBk
      have v1 : IntKind.u32.wrap (c : Int) = c := by rw [IntKind.wrap_u32]; omega
      have c1 : (0 : Int) < u.size := by omega
      have c1' : 0 < u.size := by omega
      clear b1 o1 ab a1 hk
      obtain ⟨ds, hds⟩ : ∃ ds, ds = (byV k).toArray := ⟨_, rfl⟩
      rw [← hds] at HBk
      have hsz : ds.size = 64 := by rw [hds]; simp [byV, hkl]
      have hone : ds.all (·.oneCell') = true := by rw [hds]; simp [byV, Value.oneCell']
      have hinfo : (Tryd.prog.info? 47).map (·.size) = some ds.size := by rw [hsz]; kernel_rfl
      have HDS : Hid (ds = (byV k).toArray) := hds
      have HX : Hid (u.extract n u.size = text.extract (p + n) text.size ∧ u.size = text.size - p ∧ p + n ≤ text.size ∧ (p + n = 64 * (q + 1) ∨ p + n = text.size) ∧ c + 1 = a + (q + 1)) := ⟨hx, hus, by omega, by omega, by omega⟩
      have HU : Hid (U.length = n ∧ Bytes U ∧ k.length = 64 ∧ Bytes k ∧ byV ((strmL s a (numsOf text)).take p) ++ byV (xorL n U k) = byV ((strmL s a (numsOf text)).take (p + n))) := ⟨hUl, hUb, hkl, hkb, hnext⟩
      have HW2 : Hid (Row w2 wo.heap.size 47 (rowF 64 (pieF U k 0)) ∧ Below wo.heap.size wo w2) := ⟨hP2, hB2⟩
      have HS : Hid (StrmAt w wo g s a (numsOf text) p) := hS
      clear hds hx hus hu hun hul hub hU hUl hUb hkl hkb hnext hP2 hB2 hS hpq hq hn hc hp
      go_wp2_with fail
      refine HBk.mono ?_
      rintro e w3 ⟨rfl, hb3⟩
      have hPlt := HW2.out.1.lt
      have hP3 := HW2.out.1.below hb3 hPlt
      have hB3 := HW2.out.2.trans (hb3.mono HW2.out.2.size)
      have hK4 : Row (w3.alloc (.cells ds 47)) w3.heap.size 47 (byV k) := by rw [HDS.out]; exact heap_alloc_new w3 _
      have hP4 : Row (w3.alloc (.cells ds 47)) wo.heap.size 47 (rowF 64 (pieF U k 0)) := (Below.heap_alloc _ _ _ hP3.lt).trans hP3
      have hB4 := hB3.alloc hB3.size (.cells ds 47)
      have hPK : wo.heap.size < w3.heap.size := hP3.lt
      obtain ⟨w4, hw4⟩ : ∃ w4, (w3.alloc (.cells #[.int .u8 0, .int .u8 0, .int .u8 0, .int .u8 0, .int .u8 0, .int .u8 0, .int .u8 0, .int .u8 0, .int .u8 0, .int .u8 0, .int .u8 0, .int .u8 0, .int .u8 0, .int .u8 0, .int .u8 0, .int .u8 0, .int .u8 0, .int .u8 0, .int .u8 0, .int .u8 0, .int .u8 0, .int .u8 0, .int .u8 0, .int .u8 0, .int .u8 0, .int .u8 0, .int .u8 0, .int .u8 0, .int .u8 0, .int .u8 0, .int .u8 0, .int .u8 0, .int .u8 0, .int .u8 0, .int .u8 0, .int .u8 0, .int .u8 0, .int .u8 0, .int .u8 0, .int .u8 0, .int .u8 0, .int .u8 0, .int .u8 0, .int .u8 0, .int .u8 0, .int .u8 0, .int .u8 0, .int .u8 0, .int .u8 0, .int .u8 0, .int .u8 0, .int .u8 0, .int .u8 0, .int .u8 0, .int .u8 0, .int .u8 0, .int .u8 0, .int .u8 0, .int .u8 0, .int .u8 0, .int .u8 0, .int .u8 0, .int .u8 0, .int .u8 0] 47)).setRow w3.heap.size ds = w4 := ⟨_, rfl⟩
      have hw4' : w3.alloc (.cells ds 47) = w4 := by rw [← hw4, World.setRow_alloc_new]
      rw [hw4'] at hK4 hP4 hB4
      have H4 : Hid (Row w4 wo.heap.size 47 (rowF 64 (pieF U k 0)) ∧ Row w4 w3.heap.size 47 (byV k) ∧ Below wo.heap.size wo w4) := ⟨hP4, hK4, hB4⟩
      clear hb3 HBk hw0 hcp hP3 hB3 hK4 hP4 hB4 hw4' HW2 hPlt
      go_wp2_with (refine wpList_store_row rfl 47 _ _ rfl w3.heap.size ds rfl rfl 47 _ (heap_alloc_new w3 _) hinfo (by rw [hsz]; rfl) hone ?_)
      clear hinfo hone hsz hw4
      go_loopw [25] (fun i wr => ∃ j : Nat, j ≤ 64 ∧ i = .int .i64 j ∧ Row wr wo.heap.size 47 (rowF 64 (pieF U k j)) ∧ Row wr w3.heap.size 47 (byV k) ∧ Below wo.heap.size wo wr) (fun i _ => 64 - (intOf i).toNat)
      case atStart => exact ⟨0, Nat.zero_le _, rfl, H4.out⟩
      case round =>
        clear H4
        obtain ⟨j, hj, rfl, kP, kK, hbq⟩ := hrel
        by_cases hj64 : j < 64
        · have d1 := kP.cellF j hj64
          rw [pieF_at] at d1
          have d2 : wr.cell? ⟨w3.heap.size, j, none⟩ = some (.int .u8 (k.getD j 0 : Nat)) := by rw [kK.cell, byV_get _ _ (by rw [HU.out.2.2.1]; exact hj64)]
          have f1 : wr.frozen? ⟨wo.heap.size, j, none⟩ = false := kP.frozen _
          have hx1 : U.getD j 0 < 256 := getD_lt (by decide) HU.out.2.1 _
          have hx2 : k.getD j 0 < 256 := getD_lt (by decide) HU.out.2.2.2.1 _
          have vx := u8_xor_nat (U.getD j 0) (k.getD j 0) hx1 hx2
          have kP' := kP.setF j (.int .u8 ((U.getD j 0 ^^^ k.getD j 0 : Nat) : Int))
          have hst : (rowF 64 fun i => if i = j then Value.int .u8 ((U.getD j 0 ^^^ k.getD j 0 : Nat) : Int) else pieF U k j i) = rowF 64 (pieF U k (j + 1)) := rowF_congr fun i _ => pieF_step U k j i
          rw [hst] at kP'
          clear hst
          generalize hy : U.getD j 0 ^^^ k.getD j 0 = y at *
          generalize U.getD j 0 = x1 at *
          generalize k.getD j 0 = x2 at *
          clear hy
          have kK' : Row (wr.setCell ⟨wo.heap.size, j, none⟩ (.int .u8 (y : Int))) w3.heap.size 47 (byV k) := (Below.heap_setCell _ _ _ _ (by simp; omega)).trans kK
          have hbq' := hbq.setCell (p := ⟨wo.heap.size, j, none⟩) (Nat.le_refl _) (.int .u8 (y : Int))
          have HR : Hid (Row (wr.setCell ⟨wo.heap.size, j, none⟩ (.int .u8 (y : Int))) wo.heap.size 47 (rowF 64 (pieF U k (j + 1))) ∧ Row (wr.setCell ⟨wo.heap.size, j, none⟩ (.int .u8 (y : Int))) w3.heap.size 47 (byV k) ∧ Below wo.heap.size wo (wr.setCell ⟨wo.heap.size, j, none⟩ (.int .u8 (y : Int)))) := ⟨kP', kK', hbq'⟩
          have i1 : (j : Int) < 64 := by omega
          clear kP kK hbq kP' kK' hbq'
          go_wp2_with fail
          go_region_with (fail)
          all_goals
            go_wp2
            go_roundw
            case rel => exact ⟨j + 1, by omega, by go_num, HR.out.1, HR.out.2.1, HR.out.2.2.drew⟩
            case measure => simp [intOf]; omega
        · obtain rfl : j = 64 := by omega
          have hbld := bld_below HS.out.bld hbq (Nat.le_refl _)
          have hst := HS.out.st.below hbq HS.out.st.lt
          have hbel := HS.out.bel.trans (hbq.mono HS.out.bel.size)
          have hcells : ∀ i u, (byV (xorL n U k))[i]? = some u → wr.cell? ((⟨wo.heap.size, 0, none⟩ : Addr).add i) = some u := fun i u hiu => by
            have hadd : (⟨wo.heap.size, 0, none⟩ : Addr).add i = ⟨wo.heap.size, i, none⟩ := by unfold Addr.add; split <;> simp_all
            rw [hadd, kP.cell]
            rw [← pie_take U k n hn1, List.getElem?_take] at hiu
            split at hiu
            · exact hiu
            · cases hiu
          have hWr := bWrite_used w.heap.size w.heap.size _ ⟨wo.heap.size, 0, none⟩ n 64 (byV (xorL n U k)) wr hbld (by simp [byV, xorL_length]) hcells (fun v hv => by
            obtain ⟨x, _, rfl⟩ := List.mem_map.1 hv
            rfl) (by simp [byV, strmL_length, hbl]; omega) (by have := hbel.size; omega)
          rw [HU.out.2.2.2.2] at hWr
          have HW : Hid (Row wr g 104 (wdV s.toL) ∧ Below w.heap.size w wr) := ⟨hst, hbel⟩
          have i1 : (n : Int) ≤ 64 := by omega
          have i2 : (n : Int) ≤ u.size := by omega
          have i3 : IntKind.i64.wrap ((c : Int) + 1) = c + 1 := by rw [IntKind.wrap_i64]; omega
          clear kP kK hbq hbld hst hbel hcells HU HDS
          rw [show ((64 : Nat) : Int) = 64 from rfl]
          go_wp2_with fail
          refine hWr.mono ?_
          rintro e w5 ⟨rfl, hB5, hb5⟩
          have hS5 : StrmAt w w5 g s a (numsOf text) (p + n) := ⟨hB5, HW.out.1.below hb5 hg, hg, HW.out.2.trans hb5⟩
          clear hWr hB5 hb5 HW HS
          go_wp2
          go_roundw
          case rel => exact ⟨c + 1, q + 1, p + n, HX.out.2.2.2.2, HX.out.2.2.1, HX.out.2.2.2.1, by go_num, by rw [HX.out.1], hS5⟩
          case measure => simp [strSize]; have := HX.out.2.1; omega
    · have hp2 : p = text.size := by omega
      have hz : u.size = 0 := by omega
      have c1 : ¬ (0 : Int) < u.size := by omega
      have hall : (strmL s a (numsOf text)).take p = strmL s a (numsOf text) := List.take_of_length_le (by rw [strmL_length]; omega)
      have hbl2 := hS.bld
      rw [hall, byV_cells _ (strmL_bytes s a _ hby)] at hbl2
      have hSt := bString_any w.heap.size w.heap.size _ wo (.inr hbl2) (by have := hS.bel.size; omega)
      rw [strN_cells] at hSt
      have HB : Hid (Below w.heap.size w wo) := hS.bel
      clear hS hall hbl2 hun hub hul hu hus hpq hc
      go_wp2_with fail
      refine hSt.mono ?_
      rintro e w2 ⟨rfl, hb2⟩
      clear hSt
      go_wp2
      go_ret
      exact ⟨rfl, HB.out.trans hb2⟩
end Go.Proofs.YtfmaajfohieneaaDoor.Bx
