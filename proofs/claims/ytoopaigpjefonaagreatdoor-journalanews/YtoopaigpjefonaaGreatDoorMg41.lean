/- The document's Sum: of any text its sum. -/
import Derived.Test.YtoopaigpjefonaaGreatDoorMg40
import Derived.Test.YtoopaigpjefonaaGreatDoorMg31
namespace Go.Proofs.YtoopaigpjefonaaGreatDoor.Sm
set_option maxRecDepth 20000
open Go.RowKit

theorem addSt_at (s t : St) (i : Nat) (h : i < 8) : (s.at i + t.at i) % 4294967296 = (addSt s t).at i := by
  match i, h with
  | 0, _ => rfl
  | 1, _ => rfl
  | 2, _ => rfl
  | 3, _ => rfl
  | 4, _ => rfl
  | 5, _ => rfl
  | 6, _ => rfl
  | 7, _ => rfl
theorem mask8 (n : Nat) : n &&& 255 = n % 256 := Nat.and_two_pow_sub_one_eq_mod n 8
theorem four_one (a b c d : Nat) : ∀ u ∈ [Value.int .u8 (a : Nat), .int .u8 (b : Nat), .int .u8 (c : Nat), .int .u8 (d : Nat)], u.oneCell' = true := by
  intro u hu
  simp only [List.mem_cons, List.not_mem_nil, or_false] at hu
  rcases hu with rfl | rfl | rfl | rfl <;> rfl
theorem rnd_cells (s : St) (k w P D : Nat) (hP : P = tN k w s + uN s) (hD : D = s.d + tN k w s) : ∀ i, i < 8 → (#[Value.int .i64 ((P : Int) % 4294967296), .int .i64 (s.a : Nat), .int .i64 (s.b : Nat), .int .i64 (s.c : Nat), .int .i64 ((D : Int) % 4294967296), .int .i64 (s.e : Nat), .int .i64 (s.f : Nat), .int .i64 (s.g : Nat)] : Array Value)[i]? = some (.int .i64 ((rnd k w s).at i : Nat)) := by
  intro i h
  match i, h with
  | 0, _ => subst hP; rfl
  | 1, _ => rfl
  | 2, _ => rfl
  | 3, _ => rfl
  | 4, _ => subst hD; rfl
  | 5, _ => rfl
  | 6, _ => rfl
  | 7, _ => rfl
theorem stI_one (s : St) : ∀ u ∈ stI s, u.oneCell' = true := by
  intro u hu
  simp only [stI, List.mem_cons, List.not_mem_nil, or_false] at hu
  rcases hu with rfl | rfl | rfl | rfl | rfl | rfl | rfl | rfl <;> rfl

set_option maxRecDepth 10000 in
set_option maxHeartbeats 2000000 in
theorem rsum_any (s : ByteArray) (hs : s.size < 1099511627776) (w : World) :
    Calls Tryz.prog 129 #[.string s] w fun e w' => e = .returned (.string (shaS (numsOf s))) ∧ Below w.heap.size w w' := by
  obtain ⟨i0, hi, hz0, hz1, hz2⟩ := info_parts info_int
  obtain ⟨i1, hj, hy0, hy1, hy2⟩ := info_parts info_u8
  go_enter Tryz.func129, Tryz.ntmps129
  go_wp2_with fail
  refine (filled_any s hs _).mono ?_
  rintro e w1 ⟨gb, cb, rfl, hO1, hb1⟩
  go_wp2_with fail
  refine (keys_any _).mono ?_
  rintro e w2 ⟨rfl, hk2, hb2⟩
  have hfl : (fillL (numsOf s)).length = 64 * ((fillL (numsOf s)).length / 64) := by
    have h1 := fillL_length (numsOf s)
    unfold lack at h1
    omega
  have hFm : (fillL (numsOf s)).length < 1099511627776 + 200 := by
    have h1 := fillL_length (numsOf s)
    rw [numsOf_length] at h1
    unfold lack at h1
    omega
  have hFb : Bytes (fillL (numsOf s)) := fillL_bytes (numsOf_bytes s)
  have HSH : Hid (shaL (numsOf s) = outL (absorb (fillL (numsOf s)) ((fillL (numsOf s)).length / 64))) := rfl
  generalize fillL (numsOf s) = F at *
  obtain ⟨H, hH⟩ : ∃ H, H = w.heap.size := ⟨_, rfl⟩
  have hw0 : (w.alloc (.cells #[.int .i64 1779033703, .int .i64 3144134277, .int .i64 1013904242, .int .i64 2773480762, .int .i64 1359893119, .int .i64 2600822924, .int .i64 528734635, .int .i64 1541459225] 3)).heap.size = H + 1 := by rw [hH]; simp
  have hr0 : Row (w.alloc (.cells #[.int .i64 1779033703, .int .i64 3144134277, .int .i64 1013904242, .int .i64 2773480762, .int .i64 1359893119, .int .i64 2600822924, .int .i64 528734635, .int .i64 1541459225] 3)) H 3 (stI st0) := by rw [hH]; exact heap_alloc_new w _
  have hb0 : Below H w (w.alloc (.cells #[.int .i64 1779033703, .int .i64 3144134277, .int .i64 1013904242, .int .i64 2773480762, .int .i64 1359893119, .int .i64 2600822924, .int .i64 528734635, .int .i64 1541459225] 3)) := by rw [hH]; exact (Below.refl _ _).alloc (Nat.le_refl _) _
  rw [hw0] at hO1 hb1
  have hr2 : Row w2 H 3 (stI st0) := (hr0.below hb1 (by omega)).below hb2 (by have := hb1.size; rw [hw0] at this; omega)
  have hs1 : H + 1 ≤ w1.heap.size := by have := hb1.size; rw [hw0] at this; exact this
  have hO2 : OwnC w2 (H + 1) gb F.length cb (byV F) := hO1.below hb2 hO1.lt
  have hbw2 : Below H w w2 := (hb0.trans (hb1.mono (by omega))).trans (hb2.mono (by omega))
  obtain ⟨GK, hGK⟩ : ∃ GK, GK = w1.heap.size := ⟨_, rfl⟩
  rw [← hGK] at hk2 hs1
  rw [← hGK]
  have hgk : GK < w2.heap.size := hk2.lt
  rw [← hH]
  clear hO1 hb1 hb2 hr0 hw0 hb0
  have HW : Hid (H = w.heap.size ∧ Below H w w2) := ⟨hH, hbw2⟩
  clear hH hbw2 hGK
  obtain ⟨nF, hnF⟩ : ∃ nF, nF = F.length := ⟨_, rfl⟩
  rw [← hnF] at hfl hFm hO2
  rw [← hnF]
  have HNF : Hid (nF = F.length) := hnF
  rw [← hnF] at HSH
  have HFL : Hid (nF = 64 * (nF / 64)) := hfl
  clear hnF hfl
  go_wp2_with fail
  go_loopw [6] (fun v wr => ∃ A q : Nat, A = 64 * q ∧ A ≤ nF ∧ v = .int .i64 A ∧ Row wr H 3 (stI (absorb F q)) ∧ Only H w2 wr) (fun v _ => nF - (intOf v).toNat)
  case atStart => exact ⟨0, 0, rfl, Nat.zero_le _, rfl, hr2, Only.refl _ _⟩
  case round =>
    clear hr2
    obtain ⟨A, q, hAq, hAn, rfl, hr, ho⟩ := hrel
    have HAQ : Hid (A = 64 * q) := hAq
    by_cases hlt : A < nF
    · have hA2 : A + 64 ≤ nF := by have := HFL.out; omega
      have hOr : OwnC wr (H + 1) gb nF cb (byV F) := hO2.kept (ho.2 gb hO2.lt (by have := hO2.low; omega)) ho.size
      have hroom := hO2.room
      have hgbl := hO2.lt
      have q1 : IntKind.i64.wrap ((A : Int) + 64) = A + 64 := by rw [IntKind.wrap_i64]; omega
      have q2 : (A : Int) + 64 ≤ cb := by omega
      have q3 : ¬ cb = A := by omega
      have q4 : (A : Int) < nF := by omega
      have q5 : ((A : Int) + 64).toNat = A + 64 := by omega
      have hbq : Bytes ((F.drop A).take 64) := (hFb.drop _).take _
      have hcells : ∀ i, i < 64 → wr.cell? ⟨gb, A + i, none⟩ = some (.int .u8 (((F.drop A).take 64).getD i 0 : Nat)) := fun i hi => by
        have h1 : A + i < F.length := by have := HNF.out; omega
        rw [hOr.cells (A + i) _ (byV_get F (A + i) h1)]
        congr 3
        rw [getD_at _ _ h1, getD_at _ _ (by simp; omega)]
        simp
      have HC : Hid _ := hcells
      clear hcells hAq hOr
      go_wp2_with fail
      have hgbw : gb < wr.heap.size := Nat.lt_of_lt_of_le hgbl ho.size
      refine (words_any _ hbq gb A (cb - A) wr hgbw HC.out).mono ?_
      rintro e w3 ⟨v, rfl, hown3, hb3⟩
      obtain ⟨gW, cW, rfl, hgW1, hgW2⟩ := hown3.form (by decide)
      obtain ⟨ws, hws⟩ : ∃ ws, ws = schedL ((F.drop A).take 64) := ⟨_, rfl⟩
      have hwsl : ∀ i, ws.getD i 0 < 4294967296 := fun i => by rw [hws]; exact schedN_lt hbq i
      have hwsn : ws.length = 64 := by rw [hws]; exact schedL_length _
      rw [← hws] at hown3
      have HWS : Hid (ws = schedL ((F.drop A).take 64)) := hws
      clear hws HC hbq
      obtain ⟨st, hst⟩ : ∃ st, st = absorb F q := ⟨_, rfl⟩
      have hok : st.ok := by rw [hst]; exact absorb_ok _ _
      rw [← hst] at hr
      have HST : Hid (st = absorb F q) := hst
      clear hst
      have hHl : H < wr.heap.size := hr.lt
      have hr3 : Row w3 H 3 (stI st) := hr.below hb3 hHl
      have ho3 : Only H w2 w3 := ho.trans (Only.of_below hb3)
      have cW3 : ∀ i, i < 64 → w3.cell? ⟨gW, i, none⟩ = some (.int .i64 (ws.getD i 0 : Nat)) := fun i hi' => by
        rw [hown3.cellAt i (by omega), List.getElem?_map, List.getElem?_eq_getElem (by omega), getD_at _ _ (by omega)]
        rfl
      have hE : (w3.alloc (.cells #[] 3)).ownsRow w3.heap.size 3 1 (.slice (some ⟨w3.heap.size, 0, none⟩) 0 0) 0 [] := ⟨rfl, .inr ⟨w3.heap.size, 0, #[], rfl, Nat.le_refl _, heap_alloc_new w3 _, Nat.le_refl _, by unfold maxLen; omega, rfl, rfl⟩⟩
      have hrE : Row (w3.alloc (.cells #[] 3)) H 3 (stI st) := (Below.heap_alloc w3 _ H (by have := hr3.lt; omega)).trans hr3
      have HE : Hid ((w3.alloc (.cells #[] 3)).ownsRow w3.heap.size 3 1 (.slice (some ⟨w3.heap.size, 0, none⟩) 0 0) 0 [] ∧ Row (w3.alloc (.cells #[] 3)) H 3 (stI st) ∧ (∀ i, i < 64 → w3.cell? ⟨gW, i, none⟩ = some (.int .i64 (ws.getD i 0 : Nat))) ∧ Row w3 H 3 (stI st)) := ⟨hE, hrE, cW3, hr3⟩
      clear hE hrE cW3 hr3 hown3 hr ho hb3
      go_wp2_with (at_builtin; refine wpList_append_lies _ rfl _ _ 92 rfl w3.heap.size 3 i0 (.int .i64 0) 1 8 Tryz.underlying92 hi hz0 hz1 hz2 rfl (by decide) (.slice (some ⟨w3.heap.size, 0, none⟩) 0 0) 0 [] rfl HE.out.1 ⟨H, 0, none⟩ 8 8 (stI st) rfl rfl (World.news_of_block HE.out.2.1) ?c1 (by decide) (by decide) (by decide) ?c2 _ rfl ?_)
      case c1 => exact stI_one st
      case c2 => simp
      intro gx cx w4 hown4 hgrow4 hat4 hlt4
      have hb4 : Below w3.heap.size w3 w4 := ((Below.refl _ _).alloc (Nat.le_refl _) _).grown hgrow4 (by simp) (fun k hk => by obtain rfl : w3.heap.size = k := (by simpa [Value.ownBlock] using hk); exact Nat.le_refl _)
      have hr4 : Row w4 H 3 (stI st) := HE.out.2.2.2.below hb4 HE.out.2.2.2.lt
      have ho4 : Only H w2 w4 := ho3.trans (Only.of_below hb4)
      have cW4 : ∀ i, i < 64 → w4.cell? ⟨gW, i, none⟩ = some (.int .i64 (ws.getD i 0 : Nat)) := fun i hi' => (hb4.cell hgW2).trans (HE.out.2.2.1 i hi')
      have cK4 : ∀ i, i < 64 → w4.cell? ⟨GK, i, none⟩ = some (.int .i64 (keyN i : Nat)) := fun i hi' => by
        have h1 : Row w4 GK 3 _ := hk2.only ho4 (by omega)
        rw [h1.cell, List.getElem?_map, List.getElem?_eq_getElem (by simpa [keyL] using hi'), keyN, getD_at _ _ (by simpa [keyL] using hi')]
        rfl
      have cX4 : ∀ i, i < 8 → w4.cell? ⟨gx, i, none⟩ = some (.int .i64 (st.at i : Nat)) := fun i hi' => by
        rw [hown4.cellAt i (by omega)]; exact stI_at st i hi'
      have hgxl : w3.heap.size ≤ gx := by
        rcases hat4 with h | h
        · have : w3.heap.size = gx := by simpa [Value.ownBlock] using h
          omega
        · omega
      have HX4 : Hid (Row w4 H 3 (stI st) ∧ Only H w2 w4 ∧ (∀ i, i < 64 → w4.cell? ⟨gW, i, none⟩ = some (.int .i64 (ws.getD i 0 : Nat))) ∧ (∀ i, i < 64 → w4.cell? ⟨GK, i, none⟩ = some (.int .i64 (keyN i : Nat))) ∧ (∀ i, i < 8 → w4.cell? ⟨gx, i, none⟩ = some (.int .i64 (st.at i : Nat)))) := ⟨hr4, ho4, cW4, cK4, cX4⟩
      have hgW4 : gW < w4.heap.size := Nat.lt_of_lt_of_le hgW2 hb4.size
      have hGK4 : GK < w4.heap.size := Nat.lt_of_lt_of_le hgk ho4.size
      clear hr4 ho4 cW4 cK4 cX4 hown4 hgrow4 hat4 HE hb4 ho3
      go_wp2_with fail
      go_loopw [8, 9] (fun x i wx => ∃ j gx cx : Nat, j ≤ 64 ∧ i = .int .i64 j ∧ x = .slice (some ⟨gx, 0, none⟩) 8 cx ∧ w3.heap.size ≤ gx ∧ gx < wx.heap.size ∧ (∀ i, i < 8 → wx.cell? ⟨gx, i, none⟩ = some (.int .i64 ((rnds ws st j).at i : Nat))) ∧ Below w4.heap.size w4 wx) (fun _ i _ => 64 - (intOf i).toNat)
      case atStart => exact ⟨0, gx, cx, Nat.zero_le _, rfl, rfl, hgxl, hlt4, HX4.out.2.2.2.2, Below.refl _ _⟩
      case round =>
        clear hgxl hlt4
        obtain ⟨j, gx, cx, hj64, rfl, rfl, hgxl, hgxu, hcx, hbx⟩ := hrel
        by_cases hlt' : j < 64
        · have hokj := rnds_ok hok ws j
          have hkk := keyN_lt j
          have hwwl := hwsl j
          have ck := (hbx.cell (p := ⟨GK, j, none⟩) hGK4).trans (HX4.out.2.2.2.1 j hlt')
          have cw := (hbx.cell (p := ⟨gW, j, none⟩) hgW4).trans (HX4.out.2.2.1 j hlt')
          have hrn : rnds ws st (j + 1) = rnd (keyN j) (ws.getD j 0) (rnds ws st j) := rfl
          have HRN : Hid (rnds ws st (j + 1) = rnd (keyN j) (ws.getD j 0) (rnds ws st j)) := hrn
          clear hrn
          generalize rnds ws st j = r at *
          generalize keyN j = kk at *
          generalize ws.getD j 0 = ww at *
          obtain ⟨xa, xb, xc, xd, xe, xf, xg, xh⟩ := r
          obtain ⟨la, lb, lc, ld, le, lf, lg, lh⟩ := hokj
          have c0 : wr.cell? ⟨gx, 0, none⟩ = some (.int .i64 (xa : Nat)) := hcx 0 (by decide)
          have c1 : wr.cell? ⟨gx, 1, none⟩ = some (.int .i64 (xb : Nat)) := hcx 1 (by decide)
          have c2 : wr.cell? ⟨gx, 2, none⟩ = some (.int .i64 (xc : Nat)) := hcx 2 (by decide)
          have c3 : wr.cell? ⟨gx, 3, none⟩ = some (.int .i64 (xd : Nat)) := hcx 3 (by decide)
          have c4 : wr.cell? ⟨gx, 4, none⟩ = some (.int .i64 (xe : Nat)) := hcx 4 (by decide)
          have c5 : wr.cell? ⟨gx, 5, none⟩ = some (.int .i64 (xf : Nat)) := hcx 5 (by decide)
          have c6 : wr.cell? ⟨gx, 6, none⟩ = some (.int .i64 (xg : Nat)) := hcx 6 (by decide)
          have c7 : wr.cell? ⟨gx, 7, none⟩ = some (.int .i64 (xh : Nat)) := hcx 7 (by decide)
          simp only at la lb lc ld le lf lg lh
          clear hcx
          have j64 : (j : Int) < 64 := by omega
          go_wp2_with fail
          go_region_held3 (fun w' => w'.cell? ⟨gx, 4, none⟩ = some (.int .i64 (xe : Nat)) ∧ w'.cell? ⟨gx, 5, none⟩ = some (.int .i64 (xf : Nat)) ∧ w'.cell? ⟨gx, 6, none⟩ = some (.int .i64 (xg : Nat)) ∧ w'.cell? ⟨gx, 7, none⟩ = some (.int .i64 (xh : Nat)) ∧ w'.cell? ⟨GK, j, none⟩ = some (.int .i64 (kk : Nat)) ∧ w'.cell? ⟨gW, j, none⟩ = some (.int .i64 (ww : Nat))) (simp [go_sem, *]) (first | (go_at_call 161; refine (rright_i _ _ (by assumption) (by decide) (by decide) _).mono ?_; rintro e w1 ⟨rfl, rfl⟩))
          rw [rt_bits xe xf xg xh kk ww le lf lg lh hkk hwwl]
          have lT : xh + bs1 xe + chf xe xf xg + kk + ww < 21474836480 := tN_lt (s := ⟨xa, xb, xc, xd, xe, xf, xg, xh⟩) ⟨la, lb, lc, ld, le, lf, lg, lh⟩ hkk hwwl
          obtain ⟨T, hT⟩ : ∃ T, T = xh + bs1 xe + chf xe xf xg + kk + ww := ⟨_, rfl⟩
          rw [← hT] at lT
          rw [← hT]
          have HT : Hid (T = xh + bs1 xe + chf xe xf xg + kk + ww) := hT
          clear hT
          go_wp2_with fail
          go_region_held3 (fun w' => w'.cell? ⟨gx, 0, none⟩ = some (.int .i64 (xa : Nat)) ∧ w'.cell? ⟨gx, 1, none⟩ = some (.int .i64 (xb : Nat)) ∧ w'.cell? ⟨gx, 2, none⟩ = some (.int .i64 (xc : Nat))) (simp [go_sem, *]) (first | (go_at_call 161; refine (rright_i _ _ (by assumption) (by decide) (by decide) _).mono ?_; rintro e w1 ⟨rfl, rfl⟩))
          rw [ru_bits xa xb xc la lb lc]
          have lU : bs0 xa + maj xa xb xc < 8589934592 := uN_lt (s := ⟨xa, xb, xc, xd, xe, xf, xg, xh⟩) ⟨la, lb, lc, ld, le, lf, lg, lh⟩
          obtain ⟨U, hU⟩ : ∃ U, U = bs0 xa + maj xa xb xc := ⟨_, rfl⟩
          rw [← hU] at lU
          rw [← hU]
          have HU : Hid (U = bs0 xa + maj xa xb xc) := hU
          clear hU
          obtain ⟨P, hP⟩ : ∃ P, P = T + U := ⟨_, rfl⟩
          obtain ⟨D, hD⟩ : ∃ D, D = xd + T := ⟨_, rfl⟩
          have hPw : IntKind.i64.wrap ((T : Int) + (U : Int)) = (P : Int) := by rw [hP, wraps_i64 _ (by omega) (by omega)]; omega
          have hDw : IntKind.i64.wrap ((xd : Int) + (T : Int)) = (D : Int) := by rw [hD, wraps_i64 _ (by omega) (by omega)]; omega
          have lP : P < 9223372036854775808 := by omega
          have lD : D < 9223372036854775808 := by omega
          have HPD : Hid (P = T + U ∧ D = xd + T) := ⟨hP, hD⟩
          clear hP hD
          have AL : ∀ o i, (wr.alloc o).cell? ⟨gx, i, none⟩ = wr.cell? ⟨gx, i, none⟩ := fun o i => World.cell?_of_block (Below.heap_alloc wr o gx (by omega))
          have HW5 : Hid (∀ o, Below w4.heap.size w4 (wr.alloc o)) := fun o => hbx.alloc hbx.size o
          go_wp2_with fail
          go_region_held3 (fun w' => w'.cell? ⟨gx, 0, none⟩ = some (.int .i64 (xa : Nat)) ∧ w'.cell? ⟨gx, 1, none⟩ = some (.int .i64 (xb : Nat)) ∧ w'.cell? ⟨gx, 2, none⟩ = some (.int .i64 (xc : Nat)) ∧ w'.cell? ⟨gx, 3, none⟩ = some (.int .i64 (xd : Nat)) ∧ w'.cell? ⟨gx, 4, none⟩ = some (.int .i64 (xe : Nat)) ∧ w'.cell? ⟨gx, 5, none⟩ = some (.int .i64 (xf : Nat)) ∧ w'.cell? ⟨gx, 6, none⟩ = some (.int .i64 (xg : Nat))) (simp [go_sem, *]) (first | (go_at_call 162; refine (low_any _ (by assumption) _).mono ?_; rintro e w1 ⟨rfl, rfl⟩))
          have hrc := rnd_cells ⟨xa, xb, xc, xd, xe, xf, xg, xh⟩ kk ww P D (by rw [HPD.out.1, HT.out, HU.out]; rfl) (by rw [HPD.out.2, HT.out]; rfl)
          have HRC : Hid _ := hrc
          clear hrc c0 c1 c2 c3 c4 c5 c6 c7 ck cw
          go_wp2
          refine ⟨⟨j + 1, wr.heap.size, 8, by omega, by go_num, rfl, by omega, ?_, fun i hi' => ?_, (HW5.out _).drew.drew.drew.drew.drew.drew.drew.drew.drew⟩, ?_⟩
          · show wr.heap.size < (wr.alloc _).heap.size
            simp
          · refine (cell_of_row _ _ _ _ _ _ (heap_alloc_new wr _)).trans ?_
            rw [HRN.out]
            exact HRC.out i hi'
          · simp [intOf]; omega
        · obtain rfl : j = 64 := by omega
          rw [show ((64 : Nat) : Int) = 64 from rfl]
          have HX5 : Hid ((∀ i, i < 8 → wr.cell? ⟨gx, i, none⟩ = some (.int .i64 ((rnds ws st 64).at i : Nat))) ∧ Row wr H 3 (stI st) ∧ Only H w2 wr) := ⟨hcx, HX4.out.1.below hbx (HX4.out.1.lt), HX4.out.2.1.trans (Only.of_below hbx)⟩
          clear hcx hbx
          obtain ⟨X, hX⟩ : ∃ X, X = rnds ws st 64 := ⟨_, rfl⟩
          have hXok : X.ok := by rw [hX]; exact rnds_ok hok ws 64
          rw [← hX] at HX5
          have HX : Hid (X = rnds ws st 64) := hX
          clear hX
          go_wp2_with fail
          go_loopw [12] (fun i wz => ∃ j : Nat, j ≤ 8 ∧ i = .int .i64 j ∧ Row wz H 3 ((stI (addSt st X)).take j ++ (stI st).drop j) ∧ Only H wr wz) (fun i _ => 8 - (intOf i).toNat)
          case atStart => exact ⟨0, Nat.zero_le _, rfl, HX5.out.2.1, Only.refl _ _⟩
          case round =>
            obtain ⟨j, hj8, rfl, hrz, hoz⟩ := hrel
            by_cases hl8 : j < 8
            · have ch : wr.cell? ⟨H, j, none⟩ = some (.int .i64 (st.at j : Nat)) := by
                rw [hrz.cell, List.getElem?_append_right (by simp [stI_length]; omega), List.length_take, stI_length, List.getElem?_drop, show j + (j - min j 8) = j by omega]
                exact stI_at st j hl8
              have cx' : wr.cell? ⟨gx, j, none⟩ = some (.int .i64 (X.at j : Nat)) := by
                rw [World.cell?_of_block (a := ⟨gx, j, none⟩) (hoz.2 gx hgxu (by omega))]
                exact HX5.out.1 j hl8
              have cf : wr.frozen? ⟨H, j, none⟩ = false := hrz.frozen j
              have l1 := St.at_lt hok j
              have l2 := St.at_lt hXok j
              have HAT : Hid ((st.at j + X.at j) % 4294967296 = (addSt st X).at j) := addSt_at st X j hl8
              have HST2 : Hid ((stI st)[j]? = some (.int .i64 (st.at j : Nat))) := stI_at st j hl8
              generalize st.at j = a1 at *
              generalize X.at j = a2 at *
              obtain ⟨P, hP⟩ : ∃ P, P = a1 + a2 := ⟨_, rfl⟩
              have hPw : IntKind.i64.wrap ((a1 : Int) + (a2 : Int)) = (P : Int) := by rw [hP, wraps_i64 _ (by omega) (by omega)]; omega
              have lP : P < 9223372036854775808 := by omega
              rw [← hP] at HAT
              have HP : Hid (P = a1 + a2) := hP
              clear hP
              have j8 : (j : Int) < 8 := by omega
              have hrz2 : Row (wr.setCell ⟨H, j, none⟩ (.int .i64 ((P % 4294967296 : Nat) : Int))) H 3 ((stI (addSt st X)).take (j + 1) ++ (stI st).drop (j + 1)) := by
                have h1 : (stI st).drop j = .int .i64 (a1 : Nat) :: (stI st).drop (j + 1) := by
                  have h2 := HST2.out
                  rw [List.drop_eq_getElem_cons (by rw [stI_length]; exact hl8)]
                  congr 1
                  rw [List.getElem?_eq_getElem (by rw [stI_length]; exact hl8)] at h2
                  exact Option.some.inj h2
                have h3 : Row wr H 3 ((stI (addSt st X)).take j ++ [.int .i64 (a1 : Nat)] ++ (stI st).drop (j + 1)) := by
                  rw [h1] at hrz
                  simpa using hrz
                have h4 := h3.set (n := j) (.int .i64 ((P % 4294967296 : Nat) : Int)) (by simp [stI_length]; omega)
                rw [List.take_succ_eq_append_getElem (by rw [stI_length]; exact hl8)]
                have h5 : (stI (addSt st X))[j]'(by rw [stI_length]; exact hl8) = .int .i64 ((P % 4294967296 : Nat) : Int) := by
                  have h6 := stI_at (addSt st X) j hl8
                  rw [List.getElem?_eq_getElem (by rw [stI_length]; exact hl8), ← HAT.out] at h6
                  exact Option.some.inj h6
                rw [h5]
                exact h4
              have HZ2 : Hid (Row (wr.setCell ⟨H, j, none⟩ (.int .i64 ((P % 4294967296 : Nat) : Int))) H 3 ((stI (addSt st X)).take (j + 1) ++ (stI st).drop (j + 1)) ∧ Only H _ (wr.setCell ⟨H, j, none⟩ (.int .i64 ((P % 4294967296 : Nat) : Int)))) := ⟨hrz2, hoz.setCell _ _⟩
              clear hrz hrz2 hoz
              go_wp2_with fail
              go_region_with (first | (go_at_call 162; refine (low_any _ lP _).mono ?_; rintro e w1 ⟨rfl, rfl⟩))
              all_goals
                go_wp2
                go_roundw
                case rel => exact ⟨j + 1, by omega, by go_num, HZ2.out.1, HZ2.out.2.drew⟩
                case measure => simp [intOf]; omega
            · obtain rfl : j = 8 := by omega
              have HZ3 : Hid (Row wr H 3 (stI (absorb F (q + 1))) ∧ Only H w2 wr) := by
                refine ⟨?_, HX5.out.2.2.trans hoz⟩
                have h1 : absorb F (q + 1) = addSt st X := by
                  rw [absorb, comp, ← HST.out, HX.out, HWS.out, HAQ.out]
                rw [h1]
                have h2 := hrz
                rw [List.take_of_length_le (by rw [stI_length]; exact Nat.le_refl _), List.drop_eq_nil_of_le (by rw [stI_length]; exact Nat.le_refl _), List.append_nil] at h2
                exact h2
              clear hrz hoz
              go_wp2
              go_roundw
              case rel => exact ⟨A + 64, q + 1, by have := HAQ.out; omega, hA2, by go_num, HZ3.out.1, HZ3.out.2⟩
              case measure => simp [intOf]; omega
    · obtain rfl : A = nF := by omega
      obtain ⟨S, hS⟩ : ∃ S, S = absorb F q := ⟨_, rfl⟩
      have hSok : S.ok := by rw [hS]; exact absorb_ok _ _
      have HS : Hid (shaL (numsOf s) = outL S) := by
        show _ = _
        have h1 := HSH.out
        rw [hAq, show 64 * q / 64 = q by omega, ← hS] at h1
        exact h1
      rw [← hS] at hr
      clear hS hAq
      have hbw : Below H w wr := HW.out.2.trans (ho.below (by have := HW.out.2.size; have := HW.out.1; omega))
      have hHr := hr.lt
      go_wp2_with fail
      go_loopw [13, 14] (fun v i wo => ∃ j : Nat, j ≤ 8 ∧ i = .int .i64 j ∧ wo.ownsRow wr.heap.size 5 1 v (4 * j) (byV (outN S j)) ∧ Below wr.heap.size wr wo) (fun _ i _ => 8 - (intOf i).toNat)
      case atStart => exact ⟨0, Nat.zero_le _, rfl, World.ownsRow_nil _ _ _ _, Below.refl _ _⟩
      case round =>
        obtain ⟨j, hj8, rfl, hown, hbo⟩ := hrel
        by_cases hl8 : j < 8
        · have ch := (hbo.cell (p := ⟨H, j, none⟩) hHr).trans ((hr.cell j).trans (stI_at S j hl8))
          have l1 := St.at_lt hSok j
          obtain ⟨x, hx⟩ : ∃ x, x = S.at j := ⟨_, rfl⟩
          rw [← hx] at ch l1
          have HX : Hid (x = S.at j) := hx
          clear hx
          have j8 : (j : Int) < 8 := by omega
          have hHw : H < wr.heap.size := Nat.lt_of_lt_of_le hHr hbo.size
          have AL : ∀ o, (wr.alloc o).cell? ⟨H, j, none⟩ = some (.int .i64 (x : Nat)) := fun o => (World.cell?_of_block (Below.heap_alloc wr o H (by omega))).trans ch
          obtain ⟨y0, hy0'⟩ : ∃ y, y = x / 16777216 % 256 := ⟨_, rfl⟩
          obtain ⟨y1, hy1'⟩ : ∃ y, y = x / 65536 % 256 := ⟨_, rfl⟩
          obtain ⟨y2, hy2'⟩ : ∃ y, y = x / 256 % 256 := ⟨_, rfl⟩
          obtain ⟨y3, hy3'⟩ : ∃ y, y = x % 256 := ⟨_, rfl⟩
          have f0 : IntKind.u8.wrap ((x : Int) / 16777216) = (y0 : Int) := by rw [IntKind.wrap_u8, hy0']; omega
          have f1 : IntKind.u8.wrap (bits .and .i64 ((x : Int) / 65536) 255) = (y1 : Int) := by
            rw [show (x : Int) / 65536 = ((x / 65536 : Nat) : Int) by omega, show (255 : Int) = ((255 : Nat) : Int) from rfl, i64_and_nat _ _ (by omega) (by decide), mask8, IntKind.wrap_u8, hy1']; omega
          have f2 : IntKind.u8.wrap (bits .and .i64 ((x : Int) / 256) 255) = (y2 : Int) := by
            rw [show (x : Int) / 256 = ((x / 256 : Nat) : Int) by omega, show (255 : Int) = ((255 : Nat) : Int) from rfl, i64_and_nat _ _ (by omega) (by decide), mask8, IntKind.wrap_u8, hy2']; omega
          have f3 : IntKind.u8.wrap (bits .and .i64 (x : Int) 255) = (y3 : Int) := by
            rw [show (255 : Int) = ((255 : Nat) : Int) from rfl, i64_and_nat _ _ (by omega) (by decide), mask8, IntKind.wrap_u8, hy3']; omega
          have HB : Hid (byV (outN S (j + 1)) = byV (outN S j) ++ [.int .u8 (y0 : Nat), .int .u8 (y1 : Nat), .int .u8 (y2 : Nat), .int .u8 (y3 : Nat)]) := by
            show _ = _
            rw [outN, byV_append, ← HX.out, hy0', hy1', hy2', hy3']
            rfl
          clear hy0' hy1' hy2' hy3'
          have HO : Hid (∀ o, ((wr.alloc o).drew).ownsRow _ 5 1 u13 (4 * j) (byV (outN S j)) ∧ Below _ _ ((wr.alloc o).drew)) := fun o => ⟨(hown.alloc o).drew, (hbo.alloc hbo.size o).drew⟩
          have HNE : Hid (∀ g', u13.ownBlock = some g' → _ ≤ g') := fun g' hg' => (hown.lt g' hg').1
          clear hown hbo
          go_wp2_with fail
          go_region_held3 (fun w' => w'.cell? ⟨H, j, none⟩ = some (.int .i64 (x : Nat))) (simp [go_sem, *]) (first | (refine step_append_lies _ rfl _ _ 143 rfl _ 5 i1 (.int .u8 0) 1 1 Tryz.underlying143 hj hy0 hy1 hy2 rfl (by decide) u13 (4 * j) _ rfl (HO.out _).1 ⟨wr.heap.size, 0, none⟩ 4 4 [.int .u8 (y0 : Nat), .int .u8 (y1 : Nat), .int .u8 (y2 : Nat), .int .u8 (y3 : Nat)] rfl rfl (World.news_of_block (heap_alloc_new wr _)) (four_one _ _ _ _) (by decide) (by unfold maxLen; omega) (by omega) (Below.size' (HO.out _).2) _ rfl ?_; intro g1 cap1 w1 hown1 hgrow1 hat1 hlt1; have d0 := (grown_cell hgrow1 HNE.out hHr hHw j).trans ch))
          have hb2 := (HO.out _).2.grown hgrow1 (Below.size' (HO.out _).2) (fun g hg => HNE.out g hg)
          have hown2 := HB.out ▸ hown1
          have HF : Hid (_ ∧ _) := ⟨hown2, hb2⟩
          clear hown1 hown2 hgrow1 hat1 hlt1 hb2 d0
          go_wp2
          go_roundw
          case rel => exact ⟨j + 1, by omega, by go_num, HF.out.1, HF.out.2⟩
          case measure => simp [intOf]; omega
        · obtain rfl : j = 8 := by omega
          obtain ⟨g, cap, rfl, _, _⟩ := hown.form (by decide)
          have hcv := run_convert_bytes_arg (P := Tryz.prog) wr 143 5 Tryz.underlying143 Tryz.underlying5 g 0 32 cap ((outL S).map fun (x : Nat) => (x : Int)) (by simp [outL_length]) (fun i hi => by
            rw [Nat.zero_add, hown.cellAt i (by omega), outN_all, byV_get _ _ (by rw [outL_length]; exact hi), getD_at _ _ (by rw [outL_length]; exact hi)]
            simp [List.getD, outL_length, hi]) 9 Tryz.underlying9
          have HCV : Hid (strOfNums ((outL S).map fun (x : Nat) => (x : Int)) = shaS (numsOf s)) := by show _ = _; rw [shaS, HS.out]
          rw [HCV.out] at hcv
          have HF : Hid (Below w.heap.size w wr) := by
            have h1 := HW.out.1
            show Below _ _ _
            rw [← h1]
            exact hbw.trans (hbo.mono (by omega))
          clear hown hbo hbw
          go_wp2
          go_ret
          exact ⟨rfl, HF.out⟩
end Go.Proofs.YtoopaigpjefonaaGreatDoor.Sm
