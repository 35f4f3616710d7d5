/- The law BlockOpens, called with any heads, places and text, returns true, and changes nothing that was there. -/
import Derived.Test.YtcefoeaakdemmaaGreatDoorBkTrio
import Derived.Test.YtcefoeaakdemmaaGreatDoorBxOwn
import Derived.Deep.Cut
namespace Go.Proofs.YtcefoeaakdemmaaGreatDoor
set_option maxRecDepth 20000
open Go.RowKit

theorem hidBelow {w w' : World} {N B B' : Nat} {S S' : VS} {v : Value} {l : List ByteArray} (t : Hid (Trio w N B B' S S' v l)) (hb : Below w.heap.size w w') : Hid (Trio w' N B B' S S' v l) := t.out.below hb
def sealB (l : List Hd) (b : ByteArray) : Nat → VS
  | 0 => newV
  | j + 1 => bsealP (sealB l b j) (l.getD j default) b
theorem sealB_len (l : List Hd) (b : ByteArray) : ∀ j, (sealB l b j).seals.length ≤ j
  | 0 => Nat.le_refl _
  | j + 1 => by
    have h1 := sealB_len l b j
    have h2 := bsealP_len (sealB l b j) (l.getD j default) b
    show (bsealP _ _ _).seals.length ≤ _
    omega

set_option maxRecDepth 100000 in
set_option maxHeartbeats 8000000 in
theorem walk_blockOpens (v0 : Value) (l : List Hd) (which at_ by_ : Int) (raw : ByteArray) (w : World) (hl : HdsV w v0 l) :
    Calls Tryz.prog 4 #[v0, .int .i64 which, .int .i64 at_, .int .u8 by_, .string raw] w fun e w' => e = .returned (.bool true) ∧ Below w.heap.size w w' := by
  obtain ⟨oa, ca, rfl⟩ := hl.form
  have HL : Hid (HdsV w (.slice oa l.length ca) l) := hl
  clear hl
  obtain ⟨J, hJ, hcase⟩ : ∃ J, (J ≤ l.length ∧ J ≤ 8) ∧ ((¬ (J : Int) < (l.length : Nat)) ∨ ((J : Int) < (l.length : Nat) ∧ ¬ (J : Int) < 8)) := ⟨min l.length 8, by omega, by omega⟩
  have HOP : Hid (∀ j, j < J → (∃ g o, oa = some ⟨g, o, none⟩ ∧ g < w.heap.size ∧ HdAt w g (o + j * 8) (l.getD j default)) ∧ hdI (l.getD j default)) := fun j hj => by
    obtain ⟨g, o, e, hg, hx⟩ := HL.out.get (i := j) (by omega)
    rw [List.getD_eq_getElem?_getD, List.getElem?_eq_getElem (by omega)]
    exact ⟨⟨g, o, e, hg, hx j _ (List.getElem?_eq_getElem (by omega))⟩, HL.out.1 _ (List.getElem_mem _)⟩
  clear HL
  have hbd := fun w => body_any ⟨#[97, 98, 99]⟩ w
  generalize bodyS ⟨#[97, 98, 99]⟩ = b at *
  obtain ⟨i0, hi0, hz0, hz1, hz2⟩ := info_parts info_str1
  obtain ⟨i1, hi1, hy0, hy1, hy2⟩ := info_parts info_u8
  rcases hcase with hcs | ⟨hcs, hcs2⟩
  all_goals
    go_enter Tryz.func4, Tryz.ntmps4
    go_wp2_with fail
    refine (ideal_any w).mono ?_
    rintro e w1 ⟨B, rfl, hp, hb⟩
    have ht0 := trio_new hp hb
    have hT2 := hb.alloc hb.size (.cells #[.bool true, .string ⟨#[]⟩, .slice none 0 0, .slice none 0 0, .slice none 0 0] 36)
    obtain ⟨w2, hw2⟩ : ∃ w2, w1.alloc (.cells #[.bool true, .string ⟨#[]⟩, .slice none 0 0, .slice none 0 0, .slice none 0 0] 36) = w2 := ⟨_, rfl⟩
    rw [hw2] at ht0 hT2
    have HB : Hid (Trio w2 w.heap.size B w1.heap.size newV newV (.slice none 0 0) [] ∧ Below w.heap.size w w2) := ⟨ht0, hT2⟩
    clear hp hb ht0 hT2
    go_wp2_with fail
    try rw [hw2]
    go_loopw [13, 14, 15, 16, 17, 18] (fun v i _ _ _ _ wr => ∃ (j : Nat) (T : List ByteArray), j ≤ J ∧ T.length = j ∧ i = .int .i64 j ∧ Trio wr w.heap.size B w1.heap.size (sealB l b j) (sealB l b j) v T ∧ Below w.heap.size w wr) (fun _ i _ _ _ _ _ => J - (intOf i).toNat)
    case atStart => exact ⟨0, [], Nat.zero_le _, rfl, rfl, HB.out.1, HB.out.2⟩
    case round =>
      clear HB
      obtain ⟨j, T, hj, hTj, rfl, ht, hT⟩ := hrel
      obtain ⟨ob, cb, rfl⟩ := ht.form
      have HTJ : Hid (T.length = j) := hTj
      have hT8 : T.length ≤ 8 := by omega
      clear hTj
      by_cases hlt : j < J
      · have j1 : (j : Int) < (l.length : Nat) := by omega
        have j2 : (j : Int) < 8 := by omega
        have j0 : (0 : Int) ≤ (j : Int) := by omega
        obtain ⟨⟨g, o, rfl, hg, hx0⟩, hok⟩ := HOP.out j hlt
        have hx := hx0.later hT hg
        have hsl := sealB_len l b j
        have hN : w.heap.size ≤ wr.heap.size := hT.size
        obtain ⟨x, hxx⟩ : ∃ x, x = l.getD j default := ⟨_, rfl⟩
        have hSS : bsealP (sealB l b j) x b = sealB l b (j + 1) := by rw [hxx]; rfl
        rw [← hxx] at hx hok
        have hs1 := fun w' t => tseal_any w.heap.size B w1.heap.size (sealB l b j) (sealB l b j) (.slice ob T.length cb) T x b (by omega) w' t
        have hs2 := fun w' t => trseal_any w.heap.size B w1.heap.size (sealB l b (j + 1)) (sealB l b j) (.slice ob T.length cb) T x b hok (by omega) w' t
        obtain ⟨Sk, HSk⟩ : ∃ y, Hid (y = sealB l b (j + 1)) := ⟨_, rfl⟩
        simp only [Hd.arr, hSS] at hs1 hs2
        simp only [← HSk.out] at hs1 hs2
        generalize bsealS (sealB l b j) x b = R at *
        generalize bsealE x b = E at *
        generalize sealB l b j = Sj at *
        obtain ⟨c0, c1, c2, c3, c4, c5, c6, c7⟩ := hx.cells8
        have HT : Hid (Below w.heap.size w wr) := hT
        have HX : Hid (HdAt wr g (o + j * 8) x) := hx
        clear hx hx0 hxx hT hSS
        go_wp2_with fail
        go_region_held3 (fun w' => w'.cell? ⟨g, o + j * 8, none⟩ = some (.int .i64 x.v0) ∧ w'.cell? ⟨g, o + j * 8 + 1, none⟩ = some (.int .i64 x.v1) ∧ w'.cell? ⟨g, o + j * 8 + 2, none⟩ = some (.int .i64 x.v2) ∧ w'.cell? ⟨g, o + j * 8 + 3, none⟩ = some (.int .i64 x.v3) ∧ w'.cell? ⟨g, o + j * 8 + 4, none⟩ = some (.int .i64 x.v4) ∧ w'.cell? ⟨g, o + j * 8 + 5, none⟩ = some (.int .i64 x.v5) ∧ w'.cell? ⟨g, o + j * 8 + 6, none⟩ = some (.int .i64 x.v6) ∧ w'.cell? ⟨g, o + j * 8 + 7, none⟩ = some (.int .i64 x.v7)) (simp [go_sem, *])
          (first | (go_at_call 5; refine (hbd _).mono ?_; rintro e wA ⟨rfl, hbA⟩; have hBA : Below wr.heap.size wr wA := (Below.refl _ _).drew.trans hbA; have hkA : ∀ i, wA.cell? ⟨g, i, none⟩ = wr.cell? ⟨g, i, none⟩ := cell_kept_ (hBA.block _ (by omega))) | (go_at_call 6; refine (hs1 _ (ht.below hBA)).mono ?_; rintro e wB ⟨rfl, htB, hbB⟩; have hBB : Below w.heap.size wr wB := (hBA.mono hN).trans hbB; have hkB : ∀ i, wB.cell? ⟨g, i, none⟩ = wr.cell? ⟨g, i, none⟩ := cell_kept_ (hBB.block _ hg)))
        have HTB : Hid (Below w.heap.size w wB) := HT.out.trans hBB
        have hNB : w.heap.size ≤ wB.heap.size := HTB.out.size
        have hxB := HX.out.later hBB hg
        clear hkA hkB hBA hbA hbB hBB c0 c1 c2 c3 c4 c5 c6 c7 HT HX ht hs1
        obtain ⟨c0, c1, c2, c3, c4, c5, c6, c7⟩ := hxB.cells8
        clear hxB
        go_wp2_with fail
        go_region_held3 (fun w' => w'.cell? ⟨g, o + j * 8, none⟩ = some (.int .i64 x.v0) ∧ w'.cell? ⟨g, o + j * 8 + 1, none⟩ = some (.int .i64 x.v1) ∧ w'.cell? ⟨g, o + j * 8 + 2, none⟩ = some (.int .i64 x.v2) ∧ w'.cell? ⟨g, o + j * 8 + 3, none⟩ = some (.int .i64 x.v3) ∧ w'.cell? ⟨g, o + j * 8 + 4, none⟩ = some (.int .i64 x.v4) ∧ w'.cell? ⟨g, o + j * 8 + 5, none⟩ = some (.int .i64 x.v5) ∧ w'.cell? ⟨g, o + j * 8 + 6, none⟩ = some (.int .i64 x.v6) ∧ w'.cell? ⟨g, o + j * 8 + 7, none⟩ = some (.int .i64 x.v7)) (simp [go_sem, *])
          (first | (go_at_call 5; refine (hbd _).mono ?_; rintro e wC ⟨rfl, hbC⟩; have hBC : Below wB.heap.size wB wC := (Below.refl _ _).drew.trans hbC; have hkC : ∀ i, wC.cell? ⟨g, i, none⟩ = wB.cell? ⟨g, i, none⟩ := cell_kept_ (hBC.block _ (by omega))) | (go_at_call 8; refine (hs2 _ (htB.below hBC)).mono ?_; rintro e wD ⟨rfl, htD, hbD⟩; have hBD : Below w.heap.size wB wD := (hBC.mono hNB).trans hbD; have hkD : ∀ i, wD.cell? ⟨g, i, none⟩ = wB.cell? ⟨g, i, none⟩ := cell_kept_ (hBD.block _ hg)))
        have HTD : Hid (Below w.heap.size w wD) := HTB.out.trans hBD
        clear hkC hkD hBC hbC hbD hBD c0 c1 c2 c3 c4 c5 c6 c7 HTB htB hs2
        have hown := (htD.below ((Below.refl wD.heap.size wD).alloc (Nat.le_refl _) (.cells #[.string R] 9))).owns
        have hnew : (wD.alloc (.cells #[.string R] 9)).heap[wD.heap.size]? = some (.cells #[.string R] 9 (0, 0)) := heap_alloc_new wD _
        have hone : ∀ u ∈ ([.string R] : List Value), u.oneCell' = true := by intro u hu; simp at hu; rw [hu]; rfl
        have HD : Hid (Trio wD w.heap.size B w1.heap.size Sk Sk (.slice ob T.length cb) T) := htD
        clear htD
        go_wp2_with (first | (at_builtin; refine wpList_append_own_at _ rfl _ _ 32 rfl 0 9 i0 (.string ⟨#[]⟩) 1 16 Tryz.underlying32 hi0 hz0 hz1 hz2 rfl (by decide) (.slice ob T.length cb) T.length (T.map Value.string) rfl hown ⟨wD.heap.size, 0, none⟩ 1 1 [.string R] rfl rfl (World.news_of_block hnew) hone (by unfold maxLen; omega) (by omega) (Nat.zero_le _) ?_))
        intro v1 wF hown1 hgrow1 _ hat1
        obtain ⟨htF, hbF⟩ := (HD.out.below ((Below.refl wD.heap.size wD).alloc (Nat.le_refl _) (.cells #[.string R] 9))).append hown1 hgrow1 (by rw [World.size_alloc]; exact hat1)
        have HF : Hid (Trio wF w.heap.size B w1.heap.size Sk Sk v1 (T ++ [R]) ∧ Below w.heap.size w wF) := ⟨htF, (HTD.out.alloc HTD.out.size _).trans hbF⟩
        clear htF hbF HD HTD hown hnew hone hown1 hgrow1 hat1
        go_wp2
        go_roundw
        case rel => exact ⟨j + 1, T ++ [R], by omega, by simp [HTJ.out], by go_num, by rw [← HSk.out]; exact HF.out.1, HF.out.2⟩
        case measure => simp [intOf]; omega
      · obtain rfl : j = J := by omega
        have hsl := sealB_len l b j
        generalize sealB l b j = S at *
        have HTR : Hid (Trio wr w.heap.size B w1.heap.size S S (.slice ob T.length cb) T) := ht
        have HT5 : Hid (Below w.heap.size w wr) := hT
        clear hT HOP hbd ht hi1 hy0 hy1 hy2
        have hway : which < 0 ∨ (0 ≤ which ∧ ¬ which < (T.length : Nat)) ∨ ∃ k : Nat, which = k ∧ ∃ hk : k < T.length, ∃ q, q = T[k] ∧ (¬ q.size = 512 ∨ (q.size = 512 ∧ (at_ < 0 ∨ (0 ≤ at_ ∧ ¬ at_ < 512) ∨ ∃ m : Nat, at_ = m ∧ m < 512))) := by
          by_cases a1 : which < 0
          · exact .inl a1
          by_cases a2 : which < (T.length : Nat)
          case neg => exact .inr (.inl ⟨by omega, a2⟩)
          refine .inr (.inr ⟨which.toNat, by omega, by omega, _, rfl, ?_⟩)
          by_cases a3 : T[which.toNat].size = 512
          case neg => exact .inl a3
          refine .inr ⟨a3, ?_⟩
          by_cases a4 : at_ < 0
          · exact .inl a4
          by_cases a5 : at_ < 512
          · exact .inr (.inr ⟨at_.toNat, by omega, by omega⟩)
          · exact .inr (.inl ⟨by omega, a5⟩)
        rcases hway with a1 | ⟨a1, a2⟩ | ⟨k, rfl, hk, q, hq0, a3 | ⟨a3, a4 | ⟨a4, a5⟩ | ⟨m, rfl, a5⟩⟩⟩
        case' inl =>
          have b1 : ¬ (0 : Int) ≤ which := by omega
          go_wp2_with fail
          obtain ⟨u, hu⟩ : ∃ u, u = raw := ⟨_, rfl⟩
          subst hu
          obtain ⟨W5, hW5⟩ : ∃ x, x = wr := ⟨_, rfl⟩
          subst hW5
        case' inr.inl =>
          go_wp2_with fail
          obtain ⟨u, hu⟩ : ∃ u, u = raw := ⟨_, rfl⟩
          subst hu
          obtain ⟨W5, hW5⟩ : ∃ x, x = wr := ⟨_, rfl⟩
          subst hW5
        case' inr.inr.inl =>
          obtain ⟨g5, rfl, hc5⟩ := HTR.out.text hk
          rw [← hq0] at hc5
          have b1 : ((q.size : Int) == 512) = false := beq_false_of_ne (by omega)
          have b2 : (k : Int) < (T.length : Nat) := by omega
          have b3 : (0 : Int) ≤ (k : Int) := by omega
          clear hq0
          go_wp2_with fail
          obtain ⟨u, hu⟩ : ∃ u, u = raw := ⟨_, rfl⟩
          subst hu
          obtain ⟨W5, hW5⟩ : ∃ x, x = wr := ⟨_, rfl⟩
          subst hW5
        case' inr.inr.inr.inl =>
          have b4 : ¬ (0 : Int) ≤ at_ := by omega
          obtain ⟨g5, rfl, hc5⟩ := HTR.out.text hk
          rw [← hq0] at hc5
          have b2 : (k : Int) < (T.length : Nat) := by omega
          have b3 : (0 : Int) ≤ (k : Int) := by omega
          have hcv := Lib.run_convert_string_bytes (P := Tryz.prog) wr 9 40 5 q Tryz.underlying9 Tryz.underlying40 Tryz.underlying5
          have hO := bytesWorld_own wr 5 q (by unfold maxLen; omega)
          have hB := bytesWorld_below wr 5 q
          rw [numsV] at hO
          rw [a3] at hO hcv
          have hge := hO.room
          have hnl : (numsOf q).length = 512 := by rw [numsOf_length]; exact a3
          generalize grownCap wr 512 0 5 = cp at *
          generalize Lib.bytesWorld wr 5 q = W5 at *
          have hce : ∀ i, i < 512 → W5.cell? ⟨wr.heap.size, i, none⟩ = some (.int .u8 ((numsOf q).getD i 0 : Nat)) := fun i hi => hO.cells i _ (byV_get _ i (by omega))
          have HTR0 := HTR
          have HT0 := HT5
          replace HTR := hidBelow HTR hB
          replace HT5 : Hid (Below w.heap.size w W5) := HT5.out.trans (hB.mono HT5.out.size)
          have b1 : (q.size : Int) = 512 := by omega
          clear hq0
          have hcv2 := run_convert_bytes_arg (P := Tryz.prog) W5 40 5 Tryz.underlying40 Tryz.underlying5 wr.heap.size 0 512 cp ((numsOf q).map fun (n : Nat) => (n : Int)) (by simp [hnl]) (fun i hi => by
            rw [Nat.zero_add, hce i hi]
            simp [List.getD, List.getElem?_eq_getElem (show i < (numsOf q).length by omega)]) 9 Tryz.underlying9
          generalize strOfNums ((numsOf q).map fun (n : Nat) => (n : Int)) = u at *
          clear hO hB hce hnl HTR0 HT0
          go_wp2_with fail
          clear hcv hcv2
        case' inr.inr.inr.inr.inl =>
          obtain ⟨g5, rfl, hc5⟩ := HTR.out.text hk
          rw [← hq0] at hc5
          have b2 : (k : Int) < (T.length : Nat) := by omega
          have b3 : (0 : Int) ≤ (k : Int) := by omega
          have hcv := Lib.run_convert_string_bytes (P := Tryz.prog) wr 9 40 5 q Tryz.underlying9 Tryz.underlying40 Tryz.underlying5
          have hO := bytesWorld_own wr 5 q (by unfold maxLen; omega)
          have hB := bytesWorld_below wr 5 q
          rw [numsV] at hO
          rw [a3] at hO hcv
          have hge := hO.room
          have hnl : (numsOf q).length = 512 := by rw [numsOf_length]; exact a3
          generalize grownCap wr 512 0 5 = cp at *
          generalize Lib.bytesWorld wr 5 q = W5 at *
          have hce : ∀ i, i < 512 → W5.cell? ⟨wr.heap.size, i, none⟩ = some (.int .u8 ((numsOf q).getD i 0 : Nat)) := fun i hi => hO.cells i _ (byV_get _ i (by omega))
          have HTR0 := HTR
          have HT0 := HT5
          replace HTR := hidBelow HTR hB
          replace HT5 : Hid (Below w.heap.size w W5) := HT5.out.trans (hB.mono HT5.out.size)
          have b1 : (q.size : Int) = 512 := by omega
          clear hq0
          have hcv2 := run_convert_bytes_arg (P := Tryz.prog) W5 40 5 Tryz.underlying40 Tryz.underlying5 wr.heap.size 0 512 cp ((numsOf q).map fun (n : Nat) => (n : Int)) (by simp [hnl]) (fun i hi => by
            rw [Nat.zero_add, hce i hi]
            simp [List.getD, List.getElem?_eq_getElem (show i < (numsOf q).length by omega)]) 9 Tryz.underlying9
          generalize strOfNums ((numsOf q).map fun (n : Nat) => (n : Int)) = u at *
          clear hO hB hce hnl HTR0 HT0
          go_wp2_with fail
          clear hcv hcv2
        case' inr.inr.inr.inr.inr =>
          obtain ⟨g5, rfl, hc5⟩ := HTR.out.text hk
          rw [← hq0] at hc5
          have b2 : (k : Int) < (T.length : Nat) := by omega
          have b3 : (0 : Int) ≤ (k : Int) := by omega
          have hcv := Lib.run_convert_string_bytes (P := Tryz.prog) wr 9 40 5 q Tryz.underlying9 Tryz.underlying40 Tryz.underlying5
          have hO := bytesWorld_own wr 5 q (by unfold maxLen; omega)
          have hB := bytesWorld_below wr 5 q
          rw [numsV] at hO
          rw [a3] at hO hcv
          have hge := hO.room
          have hnl : (numsOf q).length = 512 := by rw [numsOf_length]; exact a3
          generalize grownCap wr 512 0 5 = cp at *
          generalize Lib.bytesWorld wr 5 q = W5 at *
          have hce : ∀ i, i < 512 → W5.cell? ⟨wr.heap.size, i, none⟩ = some (.int .u8 ((numsOf q).getD i 0 : Nat)) := fun i hi => hO.cells i _ (byV_get _ i (by omega))
          have HTR0 := HTR
          have HT0 := HT5
          replace HTR := hidBelow HTR hB
          replace HT5 : Hid (Below w.heap.size w W5) := HT5.out.trans (hB.mono HT5.out.size)
          have b1 : (q.size : Int) = 512 := by omega
          clear hq0
          have cm := hce m a5
          have fm : W5.frozen? ⟨wr.heap.size, m, none⟩ = false := hO.free m (by omega)
          obtain ⟨y, hy⟩ : ∃ y : Int, y = ((numsOf q).getD m 0 : Nat) := ⟨_, rfl⟩
          rw [← hy] at cm
          have m0 : (0 : Int) ≤ (m : Nat) := by omega
          have m1 : ((m : Nat) : Int) < 512 := by omega
          obtain ⟨X, hX⟩ : ∃ X, bits BinOp.xor IntKind.u8 y by_ = X := ⟨_, rfl⟩
          have hcv2 := run_convert_bytes_arg (P := Tryz.prog) (W5.setCell ⟨wr.heap.size, m, none⟩ (.int .u8 X)) 40 5 Tryz.underlying40 Tryz.underlying5 wr.heap.size 0 512 cp (((numsOf q).map fun (n : Nat) => (n : Int)).set m X) (by simp [hnl]) (fun i hi => by
            rw [Nat.zero_add]
            by_cases e : i = m
            · subst e
              rw [World.cell?_setCell_same _ _ _ cm]
              simp [List.getD, hnl, hi]
            · rw [World.cell?_setCell_other _ _ _ _ (fun h => e (by simpa using h.symm)), hce i hi]
              simp [List.getD, Ne.symm e, List.getElem?_eq_getElem (show i < (numsOf q).length by omega)]) 9 Tryz.underlying9
          generalize strOfNums (((numsOf q).map fun (n : Nat) => (n : Int)).set m X) = u at *
          have hB6 := hB.setCell (p := ⟨wr.heap.size, m, none⟩) (Nat.le_refl _) (.int .u8 X)
          replace HTR := hidBelow HTR0 hB6
          replace HT5 : Hid (Below w.heap.size w (W5.setCell ⟨wr.heap.size, m, none⟩ (.int .u8 X))) := HT0.out.trans (hB6.mono HT0.out.size)
          clear hO hce hnl hy hB hB6 HTR0 HT0
          go_wp2_with fail
          clear hX hcv hcv2 cm fm
        all_goals
          have hop := fun w' v t => topen_any w.heap.size B w1.heap.size S S v T u (by omega) w' t
          have hro := fun w' v t => tropen_any w.heap.size B w1.heap.size S S v T u (by omega) w' t
          simp only [Hd.arr] at hop hro
          generalize bopenH S u = hh at *
          generalize bopenS S u = ss at *
          generalize bopenE S u = ee at *
          refine (hop _ _ HTR.out).mono ?_
          rintro e w6 ⟨rfl, hb6⟩
          obtain ⟨w7, hw7⟩ : ∃ w7, w6.alloc (.cells #[.int .i64 hh.v0, .int .i64 hh.v1, .int .i64 hh.v2, .int .i64 hh.v3, .int .i64 hh.v4, .int .i64 hh.v5, .int .i64 hh.v6, .int .i64 hh.v7] 23) = w7 := ⟨_, rfl⟩
          have g7 : w7.heap[w6.heap.size]? = some (.cells #[.int .i64 hh.v0, .int .i64 hh.v1, .int .i64 hh.v2, .int .i64 hh.v3, .int .i64 hh.v4, .int .i64 hh.v5, .int .i64 hh.v6, .int .i64 hh.v7] 23 (0, 0)) := by rw [← hw7]; exact heap_alloc_new w6 _
          have hb7 := hb6.alloc hb6.size (.cells #[.int .i64 hh.v0, .int .i64 hh.v1, .int .i64 hh.v2, .int .i64 hh.v3, .int .i64 hh.v4, .int .i64 hh.v5, .int .i64 hh.v6, .int .i64 hh.v7] 23)
          rw [hw7] at hb7
          have HT7 : Hid (Below w.heap.size w w7) := HT5.out.trans (hb7.mono HT5.out.size)
          have HTR7 := hidBelow HTR hb7
          clear hb6 hb7 hop HTR HT5
          go_wp2_with fail
          try rw [hw7]
          refine (hro _ _ HTR7.out).mono ?_
          rintro e w8 ⟨rfl, hb8⟩
          clear hw7
          obtain ⟨w9, hw9⟩ : ∃ w9, w8.alloc (.cells #[.int .i64 hh.v0, .int .i64 hh.v1, .int .i64 hh.v2, .int .i64 hh.v3, .int .i64 hh.v4, .int .i64 hh.v5, .int .i64 hh.v6, .int .i64 hh.v7] 23) = w9 := ⟨_, rfl⟩
          have hz8 := hb8.size
          have l7 := lt_of_block g7
          have g9 : w9.heap[w8.heap.size]? = some (.cells #[.int .i64 hh.v0, .int .i64 hh.v1, .int .i64 hh.v2, .int .i64 hh.v3, .int .i64 hh.v4, .int .i64 hh.v5, .int .i64 hh.v6, .int .i64 hh.v7] 23 (0, 0)) := by rw [← hw9]; exact heap_alloc_new w8 _
          have hb9 : Below w7.heap.size w7 w9 := by rw [← hw9]; exact hb8.alloc hz8 _
          have g79 := (hb9.block _ l7).trans g7
          have HT9 : Hid (Below w.heap.size w w9) := HT7.out.trans (hb9.mono HT7.out.size)
          obtain ⟨c0, c1, c2, c3, c4, c5, c6, c7⟩ := hd_cells g79
          obtain ⟨d0, d1, d2, d3, d4, d5, d6, d7⟩ := hd_cells g9
          have hq : ∀ w', (binOp .eql 23 (.agg #[.int .i64 hh.v0, .int .i64 hh.v1, .int .i64 hh.v2, .int .i64 hh.v3, .int .i64 hh.v4, .int .i64 hh.v5, .int .i64 hh.v6, .int .i64 hh.v7]) (.agg #[.int .i64 hh.v0, .int .i64 hh.v1, .int .i64 hh.v2, .int .i64 hh.v3, .int .i64 hh.v4, .int .i64 hh.v5, .int .i64 hh.v6, .int .i64 hh.v7])).run Tryz.prog w' = .ok (.bool true) w' := fun w' => by rw [eql_hd]; simp
          clear hb8 hb9 g7 g9 g79 HT7 HTR7 hro
          go_wp2_with fail
          try rw [hw9]
          refine (bawake_any _).mono ?_
          rintro e wz ⟨rfl, hk⟩
          have HF : Hid (Below w.heap.size w wz) := HT9.out.trans (hk.mono HT9.out.size)
          clear hk HT9 hw9
          go_wp2
          go_ret
          exact ⟨rfl, HF.out⟩
end Go.Proofs.YtcefoeaakdemmaaGreatDoor
