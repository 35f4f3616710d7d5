/- The laws' writes: blocks as they are written. -/
import Derived.Test.YtbmjablmmlnieaaGreatDoorMg32
import Derived.Test.YtbmjablmmlnieaaGreatDoorMg25
import Derived.Test.YtbmjablmmlnieaaGreatDoorMg11
import Derived.Test.YtbmjablmmlnieaaGreatDoorMg33
import Derived.Deep.RegionHeld3
namespace Go.Proofs.YtbmjablmmlnieaaGreatDoor
set_option maxRecDepth 20000
open Go.RowKit

def Blk.hd (x : Blk) : Hd := ⟨0, x.At, 0, 0, 0, 0, 0, 0⟩
def Blk.first (x : Blk) : ByteArray := if x.hd.err = 0 ∧ x.Bad = false then x.hd.txt else fillS x.V.toNat 48
def Blk.wt (x : Blk) : Wt := ⟨x.At, x.first ++ fillS x.V.toNat 464⟩
def wrsL (l : List Blk) : List Wt := (l.take 30).map Blk.wt
theorem fillS_size_ (v n : Nat) : (fillS v n).size = n := fillS_size v n
theorem Blk.first_size (x : Blk) : x.first.size = 48 := by
  unfold Blk.first
  split
  · next h => exact hd_size h.1
  · exact fillS_size _ _
theorem Blk.raw_size (x : Blk) : x.wt.raw.size = 512 := by
  show (x.first ++ fillS x.V.toNat 464).size = 512
  rw [ByteArray.size_append, x.first_size, fillS_size]
theorem wrsL_length (l : List Blk) : (wrsL l).length ≤ 30 := by
  unfold wrsL
  rw [List.length_map, List.length_take]
  omega
/-- A block in memory, as the law reads it: a byte is at least 0. -/
def BlkF (x : Blk) : Prop := ∃ v : Nat, x.V = (v : Int)
theorem le_al {n : Nat} {w : World} {o : Obj} (h : n ≤ w.heap.size) : n ≤ (w.alloc o).heap.size := by simp; omega
set_option maxHeartbeats 4000000 in
theorem writes_l_any (v : Value) (l : List Blk) (w : World) (hv : Blks w v l) (hF : ∀ x ∈ l, BlkF x ∧ x.At ≤ 9223372036854775807) (hll : l.length ≤ 9223372036854775807) :
    Calls Tryz.prog 15 #[v] w fun e w' => ∃ v', e = .returned v' ∧ WZ w' w.heap.size v' (wrsL l) ∧ Below w.heap.size w w' := by
  obtain ⟨oa, ca, rfl⟩ := hv.form
  obtain ⟨i0, hi0, hz0, hz1, hz2⟩ := info_parts jn_info_wt
  have HV : Hid (Blks w (.slice oa l.length ca) l ∧ ∀ x ∈ l, BlkF x ∧ x.At ≤ 9223372036854775807) := ⟨hv, hF⟩
  clear hv hF
  obtain ⟨m, hm⟩ : ∃ m, m = min 30 l.length := ⟨_, rfl⟩
  go_enter Tryz.func15, Tryz.ntmps15
  go_wp2_with fail
  go_loopw [3, 4] (fun sv iv wr => ∃ (j : Nat), j ≤ m ∧ iv = .int .i64 (j : Int) ∧ WZ wr w.heap.size sv (wrsL (l.take j)) ∧ Hid (Below w.heap.size w wr)) (fun _ iv _ => m - (intOf iv).toNat)
  case atStart => exact ⟨0, Nat.zero_le _, rfl, WZ.nil _ _, Below.refl _ _⟩
  case round =>
    obtain ⟨j, hj, rfl, hown, HB⟩ := hrel
    have hcnt : (wrsL (l.take j)).length = j := by
      unfold wrsL
      rw [List.length_map, List.length_take, List.length_take]
      omega
    obtain ⟨ob, cap, rfl⟩ := hown.form
    rw [hcnt] at hown ⊢
    by_cases hlt : j < m
    · have hjl : j < l.length := by omega
      have j1 : (j : Int) < l.length := by omega
      have j2 : (j : Int) < 30 := by omega
      obtain ⟨g, o, rfl, hg, hx⟩ := HV.out.1.get hjl
      have hat := hx j l[j] (List.getElem?_eq_getElem hjl)
      have hgw : g < wr.heap.size := Nat.lt_of_lt_of_le hg HB.out.size
      obtain ⟨c0, c1, c2⟩ := hat.keep (HB.out.block g hg)
      obtain ⟨⟨vv, hvv⟩, hat9⟩ := HV.out.2 l[j] (List.getElem_mem hjl)
      have HN : Hid (wrsL (l.take (j + 1)) = wrsL (l.take j) ++ [l[j].wt]) := by
        show _ = _
        unfold wrsL
        rw [List.take_take, List.take_take, Nat.min_eq_right (by omega), Nat.min_eq_right (by omega), List.take_add_one, List.getElem?_eq_getElem hjl, List.map_append]
        rfl
      have hhd := fun W => rhead_any 0 l[j].At 0 0 0 0 0 0 (fun p hp => by
        simp [headPs] at hp
        rcases hp with rfl | rfl | rfl | rfl | rfl | rfl | rfl | rfl <;> first | exact hat9 | decide) W
      have HT : Hid (recS [71, 82, 80, 78] (headPs 0 l[j].At 0 0 0 0 0 0) 8 = l[j].hd.txt ∧ recE (headPs 0 l[j].At 0 0 0 0 0 0) = l[j].hd.err) := ⟨rfl, rfl⟩
      rw [HT.out.1, HT.out.2] at hhd
      have HX : Hid ((l[j].hd.err = 0 ∧ l[j].Bad = false → l[j].hd.txt = l[j].first) ∧ (¬ (l[j].hd.err = 0 ∧ l[j].Bad = false) → fillS l[j].V.toNat 48 = l[j].first) ∧ l[j].wt = ⟨l[j].At, l[j].first ++ fillS l[j].V.toNat 464⟩) := ⟨fun h => (if_pos h).symm, fun h => (if_neg h).symm, rfl⟩
      have hsz := l[j].first_size
      clear HT hat hx
      generalize l[j].hd.txt = T at *
      generalize l[j].hd.err = E at *
      generalize l[j].first = D at *
      generalize l[j].wt = Y at *
      generalize l[j] = x at *
      obtain ⟨a, y, bad⟩ := x
      simp only at hvv c0 c1 c2 hhd HX
      subst hvv
      rw [Int.toNat_natCast] at HX
      have hT4 := fun W => jtext_any vv 48 (by decide) W
      have hT5 := fun W => jtext_any vv 464 (by decide) W
      have hf4 := fillS_size vv 464
      generalize fillS vv 464 = Z at *
      generalize fillS vv 48 = X at *
      generalize wrsL (l.take j) = d at *
      subst hcnt
      have hadd := fun w2 => run_string_add_sum (P := Tryz.prog) (w := w2) D Z (by rw [hsz, hf4]; decide)
      have hone : ∀ u ∈ ([.int .i64 a, .string (D ++ Z)] : List Value), u.oneCell' = true := by intro u hu; simp at hu; rcases hu with rfl | rfl <;> rfl
      have hbs := HB.out.size
      have HZ : Hid (m = min 30 l.length ∧ g < w.heap.size) := ⟨hm, hg⟩
      clear hat9 hm hsz hf4
      have hway : (E = 0 ∧ bad = false ∧ D = T) ∨ (E = 0 ∧ bad = true ∧ D = X) ∨ ((E != 0) = true ∧ D = X) := by
        by_cases hE : E = 0
        · cases bad
          · exact .inl ⟨hE, rfl, (HX.out.1 ⟨hE, rfl⟩).symm⟩
          · exact .inr (.inl ⟨hE, rfl, (HX.out.2.1 (fun h => by cases h.2)).symm⟩)
        · exact .inr (.inr ⟨bne_iff_ne.2 hE, (HX.out.2.1 (fun h => hE h.1)).symm⟩)
      have HY : Hid (Y = ⟨a, D ++ Z⟩) := HX.out.2.2
      clear HX
      rcases hway with ⟨rfl, rfl, rfl⟩ | ⟨rfl, rfl, rfl⟩ | ⟨hE, rfl⟩
      -- MARK
      focus
        go_wp2_with fail
        refine (hhd _).mono ?_
        rintro e w1 ⟨rfl, hb1⟩
        have d0 := (hb1.cell (p := ⟨g, o + d.length * 3, none⟩) hgw).trans c0
        have d1 := (hb1.cell (p := ⟨g, o + d.length * 3 + 1, none⟩) hgw).trans c1
        have d2 := (hb1.cell (p := ⟨g, o + d.length * 3 + 2, none⟩) hgw).trans c2
        have HB1 : Hid (Below w.heap.size w w1 ∧ WZ w1 w.heap.size (.slice ob d.length cap) d) := ⟨HB.out.trans (hb1.mono hbs), WZ.below hown hb1⟩
        have hg1 : g < w1.heap.size := Nat.lt_of_lt_of_le hgw hb1.size
        clear hhd hb1 c0 c1 c2 hown HB hbs hgw
        go_wp2_with fail
        have hS1 : w1.cell? ⟨g, o + d.length * 3, none⟩ = some (.int .i64 a) ∧ w1.cell? ⟨g, o + d.length * 3 + 1, none⟩ = some (.int .u8 (vv : Int)) := ⟨d0, d1⟩
        have hp1 : d.length + 1 ≤ maxLen := by unfold maxLen; omega
        have hp2 : (d.length + 1) * 24 ≤ 140737488355328 := by omega
        go_region_held3 (fun w' => w'.cell? ⟨g, o + d.length * 3, none⟩ = some (.int .i64 a) ∧ w'.cell? ⟨g, o + d.length * 3 + 1, none⟩ = some (.int .u8 (vv : Int))) (first | exact hSB | exact hSA | exact hS3 | exact hS1) (first
          | (go_at_call 16; refine (hT5 _).mono ?_; rintro e w3 ⟨rfl, hb3⟩; have hk3 : Below w1.heap.size w1 w3 := (Below.refl w1.heap.size w1).drew.trans hb3; have hS3 : w3.cell? ⟨g, o + d.length * 3, none⟩ = some (.int .i64 a) ∧ w3.cell? ⟨g, o + d.length * 3 + 1, none⟩ = some (.int .u8 (vv : Int)) := ⟨(hk3.cell (p := ⟨g, o + d.length * 3, none⟩) hg1).trans d0, (hk3.cell (p := ⟨g, o + d.length * 3 + 1, none⟩) hg1).trans d1⟩; have HB3 : Hid (Below w.heap.size w w3 ∧ WZ w3 w.heap.size (.slice ob d.length cap) d) := ⟨HB1.out.1.trans (hk3.mono HB1.out.1.size), WZ.below HB1.out.2 hk3⟩; have hba3 : w.heap.size ≤ (w3.alloc (.cells #[.int .i64 a, .string (D ++ Z)] 48)).heap.size := le_al HB3.out.1.size; have hg3 : g < w3.heap.size := Nat.lt_of_lt_of_le hg1 hk3.size; have hSA : (w3.alloc (.cells #[.int .i64 a, .string (D ++ Z)] 48)).cell? ⟨g, o + d.length * 3, none⟩ = some (.int .i64 a) ∧ (w3.alloc (.cells #[.int .i64 a, .string (D ++ Z)] 48)).cell? ⟨g, o + d.length * 3 + 1, none⟩ = some (.int .u8 (vv : Int)) := ⟨(World.cell?_of_block (a := ⟨g, o + d.length * 3, none⟩) (Below.heap_alloc w3 _ g hg3)).trans hS3.1, (World.cell?_of_block (a := ⟨g, o + d.length * 3 + 1, none⟩) (Below.heap_alloc w3 _ g hg3)).trans hS3.2⟩; have hownC := World.ownsRow.alloc HB3.out.2 (.cells #[.int .i64 a, .string (D ++ Z)] 48); clear hb3 hk3)
          | (refine step_append_at _ rfl _ _ 45 rfl w.heap.size 48 i0 (.agg #[.int .i64 0, .string ⟨#[]⟩]) 2 24 Tryz.underlying45 hi0 hz0 hz1 hz2 rfl (by decide) (.slice ob d.length cap) d.length (d.flatMap Wt.cells) rfl hownC ⟨w3.heap.size, 0, none⟩ 1 1 [.int .i64 a, .string (D ++ Z)] rfl rfl (World.news_of_block (heap_alloc_new w3 _)) hone hp1 hp2 hba3 ?_; intro v1 wB hown2 hgrow2 hat2; have hTB : Below w.heap.size (w3.alloc (.cells #[.int .i64 a, .string (D ++ Z)] 48)) wB := (Below.refl _ _).grown hgrow2 hba3 fun k hk => (World.ownsRow.lt HB3.out.2 k hk).1; have hSB : wB.cell? ⟨g, o + d.length * 3, none⟩ = some (.int .i64 a) ∧ wB.cell? ⟨g, o + d.length * 3 + 1, none⟩ = some (.int .u8 (vv : Int)) := ⟨(World.cell?_of_block (a := ⟨g, o + d.length * 3, none⟩) (hTB.block g HZ.out.2)).trans hSA.1, (World.cell?_of_block (a := ⟨g, o + d.length * 3 + 1, none⟩) (hTB.block g HZ.out.2)).trans hSA.2⟩))
        all_goals
          have HF : Hid (WZ wB w.heap.size v1 (wrsL (l.take (d.length + 1))) ∧ Below w.heap.size w wB) := by
            refine ⟨?_, (HB3.out.1.alloc HB3.out.1.size _).trans hTB⟩
            unfold WZ
            rw [HN.out, HY.out, List.length_append, List.length_singleton, List.flatMap_append, List.flatMap_singleton]
            exact hown2
          clear hownC hown2 hgrow2 hat2 hTB hone hS3 hSA hSB HB3
          go_wp2
          go_roundw
          case rel => exact ⟨d.length + 1, by omega, by go_num, HF.out.1, HF.out.2⟩
          case measure => simp [intOf]; omega
      focus
        go_wp2_with fail
        refine (hhd _).mono ?_
        rintro e w1 ⟨rfl, hb1⟩
        have d0 := (hb1.cell (p := ⟨g, o + d.length * 3, none⟩) hgw).trans c0
        have d1 := (hb1.cell (p := ⟨g, o + d.length * 3 + 1, none⟩) hgw).trans c1
        have d2 := (hb1.cell (p := ⟨g, o + d.length * 3 + 2, none⟩) hgw).trans c2
        have HB1 : Hid (Below w.heap.size w w1 ∧ WZ w1 w.heap.size (.slice ob d.length cap) d) := ⟨HB.out.trans (hb1.mono hbs), WZ.below hown hb1⟩
        have hg1 : g < w1.heap.size := Nat.lt_of_lt_of_le hgw hb1.size
        clear hhd hb1 c0 c1 c2 hown HB hbs hgw
        go_wp2_with fail
        refine (hT4 _).mono ?_
        rintro e w2 ⟨rfl, hb2⟩
        have e0 := (hb2.cell (p := ⟨g, o + d.length * 3, none⟩) hg1).trans d0
        have e1 := (hb2.cell (p := ⟨g, o + d.length * 3 + 1, none⟩) hg1).trans d1
        have HB2 : Hid (Below w.heap.size w w2 ∧ WZ w2 w.heap.size (.slice ob d.length cap) d) := ⟨HB1.out.1.trans (hb2.mono HB1.out.1.size), WZ.below HB1.out.2 hb2⟩
        have hg2 : g < w2.heap.size := Nat.lt_of_lt_of_le hg1 hb2.size
        clear hT4 hb2 d0 d1 d2 HB1 hg1
        go_wp2_with fail
        have hS2 : w2.cell? ⟨g, o + d.length * 3, none⟩ = some (.int .i64 a) ∧ w2.cell? ⟨g, o + d.length * 3 + 1, none⟩ = some (.int .u8 (vv : Int)) := ⟨e0, e1⟩
        have hp1 : d.length + 1 ≤ maxLen := by unfold maxLen; omega
        have hp2 : (d.length + 1) * 24 ≤ 140737488355328 := by omega
        go_region_held3 (fun w' => w'.cell? ⟨g, o + d.length * 3, none⟩ = some (.int .i64 a) ∧ w'.cell? ⟨g, o + d.length * 3 + 1, none⟩ = some (.int .u8 (vv : Int))) (first | exact hSB | exact hSA | exact hS3 | exact hS2) (first
          | (go_at_call 16; refine (hT5 _).mono ?_; rintro e w3 ⟨rfl, hb3⟩; have hk3 : Below w2.heap.size w2 w3 := (Below.refl w2.heap.size w2).drew.trans hb3; have hS3 : w3.cell? ⟨g, o + d.length * 3, none⟩ = some (.int .i64 a) ∧ w3.cell? ⟨g, o + d.length * 3 + 1, none⟩ = some (.int .u8 (vv : Int)) := ⟨(hk3.cell (p := ⟨g, o + d.length * 3, none⟩) hg2).trans e0, (hk3.cell (p := ⟨g, o + d.length * 3 + 1, none⟩) hg2).trans e1⟩; have HB3 : Hid (Below w.heap.size w w3 ∧ WZ w3 w.heap.size (.slice ob d.length cap) d) := ⟨HB2.out.1.trans (hk3.mono HB2.out.1.size), WZ.below HB2.out.2 hk3⟩; have hba3 : w.heap.size ≤ (w3.alloc (.cells #[.int .i64 a, .string (D ++ Z)] 48)).heap.size := le_al HB3.out.1.size; have hg3 : g < w3.heap.size := Nat.lt_of_lt_of_le hg2 hk3.size; have hSA : (w3.alloc (.cells #[.int .i64 a, .string (D ++ Z)] 48)).cell? ⟨g, o + d.length * 3, none⟩ = some (.int .i64 a) ∧ (w3.alloc (.cells #[.int .i64 a, .string (D ++ Z)] 48)).cell? ⟨g, o + d.length * 3 + 1, none⟩ = some (.int .u8 (vv : Int)) := ⟨(World.cell?_of_block (a := ⟨g, o + d.length * 3, none⟩) (Below.heap_alloc w3 _ g hg3)).trans hS3.1, (World.cell?_of_block (a := ⟨g, o + d.length * 3 + 1, none⟩) (Below.heap_alloc w3 _ g hg3)).trans hS3.2⟩; have hownC := World.ownsRow.alloc HB3.out.2 (.cells #[.int .i64 a, .string (D ++ Z)] 48); clear hb3 hk3)
          | (refine step_append_at _ rfl _ _ 45 rfl w.heap.size 48 i0 (.agg #[.int .i64 0, .string ⟨#[]⟩]) 2 24 Tryz.underlying45 hi0 hz0 hz1 hz2 rfl (by decide) (.slice ob d.length cap) d.length (d.flatMap Wt.cells) rfl hownC ⟨w3.heap.size, 0, none⟩ 1 1 [.int .i64 a, .string (D ++ Z)] rfl rfl (World.news_of_block (heap_alloc_new w3 _)) hone hp1 hp2 hba3 ?_; intro v1 wB hown2 hgrow2 hat2; have hTB : Below w.heap.size (w3.alloc (.cells #[.int .i64 a, .string (D ++ Z)] 48)) wB := (Below.refl _ _).grown hgrow2 hba3 fun k hk => (World.ownsRow.lt HB3.out.2 k hk).1; have hSB : wB.cell? ⟨g, o + d.length * 3, none⟩ = some (.int .i64 a) ∧ wB.cell? ⟨g, o + d.length * 3 + 1, none⟩ = some (.int .u8 (vv : Int)) := ⟨(World.cell?_of_block (a := ⟨g, o + d.length * 3, none⟩) (hTB.block g HZ.out.2)).trans hSA.1, (World.cell?_of_block (a := ⟨g, o + d.length * 3 + 1, none⟩) (hTB.block g HZ.out.2)).trans hSA.2⟩))
        all_goals
          have HF : Hid (WZ wB w.heap.size v1 (wrsL (l.take (d.length + 1))) ∧ Below w.heap.size w wB) := by
            refine ⟨?_, (HB3.out.1.alloc HB3.out.1.size _).trans hTB⟩
            unfold WZ
            rw [HN.out, HY.out, List.length_append, List.length_singleton, List.flatMap_append, List.flatMap_singleton]
            exact hown2
          clear hownC hown2 hgrow2 hat2 hTB hone hS3 hSA hSB HB3
          go_wp2
          go_roundw
          case rel => exact ⟨d.length + 1, by omega, by go_num, HF.out.1, HF.out.2⟩
          case measure => simp [intOf]; omega
      focus
        go_wp2_with fail
        refine (hhd _).mono ?_
        rintro e w1 ⟨rfl, hb1⟩
        have d0 := (hb1.cell (p := ⟨g, o + d.length * 3, none⟩) hgw).trans c0
        have d1 := (hb1.cell (p := ⟨g, o + d.length * 3 + 1, none⟩) hgw).trans c1
        have d2 := (hb1.cell (p := ⟨g, o + d.length * 3 + 2, none⟩) hgw).trans c2
        have HB1 : Hid (Below w.heap.size w w1 ∧ WZ w1 w.heap.size (.slice ob d.length cap) d) := ⟨HB.out.trans (hb1.mono hbs), WZ.below hown hb1⟩
        have hg1 : g < w1.heap.size := Nat.lt_of_lt_of_le hgw hb1.size
        clear hhd hb1 c0 c1 c2 hown HB hbs hgw
        go_wp2_with fail
        refine (hT4 _).mono ?_
        rintro e w2 ⟨rfl, hb2⟩
        have e0 := (hb2.cell (p := ⟨g, o + d.length * 3, none⟩) hg1).trans d0
        have e1 := (hb2.cell (p := ⟨g, o + d.length * 3 + 1, none⟩) hg1).trans d1
        have HB2 : Hid (Below w.heap.size w w2 ∧ WZ w2 w.heap.size (.slice ob d.length cap) d) := ⟨HB1.out.1.trans (hb2.mono HB1.out.1.size), WZ.below HB1.out.2 hb2⟩
        have hg2 : g < w2.heap.size := Nat.lt_of_lt_of_le hg1 hb2.size
        clear hT4 hb2 d0 d1 d2 HB1 hg1
        go_wp2_with fail
        have hS2 : w2.cell? ⟨g, o + d.length * 3, none⟩ = some (.int .i64 a) ∧ w2.cell? ⟨g, o + d.length * 3 + 1, none⟩ = some (.int .u8 (vv : Int)) := ⟨e0, e1⟩
        have hp1 : d.length + 1 ≤ maxLen := by unfold maxLen; omega
        have hp2 : (d.length + 1) * 24 ≤ 140737488355328 := by omega
        go_region_held3 (fun w' => w'.cell? ⟨g, o + d.length * 3, none⟩ = some (.int .i64 a) ∧ w'.cell? ⟨g, o + d.length * 3 + 1, none⟩ = some (.int .u8 (vv : Int))) (first | exact hSB | exact hSA | exact hS3 | exact hS2) (first
          | (go_at_call 16; refine (hT5 _).mono ?_; rintro e w3 ⟨rfl, hb3⟩; have hk3 : Below w2.heap.size w2 w3 := (Below.refl w2.heap.size w2).drew.trans hb3; have hS3 : w3.cell? ⟨g, o + d.length * 3, none⟩ = some (.int .i64 a) ∧ w3.cell? ⟨g, o + d.length * 3 + 1, none⟩ = some (.int .u8 (vv : Int)) := ⟨(hk3.cell (p := ⟨g, o + d.length * 3, none⟩) hg2).trans e0, (hk3.cell (p := ⟨g, o + d.length * 3 + 1, none⟩) hg2).trans e1⟩; have HB3 : Hid (Below w.heap.size w w3 ∧ WZ w3 w.heap.size (.slice ob d.length cap) d) := ⟨HB2.out.1.trans (hk3.mono HB2.out.1.size), WZ.below HB2.out.2 hk3⟩; have hba3 : w.heap.size ≤ (w3.alloc (.cells #[.int .i64 a, .string (D ++ Z)] 48)).heap.size := le_al HB3.out.1.size; have hg3 : g < w3.heap.size := Nat.lt_of_lt_of_le hg2 hk3.size; have hSA : (w3.alloc (.cells #[.int .i64 a, .string (D ++ Z)] 48)).cell? ⟨g, o + d.length * 3, none⟩ = some (.int .i64 a) ∧ (w3.alloc (.cells #[.int .i64 a, .string (D ++ Z)] 48)).cell? ⟨g, o + d.length * 3 + 1, none⟩ = some (.int .u8 (vv : Int)) := ⟨(World.cell?_of_block (a := ⟨g, o + d.length * 3, none⟩) (Below.heap_alloc w3 _ g hg3)).trans hS3.1, (World.cell?_of_block (a := ⟨g, o + d.length * 3 + 1, none⟩) (Below.heap_alloc w3 _ g hg3)).trans hS3.2⟩; have hownC := World.ownsRow.alloc HB3.out.2 (.cells #[.int .i64 a, .string (D ++ Z)] 48); clear hb3 hk3)
          | (refine step_append_at _ rfl _ _ 45 rfl w.heap.size 48 i0 (.agg #[.int .i64 0, .string ⟨#[]⟩]) 2 24 Tryz.underlying45 hi0 hz0 hz1 hz2 rfl (by decide) (.slice ob d.length cap) d.length (d.flatMap Wt.cells) rfl hownC ⟨w3.heap.size, 0, none⟩ 1 1 [.int .i64 a, .string (D ++ Z)] rfl rfl (World.news_of_block (heap_alloc_new w3 _)) hone hp1 hp2 hba3 ?_; intro v1 wB hown2 hgrow2 hat2; have hTB : Below w.heap.size (w3.alloc (.cells #[.int .i64 a, .string (D ++ Z)] 48)) wB := (Below.refl _ _).grown hgrow2 hba3 fun k hk => (World.ownsRow.lt HB3.out.2 k hk).1; have hSB : wB.cell? ⟨g, o + d.length * 3, none⟩ = some (.int .i64 a) ∧ wB.cell? ⟨g, o + d.length * 3 + 1, none⟩ = some (.int .u8 (vv : Int)) := ⟨(World.cell?_of_block (a := ⟨g, o + d.length * 3, none⟩) (hTB.block g HZ.out.2)).trans hSA.1, (World.cell?_of_block (a := ⟨g, o + d.length * 3 + 1, none⟩) (hTB.block g HZ.out.2)).trans hSA.2⟩))
        all_goals
          have HF : Hid (WZ wB w.heap.size v1 (wrsL (l.take (d.length + 1))) ∧ Below w.heap.size w wB) := by
            refine ⟨?_, (HB3.out.1.alloc HB3.out.1.size _).trans hTB⟩
            unfold WZ
            rw [HN.out, HY.out, List.length_append, List.length_singleton, List.flatMap_append, List.flatMap_singleton]
            exact hown2
          clear hownC hown2 hgrow2 hat2 hTB hone hS3 hSA hSB HB3
          go_wp2
          go_roundw
          case rel => exact ⟨d.length + 1, by omega, by go_num, HF.out.1, HF.out.2⟩
          case measure => simp [intOf]; omega
    · obtain rfl : j = m := by omega
      have HF : Hid (WZ wr w.heap.size (.slice ob j cap) (wrsL l) ∧ Below w.heap.size w wr) := by
        refine ⟨?_, HB.out⟩
        have e : wrsL (l.take j) = wrsL l := by
          unfold wrsL
          rw [List.take_take, Nat.min_comm 30 j, hm, Nat.min_eq_left (by omega)]
          by_cases h30 : l.length ≤ 30
          · rw [Nat.min_eq_right h30, List.take_length, List.take_of_length_le h30]
          · rw [Nat.min_eq_left (by omega)]
        rw [e] at hown
        have e2 : (wrsL l).length = j := by rw [← e]; exact hcnt
        unfold WZ at hown ⊢
        rw [e2] at hown ⊢
        exact hown
      have hway : (¬ (j : Int) < l.length) ∨ ((j : Int) < l.length ∧ ¬ (j : Int) < 30) := by omega
      clear hown HB hm hcnt hlt
      rcases hway with h1 | ⟨h1, h2⟩
      all_goals
        go_wp2
        go_ret
        exact ⟨_, rfl, HF.out.1, HF.out.2⟩
end Go.Proofs.YtbmjablmmlnieaaGreatDoor
