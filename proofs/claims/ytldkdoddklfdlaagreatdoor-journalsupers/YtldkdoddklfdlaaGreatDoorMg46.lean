/- The laws' writes: blocks as they are written. · What the laws' awake comes to: a device of 784 sectors, formatted and committed to once; nothing of the program's calls. · journal's Format: refused; and followed. -/
import Derived.Test.YtldkdoddklfdlaaGreatDoorMg45
import Derived.Test.YtldkdoddklfdlaaGreatDoorMg40
import Derived.Test.YtldkdoddklfdlaaGreatDoorMg08
import Derived.Test.YtldkdoddklfdlaaGreatDoorMg15
import Derived.Deep.RegionHeld3
namespace Go.Proofs.YtldkdoddklfdlaaGreatDoor
set_option maxRecDepth 20000
open Go.RowKit

def Blk.hd (x : Blk) : Hd := ⟨0, x.At, 0, 0, 0, 0, 0, 0⟩
def Blk.first (x : Blk) : ByteArray := if x.hd.err = 0 ∧ x.Bad = false then x.hd.txt else fillS x.V.toNat 48
def Blk.wt (x : Blk) : Wt := ⟨x.At, x.first ++ fillS x.V.toNat 464⟩
def wrsL (l : List Blk) : List Wt := (l.take 30).map Blk.wt
theorem fillS_size_ (v n : Nat) : (fillS v n).size = n := fillS_size v n
theorem Blk.first_size (x : Blk) : x.first.size = 48 := by
  unfold Blk.first
  split
  · next h => exact hd_size h.1
  · exact fillS_size _ _
theorem Blk.raw_size (x : Blk) : x.wt.raw.size = 512 := by
  show (x.first ++ fillS x.V.toNat 464).size = 512
  rw [ByteArray.size_append, x.first_size, fillS_size]
theorem wrsL_length (l : List Blk) : (wrsL l).length ≤ 30 := by
  unfold wrsL
  rw [List.length_map, List.length_take]
  omega
/-- A block in memory, as the law reads it: a byte is at least 0. -/
def BlkF (x : Blk) : Prop := ∃ v : Nat, x.V = (v : Int)
theorem le_al {n : Nat} {w : World} {o : Obj} (h : n ≤ w.heap.size) : n ≤ (w.alloc o).heap.size := by simp; omega
set_option maxHeartbeats 4000000 in
theorem writes_l_any (v : Value) (l : List Blk) (w : World) (hv : Blks w v l) (hF : ∀ x ∈ l, BlkF x ∧ x.At ≤ 9223372036854775807) (hll : l.length ≤ 9223372036854775807) :
    Calls Tryz.prog 21 #[v] w fun e w' => ∃ v', e = .returned v' ∧ WZ w' w.heap.size v' (wrsL l) ∧ Below w.heap.size w w' := by
  obtain ⟨oa, ca, rfl⟩ := hv.form
  obtain ⟨i0, hi0, hz0, hz1, hz2⟩ := info_parts jn_info_wt
  have HV : Hid (Blks w (.slice oa l.length ca) l ∧ ∀ x ∈ l, BlkF x ∧ x.At ≤ 9223372036854775807) := ⟨hv, hF⟩
  clear hv hF
  obtain ⟨m, hm⟩ : ∃ m, m = min 30 l.length := ⟨_, rfl⟩
  go_enter Tryz.func21, Tryz.ntmps21
  go_wp2_with fail
  go_loopw [3, 4] (fun sv iv wr => ∃ (j : Nat), j ≤ m ∧ iv = .int .i64 (j : Int) ∧ WZ wr w.heap.size sv (wrsL (l.take j)) ∧ Hid (Below w.heap.size w wr)) (fun _ iv _ => m - (intOf iv).toNat)
  case atStart => exact ⟨0, Nat.zero_le _, rfl, WZ.nil _ _, Below.refl _ _⟩
  case round =>
    obtain ⟨j, hj, rfl, hown, HB⟩ := hrel
    have hcnt : (wrsL (l.take j)).length = j := by
      unfold wrsL
      rw [List.length_map, List.length_take, List.length_take]
      omega
    obtain ⟨ob, cap, rfl⟩ := hown.form
    rw [hcnt] at hown ⊢
    by_cases hlt : j < m
    · have hjl : j < l.length := by omega
      have j1 : (j : Int) < l.length := by omega
      have j2 : (j : Int) < 30 := by omega
      obtain ⟨g, o, rfl, hg, hx⟩ := HV.out.1.get hjl
      have hat := hx j l[j] (List.getElem?_eq_getElem hjl)
      have hgw : g < wr.heap.size := Nat.lt_of_lt_of_le hg HB.out.size
      obtain ⟨c0, c1, c2⟩ := hat.keep (HB.out.block g hg)
      obtain ⟨⟨vv, hvv⟩, hat9⟩ := HV.out.2 l[j] (List.getElem_mem hjl)
      have HN : Hid (wrsL (l.take (j + 1)) = wrsL (l.take j) ++ [l[j].wt]) := by
        show _ = _
        unfold wrsL
        rw [List.take_take, List.take_take, Nat.min_eq_right (by omega), Nat.min_eq_right (by omega), List.take_add_one, List.getElem?_eq_getElem hjl, List.map_append]
        rfl
      have hhd := fun W => rhead_any 0 l[j].At 0 0 0 0 0 0 (fun p hp => by
        simp [headPs] at hp
        rcases hp with rfl | rfl | rfl | rfl | rfl | rfl | rfl | rfl <;> first | exact hat9 | decide) W
      have HT : Hid (recS [71, 82, 80, 78] (headPs 0 l[j].At 0 0 0 0 0 0) 8 = l[j].hd.txt ∧ recE (headPs 0 l[j].At 0 0 0 0 0 0) = l[j].hd.err) := ⟨rfl, rfl⟩
      rw [HT.out.1, HT.out.2] at hhd
      have HX : Hid ((l[j].hd.err = 0 ∧ l[j].Bad = false → l[j].hd.txt = l[j].first) ∧ (¬ (l[j].hd.err = 0 ∧ l[j].Bad = false) → fillS l[j].V.toNat 48 = l[j].first) ∧ l[j].wt = ⟨l[j].At, l[j].first ++ fillS l[j].V.toNat 464⟩) := ⟨fun h => (if_pos h).symm, fun h => (if_neg h).symm, rfl⟩
      have hsz := l[j].first_size
      clear HT hat hx
      generalize l[j].hd.txt = T at *
      generalize l[j].hd.err = E at *
      generalize l[j].first = D at *
      generalize l[j].wt = Y at *
      generalize l[j] = x at *
      obtain ⟨a, y, bad⟩ := x
      simp only at hvv c0 c1 c2 hhd HX
      subst hvv
      rw [Int.toNat_natCast] at HX
      have hT4 := fun W => jtext_any vv 48 (by decide) W
      have hT5 := fun W => jtext_any vv 464 (by decide) W
      have hf4 := fillS_size vv 464
      generalize fillS vv 464 = Z at *
      generalize fillS vv 48 = X at *
      generalize wrsL (l.take j) = d at *
      subst hcnt
      have hadd := fun w2 => run_string_add_sum (P := Tryz.prog) (w := w2) D Z (by rw [hsz, hf4]; decide)
      have hone : ∀ u ∈ ([.int .i64 a, .string (D ++ Z)] : List Value), u.oneCell' = true := by intro u hu; simp at hu; rcases hu with rfl | rfl <;> rfl
      have hbs := HB.out.size
      have HZ : Hid (m = min 30 l.length ∧ g < w.heap.size) := ⟨hm, hg⟩
      clear hat9 hm hsz hf4
      have hway : (E = 0 ∧ bad = false ∧ D = T) ∨ (E = 0 ∧ bad = true ∧ D = X) ∨ ((E != 0) = true ∧ D = X) := by
        by_cases hE : E = 0
        · cases bad
          · exact .inl ⟨hE, rfl, (HX.out.1 ⟨hE, rfl⟩).symm⟩
          · exact .inr (.inl ⟨hE, rfl, (HX.out.2.1 (fun h => by cases h.2)).symm⟩)
        · exact .inr (.inr ⟨bne_iff_ne.2 hE, (HX.out.2.1 (fun h => hE h.1)).symm⟩)
      have HY : Hid (Y = ⟨a, D ++ Z⟩) := HX.out.2.2
      clear HX
      rcases hway with ⟨rfl, rfl, rfl⟩ | ⟨rfl, rfl, rfl⟩ | ⟨hE, rfl⟩
      -- MARK
      focus
        go_wp2_with fail
        refine (hhd _).mono ?_
        rintro e w1 ⟨rfl, hb1⟩
        have d0 := (hb1.cell (p := ⟨g, o + d.length * 3, none⟩) hgw).trans c0
        have d1 := (hb1.cell (p := ⟨g, o + d.length * 3 + 1, none⟩) hgw).trans c1
        have d2 := (hb1.cell (p := ⟨g, o + d.length * 3 + 2, none⟩) hgw).trans c2
        have HB1 : Hid (Below w.heap.size w w1 ∧ WZ w1 w.heap.size (.slice ob d.length cap) d) := ⟨HB.out.trans (hb1.mono hbs), WZ.below hown hb1⟩
        have hg1 : g < w1.heap.size := Nat.lt_of_lt_of_le hgw hb1.size
        clear hhd hb1 c0 c1 c2 hown HB hbs hgw
        go_wp2_with fail
        have hS1 : w1.cell? ⟨g, o + d.length * 3, none⟩ = some (.int .i64 a) ∧ w1.cell? ⟨g, o + d.length * 3 + 1, none⟩ = some (.int .u8 (vv : Int)) := ⟨d0, d1⟩
        have hp1 : d.length + 1 ≤ maxLen := by unfold maxLen; omega
        have hp2 : (d.length + 1) * 24 ≤ 140737488355328 := by omega
        go_region_held3 (fun w' => w'.cell? ⟨g, o + d.length * 3, none⟩ = some (.int .i64 a) ∧ w'.cell? ⟨g, o + d.length * 3 + 1, none⟩ = some (.int .u8 (vv : Int))) (first | exact hSB | exact hSA | exact hS3 | exact hS1) (first
          | (go_at_call 46; refine (hT5 _).mono ?_; rintro e w3 ⟨rfl, hb3⟩; have hk3 : Below w1.heap.size w1 w3 := (Below.refl w1.heap.size w1).drew.trans hb3; have hS3 : w3.cell? ⟨g, o + d.length * 3, none⟩ = some (.int .i64 a) ∧ w3.cell? ⟨g, o + d.length * 3 + 1, none⟩ = some (.int .u8 (vv : Int)) := ⟨(hk3.cell (p := ⟨g, o + d.length * 3, none⟩) hg1).trans d0, (hk3.cell (p := ⟨g, o + d.length * 3 + 1, none⟩) hg1).trans d1⟩; have HB3 : Hid (Below w.heap.size w w3 ∧ WZ w3 w.heap.size (.slice ob d.length cap) d) := ⟨HB1.out.1.trans (hk3.mono HB1.out.1.size), WZ.below HB1.out.2 hk3⟩; have hba3 : w.heap.size ≤ (w3.alloc (.cells #[.int .i64 a, .string (D ++ Z)] 27)).heap.size := le_al HB3.out.1.size; have hg3 : g < w3.heap.size := Nat.lt_of_lt_of_le hg1 hk3.size; have hSA : (w3.alloc (.cells #[.int .i64 a, .string (D ++ Z)] 27)).cell? ⟨g, o + d.length * 3, none⟩ = some (.int .i64 a) ∧ (w3.alloc (.cells #[.int .i64 a, .string (D ++ Z)] 27)).cell? ⟨g, o + d.length * 3 + 1, none⟩ = some (.int .u8 (vv : Int)) := ⟨(World.cell?_of_block (a := ⟨g, o + d.length * 3, none⟩) (Below.heap_alloc w3 _ g hg3)).trans hS3.1, (World.cell?_of_block (a := ⟨g, o + d.length * 3 + 1, none⟩) (Below.heap_alloc w3 _ g hg3)).trans hS3.2⟩; have hownC := World.ownsRow.alloc HB3.out.2 (.cells #[.int .i64 a, .string (D ++ Z)] 27); clear hb3 hk3)
          | (refine step_append_at _ rfl _ _ 59 rfl w.heap.size 27 i0 (.agg #[.int .i64 0, .string ⟨#[]⟩]) 2 24 Tryz.underlying59 hi0 hz0 hz1 hz2 rfl (by decide) (.slice ob d.length cap) d.length (d.flatMap Wt.cells) rfl hownC ⟨w3.heap.size, 0, none⟩ 1 1 [.int .i64 a, .string (D ++ Z)] rfl rfl (World.news_of_block (heap_alloc_new w3 _)) hone hp1 hp2 hba3 ?_; intro v1 wB hown2 hgrow2 hat2; have hTB : Below w.heap.size (w3.alloc (.cells #[.int .i64 a, .string (D ++ Z)] 27)) wB := (Below.refl _ _).grown hgrow2 hba3 fun k hk => (World.ownsRow.lt HB3.out.2 k hk).1; have hSB : wB.cell? ⟨g, o + d.length * 3, none⟩ = some (.int .i64 a) ∧ wB.cell? ⟨g, o + d.length * 3 + 1, none⟩ = some (.int .u8 (vv : Int)) := ⟨(World.cell?_of_block (a := ⟨g, o + d.length * 3, none⟩) (hTB.block g HZ.out.2)).trans hSA.1, (World.cell?_of_block (a := ⟨g, o + d.length * 3 + 1, none⟩) (hTB.block g HZ.out.2)).trans hSA.2⟩))
        all_goals
          have HF : Hid (WZ wB w.heap.size v1 (wrsL (l.take (d.length + 1))) ∧ Below w.heap.size w wB) := by
            refine ⟨?_, (HB3.out.1.alloc HB3.out.1.size _).trans hTB⟩
            unfold WZ
            rw [HN.out, HY.out, List.length_append, List.length_singleton, List.flatMap_append, List.flatMap_singleton]
            exact hown2
          clear hownC hown2 hgrow2 hat2 hTB hone hS3 hSA hSB HB3
          go_wp2
          go_roundw
          case rel => exact ⟨d.length + 1, by omega, by go_num, HF.out.1, HF.out.2⟩
          case measure => simp [intOf]; omega
      focus
        go_wp2_with fail
        refine (hhd _).mono ?_
        rintro e w1 ⟨rfl, hb1⟩
        have d0 := (hb1.cell (p := ⟨g, o + d.length * 3, none⟩) hgw).trans c0
        have d1 := (hb1.cell (p := ⟨g, o + d.length * 3 + 1, none⟩) hgw).trans c1
        have d2 := (hb1.cell (p := ⟨g, o + d.length * 3 + 2, none⟩) hgw).trans c2
        have HB1 : Hid (Below w.heap.size w w1 ∧ WZ w1 w.heap.size (.slice ob d.length cap) d) := ⟨HB.out.trans (hb1.mono hbs), WZ.below hown hb1⟩
        have hg1 : g < w1.heap.size := Nat.lt_of_lt_of_le hgw hb1.size
        clear hhd hb1 c0 c1 c2 hown HB hbs hgw
        go_wp2_with fail
        refine (hT4 _).mono ?_
        rintro e w2 ⟨rfl, hb2⟩
        have e0 := (hb2.cell (p := ⟨g, o + d.length * 3, none⟩) hg1).trans d0
        have e1 := (hb2.cell (p := ⟨g, o + d.length * 3 + 1, none⟩) hg1).trans d1
        have HB2 : Hid (Below w.heap.size w w2 ∧ WZ w2 w.heap.size (.slice ob d.length cap) d) := ⟨HB1.out.1.trans (hb2.mono HB1.out.1.size), WZ.below HB1.out.2 hb2⟩
        have hg2 : g < w2.heap.size := Nat.lt_of_lt_of_le hg1 hb2.size
        clear hT4 hb2 d0 d1 d2 HB1 hg1
        go_wp2_with fail
        have hS2 : w2.cell? ⟨g, o + d.length * 3, none⟩ = some (.int .i64 a) ∧ w2.cell? ⟨g, o + d.length * 3 + 1, none⟩ = some (.int .u8 (vv : Int)) := ⟨e0, e1⟩
        have hp1 : d.length + 1 ≤ maxLen := by unfold maxLen; omega
        have hp2 : (d.length + 1) * 24 ≤ 140737488355328 := by omega
        go_region_held3 (fun w' => w'.cell? ⟨g, o + d.length * 3, none⟩ = some (.int .i64 a) ∧ w'.cell? ⟨g, o + d.length * 3 + 1, none⟩ = some (.int .u8 (vv : Int))) (first | exact hSB | exact hSA | exact hS3 | exact hS2) (first
          | (go_at_call 46; refine (hT5 _).mono ?_; rintro e w3 ⟨rfl, hb3⟩; have hk3 : Below w2.heap.size w2 w3 := (Below.refl w2.heap.size w2).drew.trans hb3; have hS3 : w3.cell? ⟨g, o + d.length * 3, none⟩ = some (.int .i64 a) ∧ w3.cell? ⟨g, o + d.length * 3 + 1, none⟩ = some (.int .u8 (vv : Int)) := ⟨(hk3.cell (p := ⟨g, o + d.length * 3, none⟩) hg2).trans e0, (hk3.cell (p := ⟨g, o + d.length * 3 + 1, none⟩) hg2).trans e1⟩; have HB3 : Hid (Below w.heap.size w w3 ∧ WZ w3 w.heap.size (.slice ob d.length cap) d) := ⟨HB2.out.1.trans (hk3.mono HB2.out.1.size), WZ.below HB2.out.2 hk3⟩; have hba3 : w.heap.size ≤ (w3.alloc (.cells #[.int .i64 a, .string (D ++ Z)] 27)).heap.size := le_al HB3.out.1.size; have hg3 : g < w3.heap.size := Nat.lt_of_lt_of_le hg2 hk3.size; have hSA : (w3.alloc (.cells #[.int .i64 a, .string (D ++ Z)] 27)).cell? ⟨g, o + d.length * 3, none⟩ = some (.int .i64 a) ∧ (w3.alloc (.cells #[.int .i64 a, .string (D ++ Z)] 27)).cell? ⟨g, o + d.length * 3 + 1, none⟩ = some (.int .u8 (vv : Int)) := ⟨(World.cell?_of_block (a := ⟨g, o + d.length * 3, none⟩) (Below.heap_alloc w3 _ g hg3)).trans hS3.1, (World.cell?_of_block (a := ⟨g, o + d.length * 3 + 1, none⟩) (Below.heap_alloc w3 _ g hg3)).trans hS3.2⟩; have hownC := World.ownsRow.alloc HB3.out.2 (.cells #[.int .i64 a, .string (D ++ Z)] 27); clear hb3 hk3)
          | (refine step_append_at _ rfl _ _ 59 rfl w.heap.size 27 i0 (.agg #[.int .i64 0, .string ⟨#[]⟩]) 2 24 Tryz.underlying59 hi0 hz0 hz1 hz2 rfl (by decide) (.slice ob d.length cap) d.length (d.flatMap Wt.cells) rfl hownC ⟨w3.heap.size, 0, none⟩ 1 1 [.int .i64 a, .string (D ++ Z)] rfl rfl (World.news_of_block (heap_alloc_new w3 _)) hone hp1 hp2 hba3 ?_; intro v1 wB hown2 hgrow2 hat2; have hTB : Below w.heap.size (w3.alloc (.cells #[.int .i64 a, .string (D ++ Z)] 27)) wB := (Below.refl _ _).grown hgrow2 hba3 fun k hk => (World.ownsRow.lt HB3.out.2 k hk).1; have hSB : wB.cell? ⟨g, o + d.length * 3, none⟩ = some (.int .i64 a) ∧ wB.cell? ⟨g, o + d.length * 3 + 1, none⟩ = some (.int .u8 (vv : Int)) := ⟨(World.cell?_of_block (a := ⟨g, o + d.length * 3, none⟩) (hTB.block g HZ.out.2)).trans hSA.1, (World.cell?_of_block (a := ⟨g, o + d.length * 3 + 1, none⟩) (hTB.block g HZ.out.2)).trans hSA.2⟩))
        all_goals
          have HF : Hid (WZ wB w.heap.size v1 (wrsL (l.take (d.length + 1))) ∧ Below w.heap.size w wB) := by
            refine ⟨?_, (HB3.out.1.alloc HB3.out.1.size _).trans hTB⟩
            unfold WZ
            rw [HN.out, HY.out, List.length_append, List.length_singleton, List.flatMap_append, List.flatMap_singleton]
            exact hown2
          clear hownC hown2 hgrow2 hat2 hTB hone hS3 hSA hSB HB3
          go_wp2
          go_roundw
          case rel => exact ⟨d.length + 1, by omega, by go_num, HF.out.1, HF.out.2⟩
          case measure => simp [intOf]; omega
      focus
        go_wp2_with fail
        refine (hhd _).mono ?_
        rintro e w1 ⟨rfl, hb1⟩
        have d0 := (hb1.cell (p := ⟨g, o + d.length * 3, none⟩) hgw).trans c0
        have d1 := (hb1.cell (p := ⟨g, o + d.length * 3 + 1, none⟩) hgw).trans c1
        have d2 := (hb1.cell (p := ⟨g, o + d.length * 3 + 2, none⟩) hgw).trans c2
        have HB1 : Hid (Below w.heap.size w w1 ∧ WZ w1 w.heap.size (.slice ob d.length cap) d) := ⟨HB.out.trans (hb1.mono hbs), WZ.below hown hb1⟩
        have hg1 : g < w1.heap.size := Nat.lt_of_lt_of_le hgw hb1.size
        clear hhd hb1 c0 c1 c2 hown HB hbs hgw
        go_wp2_with fail
        refine (hT4 _).mono ?_
        rintro e w2 ⟨rfl, hb2⟩
        have e0 := (hb2.cell (p := ⟨g, o + d.length * 3, none⟩) hg1).trans d0
        have e1 := (hb2.cell (p := ⟨g, o + d.length * 3 + 1, none⟩) hg1).trans d1
        have HB2 : Hid (Below w.heap.size w w2 ∧ WZ w2 w.heap.size (.slice ob d.length cap) d) := ⟨HB1.out.1.trans (hb2.mono HB1.out.1.size), WZ.below HB1.out.2 hb2⟩
        have hg2 : g < w2.heap.size := Nat.lt_of_lt_of_le hg1 hb2.size
        clear hT4 hb2 d0 d1 d2 HB1 hg1
        go_wp2_with fail
        have hS2 : w2.cell? ⟨g, o + d.length * 3, none⟩ = some (.int .i64 a) ∧ w2.cell? ⟨g, o + d.length * 3 + 1, none⟩ = some (.int .u8 (vv : Int)) := ⟨e0, e1⟩
        have hp1 : d.length + 1 ≤ maxLen := by unfold maxLen; omega
        have hp2 : (d.length + 1) * 24 ≤ 140737488355328 := by omega
        go_region_held3 (fun w' => w'.cell? ⟨g, o + d.length * 3, none⟩ = some (.int .i64 a) ∧ w'.cell? ⟨g, o + d.length * 3 + 1, none⟩ = some (.int .u8 (vv : Int))) (first | exact hSB | exact hSA | exact hS3 | exact hS2) (first
          | (go_at_call 46; refine (hT5 _).mono ?_; rintro e w3 ⟨rfl, hb3⟩; have hk3 : Below w2.heap.size w2 w3 := (Below.refl w2.heap.size w2).drew.trans hb3; have hS3 : w3.cell? ⟨g, o + d.length * 3, none⟩ = some (.int .i64 a) ∧ w3.cell? ⟨g, o + d.length * 3 + 1, none⟩ = some (.int .u8 (vv : Int)) := ⟨(hk3.cell (p := ⟨g, o + d.length * 3, none⟩) hg2).trans e0, (hk3.cell (p := ⟨g, o + d.length * 3 + 1, none⟩) hg2).trans e1⟩; have HB3 : Hid (Below w.heap.size w w3 ∧ WZ w3 w.heap.size (.slice ob d.length cap) d) := ⟨HB2.out.1.trans (hk3.mono HB2.out.1.size), WZ.below HB2.out.2 hk3⟩; have hba3 : w.heap.size ≤ (w3.alloc (.cells #[.int .i64 a, .string (D ++ Z)] 27)).heap.size := le_al HB3.out.1.size; have hg3 : g < w3.heap.size := Nat.lt_of_lt_of_le hg2 hk3.size; have hSA : (w3.alloc (.cells #[.int .i64 a, .string (D ++ Z)] 27)).cell? ⟨g, o + d.length * 3, none⟩ = some (.int .i64 a) ∧ (w3.alloc (.cells #[.int .i64 a, .string (D ++ Z)] 27)).cell? ⟨g, o + d.length * 3 + 1, none⟩ = some (.int .u8 (vv : Int)) := ⟨(World.cell?_of_block (a := ⟨g, o + d.length * 3, none⟩) (Below.heap_alloc w3 _ g hg3)).trans hS3.1, (World.cell?_of_block (a := ⟨g, o + d.length * 3 + 1, none⟩) (Below.heap_alloc w3 _ g hg3)).trans hS3.2⟩; have hownC := World.ownsRow.alloc HB3.out.2 (.cells #[.int .i64 a, .string (D ++ Z)] 27); clear hb3 hk3)
          | (refine step_append_at _ rfl _ _ 59 rfl w.heap.size 27 i0 (.agg #[.int .i64 0, .string ⟨#[]⟩]) 2 24 Tryz.underlying59 hi0 hz0 hz1 hz2 rfl (by decide) (.slice ob d.length cap) d.length (d.flatMap Wt.cells) rfl hownC ⟨w3.heap.size, 0, none⟩ 1 1 [.int .i64 a, .string (D ++ Z)] rfl rfl (World.news_of_block (heap_alloc_new w3 _)) hone hp1 hp2 hba3 ?_; intro v1 wB hown2 hgrow2 hat2; have hTB : Below w.heap.size (w3.alloc (.cells #[.int .i64 a, .string (D ++ Z)] 27)) wB := (Below.refl _ _).grown hgrow2 hba3 fun k hk => (World.ownsRow.lt HB3.out.2 k hk).1; have hSB : wB.cell? ⟨g, o + d.length * 3, none⟩ = some (.int .i64 a) ∧ wB.cell? ⟨g, o + d.length * 3 + 1, none⟩ = some (.int .u8 (vv : Int)) := ⟨(World.cell?_of_block (a := ⟨g, o + d.length * 3, none⟩) (hTB.block g HZ.out.2)).trans hSA.1, (World.cell?_of_block (a := ⟨g, o + d.length * 3 + 1, none⟩) (hTB.block g HZ.out.2)).trans hSA.2⟩))
        all_goals
          have HF : Hid (WZ wB w.heap.size v1 (wrsL (l.take (d.length + 1))) ∧ Below w.heap.size w wB) := by
            refine ⟨?_, (HB3.out.1.alloc HB3.out.1.size _).trans hTB⟩
            unfold WZ
            rw [HN.out, HY.out, List.length_append, List.length_singleton, List.flatMap_append, List.flatMap_singleton]
            exact hown2
          clear hownC hown2 hgrow2 hat2 hTB hone hS3 hSA hSB HB3
          go_wp2
          go_roundw
          case rel => exact ⟨d.length + 1, by omega, by go_num, HF.out.1, HF.out.2⟩
          case measure => simp [intOf]; omega
    · obtain rfl : j = m := by omega
      have HF : Hid (WZ wr w.heap.size (.slice ob j cap) (wrsL l) ∧ Below w.heap.size w wr) := by
        refine ⟨?_, HB.out⟩
        have e : wrsL (l.take j) = wrsL l := by
          unfold wrsL
          rw [List.take_take, Nat.min_comm 30 j, hm, Nat.min_eq_left (by omega)]
          by_cases h30 : l.length ≤ 30
          · rw [Nat.min_eq_right h30, List.take_length, List.take_of_length_le h30]
          · rw [Nat.min_eq_left (by omega)]
        rw [e] at hown
        have e2 : (wrsL l).length = j := by rw [← e]; exact hcnt
        unfold WZ at hown ⊢
        rw [e2] at hown ⊢
        exact hown
      have hway : (¬ (j : Int) < l.length) ∨ ((j : Int) < l.length ∧ ¬ (j : Int) < 30) := by omega
      clear hown HB hm hcnt hlt
      rcases hway with h1 | ⟨h1, h2⟩
      all_goals
        go_wp2
        go_ret
        exact ⟨_, rfl, HF.out.1, HF.out.2⟩
end Go.Proofs.YtldkdoddklfdlaaGreatDoor

namespace Go.Proofs.YtldkdoddklfdlaaGreatDoor
set_option maxRecDepth 20000
open Go.RowKit

theorem fit_of {n a : Nat} {r : ByteArray} (h : 8 * a + 8 ≤ n) (hr : r.size = 512) : FitW n ⟨(a : Int), r⟩ := ⟨⟨a, rfl, h⟩, hr⟩
def aB : Blk := ⟨40, 1, false⟩
def aR0 (B : Nat) : ByteArray := supR (idealK B) newV (lawSp 48 0)
def aS1 (B : Nat) : VS := supP (idealK B) newV (lawSp 48 0)
def aP1 (B : Nat) : PS := folP [[⟨1 - 0, fillS 0 512⟩, ⟨2, fillS 0 512⟩], [⟨0, aR0 B⟩]] (newP 784)
def aW : List Wt := wrsL [aB]
def aS2 (B : Nat) : VS := proP (idealK B) (aS1 B) aW (lawSp 48 1)
def aRp (B : Nat) : ByteArray := proR (idealK B) (aS1 B) aW (lawSp 48 1)
def aS3 (B : Nat) : VS := supP (idealK B) (aS2 B) (lawSp 48 1)
def aR1 (B : Nat) : ByteArray := supR (idealK B) (aS2 B) (lawSp 48 1)
def aP2 (B : Nat) : PS := folP [recsL 3 0 aW, [⟨2, aRp B⟩], aW, [⟨1, aR1 B⟩]] (aP1 B)
theorem law_err (ep : Int) (h : ep = 0 ∨ ep = 1) : (lawSp 48 ep).err = 0 ∧ (lawSp 48 ep).hd.err = 0 ∧ (lawSp 48 ep).hdC.err = 0 := by
  have hf : (lawSp 48 ep).root.size = 32 := fillS_size 3 32
  rcases h with rfl | rfl
  all_goals
    refine ⟨?_, by decide, by decide⟩
    unfold Sp.err superE
    rw [if_pos hf]
    decide
theorem aW_eq : aW = [⟨40, aB.wt.raw⟩] := rfl
theorem aW_raw : aB.wt.raw.size = 512 := aB.raw_size
theorem aS_room (B : Nat) : (aS1 B).texts.length + 10 ≤ 100 ∧ (aS1 B).seals.length + 10 ≤ 100 ∧ (aS2 B).texts.length + 5 ≤ 100 ∧ (aS2 B).seals.length + 5 ≤ 100 ∧ (aS3 B).texts.length + 2 ≤ 100 ∧ (aS3 B).seals.length + 2 ≤ 100 := by
  obtain ⟨e0, h0, c0⟩ := law_err 0 (.inl rfl)
  obtain ⟨e1, h1, c1⟩ := law_err 1 (.inr rfl)
  obtain ⟨_, _, x1⟩ := sup_sealed B newV e0 h0
  have l1 := ideal_len newV (lawSp 48 0).hd (lawSp 48 0).txt
  rw [← x1] at l1
  have n0 : newV.texts.length = 0 := rfl
  have n1 : newV.seals.length = 0 := rfl
  have q1 : (aS1 B).texts.length = newV.texts.length := l1.1
  have q2 : (aS1 B).seals.length ≤ newV.seals.length + 1 := l1.2
  have hr : (idealK B).room (aS1 B) 1 := by
    show (aS1 B).texts.length + 1 ≤ 1000000 ∧ (aS1 B).seals.length + 1 ≤ 1000000
    omega
  obtain ⟨_, _, x2⟩ := pro_sealed B (aS1 B) (l := aW) hr (by rw [aW_eq]; decide) e1 c1
  have l2 := ideal_len (hashP (aS1 B) (joinB aW)) (lawSp 48 1).hdC (proT (idealK B) (aS1 B) aW (lawSp 48 1))
  rw [← x2] at l2
  have t2 : (hashP (aS1 B) (joinB aW)).texts.length ≤ (aS1 B).texts.length + 1 := by
    show (addN (aS1 B).texts (joinB aW)).length ≤ _
    exact addN_length (aS1 B).texts (joinB aW)
  have t3 : (hashP (aS1 B) (joinB aW)).seals.length = (aS1 B).seals.length := rfl
  have q3 : (aS2 B).texts.length = (hashP (aS1 B) (joinB aW)).texts.length := l2.1
  have q4 : (aS2 B).seals.length ≤ (hashP (aS1 B) (joinB aW)).seals.length + 1 := l2.2
  obtain ⟨_, _, x3⟩ := sup_sealed B (aS2 B) e1 h1
  have l3 := ideal_len (aS2 B) (lawSp 48 1).hd (lawSp 48 1).txt
  rw [← x3] at l3
  have q5 : (aS3 B).texts.length = (aS2 B).texts.length := l3.1
  have q6 : (aS3 B).seals.length ≤ (aS2 B).seals.length + 1 := l3.2
  omega
theorem aS_sealed (B : Nat) : Sealed (aS3 B) (lawSp 48 0).hd (lawSp 48 0).txt (aR0 B) ∧ Sealed (aS3 B) (lawSp 48 1).hd (lawSp 48 1).txt (aR1 B) ∧ Sealed (aS3 B) (lawSp 48 1).hdC (proT (idealK B) (aS1 B) aW (lawSp 48 1)) (aRp B) := by
  obtain ⟨e0, h0, c0⟩ := law_err 0 (.inl rfl)
  obtain ⟨e1, h1, c1⟩ := law_err 1 (.inr rfl)
  have hro := aS_room B
  have hr : (idealK B).room (aS1 B) 1 := by
    show (aS1 B).texts.length + 1 ≤ 1000000 ∧ (aS1 B).seals.length + 1 ≤ 1000000
    omega
  obtain ⟨_, s1, x1⟩ := sup_sealed B newV e0 h0
  obtain ⟨_, s2, x2⟩ := pro_sealed B (aS1 B) (l := aW) hr (by rw [aW_eq]; decide) e1 c1
  obtain ⟨_, s3, x3⟩ := sup_sealed B (aS2 B) e1 h1
  have y2 : aS2 B = bsealP (hashP (aS1 B) (joinB aW)) (lawSp 48 1).hdC (proT (idealK B) (aS1 B) aW (lawSp 48 1)) := x2
  have y3 : aS3 B = bsealP (aS2 B) (lawSp 48 1).hd (lawSp 48 1).txt := x3
  have z1 : Sealed (aS1 B) (lawSp 48 0).hd (lawSp 48 0).txt (aR0 B) := s1
  have z2 : Sealed (aS2 B) (lawSp 48 1).hdC (proT (idealK B) (aS1 B) aW (lawSp 48 1)) (aRp B) := s2
  refine ⟨?_, s3, ?_⟩
  · rw [y3]
    refine Sealed.add ?_ _ _
    rw [y2]
    exact (z1.hash _).add _ _
  · rw [y3]
    exact z2.add _ _
theorem aP1_fine (B : Nat) : folE [[⟨1 - 0, fillS 0 512⟩, ⟨2, fillS 0 512⟩], [⟨0, aR0 B⟩]] (newP 784) = 0 ∧ Fine (aP1 B) 784 ∧ (aP1 B).wait = [] ∧ Seen (aP1 B) 0 (aR0 B) := by
  obtain ⟨s0, _, _⟩ := aS_sealed B
  have hro := aS_room B
  have hz := s0.size (by omega)
  have hf : Fine (newP 784) 784 := ⟨rfl, rfl, by show (List.replicate 784 (fillS 0 64)).length = 784; rw [List.length_replicate]⟩
  obtain ⟨h1, h2, h3, h4⟩ := fol_fine [[⟨1 - 0, fillS 0 512⟩, ⟨2, fillS 0 512⟩], [⟨0, aR0 B⟩]] hf rfl (by
    intro l hl x hx
    simp only [List.mem_cons, List.not_mem_nil, or_false] at hl
    rcases hl with rfl | rfl
    · simp only [List.mem_cons, List.not_mem_nil, or_false] at hx
      rcases hx with rfl | rfl
      · exact ⟨⟨1, rfl, by decide⟩, fillS_size _ _⟩
      · exact ⟨⟨2, rfl, by decide⟩, fillS_size _ _⟩
    · simp only [List.mem_cons, List.not_mem_nil, or_false] at hx
      subst hx
      exact fit_of (a := 0) (by decide) hz)
  exact ⟨h1, h2, h3, h4 0 _ (by
    show SeenL [⟨1 - 0, fillS 0 512⟩, ⟨2, fillS 0 512⟩, ⟨0, aR0 B⟩] _ _ _
    unfold SeenL
    simp [lastW])⟩
theorem aP2_fine (B : Nat) : folE [recsL 3 0 aW, [⟨2, aRp B⟩], aW, [⟨1, aR1 B⟩]] (aP1 B) = 0 ∧ Fine (aP2 B) 784 ∧ Seen (aP2 B) 0 (aR0 B) ∧ Seen (aP2 B) 1 (aR1 B) ∧ Seen (aP2 B) 2 (aRp B) ∧ Seen (aP2 B) 3 aB.wt.raw := by
  obtain ⟨s0, s1, s2⟩ := aS_sealed B
  have hro := aS_room B
  have z1 := s1.size (by omega)
  have z2 := s2.size (by omega)
  obtain ⟨_, hf, hw, hs⟩ := aP1_fine B
  have er : recsL 3 0 aW = [⟨3, aB.wt.raw⟩] := rfl
  obtain ⟨h1, h2, h3, h4⟩ := fol_fine [recsL 3 0 aW, [⟨2, aRp B⟩], aW, [⟨1, aR1 B⟩]] hf hw (by
    intro l hl x hx
    rw [er, aW_eq] at hl
    simp only [List.mem_cons, List.not_mem_nil, or_false] at hl
    rcases hl with rfl | rfl | rfl | rfl
    · simp only [List.mem_cons, List.not_mem_nil, or_false] at hx
      subst hx
      exact fit_of (a := 3) (by decide) aW_raw
    · simp only [List.mem_cons, List.not_mem_nil, or_false] at hx
      subst hx
      exact fit_of (a := 2) (by decide) z2
    · simp only [List.mem_cons, List.not_mem_nil, or_false] at hx
      subst hx
      exact fit_of (a := 40) (by decide) aW_raw
    · simp only [List.mem_cons, List.not_mem_nil, or_false] at hx
      subst hx
      exact fit_of (a := 1) (by decide) z1)
  have ef : ([recsL 3 0 aW, [⟨2, aRp B⟩], aW, [⟨1, aR1 B⟩]] : List (List Wt)).flatten = [⟨3, aB.wt.raw⟩, ⟨2, aRp B⟩, ⟨40, aB.wt.raw⟩, ⟨1, aR1 B⟩] := by
    rw [er, aW_eq]
    simp
  rw [ef] at h4
  refine ⟨h1, h2, h4 0 _ ?_, h4 1 _ ?_, h4 2 _ ?_, h4 3 _ ?_⟩
  · unfold SeenL
    simp [lastW]
    exact hs
  · unfold SeenL
    simp [lastW]
  · unfold SeenL
    simp [lastW]
  · unfold SeenL
    simp [lastW]
theorem aP2_wait (B : Nat) : (aP2 B).wait = [] := by
  obtain ⟨s0, s1, s2⟩ := aS_sealed B
  have hro := aS_room B
  have z1 := s1.size (by omega)
  have z2 := s2.size (by omega)
  obtain ⟨_, hf, hw, hs⟩ := aP1_fine B
  have er : recsL 3 0 aW = [⟨3, aB.wt.raw⟩] := rfl
  obtain ⟨_, _, h3, _⟩ := fol_fine [recsL 3 0 aW, [⟨2, aRp B⟩], aW, [⟨1, aR1 B⟩]] hf hw (by
    intro l hl x hx
    rw [er, aW_eq] at hl
    simp only [List.mem_cons, List.not_mem_nil, or_false] at hl
    rcases hl with rfl | rfl | rfl | rfl
    · simp only [List.mem_cons, List.not_mem_nil, or_false] at hx
      subst hx
      exact fit_of (a := 3) (by decide) aW_raw
    · simp only [List.mem_cons, List.not_mem_nil, or_false] at hx
      subst hx
      exact fit_of (a := 2) (by decide) z2
    · simp only [List.mem_cons, List.not_mem_nil, or_false] at hx
      subst hx
      exact fit_of (a := 40) (by decide) aW_raw
    · simp only [List.mem_cons, List.not_mem_nil, or_false] at hx
      subst hx
      exact fit_of (a := 1) (by decide) z1)
  exact h3
theorem aP_len (B : Nat) : (aP2 B).kept.length = 784 ∧ (aP2 B).up = true := ⟨(aP2_fine B).2.1.len, (aP2_fine B).2.1.up⟩
/-- What Recover reads. -/
def aRg0 : Rg := ⟨true, (lawSp 48 0).hd, (lawSp 48 0).txt⟩
def aRg1 : Rg := ⟨true, (lawSp 48 1).hd, (lawSp 48 1).txt⟩
theorem aLoad0 (B : Nat) : loadR (idealK B) (aP2 B) (aS3 B) 0 = aRg0 := by
  obtain ⟨_, hf, h0, _, _, _⟩ := aP2_fine B
  obtain ⟨s0, _, _⟩ := aS_sealed B
  have hro := aS_room B
  exact load_seen B (a := 0) hf h0 s0 (by omega) rfl
theorem aCho : chO [aRg0, aRg1] 48 = some (lawSp 48 1) := by
  have h := cho_two (law_err 0 (.inl rfl)).1 (law_err 1 (.inr rfl)).1 rfl rfl rfl
  rw [if_pos (by decide)] at h
  exact h
/-- The device behind Recover's two readings. -/
structure AwR (B : Nat) (P1 P2 : PS) (raws : List ByteArray) (masks : List Int) : Prop where
  e1 : (bget (aP2 B) 0).2 = P1
  e2 : (bget P1 1).2 = P2
  er : rawsTo P2 (P2.kept.length / 8) = raws
  em : masksTo P2 (P2.kept.length / 8) = masks
theorem AwR.a1 {B : Nat} {P1 P2 : PS} {raws : List ByteArray} {masks : List Int} (h : AwR B P1 P2 raws masks) : Alike (aP2 B) P1 := by
  have q := jbget_alike (aP2 B) 0
  rw [h.e1] at q
  exact q
theorem AwR.a2 {B : Nat} {P1 P2 : PS} {raws : List ByteArray} {masks : List Int} (h : AwR B P1 P2 raws masks) : Alike (aP2 B) P2 := by
  have q := jbget_alike P1 1
  rw [h.e2] at q
  exact h.a1.trans q
theorem aLoad1 (B : Nat) {P1 P2 : PS} {raws : List ByteArray} {masks : List Int} (H : AwR B P1 P2 raws masks) : loadR (idealK B) P1 (aS3 B) 1 = aRg1 := by
  obtain ⟨_, hf, _, h1, _, _⟩ := aP2_fine B
  obtain ⟨_, s1, _⟩ := aS_sealed B
  have hro := aS_room B
  exact load_seen B (a := 1) (hf.alike H.a1) (h1.alike H.a1) s1 (by omega) rfl
theorem aLook (B : Nat) {P1 P2 : PS} {raws : List ByteArray} {masks : List Int} (H : AwR B P1 P2 raws masks) : lookR (idealK B) (aS3 B) raws masks 2 = ⟨true, (lawSp 48 1).hdC, proT (idealK B) (aS1 B) aW (lawSp 48 1)⟩ := by
  obtain ⟨_, hf, _, _, h2, _⟩ := aP2_fine B
  obtain ⟨_, _, s2⟩ := aS_sealed B
  have hro := aS_room B
  have q := look_seen B (a := 2) (hf.alike H.a2) (h2.alike H.a2) s2 (by omega) rfl
  rw [H.er, H.em] at q
  exact q
theorem aPi (B : Nat) {P1 P2 : PS} {raws : List ByteArray} {masks : List Int} (H : AwR B P1 P2 raws masks) : piN (lookR (idealK B) (aS3 B) raws masks 2) 48 = 1 ∧ piS (lookR (idealK B) (aS3 B) raws masks 2) 48 = lawSp 48 1 := by
  have hro := aS_room B
  have hr : (idealK B).room (aS1 B) 1 := by
    show (aS1 B).texts.length + 1 ≤ 1000000 ∧ (aS1 B).seals.length + 1 ≤ 1000000
    omega
  obtain ⟨_, h2, h3⟩ := pro_pi (idealOk B) (S := aS1 B) (l := aW) (s := lawSp 48 1) hr (by rw [aW_eq]; decide) (law_err 1 (.inr rfl)).1
  rw [aLook B H]
  exact ⟨h2, h3⟩
theorem aHd : aB.hd.err = 0 := by decide
theorem aTog (B : Nat) {P1 P2 : PS} {raws : List ByteArray} {masks : List Int} (H : AwR B P1 P2 raws masks) : togB 27 48 (fnW (idealK B) (aS3 B) raws masks 48) = true := by
  obtain ⟨_, hf, _, _, _, h3⟩ := aP2_fine B
  obtain ⟨a1, a2⟩ := seen_at (a := 3) (hf.alike H.a2) (h3.alike H.a2) aW_raw
  rw [H.er, H.em] at a1
  have e1 : atS raws masks 3 = aB.wt.raw := a1
  have er : fnW (idealK B) (aS3 B) raws masks 48 = [rcdW raws masks 3 0] := by
    unfold fnW
    rw [(aPi B H).1]
    rfl
  have ew : rcdW raws masks 3 0 = ⟨40, aB.wt.raw⟩ := by
    have e2 : atS raws masks (3 + ((0 : Nat) : Int)) = aB.wt.raw := e1
    unfold rcdW
    rw [e2]
    have e3 : aB.wt.raw.extract 0 48 = aB.hd.txt := by
      have e4 : aB.wt.raw = aB.hd.txt ++ fillS 1 464 := by
        show aB.first ++ fillS 1 464 = _
        rw [show aB.first = aB.hd.txt from if_pos ⟨aHd, rfl⟩]
      rw [e4]
      exact (ba_cut (hd_size aHd)).1
    rw [e3, hd_reads aHd]
    rfl
  rw [er, ew]
  have e3 : aB.wt.raw.extract 0 48 = aB.hd.txt := by
    have e4 : aB.wt.raw = aB.hd.txt ++ fillS 1 464 := by
      show aB.first ++ fillS 1 464 = _
      rw [show aB.first = aB.hd.txt from if_pos ⟨aHd, rfl⟩]
    rw [e4]
    exact (ba_cut (hd_size aHd)).1
  have hd : hdB ⟨40, aB.wt.raw⟩ = true := by
    unfold hdB
    refine decide_eq_true ⟨aW_raw, ?_, ?_⟩
    · show headE (aB.wt.raw.extract 0 48) = 0
      rw [e3]
      exact hd_headE aHd
    · show (hdOf (aB.wt.raw.extract 0 48)).v1 = 40
      rw [e3, hd_reads aHd]
      rfl
  unfold togB
  rw [hd]
  rfl
theorem aTogW : togB 27 48 aW = true := by
  have e3 : aB.wt.raw.extract 0 48 = aB.hd.txt := by
    have e4 : aB.wt.raw = aB.hd.txt ++ fillS 1 464 := by
      show aB.first ++ fillS 1 464 = _
      rw [show aB.first = aB.hd.txt from if_pos ⟨aHd, rfl⟩]
    rw [e4]
    exact (ba_cut (hd_size aHd)).1
  have hd : hdB ⟨40, aB.wt.raw⟩ = true := by
    unfold hdB
    refine decide_eq_true ⟨aW_raw, ?_, ?_⟩
    · show headE (aB.wt.raw.extract 0 48) = 0
      rw [e3]
      exact hd_headE aHd
    · show (hdOf (aB.wt.raw.extract 0 48)).v1 = 40
      rw [e3, hd_reads aHd]
      rfl
  rw [aW_eq]
  unfold togB
  rw [hd]
  rfl
theorem aFn (B : Nat) {P1 P2 : PS} {raws : List ByteArray} {masks : List Int} (H : AwR B P1 P2 raws masks) (h : fnOk (idealK B) (aS3 B) raws masks 48 = true) : (fnS (idealK B) (aS3 B) raws masks 48).ep = 1 := by
  unfold fnS
  rw [if_pos h, (aPi B H).2]
  rfl
theorem a784 : loE 784 = 0 ∧ loN 784 = 48 ∧ loA 784 = layA 48 (layQ 48) (layS 48) (layT 48) := by
  have h : liveO 784 = some 48 := by
    have := liveO_of (n := 48) (by decide) (by decide)
    rw [show totI 48 * 8 = 784 by decide] at this
    exact this
  unfold loE loN loA
  rw [h]
  exact ⟨rfl, rfl, rfl⟩
end Go.Proofs.YtldkdoddklfdlaaGreatDoor

namespace Go.Proofs.YtldkdoddklfdlaaGreatDoor
set_option maxRecDepth 20000
open Go.RowKit

set_option maxHeartbeats 2000000 in
theorem format_bad (p v : Value) (a0 a1 a2 a3 : Int) (r : ByteArray) (w : World) (hI : ∀ W, Below w.heap.size w W → Calls Tryz.prog 40 #[p, .agg #[.int .i64 a0, .int .i64 a1, .int .i64 a2, .int .i64 a3, .string r]] W fun e W' => e = .returned (.bool false) ∧ Below W.heap.size W W') :
    Calls Tryz.prog 18 #[p, v, .agg #[.int .i64 a0, .int .i64 a1, .int .i64 a2, .int .i64 a3, .string r]] w fun e w' => e = .returned (.int .i64 1) ∧ Below w.heap.size w w' := by
  have hb0 := bel_alloc w (.cells #[.int .i64 a0, .int .i64 a1, .int .i64 a2, .int .i64 a3, .string r] 23)
  have h1 := hI _ hb0
  have HB : Hid _ := hb0
  clear hI hb0
  go_enter Tryz.func18, Tryz.ntmps18
  go_wp2_with fail
  refine h1.mono ?_
  rintro e w1 ⟨rfl, hb1⟩
  have HB1 : Hid (Below w.heap.size w w1) := HB.out.trans (hb1.mono HB.out.size)
  clear h1 hb1 HB
  go_wp2
  go_ret
  exact ⟨rfl, HB1.out⟩
set_option maxHeartbeats 4000000 in
theorem format_in (K : VK) (HK : VKOk K) (F : Nat → Prop) (B : Nat) (P : PS) (S : K.σ) (s : Sp) (w : World) (A : Int) (R : ByteArray) (h : Duo K w F B P S) (hr : K.room S 1) (hw : P.wait.length ≤ 100000) (hg : ErrT w) (hF : ¬ F 3) (hlv : loE (P.kept.length : Nat) = 0 ∧ loN (P.kept.length : Nat) = s.lv) (he : s.err = 0) (hs : sonE P s = 0) (hA : sonA P s = A) (hA1 : 0 ≤ A ∧ A ≤ 1) (hR : sonR K P S s = R) :
    Calls Tryz.prog 18 #[.pointer (some ⟨B, 0, none⟩), K.v, .agg s.arr] w fun e w' => e = .returned (.int .i64 (ansE (folE [[⟨1 - A, fillS 0 512⟩, ⟨2, fillS 0 512⟩], [⟨A, R⟩]] P))) ∧ Duo K w' (grow F w w') B (folP [[⟨1 - A, fillS 0 512⟩, ⟨2, fillS 0 512⟩], [⟨A, R⟩]] P) (sonS K P S s) ∧ Touch F w w' := by
  obtain ⟨w0, hw0⟩ : ∃ w0, w.alloc (.cells s.arr 23) = w0 := ⟨_, rfl⟩
  have hb0 : Below w.heap.size w w0 := by rw [← hw0]; exact bel_alloc w _
  have g0 : w0.heap[w.heap.size]? = some (.cells s.arr 23 (0, 0)) := by rw [← hw0]; exact heap_alloc_new w _
  have hI := isOf_duo K HK F B P S s w0 (h.below HK hb0)
  rw [decide_eq_true hlv] at hI
  have hU := fun W (hW : Below w0.heap.size w0 W) => unseal_duo K HK F B P S s W ((h.below HK hb0).below HK hW) (HK.less hr (by omega))
  rw [he] at hU
  have hO := fun W (hW : Below w0.heap.size w0 W) => superOn_any K HK F B P S s W ((h.below HK hb0).below HK hW) hr
  rw [hs, hA, hR] at hO
  have hbl := fun (a : Int) (W : World) => jblank_any a W
  have hans := answer_any (folE [[⟨1 - A, fillS 0 512⟩, ⟨2, fillS 0 512⟩], [⟨A, R⟩]] P)
  have hwr : IntKind.i64.wrap (1 - A) = 1 - A := by
    rcases (show A = 0 ∨ A = 1 by omega) with rfl | rfl <;> rfl
  rw [← hwr] at hans ⊢
  clear hwr
  have HW3 : Hid (P.wait.length + 8 * total [[(⟨IntKind.i64.wrap (1 - A), fillS 0 512⟩ : Wt), ⟨2, fillS 0 512⟩], [⟨A, R⟩]] ≤ 900000) := by show P.wait.length + 8 * 3 ≤ 900000; omega
  have HH : Hid (Below w.heap.size w w0 ∧ ErrT w ∧ ¬ F 3 ∧ (∀ k, F k → k < w.heap.size) ∧ P.wait.length ≤ 100000) := ⟨hb0, hg, hF, h.lt, hw⟩
  have hsz0 : w.heap.size < w0.heap.size := lt_of_block g0
  obtain ⟨a0, a1, a2, a3, r⟩ := s
  unfold Sp.arr at *
  simp only at g0 hI hU hO hw0
  generalize fillS 0 512 = z at *
  have c0 : w0.cell? ⟨w.heap.size, 0, none⟩ = some (.int .i64 a0) := cell_of_row _ _ 0 _ _ _ g0
  have c1 : w0.cell? ⟨w.heap.size, 1, none⟩ = some (.int .i64 a1) := cell_of_row _ _ 1 _ _ _ g0
  have c2 : w0.cell? ⟨w.heap.size, 2, none⟩ = some (.int .i64 a2) := cell_of_row _ _ 2 _ _ _ g0
  have c3 : w0.cell? ⟨w.heap.size, 3, none⟩ = some (.int .i64 a3) := cell_of_row _ _ 3 _ _ _ g0
  have c4 : w0.cell? ⟨w.heap.size, 4, none⟩ = some (.string r) := cell_of_row _ _ 4 _ _ _ g0
  clear h hr hw hg hF hlv he hs hA hR hb0
  go_enter Tryz.func18, Tryz.ntmps18
  go_wp2_with fail
  try rw [hw0]
  refine hI.mono ?_
  rintro e w1 ⟨rfl, hb1⟩
  have d0 := (hb1.cell (p := ⟨w.heap.size, 0, none⟩) hsz0).trans c0
  have d1 := (hb1.cell (p := ⟨w.heap.size, 1, none⟩) hsz0).trans c1
  have d2 := (hb1.cell (p := ⟨w.heap.size, 2, none⟩) hsz0).trans c2
  have d3 := (hb1.cell (p := ⟨w.heap.size, 3, none⟩) hsz0).trans c3
  have d4 := (hb1.cell (p := ⟨w.heap.size, 4, none⟩) hsz0).trans c4
  have HB1 : Hid (Below w0.heap.size w0 w1) := hb1
  clear hI c0 c1 c2 c3 c4
  go_wp2_with fail
  refine (hU _ hb1).mono ?_
  rintro e w2 ⟨rfl, hb2⟩
  have hsz1 := Nat.lt_of_lt_of_le hsz0 hb1.size
  have e0 := (hb2.cell (p := ⟨w.heap.size, 0, none⟩) hsz1).trans d0
  have e1 := (hb2.cell (p := ⟨w.heap.size, 1, none⟩) hsz1).trans d1
  have e2 := (hb2.cell (p := ⟨w.heap.size, 2, none⟩) hsz1).trans d2
  have e3 := (hb2.cell (p := ⟨w.heap.size, 3, none⟩) hsz1).trans d3
  have e4 := (hb2.cell (p := ⟨w.heap.size, 4, none⟩) hsz1).trans d4
  have hb02 : Below w0.heap.size w0 w2 := hb1.trans (hb2.mono hb1.size)
  have HB2 : Hid (Below w0.heap.size w0 w2) := hb02
  clear hU d0 d1 d2 d3 d4 hb1 hb2 HB1
  go_wp2_with fail
  refine (hO _ hb02).mono ?_
  rintro e w3 ⟨rfl, hd3, ht3⟩
  have HB3 : Hid (Duo K w3 F B P (sonS K P S ⟨a0, a1, a2, a3, r⟩) ∧ Touch F w2 w3) := ⟨hd3, ht3⟩
  clear hO hd3 ht3 e0 e1 e2 e3 e4 hb02
  go_wp2_with fail
  have HKS : Hid (∀ W, Below (w3.alloc (.cells #[.int .i64 A, .string R] 27)).heap.size (w3.alloc (.cells #[.int .i64 A, .string R] 27)) W → W.cell? ⟨w3.heap.size, 0, none⟩ = some (.int .i64 A) ∧ W.cell? ⟨w3.heap.size, 1, none⟩ = some (.string R)) := fun W hW => by
    have g := (hW.block w3.heap.size (by simp)).trans (heap_alloc_new w3 (.cells #[.int .i64 A, .string R] 27))
    exact ⟨cell_of_row _ _ 0 _ _ _ g, cell_of_row _ _ 1 _ _ _ g⟩
  have HBX : Hid (True ∧ Below (w3.alloc (.cells #[.int .i64 A, .string R] 27)).heap.size (w3.alloc (.cells #[.int .i64 A, .string R] 27)) (w3.alloc (.cells #[.int .i64 A, .string R] 27))) := ⟨trivial, Below.refl _ _⟩
  have HT3 : Hid (Touch F w (w3.alloc (.cells #[.int .i64 A, .string R] 27))) := ((Touch.of_below HH.out.1).trans ((Touch.of_below (HB2.out)).trans ((HB3.out.2.mono fun _ h => .inl (.inl h))))).trans (Touch.of_below (bel_alloc _ _))
  have HD3 : Hid (Duo K (w3.alloc (.cells #[.int .i64 A, .string R] 27)) F B P (sonS K P S ⟨a0, a1, a2, a3, r⟩)) := HB3.out.1.below HK (bel_alloc _ _)
  have HE3 : Hid (ErrT (w3.alloc (.cells #[.int .i64 A, .string R] 27))) := HH.out.2.1.touch HT3.out HH.out.2.2.1
  have hz3 : w.heap.size ≤ w3.heap.size := by have := HT3.out.size; have q1 := HH.out.1.size; have q2 := HB2.out.size; have q3 := HB3.out.2.size; omega
  clear hw0 g0 hsz0 hsz1 HB2 HB3
  go_region_held3 (fun w' => w'.cell? ⟨w3.heap.size, 0, none⟩ = some (.int .i64 A) ∧ w'.cell? ⟨w3.heap.size, 1, none⟩ = some (.string R)) (first | exact hsG | exact hsF | exact HKS.out _ (by (repeat (first | exact HBX.out.2 | refine bd ?_ | refine ba ?_)))) (first
    | (go_at_call 45; refine (hbl _ _).mono ?_; rintro e wN ⟨rfl, hsN⟩; have HBY : Hid (Below (w3.alloc (.cells #[.int .i64 A, .string R] 27)).heap.size (w3.alloc (.cells #[.int .i64 A, .string R] 27)) wN) := (show Below (w3.alloc (.cells #[.int .i64 A, .string R] 27)).heap.size (w3.alloc (.cells #[.int .i64 A, .string R] 27)) _ from (by (repeat (first | exact HBX.out.2 | refine bd ?_ | refine ba ?_)))).trans (hsN.mono (show (w3.alloc (.cells #[.int .i64 A, .string R] 27)).heap.size ≤ _ from (show Below (w3.alloc (.cells #[.int .i64 A, .string R] 27)).heap.size (w3.alloc (.cells #[.int .i64 A, .string R] 27)) _ from (by (repeat (first | exact HBX.out.2 | refine bd ?_ | refine ba ?_)))).size)); have hzN : w3.heap.size + 1 ≤ wN.heap.size := (by have q := HBY.out.size; simpa using q); have HBX : Hid (True ∧ Below (w3.alloc (.cells #[.int .i64 A, .string R] 27)).heap.size (w3.alloc (.cells #[.int .i64 A, .string R] 27)) wN) := ⟨trivial, HBY.out⟩; clear HBY)
    | (go_at_call 44; refine (follow_2 K HK F B P (sonS K P S ⟨a0, a1, a2, a3, r⟩) _ _ _ [⟨IntKind.i64.wrap (1 - A), z⟩, ⟨2, z⟩] [⟨A, R⟩] _ _ 2 ?_ ?_ HW3.out ?_ HH.out.2.2.1 ⟨?_, fun _ => ?_⟩ ⟨?_, fun _ => ?_⟩).mono ?_; (focus (simp; done)); (focus (exact HD3.out.below HK (by (repeat (first | exact HBX.out.2 | refine bd ?_ | refine ba ?_))); done)); (focus (exact HE3.out.bel (by (repeat (first | exact HBX.out.2 | refine bd ?_ | refine ba ?_))); done)); (focus ((repeat (first | exact wts_new2 _ _ _ _ _ _ _ _ (by simp) | refine Wts.drew ?_ | refine Wts.al ?_ | refine Wts.below ?_ (by assumption))); done)); (focus ((exact out_of (fun hk => by have q := HH.out.2.2.2.1 _ hk; omega)); done)); (focus ((repeat (first | exact wts_new1 _ _ _ _ _ _ (by simp) | refine Wts.drew ?_ | refine Wts.al ?_ | refine Wts.below ?_ (by assumption))); done)); (focus ((exact out_of (fun hk => by have q := HH.out.2.2.2.1 _ hk; omega)); done)); rintro e wF ⟨⟨fv, rfl, hrv⟩, hdF, htF⟩;  have HFin : Hid _ := duo_fin HT3.out HH.out.2.2.2.1 (by (repeat (first | exact HBX.out.2 | refine bd ?_ | refine ba ?_))) hdF htF; have hsF : wF.cell? ⟨w3.heap.size, 0, none⟩ = some (.int .i64 A) ∧ wF.cell? ⟨w3.heap.size, 1, none⟩ = some (.string R) := ⟨keep_cells (W3 := w3.alloc (.cells #[.int .i64 A, .string R] 27)) (by (repeat (first | exact HBX.out.2 | refine bd ?_ | refine ba ?_))) htF (by simp) (fun hk => by have q := HH.out.2.2.2.1 _ hk; omega) 0 _ (HKS.out _ (by (repeat (first | exact HBX.out.2 | refine bd ?_ | refine ba ?_)))).1, keep_cells (W3 := w3.alloc (.cells #[.int .i64 A, .string R] 27)) (by (repeat (first | exact HBX.out.2 | refine bd ?_ | refine ba ?_))) htF (by simp) (fun hk => by have q := HH.out.2.2.2.1 _ hk; omega) 1 _ (HKS.out _ (by (repeat (first | exact HBX.out.2 | refine bd ?_ | refine ba ?_)))).2⟩; clear hdF htF)
    | (go_at_call 43; refine (hans _ hrv _).mono ?_; rintro e wG ⟨rfl, hG⟩; have HGin : Hid _ := duo_step HK HFin.out hG; have hsG : wG.cell? ⟨w3.heap.size, 0, none⟩ = some (.int .i64 A) ∧ wG.cell? ⟨w3.heap.size, 1, none⟩ = some (.string R) := ⟨(hG.cell (p := ⟨w3.heap.size, 0, none⟩) (World.block_lt_of_cell? _ _ hsF.1)).trans hsF.1, (hG.cell (p := ⟨w3.heap.size, 1, none⟩) (World.block_lt_of_cell? _ _ hsF.2)).trans hsF.2⟩; clear hG))
  all_goals
    have HZ : Hid _ := HGin.out
    clear HGin HFin hsF hsG hrv hans hbl
    go_wp2
    go_ret
    exact ⟨rfl, HZ.out⟩
end Go.Proofs.YtldkdoddklfdlaaGreatDoor
