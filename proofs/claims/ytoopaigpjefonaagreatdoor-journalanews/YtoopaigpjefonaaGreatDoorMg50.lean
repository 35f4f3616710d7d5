/- The laws' writes: blocks as they are written. · What the laws' awake comes to: a device of 784 sectors, formatted and committed to once; nothing of the program's calls. · The laws' awake: what is committed is found. · A cut that came in; a list of cuts, each with a slice of truth values of its own. · A value of type api.Super that is read as data is four numbers of type int and a text. · What a world holds where package errors' handle is laid. -/
import Derived.Test.YtoopaigpjefonaaGreatDoorMg49
import Derived.Test.YtoopaigpjefonaaGreatDoorMg13
import Derived.Test.YtoopaigpjefonaaGreatDoorMg06
import Derived.Test.YtoopaigpjefonaaGreatDoorMg26
import Derived.Deep.RegionHeld3
import Derived.Test.YtoopaigpjefonaaGreatDoorMg17
import Derived.Test.YtoopaigpjefonaaGreatDoorMg18
import Derived.Test.YtoopaigpjefonaaGreatDoorMg19
import Derived.Test.YtoopaigpjefonaaGreatDoorMg09
import Derived.Test.YtoopaigpjefonaaGreatDoorMg04
import Derived.Test.YtoopaigpjefonaaGreatDoorMg22
import Derived.Test.YtoopaigpjefonaaGreatDoorRows
import Derived.Lib.LaidTab
namespace Go.Proofs.YtoopaigpjefonaaGreatDoor
set_option maxRecDepth 20000
open Go.RowKit

def Blk.hd (x : Blk) : Hd := ⟨0, x.At, 0, 0, 0, 0, 0, 0⟩
def Blk.first (x : Blk) : ByteArray := if x.hd.err = 0 ∧ x.Bad = false then x.hd.txt else fillS x.V.toNat 48
def Blk.wt (x : Blk) : Wt := ⟨x.At, x.first ++ fillS x.V.toNat 464⟩
def wrsL (l : List Blk) : List Wt := (l.take 30).map Blk.wt
theorem fillS_size_ (v n : Nat) : (fillS v n).size = n := fillS_size v n
theorem Blk.first_size (x : Blk) : x.first.size = 48 := by
  unfold Blk.first
  split
  · next h => exact hd_size h.1
  · exact fillS_size _ _
theorem Blk.raw_size (x : Blk) : x.wt.raw.size = 512 := by
  show (x.first ++ fillS x.V.toNat 464).size = 512
  rw [ByteArray.size_append, x.first_size, fillS_size]
theorem wrsL_length (l : List Blk) : (wrsL l).length ≤ 30 := by
  unfold wrsL
  rw [List.length_map, List.length_take]
  omega
/-- A block in memory, as the law reads it: a byte is at least 0. -/
def BlkF (x : Blk) : Prop := ∃ v : Nat, x.V = (v : Int)
theorem le_al {n : Nat} {w : World} {o : Obj} (h : n ≤ w.heap.size) : n ≤ (w.alloc o).heap.size := by simp; omega
set_option maxHeartbeats 4000000 in
theorem writes_l_any (v : Value) (l : List Blk) (w : World) (hv : Blks w v l) (hF : ∀ x ∈ l, BlkF x ∧ x.At ≤ 9223372036854775807) (hll : l.length ≤ 9223372036854775807) :
    Calls Tryz.prog 23 #[v] w fun e w' => ∃ v', e = .returned v' ∧ WZ w' w.heap.size v' (wrsL l) ∧ Below w.heap.size w w' := by
  obtain ⟨oa, ca, rfl⟩ := hv.form
  obtain ⟨i0, hi0, hz0, hz1, hz2⟩ := info_parts jn_info_wt
  have HV : Hid (Blks w (.slice oa l.length ca) l ∧ ∀ x ∈ l, BlkF x ∧ x.At ≤ 9223372036854775807) := ⟨hv, hF⟩
  clear hv hF
  obtain ⟨m, hm⟩ : ∃ m, m = min 30 l.length := ⟨_, rfl⟩
  go_enter Tryz.func23, Tryz.ntmps23
  go_wp2_with fail
  go_loopw [3, 4] (fun sv iv wr => ∃ (j : Nat), j ≤ m ∧ iv = .int .i64 (j : Int) ∧ WZ wr w.heap.size sv (wrsL (l.take j)) ∧ Hid (Below w.heap.size w wr)) (fun _ iv _ => m - (intOf iv).toNat)
  case atStart => exact ⟨0, Nat.zero_le _, rfl, WZ.nil _ _, Below.refl _ _⟩
  case round =>
    obtain ⟨j, hj, rfl, hown, HB⟩ := hrel
    have hcnt : (wrsL (l.take j)).length = j := by
      unfold wrsL
      rw [List.length_map, List.length_take, List.length_take]
      omega
    obtain ⟨ob, cap, rfl⟩ := hown.form
    rw [hcnt] at hown ⊢
    by_cases hlt : j < m
    · have hjl : j < l.length := by omega
      have j1 : (j : Int) < l.length := by omega
      have j2 : (j : Int) < 30 := by omega
      obtain ⟨g, o, rfl, hg, hx⟩ := HV.out.1.get hjl
      have hat := hx j l[j] (List.getElem?_eq_getElem hjl)
      have hgw : g < wr.heap.size := Nat.lt_of_lt_of_le hg HB.out.size
      obtain ⟨c0, c1, c2⟩ := hat.keep (HB.out.block g hg)
      obtain ⟨⟨vv, hvv⟩, hat9⟩ := HV.out.2 l[j] (List.getElem_mem hjl)
      have HN : Hid (wrsL (l.take (j + 1)) = wrsL (l.take j) ++ [l[j].wt]) := by
        show _ = _
        unfold wrsL
        rw [List.take_take, List.take_take, Nat.min_eq_right (by omega), Nat.min_eq_right (by omega), List.take_add_one, List.getElem?_eq_getElem hjl, List.map_append]
        rfl
      have hhd := fun W => rhead_any 0 l[j].At 0 0 0 0 0 0 (fun p hp => by
        simp [headPs] at hp
        rcases hp with rfl | rfl | rfl | rfl | rfl | rfl | rfl | rfl <;> first | exact hat9 | decide) W
      have HT : Hid (recS [71, 82, 80, 78] (headPs 0 l[j].At 0 0 0 0 0 0) 8 = l[j].hd.txt ∧ recE (headPs 0 l[j].At 0 0 0 0 0 0) = l[j].hd.err) := ⟨rfl, rfl⟩
      rw [HT.out.1, HT.out.2] at hhd
      have HX : Hid ((l[j].hd.err = 0 ∧ l[j].Bad = false → l[j].hd.txt = l[j].first) ∧ (¬ (l[j].hd.err = 0 ∧ l[j].Bad = false) → fillS l[j].V.toNat 48 = l[j].first) ∧ l[j].wt = ⟨l[j].At, l[j].first ++ fillS l[j].V.toNat 464⟩) := ⟨fun h => (if_pos h).symm, fun h => (if_neg h).symm, rfl⟩
      have hsz := l[j].first_size
      clear HT hat hx
      generalize l[j].hd.txt = T at *
      generalize l[j].hd.err = E at *
      generalize l[j].first = D at *
      generalize l[j].wt = Y at *
      generalize l[j] = x at *
      obtain ⟨a, y, bad⟩ := x
      simp only at hvv c0 c1 c2 hhd HX
      subst hvv
      rw [Int.toNat_natCast] at HX
      have hT4 := fun W => jtext_any vv 48 (by decide) W
      have hT5 := fun W => jtext_any vv 464 (by decide) W
      have hf4 := fillS_size vv 464
      generalize fillS vv 464 = Z at *
      generalize fillS vv 48 = X at *
      generalize wrsL (l.take j) = d at *
      subst hcnt
      have hadd := fun w2 => run_string_add_sum (P := Tryz.prog) (w := w2) D Z (by rw [hsz, hf4]; decide)
      have hone : ∀ u ∈ ([.int .i64 a, .string (D ++ Z)] : List Value), u.oneCell' = true := by intro u hu; simp at hu; rcases hu with rfl | rfl <;> rfl
      have hbs := HB.out.size
      have HZ : Hid (m = min 30 l.length ∧ g < w.heap.size) := ⟨hm, hg⟩
      clear hat9 hm hsz hf4
      have hway : (E = 0 ∧ bad = false ∧ D = T) ∨ (E = 0 ∧ bad = true ∧ D = X) ∨ ((E != 0) = true ∧ D = X) := by
        by_cases hE : E = 0
        · cases bad
          · exact .inl ⟨hE, rfl, (HX.out.1 ⟨hE, rfl⟩).symm⟩
          · exact .inr (.inl ⟨hE, rfl, (HX.out.2.1 (fun h => by cases h.2)).symm⟩)
        · exact .inr (.inr ⟨bne_iff_ne.2 hE, (HX.out.2.1 (fun h => hE h.1)).symm⟩)
      have HY : Hid (Y = ⟨a, D ++ Z⟩) := HX.out.2.2
      clear HX
      rcases hway with ⟨rfl, rfl, rfl⟩ | ⟨rfl, rfl, rfl⟩ | ⟨hE, rfl⟩
      -- MARK
      focus
        go_wp2_with fail
        refine (hhd _).mono ?_
        rintro e w1 ⟨rfl, hb1⟩
        have d0 := (hb1.cell (p := ⟨g, o + d.length * 3, none⟩) hgw).trans c0
        have d1 := (hb1.cell (p := ⟨g, o + d.length * 3 + 1, none⟩) hgw).trans c1
        have d2 := (hb1.cell (p := ⟨g, o + d.length * 3 + 2, none⟩) hgw).trans c2
        have HB1 : Hid (Below w.heap.size w w1 ∧ WZ w1 w.heap.size (.slice ob d.length cap) d) := ⟨HB.out.trans (hb1.mono hbs), WZ.below hown hb1⟩
        have hg1 : g < w1.heap.size := Nat.lt_of_lt_of_le hgw hb1.size
        clear hhd hb1 c0 c1 c2 hown HB hbs hgw
        go_wp2_with fail
        have hS1 : w1.cell? ⟨g, o + d.length * 3, none⟩ = some (.int .i64 a) ∧ w1.cell? ⟨g, o + d.length * 3 + 1, none⟩ = some (.int .u8 (vv : Int)) := ⟨d0, d1⟩
        have hp1 : d.length + 1 ≤ maxLen := by unfold maxLen; omega
        have hp2 : (d.length + 1) * 24 ≤ 140737488355328 := by omega
        go_region_held3 (fun w' => w'.cell? ⟨g, o + d.length * 3, none⟩ = some (.int .i64 a) ∧ w'.cell? ⟨g, o + d.length * 3 + 1, none⟩ = some (.int .u8 (vv : Int))) (first | exact hSB | exact hSA | exact hS3 | exact hS1) (first
          | (go_at_call 52; refine (hT5 _).mono ?_; rintro e w3 ⟨rfl, hb3⟩; have hk3 : Below w1.heap.size w1 w3 := (Below.refl w1.heap.size w1).drew.trans hb3; have hS3 : w3.cell? ⟨g, o + d.length * 3, none⟩ = some (.int .i64 a) ∧ w3.cell? ⟨g, o + d.length * 3 + 1, none⟩ = some (.int .u8 (vv : Int)) := ⟨(hk3.cell (p := ⟨g, o + d.length * 3, none⟩) hg1).trans d0, (hk3.cell (p := ⟨g, o + d.length * 3 + 1, none⟩) hg1).trans d1⟩; have HB3 : Hid (Below w.heap.size w w3 ∧ WZ w3 w.heap.size (.slice ob d.length cap) d) := ⟨HB1.out.1.trans (hk3.mono HB1.out.1.size), WZ.below HB1.out.2 hk3⟩; have hba3 : w.heap.size ≤ (w3.alloc (.cells #[.int .i64 a, .string (D ++ Z)] 68)).heap.size := le_al HB3.out.1.size; have hg3 : g < w3.heap.size := Nat.lt_of_lt_of_le hg1 hk3.size; have hSA : (w3.alloc (.cells #[.int .i64 a, .string (D ++ Z)] 68)).cell? ⟨g, o + d.length * 3, none⟩ = some (.int .i64 a) ∧ (w3.alloc (.cells #[.int .i64 a, .string (D ++ Z)] 68)).cell? ⟨g, o + d.length * 3 + 1, none⟩ = some (.int .u8 (vv : Int)) := ⟨(World.cell?_of_block (a := ⟨g, o + d.length * 3, none⟩) (Below.heap_alloc w3 _ g hg3)).trans hS3.1, (World.cell?_of_block (a := ⟨g, o + d.length * 3 + 1, none⟩) (Below.heap_alloc w3 _ g hg3)).trans hS3.2⟩; have hownC := World.ownsRow.alloc HB3.out.2 (.cells #[.int .i64 a, .string (D ++ Z)] 68); clear hb3 hk3)
          | (refine step_append_at _ rfl _ _ 57 rfl w.heap.size 68 i0 (.agg #[.int .i64 0, .string ⟨#[]⟩]) 2 24 Tryz.underlying57 hi0 hz0 hz1 hz2 rfl (by decide) (.slice ob d.length cap) d.length (d.flatMap Wt.cells) rfl hownC ⟨w3.heap.size, 0, none⟩ 1 1 [.int .i64 a, .string (D ++ Z)] rfl rfl (World.news_of_block (heap_alloc_new w3 _)) hone hp1 hp2 hba3 ?_; intro v1 wB hown2 hgrow2 hat2; have hTB : Below w.heap.size (w3.alloc (.cells #[.int .i64 a, .string (D ++ Z)] 68)) wB := (Below.refl _ _).grown hgrow2 hba3 fun k hk => (World.ownsRow.lt HB3.out.2 k hk).1; have hSB : wB.cell? ⟨g, o + d.length * 3, none⟩ = some (.int .i64 a) ∧ wB.cell? ⟨g, o + d.length * 3 + 1, none⟩ = some (.int .u8 (vv : Int)) := ⟨(World.cell?_of_block (a := ⟨g, o + d.length * 3, none⟩) (hTB.block g HZ.out.2)).trans hSA.1, (World.cell?_of_block (a := ⟨g, o + d.length * 3 + 1, none⟩) (hTB.block g HZ.out.2)).trans hSA.2⟩))
        all_goals
          have HF : Hid (WZ wB w.heap.size v1 (wrsL (l.take (d.length + 1))) ∧ Below w.heap.size w wB) := by
            refine ⟨?_, (HB3.out.1.alloc HB3.out.1.size _).trans hTB⟩
            unfold WZ
            rw [HN.out, HY.out, List.length_append, List.length_singleton, List.flatMap_append, List.flatMap_singleton]
            exact hown2
          clear hownC hown2 hgrow2 hat2 hTB hone hS3 hSA hSB HB3
          go_wp2
          go_roundw
          case rel => exact ⟨d.length + 1, by omega, by go_num, HF.out.1, HF.out.2⟩
          case measure => simp [intOf]; omega
      focus
        go_wp2_with fail
        refine (hhd _).mono ?_
        rintro e w1 ⟨rfl, hb1⟩
        have d0 := (hb1.cell (p := ⟨g, o + d.length * 3, none⟩) hgw).trans c0
        have d1 := (hb1.cell (p := ⟨g, o + d.length * 3 + 1, none⟩) hgw).trans c1
        have d2 := (hb1.cell (p := ⟨g, o + d.length * 3 + 2, none⟩) hgw).trans c2
        have HB1 : Hid (Below w.heap.size w w1 ∧ WZ w1 w.heap.size (.slice ob d.length cap) d) := ⟨HB.out.trans (hb1.mono hbs), WZ.below hown hb1⟩
        have hg1 : g < w1.heap.size := Nat.lt_of_lt_of_le hgw hb1.size
        clear hhd hb1 c0 c1 c2 hown HB hbs hgw
        go_wp2_with fail
        refine (hT4 _).mono ?_
        rintro e w2 ⟨rfl, hb2⟩
        have e0 := (hb2.cell (p := ⟨g, o + d.length * 3, none⟩) hg1).trans d0
        have e1 := (hb2.cell (p := ⟨g, o + d.length * 3 + 1, none⟩) hg1).trans d1
        have HB2 : Hid (Below w.heap.size w w2 ∧ WZ w2 w.heap.size (.slice ob d.length cap) d) := ⟨HB1.out.1.trans (hb2.mono HB1.out.1.size), WZ.below HB1.out.2 hb2⟩
        have hg2 : g < w2.heap.size := Nat.lt_of_lt_of_le hg1 hb2.size
        clear hT4 hb2 d0 d1 d2 HB1 hg1
        go_wp2_with fail
        have hS2 : w2.cell? ⟨g, o + d.length * 3, none⟩ = some (.int .i64 a) ∧ w2.cell? ⟨g, o + d.length * 3 + 1, none⟩ = some (.int .u8 (vv : Int)) := ⟨e0, e1⟩
        have hp1 : d.length + 1 ≤ maxLen := by unfold maxLen; omega
        have hp2 : (d.length + 1) * 24 ≤ 140737488355328 := by omega
        go_region_held3 (fun w' => w'.cell? ⟨g, o + d.length * 3, none⟩ = some (.int .i64 a) ∧ w'.cell? ⟨g, o + d.length * 3 + 1, none⟩ = some (.int .u8 (vv : Int))) (first | exact hSB | exact hSA | exact hS3 | exact hS2) (first
          | (go_at_call 52; refine (hT5 _).mono ?_; rintro e w3 ⟨rfl, hb3⟩; have hk3 : Below w2.heap.size w2 w3 := (Below.refl w2.heap.size w2).drew.trans hb3; have hS3 : w3.cell? ⟨g, o + d.length * 3, none⟩ = some (.int .i64 a) ∧ w3.cell? ⟨g, o + d.length * 3 + 1, none⟩ = some (.int .u8 (vv : Int)) := ⟨(hk3.cell (p := ⟨g, o + d.length * 3, none⟩) hg2).trans e0, (hk3.cell (p := ⟨g, o + d.length * 3 + 1, none⟩) hg2).trans e1⟩; have HB3 : Hid (Below w.heap.size w w3 ∧ WZ w3 w.heap.size (.slice ob d.length cap) d) := ⟨HB2.out.1.trans (hk3.mono HB2.out.1.size), WZ.below HB2.out.2 hk3⟩; have hba3 : w.heap.size ≤ (w3.alloc (.cells #[.int .i64 a, .string (D ++ Z)] 68)).heap.size := le_al HB3.out.1.size; have hg3 : g < w3.heap.size := Nat.lt_of_lt_of_le hg2 hk3.size; have hSA : (w3.alloc (.cells #[.int .i64 a, .string (D ++ Z)] 68)).cell? ⟨g, o + d.length * 3, none⟩ = some (.int .i64 a) ∧ (w3.alloc (.cells #[.int .i64 a, .string (D ++ Z)] 68)).cell? ⟨g, o + d.length * 3 + 1, none⟩ = some (.int .u8 (vv : Int)) := ⟨(World.cell?_of_block (a := ⟨g, o + d.length * 3, none⟩) (Below.heap_alloc w3 _ g hg3)).trans hS3.1, (World.cell?_of_block (a := ⟨g, o + d.length * 3 + 1, none⟩) (Below.heap_alloc w3 _ g hg3)).trans hS3.2⟩; have hownC := World.ownsRow.alloc HB3.out.2 (.cells #[.int .i64 a, .string (D ++ Z)] 68); clear hb3 hk3)
          | (refine step_append_at _ rfl _ _ 57 rfl w.heap.size 68 i0 (.agg #[.int .i64 0, .string ⟨#[]⟩]) 2 24 Tryz.underlying57 hi0 hz0 hz1 hz2 rfl (by decide) (.slice ob d.length cap) d.length (d.flatMap Wt.cells) rfl hownC ⟨w3.heap.size, 0, none⟩ 1 1 [.int .i64 a, .string (D ++ Z)] rfl rfl (World.news_of_block (heap_alloc_new w3 _)) hone hp1 hp2 hba3 ?_; intro v1 wB hown2 hgrow2 hat2; have hTB : Below w.heap.size (w3.alloc (.cells #[.int .i64 a, .string (D ++ Z)] 68)) wB := (Below.refl _ _).grown hgrow2 hba3 fun k hk => (World.ownsRow.lt HB3.out.2 k hk).1; have hSB : wB.cell? ⟨g, o + d.length * 3, none⟩ = some (.int .i64 a) ∧ wB.cell? ⟨g, o + d.length * 3 + 1, none⟩ = some (.int .u8 (vv : Int)) := ⟨(World.cell?_of_block (a := ⟨g, o + d.length * 3, none⟩) (hTB.block g HZ.out.2)).trans hSA.1, (World.cell?_of_block (a := ⟨g, o + d.length * 3 + 1, none⟩) (hTB.block g HZ.out.2)).trans hSA.2⟩))
        all_goals
          have HF : Hid (WZ wB w.heap.size v1 (wrsL (l.take (d.length + 1))) ∧ Below w.heap.size w wB) := by
            refine ⟨?_, (HB3.out.1.alloc HB3.out.1.size _).trans hTB⟩
            unfold WZ
            rw [HN.out, HY.out, List.length_append, List.length_singleton, List.flatMap_append, List.flatMap_singleton]
            exact hown2
          clear hownC hown2 hgrow2 hat2 hTB hone hS3 hSA hSB HB3
          go_wp2
          go_roundw
          case rel => exact ⟨d.length + 1, by omega, by go_num, HF.out.1, HF.out.2⟩
          case measure => simp [intOf]; omega
      focus
        go_wp2_with fail
        refine (hhd _).mono ?_
        rintro e w1 ⟨rfl, hb1⟩
        have d0 := (hb1.cell (p := ⟨g, o + d.length * 3, none⟩) hgw).trans c0
        have d1 := (hb1.cell (p := ⟨g, o + d.length * 3 + 1, none⟩) hgw).trans c1
        have d2 := (hb1.cell (p := ⟨g, o + d.length * 3 + 2, none⟩) hgw).trans c2
        have HB1 : Hid (Below w.heap.size w w1 ∧ WZ w1 w.heap.size (.slice ob d.length cap) d) := ⟨HB.out.trans (hb1.mono hbs), WZ.below hown hb1⟩
        have hg1 : g < w1.heap.size := Nat.lt_of_lt_of_le hgw hb1.size
        clear hhd hb1 c0 c1 c2 hown HB hbs hgw
        go_wp2_with fail
        refine (hT4 _).mono ?_
        rintro e w2 ⟨rfl, hb2⟩
        have e0 := (hb2.cell (p := ⟨g, o + d.length * 3, none⟩) hg1).trans d0
        have e1 := (hb2.cell (p := ⟨g, o + d.length * 3 + 1, none⟩) hg1).trans d1
        have HB2 : Hid (Below w.heap.size w w2 ∧ WZ w2 w.heap.size (.slice ob d.length cap) d) := ⟨HB1.out.1.trans (hb2.mono HB1.out.1.size), WZ.below HB1.out.2 hb2⟩
        have hg2 : g < w2.heap.size := Nat.lt_of_lt_of_le hg1 hb2.size
        clear hT4 hb2 d0 d1 d2 HB1 hg1
        go_wp2_with fail
        have hS2 : w2.cell? ⟨g, o + d.length * 3, none⟩ = some (.int .i64 a) ∧ w2.cell? ⟨g, o + d.length * 3 + 1, none⟩ = some (.int .u8 (vv : Int)) := ⟨e0, e1⟩
        have hp1 : d.length + 1 ≤ maxLen := by unfold maxLen; omega
        have hp2 : (d.length + 1) * 24 ≤ 140737488355328 := by omega
        go_region_held3 (fun w' => w'.cell? ⟨g, o + d.length * 3, none⟩ = some (.int .i64 a) ∧ w'.cell? ⟨g, o + d.length * 3 + 1, none⟩ = some (.int .u8 (vv : Int))) (first | exact hSB | exact hSA | exact hS3 | exact hS2) (first
          | (go_at_call 52; refine (hT5 _).mono ?_; rintro e w3 ⟨rfl, hb3⟩; have hk3 : Below w2.heap.size w2 w3 := (Below.refl w2.heap.size w2).drew.trans hb3; have hS3 : w3.cell? ⟨g, o + d.length * 3, none⟩ = some (.int .i64 a) ∧ w3.cell? ⟨g, o + d.length * 3 + 1, none⟩ = some (.int .u8 (vv : Int)) := ⟨(hk3.cell (p := ⟨g, o + d.length * 3, none⟩) hg2).trans e0, (hk3.cell (p := ⟨g, o + d.length * 3 + 1, none⟩) hg2).trans e1⟩; have HB3 : Hid (Below w.heap.size w w3 ∧ WZ w3 w.heap.size (.slice ob d.length cap) d) := ⟨HB2.out.1.trans (hk3.mono HB2.out.1.size), WZ.below HB2.out.2 hk3⟩; have hba3 : w.heap.size ≤ (w3.alloc (.cells #[.int .i64 a, .string (D ++ Z)] 68)).heap.size := le_al HB3.out.1.size; have hg3 : g < w3.heap.size := Nat.lt_of_lt_of_le hg2 hk3.size; have hSA : (w3.alloc (.cells #[.int .i64 a, .string (D ++ Z)] 68)).cell? ⟨g, o + d.length * 3, none⟩ = some (.int .i64 a) ∧ (w3.alloc (.cells #[.int .i64 a, .string (D ++ Z)] 68)).cell? ⟨g, o + d.length * 3 + 1, none⟩ = some (.int .u8 (vv : Int)) := ⟨(World.cell?_of_block (a := ⟨g, o + d.length * 3, none⟩) (Below.heap_alloc w3 _ g hg3)).trans hS3.1, (World.cell?_of_block (a := ⟨g, o + d.length * 3 + 1, none⟩) (Below.heap_alloc w3 _ g hg3)).trans hS3.2⟩; have hownC := World.ownsRow.alloc HB3.out.2 (.cells #[.int .i64 a, .string (D ++ Z)] 68); clear hb3 hk3)
          | (refine step_append_at _ rfl _ _ 57 rfl w.heap.size 68 i0 (.agg #[.int .i64 0, .string ⟨#[]⟩]) 2 24 Tryz.underlying57 hi0 hz0 hz1 hz2 rfl (by decide) (.slice ob d.length cap) d.length (d.flatMap Wt.cells) rfl hownC ⟨w3.heap.size, 0, none⟩ 1 1 [.int .i64 a, .string (D ++ Z)] rfl rfl (World.news_of_block (heap_alloc_new w3 _)) hone hp1 hp2 hba3 ?_; intro v1 wB hown2 hgrow2 hat2; have hTB : Below w.heap.size (w3.alloc (.cells #[.int .i64 a, .string (D ++ Z)] 68)) wB := (Below.refl _ _).grown hgrow2 hba3 fun k hk => (World.ownsRow.lt HB3.out.2 k hk).1; have hSB : wB.cell? ⟨g, o + d.length * 3, none⟩ = some (.int .i64 a) ∧ wB.cell? ⟨g, o + d.length * 3 + 1, none⟩ = some (.int .u8 (vv : Int)) := ⟨(World.cell?_of_block (a := ⟨g, o + d.length * 3, none⟩) (hTB.block g HZ.out.2)).trans hSA.1, (World.cell?_of_block (a := ⟨g, o + d.length * 3 + 1, none⟩) (hTB.block g HZ.out.2)).trans hSA.2⟩))
        all_goals
          have HF : Hid (WZ wB w.heap.size v1 (wrsL (l.take (d.length + 1))) ∧ Below w.heap.size w wB) := by
            refine ⟨?_, (HB3.out.1.alloc HB3.out.1.size _).trans hTB⟩
            unfold WZ
            rw [HN.out, HY.out, List.length_append, List.length_singleton, List.flatMap_append, List.flatMap_singleton]
            exact hown2
          clear hownC hown2 hgrow2 hat2 hTB hone hS3 hSA hSB HB3
          go_wp2
          go_roundw
          case rel => exact ⟨d.length + 1, by omega, by go_num, HF.out.1, HF.out.2⟩
          case measure => simp [intOf]; omega
    · obtain rfl : j = m := by omega
      have HF : Hid (WZ wr w.heap.size (.slice ob j cap) (wrsL l) ∧ Below w.heap.size w wr) := by
        refine ⟨?_, HB.out⟩
        have e : wrsL (l.take j) = wrsL l := by
          unfold wrsL
          rw [List.take_take, Nat.min_comm 30 j, hm, Nat.min_eq_left (by omega)]
          by_cases h30 : l.length ≤ 30
          · rw [Nat.min_eq_right h30, List.take_length, List.take_of_length_le h30]
          · rw [Nat.min_eq_left (by omega)]
        rw [e] at hown
        have e2 : (wrsL l).length = j := by rw [← e]; exact hcnt
        unfold WZ at hown ⊢
        rw [e2] at hown ⊢
        exact hown
      have hway : (¬ (j : Int) < l.length) ∨ ((j : Int) < l.length ∧ ¬ (j : Int) < 30) := by omega
      clear hown HB hm hcnt hlt
      rcases hway with h1 | ⟨h1, h2⟩
      all_goals
        go_wp2
        go_ret
        exact ⟨_, rfl, HF.out.1, HF.out.2⟩
end Go.Proofs.YtoopaigpjefonaaGreatDoor

namespace Go.Proofs.YtoopaigpjefonaaGreatDoor
set_option maxRecDepth 20000
open Go.RowKit

theorem fit_of {n a : Nat} {r : ByteArray} (h : 8 * a + 8 ≤ n) (hr : r.size = 512) : FitW n ⟨(a : Int), r⟩ := ⟨⟨a, rfl, h⟩, hr⟩
def aB : Blk := ⟨40, 1, false⟩
def aR0 (B : Nat) : ByteArray := supR (idealK B) newV (lawSp 48 0)
def aS1 (B : Nat) : VS := supP (idealK B) newV (lawSp 48 0)
def aP1 (B : Nat) : PS := folP [[⟨1 - 0, fillS 0 512⟩, ⟨2, fillS 0 512⟩], [⟨0, aR0 B⟩]] (newP 784)
def aW : List Wt := wrsL [aB]
def aS2 (B : Nat) : VS := proP (idealK B) (aS1 B) aW (lawSp 48 1)
def aRp (B : Nat) : ByteArray := proR (idealK B) (aS1 B) aW (lawSp 48 1)
def aS3 (B : Nat) : VS := supP (idealK B) (aS2 B) (lawSp 48 1)
def aR1 (B : Nat) : ByteArray := supR (idealK B) (aS2 B) (lawSp 48 1)
def aP2 (B : Nat) : PS := folP [recsL 3 0 aW, [⟨2, aRp B⟩], aW, [⟨1, aR1 B⟩]] (aP1 B)
theorem law_err (ep : Int) (h : ep = 0 ∨ ep = 1) : (lawSp 48 ep).err = 0 ∧ (lawSp 48 ep).hd.err = 0 ∧ (lawSp 48 ep).hdC.err = 0 := by
  have hf : (lawSp 48 ep).root.size = 32 := fillS_size 3 32
  rcases h with rfl | rfl
  all_goals
    refine ⟨?_, by decide, by decide⟩
    unfold Sp.err superE
    rw [if_pos hf]
    decide
theorem aW_eq : aW = [⟨40, aB.wt.raw⟩] := rfl
theorem aW_raw : aB.wt.raw.size = 512 := aB.raw_size
theorem aS_room (B : Nat) : (aS1 B).texts.length + 10 ≤ 100 ∧ (aS1 B).seals.length + 10 ≤ 100 ∧ (aS2 B).texts.length + 5 ≤ 100 ∧ (aS2 B).seals.length + 5 ≤ 100 ∧ (aS3 B).texts.length + 2 ≤ 100 ∧ (aS3 B).seals.length + 2 ≤ 100 := by
  obtain ⟨e0, h0, c0⟩ := law_err 0 (.inl rfl)
  obtain ⟨e1, h1, c1⟩ := law_err 1 (.inr rfl)
  obtain ⟨_, _, x1⟩ := sup_sealed B newV e0 h0
  have l1 := ideal_len newV (lawSp 48 0).hd (lawSp 48 0).txt
  rw [← x1] at l1
  have n0 : newV.texts.length = 0 := rfl
  have n1 : newV.seals.length = 0 := rfl
  have q1 : (aS1 B).texts.length = newV.texts.length := l1.1
  have q2 : (aS1 B).seals.length ≤ newV.seals.length + 1 := l1.2
  have hr : (idealK B).room (aS1 B) 1 := by
    show (aS1 B).texts.length + 1 ≤ 1000000 ∧ (aS1 B).seals.length + 1 ≤ 1000000
    omega
  obtain ⟨_, _, x2⟩ := pro_sealed B (aS1 B) (l := aW) hr (by rw [aW_eq]; decide) e1 c1
  have l2 := ideal_len (hashP (aS1 B) (joinB aW)) (lawSp 48 1).hdC (proT (idealK B) (aS1 B) aW (lawSp 48 1))
  rw [← x2] at l2
  have t2 : (hashP (aS1 B) (joinB aW)).texts.length ≤ (aS1 B).texts.length + 1 := by
    show (addN (aS1 B).texts (joinB aW)).length ≤ _
    exact addN_length (aS1 B).texts (joinB aW)
  have t3 : (hashP (aS1 B) (joinB aW)).seals.length = (aS1 B).seals.length := rfl
  have q3 : (aS2 B).texts.length = (hashP (aS1 B) (joinB aW)).texts.length := l2.1
  have q4 : (aS2 B).seals.length ≤ (hashP (aS1 B) (joinB aW)).seals.length + 1 := l2.2
  obtain ⟨_, _, x3⟩ := sup_sealed B (aS2 B) e1 h1
  have l3 := ideal_len (aS2 B) (lawSp 48 1).hd (lawSp 48 1).txt
  rw [← x3] at l3
  have q5 : (aS3 B).texts.length = (aS2 B).texts.length := l3.1
  have q6 : (aS3 B).seals.length ≤ (aS2 B).seals.length + 1 := l3.2
  omega
theorem aS_sealed (B : Nat) : Sealed (aS3 B) (lawSp 48 0).hd (lawSp 48 0).txt (aR0 B) ∧ Sealed (aS3 B) (lawSp 48 1).hd (lawSp 48 1).txt (aR1 B) ∧ Sealed (aS3 B) (lawSp 48 1).hdC (proT (idealK B) (aS1 B) aW (lawSp 48 1)) (aRp B) := by
  obtain ⟨e0, h0, c0⟩ := law_err 0 (.inl rfl)
  obtain ⟨e1, h1, c1⟩ := law_err 1 (.inr rfl)
  have hro := aS_room B
  have hr : (idealK B).room (aS1 B) 1 := by
    show (aS1 B).texts.length + 1 ≤ 1000000 ∧ (aS1 B).seals.length + 1 ≤ 1000000
    omega
  obtain ⟨_, s1, x1⟩ := sup_sealed B newV e0 h0
  obtain ⟨_, s2, x2⟩ := pro_sealed B (aS1 B) (l := aW) hr (by rw [aW_eq]; decide) e1 c1
  obtain ⟨_, s3, x3⟩ := sup_sealed B (aS2 B) e1 h1
  have y2 : aS2 B = bsealP (hashP (aS1 B) (joinB aW)) (lawSp 48 1).hdC (proT (idealK B) (aS1 B) aW (lawSp 48 1)) := x2
  have y3 : aS3 B = bsealP (aS2 B) (lawSp 48 1).hd (lawSp 48 1).txt := x3
  have z1 : Sealed (aS1 B) (lawSp 48 0).hd (lawSp 48 0).txt (aR0 B) := s1
  have z2 : Sealed (aS2 B) (lawSp 48 1).hdC (proT (idealK B) (aS1 B) aW (lawSp 48 1)) (aRp B) := s2
  refine ⟨?_, s3, ?_⟩
  · rw [y3]
    refine Sealed.add ?_ _ _
    rw [y2]
    exact (z1.hash _).add _ _
  · rw [y3]
    exact z2.add _ _
theorem aP1_fine (B : Nat) : folE [[⟨1 - 0, fillS 0 512⟩, ⟨2, fillS 0 512⟩], [⟨0, aR0 B⟩]] (newP 784) = 0 ∧ Fine (aP1 B) 784 ∧ (aP1 B).wait = [] ∧ Seen (aP1 B) 0 (aR0 B) := by
  obtain ⟨s0, _, _⟩ := aS_sealed B
  have hro := aS_room B
  have hz := s0.size (by omega)
  have hf : Fine (newP 784) 784 := ⟨rfl, rfl, by show (List.replicate 784 (fillS 0 64)).length = 784; rw [List.length_replicate]⟩
  obtain ⟨h1, h2, h3, h4⟩ := fol_fine [[⟨1 - 0, fillS 0 512⟩, ⟨2, fillS 0 512⟩], [⟨0, aR0 B⟩]] hf rfl (by
    intro l hl x hx
    simp only [List.mem_cons, List.not_mem_nil, or_false] at hl
    rcases hl with rfl | rfl
    · simp only [List.mem_cons, List.not_mem_nil, or_false] at hx
      rcases hx with rfl | rfl
      · exact ⟨⟨1, rfl, by decide⟩, fillS_size _ _⟩
      · exact ⟨⟨2, rfl, by decide⟩, fillS_size _ _⟩
    · simp only [List.mem_cons, List.not_mem_nil, or_false] at hx
      subst hx
      exact fit_of (a := 0) (by decide) hz)
  exact ⟨h1, h2, h3, h4 0 _ (by
    show SeenL [⟨1 - 0, fillS 0 512⟩, ⟨2, fillS 0 512⟩, ⟨0, aR0 B⟩] _ _ _
    unfold SeenL
    simp [lastW])⟩
theorem aP2_fine (B : Nat) : folE [recsL 3 0 aW, [⟨2, aRp B⟩], aW, [⟨1, aR1 B⟩]] (aP1 B) = 0 ∧ Fine (aP2 B) 784 ∧ Seen (aP2 B) 0 (aR0 B) ∧ Seen (aP2 B) 1 (aR1 B) ∧ Seen (aP2 B) 2 (aRp B) ∧ Seen (aP2 B) 3 aB.wt.raw := by
  obtain ⟨s0, s1, s2⟩ := aS_sealed B
  have hro := aS_room B
  have z1 := s1.size (by omega)
  have z2 := s2.size (by omega)
  obtain ⟨_, hf, hw, hs⟩ := aP1_fine B
  have er : recsL 3 0 aW = [⟨3, aB.wt.raw⟩] := rfl
  obtain ⟨h1, h2, h3, h4⟩ := fol_fine [recsL 3 0 aW, [⟨2, aRp B⟩], aW, [⟨1, aR1 B⟩]] hf hw (by
    intro l hl x hx
    rw [er, aW_eq] at hl
    simp only [List.mem_cons, List.not_mem_nil, or_false] at hl
    rcases hl with rfl | rfl | rfl | rfl
    · simp only [List.mem_cons, List.not_mem_nil, or_false] at hx
      subst hx
      exact fit_of (a := 3) (by decide) aW_raw
    · simp only [List.mem_cons, List.not_mem_nil, or_false] at hx
      subst hx
      exact fit_of (a := 2) (by decide) z2
    · simp only [List.mem_cons, List.not_mem_nil, or_false] at hx
      subst hx
      exact fit_of (a := 40) (by decide) aW_raw
    · simp only [List.mem_cons, List.not_mem_nil, or_false] at hx
      subst hx
      exact fit_of (a := 1) (by decide) z1)
  have ef : ([recsL 3 0 aW, [⟨2, aRp B⟩], aW, [⟨1, aR1 B⟩]] : List (List Wt)).flatten = [⟨3, aB.wt.raw⟩, ⟨2, aRp B⟩, ⟨40, aB.wt.raw⟩, ⟨1, aR1 B⟩] := by
    rw [er, aW_eq]
    simp
  rw [ef] at h4
  refine ⟨h1, h2, h4 0 _ ?_, h4 1 _ ?_, h4 2 _ ?_, h4 3 _ ?_⟩
  · unfold SeenL
    simp [lastW]
    exact hs
  · unfold SeenL
    simp [lastW]
  · unfold SeenL
    simp [lastW]
  · unfold SeenL
    simp [lastW]
theorem aP2_wait (B : Nat) : (aP2 B).wait = [] := by
  obtain ⟨s0, s1, s2⟩ := aS_sealed B
  have hro := aS_room B
  have z1 := s1.size (by omega)
  have z2 := s2.size (by omega)
  obtain ⟨_, hf, hw, hs⟩ := aP1_fine B
  have er : recsL 3 0 aW = [⟨3, aB.wt.raw⟩] := rfl
  obtain ⟨_, _, h3, _⟩ := fol_fine [recsL 3 0 aW, [⟨2, aRp B⟩], aW, [⟨1, aR1 B⟩]] hf hw (by
    intro l hl x hx
    rw [er, aW_eq] at hl
    simp only [List.mem_cons, List.not_mem_nil, or_false] at hl
    rcases hl with rfl | rfl | rfl | rfl
    · simp only [List.mem_cons, List.not_mem_nil, or_false] at hx
      subst hx
      exact fit_of (a := 3) (by decide) aW_raw
    · simp only [List.mem_cons, List.not_mem_nil, or_false] at hx
      subst hx
      exact fit_of (a := 2) (by decide) z2
    · simp only [List.mem_cons, List.not_mem_nil, or_false] at hx
      subst hx
      exact fit_of (a := 40) (by decide) aW_raw
    · simp only [List.mem_cons, List.not_mem_nil, or_false] at hx
      subst hx
      exact fit_of (a := 1) (by decide) z1)
  exact h3
theorem aP_len (B : Nat) : (aP2 B).kept.length = 784 ∧ (aP2 B).up = true := ⟨(aP2_fine B).2.1.len, (aP2_fine B).2.1.up⟩
/-- What Recover reads. -/
def aRg0 : Rg := ⟨true, (lawSp 48 0).hd, (lawSp 48 0).txt⟩
def aRg1 : Rg := ⟨true, (lawSp 48 1).hd, (lawSp 48 1).txt⟩
theorem aLoad0 (B : Nat) : loadR (idealK B) (aP2 B) (aS3 B) 0 = aRg0 := by
  obtain ⟨_, hf, h0, _, _, _⟩ := aP2_fine B
  obtain ⟨s0, _, _⟩ := aS_sealed B
  have hro := aS_room B
  exact load_seen B (a := 0) hf h0 s0 (by omega) rfl
theorem aCho : chO [aRg0, aRg1] 48 = some (lawSp 48 1) := by
  have h := cho_two (law_err 0 (.inl rfl)).1 (law_err 1 (.inr rfl)).1 rfl rfl rfl
  rw [if_pos (by decide)] at h
  exact h
/-- The device behind Recover's two readings. -/
structure AwR (B : Nat) (P1 P2 : PS) (raws : List ByteArray) (masks : List Int) : Prop where
  e1 : (bget (aP2 B) 0).2 = P1
  e2 : (bget P1 1).2 = P2
  er : rawsTo P2 (P2.kept.length / 8) = raws
  em : masksTo P2 (P2.kept.length / 8) = masks
theorem AwR.a1 {B : Nat} {P1 P2 : PS} {raws : List ByteArray} {masks : List Int} (h : AwR B P1 P2 raws masks) : Alike (aP2 B) P1 := by
  have q := jbget_alike (aP2 B) 0
  rw [h.e1] at q
  exact q
theorem AwR.a2 {B : Nat} {P1 P2 : PS} {raws : List ByteArray} {masks : List Int} (h : AwR B P1 P2 raws masks) : Alike (aP2 B) P2 := by
  have q := jbget_alike P1 1
  rw [h.e2] at q
  exact h.a1.trans q
theorem aLoad1 (B : Nat) {P1 P2 : PS} {raws : List ByteArray} {masks : List Int} (H : AwR B P1 P2 raws masks) : loadR (idealK B) P1 (aS3 B) 1 = aRg1 := by
  obtain ⟨_, hf, _, h1, _, _⟩ := aP2_fine B
  obtain ⟨_, s1, _⟩ := aS_sealed B
  have hro := aS_room B
  exact load_seen B (a := 1) (hf.alike H.a1) (h1.alike H.a1) s1 (by omega) rfl
theorem aLook (B : Nat) {P1 P2 : PS} {raws : List ByteArray} {masks : List Int} (H : AwR B P1 P2 raws masks) : lookR (idealK B) (aS3 B) raws masks 2 = ⟨true, (lawSp 48 1).hdC, proT (idealK B) (aS1 B) aW (lawSp 48 1)⟩ := by
  obtain ⟨_, hf, _, _, h2, _⟩ := aP2_fine B
  obtain ⟨_, _, s2⟩ := aS_sealed B
  have hro := aS_room B
  have q := look_seen B (a := 2) (hf.alike H.a2) (h2.alike H.a2) s2 (by omega) rfl
  rw [H.er, H.em] at q
  exact q
theorem aPi (B : Nat) {P1 P2 : PS} {raws : List ByteArray} {masks : List Int} (H : AwR B P1 P2 raws masks) : piN (lookR (idealK B) (aS3 B) raws masks 2) 48 = 1 ∧ piS (lookR (idealK B) (aS3 B) raws masks 2) 48 = lawSp 48 1 := by
  have hro := aS_room B
  have hr : (idealK B).room (aS1 B) 1 := by
    show (aS1 B).texts.length + 1 ≤ 1000000 ∧ (aS1 B).seals.length + 1 ≤ 1000000
    omega
  obtain ⟨_, h2, h3⟩ := pro_pi (idealOk B) (S := aS1 B) (l := aW) (s := lawSp 48 1) hr (by rw [aW_eq]; decide) (law_err 1 (.inr rfl)).1
  rw [aLook B H]
  exact ⟨h2, h3⟩
theorem aHd : aB.hd.err = 0 := by decide
theorem aTog (B : Nat) {P1 P2 : PS} {raws : List ByteArray} {masks : List Int} (H : AwR B P1 P2 raws masks) : togB 27 48 (fnW (idealK B) (aS3 B) raws masks 48) = true := by
  obtain ⟨_, hf, _, _, _, h3⟩ := aP2_fine B
  obtain ⟨a1, a2⟩ := seen_at (a := 3) (hf.alike H.a2) (h3.alike H.a2) aW_raw
  rw [H.er, H.em] at a1
  have e1 : atS raws masks 3 = aB.wt.raw := a1
  have er : fnW (idealK B) (aS3 B) raws masks 48 = [rcdW raws masks 3 0] := by
    unfold fnW
    rw [(aPi B H).1]
    rfl
  have ew : rcdW raws masks 3 0 = ⟨40, aB.wt.raw⟩ := by
    have e2 : atS raws masks (3 + ((0 : Nat) : Int)) = aB.wt.raw := e1
    unfold rcdW
    rw [e2]
    have e3 : aB.wt.raw.extract 0 48 = aB.hd.txt := by
      have e4 : aB.wt.raw = aB.hd.txt ++ fillS 1 464 := by
        show aB.first ++ fillS 1 464 = _
        rw [show aB.first = aB.hd.txt from if_pos ⟨aHd, rfl⟩]
      rw [e4]
      exact (ba_cut (hd_size aHd)).1
    rw [e3, hd_reads aHd]
    rfl
  rw [er, ew]
  have e3 : aB.wt.raw.extract 0 48 = aB.hd.txt := by
    have e4 : aB.wt.raw = aB.hd.txt ++ fillS 1 464 := by
      show aB.first ++ fillS 1 464 = _
      rw [show aB.first = aB.hd.txt from if_pos ⟨aHd, rfl⟩]
    rw [e4]
    exact (ba_cut (hd_size aHd)).1
  have hd : hdB ⟨40, aB.wt.raw⟩ = true := by
    unfold hdB
    refine decide_eq_true ⟨aW_raw, ?_, ?_⟩
    · show headE (aB.wt.raw.extract 0 48) = 0
      rw [e3]
      exact hd_headE aHd
    · show (hdOf (aB.wt.raw.extract 0 48)).v1 = 40
      rw [e3, hd_reads aHd]
      rfl
  unfold togB
  rw [hd]
  rfl
theorem aTogW : togB 27 48 aW = true := by
  have e3 : aB.wt.raw.extract 0 48 = aB.hd.txt := by
    have e4 : aB.wt.raw = aB.hd.txt ++ fillS 1 464 := by
      show aB.first ++ fillS 1 464 = _
      rw [show aB.first = aB.hd.txt from if_pos ⟨aHd, rfl⟩]
    rw [e4]
    exact (ba_cut (hd_size aHd)).1
  have hd : hdB ⟨40, aB.wt.raw⟩ = true := by
    unfold hdB
    refine decide_eq_true ⟨aW_raw, ?_, ?_⟩
    · show headE (aB.wt.raw.extract 0 48) = 0
      rw [e3]
      exact hd_headE aHd
    · show (hdOf (aB.wt.raw.extract 0 48)).v1 = 40
      rw [e3, hd_reads aHd]
      rfl
  rw [aW_eq]
  unfold togB
  rw [hd]
  rfl
theorem aFn (B : Nat) {P1 P2 : PS} {raws : List ByteArray} {masks : List Int} (H : AwR B P1 P2 raws masks) (h : fnOk (idealK B) (aS3 B) raws masks 48 = true) : (fnS (idealK B) (aS3 B) raws masks 48).ep = 1 := by
  unfold fnS
  rw [if_pos h, (aPi B H).2]
  rfl
theorem a784 : loE 784 = 0 ∧ loN 784 = 48 ∧ loA 784 = layA 48 (layQ 48) (layS 48) (layT 48) := by
  have h : liveO 784 = some 48 := by
    have := liveO_of (n := 48) (by decide) (by decide)
    rw [show totI 48 * 8 = 784 by decide] at this
    exact this
  unfold loE loN loA
  rw [h]
  exact ⟨rfl, rfl, rfl⟩
end Go.Proofs.YtoopaigpjefonaaGreatDoor

namespace Go.Proofs.YtoopaigpjefonaaGreatDoor
set_option maxRecDepth 20000
open Go.RowKit

theorem sonS_up (K : VK) (P : PS) (S : K.σ) (s : Sp) (h : P.up = true) : sonS K P S s = supP K S s := if_pos h
theorem blks_one (w : World) (g : Nat) (t cap : Nat) (hg : g = w.heap.size) : Blks (w.alloc (.cells #[.int .i64 40, .int .u8 1, .bool false] t)) (.slice (some ⟨g, 0, none⟩) 1 cap) [aB] := by
  subst hg
  have g := heap_alloc_new w (.cells #[.int .i64 40, .int .u8 1, .bool false] t)
  refine .inr ⟨w.heap.size, 0, cap, rfl, by simp, fun i x hx => ?_⟩
  have hi : i = 0 := by have := (List.getElem?_eq_some_iff.1 hx).1; simp at this; omega
  subst hi
  cases hx
  exact ⟨cell_of_row _ _ 0 _ _ _ g, cell_of_row _ _ 1 _ _ _ g, cell_of_row _ _ 2 _ _ _ g⟩
theorem awk_fmt (F : Nat → Prop) (B V : Nat) (w : World) (h : Duo (idealK V) w F B (newP 784) newV) (hg : ErrT w) (hF : ¬ F 3) :
    Calls Tryz.prog 9 #[.pointer (some ⟨B, 0, none⟩), .pointer (some ⟨V, 0, none⟩), .agg (lawSp 48 0).arr] w fun e w' => e = .returned (.int .i64 0) ∧ Duo (idealK V) w' (grow F w w') B (aP1 V) (aS1 V) ∧ Touch F w w' := by
  obtain ⟨e0, h0, _⟩ := law_err 0 (.inl rfl)
  obtain ⟨x0, _, _⟩ := sup_sealed V newV e0 h0
  have hup : (newP 784).up = true := rfl
  have hl : (newP 784).kept.length = 784 := by show (List.replicate 784 (fillS 0 64)).length = 784; rw [List.length_replicate]
  have hE : sonE (newP 784) (lawSp 48 0) = 0 := by unfold sonE; rw [if_pos hup]; exact x0
  have hA : sonA (newP 784) (lawSp 48 0) = 0 := by unfold sonA; rw [if_pos hup]; unfold supA; rw [if_pos x0]; rfl
  have hR : sonR (idealK V) (newP 784) newV (lawSp 48 0) = aR0 V := by unfold sonR; rw [if_pos hup]; rfl
  have hS : sonS (idealK V) (newP 784) newV (lawSp 48 0) = aS1 V := sonS_up (idealK V) _ _ _ hup
  have hroom : (idealK V).room newV 1 := by show (0 : Nat) + 1 ≤ 1000000 ∧ (0 : Nat) + 1 ≤ 1000000; omega
  have q := format_in (idealK V) (idealOk V) F B (newP 784) newV (lawSp 48 0) w 0 (aR0 V) h hroom (by show (0 : Nat) ≤ 100000; omega) hg hF (by rw [hl]; exact ⟨a784.1, a784.2.1⟩) e0 hE hA ⟨by decide, by decide⟩ hR
  rw [hS, (aP1_fine V).1] at q
  exact q
theorem awk_com (F : Nat → Prop) (B V : Nat) (oa : Option Addr) (ca : Nat) (w : World) (h : Duo (idealK V) w F B (aP1 V) (aS1 V)) (hg : ErrT w) (hF : ¬ F 3) (hv : WtO F w (.slice oa aW.length ca) aW) :
    Calls Tryz.prog 22 #[.pointer (some ⟨B, 0, none⟩), .pointer (some ⟨V, 0, none⟩), .slice oa aW.length ca, .agg (lawSp 48 1).arr] w fun e w' => e = .returned (.int .i64 0) ∧ Duo (idealK V) w' (grow F w w') B (aP2 V) (aS3 V) ∧ Touch F w w' := by
  obtain ⟨e1, h1, c1⟩ := law_err 1 (.inr rfl)
  have hro := aS_room V
  have hr1 : (idealK V).room (aS1 V) 2 := by
    show (aS1 V).texts.length + 2 ≤ 1000000 ∧ (aS1 V).seals.length + 2 ≤ 1000000
    omega
  have hr2 : (idealK V).room (aS2 V) 1 := by
    show (aS2 V).texts.length + 1 ≤ 1000000 ∧ (aS2 V).seals.length + 1 ≤ 1000000
    omega
  have hwl : aW.length ≤ 24 := by rw [aW_eq]; decide
  have hsz : ∀ x ∈ aW, x.raw.size ≤ 512 := by
    intro x hx
    rw [aW_eq, List.mem_singleton] at hx
    subst hx
    exact Nat.le_of_eq aW_raw
  obtain ⟨p0, _, _⟩ := pro_sealed V (aS1 V) (l := aW) ((idealOk V).less hr1 (by decide)) hwl e1 c1
  obtain ⟨x0, _, _⟩ := sup_sealed V (aS2 V) e1 h1
  have hpA : proA (idealK V) (aS1 V) aW (lawSp 48 1) = 2 := by unfold proA; rw [if_pos p0]
  have hsA : supA (lawSp 48 1) = 1 := by unfold supA; rw [if_pos x0]; rfl
  obtain ⟨hf, hfi, hwt, _⟩ := aP1_fine V
  have hl : (aP1 V).kept.length = 784 := hfi.len
  have q := commit_in (idealK V) (idealOk V) F B (aP1 V) (aS1 V) 7 1 5 (fillS 3 32) 48 (layQ 48) (layS 48) (layT 48) oa ca aW w 2 1 (aRp V) (aR1 V) (aS2 V) (aS3 V) h (by rw [hwt]; decide) hg hF hv hwl (by decide) hfi.up aTogW (fun W hW => by
      have q := layoutOf_any (.pointer (some ⟨B, 0, none⟩)) ((aP1 V).kept.length : Nat) W fun W2 h2 => ((h.below (idealOk V) hW).below (idealOk V) h2).sectors
      rw [hl] at q
      have e784 : (((784 : Nat) : Int)) = 784 := rfl
      rw [e784, a784.1, a784.2.2] at q
      exact q) (fun W hW => by
      have q := unseal_duo (idealK V) (idealOk V) F B (aP1 V) (aS1 V) (lawSp 48 1) W (h.below (idealOk V) hW) ((idealOk V).less hr1 (by decide))
      rw [e1] at q
      exact q) (fun W hd hW => by
      have q := promise_duo (idealK V) (idealOk V) F B (aP1 V) (aS1 V) (lawSp 48 1) oa ca aW W hd hr1 hW hwl hsz
      rw [hpA, p0] at q
      exact q) (fun W hd => by
      have q := super_duo (idealK V) (idealOk V) F B (aP1 V) (aS2 V) (lawSp 48 1) W hd hr2
      rw [hsA, x0] at q
      exact q)
  rw [(aP2_fine V).1] at q
  exact q
theorem awk_rcv (F : Nat → Prop) (B V : Nat) (w : World) (h : Duo (idealK V) w F B (aP2 V) (aS3 V)) (hg : ErrT w) (hF : ¬ F 3) (hw : (aP2 V).wait.length ≤ 1000000) :
    Calls Tryz.prog 24 #[.pointer (some ⟨B, 0, none⟩), .pointer (some ⟨V, 0, none⟩)] w fun e w' => e = .returned (.tuple #[.agg (lawSp 48 1).arr, .int .i64 0, .int .i64 0]) ∧ Touch F w w' := by
  obtain ⟨P1, e1⟩ : ∃ P1, (bget (aP2 V) 0).2 = P1 := ⟨_, rfl⟩
  obtain ⟨P2, e2⟩ : ∃ P2, (bget P1 1).2 = P2 := ⟨_, rfl⟩
  obtain ⟨raws, er⟩ : ∃ l, rawsTo P2 (P2.kept.length / 8) = l := ⟨_, rfl⟩
  obtain ⟨masks, em⟩ : ∃ l, masksTo P2 (P2.kept.length / 8) = l := ⟨_, rfl⟩
  have H : AwR V P1 P2 raws masks := ⟨e1, e2, er, em⟩
  have hro := aS_room V
  have hr : (idealK V).room (aS3 V) 1 := by
    show (aS3 V).texts.length + 1 ≤ 1000000 ∧ (aS3 V).seals.length + 1 ≤ 1000000
    omega
  have hl := aP_len V
  have e784 : (((784 : Nat) : Int)) = 784 := rfl
  have q := recover_duo (idealK V) (idealOk V) F B (aP2 V) (aS3 V) aRg0 aRg1 (lawSp 48 1) P1 P2 48 raws masks w h hg hF hw hr (ideal_oSize V (aS3 V) (by omega)) (by decide) hl.2 (by rw [hl.1, e784]; exact ⟨a784.1, a784.2.2⟩) e1 e2 (aLoad0 V) (aLoad1 V H) aCho er em (fun _ _ => aTog V H) (fun hy => by
    have q := aFn V H hy
    have q2 : (fnS (idealK V) (aS3 V) raws masks ((48 : Nat) : Int)).ep = 1 := q
    rw [q2]
    show ¬ (1 : Int) = wrap64 (1 + 1)
    unfold wrap64
    omega)
  exact q.mono fun e w' ⟨a, _, c⟩ => ⟨a, c⟩
set_option maxHeartbeats 4000000 in
theorem jawake_any (w : World) (hg : ErrT w) : Calls Tryz.prog 7 #[] w fun e w' => e = .returned (.bool true) ∧ Below w.heap.size w w' := by
  have hn : ∀ W, Calls Tryz.prog 15 #[.int .i64 784] W fun e w' => ∃ B, e = .returned (.tuple #[.pointer (some ⟨B, 0, none⟩), .int .i64 0]) ∧ Plate w' (fun k => W.heap.size ≤ k ∧ k < w'.heap.size) B (newP 784) ∧ Below W.heap.size W w' := fun W => new_any 784 (by decide) W
  have hs0 := fun W => jlsup_any 48 0 W
  have hs1 := fun W => jlsup_any 48 1 W
  have HG : Hid (ErrT w) := hg
  clear hg
  go_enter Tryz.func7, Tryz.ntmps7
  go_wp2_with fail
  refine (jsectors_any _).mono ?_
  rintro e w1 ⟨rfl, hb1⟩
  have HB1 : Hid (Below w.heap.size w w1) := hb1
  clear hb1
  go_wp2_with fail
  refine (hn _).mono ?_
  rintro e w2 ⟨B, rfl, hp2, hb2⟩
  have HB2 : Hid (Plate w2 (fun k => w1.heap.size ≤ k ∧ k < w2.heap.size) B (newP 784) ∧ Below w1.heap.size w1 w2) := ⟨hp2, hb2⟩
  clear hn hp2 hb2
  go_wp2_with fail
  refine (ideal_any _).mono ?_
  rintro e w3 ⟨V, rfl, hv3, hb3⟩
  have hD : ∃ F : Nat → Prop, Duo (idealK V) w3 F B (newP 784) newV ∧ (∀ k, F k → w.heap.size ≤ k) := by
    refine ⟨fun k => w1.heap.size ≤ k ∧ k < w3.heap.size, ⟨_, _, HB2.out.1.below hb3, hv3, ?_, ?_, ?_, ?_⟩, ?_⟩
    · intro k h1 h2
      exact absurd h1.2 (by have := h2.1; omega)
    · exact fun k hk => ⟨hk.1, Nat.lt_of_lt_of_le hk.2 hb3.size⟩
    · exact fun k hk => ⟨Nat.le_trans HB2.out.2.size hk.1, hk.2⟩
    · exact fun k hk => hk.2
    · exact fun k hk => Nat.le_trans HB1.out.size hk.1
  obtain ⟨F, hD, hFl⟩ := hD
  have hbw3 : Below w.heap.size w w3 := (HB1.out.trans (HB2.out.2.mono HB1.out.size)).trans (hb3.mono (Nat.le_trans HB1.out.size HB2.out.2.size))
  have hFe : ¬ F 3 := fun h => by have q := hFl _ h; have q2 := lt_of_cell_ HG.out; omega
  have HD : Hid (Duo (idealK V) w3 F B (newP 784) newV ∧ (∀ k, F k → w.heap.size ≤ k) ∧ Below w.heap.size w w3 ∧ ErrT w3 ∧ ¬ F 3) := ⟨hD, hFl, hbw3, HG.out.below hbw3 (lt_of_cell_ HG.out), hFe⟩
  clear HB1 HB2 hv3 hb3 hD hFl hbw3 hFe
  go_wp2_with fail
  refine (hs0 _).mono ?_
  rintro e w4 ⟨rfl, hb4⟩
  have hd4 := HD.out.1.below (idealOk V) hb4
  have hg4 : ErrT w4 := HD.out.2.2.2.1.bel hb4
  have h5 := awk_fmt F B V w4 hd4 hg4 HD.out.2.2.2.2
  have HB4 : Hid (ErrT w4 ∧ Below w.heap.size w w4) := ⟨hg4, HD.out.2.2.1.trans (hb4.mono HD.out.2.2.1.size)⟩
  clear hs0 hb4 hd4 hg4
  go_wp2_with fail
  refine h5.mono ?_
  rintro e w5 ⟨rfl, hd5, ht5⟩
  have hF5 : ∀ k, grow F w4 w5 k → w.heap.size ≤ k := fun k hk => by
    rcases hk with hk | hk
    · exact HD.out.2.1 k hk
    · exact Nat.le_trans HB4.out.2.size hk.1
  have hb5 : Below w.heap.size w w5 := HB4.out.2.trans (ht5.below HB4.out.2.size HD.out.2.1)
  have hg5 : ErrT w5 := HB4.out.1.touch ht5 HD.out.2.2.2.2
  have hE5 : ¬ grow F w4 w5 3 := fun hk => by
    rcases hk with hk | hk
    · exact HD.out.2.2.2.2 hk
    · have q := lt_of_cell_ HB4.out.1; have q2 := hk.1; omega
  generalize grow F w4 w5 = F2 at *
  have HD5 : Hid (Duo (idealK V) w5 F2 B (aP1 V) (aS1 V) ∧ (∀ k, F2 k → w.heap.size ≤ k) ∧ Below w.heap.size w w5 ∧ ErrT w5 ∧ ¬ F2 3) := ⟨hd5, hF5, hb5, hg5, hE5⟩
  have hlt5 := hd5.lt
  have hw := fun g cap (hgg : g = w5.heap.size) => writes_l_any _ [aB] (w5.alloc (.cells #[.int .i64 40, .int .u8 1, .bool false] 60)) (blks_one w5 g _ cap hgg) (fun x hx => by rw [List.mem_singleton] at hx; subst hx; exact ⟨⟨1, rfl⟩, by decide⟩) (by decide)
  clear h5 hd5 ht5 hF5 hb5 hg5 hE5 HD HB4
  go_wp2_with fail
  refine (hw _ _ (by simp)).mono ?_
  rintro e w6 ⟨v', rfl, hwz, hb6⟩
  obtain ⟨oz, cz, rfl⟩ := hwz.form
  have hb56 : Below w5.heap.size w5 w6 := (bel_alloc w5 _).trans (hb6.mono (by simp))
  have HW6 : Hid (Wts w6 (.slice oz (wrsL [aB]).length cz) (wrsL [aB]) ∧ (∀ g o len cap, (.slice oz (wrsL [aB]).length cz : Value) = .slice (some ⟨g, o, none⟩) len cap → w5.heap.size ≤ g) ∧ Below w5.heap.size w5 w6) := ⟨hwz.wts.1, fun g o len cap e => by have q := (hwz.wts.2 g o len cap e).1; simp at q; omega, hb56⟩
  clear hw hwz hb6 hb56
  go_wp2_with fail
  refine (hs1 _).mono ?_
  rintro e w7 ⟨rfl, hb7⟩
  have hb57 : Below w5.heap.size w5 w7 := HW6.out.2.2.trans (hb7.mono HW6.out.2.2.size)
  have hd7 := HD5.out.1.below (idealOk V) hb57
  have hg7 : ErrT w7 := HD5.out.2.2.2.1.bel hb57
  have h8 := awk_com F2 B V oz cz w7 hd7 hg7 HD5.out.2.2.2.2 ⟨HW6.out.1.below hb7, fun _ g o len cap e hk => by have q := HW6.out.2.1 g o len cap e; have q2 := HD5.out.1.lt g hk; omega⟩
  have HB7 : Hid (ErrT w7 ∧ Below w.heap.size w w7) := ⟨hg7, HD5.out.2.2.1.trans (hb57.mono HD5.out.2.2.1.size)⟩
  clear hs1 hb7 hb57 hd7 hg7 hlt5
  go_wp2_with fail
  refine h8.mono ?_
  rintro e w8 ⟨rfl, hd8, ht8⟩
  have hF8 : ∀ k, grow F2 w7 w8 k → w.heap.size ≤ k := fun k hk => by
    rcases hk with hk | hk
    · exact HD5.out.2.1 k hk
    · exact Nat.le_trans HB7.out.2.size hk.1
  have hb8 : Below w.heap.size w w8 := HB7.out.2.trans (ht8.below HB7.out.2.size HD5.out.2.1)
  have hg8 : ErrT w8 := HB7.out.1.touch ht8 HD5.out.2.2.2.2
  have hE8 : ¬ grow F2 w7 w8 3 := fun hk => by
    rcases hk with hk | hk
    · exact HD5.out.2.2.2.2 hk
    · have q := lt_of_cell_ HB7.out.1; have q2 := hk.1; omega
  have h9 := awk_rcv _ B V w8 hd8 hg8 hE8 (by rw [aP2_wait]; decide)
  generalize grow F2 w7 w8 = F3 at *
  have HD8 : Hid ((∀ k, F3 k → w.heap.size ≤ k) ∧ Below w.heap.size w w8) := ⟨hF8, hb8⟩
  simp only [lawSp, Sp.arr] at h9
  clear h8 hd8 ht8 hF8 hb8 hg8 hE8 HB7 HW6 HD5
  go_wp2_with fail
  refine h9.mono ?_
  rintro e w9 ⟨rfl, ht9⟩
  have HF : Hid (Below w.heap.size w w9) := HD8.out.2.trans (ht9.below HD8.out.2.size HD8.out.1)
  clear h9 ht9 HD8
  generalize fillS 3 32 = rt at *
  go_wp2
  go_ret
  exact ⟨rfl, HF.out.alloc HF.out.size _⟩
end Go.Proofs.YtoopaigpjefonaaGreatDoor

namespace Go.Proofs.YtoopaigpjefonaaGreatDoor
set_option maxRecDepth 20000
open Go.ChangeShapes Go.WideShapes Go.RowKit Go.Deep

structure CutT where
  fuse : Int
  kv : Value
  keep : List Bool
instance : Inhabited CutT := ⟨⟨0, .slice none 0 0, []⟩⟩
structure CutAt (W : World) (g o : Nat) (x : CutT) : Prop where
  c0 : W.cell? ⟨g, o, none⟩ = some (.int .i64 x.fuse)
  c1 : W.cell? ⟨g, o + 1, none⟩ = some x.kv
  bools : Bools W (fun k => W.heap.size ≤ k) x.kv x.keep
  wf : x.fuse < 9223372036854775808
def Cuts (W : World) (v : Value) (l : List CutT) : Prop := (∃ oa cap, v = .slice oa 0 cap ∧ l = []) ∨ ∃ g o cap, v = .slice (some ⟨g, o, none⟩) l.length cap ∧ g < W.heap.size ∧ ∀ i x, l[i]? = some x → CutAt W g (o + i * 2) x
theorem Cuts.form {W : World} {v : Value} {l : List CutT} (h : Cuts W v l) : ∃ oa cap, v = .slice oa l.length cap := by
  rcases h with ⟨oa, cap, rfl, rfl⟩ | ⟨g, o, cap, rfl, _⟩
  · exact ⟨oa, cap, rfl⟩
  · exact ⟨_, cap, rfl⟩
theorem Cuts.get {W : World} {oa : Option Addr} {cap : Nat} {l : List CutT} (h : Cuts W (.slice oa l.length cap) l) {i : Nat} (hi : i < l.length) : ∃ g o, oa = some ⟨g, o, none⟩ ∧ g < W.heap.size ∧ ∀ j x, l[j]? = some x → CutAt W g (o + j * 2) x := by
  rcases h with ⟨oa', cap', e, rfl⟩ | ⟨g, o, cap', e, hg, hx⟩
  · simp at hi
  · simp only [Value.slice.injEq] at e
    exact ⟨g, o, e.1, hg, hx⟩
theorem CutAt.cells {W W' : World} {g o : Nat} {x : CutT} (h : CutAt W g o x) (k : W'.heap[g]? = W.heap[g]?) : W'.cell? ⟨g, o, none⟩ = some (.int .i64 x.fuse) ∧ W'.cell? ⟨g, o + 1, none⟩ = some x.kv := ⟨(World.cell?_of_block (a := ⟨g, o, none⟩) k).trans h.c0, (World.cell?_of_block (a := ⟨g, o + 1, none⟩) k).trans h.c1⟩
section
variable {H : Type} {enc : TypeId × Value → H} {W : World}
theorem cut_add_plain (b o j : Nat) : (⟨b, o, none⟩ : Addr).add j = ⟨b, o + j, none⟩ := by unfold Addr.add; split <;> simp_all
set_option maxRecDepth 100000 in
theorem cut_of_cells {fuel : Nat} {cs : List Value} {x : DataW H × List MemPlace} (h : DataW.trod enc Tryz.prog W 0 (fun _ => true) true fuel 26 cs = some x) : ∃ (k : Int) (kv : Value) (l : List Bool), cs = [.int .i64 k, kv] ∧ Bools W (fun k => W.heap.size ≤ k) kv l ∧ k < 9223372036854775808 := by
  obtain ⟨xs, n, _, rfl, hl, hlen, hf⟩ := DataW.trod_struct Tryz.underlying26 h
  have h6 : Tryz.prog.cellsOf 26 = 2 := by kernel_rfl
  rw [h6] at hl
  match xs, hlen with
  | [y0, y1], _ =>
  match cs, hl with
  | [d0, d1], _ =>
  have g : ∀ (i t o : Nat) (f : Field) (d : Value) (y : DataW H × List MemPlace), (match Tryz.prog.underlying 26 with | some (.struct fs) => fs[i]? | _ => none) = some f → f.type = t → f.offset = o → Tryz.prog.cellsOf t = 1 → (([d0, d1] : List Value).drop o).take 1 = [d] → ([y0, y1] : List (DataW H × List MemPlace))[i]? = some y → DataW.trod enc Tryz.prog W 0 (fun _ => true) true n t [d] = some y := fun i t o f d y h0 h1 h2 h3 h4 h5 => by
    rw [Tryz.underlying26] at h0
    have := hf i f h0
    rw [h1, h2, h3, h4, h5] at this
    exact this
  have f0 := g 0 3 0 _ d0 y0 (by rw [Tryz.underlying26]; rfl) rfl rfl (by kernel_rfl) rfl rfl
  have f1 := g 1 24 1 _ d1 y1 (by rw [Tryz.underlying26]; rfl) rfl rfl (by kernel_rfl) rfl rfl
  obtain ⟨a0, h0', _, w0⟩ := DataW.trod_int Tryz.underlying3 f0
  obtain ⟨kv, l, h1', hb⟩ := bools_of_cells f1
  simp only [List.cons.injEq, and_true] at h0' h1'
  subst h0' h1'
  refine ⟨a0, d1, l, rfl, hb, ?_⟩
  simp [Lit.wf, IntKind.min, IntKind.max, IntKind.signed, IntKind.bits] at w0
  omega
theorem cut_of_trod {v : Value} {d : DataW H} {p : List MemPlace} {base : Nat} (hok : Value.okWide Tryz.prog W .any base 26 v) (h : DataW.Trod enc Tryz.prog W 0 (fun _ => true) true 26 v d p) : ∃ (k : Int) (kv : Value) (l : List Bool), v = .agg #[.int .i64 k, kv] ∧ Bools W (fun k => W.heap.size ≤ k) kv l ∧ k < 9223372036854775808 := by
  obtain ⟨cs, rfl, hsz⟩ := okWide_struct Tryz.underlying26 hok
  obtain ⟨fuel, hf⟩ := h
  obtain ⟨k, kv, l, e, hb, hk⟩ := cut_of_cells hf
  have e2 : cs.toList = [.int .i64 k, kv] := e
  refine ⟨k, kv, l, ?_, hb, hk⟩
  obtain ⟨L⟩ := cs
  have e3 : L = [.int .i64 k, kv] := e2
  rw [e3]
end
end Go.Proofs.YtoopaigpjefonaaGreatDoor

namespace Go.Proofs.YtoopaigpjefonaaGreatDoor
set_option maxRecDepth 20000
open Go.ChangeShapes Go.WideShapes Go.ChangeAt Go.RowKit

theorem array5 {α : Type} {cs : Array α} (h : cs.size = 5) : ∃ c0 c1 c2 c3 c4, cs = #[c0, c1, c2, c3, c4] := by
  obtain ⟨l⟩ := cs
  match l, h with
  | [c0, c1, c2, c3, c4], _ => exact ⟨c0, c1, c2, c3, c4, rfl⟩
theorem cells_super : Tryz.prog.cellsOf 23 = 5 := by kernel_rfl
theorem open_super {H : Type} {enc : TypeId × Value → H} {w : World} {base b0 : Nat} {spare : Nat → Bool} {held : Bool} {r : Reach} {v : Value} {d : DataW H} {p : List MemPlace}
    (hv : Value.okWide Tryz.prog w r b0 23 v) (h : DataW.Trod enc Tryz.prog w base spare held 23 v d p) :
    ∃ (a0 a1 a2 a3 : Int) (s : ByteArray), v = .agg #[.int .i64 a0, .int .i64 a1, .int .i64 a2, .int .i64 a3, .string s] ∧ (IsInt a0 ∧ IsInt a1 ∧ IsInt a2 ∧ IsInt a3 ∧ s.size ≤ maxLen) := by
  obtain ⟨cs, rfl, hsz⟩ := okWide_struct Tryz.underlying23 hv
  obtain ⟨c0, c1, c2, c3, c4, rfl⟩ := array5 (hsz.trans cells_super)
  obtain ⟨fuel, hf⟩ := h
  obtain ⟨xs, n, _, _, _, hlen, hf⟩ := DataW.trod_struct Tryz.underlying23 hf
  have hl : xs.length = 5 := hlen
  obtain ⟨a0, rfl, w0⟩ := fld_int (c := c0) (i := 0) (xs := xs) (by simpa [Value.cells, cells_int] using hf 0 _ rfl) (by omega)
  obtain ⟨a1, rfl, w1⟩ := fld_int (c := c1) (i := 1) (xs := xs) (by simpa [Value.cells, cells_int] using hf 1 _ rfl) (by omega)
  obtain ⟨a2, rfl, w2⟩ := fld_int (c := c2) (i := 2) (xs := xs) (by simpa [Value.cells, cells_int] using hf 2 _ rfl) (by omega)
  obtain ⟨a3, rfl, w3⟩ := fld_int (c := c3) (i := 3) (xs := xs) (by simpa [Value.cells, cells_int] using hf 3 _ rfl) (by omega)
  obtain ⟨s, rfl, w4⟩ := fld_string (c := c4) (i := 4) (xs := xs) (by simpa [Value.cells, cells_string] using hf 4 _ rfl) (by omega)
  exact ⟨a0, a1, a2, a3, s, rfl, w0, w1, w2, w3, w4⟩
end Go.Proofs.YtoopaigpjefonaaGreatDoor

namespace Go.Proofs.YtoopaigpjefonaaGreatDoor
set_option maxRecDepth 20000
open Go.RowKit

theorem errT_of_handles {W : World} (h : handlesMet Tryz.prog [("errors.errorType", Rows.laid_errors_errorType)] W) : ErrT W := by
  have h2 : ∃ name u ty, (Rows.laid_errors_errorType : DataW Unit).handleName? = some name ∧ (Tryz.prog.cutTypes.find? (·.1 == "internal/reflectlite.rtype")).map (·.2) = some u ∧ ty < Tryz.prog.types.size ∧ Tryz.prog.rowNamed ty name = true ∧ W.var? Tryz.prog "errors.errorType" = some #[.iface u (.agg #[typeHandle Tryz.prog ty])] := h _ (List.mem_singleton.2 rfl)
  obtain ⟨name, u, ty, hn, hu, hty, hr, hv⟩ := h2
  obtain rfl : name = [101, 114, 114, 111, 114] := (Option.some.inj ((show (Rows.laid_errors_errorType : DataW Unit).handleName? = some [101, 114, 114, 111, 114] by kernel_rfl).symm.trans hn)).symm
  obtain rfl : u = 240 := (Option.some.inj ((show (Tryz.prog.cutTypes.find? (·.1 == "internal/reflectlite.rtype")).map (·.2) = some 240 by kernel_rfl).symm.trans hu)).symm
  have hall : (List.range Tryz.prog.types.size).all (fun t => !Tryz.prog.rowNamed t [101, 114, 114, 111, 114] || t == 73) = true := by kernel_rfl
  have h1 := List.all_eq_true.1 hall ty (List.mem_range.2 hty)
  rw [hr] at h1
  obtain rfl : ty = 73 := by simpa using h1
  have hc := World.var?_cell (show Tryz.prog.globalNamed "errors.errorType" = some 3 by kernel_rfl) hv 0
  have hs : Tryz.prog.globals.size = 6 := by kernel_rfl
  rw [ErrT, hc]
  simp only [typeHandle, hs]
  rfl
end Go.Proofs.YtoopaigpjefonaaGreatDoor
