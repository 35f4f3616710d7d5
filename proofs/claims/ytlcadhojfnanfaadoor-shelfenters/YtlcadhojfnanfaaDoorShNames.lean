/- Names: the program's. -/
import Derived.Test.YtlcadhojfnanfaaDoorShSpare
namespace Go.Proofs.YtlcadhojfnanfaaDoor
set_option maxRecDepth 20000
open Go.RowKit

def namedL (l : List En) : List En := l.filter fun x => !frE x
theorem named_yes {l : List En} {k : Nat} (hk : k < l.length) (h : frE l[k] = false) : namedL (l.take (k + 1)) = namedL (l.take k) ++ [l[k]] := by
  rw [List.take_add_one, List.getElem?_eq_getElem hk]
  show (l.take k ++ [l[k]]).filter _ = _
  rw [List.filter_append]
  simp [namedL, h]
theorem named_no {l : List En} {k : Nat} (hk : k < l.length) (h : frE l[k] = true) : namedL (l.take (k + 1)) = namedL (l.take k) := by
  rw [List.take_add_one, List.getElem?_eq_getElem hk]
  show (l.take k ++ [l[k]]).filter _ = _
  rw [List.filter_append]
  simp [namedL, h]
theorem named_len (l : List En) (k : Nat) : (namedL (l.take k)).length ≤ k := Nat.le_trans (List.length_filter_le _ _) (by rw [List.length_take]; omega)
set_option maxHeartbeats 2000000 in
theorem names_any (v : Value) (l : List En) (w : World) (hv : Ens w v l) (hok : ∀ x ∈ l, x.nm.size ≤ 140737488355328) (hl : l.length ≤ 1000000000) :
    Calls Tryd.prog 11 #[v] w fun e w' => ∃ v', e = .returned v' ∧ EZ w' w.heap.size v' (namedL l) ∧ Below w.heap.size w w' := by
  obtain ⟨oa, ca, rfl⟩ := hv.form
  obtain ⟨i0, hi0, hz0, hz1, hz2⟩ := info_parts sh_info_en
  obtain ⟨X, hX⟩ : ∃ X, X = namedL l := ⟨_, rfl⟩
  rw [← hX]
  have HX : Hid (X = namedL l) := hX
  have HV : Hid (Ens w (.slice oa l.length ca) l ∧ ∀ x ∈ l, x.nm.size ≤ 140737488355328) := ⟨hv, hok⟩
  clear hX hv hok
  go_enter Tryd.func11, Tryd.ntmps11
  go_wp2_with fail
  go_loopw [3, 8] (fun ov iv wr => ∃ (k : Nat), k ≤ l.length ∧ iv = .int .i64 (k : Int) ∧ EZ wr w.heap.size ov (namedL (l.take k)) ∧ Hid (Below w.heap.size w wr)) (fun _ iv _ => l.length - (intOf iv).toNat)
  case atStart => exact ⟨0, Nat.zero_le _, rfl, EZ.nil _ _, Below.refl _ _⟩
  case round =>
    obtain ⟨k, hk, rfl, hown, HB⟩ := hrel
    obtain ⟨ob, cap, rfl⟩ := hown.form
    have hnl := named_len l k
    by_cases hlt : k < l.length
    · have j1 : (k : Int) < l.length := by omega
      obtain ⟨gb, o, rfl, hg, hc⟩ := HV.out.1.at (i := k) hlt
      obtain ⟨c0, c1, c2⟩ := hc.below HB.out hg
      have hgw := Nat.lt_of_lt_of_le hg HB.out.size
      have hsz := HV.out.2 _ (List.getElem_mem hlt)
      have hfr := free_any l[k]
      clear hc
      cases hq : frE l[k] with
      | true =>
        have HF : Hid (EZ wr w.heap.size (.slice ob (namedL (l.take k)).length cap) (namedL (l.take (k + 1)))) := by rw [named_no hlt hq]; exact hown
        rw [hq] at hfr
        clear hq hown
        generalize l[k] = x at *
        go_wp2_with fail
        refine (hfr _).mono ?_
        rintro e w1 ⟨rfl, hb1⟩
        clear hfr
        have hb2 : Below wr.heap.size wr w1 := ((Below.refl _ _).alloc (Nat.le_refl _) _).trans (hb1.mono (by simp))
        have HL : Hid (EZ w1 w.heap.size (.slice ob (namedL (l.take k)).length cap) (namedL (l.take (k + 1))) ∧ Below w.heap.size w w1) := ⟨HF.out.below hb2, HB.out.trans (hb2.mono HB.out.size)⟩
        clear hb1 hb2 HF
        go_wp2
        go_roundw
        case rel => exact ⟨k + 1, by omega, by go_num, HL.out.1, HL.out.2⟩
        case measure => simp [intOf]; omega
      | false =>
        have HN : Hid (namedL (l.take (k + 1)) = namedL (l.take k) ++ [l[k]]) := named_yes hlt hq
        rw [hq] at hfr
        clear hq
        generalize l[k] = x at *
        generalize namedL (l.take k) = d at *
        have HOW : Hid (EZ wr w.heap.size (.slice ob d.length cap) d) := hown
        clear hown
        go_wp2_with fail
        refine (hfr _).mono ?_
        rintro e w1 ⟨rfl, hb1⟩
        clear hfr
        have hb2 : Below wr.heap.size wr w1 := ((Below.refl _ _).alloc (Nat.le_refl _) _).trans (hb1.mono (by simp))
        have hblk : w1.heap[wr.heap.size]? = some (.cells #[.string x.nm, .int .i64 x.ino, .int .i64 x.gen] 28 (0, 0)) := (hb1.block wr.heap.size (by simp)).trans (heap_alloc_new wr _)
        have d0 := cells_kept hb1 0 _ rfl
        have HB1 : Hid (Below wr.heap.size wr w1 ∧ w1.heap[wr.heap.size]? = some (.cells #[.string x.nm, .int .i64 x.ino, .int .i64 x.gen] 28 (0, 0))) := ⟨hb2, hblk⟩
        clear hb1 hb2 hblk c0 c1 c2
        go_wp2_with fail
        refine (shClone_any x.nm _ (by omega)).mono ?_
        rintro e w2 ⟨rfl, hb3⟩
        clear d0
        have hblk2 : w2.heap[wr.heap.size]? = some (.cells #[.string x.nm, .int .i64 x.ino, .int .i64 x.gen] 28 (0, 0)) := (hb3.block wr.heap.size (lt_of_block HB1.out.2)).trans HB1.out.2
        have e0 : w2.cell? ⟨wr.heap.size, 0, none⟩ = some (.string x.nm) := cell_of_row _ _ _ _ _ _ hblk2
        have e1 : w2.cell? ⟨wr.heap.size, 1, none⟩ = some (.int .i64 x.ino) := cell_of_row _ _ _ _ _ _ hblk2
        have e2 : w2.cell? ⟨wr.heap.size, 2, none⟩ = some (.int .i64 x.gen) := cell_of_row _ _ _ _ _ _ hblk2
        have f0 := frozen_of_row w2 wr.heap.size 0 _ _ hblk2
        have hlt2 : wr.heap.size < w2.heap.size := lt_of_block hblk2
        have hb4 : Below wr.heap.size wr (w2.setCell ⟨wr.heap.size, 0, none⟩ (.string x.nm)) := (HB1.out.1.trans (hb3.mono HB1.out.1.size)).setCell (p := ⟨wr.heap.size, 0, none⟩) (Nat.le_refl _) _
        have hown3 := HOW.out.below hb4
        have hownC := World.ownsRow.alloc hown3 (.cells #[.string x.nm, .int .i64 x.ino, .int .i64 x.gen] 28)
        have hnew : ((w2.setCell ⟨wr.heap.size, 0, none⟩ (.string x.nm)).alloc (.cells #[.string x.nm, .int .i64 x.ino, .int .i64 x.gen] 28)).heap[w2.heap.size]? = some (.cells #[.string x.nm, .int .i64 x.ino, .int .i64 x.gen] 28 (0, 0)) := by
          have := heap_alloc_new (w2.setCell ⟨wr.heap.size, 0, none⟩ (.string x.nm)) (.cells #[.string x.nm, .int .i64 x.ino, .int .i64 x.gen] 28)
          simpa using this
        have hone : ∀ u ∈ ([.string x.nm, .int .i64 x.ino, .int .i64 x.gen] : List Value), u.oneCell' = true := by intro u hu; simp at hu; rcases hu with rfl | rfl | rfl <;> rfl
        have hL4 : Below w.heap.size w (w2.setCell ⟨wr.heap.size, 0, none⟩ (.string x.nm)) := HB.out.trans (hb4.mono HB.out.size)
        have hbs := hL4.size
        have HL4 : Hid (Below w.heap.size w (w2.setCell ⟨wr.heap.size, 0, none⟩ (.string x.nm)) ∧ EZ (w2.setCell ⟨wr.heap.size, 0, none⟩ (.string x.nm)) w.heap.size (.slice ob d.length cap) d) := ⟨hL4, hown3⟩
        simp at hbs
        clear hb3 hb4 hown3 hL4 hblk2 HB1
        go_wp2_with (first | (at_builtin; (refine wpList_append_own _ rfl _ _ 22 rfl w.heap.size 28 i0 _ 3 32 Tryd.underlying22 hi0 hz0 hz1 hz2 rfl (by decide) (.slice ob d.length cap) d.length (d.flatMap En.cells) rfl hownC ⟨w2.heap.size, 0, none⟩ 1 1 [.string x.nm, .int .i64 x.ino, .int .i64 x.gen] rfl rfl (World.news_of_block hnew) hone (by unfold maxLen; omega) (by omega) (by simp; omega) ?_)))
        intro v1 wB hown1 hgrow1 _
        have hTB : Below w.heap.size w wB := (HL4.out.1.alloc HL4.out.1.size _).grown hgrow1 (by simp; omega) fun k hk => (World.ownsRow.lt HL4.out.2 k hk).1
        have HF : Hid (EZ wB w.heap.size v1 (namedL (l.take (k + 1))) ∧ Below w.heap.size w wB) := by
          unfold EZ
          rw [HN.out, List.length_append, List.length_singleton, List.flatMap_append, List.flatMap_singleton]
          exact ⟨hown1, hTB⟩
        clear hownC hnew hown1 hgrow1 hTB hone
        go_wp2
        go_roundw
        case rel => exact ⟨k + 1, by omega, by go_num, HF.out.1, HF.out.2⟩
        case measure => simp [intOf]; omega
    · have j1 : ¬ (k : Int) < l.length := by omega
      have HF : Hid (EZ wr w.heap.size (.slice ob (namedL (l.take k)).length cap) X) := by
        rw [HX.out]
        rw [List.take_of_length_le (by omega)] at hown ⊢
        exact hown
      clear hown
      go_wp2
      go_ret
      exact ⟨_, rfl, HF.out, HB.out⟩
end Go.Proofs.YtlcadhojfnanfaaDoor
