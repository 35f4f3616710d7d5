/- Names: the document's. -/
import Derived.Test.YtndjnecjnfcapaaDoorShNames
namespace Go.Proofs.YtndjnecjnfcapaaDoor
set_option maxRecDepth 20000
open Go.RowKit

set_option maxHeartbeats 2000000 in
theorem rnames_any (v : Value) (l : List En) (w : World) (hv : Ens w v l) (hl : l.length ≤ 1000000000) :
    Calls Tryd.prog 20 #[v] w fun e w' => ∃ v', e = .returned v' ∧ EZ w' w.heap.size v' (namedL l) ∧ Below w.heap.size w w' := by
  obtain ⟨oa, ca, rfl⟩ := hv.form
  obtain ⟨i0, hi0, hz0, hz1, hz2⟩ := info_parts sh_info_en
  obtain ⟨X, hX⟩ : ∃ X, X = namedL l := ⟨_, rfl⟩
  rw [← hX]
  have HX : Hid (X = namedL l) := hX
  have HV : Hid (Ens w (.slice oa l.length ca) l) := hv
  clear hX hv
  go_enter Tryd.func20, Tryd.ntmps20
  go_wp2_with fail
  go_loopw [3, 4] (fun ov iv wr => ∃ (k : Nat), k ≤ l.length ∧ iv = .int .i64 (k : Int) ∧ EZ wr w.heap.size ov (namedL (l.take k)) ∧ Hid (Below w.heap.size w wr)) (fun _ iv _ => l.length - (intOf iv).toNat)
  case atStart => exact ⟨0, Nat.zero_le _, rfl, EZ.nil _ _, Below.refl _ _⟩
  case round =>
    obtain ⟨k, hk, rfl, hown, HB⟩ := hrel
    obtain ⟨ob, cap, rfl⟩ := hown.form
    have hnl := named_len l k
    by_cases hlt : k < l.length
    · have j1 : (k : Int) < l.length := by omega
      obtain ⟨gb, o, rfl, hg, hc⟩ := HV.out.at (i := k) hlt
      obtain ⟨c0, c1, c2⟩ := hc.below HB.out hg
      have hgw := Nat.lt_of_lt_of_le hg HB.out.size
      clear hc
      cases hq : frE l[k] with
      | true =>
        have HF : Hid (EZ wr w.heap.size (.slice ob (namedL (l.take k)).length cap) (namedL (l.take (k + 1)))) := by rw [named_no hlt hq]; exact hown
        have hq2 : l[k].nm.toList.isEmpty = true := hq
        clear hq hown
        generalize l[k] = x at *
        go_wp2
        go_roundw
        case rel => exact ⟨k + 1, by omega, by go_num, HF.out, HB⟩
        case measure => simp [intOf]; omega
      | false =>
        have HN : Hid (namedL (l.take (k + 1)) = namedL (l.take k) ++ [l[k]]) := named_yes hlt hq
        have hq2 : l[k].nm.toList.isEmpty = false := hq
        clear hq
        generalize l[k] = x at *
        generalize namedL (l.take k) = d at *
        have hownC := World.ownsRow.alloc hown (.cells #[.string x.nm, .int .i64 x.ino, .int .i64 x.gen] 39)
        have hnew : (wr.alloc (.cells #[.string x.nm, .int .i64 x.ino, .int .i64 x.gen] 39)).heap[wr.heap.size]? = some (.cells #[.string x.nm, .int .i64 x.ino, .int .i64 x.gen] 39 (0, 0)) := heap_alloc_new wr _
        have hone : ∀ u ∈ ([.string x.nm, .int .i64 x.ino, .int .i64 x.gen] : List Value), u.oneCell' = true := by intro u hu; simp at hu; rcases hu with rfl | rfl | rfl <;> rfl
        have HO : Hid (wr.ownsRow w.heap.size 39 3 (.slice ob d.length cap) d.length (d.flatMap En.cells)) := hown
        have hbs := HB.out.size
        clear hown
        go_wp2_with (first | (at_builtin; (refine wpList_append_own _ rfl _ _ 22 rfl w.heap.size 39 i0 _ 3 32 Tryd.underlying22 hi0 hz0 hz1 hz2 rfl (by decide) (.slice ob d.length cap) d.length (d.flatMap En.cells) rfl hownC ⟨wr.heap.size, 0, none⟩ 1 1 [.string x.nm, .int .i64 x.ino, .int .i64 x.gen] rfl rfl (World.news_of_block hnew) hone (by unfold maxLen; omega) (by omega) (by simp; omega) ?_)))
        intro v1 wB hown1 hgrow1 _
        have hTB : Below w.heap.size w wB := (HB.out.alloc hbs _).grown hgrow1 (by simp; omega) fun k hk => (HO.out.lt k hk).1
        have HF : Hid (EZ wB w.heap.size v1 (namedL (l.take (k + 1))) ∧ Below w.heap.size w wB) := by
          unfold EZ
          rw [HN.out, List.length_append, List.length_singleton, List.flatMap_append, List.flatMap_singleton]
          exact ⟨hown1, hTB⟩
        clear hownC hnew hown1 hgrow1 hTB hone HO
        go_wp2
        go_roundw
        case rel => exact ⟨k + 1, by omega, by go_num, HF.out.1, HF.out.2⟩
        case measure => simp [intOf]; omega
    · have j1 : ¬ (k : Int) < l.length := by omega
      have HF : Hid (EZ wr w.heap.size (.slice ob (namedL (l.take k)).length cap) X) := by
        rw [HX.out]
        rw [List.take_of_length_le (by omega)] at hown ⊢
        exact hown
      clear hown
      go_wp2
      go_ret
      exact ⟨_, rfl, HF.out, HB.out⟩
end Go.Proofs.YtndjnecjnfcapaaDoor
