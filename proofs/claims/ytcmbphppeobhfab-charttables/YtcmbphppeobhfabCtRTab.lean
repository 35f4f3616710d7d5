/- The document's Table and Body. -/
import Derived.Test.YtcmbphppeobhfabCtTab
namespace Go.Proofs.Ytcmbphppeobhfab
set_option maxRecDepth 20000
open Go.RowKit

theorem rtable_bad (s : ByteArray) (hs : ¬ s.size = 448) (w : World) :
    Calls Try.prog 18 #[.string s] w fun e w' => e = .returned (.tuple #[.slice none 0 0, .int .i64 1]) ∧ w' = w := by
  have h : ¬ (s.size : Int) = 448 := by omega
  go_enter Try.func18, Try.ntmps18
  go_wp2
  go_ret2
  exact ⟨rfl, rfl⟩
set_option maxHeartbeats 1000000 in
theorem rtable_any (s : ByteArray) (hs : s.size = 448) (w : World) :
    Calls Try.prog 18 #[.string s] w fun e w' => ∃ v, e = .returned (.tuple #[v, .int .i64 0]) ∧ List1 (Value.int .i64) w' v (tabN s.data.toList 112) ∧ Below w.heap.size w w' := by
  obtain ⟨i0, hi0, hz0, hz1, hz2⟩ := info_parts ct_info_int
  have h : (s.size : Int) = 448 := by omega
  have HG : Hid (∀ j : Nat, j < 112 → ∀ w, Calls Try.prog 31 #[.string s, .int .i64 (4 * (j : Int)), .int .i64 4] w fun e w' => e = .returned (.tuple #[.int .i64 (leVal ((s.data.toList.drop (4 * j)).take 4)), .int .i64 0]) ∧ w' = w) := fun j hj w => by
    have := rget_ok s (4 * j) 4 (by decide) (by decide) (by rw [hs]; decide) (by omega) w
    rw [show (((4 * j : Nat)) : Int) = 4 * (j : Int) by omega] at this
    exact this
  clear hs
  go_enter Try.func18, Try.ntmps18
  go_wp2_with fail
  go_loopw [4, 5] (fun pv iv wr => ∃ (j : Nat) (ad : Option Addr) (c : Nat), j ≤ 112 ∧ iv = .int .i64 (j : Int) ∧ pv = .slice ad j c ∧ IZ wr w.heap.size pv (tabN s.data.toList j) ∧ Below w.heap.size w wr) (fun _ iv _ => 112 - (intOf iv).toNat)
  case atStart => exact ⟨0, none, 0, Nat.zero_le _, rfl, rfl, IZ.nil _ _, Below.refl _ _⟩
  case round =>
    obtain ⟨j, ad, c, hj, rfl, rfl, hown, hb⟩ := hrel
    have hbs := hb.size
    by_cases hlt : j < 112
    · have j1 : (j : Int) < 112 := by omega
      have hg := HG.out j hlt
      have HS : Hid (tabN s.data.toList (j + 1) = tabN s.data.toList j ++ [leVal ((s.data.toList.drop (4 * j)).take 4)] ∧ (tabN s.data.toList j).length = j) := ⟨tabN_succ _ j, tabN_length _ j⟩
      unfold IZ at hown
      rw [HS.out.2] at hown
      obtain ⟨L', hL'⟩ : ∃ L', L' = tabN s.data.toList (j + 1) := ⟨_, rfl⟩
      have HL : Hid (L' = tabN s.data.toList (j + 1)) := hL'
      rw [← hL'] at HS
      clear hL' HG
      generalize tabN s.data.toList j = L at *
      generalize leVal ((s.data.toList.drop (4 * j)).take 4) = x at *
      have hnew : (wr.alloc (.cells #[.int .i64 x] 3)).heap[wr.heap.size]? = some (.cells #[.int .i64 x] 3 (0, 0)) := heap_alloc_new wr _
      have hownC := World.ownsRow.alloc hown (.cells #[.int .i64 x] 3)
      have hone : ∀ u ∈ ([.int .i64 x] : List Value), u.oneCell' = true := by intro u hu; simp at hu; rw [hu]; rfl
      have HO : Hid (wr.ownsRow w.heap.size 3 1 (.slice ad j c) j (intZ L) ∧ Below w.heap.size w wr) := ⟨hown, hb⟩
      clear hown hb
      go_wp2_with fail
      refine (hg _).mono ?_
      rintro e w1 ⟨rfl, rfl⟩
      clear hg
      go_wp2_with (first | (at_builtin; (refine wpList_append_own _ rfl _ _ 22 rfl w.heap.size 3 i0 (.int .i64 0) 1 8 Try.underlying22 hi0 hz0 hz1 hz2 rfl (by decide) (.slice ad j c) j (intZ L) rfl hownC ⟨w1.heap.size, 0, none⟩ 1 1 [.int .i64 x] rfl rfl (World.news_of_block hnew) hone (by unfold maxLen; omega) (by omega) (by simp; omega) ?_)))
      intro v1 wB hown1 hgrow1 _
      have hTB : Below w.heap.size w wB := (HO.out.2.alloc hbs _).grown hgrow1 (by simp; omega) fun k hk => (HO.out.1.lt k hk).1
      obtain ⟨g1, cap1, rfl⟩ : ∃ g1 cap1, v1 = .slice (some ⟨g1, 0, none⟩) (j + 1) cap1 := by obtain ⟨g1, c1, e1, _⟩ := World.ownsRow.form hown1 (by omega); exact ⟨g1, c1, e1⟩
      have HF : Hid (IZ wB w.heap.size (.slice (some ⟨g1, 0, none⟩) (j + 1) cap1) L' ∧ Below w.heap.size w wB) := by
        unfold IZ
        rw [HS.out.1, List.length_append, HS.out.2, intZ_append]
        exact ⟨hown1, hTB⟩
      clear hownC hnew hown1 hgrow1 hTB hone HO
      go_wp2
      go_roundw
      case rel => exact ⟨j + 1, some ⟨g1, 0, none⟩, cap1, by omega, by go_num, rfl, by rw [← HL.out]; exact HF.out⟩
      case measure => simp [intOf]; omega
    · obtain rfl : j = 112 := by omega
      have HF : Hid (List1 (Value.int .i64) wr (.slice ad 112 c) (tabN s.data.toList 112) ∧ Below w.heap.size w wr) := ⟨IZ.list1 hown, hb⟩
      clear hown hb HG
      go_wp2
      go_ret2
      exact ⟨_, rfl, HF.out⟩
theorem rbody_bad (v : Value) (l : List Int) (w : World) (hv : List1 (Value.int .i64) w v l) (hl : ¬ l.length = 112) :
    Calls Try.prog 20 #[v] w fun e w' => e = .returned (.tuple #[.string ⟨#[]⟩, .int .i64 1]) ∧ Below w.heap.size w w' := by
  obtain ⟨oa, ca, rfl⟩ := hv.form
  clear hv
  have h : ¬ (l.length : Int) = 112 := by omega
  generalize l.length = n at *
  go_enter Try.func20, Try.ntmps20
  go_wp2
  go_ret2
  exact ⟨rfl, Below.refl _ _⟩
theorem ct_append (a b : List UInt8) : (⟨a.toArray⟩ : ByteArray) ++ (⟨b.toArray⟩ : ByteArray) = ⟨(a ++ b).toArray⟩ := by
  apply ByteArray.ext
  simp
set_option maxHeartbeats 1000000 in
theorem rbody_any (v : Value) (l : List Int) (w : World) (hv : List1 (Value.int .i64) w v l) (hl : l.length = 112) (hw : ∀ x ∈ l, x ≤ 9223372036854775807) :
    Calls Try.prog 20 #[v] w fun e w' => ((∀ x ∈ l, okN x) ∧ e = .returned (.tuple #[.string ⟨(bodB l).toArray⟩, .int .i64 0]) ∨ (¬ ∀ x ∈ l, okN x) ∧ e = .returned (.tuple #[.string ⟨#[]⟩, .int .i64 2])) ∧ Below w.heap.size w w' := by
  obtain ⟨oa, ca, rfl⟩ := hv.form
  have HV : Hid (List1 (Value.int .i64) w (.slice oa l.length ca) l ∧ l.length = 112 ∧ ∀ x ∈ l, x ≤ 9223372036854775807) := ⟨hv, hl, hw⟩
  clear hv hw
  rw [hl]
  clear hl
  go_enter Try.func20, Try.ntmps20
  go_wp2_with fail
  go_loopw [4, 5] (fun sv iv wr => ∃ j : Nat, j ≤ 112 ∧ iv = .int .i64 (j : Int) ∧ sv = .string ⟨(bodB (l.take j)).toArray⟩ ∧ (∀ x ∈ l.take j, okN x) ∧ Below w.heap.size w wr) (fun _ iv _ => 112 - (intOf iv).toNat)
  case atStart => exact ⟨0, Nat.zero_le _, rfl, rfl, by simp, Below.refl _ _⟩
  case round =>
    obtain ⟨j, hj, rfl, rfl, hok, hb⟩ := hrel
    by_cases hlt : j < 112
    · have j1 : (j : Int) < 112 := by omega
      have hlt' : j < l.length := by rw [HV.out.2.1]; exact hlt
      obtain ⟨g, o, rfl, hg, hc0⟩ := HV.out.1.at (i := j) hlt'
      have hc := (cell_kept_1 (hb.block g hg) _).trans hc0
      have ht : l.take (j + 1) = l.take j ++ [l[j]'hlt'] := by rw [List.take_add_one, List.getElem?_eq_getElem hlt']; rfl
      have HT : Hid (l.take (j + 1) = l.take j ++ [l[j]'hlt'] ∧ l[j]'hlt' ∈ l ∧ ∀ x ∈ l.take j, okN x) := ⟨ht, List.getElem_mem hlt', hok⟩
      have hp := rput_any (l[j]'hlt') 4 (HV.out.2.2 _ (List.getElem_mem hlt'))
      have hlb : (bodB (l.take j)).length ≤ 448 := by rw [bodB_length, List.length_take]; omega
      have HB : Hid (Below w.heap.size w wr) := hb
      clear ht hok hb hc0
      generalize l[j]'hlt' = x at *
      by_cases hx : okN x
      · rw [(put_four hx).1, (put_four hx).2] at hp
        have hfl := fourB_length x
        have HOK : Hid (∀ y ∈ l.take (j + 1), okN y) := fun y hy => by
          rw [HT.out.1, List.mem_append] at hy
          rcases hy with hy | hy
          · exact HT.out.2.2 y hy
          · simp at hy; rw [hy]; exact hx
        have HA : Hid ((⟨(bodB (l.take j)).toArray⟩ : ByteArray) ++ (⟨(fourB x).toArray⟩ : ByteArray) = ⟨(bodB (l.take (j + 1))).toArray⟩) := by rw [HT.out.1, bodB_snoc]; exact ct_append _ _
        obtain ⟨sa, hsa⟩ : ∃ sa : ByteArray, sa = ⟨(bodB (l.take j)).toArray⟩ := ⟨_, rfl⟩
        obtain ⟨sb, hsb⟩ : ∃ sb : ByteArray, sb = ⟨(fourB x).toArray⟩ := ⟨_, rfl⟩
        have z1 : sa.size ≤ 448 := by rw [hsa]; exact hlb
        have z2 : sb.size = 4 := by rw [hsb]; exact hfl
        rw [← hsa, ← hsb] at HA
        rw [← hsb] at hp
        rw [← hsa]
        clear hx hlb HT hfl hsa hsb
        go_wp2_with fail
        refine (hp _).mono ?_
        rintro e w1 ⟨rfl, hb1⟩
        have HB1 : Hid (Below w.heap.size w w1) := HB.out.trans (hb1.mono HB.out.size)
        clear hp hb1 HB
        go_wp2
        go_roundw
        case rel => exact ⟨j + 1, by omega, by go_num, by rw [← HA.out], HOK.out, HB1.out⟩
        case measure => simp [intOf]; omega
      · rw [put_not hx] at hp
        have HN : Hid (¬ ∀ x ∈ l, okN x) := fun h => hx (h _ HT.out.2.1)
        generalize putS x 4 = ps at *
        generalize (⟨(bodB (l.take j)).toArray⟩ : ByteArray) = sa at *
        clear hx hlb HT
        go_wp2_with fail
        refine (hp _).mono ?_
        rintro e w1 ⟨rfl, hb1⟩
        have HB1 : Hid (Below w.heap.size w w1) := HB.out.trans (hb1.mono HB.out.size)
        clear hp hb1 HB
        go_wp2
        go_ret2
        exact ⟨.inr ⟨HN.out, rfl⟩, HB1.out⟩
    · obtain rfl : j = 112 := by omega
      have ht : l.take 112 = l := by rw [← HV.out.2.1]; exact List.take_length
      rw [ht] at hok
      have HI : Hid ((∀ x ∈ l, okN x) ∧ Below w.heap.size w wr ∧ l.take 112 = l) := ⟨hok, hb, ht⟩
      clear ht hok hb
      obtain ⟨sa, hsa⟩ : ∃ sa : ByteArray, sa = ⟨(bodB (l.take 112)).toArray⟩ := ⟨_, rfl⟩
      have HSA : Hid (sa = ⟨(bodB (l.take 112)).toArray⟩) := hsa
      rw [← hsa]
      clear hsa
      go_wp2
      go_ret2
      exact ⟨.inl ⟨HI.out.1, by have h := HSA.out; rw [HI.out.2.2] at h; rw [← h]; rfl⟩, HI.out.2.1⟩
end Go.Proofs.Ytcmbphppeobhfab
