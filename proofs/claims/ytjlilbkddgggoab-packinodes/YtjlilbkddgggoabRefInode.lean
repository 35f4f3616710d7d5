/- The document's Inode, called with any inode, tells the bytes inodeS and the error inodeE, and changes nothing that was there. -/
import Derived.Test.YtjlilbkddgggoabRefLaid
import Derived.Test.YtjlilbkddgggoabNoughts
namespace Go.Proofs.Ytjlilbkddgggoab
open Go.RowKit Go.Lib

theorem infoInt : (Try.prog.info? 3).map (fun i => (i.zero, i.size, i.bytes)) = some (some (.int .i64 0), 1, 8) := by kernel_rfl

/-- The widths of an inode's numbers, when so many of the last were laid. -/
def wid (j : Nat) : List Int := [2, 4, 6, 4] ++ List.replicate j 4
theorem wid_succ (j : Nat) : wid (j + 1) = wid j ++ [4] := by unfold wid; rw [List.replicate_succ', List.append_assoc]
theorem wid_length (j : Nat) : (wid j).length = 4 + j := by simp [wid]; omega

set_option maxHeartbeats 400000 in
theorem inodeWidths_any (w : World) :
    Calls Try.prog 17 #[] w fun e w' => ∃ g cap, e = .returned (.slice (some ⟨g, 0, none⟩) 18 cap) ∧ w'.ownsRow w.heap.size 3 1 (.slice (some ⟨g, 0, none⟩) 18 cap) 18 ((wid 14).map (Value.int .i64)) ∧ Below w.heap.size w w' := by
  obtain ⟨i0, hi, hz0, hz1, hz2⟩ := info_parts infoInt
  have hst := World.ownsRow_lit (base := w.heap.size) (e := 3) (size := 1) w #[.int .i64 2, .int .i64 4, .int .i64 6, .int .i64 4] 4 (Nat.le_refl _) (by decide) rfl
  go_enter Try.func17, Try.ntmps17
  go_wp2
  go_loopw [1, 2] (fun v i wr => ∃ j : Nat, j ≤ 14 ∧ i = .int .i64 j ∧ wr.ownsRow w.heap.size 3 1 v (4 + j) ((wid j).map (Value.int .i64)) ∧ Below w.heap.size w wr) (fun _ i _ => 14 - (intOf i).toNat)
  case atStart => exact ⟨0, Nat.zero_le _, rfl, hst, (Below.refl _ _).alloc (Nat.le_refl _) _⟩
  case round =>
    obtain ⟨j, hj, rfl, hown, hb⟩ := hrel
    clear hst
    by_cases hlt : j < 14
    · go_wp2_with (at_builtin; refine wpList_append_own _ rfl _ _ 45 rfl w.heap.size 3 i0 (.int .i64 0) 1 8 Try.underlying45 hi hz0 hz1 hz2 rfl (by decide) _ _ _ rfl (hown.alloc _) ⟨wr.heap.size, 0, none⟩ 1 1 [.int .i64 4] rfl rfl ?c1 ?c2 ?c3 ?c4 ?c5 ?_)
      case c1 => intro i u hi; match i, hi with | 0, hi => simp at hi; subst hi; simp [Addr.add]
      case c2 => intro u hu; simp at hu; subst hu; rfl
      case c3 => unfold maxLen; omega
      case c4 => omega
      case c5 => have := hb.size; simp; omega
      intro v' w2 hown' hgrow _
      have hb2 : Below w.heap.size w w2 := (hb.alloc hb.size _).grown hgrow (by have := hb.size; simp; omega) (fun g hg => by
        rcases hown.2 with ⟨rfl, _⟩ | ⟨g', cap, cur, rfl, hg', _⟩
        · simp [Value.ownBlock] at hg
        · simp [Value.ownBlock] at hg; omega)
      clear hown hgrow hb
      go_wp2
      go_roundw
      case rel => exact ⟨j + 1, by omega, by go_num, by rw [wid_succ, List.map_append]; exact hown', hb2⟩
      case measure => simp [intOf]; omega
    · obtain rfl : j = 14 := by omega
      have hex : ∃ g cap, u1 = .slice (some ⟨g, 0, none⟩) 18 cap := by
        rcases hown.2 with ⟨_, h⟩ | ⟨g, cap, cur, h, _⟩
        · omega
        · exact ⟨g, cap, h⟩
      obtain ⟨g, cap, hv⟩ := hex
      rw [hv] at hown ⊢
      clear hv
      go_wp2
      go_ret
      exact ⟨g, cap, rfl, hown, hb⟩

/-- An inode's numbers, when so many of its blocks were laid. -/
def nums (a0 a1 a2 a3 : Int) (d : Nat → Int) (j : Nat) : List Int := [a0, a1, a2, a3] ++ (List.range j).map d
theorem nums_succ (a0 a1 a2 a3 : Int) (d : Nat → Int) (j : Nat) : nums a0 a1 a2 a3 d (j + 1) = nums a0 a1 a2 a3 d j ++ [d j] := by unfold nums; rw [List.range_succ, List.map_append, List.append_assoc]; rfl
theorem nums_length (a0 a1 a2 a3 : Int) (d : Nat → Int) (j : Nat) : (nums a0 a1 a2 a3 d j).length = 4 + j := by simp [nums]; omega
theorem inode_fst (a0 a1 a2 a3 a4 a5 : Int) (d : Nat → Int) : (inodePs a0 a1 a2 a3 d a4 a5).map (·.1) = nums a0 a1 a2 a3 d 12 ++ [a4, a5] := by
  unfold inodePs inoPs nums
  simp [List.map_append, List.map_map, Function.comp_def]
theorem inode_snd (a0 a1 a2 a3 a4 a5 : Int) (d : Nat → Int) : (inodePs a0 a1 a2 a3 d a4 a5).map (·.2) = wid 14 := by
  unfold inodePs inoPs wid
  simp [List.map_append, List.map_map, Function.comp_def, List.map_const', List.replicate]
theorem inode_length (a0 a1 a2 a3 a4 a5 : Int) (d : Nat → Int) : (inodePs a0 a1 a2 a3 d a4 a5).length = 18 := by
  unfold inodePs; simp [inoPs_length]

theorem own_cells {w : World} {base g n cap : Nat} {e : TypeId} {ps : List (Int × Int)} {f : Int × Int → Int} (hn : ps.length = n) (h : w.ownsRow base e 1 (.slice (some ⟨g, 0, none⟩) n cap) n ((ps.map f).map (Value.int .i64))) (i : Nat) (hi : i < ps.length) :
    w.cell? ⟨g, i, none⟩ = some (.int .i64 (f ps[i])) := by
  rw [h.cellAt i (by omega)]
  simp [hi]
theorem own_lt {w : World} {base g n cap : Nat} {e : TypeId} {size : Nat} {xs : List Value} (h : w.ownsRow base e size (.slice (some ⟨g, 0, none⟩) n cap) n xs) : g < w.heap.size := by
  rcases h.2 with ⟨h', _⟩ | ⟨g', cap', cur, h', _, hg, _⟩
  · simp at h'
  · simp only [Value.slice.injEq, Option.some.injEq, Addr.mk.injEq, and_true, true_and] at h'
    rw [h'.1]
    exact lt_of_block hg

set_option maxHeartbeats 2000000 in
theorem rinode_any (a0 a1 a2 a3 a4 a5 : Int) (d : Nat → Int) (hm : ∀ p ∈ inodePs a0 a1 a2 a3 d a4 a5, p.1 ≤ 9223372036854775807) (w : World) :
    Calls Try.prog 7 #[.agg #[.int .i64 a0, .int .i64 a1, .int .i64 a2, .int .i64 a3, .int .i64 (d 0), .int .i64 (d 1), .int .i64 (d 2), .int .i64 (d 3), .int .i64 (d 4), .int .i64 (d 5), .int .i64 (d 6), .int .i64 (d 7), .int .i64 (d 8), .int .i64 (d 9), .int .i64 (d 10), .int .i64 (d 11), .int .i64 a4, .int .i64 a5]] w fun e w' => e = .returned (.tuple #[.string (inodeS a0 a1 a2 a3 d a4 a5), .int .i64 (inodeE a0 a1 a2 a3 d a4 a5)]) ∧ Below w.heap.size w w' := by
  have HM : Hid (∀ p ∈ inodePs a0 a1 a2 a3 d a4 a5, p.1 ≤ 9223372036854775807) := hm
  clear hm
  obtain ⟨i0, hi, hz0, hz1, hz2⟩ := info_parts infoInt
  have hst := World.ownsRow_lit (base := w.heap.size + 1) (e := 3) (size := 1) (w.alloc (.cells #[.int .i64 a0, .int .i64 a1, .int .i64 a2, .int .i64 a3, .int .i64 (d 0), .int .i64 (d 1), .int .i64 (d 2), .int .i64 (d 3), .int .i64 (d 4), .int .i64 (d 5), .int .i64 (d 6), .int .i64 (d 7), .int .i64 (d 8), .int .i64 (d 9), .int .i64 (d 10), .int .i64 (d 11), .int .i64 a4, .int .i64 a5] 24)) #[.int .i64 a0, .int .i64 a1, .int .i64 a2, .int .i64 a3] 4 (by simp) (by decide) rfl
  rw [World.size_alloc] at hst
  have HC1 : Hid (∀ i (v : Value), (#[.int .i64 a0, .int .i64 a1, .int .i64 a2, .int .i64 a3, .int .i64 (d 0), .int .i64 (d 1), .int .i64 (d 2), .int .i64 (d 3), .int .i64 (d 4), .int .i64 (d 5), .int .i64 (d 6), .int .i64 (d 7), .int .i64 (d 8), .int .i64 (d 9), .int .i64 (d 10), .int .i64 (d 11), .int .i64 a4, .int .i64 a5] : Array Value)[i]? = some v → ((w.alloc (.cells #[.int .i64 a0, .int .i64 a1, .int .i64 a2, .int .i64 a3, .int .i64 (d 0), .int .i64 (d 1), .int .i64 (d 2), .int .i64 (d 3), .int .i64 (d 4), .int .i64 (d 5), .int .i64 (d 6), .int .i64 (d 7), .int .i64 (d 8), .int .i64 (d 9), .int .i64 (d 10), .int .i64 (d 11), .int .i64 a4, .int .i64 a5] 24)).alloc (.cells #[.int .i64 a0, .int .i64 a1, .int .i64 a2, .int .i64 a3] 3)).cell? ⟨w.heap.size, i, none⟩ = some v) := cells_boxed w _ _ _
  have hdir : ∀ j, j < 12 → (#[.int .i64 a0, .int .i64 a1, .int .i64 a2, .int .i64 a3, .int .i64 (d 0), .int .i64 (d 1), .int .i64 (d 2), .int .i64 (d 3), .int .i64 (d 4), .int .i64 (d 5), .int .i64 (d 6), .int .i64 (d 7), .int .i64 (d 8), .int .i64 (d 9), .int .i64 (d 10), .int .i64 (d 11), .int .i64 a4, .int .i64 a5] : Array Value)[4 + j]? = some (.int .i64 (d j)) := by
    intro j h
    have : j = 0 ∨ j = 1 ∨ j = 2 ∨ j = 3 ∨ j = 4 ∨ j = 5 ∨ j = 6 ∨ j = 7 ∨ j = 8 ∨ j = 9 ∨ j = 10 ∨ j = 11 := by omega
    rcases this with rfl | rfl | rfl | rfl | rfl | rfl | rfl | rfl | rfl | rfl | rfl | rfl <;> rfl
  have HD : Hid (∀ j, j < 12 → (#[.int .i64 a0, .int .i64 a1, .int .i64 a2, .int .i64 a3, .int .i64 (d 0), .int .i64 (d 1), .int .i64 (d 2), .int .i64 (d 3), .int .i64 (d 4), .int .i64 (d 5), .int .i64 (d 6), .int .i64 (d 7), .int .i64 (d 8), .int .i64 (d 9), .int .i64 (d 10), .int .i64 (d 11), .int .i64 a4, .int .i64 a5] : Array Value)[4 + j]? = some (.int .i64 (d j))) := hdir
  clear hdir
  have hb0 : Below w.heap.size w ((w.alloc (.cells #[.int .i64 a0, .int .i64 a1, .int .i64 a2, .int .i64 a3, .int .i64 (d 0), .int .i64 (d 1), .int .i64 (d 2), .int .i64 (d 3), .int .i64 (d 4), .int .i64 (d 5), .int .i64 (d 6), .int .i64 (d 7), .int .i64 (d 8), .int .i64 (d 9), .int .i64 (d 10), .int .i64 (d 11), .int .i64 a4, .int .i64 a5] 24)).alloc (.cells #[.int .i64 a0, .int .i64 a1, .int .i64 a2, .int .i64 a3] 3)) := below2 w _ _
  go_enter Try.func7, Try.ntmps7
  go_wp2
  generalize (w.alloc (.cells #[.int .i64 a0, .int .i64 a1, .int .i64 a2, .int .i64 a3, .int .i64 (d 0), .int .i64 (d 1), .int .i64 (d 2), .int .i64 (d 3), .int .i64 (d 4), .int .i64 (d 5), .int .i64 (d 6), .int .i64 (d 7), .int .i64 (d 8), .int .i64 (d 9), .int .i64 (d 10), .int .i64 (d 11), .int .i64 a4, .int .i64 a5] 24)).alloc (.cells #[.int .i64 a0, .int .i64 a1, .int .i64 a2, .int .i64 a3] 3) = w1 at *
  go_loopw [4, 5] (fun v i wr => ∃ j : Nat, j ≤ 12 ∧ i = .int .i64 j ∧ wr.ownsRow (w.heap.size + 1) 3 1 v (4 + j) ((nums a0 a1 a2 a3 d j).map (Value.int .i64)) ∧ w.heap.size < wr.heap.size ∧ Below (w.heap.size + 1) w1 wr) (fun _ i _ => 12 - (intOf i).toNat)
  case atStart => exact ⟨0, Nat.zero_le _, rfl, hst, by have := own_lt hst; omega, Below.refl _ _⟩
  case round =>
    obtain ⟨j, hj, rfl, hown, hsz, hb⟩ := hrel
    clear hst
    by_cases hlt : j < 12
    · have hc := (hb.cell (p := ⟨w.heap.size, 4 + j, none⟩) (by show w.heap.size < w.heap.size + 1; omega)).trans (HC1.out (4 + j) _ (HD.out j hlt))
      go_wp2_with (at_builtin; refine wpList_append_own _ rfl _ _ 45 rfl (w.heap.size + 1) 3 i0 (.int .i64 0) 1 8 Try.underlying45 hi hz0 hz1 hz2 rfl (by decide) _ _ _ rfl (hown.alloc _) ⟨wr.heap.size, 0, none⟩ 1 1 [.int .i64 (d j)] rfl rfl ?c1 ?c2 ?c3 ?c4 ?c5 ?_)
      case c1 => intro i u hi; match i, hi with | 0, hi => simp at hi; subst hi; simp [Addr.add]
      case c2 => intro u hu; simp at hu; subst hu; rfl
      case c3 => unfold maxLen; omega
      case c4 => omega
      case c5 => simp; omega
      intro v' w2 hown' hgrow _
      have hb2 : Below (w.heap.size + 1) w1 w2 := (hb.alloc (by omega) _).grown hgrow (by simp; omega) (fun g hg => by
        rcases hown.2 with ⟨rfl, _⟩ | ⟨g', cap, cur, rfl, hg', _⟩
        · simp [Value.ownBlock] at hg
        · simp [Value.ownBlock] at hg; omega)
      have hsz2 : w.heap.size < w2.heap.size := by have := hgrow.size; simp at this; omega
      clear hown hgrow hb hc hsz
      go_wp2
      go_roundw
      case rel => exact ⟨j + 1, by omega, by go_num, by rw [nums_succ, List.map_append]; exact hown', hsz2, hb2⟩
      case measure => simp [intOf]; omega
    · obtain rfl : j = 12 := by omega
      have c16 := (hb.cell (p := ⟨w.heap.size, 16, none⟩) (by show w.heap.size < w.heap.size + 1; omega)).trans (HC1.out 16 (.int .i64 a4) rfl)
      have c17 := (hb.cell (p := ⟨w.heap.size, 17, none⟩) (by show w.heap.size < w.heap.size + 1; omega)).trans (HC1.out 17 (.int .i64 a5) rfl)
      go_wp2_with (at_builtin; refine wpList_append_own _ rfl _ _ 45 rfl (w.heap.size + 1) 3 i0 (.int .i64 0) 1 8 Try.underlying45 hi hz0 hz1 hz2 rfl (by decide) _ _ _ rfl (hown.alloc _) ⟨wr.heap.size, 0, none⟩ 2 2 [.int .i64 a4, .int .i64 a5] rfl rfl ?c6 ?c7 ?c8 ?c9 ?c10 ?_)
      case c6 => intro i u hi; match i, hi with | 0, hi => simp at hi; subst hi; simp [Addr.add] | 1, hi => simp at hi; subst hi; simp [Addr.add]
      case c7 => intro u hu; simp at hu; rcases hu with rfl | rfl <;> rfl
      case c8 => unfold maxLen; omega
      case c9 => omega
      case c10 => simp; omega
      intro v' w2 hown' hgrow _
      have hb2 : Below (w.heap.size + 1) w1 w2 := (hb.alloc (by omega) _).grown hgrow (by simp; omega) (fun g hg => by
        rcases hown.2 with ⟨rfl, _⟩ | ⟨g', cap, cur, rfl, hg', _⟩
        · simp [Value.ownBlock] at hg
        · simp [Value.ownBlock] at hg; omega)
      have hsz2 : w.heap.size < w2.heap.size := by have := hgrow.size; simp at this; omega
      clear hown hgrow hb hsz c16 c17
      have hex : ∃ g cap, v' = .slice (some ⟨g, 0, none⟩) 18 cap := by
        rcases hown'.2 with ⟨_, h⟩ | ⟨g, cap, cur, h, _⟩
        · omega
        · exact ⟨g, cap, h⟩
      obtain ⟨g, cap, hv⟩ := hex
      rw [hv] at hown' ⊢
      clear hv
      have hown2 : w2.ownsRow (w.heap.size + 1) 3 1 (.slice (some ⟨g, 0, none⟩) 18 cap) 18 (((inodePs a0 a1 a2 a3 d a4 a5).map (·.1)).map (Value.int .i64)) := by
        rw [inode_fst, List.map_append]; exact hown'
      clear hown'
      go_wp2_with fail
      refine (inodeWidths_any _).mono ?_
      rintro e w3 ⟨g3, cap3, rfl, hown3, hb3⟩
      have hown4 := ownsRow_below hb3 hown2
      rw [← inode_snd a0 a1 a2 a3 a4 a5 d] at hown3
      have hb4 := hb2.trans (hb3.mono (show w.heap.size + 1 ≤ w2.heap.size by omega))
      have hsz4 : w.heap.size < w3.heap.size := by have := hb3.size; omega
      clear hown2 hb2 hb3 hsz2
      go_wp2_with fail
      refine (rlaid_any (inodePs a0 a1 a2 a3 d a4 a5) 18 (inode_length a0 a1 a2 a3 a4 a5 d) (by decide) g g3 cap cap3 _ (own_lt hown4) (own_lt hown3) (own_cells (inode_length a0 a1 a2 a3 a4 a5 d) hown4) (own_cells (inode_length a0 a1 a2 a3 a4 a5 d) hown3) (fun i h => HM.out _ (List.getElem_mem h))).mono ?_
      rintro e w5 ⟨rfl, hb5⟩
      have hb6 := hb4.trans (hb5.mono (show w.heap.size + 1 ≤ w3.heap.size by omega))
      have hbw : Below w.heap.size w w5 := hb0.trans (hb6.mono (by omega))
      have c0 := (hb6.cell (p := ⟨w.heap.size, 0, none⟩) (by show w.heap.size < w.heap.size + 1; omega)).trans (HC1.out 0 (.int .i64 a0) rfl)
      clear hown3 hown4 hb4 hb5 hsz4 hb6
      cases ho : laidOk (inodePs a0 a1 a2 a3 d a4 a5) with
      | false =>
        have HO : Hid (laidOk (inodePs a0 a1 a2 a3 d a4 a5) = false) := ho
        clear ho
        go_wp2
        go_ret2
        refine ⟨?_, hbw⟩
        unfold inodeS inodeE
        rw [recS_no HO.out, recE_no HO.out]
        split <;> rfl
      | true =>
        have HO : Hid (laidOk (inodePs a0 a1 a2 a3 d a4 a5) = true) := ho
        have h0 : 0 ≤ a0 := by
          have h2 : putE a0 2 = 0 := by
            have : inodePs a0 a1 a2 a3 d a4 a5 = (a0, 2) :: ((inodePs a0 a1 a2 a3 d a4 a5).tail) := by unfold inodePs inoPs; rfl
            rw [this, laidOk] at ho
            simp at ho
            exact ho.1
          rcases Int.lt_or_le a0 0 with h | h
          · have h4 : putE a0 2 = 2 := putE_noRoom (m := 2) (by decide) (by decide) (.inl h)
            omega
          · exact h
        rw [laidS_ok ho]
        have hsz : (⟨(laidL (inodePs a0 a1 a2 a3 d a4 a5)).toArray⟩ : ByteArray).size = 72 := by have := laidL_length _ ho; rw [(inode_widths a0 a1 a2 a3 a4 a5 d).2] at this; simp [ByteArray.size, this]
        clear ho
        generalize hG : (⟨(laidL (inodePs a0 a1 a2 a3 d a4 a5)).toArray⟩ : ByteArray) = gg at *
        have HG : Hid ((⟨(laidL (inodePs a0 a1 a2 a3 d a4 a5)).toArray⟩ : ByteArray) = gg) := hG
        clear hG
        by_cases h3 : 3 < a0
        · go_wp2
          go_ret2
          refine ⟨?_, hbw⟩
          unfold inodeS inodeE
          rw [if_neg (by omega), if_neg (by omega)]
          rfl
        · have hadd := fun w2 => run_string_add_sum (P := Try.prog) (w := w2) gg (noughtsS 376) (by rw [noughtsS_size, hsz]; decide)
          go_wp2_with fail
          refine (noughts_z _ 376 (by first | rfl | simp [hsz] | omega) (by decide) _).mono ?_
          rintro e w7 ⟨rfl, hb7⟩
          go_wp2
          go_ret2
          refine ⟨?_, hbw.trans (hb7.mono hbw.size)⟩
          unfold inodeS inodeE
          rw [if_pos (by omega), if_pos (by omega), recS_ok HO.out, recE_ok HO.out, List.nil_append]
          show Ending.returned (.tuple #[.string (gg ++ noughtsS 376), .int .i64 0]) = _
          rw [pad_append, ← HG.out]
end Go.Proofs.Ytjlilbkddgggoab
