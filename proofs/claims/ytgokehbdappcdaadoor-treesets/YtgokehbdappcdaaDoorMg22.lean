/- The document's Noughts, called with a number from 0 to 4096, tells so many bytes 0, and changes nothing that was there. · The document's numbered, and its vault's Hash (the ideal one). -/
import Derived.Test.YtgokehbdappcdaaDoorMg05
import Derived.Test.YtgokehbdappcdaaDoorMg21
import Derived.Test.YtgokehbdappcdaaDoorMg10
namespace Go.Proofs.YtgokehbdappcdaaDoor
set_option maxRecDepth 20000
open Go.RowKit

/-- The document's Noughts. -/
theorem noughts_any (n : Nat) (h : n ≤ 4096) (w : World) :
    Calls Tryd.prog 64 #[.int .i64 n] w fun e w' => e = .returned (.string (noughtsS n)) ∧ Below w.heap.size w w' := by
  obtain ⟨i0, hi, hz0, hz1, hz2⟩ := info_parts info5
  go_enter Tryd.func64, Tryd.ntmps64
  go_wp2_with (at_make; refine wpList_make_full _ rfl _ _ 107 rfl w.heap.size 5 i0 (.int .u8 0) 1 Tryd.underlying107 hi hz0 hz1 .i64 .i64 _ _ n rfl rfl rfl rfl ?c1 ?c2 (Nat.le_refl _) ?_)
  case c1 => first | omega | (rw [hz2]; omega)
  case c2 => unfold maxLen; omega
  intro w1 hown1 hgrow1
  have hb1 : Below w.heap.size w w1 := (Below.refl _ _).grown hgrow1 (Nat.le_refl _) (fun k hk => by simp at hk)
  have hown2 : w1.ownsRow w.heap.size 5 1 (.slice (some ⟨w.heap.size, 0, none⟩) n n) n (List.replicate n (Value.int .u8 0)) := by
    simpa [toList_madeCells_one, Value.cells] using hown1
  clear hown1 hgrow1
  have hcv := run_convert_bytes_arg (P := Tryd.prog) w1 107 5 Tryd.underlying107 Tryd.underlying5 w.heap.size 0 n n (List.replicate n 0) (by simp) (fun i hi => by
    rw [Nat.zero_add, hown2.cellAt i (by omega)]
    simp [hi, List.getD]) 9 Tryd.underlying9
  rw [show strOfNums (List.replicate n 0) = noughtsS n from rfl] at hcv
  clear hown2
  go_wp2
  go_ret
  exact ⟨rfl, hb1⟩
/-- The same, its argument told by an equation. -/
theorem noughts_z (z : Int) (n : Nat) (hz : z = n) (h : n ≤ 4096) (w : World) :
    Calls Tryd.prog 64 #[.int .i64 z] w fun e w' => e = .returned (.string (noughtsS n)) ∧ Below w.heap.size w w' := by
  subst hz
  exact noughts_any n h w
end Go.Proofs.YtgokehbdappcdaaDoor

namespace Go.Proofs.YtgokehbdappcdaaDoor
set_option maxRecDepth 20000
open Go.RowKit

theorem rnumbered_any (z : Int) (n k : Nat) (hz : z = n) (hn : n < 281474976710656) (hk : 6 ≤ k) (hk2 : k ≤ 4096) (u : Int) (hu : u = k) (w : World) :
    Calls Tryd.prog 45 #[.int .i64 z, .int .i64 u] w fun e w' => e = .returned (.string (wideS n k)) ∧ Below w.heap.size w w' := by
  subst hz hu
  have hp := fun W => rput_any n 6 (by omega) W
  have hsz := put6_size hn
  have ho := fun W => noughts_z ((k : Int) - 6) (k - 6) (by omega) (by omega) W
  have hsn := noughtsS_size (k - 6)
  have HW : Hid (wideS n k = putS n 6 ++ noughtsS (k - 6)) := rfl
  generalize putS n 6 = a at *
  generalize putE n 6 = e6 at *
  generalize noughtsS (k - 6) = b at *
  have ha : ∀ w', (Op.stringOp .add a b).run Tryd.prog w' = .ok (.string (a ++ b)) w' := fun w' => run_string_add_sum (P := Tryd.prog) (w := w') _ _ (by omega)
  have hw6 : wrap64 ((k : Int) - 6) = (k : Int) - 6 := by unfold wrap64; omega
  go_enter Tryd.func45, Tryd.ntmps45
  go_wp2_with fail
  refine (hp _).mono ?_
  rintro e w1 ⟨rfl, hb⟩
  clear hp
  go_wp2_with fail
  refine (ho _).mono ?_
  rintro e w2 ⟨rfl, hb2⟩
  have HB : Hid (Below w.heap.size w w2) := hb.trans (hb2.mono hb.size)
  clear hb hb2 ho
  go_wp2
  go_ret
  exact ⟨by rw [HW.out]; rfl, HB.out⟩

theorem info_str1 : (Tryd.prog.info? 9).map (fun i => (i.zero, i.size, i.bytes)) = some (some (.string ⟨#[]⟩), 1, 16) := by kernel_rfl
theorem texC_at {w : World} {v : Value} {l : List ByteArray} (h : w.ownsRow 0 9 1 v l.length (texC l)) {i : Nat} {x : ByteArray} (hx : l[i]? = some x) : ∃ g cap, v = .slice (some ⟨g, 0, none⟩) l.length cap ∧ w.cell? ⟨g, i, none⟩ = some (.string x) := by
  have hi := (List.getElem?_eq_some_iff.1 hx).1
  obtain ⟨g, cap, rfl, _, hc⟩ := owns_form h (by omega)
  exact ⟨g, cap, rfl, hc i _ (by simpa using texC_get l i x hx 0 (by omega))⟩

set_option maxRecDepth 100000 in
set_option maxHeartbeats 2000000 in
theorem rhash_any (B : Nat) (F : Nat → Prop) (S : VS) (s : ByteArray) (hl : S.texts.length ≤ 1000000) (w : World) (hp : RefV w F B S) :
    Calls Tryd.prog 31 #[.pointer (some ⟨B, 0, none⟩), .string s] w fun e w' => e = .returned (.string (hashS S s)) ∧ RefV w' (grow F w w') B (hashP S s) ∧ Touch F w w' := by
  obtain ⟨hv, pv, fv, h⟩ := hp
  have HP : Hid (RefVAt w F B hv pv fv S) := h
  obtain ⟨oh, ch, rfl⟩ := owns_slice h.hs
  have d0 : w.cell? ⟨B, 0, none⟩ = some (.bool true) := h.row.cell 0
  have d2 : w.cell? ⟨B, 2, none⟩ = some (.slice oh S.texts.length ch) := h.row.cell 2
  have HC : Hid (∀ i x, S.texts[i]? = some x → ∃ g, oh = some ⟨g, 0, none⟩ ∧ w.cell? ⟨g, i, none⟩ = some (.string x)) := fun i x hx => by
    obtain ⟨g, cap, e, hc⟩ := texC_at h.hs hx
    cases e
    exact ⟨g, rfl, hc⟩
  have hle := numOf_le s S.texts
  clear h
  by_cases h0 : numOf S.texts s = 0
  case neg =>
    obtain ⟨k, hk⟩ : ∃ k, numOf S.texts s = k + 1 := ⟨numOf S.texts s - 1, by omega⟩
    have HG : Hid (S.texts[k]? = some s) := numOf_get hk
    have HN : Hid (∀ i, i < k → ∃ x, S.texts[i]? = some x ∧ x ≠ s) := fun i hi => by
      refine ⟨S.texts[i]'(by omega), List.getElem?_eq_getElem _, fun e => ?_⟩
      have := numOf_before hk i hi
      exact this (by rw [List.getElem?_eq_getElem (by omega), e])
    have HR : Hid (hashS S s = wideS (k + 1) 32 ∧ hashP S s = S) := ⟨by unfold hashS; rw [numOf_add, if_neg h0, hk], by unfold hashP; rw [addN_old h0]⟩
    have hnum := fun W => rnumbered_any ((k : Int) + 1) (k + 1) 32 (by omega) (by omega) (by decide) (by decide) 32 rfl W
    have hkl : k < S.texts.length := by omega
    clear h0 hk hle
    go_enter Tryd.func31, Tryd.ntmps31
    go_wp2_with fail
    go_loopw [5] (fun v wr => ∃ j : Nat, j ≤ k ∧ v = .int .i64 j ∧ wr = w) (fun v _ => k - (intOf v).toNat)
    case atStart => exact ⟨0, Nat.zero_le _, rfl, rfl⟩
    case round =>
      obtain ⟨j, hj, rfl, rfl⟩ := hrel
      have j1 : (j : Int) < (S.texts.length : Nat) := by omega
      by_cases hlt : j < k
      · obtain ⟨x, hx, hne⟩ := HN.out j hlt
        obtain ⟨g, rfl, hc⟩ := HC.out j x hx
        have n1 := str_ne hne
        clear hnum
        go_wp2
        go_roundw
        case rel => exact ⟨j + 1, by omega, by go_num, by first | rfl | trivial⟩
        case measure => simp [intOf]; omega
      · obtain rfl : j = k := by omega
        obtain ⟨g, rfl, hc⟩ := HC.out j s HG.out
        go_wp2_with fail
        refine (hnum _).mono ?_
        rintro e w2 ⟨rfl, hb⟩
        have HF : Hid (RefV w2 (grow F wr w2) B S ∧ Touch F wr w2) := ⟨⟨_, _, _, (HP.out.keep fun k hk _ => hb.block k hk).mono fun k _ hf => .inl hf⟩, Touch.of_below hb⟩
        clear hnum hb
        go_wp2
        go_ret
        exact ⟨by rw [HR.out.1]; rfl, by rw [HR.out.2]; exact HF.out.1, HF.out.2⟩
  have HN : Hid (∀ i, i < S.texts.length → ∃ x, S.texts[i]? = some x ∧ x ≠ s) := fun i hi => by
    refine ⟨S.texts[i]'(by omega), List.getElem?_eq_getElem _, fun e => ?_⟩
    exact (numOf_zero.1 h0) (by rw [← e]; exact List.getElem_mem _)
  have HR : Hid (hashS S s = wideS (S.texts.length + 1) 32 ∧ hashP S s = { S with texts := S.texts ++ [s] }) := ⟨by unfold hashS; rw [numOf_add, if_pos h0], by unfold hashP; rw [addN_new h0]⟩
  have hnum := fun W => rnumbered_any ((S.texts.length : Int) + 1) (S.texts.length + 1) 32 (by omega) (by omega) (by decide) (by decide) 32 rfl W
  obtain ⟨i0, hi0, hz0, hz1, hz2⟩ := info_parts info_str1
  obtain ⟨n, hn⟩ : ∃ n, n = S.texts.length := ⟨_, rfl⟩
  have HE : Hid (n = S.texts.length) := hn
  rw [← hn] at d2 hl HN hnum
  clear h0 hle hn
  go_enter Tryd.func31, Tryd.ntmps31
  go_wp2_with fail
  go_loopw [5] (fun v wr => ∃ j : Nat, j ≤ n ∧ v = .int .i64 j ∧ wr = w) (fun v _ => n - (intOf v).toNat)
  case atStart => exact ⟨0, Nat.zero_le _, rfl, rfl⟩
  case round =>
    obtain ⟨j, hj, rfl, rfl⟩ := hrel
    by_cases hlt : j < n
    · have j1 : (j : Int) < n := by omega
      obtain ⟨x, hx, hne⟩ := HN.out j hlt
      obtain ⟨g, rfl, hc⟩ := HC.out j x hx
      have n1 := str_ne hne
      clear hnum
      go_wp2
      go_roundw
      case rel => exact ⟨j + 1, by omega, by go_num, by first | rfl | trivial⟩
      case measure => simp [intOf]; omega
    · obtain rfl : j = n := by omega
      have hnew : (wr.alloc (.cells #[.string s] 9)).heap[wr.heap.size]? = some (.cells #[.string s] 9 (0, 0)) := heap_alloc_new wr _
      have hA : RefVAt (wr.alloc (.cells #[.string s] 9)) F B (.slice oh j ch) pv fv S := by
        have := HP.out.keep (w' := wr.alloc (.cells #[.string s] 9)) fun k hk _ => Below.heap_alloc wr _ k hk
        rw [← HE.out] at this
        exact this
      have hown := hA.hs
      rw [← HE.out] at hown
      have hone : ∀ u ∈ ([.string s] : List Value), u.oneCell' = true := by intro u hu; simp at hu; rw [hu]; rfl
      have hTB : Touch F wr (wr.alloc (.cells #[.string s] 9)) := Touch.of_below ((Below.refl _ _).alloc (Nat.le_refl _) _)
      have HA : Hid _ := hA
      have HTB : Hid _ := hTB
      clear hA hTB HC HN
      go_wp2_with (first | (at_builtin; refine wpList_append_own_at _ rfl _ _ 22 rfl 0 9 i0 (.string ⟨#[]⟩) 1 16 Tryd.underlying22 hi0 hz0 hz1 hz2 rfl (by decide) (.slice oh j ch) j (texC S.texts) rfl hown ⟨wr.heap.size, 0, none⟩ 1 1 [.string s] rfl rfl (World.news_of_block hnew) hone (by unfold maxLen; omega) (by omega) (Nat.zero_le _) ?_))
      intro v1 wB hown1 hgrow1 _ hat1
      obtain ⟨x1, x2, hmid, hT3⟩ := HA.out.add_h (x := s) HTB.out (by rw [← HE.out]; exact hown1) hgrow1 (by rw [show (wr.alloc (.cells #[.string s] 9)).heap.size = wr.heap.size + 1 by simp]; exact hat1)
      obtain ⟨g1, cap1, rfl, hgc, _⟩ := owns_form hown1 (by omega)
      obtain ⟨w5, hw5⟩ : ∃ w5, wB.setCell ⟨B, 2, none⟩ (.slice (some ⟨g1, 0, none⟩) (j + 1) cap1) = w5 := ⟨_, rfl⟩
      rw [hw5] at hmid hT3
      have y2 : w5.cell? ⟨B, 2, none⟩ = some (.slice (some ⟨g1, 0, none⟩) (j + 1) cap1) := hmid.row.cell 2
      have HF : Hid (RefV w5 (grow F wr w5) B (hashP S s) ∧ Touch F wr w5) := ⟨by rw [HR.out.2]; exact ⟨_, _, _, hmid⟩, hT3⟩
      clear hmid hT3 HA HTB hown1 hgrow1 hat1 hown hnew hone
      go_wp2_with fail
      refine (hnum _).mono ?_
      rintro e w6 ⟨rfl, hb⟩
      have HF6 : Hid (RefV w6 (grow F wr w6) B (hashP S s) ∧ Touch F wr w6) := ⟨(HF.out.1.below hb).mono fun k _ hf => hf.imp id fun x => ⟨x.1, Nat.lt_of_lt_of_le x.2 hb.size⟩, HF.out.2.trans (Touch.of_below hb)⟩
      clear hnum hb HF
      go_wp2
      go_ret
      exact ⟨by rw [HR.out.1, ← HE.out]; rfl, HF6.out.1, HF6.out.2⟩
end Go.Proofs.YtgokehbdappcdaaDoor
