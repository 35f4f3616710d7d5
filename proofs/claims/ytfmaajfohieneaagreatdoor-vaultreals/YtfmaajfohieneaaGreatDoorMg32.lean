/- The document's Noughts, called with a number from 0 to 4096, tells so many bytes 0, and changes nothing that was there. · The document's Put, called with any two numbers of type int, tells the bytes putS and the error putE, and changes nothing that was there. · The document's numbered, and its vault's Hash (the ideal one). · The document's vault: the place of a pair, and of a four. -/
import Derived.Test.YtfmaajfohieneaaGreatDoorMg01
import Derived.Test.YtfmaajfohieneaaGreatDoorMg31
namespace Go.Proofs.YtfmaajfohieneaaGreatDoor
set_option maxRecDepth 20000
open Go.RowKit

/-- The document's Noughts. -/
theorem noughts_any (n : Nat) (h : n ≤ 4096) (w : World) :
    Calls Tryz.prog 49 #[.int .i64 n] w fun e w' => e = .returned (.string (noughtsS n)) ∧ Below w.heap.size w w' := by
  obtain ⟨i0, hi, hz0, hz1, hz2⟩ := info_parts info5
  go_enter Tryz.func49, Tryz.ntmps49
  go_wp2_with (at_make; refine wpList_make_full _ rfl _ _ 71 rfl w.heap.size 5 i0 (.int .u8 0) 1 Tryz.underlying71 hi hz0 hz1 .i64 .i64 _ _ n rfl rfl rfl rfl ?c1 ?c2 (Nat.le_refl _) ?_)
  case c1 => first | omega | (rw [hz2]; omega)
  case c2 => unfold maxLen; omega
  intro w1 hown1 hgrow1
  have hb1 : Below w.heap.size w w1 := (Below.refl _ _).grown hgrow1 (Nat.le_refl _) (fun k hk => by simp at hk)
  have hown2 : w1.ownsRow w.heap.size 5 1 (.slice (some ⟨w.heap.size, 0, none⟩) n n) n (List.replicate n (Value.int .u8 0)) := by
    simpa [toList_madeCells_one, Value.cells] using hown1
  clear hown1 hgrow1
  have hcv := run_convert_bytes_arg (P := Tryz.prog) w1 71 5 Tryz.underlying71 Tryz.underlying5 w.heap.size 0 n n (List.replicate n 0) (by simp) (fun i hi => by
    rw [Nat.zero_add, hown2.cellAt i (by omega)]
    simp [hi, List.getD]) 9 Tryz.underlying9
  rw [show strOfNums (List.replicate n 0) = noughtsS n from rfl] at hcv
  clear hown2
  go_wp2
  go_ret
  exact ⟨rfl, hb1⟩
/-- The same, its argument told by an equation. -/
theorem noughts_z (z : Int) (n : Nat) (hz : z = n) (h : n ≤ 4096) (w : World) :
    Calls Tryz.prog 49 #[.int .i64 z] w fun e w' => e = .returned (.string (noughtsS n)) ∧ Below w.heap.size w w' := by
  subst hz
  exact noughts_any n h w
end Go.Proofs.YtfmaajfohieneaaGreatDoor

namespace Go.Proofs.YtfmaajfohieneaaGreatDoor
set_option maxRecDepth 20000
open Go.RowKit

theorem rput_noWidth (n k : Int) (h : k < 1 ∨ 6 < k) (w : World) :
    Calls Tryz.prog 48 #[.int .i64 n, .int .i64 k] w fun e w' => e = .returned (.tuple #[.string ByteArray.empty, .int .i64 1]) ∧ w' = w := by
  rcases h with h | h
  · go_enter Tryz.func48, Tryz.ntmps48
    go_wp2
    go_ret2
    exact ⟨rfl, rfl⟩
  · have h1 : ¬ k < 1 := by omega
    go_enter Tryz.func48, Tryz.ntmps48
    go_wp2
    go_ret2
    exact ⟨rfl, rfl⟩

theorem rput_below (n : Int) (k : Nat) (h1 : 1 ≤ k) (h2 : k ≤ 6) (h : n < 0) (w : World) :
    Calls Tryz.prog 48 #[.int .i64 n, .int .i64 k] w fun e w' => e = .returned (.tuple #[.string ByteArray.empty, .int .i64 2]) ∧ w' = w := by
  have a1 : ¬ (k : Int) < 1 := by omega
  have a2 : ¬ (6 : Int) < k := by omega
  go_enter Tryz.func48, Tryz.ntmps48
  go_wp2
  go_ret2
  exact ⟨rfl, rfl⟩

set_option maxHeartbeats 400000 in
theorem rput_in (n : Int) (k : Nat) (h1 : 1 ≤ k) (h2 : k ≤ 6) (h0 : 0 ≤ n) (hm : n ≤ 9223372036854775807) (w : World) :
    Calls Tryz.prog 48 #[.int .i64 n, .int .i64 k] w fun e w' => e = .returned (.tuple #[.string (putS n k), .int .i64 (putE n k)]) ∧ Below w.heap.size w w' := by
  have a1 : ¬ (k : Int) < 1 := by omega
  have a2 : ¬ (6 : Int) < k := by omega
  have a3 : ¬ n < 0 := by omega
  obtain ⟨i0, hi, hz0, hz1, hz2⟩ := info_parts info5
  go_enter Tryz.func48, Tryz.ntmps48
  go_wp2
  go_loopw [0, 6, 7] (fun x v i wr => ∃ j : Nat, j ≤ k ∧ i = .int .i64 j ∧ x = .int .i64 (n / 256 ^ j) ∧ wr.ownsRow w.heap.size 5 1 v j ((leI j n).map (Value.int .u8)) ∧ Below w.heap.size w wr) (fun _ _ i _ => k - (intOf i).toNat)
  case atStart => exact ⟨0, Nat.zero_le _, rfl, by simp, World.ownsRow_nil _ _ _ _, Below.refl _ _⟩
  case round =>
    obtain ⟨j, hj, rfl, rfl, hown, hb⟩ := hrel
    obtain ⟨q, hq⟩ : ∃ q, q = n / 256 ^ j := ⟨_, rfl⟩
    have hq0 : 0 ≤ q := by rw [hq]; exact Int.ediv_nonneg h0 (Int.le_of_lt (Int.pow_pos (by decide)))
    have hqm : q ≤ 9223372036854775807 := by rw [hq]; exact Int.le_trans (Int.ediv_le_self _ h0) hm
    rw [← hq]
    have HQ : Hid (q = n / 256 ^ j) := hq
    clear hq
    by_cases hlt : j < k
    · go_wp2_with (at_builtin; refine wpList_append_own _ rfl _ _ 71 rfl w.heap.size 5 i0 (.int .u8 0) 1 1 Tryz.underlying71 hi hz0 hz1 hz2 rfl (by decide) _ _ _ rfl (hown.alloc _) ⟨wr.heap.size, 0, none⟩ 1 1 [.int .u8 (q % 256)] rfl rfl ?c1 ?c2 ?c3 ?c4 ?c5 ?_)
      case c1 => intro i u hi; match i, hi with | 0, hi => simp at hi; subst hi; simp [Addr.add]
      case c2 => intro u hu; simp at hu; subst hu; rfl
      case c3 => unfold maxLen; omega
      case c4 => omega
      case c5 => have := hb.size; simp; omega
      intro v' w2 hown' hgrow _
      have hb2 : Below w.heap.size w w2 := (hb.alloc hb.size _).grown hgrow (by have := hb.size; simp; omega) (fun g hg => by
        rcases hown.2 with ⟨rfl, _⟩ | ⟨g', cap, cur, rfl, hg', _⟩
        · simp [Value.ownBlock] at hg
        · simp [Value.ownBlock] at hg; omega)
      clear hown hgrow hb
      go_wp2
      go_roundw
      case rel =>
        refine ⟨j + 1, by omega, by go_num, ?_, ?_, hb2⟩
        · rw [HQ.out, leI_step]
        · rw [leI_succ, List.map_append, ← HQ.out]; exact hown'
      case measure => simp [intOf]; omega
    · have hjk : j = k := by omega
      subst hjk
      by_cases hz : 0 < q
      · have hge : 256 ^ j ≤ n := by
          rw [HQ.out] at hz
          rcases Int.lt_or_le n (256 ^ j) with h | h
          · rw [Int.ediv_eq_zero_of_lt h0 h] at hz; omega
          · exact h
        have HS : Hid (putS n j = ByteArray.empty ∧ putE n j = 2) := ⟨putS_noRoom (.inr hge), putE_noRoom h1 h2 (.inr hge)⟩
        clear hge
        go_wp2
        go_ret2
        exact ⟨by rw [HS.out.1, HS.out.2]; rfl, hb⟩
      · have hlt' : n < 256 ^ j := by
          rw [HQ.out] at hz
          rcases Int.lt_or_le n (256 ^ j) with h | h
          · exact h
          · exact absurd ((Int.le_ediv_iff_mul_le (c := 256 ^ j) (a := 1) (b := n) (Int.pow_pos (by decide))).2 (by omega)) (by omega)
        have HS : Hid (putS n j = strOfNums (leI j n) ∧ putE n j = 0) := ⟨putS_ok h1 h2 h0 hlt', putE_ok h1 h2 h0 hlt'⟩
        clear hlt'
        have hex : ∃ g cap, u6 = .slice (some ⟨g, 0, none⟩) j cap := by
          rcases hown.2 with ⟨_, h⟩ | ⟨g, cap, cur, h, _⟩
          · omega
          · exact ⟨g, cap, h⟩
        obtain ⟨g, cap, hv⟩ := hex
        rw [hv] at hown ⊢
        have hcv := run_convert_bytes_arg (P := Tryz.prog) wr 71 5 Tryz.underlying71 Tryz.underlying5 g 0 j cap (leI j n) (leI_length j n) (fun i hi => by
          rw [Nat.zero_add, hown.cellAt i (by omega)]
          simp [leI_length, hi, List.getD]) 9 Tryz.underlying9
        clear hv
        go_wp2
        go_ret2
        exact ⟨by rw [HS.out.1, HS.out.2]; rfl, hb⟩

/-- The document's Put, whatever it is handed. -/
theorem rput_any (n k : Int) (hm : n ≤ 9223372036854775807) (w : World) :
    Calls Tryz.prog 48 #[.int .i64 n, .int .i64 k] w fun e w' => e = .returned (.tuple #[.string (putS n k), .int .i64 (putE n k)]) ∧ Below w.heap.size w w' := by
  by_cases hk : k < 1 ∨ 6 < k
  · refine (rput_noWidth n k hk w).mono fun e w' ⟨he, hw⟩ => ?_
    rw [putS_noWidth hk, putE_noWidth hk]
    exact ⟨he, hw ▸ Below.refl _ _⟩
  · obtain ⟨m, rfl⟩ := Int.eq_ofNat_of_zero_le (show 0 ≤ k by omega)
    have h1 : 1 ≤ m := by omega
    have h2 : m ≤ 6 := by omega
    by_cases hn : n < 0
    · refine (rput_below n m h1 h2 hn w).mono fun e w' ⟨he, hw⟩ => ?_
      rw [putS_noRoom (.inl hn), putE_noRoom h1 h2 (.inl hn)]
      exact ⟨he, hw ▸ Below.refl _ _⟩
    · exact rput_in n m h1 h2 (by omega) hm w
end Go.Proofs.YtfmaajfohieneaaGreatDoor

namespace Go.Proofs.YtfmaajfohieneaaGreatDoor
set_option maxRecDepth 20000
open Go.RowKit

theorem rnumbered_any (z : Int) (n k : Nat) (hz : z = n) (hn : n < 281474976710656) (hk : 6 ≤ k) (hk2 : k ≤ 4096) (u : Int) (hu : u = k) (w : World) :
    Calls Tryz.prog 30 #[.int .i64 z, .int .i64 u] w fun e w' => e = .returned (.string (wideS n k)) ∧ Below w.heap.size w w' := by
  subst hz hu
  have hp := fun W => rput_any n 6 (by omega) W
  have hsz := put6_size hn
  have ho := fun W => noughts_z ((k : Int) - 6) (k - 6) (by omega) (by omega) W
  have hsn := noughtsS_size (k - 6)
  have HW : Hid (wideS n k = putS n 6 ++ noughtsS (k - 6)) := rfl
  generalize putS n 6 = a at *
  generalize putE n 6 = e6 at *
  generalize noughtsS (k - 6) = b at *
  have ha : ∀ w', (Op.stringOp .add a b).run Tryz.prog w' = .ok (.string (a ++ b)) w' := fun w' => run_string_add_sum (P := Tryz.prog) (w := w') _ _ (by omega)
  have hw6 : wrap64 ((k : Int) - 6) = (k : Int) - 6 := by unfold wrap64; omega
  go_enter Tryz.func30, Tryz.ntmps30
  go_wp2_with fail
  refine (hp _).mono ?_
  rintro e w1 ⟨rfl, hb⟩
  clear hp
  go_wp2_with fail
  refine (ho _).mono ?_
  rintro e w2 ⟨rfl, hb2⟩
  have HB : Hid (Below w.heap.size w w2) := hb.trans (hb2.mono hb.size)
  clear hb hb2 ho
  go_wp2
  go_ret
  exact ⟨by rw [HW.out]; rfl, HB.out⟩

theorem info_str1 : (Tryz.prog.info? 9).map (fun i => (i.zero, i.size, i.bytes)) = some (some (.string ⟨#[]⟩), 1, 16) := by kernel_rfl
theorem texC_at {w : World} {v : Value} {l : List ByteArray} (h : w.ownsRow 0 9 1 v l.length (texC l)) {i : Nat} {x : ByteArray} (hx : l[i]? = some x) : ∃ g cap, v = .slice (some ⟨g, 0, none⟩) l.length cap ∧ w.cell? ⟨g, i, none⟩ = some (.string x) := by
  have hi := (List.getElem?_eq_some_iff.1 hx).1
  obtain ⟨g, cap, rfl, _, hc⟩ := owns_form h (by omega)
  exact ⟨g, cap, rfl, hc i _ (by simpa using texC_get l i x hx 0 (by omega))⟩

set_option maxRecDepth 100000 in
set_option maxHeartbeats 2000000 in
theorem rhash_any (B : Nat) (F : Nat → Prop) (S : VS) (s : ByteArray) (hl : S.texts.length ≤ 1000000) (w : World) (hp : RefV w F B S) :
    Calls Tryz.prog 13 #[.pointer (some ⟨B, 0, none⟩), .string s] w fun e w' => e = .returned (.string (hashS S s)) ∧ RefV w' (grow F w w') B (hashP S s) ∧ Touch F w w' := by
  obtain ⟨hv, pv, fv, h⟩ := hp
  have HP : Hid (RefVAt w F B hv pv fv S) := h
  obtain ⟨oh, ch, rfl⟩ := owns_slice h.hs
  have d0 : w.cell? ⟨B, 0, none⟩ = some (.bool true) := h.row.cell 0
  have d2 : w.cell? ⟨B, 2, none⟩ = some (.slice oh S.texts.length ch) := h.row.cell 2
  have HC : Hid (∀ i x, S.texts[i]? = some x → ∃ g, oh = some ⟨g, 0, none⟩ ∧ w.cell? ⟨g, i, none⟩ = some (.string x)) := fun i x hx => by
    obtain ⟨g, cap, e, hc⟩ := texC_at h.hs hx
    cases e
    exact ⟨g, rfl, hc⟩
  have hle := numOf_le s S.texts
  clear h
  by_cases h0 : numOf S.texts s = 0
  case neg =>
    obtain ⟨k, hk⟩ : ∃ k, numOf S.texts s = k + 1 := ⟨numOf S.texts s - 1, by omega⟩
    have HG : Hid (S.texts[k]? = some s) := numOf_get hk
    have HN : Hid (∀ i, i < k → ∃ x, S.texts[i]? = some x ∧ x ≠ s) := fun i hi => by
      refine ⟨S.texts[i]'(by omega), List.getElem?_eq_getElem _, fun e => ?_⟩
      have := numOf_before hk i hi
      exact this (by rw [List.getElem?_eq_getElem (by omega), e])
    have HR : Hid (hashS S s = wideS (k + 1) 32 ∧ hashP S s = S) := ⟨by unfold hashS; rw [numOf_add, if_neg h0, hk], by unfold hashP; rw [addN_old h0]⟩
    have hnum := fun W => rnumbered_any ((k : Int) + 1) (k + 1) 32 (by omega) (by omega) (by decide) (by decide) 32 rfl W
    have hkl : k < S.texts.length := by omega
    clear h0 hk hle
    go_enter Tryz.func13, Tryz.ntmps13
    go_wp2_with fail
    go_loopw [5] (fun v wr => ∃ j : Nat, j ≤ k ∧ v = .int .i64 j ∧ wr = w) (fun v _ => k - (intOf v).toNat)
    case atStart => exact ⟨0, Nat.zero_le _, rfl, rfl⟩
    case round =>
      obtain ⟨j, hj, rfl, rfl⟩ := hrel
      have j1 : (j : Int) < (S.texts.length : Nat) := by omega
      by_cases hlt : j < k
      · obtain ⟨x, hx, hne⟩ := HN.out j hlt
        obtain ⟨g, rfl, hc⟩ := HC.out j x hx
        have n1 := str_ne hne
        clear hnum
        go_wp2
        go_roundw
        case rel => exact ⟨j + 1, by omega, by go_num, by first | rfl | trivial⟩
        case measure => simp [intOf]; omega
      · obtain rfl : j = k := by omega
        obtain ⟨g, rfl, hc⟩ := HC.out j s HG.out
        go_wp2_with fail
        refine (hnum _).mono ?_
        rintro e w2 ⟨rfl, hb⟩
        have HF : Hid (RefV w2 (grow F wr w2) B S ∧ Touch F wr w2) := ⟨⟨_, _, _, (HP.out.keep fun k hk _ => hb.block k hk).mono fun k _ hf => .inl hf⟩, Touch.of_below hb⟩
        clear hnum hb
        go_wp2
        go_ret
        exact ⟨by rw [HR.out.1]; rfl, by rw [HR.out.2]; exact HF.out.1, HF.out.2⟩
  have HN : Hid (∀ i, i < S.texts.length → ∃ x, S.texts[i]? = some x ∧ x ≠ s) := fun i hi => by
    refine ⟨S.texts[i]'(by omega), List.getElem?_eq_getElem _, fun e => ?_⟩
    exact (numOf_zero.1 h0) (by rw [← e]; exact List.getElem_mem _)
  have HR : Hid (hashS S s = wideS (S.texts.length + 1) 32 ∧ hashP S s = { S with texts := S.texts ++ [s] }) := ⟨by unfold hashS; rw [numOf_add, if_pos h0], by unfold hashP; rw [addN_new h0]⟩
  have hnum := fun W => rnumbered_any ((S.texts.length : Int) + 1) (S.texts.length + 1) 32 (by omega) (by omega) (by decide) (by decide) 32 rfl W
  obtain ⟨i0, hi0, hz0, hz1, hz2⟩ := info_parts info_str1
  obtain ⟨n, hn⟩ : ∃ n, n = S.texts.length := ⟨_, rfl⟩
  have HE : Hid (n = S.texts.length) := hn
  rw [← hn] at d2 hl HN hnum
  clear h0 hle hn
  go_enter Tryz.func13, Tryz.ntmps13
  go_wp2_with fail
  go_loopw [5] (fun v wr => ∃ j : Nat, j ≤ n ∧ v = .int .i64 j ∧ wr = w) (fun v _ => n - (intOf v).toNat)
  case atStart => exact ⟨0, Nat.zero_le _, rfl, rfl⟩
  case round =>
    obtain ⟨j, hj, rfl, rfl⟩ := hrel
    by_cases hlt : j < n
    · have j1 : (j : Int) < n := by omega
      obtain ⟨x, hx, hne⟩ := HN.out j hlt
      obtain ⟨g, rfl, hc⟩ := HC.out j x hx
      have n1 := str_ne hne
      clear hnum
      go_wp2
      go_roundw
      case rel => exact ⟨j + 1, by omega, by go_num, by first | rfl | trivial⟩
      case measure => simp [intOf]; omega
    · obtain rfl : j = n := by omega
      have hnew : (wr.alloc (.cells #[.string s] 9)).heap[wr.heap.size]? = some (.cells #[.string s] 9 (0, 0)) := heap_alloc_new wr _
      have hA : RefVAt (wr.alloc (.cells #[.string s] 9)) F B (.slice oh j ch) pv fv S := by
        have := HP.out.keep (w' := wr.alloc (.cells #[.string s] 9)) fun k hk _ => Below.heap_alloc wr _ k hk
        rw [← HE.out] at this
        exact this
      have hown := hA.hs
      rw [← HE.out] at hown
      have hone : ∀ u ∈ ([.string s] : List Value), u.oneCell' = true := by intro u hu; simp at hu; rw [hu]; rfl
      have hTB : Touch F wr (wr.alloc (.cells #[.string s] 9)) := Touch.of_below ((Below.refl _ _).alloc (Nat.le_refl _) _)
      have HA : Hid _ := hA
      have HTB : Hid _ := hTB
      clear hA hTB HC HN
      go_wp2_with (first | (at_builtin; refine wpList_append_own_at _ rfl _ _ 45 rfl 0 9 i0 (.string ⟨#[]⟩) 1 16 Tryz.underlying45 hi0 hz0 hz1 hz2 rfl (by decide) (.slice oh j ch) j (texC S.texts) rfl hown ⟨wr.heap.size, 0, none⟩ 1 1 [.string s] rfl rfl (World.news_of_block hnew) hone (by unfold maxLen; omega) (by omega) (Nat.zero_le _) ?_))
      intro v1 wB hown1 hgrow1 _ hat1
      obtain ⟨x1, x2, hmid, hT3⟩ := HA.out.add_h (x := s) HTB.out (by rw [← HE.out]; exact hown1) hgrow1 (by rw [show (wr.alloc (.cells #[.string s] 9)).heap.size = wr.heap.size + 1 by simp]; exact hat1)
      obtain ⟨g1, cap1, rfl, hgc, _⟩ := owns_form hown1 (by omega)
      obtain ⟨w5, hw5⟩ : ∃ w5, wB.setCell ⟨B, 2, none⟩ (.slice (some ⟨g1, 0, none⟩) (j + 1) cap1) = w5 := ⟨_, rfl⟩
      rw [hw5] at hmid hT3
      have y2 : w5.cell? ⟨B, 2, none⟩ = some (.slice (some ⟨g1, 0, none⟩) (j + 1) cap1) := hmid.row.cell 2
      have HF : Hid (RefV w5 (grow F wr w5) B (hashP S s) ∧ Touch F wr w5) := ⟨by rw [HR.out.2]; exact ⟨_, _, _, hmid⟩, hT3⟩
      clear hmid hT3 HA HTB hown1 hgrow1 hat1 hown hnew hone
      go_wp2_with fail
      refine (hnum _).mono ?_
      rintro e w6 ⟨rfl, hb⟩
      have HF6 : Hid (RefV w6 (grow F wr w6) B (hashP S s) ∧ Touch F wr w6) := ⟨(HF.out.1.below hb).mono fun k _ hf => hf.imp id fun x => ⟨x.1, Nat.lt_of_lt_of_le x.2 hb.size⟩, HF.out.2.trans (Touch.of_below hb)⟩
      clear hnum hb HF
      go_wp2
      go_ret
      exact ⟨by rw [HR.out.1, ← HE.out]; rfl, HF6.out.1, HF6.out.2⟩
end Go.Proofs.YtfmaajfohieneaaGreatDoor

namespace Go.Proofs.YtfmaajfohieneaaGreatDoor
set_option maxRecDepth 20000
open Go.RowKit

theorem marC_at {w : World} {v : Value} {l : List (ByteArray × ByteArray)} (h : w.ownsRow 0 77 2 v l.length (marC l)) {i : Nat} {x : ByteArray × ByteArray} (hx : l[i]? = some x) : ∃ g cap, v = .slice (some ⟨g, 0, none⟩) l.length cap ∧ w.cell? ⟨g, i * 2, none⟩ = some (.string x.1) ∧ w.cell? ⟨g, i * 2 + 1, none⟩ = some (.string x.2) := by
  have hi := (List.getElem?_eq_some_iff.1 hx).1
  obtain ⟨g, cap, rfl, _, hc⟩ := owns_form h (by omega)
  exact ⟨g, cap, rfl, hc _ _ (marC_get l i x hx 0 (by omega)), hc _ _ (marC_get l i x hx 1 (by omega))⟩
theorem fouC_at {w : World} {v : Value} {l : List Four} (h : w.ownsRow 0 82 4 v l.length (fouC l)) {i : Nat} {x : Four} (hx : l[i]? = some x) : ∃ g cap, v = .slice (some ⟨g, 0, none⟩) l.length cap ∧ w.cell? ⟨g, i * 4, none⟩ = some (.int .i64 x.salt) ∧ w.cell? ⟨g, i * 4 + 1, none⟩ = some (.string x.nonce) ∧ w.cell? ⟨g, i * 4 + 2, none⟩ = some (.string x.ad) ∧ w.cell? ⟨g, i * 4 + 3, none⟩ = some (.string x.text) := by
  have hi := (List.getElem?_eq_some_iff.1 hx).1
  obtain ⟨g, cap, rfl, _, hc⟩ := owns_form h (by omega)
  exact ⟨g, cap, rfl, hc _ _ (fouC_get l i x hx 0 (by omega)), hc _ _ (fouC_get l i x hx 1 (by omega)), hc _ _ (fouC_get l i x hx 2 (by omega)), hc _ _ (fouC_get l i x hx 3 (by omega))⟩
/-- How far a search goes: to the first place, or to the end; and what stands ahead. -/
theorem search {α : Type} [DecidableEq α] (l : List α) (x : α) : ∃ K : Nat, K ≤ l.length ∧ (∀ i, i < K → ∃ y, l[i]? = some y ∧ y ≠ x) ∧ ((K = l.length ∧ numOf l x = 0) ∨ (K < l.length ∧ l[K]? = some x ∧ numOf l x = K + 1)) := by
  by_cases h0 : numOf l x = 0
  · refine ⟨l.length, Nat.le_refl _, fun i hi => ⟨l[i], List.getElem?_eq_getElem hi, fun e => ?_⟩, .inl ⟨rfl, h0⟩⟩
    exact (numOf_zero.1 h0) (by rw [← e]; exact List.getElem_mem _)
  · obtain ⟨k, hk⟩ : ∃ k, numOf l x = k + 1 := ⟨numOf l x - 1, by omega⟩
    have hle := numOf_le x l
    refine ⟨k, by omega, fun i hi => ⟨l[i]'(by omega), List.getElem?_eq_getElem _, fun e => ?_⟩, .inr ⟨by omega, numOf_get hk, hk⟩⟩
    exact numOf_before hk i hi (by rw [List.getElem?_eq_getElem (by omega), e])

set_option maxRecDepth 100000 in
set_option maxHeartbeats 2000000 in
theorem rpair_any (B : Nat) (F : Nat → Prop) (S : VS) (a s : ByteArray) (hl : S.marks.length ≤ 1000000) (w : World) (hp : RefV w F B S) :
    Calls Tryz.prog 32 #[.pointer (some ⟨B, 0, none⟩), .string a, .string s] w fun e w' => e = .returned (.int .i64 ((numOf S.marks (a, s) : Nat) - 1)) ∧ w' = w := by
  obtain ⟨hv, pv, fv, h⟩ := hp
  obtain ⟨op, cp, rfl⟩ := owns_slice h.ps
  have d3 : w.cell? ⟨B, 3, none⟩ = some (.slice op S.marks.length cp) := h.row.cell 3
  have HC : Hid (∀ i x, S.marks[i]? = some x → ∃ g, op = some ⟨g, 0, none⟩ ∧ w.cell? ⟨g, i * 2, none⟩ = some (.string x.1) ∧ w.cell? ⟨g, i * 2 + 1, none⟩ = some (.string x.2)) := fun i x hx => by
    obtain ⟨g, cap, e, hc⟩ := marC_at h.ps hx
    cases e
    exact ⟨g, rfl, hc⟩
  obtain ⟨K, hK, HN, hend⟩ := search S.marks (a, s)
  have HN : Hid (∀ i, i < K → ∃ y, S.marks[i]? = some y ∧ y ≠ (a, s)) := HN
  generalize hn : S.marks.length = n at *
  clear h hn
  rcases hend with ⟨hKe, hk0⟩ | ⟨hKn, HG, hk0⟩
  case' inl =>
    have hKn : ¬ K < n := by omega
    clear hKe
    have HR : Hid (((numOf S.marks (a, s) : Nat) : Int) - 1 = -1) := (show ((numOf S.marks (a, s) : Nat) : Int) - 1 = -1 by omega)
  case' inr =>
    have HR : Hid (((numOf S.marks (a, s) : Nat) : Int) - 1 = K) := (show ((numOf S.marks (a, s) : Nat) : Int) - 1 = K by omega)
    have HG : Hid (S.marks[K]? = some (a, s)) := HG
  all_goals
    rw [HR.out]
    clear hk0
    go_enter Tryz.func32, Tryz.ntmps32
    go_wp2_with fail
    go_loopw [7] (fun v wr => ∃ j : Nat, j ≤ K ∧ v = .int .i64 j ∧ wr = w) (fun v _ => K - (intOf v).toNat)
    case atStart => exact ⟨0, Nat.zero_le _, rfl, rfl⟩
  all_goals
    obtain ⟨j, hj, rfl, rfl⟩ := hrel
    by_cases hlt : j < K
    case pos =>
      have j1 : (j : Int) < (n : Nat) := by omega
      obtain ⟨⟨y1, y2⟩, hx, hne⟩ := HN.out j hlt
      obtain ⟨g, rfl, c1, c2⟩ := HC.out j _ hx
      simp only at c1 c2
      by_cases e1 : y1 = a
      · subst e1
        have n2 := str_ne (show y2 ≠ s from fun e => hne (by rw [e]))
        clear hx hne
        go_wp2
        go_roundw
        case rel => exact ⟨j + 1, by omega, by go_num, by first | rfl | trivial⟩
        case measure => simp [intOf]; omega
      · have n1 := str_ne e1
        clear hx hne
        go_wp2
        go_roundw
        case rel => exact ⟨j + 1, by omega, by go_num, by first | rfl | trivial⟩
        case measure => simp [intOf]; omega
  · obtain rfl : j = K := by omega
    have j1 : (j : Int) < (n : Nat) := by omega
    obtain ⟨g, rfl, c1, c2⟩ := HC.out j _ HG.out
    simp only at c1 c2
    go_wp2
    go_ret
    exact ⟨rfl, rfl⟩
  · obtain rfl : j = K := by omega
    have j1 : ¬ (j : Int) < (n : Nat) := by omega
    go_wp2
    go_ret
    exact ⟨rfl, rfl⟩

set_option maxRecDepth 100000 in
set_option maxHeartbeats 4000000 in
theorem rfour_any (B : Nat) (F : Nat → Prop) (S : VS) (x : Four) (hl : S.seals.length ≤ 1000000) (w : World) (hp : RefV w F B S) :
    Calls Tryz.prog 36 #[.pointer (some ⟨B, 0, none⟩), keyS x] w fun e w' => e = .returned (.int .i64 ((numOf S.seals x : Nat) - 1)) ∧ Below w.heap.size w w' := by
  obtain ⟨hv, pv, fv, h⟩ := hp
  obtain ⟨op, cp, rfl⟩ := owns_slice h.fs
  have hBw := h.row.lt
  have HD : Hid (∀ W, Below w.heap.size w W → W.cell? ⟨B, 4, none⟩ = some (.slice op S.seals.length cp)) := fun W hW => (World.cell?_of_block (a := ⟨B, 4, none⟩) (hW.block B hBw)).trans (h.row.cell 4)
  have HC : Hid (∀ i x, S.seals[i]? = some x → ∀ W, Below w.heap.size w W → ∃ g, op = some ⟨g, 0, none⟩ ∧ W.cell? ⟨g, i * 4, none⟩ = some (.int .i64 x.salt) ∧ W.cell? ⟨g, i * 4 + 1, none⟩ = some (.string x.nonce) ∧ W.cell? ⟨g, i * 4 + 2, none⟩ = some (.string x.ad) ∧ W.cell? ⟨g, i * 4 + 3, none⟩ = some (.string x.text)) := fun i x hx W hW => by
    obtain ⟨g, cap, e, hc0, hc1, hc2, hc3⟩ := fouC_at h.fs hx
    cases e
    have hk := hW.block g (lt_of_cell hc0)
    exact ⟨g, rfl, (World.cell?_of_block (a := ⟨g, i * 4, none⟩) hk).trans hc0, (World.cell?_of_block (a := ⟨g, i * 4 + 1, none⟩) hk).trans hc1, (World.cell?_of_block (a := ⟨g, i * 4 + 2, none⟩) hk).trans hc2, (World.cell?_of_block (a := ⟨g, i * 4 + 3, none⟩) hk).trans hc3⟩
  obtain ⟨K, hK, HN, hend⟩ := search S.seals x
  have HN : Hid (∀ i, i < K → ∃ y, S.seals[i]? = some y ∧ y ≠ x) := HN
  generalize hn : S.seals.length = n at *
  clear h hn
  obtain ⟨z, a, b, c⟩ := x
  simp only [keyS]
  obtain ⟨w0, hw0⟩ : ∃ w0, w.alloc (.cells #[.int .i64 z, .string a, .string b, .string c] 82) = w0 := ⟨_, rfl⟩
  have r0 : w0.heap[w.heap.size]? = some (.cells #[.int .i64 z, .string a, .string b, .string c] 82 (0, 0)) := by rw [← hw0]; exact heap_alloc_new w _
  have hb0 : Below w.heap.size w w0 := by rw [← hw0]; exact (Below.refl w.heap.size w).alloc (Nat.le_refl _) _
  have HB : Hid (w0.heap[w.heap.size]? = some (.cells #[.int .i64 z, .string a, .string b, .string c] 82 (0, 0)) ∧ Below w.heap.size w w0) := ⟨r0, hb0⟩
  clear r0 hb0
  rcases hend with ⟨hKe, hk0⟩ | ⟨hKn, HG, hk0⟩
  case' inl =>
    have hKn : ¬ K < n := by omega
    clear hKe
    have HR : Hid (((numOf S.seals ⟨z, a, b, c⟩ : Nat) : Int) - 1 = -1) := (show ((numOf S.seals ⟨z, a, b, c⟩ : Nat) : Int) - 1 = -1 by omega)
  case' inr =>
    have HR : Hid (((numOf S.seals ⟨z, a, b, c⟩ : Nat) : Int) - 1 = K) := (show ((numOf S.seals ⟨z, a, b, c⟩ : Nat) : Int) - 1 = K by omega)
    have HG : Hid (S.seals[K]? = some ⟨z, a, b, c⟩) := HG
  all_goals
    rw [HR.out]
    clear hk0
    go_enter Tryz.func36, Tryz.ntmps36
    go_wp2_with fail
    try rw [hw0]
    go_loopw [5] (fun v wr => ∃ j : Nat, j ≤ K ∧ v = .int .i64 j ∧ wr.heap[w.heap.size]? = some (.cells #[.int .i64 z, .string a, .string b, .string c] 82 (0, 0)) ∧ Below w.heap.size w wr) (fun v _ => K - (intOf v).toNat)
    case atStart => exact ⟨0, Nat.zero_le _, rfl, HB.out.1, HB.out.2⟩
  all_goals
    clear HB
    obtain ⟨j, hj, rfl, hr, hT⟩ := hrel
    have d4 := HD.out wr hT
    have hrl := lt_of_block hr
    by_cases hlt : j < K
    case pos =>
      have j1 : (j : Int) < (n : Nat) := by omega
      obtain ⟨⟨y0, y1, y2, y3⟩, hx, hne⟩ := HN.out j hlt
      obtain ⟨g, rfl, c0, c1, c2, c3⟩ := HC.out j _ hx wr hT
      simp only at c0 c1 c2 c3
      have hX := (Below.refl wr.heap.size wr).alloc (Nat.le_refl _) (.cells #[.int .i64 y0, .string y1, .string y2, .string y3] 82)
      have rX := heap_alloc_new wr (.cells #[.int .i64 y0, .string y1, .string y2, .string y3] 82)
      have hrX := (hX.block w.heap.size hrl).trans hr
      have hTX := hT.trans (hX.mono hT.size)
      obtain ⟨wX, hwX⟩ : ∃ wX, wr.alloc (.cells #[.int .i64 y0, .string y1, .string y2, .string y3] 82) = wX := ⟨_, rfl⟩
      rw [hwX] at rX hrX hTX
      have f0 : wX.cell? ⟨wr.heap.size, 0, none⟩ = some (.int .i64 y0) := cell_of_row _ _ _ _ _ _ rX
      have f1 : wX.cell? ⟨wr.heap.size, 1, none⟩ = some (.string y1) := cell_of_row _ _ _ _ _ _ rX
      have f2 : wX.cell? ⟨wr.heap.size, 2, none⟩ = some (.string y2) := cell_of_row _ _ _ _ _ _ rX
      have f3 : wX.cell? ⟨wr.heap.size, 3, none⟩ = some (.string y3) := cell_of_row _ _ _ _ _ _ rX
      have x0 : wX.cell? ⟨w.heap.size, 0, none⟩ = some (.int .i64 z) := cell_of_row _ _ _ _ _ _ hrX
      have x1 : wX.cell? ⟨w.heap.size, 1, none⟩ = some (.string a) := cell_of_row _ _ _ _ _ _ hrX
      have x2 : wX.cell? ⟨w.heap.size, 2, none⟩ = some (.string b) := cell_of_row _ _ _ _ _ _ hrX
      have x3 : wX.cell? ⟨w.heap.size, 3, none⟩ = some (.string c) := cell_of_row _ _ _ _ _ _ hrX
      have HF : Hid (wX.heap[w.heap.size]? = some (.cells #[.int .i64 z, .string a, .string b, .string c] 82 (0, 0)) ∧ Below w.heap.size w wX) := ⟨hrX, hTX⟩
      clear hX rX hrX hTX hr hT hx
      by_cases e0 : y0 = z
      · have m0 : (y0 == z) = true := by simp [e0]
        by_cases e1 : y1 = a
        · have m1 : (y1.toList == a.toList) = true := by simp [e1]
          by_cases e2 : y2 = b
          · have m2 : (y2.toList == b.toList) = true := by simp [e2]
            have n3 := str_ne (show y3 ≠ c from fun e => hne (by rw [e0, e1, e2, e]))
            clear hne e0 e1 e2
            go_wp2
            go_roundw
            case rel => exact ⟨j + 1, by omega, by go_num, HF.out.1, HF.out.2⟩
            case measure => simp [intOf]; omega
          · have n2 := str_ne e2
            clear hne e0 e1
            go_wp2
            go_roundw
            case rel => exact ⟨j + 1, by omega, by go_num, HF.out.1, HF.out.2⟩
            case measure => simp [intOf]; omega
        · have n1 := str_ne e1
          clear hne e0
          go_wp2
          go_roundw
          case rel => exact ⟨j + 1, by omega, by go_num, HF.out.1, HF.out.2⟩
          case measure => simp [intOf]; omega
      · have n0 : (y0 == z) = false := beq_false_of_ne e0
        clear hne
        go_wp2
        go_roundw
        case rel => exact ⟨j + 1, by omega, by go_num, HF.out.1, HF.out.2⟩
        case measure => simp [intOf]; omega
  · obtain rfl : j = K := by omega
    have j1 : (j : Int) < (n : Nat) := by omega
    obtain ⟨g, rfl, c0, c1, c2, c3⟩ := HC.out j _ HG.out wr hT
    simp only at c0 c1 c2 c3
    have hX := (Below.refl wr.heap.size wr).alloc (Nat.le_refl _) (.cells #[.int .i64 z, .string a, .string b, .string c] 82)
    have rX := heap_alloc_new wr (.cells #[.int .i64 z, .string a, .string b, .string c] 82)
    have hrX := (hX.block w.heap.size hrl).trans hr
    have hTX := hT.trans (hX.mono hT.size)
    obtain ⟨wX, hwX⟩ : ∃ wX, wr.alloc (.cells #[.int .i64 z, .string a, .string b, .string c] 82) = wX := ⟨_, rfl⟩
    rw [hwX] at rX hrX hTX
    have f0 : wX.cell? ⟨wr.heap.size, 0, none⟩ = some (.int .i64 z) := cell_of_row _ _ _ _ _ _ rX
    have f1 : wX.cell? ⟨wr.heap.size, 1, none⟩ = some (.string a) := cell_of_row _ _ _ _ _ _ rX
    have f2 : wX.cell? ⟨wr.heap.size, 2, none⟩ = some (.string b) := cell_of_row _ _ _ _ _ _ rX
    have f3 : wX.cell? ⟨wr.heap.size, 3, none⟩ = some (.string c) := cell_of_row _ _ _ _ _ _ rX
    have x0 : wX.cell? ⟨w.heap.size, 0, none⟩ = some (.int .i64 z) := cell_of_row _ _ _ _ _ _ hrX
    have x1 : wX.cell? ⟨w.heap.size, 1, none⟩ = some (.string a) := cell_of_row _ _ _ _ _ _ hrX
    have x2 : wX.cell? ⟨w.heap.size, 2, none⟩ = some (.string b) := cell_of_row _ _ _ _ _ _ hrX
    have x3 : wX.cell? ⟨w.heap.size, 3, none⟩ = some (.string c) := cell_of_row _ _ _ _ _ _ hrX
    have HF : Hid (Below w.heap.size w wX) := hTX
    clear hX rX hrX hTX hr hT HG HC HN HD
    go_wp2
    go_ret
    exact ⟨rfl, HF.out⟩
  · obtain rfl : j = K := by omega
    have j1 : ¬ (j : Int) < (n : Nat) := by omega
    have HF : Hid (Below w.heap.size w wr) := hT
    clear hr hT HC HN HD
    go_wp2
    go_ret
    exact ⟨rfl, HF.out⟩
end Go.Proofs.YtfmaajfohieneaaGreatDoor
