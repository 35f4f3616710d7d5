/- The document's Put, called with any two numbers of type int, tells the bytes putS and the error putE, and changes nothing that was there. · The document's numbered, and its vault's Hash (the ideal one). · The document's vault: the place of a pair, and of a four. · The document's vault, the ideal one: Mac, Made, Seal, Open. · The document's real vault, over what the document's sum and box tell. · Heads that lie in memory, heads that are compared, readings in one form. -/
import Derived.Test.YtoopaigpjefonaaGreatDoorMg00
import Derived.Test.YtoopaigpjefonaaGreatDoorMg24
import Derived.Test.YtoopaigpjefonaaGreatDoorMg23
namespace Go.Proofs.YtoopaigpjefonaaGreatDoor
set_option maxRecDepth 20000
open Go.RowKit

theorem rput_noWidth (n k : Int) (h : k < 1 ∨ 6 < k) (w : World) :
    Calls Tryz.prog 137 #[.int .i64 n, .int .i64 k] w fun e w' => e = .returned (.tuple #[.string ByteArray.empty, .int .i64 1]) ∧ w' = w := by
  rcases h with h | h
  · go_enter Tryz.func137, Tryz.ntmps137
    go_wp2
    go_ret2
    exact ⟨rfl, rfl⟩
  · have h1 : ¬ k < 1 := by omega
    go_enter Tryz.func137, Tryz.ntmps137
    go_wp2
    go_ret2
    exact ⟨rfl, rfl⟩

theorem rput_below (n : Int) (k : Nat) (h1 : 1 ≤ k) (h2 : k ≤ 6) (h : n < 0) (w : World) :
    Calls Tryz.prog 137 #[.int .i64 n, .int .i64 k] w fun e w' => e = .returned (.tuple #[.string ByteArray.empty, .int .i64 2]) ∧ w' = w := by
  have a1 : ¬ (k : Int) < 1 := by omega
  have a2 : ¬ (6 : Int) < k := by omega
  go_enter Tryz.func137, Tryz.ntmps137
  go_wp2
  go_ret2
  exact ⟨rfl, rfl⟩

set_option maxHeartbeats 400000 in
theorem rput_in (n : Int) (k : Nat) (h1 : 1 ≤ k) (h2 : k ≤ 6) (h0 : 0 ≤ n) (hm : n ≤ 9223372036854775807) (w : World) :
    Calls Tryz.prog 137 #[.int .i64 n, .int .i64 k] w fun e w' => e = .returned (.tuple #[.string (putS n k), .int .i64 (putE n k)]) ∧ Below w.heap.size w w' := by
  have a1 : ¬ (k : Int) < 1 := by omega
  have a2 : ¬ (6 : Int) < k := by omega
  have a3 : ¬ n < 0 := by omega
  obtain ⟨i0, hi, hz0, hz1, hz2⟩ := info_parts info5
  go_enter Tryz.func137, Tryz.ntmps137
  go_wp2
  go_loopw [0, 6, 7] (fun x v i wr => ∃ j : Nat, j ≤ k ∧ i = .int .i64 j ∧ x = .int .i64 (n / 256 ^ j) ∧ wr.ownsRow w.heap.size 5 1 v j ((leI j n).map (Value.int .u8)) ∧ Below w.heap.size w wr) (fun _ _ i _ => k - (intOf i).toNat)
  case atStart => exact ⟨0, Nat.zero_le _, rfl, by simp, World.ownsRow_nil _ _ _ _, Below.refl _ _⟩
  case round =>
    obtain ⟨j, hj, rfl, rfl, hown, hb⟩ := hrel
    obtain ⟨q, hq⟩ : ∃ q, q = n / 256 ^ j := ⟨_, rfl⟩
    have hq0 : 0 ≤ q := by rw [hq]; exact Int.ediv_nonneg h0 (Int.le_of_lt (Int.pow_pos (by decide)))
    have hqm : q ≤ 9223372036854775807 := by rw [hq]; exact Int.le_trans (Int.ediv_le_self _ h0) hm
    rw [← hq]
    have HQ : Hid (q = n / 256 ^ j) := hq
    clear hq
    by_cases hlt : j < k
    · go_wp2_with (at_builtin; refine wpList_append_own _ rfl _ _ 143 rfl w.heap.size 5 i0 (.int .u8 0) 1 1 Tryz.underlying143 hi hz0 hz1 hz2 rfl (by decide) _ _ _ rfl (hown.alloc _) ⟨wr.heap.size, 0, none⟩ 1 1 [.int .u8 (q % 256)] rfl rfl ?c1 ?c2 ?c3 ?c4 ?c5 ?_)
      case c1 => intro i u hi; match i, hi with | 0, hi => simp at hi; subst hi; simp [Addr.add]
      case c2 => intro u hu; simp at hu; subst hu; rfl
      case c3 => unfold maxLen; omega
      case c4 => omega
      case c5 => have := hb.size; simp; omega
      intro v' w2 hown' hgrow _
      have hb2 : Below w.heap.size w w2 := (hb.alloc hb.size _).grown hgrow (by have := hb.size; simp; omega) (fun g hg => by
        rcases hown.2 with ⟨rfl, _⟩ | ⟨g', cap, cur, rfl, hg', _⟩
        · simp [Value.ownBlock] at hg
        · simp [Value.ownBlock] at hg; omega)
      clear hown hgrow hb
      go_wp2
      go_roundw
      case rel =>
        refine ⟨j + 1, by omega, by go_num, ?_, ?_, hb2⟩
        · rw [HQ.out, leI_step]
        · rw [leI_succ, List.map_append, ← HQ.out]; exact hown'
      case measure => simp [intOf]; omega
    · have hjk : j = k := by omega
      subst hjk
      by_cases hz : 0 < q
      · have hge : 256 ^ j ≤ n := by
          rw [HQ.out] at hz
          rcases Int.lt_or_le n (256 ^ j) with h | h
          · rw [Int.ediv_eq_zero_of_lt h0 h] at hz; omega
          · exact h
        have HS : Hid (putS n j = ByteArray.empty ∧ putE n j = 2) := ⟨putS_noRoom (.inr hge), putE_noRoom h1 h2 (.inr hge)⟩
        clear hge
        go_wp2
        go_ret2
        exact ⟨by rw [HS.out.1, HS.out.2]; rfl, hb⟩
      · have hlt' : n < 256 ^ j := by
          rw [HQ.out] at hz
          rcases Int.lt_or_le n (256 ^ j) with h | h
          · exact h
          · exact absurd ((Int.le_ediv_iff_mul_le (c := 256 ^ j) (a := 1) (b := n) (Int.pow_pos (by decide))).2 (by omega)) (by omega)
        have HS : Hid (putS n j = strOfNums (leI j n) ∧ putE n j = 0) := ⟨putS_ok h1 h2 h0 hlt', putE_ok h1 h2 h0 hlt'⟩
        clear hlt'
        have hex : ∃ g cap, u6 = .slice (some ⟨g, 0, none⟩) j cap := by
          rcases hown.2 with ⟨_, h⟩ | ⟨g, cap, cur, h, _⟩
          · omega
          · exact ⟨g, cap, h⟩
        obtain ⟨g, cap, hv⟩ := hex
        rw [hv] at hown ⊢
        have hcv := run_convert_bytes_arg (P := Tryz.prog) wr 143 5 Tryz.underlying143 Tryz.underlying5 g 0 j cap (leI j n) (leI_length j n) (fun i hi => by
          rw [Nat.zero_add, hown.cellAt i (by omega)]
          simp [leI_length, hi, List.getD]) 9 Tryz.underlying9
        clear hv
        go_wp2
        go_ret2
        exact ⟨by rw [HS.out.1, HS.out.2]; rfl, hb⟩

/-- The document's Put, whatever it is handed. -/
theorem rput_any (n k : Int) (hm : n ≤ 9223372036854775807) (w : World) :
    Calls Tryz.prog 137 #[.int .i64 n, .int .i64 k] w fun e w' => e = .returned (.tuple #[.string (putS n k), .int .i64 (putE n k)]) ∧ Below w.heap.size w w' := by
  by_cases hk : k < 1 ∨ 6 < k
  · refine (rput_noWidth n k hk w).mono fun e w' ⟨he, hw⟩ => ?_
    rw [putS_noWidth hk, putE_noWidth hk]
    exact ⟨he, hw ▸ Below.refl _ _⟩
  · obtain ⟨m, rfl⟩ := Int.eq_ofNat_of_zero_le (show 0 ≤ k by omega)
    have h1 : 1 ≤ m := by omega
    have h2 : m ≤ 6 := by omega
    by_cases hn : n < 0
    · refine (rput_below n m h1 h2 hn w).mono fun e w' ⟨he, hw⟩ => ?_
      rw [putS_noRoom (.inl hn), putE_noRoom h1 h2 (.inl hn)]
      exact ⟨he, hw ▸ Below.refl _ _⟩
    · exact rput_in n m h1 h2 (by omega) hm w
end Go.Proofs.YtoopaigpjefonaaGreatDoor

namespace Go.Proofs.YtoopaigpjefonaaGreatDoor
set_option maxRecDepth 20000
open Go.RowKit

theorem rnumbered_any (z : Int) (n k : Nat) (hz : z = n) (hn : n < 281474976710656) (hk : 6 ≤ k) (hk2 : k ≤ 4096) (u : Int) (hu : u = k) (w : World) :
    Calls Tryz.prog 151 #[.int .i64 z, .int .i64 u] w fun e w' => e = .returned (.string (wideS n k)) ∧ Below w.heap.size w w' := by
  subst hz hu
  have hp := fun W => rput_any n 6 (by omega) W
  have hsz := put6_size hn
  have ho := fun W => noughts_z ((k : Int) - 6) (k - 6) (by omega) (by omega) W
  have hsn := noughtsS_size (k - 6)
  have HW : Hid (wideS n k = putS n 6 ++ noughtsS (k - 6)) := rfl
  generalize putS n 6 = a at *
  generalize putE n 6 = e6 at *
  generalize noughtsS (k - 6) = b at *
  have ha : ∀ w', (Op.stringOp .add a b).run Tryz.prog w' = .ok (.string (a ++ b)) w' := fun w' => run_string_add_sum (P := Tryz.prog) (w := w') _ _ (by omega)
  have hw6 : wrap64 ((k : Int) - 6) = (k : Int) - 6 := by unfold wrap64; omega
  go_enter Tryz.func151, Tryz.ntmps151
  go_wp2_with fail
  refine (hp _).mono ?_
  rintro e w1 ⟨rfl, hb⟩
  clear hp
  go_wp2_with fail
  refine (ho _).mono ?_
  rintro e w2 ⟨rfl, hb2⟩
  have HB : Hid (Below w.heap.size w w2) := hb.trans (hb2.mono hb.size)
  clear hb hb2 ho
  go_wp2
  go_ret
  exact ⟨by rw [HW.out]; rfl, HB.out⟩

theorem info_str1 : (Tryz.prog.info? 9).map (fun i => (i.zero, i.size, i.bytes)) = some (some (.string ⟨#[]⟩), 1, 16) := by kernel_rfl
theorem texC_at {w : World} {v : Value} {l : List ByteArray} (h : w.ownsRow 0 9 1 v l.length (texC l)) {i : Nat} {x : ByteArray} (hx : l[i]? = some x) : ∃ g cap, v = .slice (some ⟨g, 0, none⟩) l.length cap ∧ w.cell? ⟨g, i, none⟩ = some (.string x) := by
  have hi := (List.getElem?_eq_some_iff.1 hx).1
  obtain ⟨g, cap, rfl, _, hc⟩ := owns_form h (by omega)
  exact ⟨g, cap, rfl, hc i _ (by simpa using texC_get l i x hx 0 (by omega))⟩

end Go.Proofs.YtoopaigpjefonaaGreatDoor

namespace Go.Proofs.YtoopaigpjefonaaGreatDoor
set_option maxRecDepth 20000
open Go.RowKit

theorem marC_at {w : World} {v : Value} {l : List (ByteArray × ByteArray)} (h : w.ownsRow 0 373 2 v l.length (marC l)) {i : Nat} {x : ByteArray × ByteArray} (hx : l[i]? = some x) : ∃ g cap, v = .slice (some ⟨g, 0, none⟩) l.length cap ∧ w.cell? ⟨g, i * 2, none⟩ = some (.string x.1) ∧ w.cell? ⟨g, i * 2 + 1, none⟩ = some (.string x.2) := by
  have hi := (List.getElem?_eq_some_iff.1 hx).1
  obtain ⟨g, cap, rfl, _, hc⟩ := owns_form h (by omega)
  exact ⟨g, cap, rfl, hc _ _ (marC_get l i x hx 0 (by omega)), hc _ _ (marC_get l i x hx 1 (by omega))⟩
theorem fouC_at {w : World} {v : Value} {l : List Four} (h : w.ownsRow 0 256 4 v l.length (fouC l)) {i : Nat} {x : Four} (hx : l[i]? = some x) : ∃ g cap, v = .slice (some ⟨g, 0, none⟩) l.length cap ∧ w.cell? ⟨g, i * 4, none⟩ = some (.int .i64 x.salt) ∧ w.cell? ⟨g, i * 4 + 1, none⟩ = some (.string x.nonce) ∧ w.cell? ⟨g, i * 4 + 2, none⟩ = some (.string x.ad) ∧ w.cell? ⟨g, i * 4 + 3, none⟩ = some (.string x.text) := by
  have hi := (List.getElem?_eq_some_iff.1 hx).1
  obtain ⟨g, cap, rfl, _, hc⟩ := owns_form h (by omega)
  exact ⟨g, cap, rfl, hc _ _ (fouC_get l i x hx 0 (by omega)), hc _ _ (fouC_get l i x hx 1 (by omega)), hc _ _ (fouC_get l i x hx 2 (by omega)), hc _ _ (fouC_get l i x hx 3 (by omega))⟩
/-- How far a search goes: to the first place, or to the end; and what stands ahead. -/
theorem search {α : Type} [DecidableEq α] (l : List α) (x : α) : ∃ K : Nat, K ≤ l.length ∧ (∀ i, i < K → ∃ y, l[i]? = some y ∧ y ≠ x) ∧ ((K = l.length ∧ numOf l x = 0) ∨ (K < l.length ∧ l[K]? = some x ∧ numOf l x = K + 1)) := by
  by_cases h0 : numOf l x = 0
  · refine ⟨l.length, Nat.le_refl _, fun i hi => ⟨l[i], List.getElem?_eq_getElem hi, fun e => ?_⟩, .inl ⟨rfl, h0⟩⟩
    exact (numOf_zero.1 h0) (by rw [← e]; exact List.getElem_mem _)
  · obtain ⟨k, hk⟩ : ∃ k, numOf l x = k + 1 := ⟨numOf l x - 1, by omega⟩
    have hle := numOf_le x l
    refine ⟨k, by omega, fun i hi => ⟨l[i]'(by omega), List.getElem?_eq_getElem _, fun e => ?_⟩, .inr ⟨by omega, numOf_get hk, hk⟩⟩
    exact numOf_before hk i hi (by rw [List.getElem?_eq_getElem (by omega), e])

set_option maxRecDepth 100000 in
set_option maxHeartbeats 4000000 in
theorem rfour_any (B : Nat) (F : Nat → Prop) (S : VS) (x : Four) (hl : S.seals.length ≤ 1000000) (w : World) (hp : RefV w F B S) :
    Calls Tryz.prog 152 #[.pointer (some ⟨B, 0, none⟩), keyS x] w fun e w' => e = .returned (.int .i64 ((numOf S.seals x : Nat) - 1)) ∧ Below w.heap.size w w' := by
  obtain ⟨hv, pv, fv, h⟩ := hp
  obtain ⟨op, cp, rfl⟩ := owns_slice h.fs
  have hBw := h.row.lt
  have HD : Hid (∀ W, Below w.heap.size w W → W.cell? ⟨B, 4, none⟩ = some (.slice op S.seals.length cp)) := fun W hW => (World.cell?_of_block (a := ⟨B, 4, none⟩) (hW.block B hBw)).trans (h.row.cell 4)
  have HC : Hid (∀ i x, S.seals[i]? = some x → ∀ W, Below w.heap.size w W → ∃ g, op = some ⟨g, 0, none⟩ ∧ W.cell? ⟨g, i * 4, none⟩ = some (.int .i64 x.salt) ∧ W.cell? ⟨g, i * 4 + 1, none⟩ = some (.string x.nonce) ∧ W.cell? ⟨g, i * 4 + 2, none⟩ = some (.string x.ad) ∧ W.cell? ⟨g, i * 4 + 3, none⟩ = some (.string x.text)) := fun i x hx W hW => by
    obtain ⟨g, cap, e, hc0, hc1, hc2, hc3⟩ := fouC_at h.fs hx
    cases e
    have hk := hW.block g (lt_of_cell hc0)
    exact ⟨g, rfl, (World.cell?_of_block (a := ⟨g, i * 4, none⟩) hk).trans hc0, (World.cell?_of_block (a := ⟨g, i * 4 + 1, none⟩) hk).trans hc1, (World.cell?_of_block (a := ⟨g, i * 4 + 2, none⟩) hk).trans hc2, (World.cell?_of_block (a := ⟨g, i * 4 + 3, none⟩) hk).trans hc3⟩
  obtain ⟨K, hK, HN, hend⟩ := search S.seals x
  have HN : Hid (∀ i, i < K → ∃ y, S.seals[i]? = some y ∧ y ≠ x) := HN
  generalize hn : S.seals.length = n at *
  clear h hn
  obtain ⟨z, a, b, c⟩ := x
  simp only [keyS]
  obtain ⟨w0, hw0⟩ : ∃ w0, w.alloc (.cells #[.int .i64 z, .string a, .string b, .string c] 256) = w0 := ⟨_, rfl⟩
  have r0 : w0.heap[w.heap.size]? = some (.cells #[.int .i64 z, .string a, .string b, .string c] 256 (0, 0)) := by rw [← hw0]; exact heap_alloc_new w _
  have hb0 : Below w.heap.size w w0 := by rw [← hw0]; exact (Below.refl w.heap.size w).alloc (Nat.le_refl _) _
  have HB : Hid (w0.heap[w.heap.size]? = some (.cells #[.int .i64 z, .string a, .string b, .string c] 256 (0, 0)) ∧ Below w.heap.size w w0) := ⟨r0, hb0⟩
  clear r0 hb0
  rcases hend with ⟨hKe, hk0⟩ | ⟨hKn, HG, hk0⟩
  case' inl =>
    have hKn : ¬ K < n := by omega
    clear hKe
    have HR : Hid (((numOf S.seals ⟨z, a, b, c⟩ : Nat) : Int) - 1 = -1) := (show ((numOf S.seals ⟨z, a, b, c⟩ : Nat) : Int) - 1 = -1 by omega)
  case' inr =>
    have HR : Hid (((numOf S.seals ⟨z, a, b, c⟩ : Nat) : Int) - 1 = K) := (show ((numOf S.seals ⟨z, a, b, c⟩ : Nat) : Int) - 1 = K by omega)
    have HG : Hid (S.seals[K]? = some ⟨z, a, b, c⟩) := HG
  all_goals
    rw [HR.out]
    clear hk0
    go_enter Tryz.func152, Tryz.ntmps152
    go_wp2_with fail
    try rw [hw0]
    go_loopw [5] (fun v wr => ∃ j : Nat, j ≤ K ∧ v = .int .i64 j ∧ wr.heap[w.heap.size]? = some (.cells #[.int .i64 z, .string a, .string b, .string c] 256 (0, 0)) ∧ Below w.heap.size w wr) (fun v _ => K - (intOf v).toNat)
    case atStart => exact ⟨0, Nat.zero_le _, rfl, HB.out.1, HB.out.2⟩
  all_goals
    clear HB
    obtain ⟨j, hj, rfl, hr, hT⟩ := hrel
    have d4 := HD.out wr hT
    have hrl := lt_of_block hr
    by_cases hlt : j < K
    case pos =>
      have j1 : (j : Int) < (n : Nat) := by omega
      obtain ⟨⟨y0, y1, y2, y3⟩, hx, hne⟩ := HN.out j hlt
      obtain ⟨g, rfl, c0, c1, c2, c3⟩ := HC.out j _ hx wr hT
      simp only at c0 c1 c2 c3
      have hX := (Below.refl wr.heap.size wr).alloc (Nat.le_refl _) (.cells #[.int .i64 y0, .string y1, .string y2, .string y3] 256)
      have rX := heap_alloc_new wr (.cells #[.int .i64 y0, .string y1, .string y2, .string y3] 256)
      have hrX := (hX.block w.heap.size hrl).trans hr
      have hTX := hT.trans (hX.mono hT.size)
      obtain ⟨wX, hwX⟩ : ∃ wX, wr.alloc (.cells #[.int .i64 y0, .string y1, .string y2, .string y3] 256) = wX := ⟨_, rfl⟩
      rw [hwX] at rX hrX hTX
      have f0 : wX.cell? ⟨wr.heap.size, 0, none⟩ = some (.int .i64 y0) := cell_of_row _ _ _ _ _ _ rX
      have f1 : wX.cell? ⟨wr.heap.size, 1, none⟩ = some (.string y1) := cell_of_row _ _ _ _ _ _ rX
      have f2 : wX.cell? ⟨wr.heap.size, 2, none⟩ = some (.string y2) := cell_of_row _ _ _ _ _ _ rX
      have f3 : wX.cell? ⟨wr.heap.size, 3, none⟩ = some (.string y3) := cell_of_row _ _ _ _ _ _ rX
      have x0 : wX.cell? ⟨w.heap.size, 0, none⟩ = some (.int .i64 z) := cell_of_row _ _ _ _ _ _ hrX
      have x1 : wX.cell? ⟨w.heap.size, 1, none⟩ = some (.string a) := cell_of_row _ _ _ _ _ _ hrX
      have x2 : wX.cell? ⟨w.heap.size, 2, none⟩ = some (.string b) := cell_of_row _ _ _ _ _ _ hrX
      have x3 : wX.cell? ⟨w.heap.size, 3, none⟩ = some (.string c) := cell_of_row _ _ _ _ _ _ hrX
      have HF : Hid (wX.heap[w.heap.size]? = some (.cells #[.int .i64 z, .string a, .string b, .string c] 256 (0, 0)) ∧ Below w.heap.size w wX) := ⟨hrX, hTX⟩
      clear hX rX hrX hTX hr hT hx
      by_cases e0 : y0 = z
      · have m0 : (y0 == z) = true := by simp [e0]
        by_cases e1 : y1 = a
        · have m1 : (y1.toList == a.toList) = true := by simp [e1]
          by_cases e2 : y2 = b
          · have m2 : (y2.toList == b.toList) = true := by simp [e2]
            have n3 := str_ne (show y3 ≠ c from fun e => hne (by rw [e0, e1, e2, e]))
            clear hne e0 e1 e2
            go_wp2
            go_roundw
            case rel => exact ⟨j + 1, by omega, by go_num, HF.out.1, HF.out.2⟩
            case measure => simp [intOf]; omega
          · have n2 := str_ne e2
            clear hne e0 e1
            go_wp2
            go_roundw
            case rel => exact ⟨j + 1, by omega, by go_num, HF.out.1, HF.out.2⟩
            case measure => simp [intOf]; omega
        · have n1 := str_ne e1
          clear hne e0
          go_wp2
          go_roundw
          case rel => exact ⟨j + 1, by omega, by go_num, HF.out.1, HF.out.2⟩
          case measure => simp [intOf]; omega
      · have n0 : (y0 == z) = false := beq_false_of_ne e0
        clear hne
        go_wp2
        go_roundw
        case rel => exact ⟨j + 1, by omega, by go_num, HF.out.1, HF.out.2⟩
        case measure => simp [intOf]; omega
  · obtain rfl : j = K := by omega
    have j1 : (j : Int) < (n : Nat) := by omega
    obtain ⟨g, rfl, c0, c1, c2, c3⟩ := HC.out j _ HG.out wr hT
    simp only at c0 c1 c2 c3
    have hX := (Below.refl wr.heap.size wr).alloc (Nat.le_refl _) (.cells #[.int .i64 z, .string a, .string b, .string c] 256)
    have rX := heap_alloc_new wr (.cells #[.int .i64 z, .string a, .string b, .string c] 256)
    have hrX := (hX.block w.heap.size hrl).trans hr
    have hTX := hT.trans (hX.mono hT.size)
    obtain ⟨wX, hwX⟩ : ∃ wX, wr.alloc (.cells #[.int .i64 z, .string a, .string b, .string c] 256) = wX := ⟨_, rfl⟩
    rw [hwX] at rX hrX hTX
    have f0 : wX.cell? ⟨wr.heap.size, 0, none⟩ = some (.int .i64 z) := cell_of_row _ _ _ _ _ _ rX
    have f1 : wX.cell? ⟨wr.heap.size, 1, none⟩ = some (.string a) := cell_of_row _ _ _ _ _ _ rX
    have f2 : wX.cell? ⟨wr.heap.size, 2, none⟩ = some (.string b) := cell_of_row _ _ _ _ _ _ rX
    have f3 : wX.cell? ⟨wr.heap.size, 3, none⟩ = some (.string c) := cell_of_row _ _ _ _ _ _ rX
    have x0 : wX.cell? ⟨w.heap.size, 0, none⟩ = some (.int .i64 z) := cell_of_row _ _ _ _ _ _ hrX
    have x1 : wX.cell? ⟨w.heap.size, 1, none⟩ = some (.string a) := cell_of_row _ _ _ _ _ _ hrX
    have x2 : wX.cell? ⟨w.heap.size, 2, none⟩ = some (.string b) := cell_of_row _ _ _ _ _ _ hrX
    have x3 : wX.cell? ⟨w.heap.size, 3, none⟩ = some (.string c) := cell_of_row _ _ _ _ _ _ hrX
    have HF : Hid (Below w.heap.size w wX) := hTX
    clear hX rX hrX hTX hr hT HG HC HN HD
    go_wp2
    go_ret
    exact ⟨rfl, HF.out⟩
  · obtain rfl : j = K := by omega
    have j1 : ¬ (j : Int) < (n : Nat) := by omega
    have HF : Hid (Below w.heap.size w wr) := hT
    clear hr hT HC HN HD
    go_wp2
    go_ret
    exact ⟨rfl, HF.out⟩
end Go.Proofs.YtoopaigpjefonaaGreatDoor

namespace Go.Proofs.YtoopaigpjefonaaGreatDoor
set_option maxRecDepth 20000
open Go.RowKit

theorem rwrong_any (z : Int) (a : ByteArray) (w : World) : Calls Tryz.prog 148 #[.int .i64 z, .string a] w fun e w' => e = .returned (.bool (!fitB z a)) ∧ w' = w := by
  by_cases h1 : z < 0
  · have hr : fitB z a = false := by unfold fitB; simp; intro h; omega
    rw [hr]
    go_enter Tryz.func148, Tryz.ntmps148
    go_wp2
    go_ret
    exact ⟨rfl, rfl⟩
  by_cases h2 : 281474976710655 < z
  · have hr : fitB z a = false := by unfold fitB; simp; intro _ h; omega
    rw [hr]
    go_enter Tryz.func148, Tryz.ntmps148
    go_wp2
    go_ret
    exact ⟨rfl, rfl⟩
  by_cases h3 : (a.size : Int) = 12
  · have hr : fitB z a = true := by unfold fitB; simp; omega
    have h4 : ((a.size : Int) == 12) = true := by simp [h3]
    rw [hr]
    go_enter Tryz.func148, Tryz.ntmps148
    go_wp2
    go_ret
    exact ⟨rfl, rfl⟩
  · have hr : fitB z a = false := by unfold fitB; simp; omega
    have h4 : ((a.size : Int) == 12) = false := beq_false_of_ne h3
    have h5 : ((a.size : Int) != 12) = true := by simp [bne, h4]
    rw [hr]
    go_enter Tryz.func148, Tryz.ntmps148
    go_wp2
    go_ret
    exact ⟨rfl, rfl⟩
theorem beq_dec3 (a b : ByteArray) : (a.toList == b.toList) = decide (a = b) := by
  by_cases e : a = b
  · subst e; simp
  · rw [str_ne e]; simp [e]
theorem info_pair : (Tryz.prog.info? 373).map (fun i => (i.zero, i.size, i.bytes)) = some (some (.agg #[.string ⟨#[]⟩, .string ⟨#[]⟩]), 2, 32) := by kernel_rfl
theorem info_four : (Tryz.prog.info? 256).map (fun i => (i.zero, i.size, i.bytes)) = some (some (.agg #[.int .i64 0, .string ⟨#[]⟩, .string ⟨#[]⟩, .string ⟨#[]⟩]), 4, 56) := by kernel_rfl

end Go.Proofs.YtoopaigpjefonaaGreatDoor

namespace Go.Proofs.YtoopaigpjefonaaGreatDoor
set_option maxRecDepth 20000
open Go.RowKit

structure RPrims (f : PF) : Prop where
  sum : ∀ s : ByteArray, s.size ≤ 1048576 → ∀ w, Calls Tryz.prog 129 #[.string s] w fun e w' => e = .returned (.string (f.sum s)) ∧ Below w.heap.size w w'
  mac : ∀ k s : ByteArray, k.size ≤ 1048576 → s.size ≤ 1048576 → ∀ w, Calls Tryz.prog 88 #[.string k, .string s] w fun e w' => e = .returned (.string (f.mac k s)) ∧ Below w.heap.size w w'
  macz : ∀ k s, (f.mac k s).size = 32
  exp : ∀ k i : ByteArray, k.size ≤ 1048576 → i.size ≤ 1048576 → ∀ w, Calls Tryz.prog 174 #[.string k, .string i, .int .i64 32] w fun e w' => e = .returned (.tuple #[.string (f.exp k i), .int .i64 0]) ∧ Below w.heap.size w w'
  expz : ∀ k i, (f.exp k i).size = 32
  shut : ∀ k n a s : ByteArray, a.size ≤ 1048576 → s.size ≤ 1048576 → ∀ w, Calls Tryz.prog 149 #[.string k, .string n, .string a, .string s] w fun e w' => e = .returned (.tuple #[.string (f.shut k n a s), .int .i64 (f.shutX k n)]) ∧ Below w.heap.size w w'
def RefR (w : World) (B : Nat) (key : ByteArray) : Prop := Row w B 109 [.bool false, .string key, .slice none 0 0, .slice none 0 0, .slice none 0 0]
theorem RefR.keep {w w' : World} {B : Nat} {key : ByteArray} (h : RefR w B key) (hb : Below w.heap.size w w') : RefR w' B key := Row.below h hb (Row.lt h)
theorem wide6 (n : Nat) : wideS n 6 = putS n 6 := by
  unfold wideS
  apply ByteArray.ext
  simp [ByteArray.data_append, noughtsS, strOfNums]

section
variable {f : PF}
theorem under_any (P : RPrims f) (B : Nat) (key p : ByteArray) (hk : key.size ≤ 1048576) (hp : p.size ≤ 1048576) (w : World) (hr : RefR w B key) :
    Calls Tryz.prog 150 #[.pointer (some ⟨B, 0, none⟩), .string p] w fun e w' => e = .returned (.string (f.exp key p)) ∧ Below w.heap.size w w' := by
  have h := P.exp key p hk hp w
  have c : w.cell? ⟨B, 1, none⟩ = some (.string key) := Row.cell hr 1
  generalize f.exp key p = x at *
  clear P hk hp hr
  go_enter Tryz.func150, Tryz.ntmps150
  go_wp2_with fail
  refine h.mono ?_
  rintro e w1 ⟨rfl, hb⟩
  clear h c
  go_wp2
  go_ret
  exact ⟨rfl, hb⟩
set_option maxHeartbeats 1000000 in
theorem rrseal_any (P : RPrims f) (B : Nat) (key : ByteArray) (z : Int) (n a s : ByteArray) (hk : key.size ≤ 1048576) (hA : a.size ≤ 1048576) (hs : s.size ≤ 1048576) (w : World) (hr : RefR w B key) :
    Calls Tryz.prog 116 #[.pointer (some ⟨B, 0, none⟩), .int .i64 z, .string n, .string a, .string s] w fun e w' => e = .returned (.tuple #[.string (sealRS f key z n a s), .int .i64 (sealRE f key z n)]) ∧ Below w.heap.size w w' := by
  have hwr := rwrong_any z n w
  unfold sealRS sealRE
  cases hb : fitB z n <;> rw [hb] at hwr
  · simp only [Bool.false_eq_true, if_false, Bool.not_false] at hwr ⊢
    clear P hk hA hs hr
    go_enter Tryz.func116, Tryz.ntmps116
    go_wp2_with fail
    refine hwr.mono ?_
    rintro e w1 ⟨rfl, rfl⟩
    clear hwr
    go_wp2
    go_ret2
    exact ⟨rfl, Below.refl _ _⟩
  simp only [if_true, Bool.not_true] at hwr ⊢
  have hbb := of_decide_eq_true hb
  obtain ⟨m, rfl⟩ : ∃ m : Nat, z = m := ⟨z.toNat, by omega⟩
  have c : w.cell? ⟨B, 0, none⟩ = some (.bool false) := Row.cell hr 0
  have hnum := rnumbered_any (m : Int) m 6 rfl (by omega) (by decide) (by decide) 6 rfl w
  rw [wide6] at hnum
  have hz := put6_le m
  have HR : Hid (sealK f key m = f.exp key (sealTT ++ putS m 6)) := rfl
  generalize putS m 6 = p at *
  have hz2 : (sealTT ++ p).size ≤ 1048576 := by rw [ByteArray.size_append, show sealTT.size = 5 from rfl]; omega
  have ha : ∀ w', (Op.stringOp .add ⟨#[115, 101, 97, 108, 32]⟩ p).run Tryz.prog w' = .ok (.string (sealTT ++ p)) w' := fun w' => run_string_add_sum (P := Tryz.prog) (w := w') _ _ (by rw [show (⟨#[115, 101, 97, 108, 32]⟩ : ByteArray).size = 5 from rfl]; omega)
  have hu := fun W (hW : Below w.heap.size w W) => under_any P B key (sealTT ++ p) hk hz2 W (hr.keep hW)
  have hs2 := fun W => P.shut (sealK f key m) n a s hA hs W
  rw [HR.out] at hs2 ⊢
  generalize sealTT ++ p = q at *
  generalize f.exp key q = x at *
  generalize f.shut x n a s = t at *
  generalize f.shutX x n = v at *
  clear P hk hA hs hr hz hz2 hb hbb
  go_enter Tryz.func116, Tryz.ntmps116
  go_wp2_with fail
  refine hwr.mono ?_
  rintro e w1 ⟨rfl, rfl⟩
  clear hwr
  go_wp2_with fail
  refine hnum.mono ?_
  rintro e w2 ⟨rfl, hb2⟩
  clear hnum c
  go_wp2_with fail
  refine (hu _ hb2).mono ?_
  rintro e w3 ⟨rfl, hb3⟩
  have hB3 := hb2.trans (hb3.mono hb2.size)
  clear hu hb2 hb3
  go_wp2_with fail
  refine (hs2 _).mono ?_
  rintro e w4 ⟨rfl, hb4⟩
  have HB : Hid (Below w1.heap.size w1 w4) := hB3.trans (hb4.mono hB3.size)
  clear hs2 hB3 hb4
  go_wp2
  go_ret2
  exact ⟨rfl, HB.out⟩
end
theorem rreal_no {pass salt X : ByteArray} {rounds c : Int} (w : World) (hc : ¬ c = 0) (hs : Calls Tryz.prog 49 #[.string pass, .string salt, .int .i64 rounds, .int .i64 32] w fun e w' => e = .returned (.tuple #[.string X, .int .i64 c]) ∧ Below w.heap.size w w') :
    Calls Tryz.prog 18 #[.string pass, .string salt, .int .i64 rounds] w fun e w' => e = .returned (.tuple #[.pointer none, .int .i64 c]) ∧ Below w.heap.size w w' := by
  have hc1 : (c != 0) = true := by simpa using hc
  have hc2 : (c == 0) = false := beq_false_of_ne hc
  clear hc
  go_enter Tryz.func18, Tryz.ntmps18
  go_wp2_with fail
  refine hs.mono ?_
  rintro e w1 ⟨rfl, hb⟩
  have HB : Hid _ := hb
  clear hs hb
  go_wp2
  go_ret2
  exact ⟨rfl, HB.out⟩
theorem rreal_yes {pass salt X : ByteArray} {rounds : Int} (w : World) (hs : Calls Tryz.prog 49 #[.string pass, .string salt, .int .i64 rounds, .int .i64 32] w fun e w' => e = .returned (.tuple #[.string X, .int .i64 0]) ∧ Below w.heap.size w w') :
    Calls Tryz.prog 18 #[.string pass, .string salt, .int .i64 rounds] w fun e w' => ∃ B, e = .returned (.tuple #[.pointer (some ⟨B, 0, none⟩), .int .i64 0]) ∧ RefR w' B X ∧ Below w.heap.size w w' := by
  go_enter Tryz.func18, Tryz.ntmps18
  go_wp2_with fail
  refine hs.mono ?_
  rintro e w1 ⟨rfl, hb⟩
  have HB : Hid _ := hb
  clear hs hb
  go_wp2
  go_ret2
  exact ⟨w1.heap.size, rfl, heap_alloc_new w1 _, HB.out.alloc HB.out.size _⟩
end Go.Proofs.YtoopaigpjefonaaGreatDoor

namespace Go.Proofs.YtoopaigpjefonaaGreatDoor
set_option maxRecDepth 20000
open Go.RowKit Go.Lib

theorem hd_cells {w : World} {b : Nat} {h : Hd} (g : w.heap[b]? = some (.cells #[.int .i64 h.v0, .int .i64 h.v1, .int .i64 h.v2, .int .i64 h.v3, .int .i64 h.v4, .int .i64 h.v5, .int .i64 h.v6, .int .i64 h.v7] 121 (0, 0))) : w.cell? ⟨b, 0, none⟩ = some (.int .i64 h.v0) ∧ w.cell? ⟨b, 1, none⟩ = some (.int .i64 h.v1) ∧ w.cell? ⟨b, 2, none⟩ = some (.int .i64 h.v2) ∧ w.cell? ⟨b, 3, none⟩ = some (.int .i64 h.v3) ∧ w.cell? ⟨b, 4, none⟩ = some (.int .i64 h.v4) ∧ w.cell? ⟨b, 5, none⟩ = some (.int .i64 h.v5) ∧ w.cell? ⟨b, 6, none⟩ = some (.int .i64 h.v6) ∧ w.cell? ⟨b, 7, none⟩ = some (.int .i64 h.v7) :=
  ⟨cell_of_row _ _ _ _ _ _ g, cell_of_row _ _ _ _ _ _ g, cell_of_row _ _ _ _ _ _ g, cell_of_row _ _ _ _ _ _ g, cell_of_row _ _ _ _ _ _ g, cell_of_row _ _ _ _ _ _ g, cell_of_row _ _ _ _ _ _ g, cell_of_row _ _ _ _ _ _ g⟩
theorem eql_ints (a0 a1 a2 a3 a4 a5 a6 a7 b0 b1 b2 b3 b4 b5 b6 b7 : Int) (w : World) : (binOp .eql 121 (.agg #[.int .i64 a0, .int .i64 a1, .int .i64 a2, .int .i64 a3, .int .i64 a4, .int .i64 a5, .int .i64 a6, .int .i64 a7]) (.agg #[.int .i64 b0, .int .i64 b1, .int .i64 b2, .int .i64 b3, .int .i64 b4, .int .i64 b5, .int .i64 b6, .int .i64 b7])).run Tryz.prog w = .ok (.bool (a0 == b0 && (a1 == b1 && (a2 == b2 && (a3 == b3 && (a4 == b4 && (a5 == b5 && (a6 == b6 && a7 == b7)))))))) w := by
  go_simp
  repeat' split
  all_goals simp_all
theorem eql_hd (g h : Hd) (w : World) : (binOp .eql 121 (.agg #[.int .i64 g.v0, .int .i64 g.v1, .int .i64 g.v2, .int .i64 g.v3, .int .i64 g.v4, .int .i64 g.v5, .int .i64 g.v6, .int .i64 g.v7]) (.agg #[.int .i64 h.v0, .int .i64 h.v1, .int .i64 h.v2, .int .i64 h.v3, .int .i64 h.v4, .int .i64 h.v5, .int .i64 h.v6, .int .i64 h.v7])).run Tryz.prog w = .ok (.bool (decide (g = h))) w := by
  rw [eql_ints]
  congr 2
  obtain ⟨a0, a1, a2, a3, a4, a5, a6, a7⟩ := g
  obtain ⟨b0, b1, b2, b3, b4, b5, b6, b7⟩ := h
  rw [Bool.eq_iff_iff]
  simp
theorem read_form (c : Prop) [Decidable c] (h : Hd) (s : ByteArray) : (if c then readA true h s else noneA) = readA (decide c) (if c then h else Hd.zero) (if c then s else ⟨#[]⟩) := by
  by_cases k : c
  · simp [k]
  · simp [k, noneA]
theorem told_form (B : Nat) (F : Nat → Prop) (S : VS) (r : ByteArray) (at_ : Int) (hl : S.seals.length ≤ 1000000) (w : World) (hp : Ideal w F B S) :
    Calls Tryz.prog 101 #[.pointer (some ⟨B, 0, none⟩), .string r, .int .i64 at_] w fun e w' => (∃ (h : Hd) (s : ByteArray), e = .returned (.agg #[.bool (decide (bopenE S r = 0 ∧ (bopenH S r).v1 = at_)), .int .i64 h.v0, .int .i64 h.v1, .int .i64 h.v2, .int .i64 h.v3, .int .i64 h.v4, .int .i64 h.v5, .int .i64 h.v6, .int .i64 h.v7, .string s]) ∧ (bopenE S r = 0 ∧ (bopenH S r).v1 = at_ → h = bopenH S r ∧ s = bopenS S r) ∧ (¬ (bopenE S r = 0 ∧ (bopenH S r).v1 = at_) → h = Hd.zero ∧ s = ⟨#[]⟩)) ∧ Below w.heap.size w w' := by
  refine (told_any B F S r at_ hl w hp).mono fun e w' h => ?_
  obtain ⟨he, hb⟩ := h
  rw [read_form] at he
  by_cases hc : bopenE S r = 0 ∧ (bopenH S r).v1 = at_
  · rw [if_pos hc, if_pos hc] at he
    exact ⟨⟨_, _, he, fun _ => ⟨rfl, rfl⟩, fun h => absurd hc h⟩, hb⟩
  · rw [if_neg hc, if_neg hc] at he
    exact ⟨⟨_, _, he, fun h => absurd h hc, fun _ => ⟨rfl, rfl⟩⟩, hb⟩
theorem Touch.blk {F : Nat → Prop} {w w' : World} (h : Touch F w w') {k : Nat} (hk : k < w.heap.size) (hF : ¬ F k) : w'.heap[k]? = w.heap[k]? := h.2 k hk hF
theorem cell_kept_ {w w' : World} {b : Nat} (h : w'.heap[b]? = w.heap[b]?) (i : Nat) : w'.cell? ⟨b, i, none⟩ = w.cell? ⟨b, i, none⟩ := World.cell?_of_block (a := ⟨b, i, none⟩) h
/-- Two heads in two blocks. -/
def TwoH (w : World) (b : Nat) (g h : Hd) : Prop := w.heap[b]? = some (.cells #[.int .i64 g.v0, .int .i64 g.v1, .int .i64 g.v2, .int .i64 g.v3, .int .i64 g.v4, .int .i64 g.v5, .int .i64 g.v6, .int .i64 g.v7] 121 (0, 0)) ∧ w.heap[b + 1]? = some (.cells #[.int .i64 h.v0, .int .i64 h.v1, .int .i64 h.v2, .int .i64 h.v3, .int .i64 h.v4, .int .i64 h.v5, .int .i64 h.v6, .int .i64 h.v7] 121 (0, 0))
theorem TwoH.keep {w w' : World} {b : Nat} {g h : Hd} (t : TwoH w b g h) (k : ∀ i, i < b + 2 → w'.heap[i]? = w.heap[i]?) : TwoH w' b g h := ⟨(k b (by omega)).trans t.1, (k (b + 1) (by omega)).trans t.2⟩
theorem TwoH.new (w : World) (g h : Hd) : TwoH ((w.alloc (.cells #[.int .i64 g.v0, .int .i64 g.v1, .int .i64 g.v2, .int .i64 g.v3, .int .i64 g.v4, .int .i64 g.v5, .int .i64 g.v6, .int .i64 g.v7] 121)).alloc (.cells #[.int .i64 h.v0, .int .i64 h.v1, .int .i64 h.v2, .int .i64 h.v3, .int .i64 h.v4, .int .i64 h.v5, .int .i64 h.v6, .int .i64 h.v7] 121)) w.heap.size g h := by
  refine ⟨(Below.heap_alloc _ _ _ (by simp)).trans (heap_alloc_new w _), ?_⟩
  have := heap_alloc_new (w.alloc (.cells #[.int .i64 g.v0, .int .i64 g.v1, .int .i64 g.v2, .int .i64 g.v3, .int .i64 g.v4, .int .i64 g.v5, .int .i64 g.v6, .int .i64 g.v7] 121)) (.cells #[.int .i64 h.v0, .int .i64 h.v1, .int .i64 h.v2, .int .i64 h.v3, .int .i64 h.v4, .int .i64 h.v5, .int .i64 h.v6, .int .i64 h.v7] 121)
  rw [World.size_alloc] at this
  exact this
end Go.Proofs.YtoopaigpjefonaaGreatDoor
