/- The document's vault: the place of a pair, and of a four. -/
import Derived.Test.YtcefoeaakdemmaaGreatDoorVtRefHash
namespace Go.Proofs.YtcefoeaakdemmaaGreatDoor
set_option maxRecDepth 20000
open Go.RowKit

theorem marC_at {w : World} {v : Value} {l : List (ByteArray × ByteArray)} (h : w.ownsRow 0 152 2 v l.length (marC l)) {i : Nat} {x : ByteArray × ByteArray} (hx : l[i]? = some x) : ∃ g cap, v = .slice (some ⟨g, 0, none⟩) l.length cap ∧ w.cell? ⟨g, i * 2, none⟩ = some (.string x.1) ∧ w.cell? ⟨g, i * 2 + 1, none⟩ = some (.string x.2) := by
  have hi := (List.getElem?_eq_some_iff.1 hx).1
  obtain ⟨g, cap, rfl, _, hc⟩ := owns_form h (by omega)
  exact ⟨g, cap, rfl, hc _ _ (marC_get l i x hx 0 (by omega)), hc _ _ (marC_get l i x hx 1 (by omega))⟩
theorem fouC_at {w : World} {v : Value} {l : List Four} (h : w.ownsRow 0 83 4 v l.length (fouC l)) {i : Nat} {x : Four} (hx : l[i]? = some x) : ∃ g cap, v = .slice (some ⟨g, 0, none⟩) l.length cap ∧ w.cell? ⟨g, i * 4, none⟩ = some (.int .i64 x.salt) ∧ w.cell? ⟨g, i * 4 + 1, none⟩ = some (.string x.nonce) ∧ w.cell? ⟨g, i * 4 + 2, none⟩ = some (.string x.ad) ∧ w.cell? ⟨g, i * 4 + 3, none⟩ = some (.string x.text) := by
  have hi := (List.getElem?_eq_some_iff.1 hx).1
  obtain ⟨g, cap, rfl, _, hc⟩ := owns_form h (by omega)
  exact ⟨g, cap, rfl, hc _ _ (fouC_get l i x hx 0 (by omega)), hc _ _ (fouC_get l i x hx 1 (by omega)), hc _ _ (fouC_get l i x hx 2 (by omega)), hc _ _ (fouC_get l i x hx 3 (by omega))⟩
/-- How far a search goes: to the first place, or to the end; and what stands ahead. -/
theorem search {α : Type} [DecidableEq α] (l : List α) (x : α) : ∃ K : Nat, K ≤ l.length ∧ (∀ i, i < K → ∃ y, l[i]? = some y ∧ y ≠ x) ∧ ((K = l.length ∧ numOf l x = 0) ∨ (K < l.length ∧ l[K]? = some x ∧ numOf l x = K + 1)) := by
  by_cases h0 : numOf l x = 0
  · refine ⟨l.length, Nat.le_refl _, fun i hi => ⟨l[i], List.getElem?_eq_getElem hi, fun e => ?_⟩, .inl ⟨rfl, h0⟩⟩
    exact (numOf_zero.1 h0) (by rw [← e]; exact List.getElem_mem _)
  · obtain ⟨k, hk⟩ : ∃ k, numOf l x = k + 1 := ⟨numOf l x - 1, by omega⟩
    have hle := numOf_le x l
    refine ⟨k, by omega, fun i hi => ⟨l[i]'(by omega), List.getElem?_eq_getElem _, fun e => ?_⟩, .inr ⟨by omega, numOf_get hk, hk⟩⟩
    exact numOf_before hk i hi (by rw [List.getElem?_eq_getElem (by omega), e])

set_option maxRecDepth 100000 in
set_option maxHeartbeats 4000000 in
theorem rfour_any (B : Nat) (F : Nat → Prop) (S : VS) (x : Four) (hl : S.seals.length ≤ 1000000) (w : World) (hp : RefV w F B S) :
    Calls Tryz.prog 41 #[.pointer (some ⟨B, 0, none⟩), keyS x] w fun e w' => e = .returned (.int .i64 ((numOf S.seals x : Nat) - 1)) ∧ Below w.heap.size w w' := by
  obtain ⟨hv, pv, fv, h⟩ := hp
  obtain ⟨op, cp, rfl⟩ := owns_slice h.fs
  have hBw := h.row.lt
  have HD : Hid (∀ W, Below w.heap.size w W → W.cell? ⟨B, 4, none⟩ = some (.slice op S.seals.length cp)) := fun W hW => (World.cell?_of_block (a := ⟨B, 4, none⟩) (hW.block B hBw)).trans (h.row.cell 4)
  have HC : Hid (∀ i x, S.seals[i]? = some x → ∀ W, Below w.heap.size w W → ∃ g, op = some ⟨g, 0, none⟩ ∧ W.cell? ⟨g, i * 4, none⟩ = some (.int .i64 x.salt) ∧ W.cell? ⟨g, i * 4 + 1, none⟩ = some (.string x.nonce) ∧ W.cell? ⟨g, i * 4 + 2, none⟩ = some (.string x.ad) ∧ W.cell? ⟨g, i * 4 + 3, none⟩ = some (.string x.text)) := fun i x hx W hW => by
    obtain ⟨g, cap, e, hc0, hc1, hc2, hc3⟩ := fouC_at h.fs hx
    cases e
    have hk := hW.block g (lt_of_cell hc0)
    exact ⟨g, rfl, (World.cell?_of_block (a := ⟨g, i * 4, none⟩) hk).trans hc0, (World.cell?_of_block (a := ⟨g, i * 4 + 1, none⟩) hk).trans hc1, (World.cell?_of_block (a := ⟨g, i * 4 + 2, none⟩) hk).trans hc2, (World.cell?_of_block (a := ⟨g, i * 4 + 3, none⟩) hk).trans hc3⟩
  obtain ⟨K, hK, HN, hend⟩ := search S.seals x
  have HN : Hid (∀ i, i < K → ∃ y, S.seals[i]? = some y ∧ y ≠ x) := HN
  generalize hn : S.seals.length = n at *
  clear h hn
  obtain ⟨z, a, b, c⟩ := x
  simp only [keyS]
  obtain ⟨w0, hw0⟩ : ∃ w0, w.alloc (.cells #[.int .i64 z, .string a, .string b, .string c] 83) = w0 := ⟨_, rfl⟩
  have r0 : w0.heap[w.heap.size]? = some (.cells #[.int .i64 z, .string a, .string b, .string c] 83 (0, 0)) := by rw [← hw0]; exact heap_alloc_new w _
  have hb0 : Below w.heap.size w w0 := by rw [← hw0]; exact (Below.refl w.heap.size w).alloc (Nat.le_refl _) _
  have HB : Hid (w0.heap[w.heap.size]? = some (.cells #[.int .i64 z, .string a, .string b, .string c] 83 (0, 0)) ∧ Below w.heap.size w w0) := ⟨r0, hb0⟩
  clear r0 hb0
  rcases hend with ⟨hKe, hk0⟩ | ⟨hKn, HG, hk0⟩
  case' inl =>
    have hKn : ¬ K < n := by omega
    clear hKe
    have HR : Hid (((numOf S.seals ⟨z, a, b, c⟩ : Nat) : Int) - 1 = -1) := (show ((numOf S.seals ⟨z, a, b, c⟩ : Nat) : Int) - 1 = -1 by omega)
  case' inr =>
    have HR : Hid (((numOf S.seals ⟨z, a, b, c⟩ : Nat) : Int) - 1 = K) := (show ((numOf S.seals ⟨z, a, b, c⟩ : Nat) : Int) - 1 = K by omega)
    have HG : Hid (S.seals[K]? = some ⟨z, a, b, c⟩) := HG
  all_goals
    rw [HR.out]
    clear hk0
    go_enter Tryz.func41, Tryz.ntmps41
    go_wp2_with fail
    try rw [hw0]
    go_loopw [5] (fun v wr => ∃ j : Nat, j ≤ K ∧ v = .int .i64 j ∧ wr.heap[w.heap.size]? = some (.cells #[.int .i64 z, .string a, .string b, .string c] 83 (0, 0)) ∧ Below w.heap.size w wr) (fun v _ => K - (intOf v).toNat)
    case atStart => exact ⟨0, Nat.zero_le _, rfl, HB.out.1, HB.out.2⟩
  all_goals
    clear HB
    obtain ⟨j, hj, rfl, hr, hT⟩ := hrel
    have d4 := HD.out wr hT
    have hrl := lt_of_block hr
    by_cases hlt : j < K
    case pos =>
      have j1 : (j : Int) < (n : Nat) := by omega
      obtain ⟨⟨y0, y1, y2, y3⟩, hx, hne⟩ := HN.out j hlt
      obtain ⟨g, rfl, c0, c1, c2, c3⟩ := HC.out j _ hx wr hT
      simp only at c0 c1 c2 c3
      have hX := (Below.refl wr.heap.size wr).alloc (Nat.le_refl _) (.cells #[.int .i64 y0, .string y1, .string y2, .string y3] 83)
      have rX := heap_alloc_new wr (.cells #[.int .i64 y0, .string y1, .string y2, .string y3] 83)
      have hrX := (hX.block w.heap.size hrl).trans hr
      have hTX := hT.trans (hX.mono hT.size)
      obtain ⟨wX, hwX⟩ : ∃ wX, wr.alloc (.cells #[.int .i64 y0, .string y1, .string y2, .string y3] 83) = wX := ⟨_, rfl⟩
      rw [hwX] at rX hrX hTX
      have f0 : wX.cell? ⟨wr.heap.size, 0, none⟩ = some (.int .i64 y0) := cell_of_row _ _ _ _ _ _ rX
      have f1 : wX.cell? ⟨wr.heap.size, 1, none⟩ = some (.string y1) := cell_of_row _ _ _ _ _ _ rX
      have f2 : wX.cell? ⟨wr.heap.size, 2, none⟩ = some (.string y2) := cell_of_row _ _ _ _ _ _ rX
      have f3 : wX.cell? ⟨wr.heap.size, 3, none⟩ = some (.string y3) := cell_of_row _ _ _ _ _ _ rX
      have x0 : wX.cell? ⟨w.heap.size, 0, none⟩ = some (.int .i64 z) := cell_of_row _ _ _ _ _ _ hrX
      have x1 : wX.cell? ⟨w.heap.size, 1, none⟩ = some (.string a) := cell_of_row _ _ _ _ _ _ hrX
      have x2 : wX.cell? ⟨w.heap.size, 2, none⟩ = some (.string b) := cell_of_row _ _ _ _ _ _ hrX
      have x3 : wX.cell? ⟨w.heap.size, 3, none⟩ = some (.string c) := cell_of_row _ _ _ _ _ _ hrX
      have HF : Hid (wX.heap[w.heap.size]? = some (.cells #[.int .i64 z, .string a, .string b, .string c] 83 (0, 0)) ∧ Below w.heap.size w wX) := ⟨hrX, hTX⟩
      clear hX rX hrX hTX hr hT hx
      by_cases e0 : y0 = z
      · have m0 : (y0 == z) = true := by simp [e0]
        by_cases e1 : y1 = a
        · have m1 : (y1.toList == a.toList) = true := by simp [e1]
          by_cases e2 : y2 = b
          · have m2 : (y2.toList == b.toList) = true := by simp [e2]
            have n3 := str_ne (show y3 ≠ c from fun e => hne (by rw [e0, e1, e2, e]))
            clear hne e0 e1 e2
            go_wp2
            go_roundw
            case rel => exact ⟨j + 1, by omega, by go_num, HF.out.1, HF.out.2⟩
            case measure => simp [intOf]; omega
          · have n2 := str_ne e2
            clear hne e0 e1
            go_wp2
            go_roundw
            case rel => exact ⟨j + 1, by omega, by go_num, HF.out.1, HF.out.2⟩
            case measure => simp [intOf]; omega
        · have n1 := str_ne e1
          clear hne e0
          go_wp2
          go_roundw
          case rel => exact ⟨j + 1, by omega, by go_num, HF.out.1, HF.out.2⟩
          case measure => simp [intOf]; omega
      · have n0 : (y0 == z) = false := beq_false_of_ne e0
        clear hne
        go_wp2
        go_roundw
        case rel => exact ⟨j + 1, by omega, by go_num, HF.out.1, HF.out.2⟩
        case measure => simp [intOf]; omega
  · obtain rfl : j = K := by omega
    have j1 : (j : Int) < (n : Nat) := by omega
    obtain ⟨g, rfl, c0, c1, c2, c3⟩ := HC.out j _ HG.out wr hT
    simp only at c0 c1 c2 c3
    have hX := (Below.refl wr.heap.size wr).alloc (Nat.le_refl _) (.cells #[.int .i64 z, .string a, .string b, .string c] 83)
    have rX := heap_alloc_new wr (.cells #[.int .i64 z, .string a, .string b, .string c] 83)
    have hrX := (hX.block w.heap.size hrl).trans hr
    have hTX := hT.trans (hX.mono hT.size)
    obtain ⟨wX, hwX⟩ : ∃ wX, wr.alloc (.cells #[.int .i64 z, .string a, .string b, .string c] 83) = wX := ⟨_, rfl⟩
    rw [hwX] at rX hrX hTX
    have f0 : wX.cell? ⟨wr.heap.size, 0, none⟩ = some (.int .i64 z) := cell_of_row _ _ _ _ _ _ rX
    have f1 : wX.cell? ⟨wr.heap.size, 1, none⟩ = some (.string a) := cell_of_row _ _ _ _ _ _ rX
    have f2 : wX.cell? ⟨wr.heap.size, 2, none⟩ = some (.string b) := cell_of_row _ _ _ _ _ _ rX
    have f3 : wX.cell? ⟨wr.heap.size, 3, none⟩ = some (.string c) := cell_of_row _ _ _ _ _ _ rX
    have x0 : wX.cell? ⟨w.heap.size, 0, none⟩ = some (.int .i64 z) := cell_of_row _ _ _ _ _ _ hrX
    have x1 : wX.cell? ⟨w.heap.size, 1, none⟩ = some (.string a) := cell_of_row _ _ _ _ _ _ hrX
    have x2 : wX.cell? ⟨w.heap.size, 2, none⟩ = some (.string b) := cell_of_row _ _ _ _ _ _ hrX
    have x3 : wX.cell? ⟨w.heap.size, 3, none⟩ = some (.string c) := cell_of_row _ _ _ _ _ _ hrX
    have HF : Hid (Below w.heap.size w wX) := hTX
    clear hX rX hrX hTX hr hT HG HC HN HD
    go_wp2
    go_ret
    exact ⟨rfl, HF.out⟩
  · obtain rfl : j = K := by omega
    have j1 : ¬ (j : Int) < (n : Nat) := by omega
    have HF : Hid (Below w.heap.size w wr) := hT
    clear hr hT HC HN HD
    go_wp2
    go_ret
    exact ⟨rfl, HF.out⟩
end Go.Proofs.YtcefoeaakdemmaaGreatDoor
