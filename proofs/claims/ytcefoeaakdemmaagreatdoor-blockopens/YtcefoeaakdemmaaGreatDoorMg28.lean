/- The document's Noughts, called with a number from 0 to 4096, tells so many bytes 0, and changes nothing that was there. · The document's widths of a head's numbers. · The document's Head, called with any head, tells the bytes and the error of its numbers in their widths, and changes nothing that was there. -/
import Derived.Test.YtcefoeaakdemmaaGreatDoorPut
import Derived.Test.YtcefoeaakdemmaaGreatDoorRefLaid
import Derived.Deep.Cut
namespace Go.Proofs.YtcefoeaakdemmaaGreatDoor
set_option maxRecDepth 20000
open Go.RowKit

/-- The document's Noughts. -/
theorem noughts_any (n : Nat) (h : n ≤ 4096) (w : World) :
    Calls Tryz.prog 36 #[.int .i64 n] w fun e w' => e = .returned (.string (noughtsS n)) ∧ Below w.heap.size w w' := by
  obtain ⟨i0, hi, hz0, hz1, hz2⟩ := info_parts info5
  go_enter Tryz.func36, Tryz.ntmps36
  go_wp2_with (at_make; refine wpList_make_full _ rfl _ _ 40 rfl w.heap.size 5 i0 (.int .u8 0) 1 Tryz.underlying40 hi hz0 hz1 .i64 .i64 _ _ n rfl rfl rfl rfl ?c1 ?c2 (Nat.le_refl _) ?_)
  case c1 => first | omega | (rw [hz2]; omega)
  case c2 => unfold maxLen; omega
  intro w1 hown1 hgrow1
  have hb1 : Below w.heap.size w w1 := (Below.refl _ _).grown hgrow1 (Nat.le_refl _) (fun k hk => by simp at hk)
  have hown2 : w1.ownsRow w.heap.size 5 1 (.slice (some ⟨w.heap.size, 0, none⟩) n n) n (List.replicate n (Value.int .u8 0)) := by
    simpa [toList_madeCells_one, Value.cells] using hown1
  clear hown1 hgrow1
  have hcv := run_convert_bytes_arg (P := Tryz.prog) w1 40 5 Tryz.underlying40 Tryz.underlying5 w.heap.size 0 n n (List.replicate n 0) (by simp) (fun i hi => by
    rw [Nat.zero_add, hown2.cellAt i (by omega)]
    simp [hi, List.getD]) 9 Tryz.underlying9
  rw [show strOfNums (List.replicate n 0) = noughtsS n from rfl] at hcv
  clear hown2
  go_wp2
  go_ret
  exact ⟨rfl, hb1⟩
/-- The same, its argument told by an equation. -/
theorem noughts_z (z : Int) (n : Nat) (hz : z = n) (h : n ≤ 4096) (w : World) :
    Calls Tryz.prog 36 #[.int .i64 z] w fun e w' => e = .returned (.string (noughtsS n)) ∧ Below w.heap.size w w' := by
  subst hz
  exact noughts_any n h w
end Go.Proofs.YtcefoeaakdemmaaGreatDoor

namespace Go.Proofs.YtcefoeaakdemmaaGreatDoor
set_option maxRecDepth 20000
open Go.RowKit

theorem headWidths_any (w : World) :
    Calls Tryz.prog 35 #[] w fun e w' => e = .returned (.slice (some ⟨w.heap.size, 0, none⟩) 8 8) ∧ w' = w.alloc (.cells #[.int .i64 6, .int .i64 4, .int .i64 2, .int .i64 4, .int .i64 4, .int .i64 4, .int .i64 6, .int .i64 6] 3) := by
  go_enter Tryz.func35, Tryz.ntmps35
  go_wp2
  go_ret
  exact ⟨rfl, rfl⟩
end Go.Proofs.YtcefoeaakdemmaaGreatDoor

namespace Go.Proofs.YtcefoeaakdemmaaGreatDoor
set_option maxRecDepth 20000
open Go.RowKit Go.Lib

set_option maxHeartbeats 1000000 in
theorem rhead_any (a0 a1 a2 a3 a4 a5 a6 a7 : Int) (hm : ∀ p ∈ headPs a0 a1 a2 a3 a4 a5 a6 a7, p.1 ≤ 9223372036854775807) (w : World) :
    Calls Tryz.prog 17 #[.agg #[.int .i64 a0, .int .i64 a1, .int .i64 a2, .int .i64 a3, .int .i64 a4, .int .i64 a5, .int .i64 a6, .int .i64 a7]] w fun e w' =>
      e = .returned (.tuple #[.string (recS [71, 82, 80, 78] (headPs a0 a1 a2 a3 a4 a5 a6 a7) 8), .int .i64 (recE (headPs a0 a1 a2 a3 a4 a5 a6 a7))]) ∧ Below w.heap.size w w' := by
  have HM : Hid (∀ p ∈ headPs a0 a1 a2 a3 a4 a5 a6 a7, p.1 ≤ 9223372036854775807) := hm
  clear hm
  have HL : Hid (laidOk (headPs a0 a1 a2 a3 a4 a5 a6 a7) = true → (laidL (headPs a0 a1 a2 a3 a4 a5 a6 a7)).length = 36) := fun h => laidL_length _ h
  obtain ⟨ps, hps⟩ : ∃ ps, ps = headPs a0 a1 a2 a3 a4 a5 a6 a7 := ⟨_, rfl⟩
  have HP : Hid (ps = headPs a0 a1 a2 a3 a4 a5 a6 a7) := hps
  rw [← hps] at HL HM ⊢
  clear hps
  go_enter Tryz.func17, Tryz.ntmps17
  go_wp2_with fail
  go_cut [4, 5] from 6 (fun s b wc => s = .string (laidS ps) ∧ b = .bool (laidOk ps) ∧ Below w.heap.size w wc)
  case first =>
    go_region_held3 (fun w' => w'.cell? ⟨w.heap.size, 0, none⟩ = some (.int .i64 a0) ∧ w'.cell? ⟨w.heap.size, 1, none⟩ = some (.int .i64 a1) ∧ w'.cell? ⟨w.heap.size, 2, none⟩ = some (.int .i64 a2) ∧ w'.cell? ⟨w.heap.size, 3, none⟩ = some (.int .i64 a3) ∧ w'.cell? ⟨w.heap.size, 4, none⟩ = some (.int .i64 a4) ∧ w'.cell? ⟨w.heap.size, 5, none⟩ = some (.int .i64 a5) ∧ w'.cell? ⟨w.heap.size, 6, none⟩ = some (.int .i64 a6) ∧ w'.cell? ⟨w.heap.size, 7, none⟩ = some (.int .i64 a7)) (simp [go_sem, World.cell?_alloc_past, *])
      (first | (go_at_call 35; refine (headWidths_any _).mono ?_; rintro e w1 ⟨rfl, rfl⟩) | (go_at_call 34; refine (rlaid_blk (headPs a0 a1 a2 a3 a4 a5 a6 a7) 8 rfl (by decide) _ _ 8 8 _ 3 3 (by first | exact heap3_1 w _ _ _ | exact heap3_2 w _ _ _) (by first | exact heap3_1 w _ _ _ | exact heap3_2 w _ _ _) (by rw [← HP.out]; exact HM.out)).mono ?_; rintro e w1 ⟨rfl, hbl⟩; have hk : ∀ i, w1.cell? ⟨w.heap.size, i, none⟩ = _ := fun i => hbl.cell (p := ⟨w.heap.size, i, none⟩) (by simp; omega)))
    all_goals
      go_wp2_with fail
      go_meet
      exact ⟨by rw [HP.out], by rw [HP.out], by
        exact (below3 w _ _ _).drew.trans (hbl.mono (by simp; omega))⟩
  case rest =>
    obtain ⟨rfl, rfl, hb⟩ := hcut
    cases ho : laidOk ps with
    | false =>
      have HO : Hid (laidOk ps = false) := ho
      clear ho
      go_wp2
      go_ret2
      exact ⟨by rw [recS_no HO.out, recE_no HO.out]; rfl, hb⟩
    | true =>
      have HO : Hid (laidOk ps = true) := ho
      rw [laidS_ok ho]
      have hsz : (⟨(laidL ps).toArray⟩ : ByteArray).size = 36 := by rw [← HL.out ho]; simp [ByteArray.size]
      clear ho
      have hadd := fun w2 => run_string_add_sum (P := Tryz.prog) (w := w2) ⟨#[71, 82, 80, 78]⟩ ⟨(laidL ps).toArray⟩ (by rw [hsz]; decide)
      have hadd2 := fun w2 => run_string_add_sum (P := Tryz.prog) (w := w2) (⟨#[71, 82, 80, 78]⟩ ++ ⟨(laidL ps).toArray⟩) (noughtsS 8) (by
        rw [noughtsS_size, ByteArray.size_append, hsz]; decide)
      clear hsz
      go_wp2_with fail
      refine (noughts_any 8 (by decide) _).mono ?_
      rintro e w3 ⟨rfl, hb3⟩
      go_wp2
      go_ret2
      refine ⟨?_, hb.trans (hb3.mono hb.size)⟩
      rw [recS_ok HO.out, recE_ok HO.out, ← rec_text ⟨#[71, 82, 80, 78]⟩ (laidL ps) 8]
      rfl
end Go.Proofs.YtcefoeaakdemmaaGreatDoor
