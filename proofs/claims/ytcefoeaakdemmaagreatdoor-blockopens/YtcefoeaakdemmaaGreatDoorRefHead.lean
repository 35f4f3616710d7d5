/- The document's Head, called with any head, tells the bytes and the error of its numbers in their widths, and changes nothing that was there. -/
import Derived.Test.YtcefoeaakdemmaaGreatDoorRefLaid
import Derived.Test.YtcefoeaakdemmaaGreatDoorNoughts
import Derived.Test.YtcefoeaakdemmaaGreatDoorRefWidths
import Derived.Deep.Cut
namespace Go.Proofs.YtcefoeaakdemmaaGreatDoor
set_option maxRecDepth 20000
open Go.RowKit Go.Lib

set_option maxHeartbeats 1000000 in
theorem rhead_any (a0 a1 a2 a3 a4 a5 a6 a7 : Int) (hm : ∀ p ∈ headPs a0 a1 a2 a3 a4 a5 a6 a7, p.1 ≤ 9223372036854775807) (w : World) :
    Calls Tryz.prog 17 #[.agg #[.int .i64 a0, .int .i64 a1, .int .i64 a2, .int .i64 a3, .int .i64 a4, .int .i64 a5, .int .i64 a6, .int .i64 a7]] w fun e w' =>
      e = .returned (.tuple #[.string (recS [71, 82, 80, 78] (headPs a0 a1 a2 a3 a4 a5 a6 a7) 8), .int .i64 (recE (headPs a0 a1 a2 a3 a4 a5 a6 a7))]) ∧ Below w.heap.size w w' := by
  have HM : Hid (∀ p ∈ headPs a0 a1 a2 a3 a4 a5 a6 a7, p.1 ≤ 9223372036854775807) := hm
  clear hm
  have HL : Hid (laidOk (headPs a0 a1 a2 a3 a4 a5 a6 a7) = true → (laidL (headPs a0 a1 a2 a3 a4 a5 a6 a7)).length = 36) := fun h => laidL_length _ h
  obtain ⟨ps, hps⟩ : ∃ ps, ps = headPs a0 a1 a2 a3 a4 a5 a6 a7 := ⟨_, rfl⟩
  have HP : Hid (ps = headPs a0 a1 a2 a3 a4 a5 a6 a7) := hps
  rw [← hps] at HL HM ⊢
  clear hps
  go_enter Tryz.func17, Tryz.ntmps17
  go_wp2_with fail
  go_cut [4, 5] from 6 (fun s b wc => s = .string (laidS ps) ∧ b = .bool (laidOk ps) ∧ Below w.heap.size w wc)
  case first =>
    go_region_held3 (fun w' => w'.cell? ⟨w.heap.size, 0, none⟩ = some (.int .i64 a0) ∧ w'.cell? ⟨w.heap.size, 1, none⟩ = some (.int .i64 a1) ∧ w'.cell? ⟨w.heap.size, 2, none⟩ = some (.int .i64 a2) ∧ w'.cell? ⟨w.heap.size, 3, none⟩ = some (.int .i64 a3) ∧ w'.cell? ⟨w.heap.size, 4, none⟩ = some (.int .i64 a4) ∧ w'.cell? ⟨w.heap.size, 5, none⟩ = some (.int .i64 a5) ∧ w'.cell? ⟨w.heap.size, 6, none⟩ = some (.int .i64 a6) ∧ w'.cell? ⟨w.heap.size, 7, none⟩ = some (.int .i64 a7)) (simp [go_sem, World.cell?_alloc_past, *])
      (first | (go_at_call 35; refine (headWidths_any _).mono ?_; rintro e w1 ⟨rfl, rfl⟩) | (go_at_call 34; refine (rlaid_blk (headPs a0 a1 a2 a3 a4 a5 a6 a7) 8 rfl (by decide) _ _ 8 8 _ 3 3 (by first | exact heap3_1 w _ _ _ | exact heap3_2 w _ _ _) (by first | exact heap3_1 w _ _ _ | exact heap3_2 w _ _ _) (by rw [← HP.out]; exact HM.out)).mono ?_; rintro e w1 ⟨rfl, hbl⟩; have hk : ∀ i, w1.cell? ⟨w.heap.size, i, none⟩ = _ := fun i => hbl.cell (p := ⟨w.heap.size, i, none⟩) (by simp; omega)))
    all_goals
      go_wp2_with fail
      go_meet
      exact ⟨by rw [HP.out], by rw [HP.out], by
        exact (below3 w _ _ _).drew.trans (hbl.mono (by simp; omega))⟩
  case rest =>
    obtain ⟨rfl, rfl, hb⟩ := hcut
    cases ho : laidOk ps with
    | false =>
      have HO : Hid (laidOk ps = false) := ho
      clear ho
      go_wp2
      go_ret2
      exact ⟨by rw [recS_no HO.out, recE_no HO.out]; rfl, hb⟩
    | true =>
      have HO : Hid (laidOk ps = true) := ho
      rw [laidS_ok ho]
      have hsz : (⟨(laidL ps).toArray⟩ : ByteArray).size = 36 := by rw [← HL.out ho]; simp [ByteArray.size]
      clear ho
      have hadd := fun w2 => run_string_add_sum (P := Tryz.prog) (w := w2) ⟨#[71, 82, 80, 78]⟩ ⟨(laidL ps).toArray⟩ (by rw [hsz]; decide)
      have hadd2 := fun w2 => run_string_add_sum (P := Tryz.prog) (w := w2) (⟨#[71, 82, 80, 78]⟩ ++ ⟨(laidL ps).toArray⟩) (noughtsS 8) (by
        rw [noughtsS_size, ByteArray.size_append, hsz]; decide)
      clear hsz
      go_wp2_with fail
      refine (noughts_any 8 (by decide) _).mono ?_
      rintro e w3 ⟨rfl, hb3⟩
      go_wp2
      go_ret2
      refine ⟨?_, hb.trans (hb3.mono hb.size)⟩
      rw [recS_ok HO.out, recE_ok HO.out, ← rec_text ⟨#[71, 82, 80, 78]⟩ (laidL ps) 8]
      rfl
end Go.Proofs.YtcefoeaakdemmaaGreatDoor
