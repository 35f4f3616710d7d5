/- The document's Super, called with any superblock, tells the bytes superS and the error superE, and changes nothing that was there. -/
import Derived.Test.YtjlilbkddgggoabRefLaid
import Derived.Test.YtjlilbkddgggoabNoughts
namespace Go.Proofs.Ytjlilbkddgggoab
open Go.RowKit Go.Lib

theorem rsuper_arg (a0 a1 a2 a3 : Int) (r : ByteArray) (h : ((r.size : Int) != 32) = true) (w : World) :
    Calls Try.prog 12 #[.agg #[.int .i64 a0, .int .i64 a1, .int .i64 a2, .int .i64 a3, .string r]] w fun e w' => e = .returned (.tuple #[.string ByteArray.empty, .int .i64 1]) ∧ Below w.heap.size w w' := by
  go_enter Try.func12, Try.ntmps12
  go_wp2
  go_ret2
  exact ⟨rfl, (Below.refl _ _).alloc (Nat.le_refl _) _⟩

set_option maxHeartbeats 1000000 in
theorem rsuper_in (a0 a1 a2 a3 : Int) (r : ByteArray) (hr : r.size = 32) (hm : ∀ p ∈ superPs a0 a1 a2 a3, p.1 ≤ 9223372036854775807) (w : World) :
    Calls Try.prog 12 #[.agg #[.int .i64 a0, .int .i64 a1, .int .i64 a2, .int .i64 a3, .string r]] w fun e w' => e = .returned (.tuple #[.string (superS a0 a1 a2 a3 r), .int .i64 (superE a0 a1 a2 a3 r)]) ∧ Below w.heap.size w w' := by
  have hrb : ((r.size : Int) != 32) = false := by rw [hr]; rfl
  have HR : Hid (r.size = 32) := hr
  have HM : Hid (∀ p ∈ superPs a0 a1 a2 a3, p.1 ≤ 9223372036854775807) := hm
  clear hr hm
  go_enter Try.func12, Try.ntmps12
  go_wp2_with fail
  refine (rlaid_blk (superPs a0 a1 a2 a3) 4 rfl (by decide) _ _ 4 4 _ 3 3 (by exact heap3_1 w _ _ _) (by exact heap3_2 w _ _ _) HM.out).mono ?_
  rintro e w1 ⟨rfl, hb1⟩
  have c4 := (hb1.cell (p := ⟨w.heap.size, 4, none⟩) (by simp; omega)).trans (show _ = some (Value.string r) from by
    rw [World.cell?_alloc_past _ _ _ (by simp; omega)]; exact cells_boxed w _ _ _ 4 _ rfl)
  have hb : Below w.heap.size w w1 := (below3 w _ _ _).trans (hb1.mono (by simp; omega))
  clear hb1
  cases ho : laidOk (superPs a0 a1 a2 a3) with
  | false =>
    have HO : Hid (laidOk (superPs a0 a1 a2 a3) = false) := ho
    clear ho
    go_wp2
    go_ret2
    refine ⟨?_, hb⟩
    unfold superS superE
    rw [if_neg (by rw [HO.out]; simp), if_pos HR.out, recE_no HO.out]
    rfl
  | true =>
    have HO : Hid (laidOk (superPs a0 a1 a2 a3) = true) := ho
    rw [laidS_ok ho]
    have hsz : (⟨(laidL (superPs a0 a1 a2 a3)).toArray⟩ : ByteArray).size = 22 := by have := laidL_length _ ho; simp [ByteArray.size, this]; rfl
    clear ho
    generalize hG : (⟨(laidL (superPs a0 a1 a2 a3)).toArray⟩ : ByteArray) = g at *
    have HG : Hid ((⟨(laidL (superPs a0 a1 a2 a3)).toArray⟩ : ByteArray) = g) := hG
    clear hG
    have hadd := fun w2 => run_string_add_sum (P := Try.prog) (w := w2) g r (by rw [hsz, HR.out]; decide)
    have hadd2 := fun w2 => run_string_add_sum (P := Try.prog) (w := w2) (g ++ r) (noughtsS 394) (by
      rw [noughtsS_size, ByteArray.size_append, hsz, HR.out]; decide)
    clear hsz
    go_wp2
    go_region_held3 (fun w' => w'.cell? ⟨w.heap.size, 4, none⟩ = some (.string r)) (simp [go_sem, *])
      (first | (go_at_call 18; refine (noughts_any 394 (by decide) _).mono ?_; rintro e w2 ⟨rfl, hb2⟩; have hk := (hb2.cell (p := ⟨w.heap.size, 4, none⟩) (by have := block_lt_of_cell c4; simpa using this)).trans (by simpa using c4)))
    go_wp2
    go_ret2
    refine ⟨?_, Below.trans ?_ (hb2.mono (by simpa using hb.size))⟩
    · unfold superS superE
      rw [if_pos ⟨HR.out, HO.out⟩, if_pos HR.out, recE_ok HO.out, ← padL_add, HG.out]
      rfl
    · repeat (first | exact hb | apply Below.drew)

theorem rsuper_any (a0 a1 a2 a3 : Int) (r : ByteArray) (hm : ∀ p ∈ superPs a0 a1 a2 a3, p.1 ≤ 9223372036854775807) (w : World) :
    Calls Try.prog 12 #[.agg #[.int .i64 a0, .int .i64 a1, .int .i64 a2, .int .i64 a3, .string r]] w fun e w' => e = .returned (.tuple #[.string (superS a0 a1 a2 a3 r), .int .i64 (superE a0 a1 a2 a3 r)]) ∧ Below w.heap.size w w' := by
  by_cases hr : r.size = 32
  · exact rsuper_in a0 a1 a2 a3 r hr hm w
  · have e1 : superS a0 a1 a2 a3 r = ByteArray.empty := by unfold superS; rw [if_neg (fun h => hr h.1)]
    have e2 : superE a0 a1 a2 a3 r = 1 := by unfold superE; rw [if_neg hr]
    rw [e1, e2]
    exact rsuper_arg a0 a1 a2 a3 r (by simp; omega) w
end Go.Proofs.Ytjlilbkddgggoab
