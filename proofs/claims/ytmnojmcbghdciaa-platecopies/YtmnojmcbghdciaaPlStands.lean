/- The law's stands: both devices tell the same of all. -/
import Derived.Test.YtmnojmcbghdciaaPlStep
namespace Go.Proofs.Ytmnojmcbghdciaa
open Go.RowKit

set_option maxRecDepth 10000 in
set_option maxHeartbeats 2000000 in
theorem stands_any (B1 B2 : Nat) (S : PS) (F : Nat → Prop) (w : World) (hp : PairF w F B1 B2 S S) :
    Calls Try.prog 18 #[.pointer (some ⟨B1, 0, none⟩), .pointer (some ⟨B2, 0, none⟩)] w fun e w' => e = .returned (.bool true) ∧ Below w.heap.size w w' := by
  obtain ⟨F1, F2, h1, h2, _⟩ := hp
  have HP : Hid (∀ q, Plate (w.drewN q) F1 B1 S ∧ RefP (w.drewN q) F2 B2 S) := fun q => ⟨h1.keep fun _ _ _ => rfl, h2.keep fun _ _ _ => rfl⟩
  have m1 := fun W (h : Plate W F1 B1 S) => sectors_any B1 F1 S W h
  have m2 := fun W (h : Plate W F1 B1 S) => up_any B1 F1 S W h
  have m3 := fun W (h : Plate W F1 B1 S) => pending_any B1 F1 S W h
  have m4 := fun W (h : Plate W F1 B1 S) => reads_any B1 F1 S W h
  have m5 := fun W (h : Plate W F1 B1 S) => writes_any B1 F1 S W h
  obtain ⟨kv, dv, wv, ks, ds, hr⟩ := h2
  obtain ⟨ok, ck, rfl⟩ := hr.kform
  obtain ⟨ow, cw, rfl⟩ := hr.wform
  have c0 := hr.c0
  have c2 := hr.c2
  have c4 := hr.c4
  have c5 := hr.c5
  have c6 := hr.c6
  have hmost := hr.most
  obtain ⟨n, hn⟩ : ∃ n, n = S.kept.length := ⟨_, rfl⟩
  have HC : Hid (∀ q, (w.drewN q).cell? ⟨B2, 0, none⟩ = some (.slice ok n ck)) := fun q => by rw [hn]; exact c0
  rw [← hn] at c0 m1 hmost
  clear hr h1 hn
  cases hu : S.up <;> rw [hu] at c4 m2
  all_goals
    go_enter Try.func18, Try.ntmps18
    go_wp2_with fail
    go_quiet (first | (go_at_call 44; exact Calls.quiet_of_same (m1 _ (HP.out _).1)) | (go_at_call 24; exact Calls.quiet_of_same (m2 _ (HP.out _).1)) | (go_at_call 25; exact Calls.quiet_of_same (m3 _ (HP.out _).1)) | (go_at_call 45; exact Calls.quiet_of_same (m4 _ (HP.out _).1)) | (go_at_call 26; exact Calls.quiet_of_same (m5 _ (HP.out _).1)))
    have hb : Below w.heap.size w (w.drewN nq) := ⟨rfl, rfl, rfl, Nat.le_refl _, fun _ _ => rfl⟩
    have hp1 := (HP.out nq).1
    have hp2 := (HP.out nq).2
    have d0 := HC.out nq
    obtain ⟨w1, hw1⟩ : ∃ w1, w.drewN nq = w1 := ⟨_, rfl⟩
    rw [hw1] at hb hp1 hp2 d0
    try rw [hw1]
    have HB : Hid (Below w.heap.size w w1 ∧ Plate w1 F1 B1 S ∧ RefP w1 F2 B2 S) := ⟨hb, hp1, hp2⟩
    clear hb hp1 hp2 m1 m2 m3 m4 m5 c0 c2 c4 c5 c6 HP HC
    go_wp2_with fail
    go_loopw [5] (fun v wr => ∃ j : Nat, j ≤ n ∧ v = .int .i64 j ∧ wr = w1) (fun v _ => n - (intOf v).toNat)
    case atStart => exact ⟨0, Nat.zero_le _, rfl, rfl⟩
    case round =>
      obtain ⟨j, hj, rfl, rfl⟩ := hrel
      by_cases hlt : j < n
      · have j1 : (j : Int) < n := by omega
        have hl := held_any B1 F1 S j wr HB.out.2.1
        have hr := rheld_any B2 F2 S j wr HB.out.2.2
        generalize heldS S j = hs at *
        generalize heldE S j = he at *
        go_wp2_with fail
        refine hl.mono ?_
        rintro e wS ⟨rfl, rfl⟩
        clear hl
        go_wp2_with fail
        refine hr.mono ?_
        rintro e wT ⟨rfl, rfl⟩
        clear hr
        go_wp2
        go_roundw
        case rel => exact ⟨j + 1, by omega, by go_num, by first | rfl | trivial⟩
        case measure => simp [intOf]; omega
      · obtain rfl : j = n := by omega
        have HF : Hid (Below w.heap.size w wr) := HB.out.1
        go_wp2
        go_ret
        exact ⟨rfl, HF.out⟩
end Go.Proofs.Ytmnojmcbghdciaa
