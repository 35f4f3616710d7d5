/- The law BlockGets, called with any number of sectors, any marks and any address, where package errors holds what it is laid with, returns true, and changes nothing that was there: the walk. -/
import Derived.Test.YtcmoagphbpjenaaGreatDoorMg47
namespace Go.Proofs.YtcmoagphbpjenaaGreatDoor
set_option maxRecDepth 20000
open Go.RowKit

theorem fill_zero (wq : World) : (convert 31 9 (.slice (some ⟨wq.heap.size, 0, none⟩) 64 64)).run Tryz.prog (wq.alloc (.cells (madeCells #[.int .u8 0] 64) 5)) = .ok (.string (fillS 0 64)) (wq.alloc (.cells (madeCells #[.int .u8 0] 64) 5)) := by
  have hr : Row (wq.alloc (.cells (madeCells #[.int .u8 0] 64) 5)) wq.heap.size 5 (List.replicate 64 (.int .u8 0)) := made_row (heap_alloc_new wq _)
  exact run_convert_bytes_arg (P := Tryz.prog) _ 31 5 Tryz.underlying31 Tryz.underlying5 wq.heap.size 0 64 64 ((List.replicate 64 0).map fun (x : Nat) => (x : Int)) (by simp) (fun i hi => by
    have hi' : i < 64 := by simpa using hi
    rw [Nat.zero_add, hr.cell, fill_get 64 0 i hi', List.getElem?_replicate, if_pos hi']
    rfl) 9 Tryz.underlying9
theorem make_zero (wq : World) : (Instr.makeSlice 31 (.int .i64 64) (.int .i64 64)).run Tryz.prog wq = .ok (.slice (some ⟨wq.heap.size, 0, none⟩) 64 64) (wq.alloc (.cells (madeCells #[.int .u8 0] 64) 5)) := run_make_row' (P := Tryz.prog) 31 5 (.int .u8 0) 1 Tryz.underlying31 info_u8 rfl .i64 .i64 64 (by omega) (by omega) wq
theorem armP_wait (S : PS) (n : Int) : (armP S n).wait = S.wait ∧ (armP S n).kept = S.kept := by
  unfold armP
  split
  · exact ⟨rfl, rfl⟩
  · split
    · exact ⟨rfl, rfl⟩
    · exact ⟨rfl, rfl⟩
theorem RefP.cs {w : World} {F : Nat → Prop} {B : Nat} {S : PS} (hp : RefP w F B S) : w.cell? ⟨B, 4, none⟩ = some (.bool (!S.up)) ∧ w.cell? ⟨B, 5, none⟩ = some (.int .i64 S.reads) ∧ w.cell? ⟨B, 6, none⟩ = some (.int .i64 S.writes) ∧ ∃ oa cap, w.cell? ⟨B, 2, none⟩ = some (.slice oa S.wait.length cap) := by
  obtain ⟨kv, dv, wv, ks, ds, h⟩ := hp
  obtain ⟨oa, cap, rfl⟩ := h.wform
  exact ⟨Row.cell h.row 4, Row.cell h.row 5, Row.cell h.row 6, oa, cap, Row.cell h.row 2⟩
theorem text_is (s : ByteArray) : (s.toList == s.toList) = true := by simp
set_option maxHeartbeats 8000000 in
theorem walk_blockGets (n : Int) (v : Value) (l : List MarkV) (at_ : Int) (off : Bool) (w : World) (hv : MarkVs w v l ∧ ∀ x ∈ l, x.Ok) (hE : ErrT w) :
    Calls Tryz.prog 3 #[.int .i64 n, v, .int .i64 at_, .bool off] w fun e w' => e = .returned (.bool true) ∧ Below w.heap.size w w' := by
  by_cases hn : n < 0 ∨ 32768 < n
  · go_enter Tryz.func3, Tryz.ntmps3
    go_wp2_with fail
    refine (both_bad n hn v _).mono ?_
    rintro e w1 ⟨rfl, rfl⟩
    go_wp2_with fail
    refine (bawake_any _).mono ?_
    rintro e w3 ⟨rfl, hb3⟩
    go_wp2
    go_ret
    exact ⟨rfl, hb3⟩
  · obtain ⟨m, rfl⟩ : ∃ m : Nat, n = m := ⟨n.toNat, by omega⟩
    have hm : m ≤ 32768 := by omega
    have hf := both_any m hm v l w hv
    have hlt0 := lt_of_cell_ hE
    have HE : Hid (ErrT w) := hE
    clear hn hv hE
    go_enter Tryz.func3, Tryz.ntmps3
    go_wp2_with fail
    refine hf.mono ?_
    rintro e w1 ⟨⟨B1, B2, S, rfl, hpr, hwt, hkl⟩, hb1⟩
    have HP : Hid (Pr w.heap.size w1 B1 B2 S S ∧ Below w.heap.size w w1) := ⟨hpr, hb1⟩
    have hz1 := hb1.size
    clear hf hpr hb1 hkl
    by_cases h80 : 80 < m
    · have m1 : (80 : Int) < (m : Int) := by omega
      go_wp2_with fail
      refine (bawake_any _).mono ?_
      rintro e w5 ⟨rfl, hb5⟩
      have HB5 : Hid (Below w.heap.size w w5) := HP.out.2.trans (hb5.mono HP.out.2.size)
      clear hb5 HP
      go_wp2
      go_ret
      exact ⟨rfl, HB5.out⟩
    · have m1 : decide ((80 : Int) < (m : Int)) = false := decide_eq_false (by omega)
      have m2 : decide (80 < m) = false := decide_eq_false h80
      cases off
      case' false =>
        generalize w1 = wt at *
        generalize S = St at *
        have hwt2 : St.wait.length ≤ 1000 := by omega
        go_wp2_with fail
      case' true =>
        have hmk := make_zero
        have hcv := fill_zero
        have ha1 := HP.out.1.left (f := 8) (args := #[.pointer (some ⟨B1, 0, none⟩), .int .i64 0]) (R := fun e => e = .returned (.int .i64 (armE S 0))) hz1 fun F1 _ h => (arm_any B1 F1 S 0 (by decide) w1 h).mono fun _ _ ⟨he, h1, h2⟩ => ⟨he, plate_grow h1, h2⟩
        generalize armE S 0 = ae at *
        go_wp2_with fail
        refine ha1.mono ?_
        rintro e w2 ⟨rfl, hp2, hb2⟩
        have hz2 := hb2.size
        have HB2 : Hid (Below w.heap.size w w2) := HP.out.2.trans hb2
        have ha2 := hp2.right (f := 9) (args := #[.pointer (some ⟨B2, 0, none⟩), .int .i64 0]) (R := fun e => e = .returned (.int .i64 (armE S 0))) (by omega) fun F1 h => (rarm_any B2 F1 S 0 (by decide) w2 h).mono fun _ _ ⟨he, h1, h2⟩ => ⟨he, ref_grow h1, h2⟩
        generalize armE S 0 = ae2 at *
        clear ha1 hp2 hb2 HP
        go_wp2_with fail
        refine ha2.mono ?_
        rintro e w3 ⟨rfl, hp3, hb3⟩
        have hz3 := hb3.size
        have HB3 : Hid (Below w.heap.size w w3) := HB2.out.trans hb3
        have hwa : (armP S 0).wait.length ≤ 41 := by rw [(armP_wait S 0).1]; omega
        obtain ⟨S3, hS3⟩ : ∃ S3, S3 = armP S 0 := ⟨_, rfl⟩
        rw [← hS3] at hp3 hwa
        have hA : Below w3.heap.size w3 (w3.alloc (.cells (madeCells #[.int .u8 0] 64) 5)) := (Below.refl _ _).alloc (Nat.le_refl _) _
        have hp3' := hp3.below hA
        have HB3' : Hid (Below w.heap.size w (w3.alloc (.cells (madeCells #[.int .u8 0] 64) 5))) := HB3.out.trans (hA.mono (by omega))
        have hw1 := hp3'.left (f := 10) (args := #[.pointer (some ⟨B1, 0, none⟩), .int .i64 0, .string (fillS 0 64)]) (R := fun e => e = .returned (.int .i64 (writeE S3 0 (fillS 0 64)))) (by have := HB3'.out.size; omega) fun F1 _ h => write_any B1 F1 S3 0 (fillS 0 64) _ h (by omega)
        generalize writeE S3 0 (fillS 0 64) = we at *
        have HFS : Hid ((writeP S3 0 (fillS 0 64)).wait.length ≤ 1000) := by have := (writeP_wait S3 0 (fillS 0 64)).1; show _ ≤ _; omega
        clear ha2 hp3 hb3 hA hp3' hS3
        obtain ⟨z64, hz64⟩ : ∃ z, z = fillS 0 64 := ⟨_, rfl⟩
        have HZ : Hid (z64 = fillS 0 64) := hz64
        rw [← hz64] at hw1 HFS
        simp only [← hz64] at hcv
        clear hz64
        go_wp2_with fail
        refine hw1.mono ?_
        rintro e w4 ⟨rfl, hp4, hb4⟩
        have hz4 := hb4.size
        have HB4 : Hid (Below w.heap.size w w4) := HB3'.out.trans hb4
        have hA : Below w4.heap.size w4 (w4.alloc (.cells (madeCells #[.int .u8 0] 64) 5)) := (Below.refl _ _).alloc (Nat.le_refl _) _
        have hp4' := hp4.below hA
        have HB4' : Hid (Below w.heap.size w (w4.alloc (.cells (madeCells #[.int .u8 0] 64) 5))) := HB4.out.trans (hA.mono HB4.out.size)
        have hw2 := hp4'.right (f := 11) (args := #[.pointer (some ⟨B2, 0, none⟩), .int .i64 0, .string z64]) (R := fun e => e = .returned (.int .i64 (writeE S3 0 z64))) (by have := HB4'.out.size; omega) fun F1 h => rwrite_any B2 F1 S3 0 z64 _ h (by omega)
        generalize writeE S3 0 z64 = we2 at *
        clear hw1 hp4 hb4 hA hp4'
        go_wp2_with fail
        refine hw2.mono ?_
        rintro e wt ⟨rfl, hp5, hb5⟩
        obtain ⟨St, hSt⟩ : ∃ St, St = writeP S3 0 z64 := ⟨_, rfl⟩
        rw [← hSt] at hp5 HFS
        have HP : Hid (Pr w.heap.size wt B1 B2 St St ∧ Below w.heap.size w wt) := ⟨hp5, HB4'.out.trans hb5⟩
        have hz1 := HP.out.2.size
        have hwt2 : St.wait.length ≤ 1000 := HFS.out
        clear hw2 hp5 hb5 hSt hmk hcv HB2 HB3 HB3' HB4 HB4' hz2 hz3 hz4 hwa HFS
        go_wp2_with fail
      all_goals
        have hg1 := HP.out.1.left (f := 12) (args := #[.pointer (some ⟨B1, 0, none⟩), .int .i64 at_]) (R := fun e => e = .returned (.tuple #[.string (bget St at_).1.1, .int .i64 ((bget St at_).1.2.1 : Nat), .int .i64 (bget St at_).1.2.2])) hz1 fun F1 hF h => (bget_any B1 F1 St at_ wt h (by omega) (HE.out.below HP.out.2 hlt0) (fun hh => by have := hF _ hh; omega)).mono fun _ _ ⟨he, h1, h2⟩ => ⟨he, plate_grow h1, h2⟩
        obtain ⟨T, hT⟩ : ∃ T, T = (bget St at_).1.1 := ⟨_, rfl⟩
        obtain ⟨mk, hmk⟩ : ∃ mk, mk = (bget St at_).1.2.1 := ⟨_, rfl⟩
        obtain ⟨er, her⟩ : ∃ er, er = (bget St at_).1.2.2 := ⟨_, rfl⟩
        obtain ⟨Sn, hSn⟩ : ∃ Sn, Sn = (bget St at_).2 := ⟨_, rfl⟩
        have HQ : Hid ((bget St at_).1.1 = T ∧ (bget St at_).1.2.1 = mk ∧ (bget St at_).1.2.2 = er ∧ (bget St at_).2 = Sn) := ⟨hT.symm, hmk.symm, her.symm, hSn.symm⟩
        rw [← hT, ← hmk, ← her, ← hSn] at hg1
        clear hT hmk her hSn
        refine hg1.mono ?_
        rintro e wa ⟨rfl, hpa, hba⟩
        have HBa : Hid (Below w.heap.size w wa) := HP.out.2.trans hba
        have hza := HBa.out.size
        have hg2 := hpa.right (f := 13) (args := #[.pointer (some ⟨B2, 0, none⟩), .int .i64 at_]) (R := fun e => e = .returned (.tuple #[.string (bget St at_).1.1, .int .i64 ((bget St at_).1.2.1 : Nat), .int .i64 (bget St at_).1.2.2])) hza fun F1 h => (rbget_any B2 F1 St at_ wa h (by omega)).mono fun _ _ ⟨he, h1, h2⟩ => ⟨he, ref_grow h1, h2⟩
        rw [HQ.out.1, HQ.out.2.1, HQ.out.2.2.1, HQ.out.2.2.2] at hg2
        clear hg1 hpa hba HP
        go_wp2_with fail
        refine hg2.mono ?_
        rintro e wb ⟨rfl, hpb, hbb⟩
        have HBb : Hid (Below w.heap.size w wb) := HBa.out.trans hbb
        obtain ⟨F1, F2, q1, q2, _⟩ := hpb
        have hct := text_is T
        have hrd := reads_any B1 F1 Sn wb.drew (q1.keep fun _ _ _ => rfl)
        have hc5 := q2.cs.2.1
        generalize Sn.reads = rr at *
        have hlB : B2 < wb.heap.size := by obtain ⟨_, _, _, _, _, h⟩ := q2; exact Row.lt h.row
        clear hg2 hbb q1 q2 HBa HQ
        go_wp2_with fail
        go_region_held3 (fun w' => w'.cell? ⟨B2, 5, none⟩ = some (.int .i64 rr)) (first | exact hcz | exact hc5 | simp [go_sem, *]) (first | (go_at_call 14; refine hrd.mono ?_; rintro e wS ⟨rfl, rfl⟩) | (go_at_call 7; refine (bawake_any _).mono ?_; rintro e wz ⟨rfl, hbz⟩; have hcz : wz.cell? ⟨B2, 5, none⟩ = some (.int .i64 rr) := (hbz.cell (p := ⟨B2, 5, none⟩) hlB).trans hc5))
        have HF : Hid (Below w.heap.size w wz) := HBb.out.drew.trans (hbz.mono HBb.out.size)
        clear hbz hcz hrd
        go_wp2
        go_ret
        exact ⟨rfl, HF.out⟩
end Go.Proofs.YtcmoagphbpjenaaGreatDoor
