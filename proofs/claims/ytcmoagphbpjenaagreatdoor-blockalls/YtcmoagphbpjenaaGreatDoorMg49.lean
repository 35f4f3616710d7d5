/- The law BlockPuts, called with any number of sectors, any marks, any address, bytes and fuse, where package errors holds what it is laid with, returns true, and changes nothing that was there: the walk. · What a world holds where package errors' handle is laid. -/
import Derived.Test.YtcmoagphbpjenaaGreatDoorMg48
import Derived.Test.YtcmoagphbpjenaaGreatDoorMg42
import Derived.Test.YtcmoagphbpjenaaGreatDoorRows
import Derived.Lib.LaidTab
namespace Go.Proofs.YtcmoagphbpjenaaGreatDoor
set_option maxRecDepth 20000
open Go.RowKit

set_option maxHeartbeats 8000000 in
theorem walk_blockPuts (n : Int) (v : Value) (l : List MarkV) (at_ : Int) (raw : ByteArray) (fuse : Int) (w : World) (hv : MarkVs w v l ∧ ∀ x ∈ l, x.Ok) (hfu : (Lit.int .i64 fuse).wf = true) (hE : ErrT w) :
    Calls Tryz.prog 4 #[.int .i64 n, v, .int .i64 at_, .string raw, .int .i64 fuse] w fun e w' => e = .returned (.bool true) ∧ Below w.heap.size w w' := by
  have hfs : fuse < 9223372036854775808 := by
    simp [Lit.wf, IntKind.min, IntKind.max, IntKind.signed, IntKind.bits] at hfu
    omega
  clear hfu
  by_cases hn : n < 0 ∨ 32768 < n
  · go_enter Tryz.func4, Tryz.ntmps4
    go_wp2_with fail
    refine (both_bad n hn v _).mono ?_
    rintro e w1 ⟨rfl, rfl⟩
    go_wp2_with fail
    refine (bawake_any _).mono ?_
    rintro e w3 ⟨rfl, hb3⟩
    go_wp2
    go_ret
    exact ⟨rfl, hb3⟩
  · obtain ⟨m, rfl⟩ : ∃ m : Nat, n = m := ⟨n.toNat, by omega⟩
    have hm : m ≤ 32768 := by omega
    have hf := both_any m hm v l w hv
    have hlt0 := lt_of_cell_ hE
    have HE : Hid (ErrT w) := hE
    clear hn hv hE
    go_enter Tryz.func4, Tryz.ntmps4
    go_wp2_with fail
    refine hf.mono ?_
    rintro e w1 ⟨⟨B1, B2, S, rfl, hpr, hwt, hkl⟩, hb1⟩
    have HP : Hid (Pr w.heap.size w1 B1 B2 S S ∧ Below w.heap.size w w1) := ⟨hpr, hb1⟩
    have hz1 := hb1.size
    clear hf hpr hb1 hkl
    by_cases h80 : 80 < m
    · have m1 : (80 : Int) < (m : Int) := by omega
      go_wp2_with fail
      refine (bawake_any _).mono ?_
      rintro e w5 ⟨rfl, hb5⟩
      have HB5 : Hid (Below w.heap.size w w5) := HP.out.2.trans (hb5.mono HP.out.2.size)
      clear hb5 HP
      go_wp2
      go_ret
      exact ⟨rfl, HB5.out⟩
    · have m1 : decide ((80 : Int) < (m : Int)) = false := decide_eq_false (by omega)
      have m2 : decide (80 < m) = false := decide_eq_false h80
      by_cases hrs : 1000 < raw.size
      · have r1 : (1000 : Int) < (raw.size : Int) := by omega
        go_wp2_with fail
        refine (bawake_any _).mono ?_
        rintro e w5 ⟨rfl, hb5⟩
        have HB5 : Hid (Below w.heap.size w w5) := HP.out.2.trans (hb5.mono HP.out.2.size)
        clear hb5 HP
        go_wp2
        go_ret
        exact ⟨rfl, HB5.out⟩
      · have r1 : decide ((1000 : Int) < (raw.size : Int)) = false := decide_eq_false (by omega)
        have r2 : decide (1000 < raw.size) = false := decide_eq_false hrs
        have ha1 := HP.out.1.left (f := 8) (args := #[.pointer (some ⟨B1, 0, none⟩), .int .i64 fuse]) (R := fun e => e = .returned (.int .i64 (armE S fuse))) hz1 fun F1 _ h => (arm_any B1 F1 S fuse hfs w1 h).mono fun _ _ ⟨he, h1, h2⟩ => ⟨he, plate_grow h1, h2⟩
        generalize armE S fuse = ae at *
        go_wp2_with fail
        refine ha1.mono ?_
        rintro e w2 ⟨rfl, hp2, hb2⟩
        have HB2 : Hid (Below w.heap.size w w2) := HP.out.2.trans hb2
        have ha2 := hp2.right (f := 9) (args := #[.pointer (some ⟨B2, 0, none⟩), .int .i64 fuse]) (R := fun e => e = .returned (.int .i64 (armE S fuse))) HB2.out.size fun F1 h => (rarm_any B2 F1 S fuse hfs w2 h).mono fun _ _ ⟨he, h1, h2⟩ => ⟨he, ref_grow h1, h2⟩
        generalize armE S fuse = ae2 at *
        clear ha1 hp2 hb2 HP
        go_wp2_with fail
        refine ha2.mono ?_
        rintro e wt ⟨rfl, hp3, hb3⟩
        have hwa : (armP S fuse).wait.length ≤ 41 := by rw [(armP_wait S fuse).1]; omega
        obtain ⟨St, hSt⟩ : ∃ St, St = armP S fuse := ⟨_, rfl⟩
        rw [← hSt] at hp3 hwa
        have HP : Hid (Pr w.heap.size wt B1 B2 St St ∧ Below w.heap.size w wt) := ⟨hp3, HB2.out.trans hb3⟩
        clear ha2 hp3 hb3 hSt HB2 hz1
        have hz1 := HP.out.2.size
        have hg1 := HP.out.1.left (f := 15) (args := #[.pointer (some ⟨B1, 0, none⟩), .int .i64 at_, .string raw]) (R := fun e => e = .returned (.int .i64 (bputE St at_ raw))) hz1 fun F1 hF h => bput_any B1 F1 St at_ raw wt h (by omega) (HE.out.below HP.out.2 hlt0) (fun hh => by have := hF _ hh; omega)
        obtain ⟨er, her⟩ : ∃ er, er = bputE St at_ raw := ⟨_, rfl⟩
        obtain ⟨Sn, hSn⟩ : ∃ Sn, Sn = bputP St at_ raw := ⟨_, rfl⟩
        have HQ : Hid (bputE St at_ raw = er ∧ bputP St at_ raw = Sn) := ⟨her.symm, hSn.symm⟩
        rw [← her, ← hSn] at hg1
        clear her hSn
        go_wp2_with fail
        refine hg1.mono ?_
        rintro e wa ⟨rfl, hpa, hba⟩
        have HBa : Hid (Below w.heap.size w wa) := HP.out.2.trans hba
        have hza := HBa.out.size
        have hg2 := hpa.right (f := 16) (args := #[.pointer (some ⟨B2, 0, none⟩), .int .i64 at_, .string raw]) (R := fun e => e = .returned (.int .i64 (bputE St at_ raw))) hza fun F1 h => rbput_any B2 F1 St at_ raw wa h (by omega)
        rw [HQ.out.1, HQ.out.2] at hg2
        clear hg1 hpa hba HP
        go_wp2_with fail
        refine hg2.mono ?_
        rintro e wb ⟨rfl, hpb, hbb⟩
        have HBb : Hid (Below w.heap.size w wb) := HBa.out.trans hbb
        obtain ⟨F1, F2, q1, q2, _⟩ := hpb
        have q1d : Plate wb.drew F1 B1 Sn := q1.keep fun _ _ _ => rfl
        have k1 := writes_any B1 F1 Sn wb.drew q1d
        have k2 := pending_any B1 F1 Sn wb.drew q1d
        have k3 := up_any B1 F1 Sn wb.drew q1d
        obtain ⟨c4, _, c6, oq, cq, c2⟩ := q2.cs
        have hlB : B2 < wb.heap.size := by obtain ⟨_, _, _, _, _, h⟩ := q2; exact Row.lt h.row
        generalize Sn.writes = rr at *
        generalize Sn.wait.length = wl at *
        generalize Sn.up = up at *
        clear hg2 hbb q1 q2 HBa HQ q1d
        cases up
        all_goals
          simp only [Bool.not_false, Bool.not_true] at c4
          go_wp2_with fail
          go_region_held3 (fun w' => w'.cell? ⟨B2, 4, none⟩ = wb.cell? ⟨B2, 4, none⟩ ∧ w'.cell? ⟨B2, 6, none⟩ = some (.int .i64 rr) ∧ w'.cell? ⟨B2, 2, none⟩ = some (.slice oq wl cq)) (first | exact hcz | exact ⟨rfl, c6, c2⟩ | simp [go_sem, *]) (first | (go_at_call 17; refine k1.mono ?_; rintro e wS ⟨rfl, rfl⟩) | (go_at_call 18; refine k2.mono ?_; rintro e wS ⟨rfl, rfl⟩) | (go_at_call 19; refine k3.mono ?_; rintro e wS ⟨rfl, rfl⟩) | (go_at_call 7; refine (bawake_any _).mono ?_; rintro e wz ⟨rfl, hbz⟩; have hcz : wz.cell? ⟨B2, 4, none⟩ = wb.cell? ⟨B2, 4, none⟩ ∧ wz.cell? ⟨B2, 6, none⟩ = some (.int .i64 rr) ∧ wz.cell? ⟨B2, 2, none⟩ = some (.slice oq wl cq) := ⟨hbz.cell (p := ⟨B2, 4, none⟩) hlB, (hbz.cell (p := ⟨B2, 6, none⟩) hlB).trans c6, (hbz.cell (p := ⟨B2, 2, none⟩) hlB).trans c2⟩))
          have HF : Hid (Below w.heap.size w wz) := HBb.out.drew.trans (hbz.mono HBb.out.size)
          clear hbz hcz k1 k2 k3
          go_wp2
          go_ret
          exact ⟨rfl, HF.out⟩
end Go.Proofs.YtcmoagphbpjenaaGreatDoor

namespace Go.Proofs.YtcmoagphbpjenaaGreatDoor
set_option maxRecDepth 20000
open Go.RowKit

theorem errT_of_handles {W : World} (h : handlesMet Tryz.prog [("errors.errorType", Rows.laid_errors_errorType)] W) : ErrT W := by
  have h2 : ∃ name u ty, (Rows.laid_errors_errorType : DataW Unit).handleName? = some name ∧ (Tryz.prog.cutTypes.find? (·.1 == "internal/reflectlite.rtype")).map (·.2) = some u ∧ ty < Tryz.prog.types.size ∧ Tryz.prog.rowNamed ty name = true ∧ W.var? Tryz.prog "errors.errorType" = some #[.iface u (.agg #[typeHandle Tryz.prog ty])] := h _ (List.mem_singleton.2 rfl)
  obtain ⟨name, u, ty, hn, hu, hty, hr, hv⟩ := h2
  obtain rfl : name = [101, 114, 114, 111, 114] := (Option.some.inj ((show (Rows.laid_errors_errorType : DataW Unit).handleName? = some [101, 114, 114, 111, 114] by kernel_rfl).symm.trans hn)).symm
  obtain rfl : u = 153 := (Option.some.inj ((show (Tryz.prog.cutTypes.find? (·.1 == "internal/reflectlite.rtype")).map (·.2) = some 153 by kernel_rfl).symm.trans hu)).symm
  have hall : (List.range Tryz.prog.types.size).all (fun t => !Tryz.prog.rowNamed t [101, 114, 114, 111, 114] || t == 77) = true := by kernel_rfl
  have h1 := List.all_eq_true.1 hall ty (List.mem_range.2 hty)
  rw [hr] at h1
  obtain rfl : ty = 77 := by simpa using h1
  have hc := World.var?_cell (show Tryz.prog.globalNamed "errors.errorType" = some 0 by kernel_rfl) hv 0
  have hs : Tryz.prog.globals.size = 4 := by kernel_rfl
  rw [ErrT, hc]
  simp only [typeHandle, hs]
  rfl
end Go.Proofs.YtcmoagphbpjenaaGreatDoor
