/- The law JournalNobody returns true. · A value of type api.Super that is read as data is four numbers of type int and a text. -/
import Derived.Test.YtdngoicpcocnnaaGreatDoorMg49
import Derived.Test.YtdngoicpcocnnaaGreatDoorMg11
namespace Go.Proofs.YtdngoicpcocnnaaGreatDoor
set_option maxRecDepth 20000
open Go.RowKit

set_option maxHeartbeats 4000000 in
theorem walk_journalNobody (s : Sp) (v : Value) (w : World) (hg : ErrT w) : Calls Tryz.prog 6 #[.agg s.arr, v] w fun e w' => e = .returned (.bool true) ∧ Below w.heap.size w w' := by
  obtain ⟨a0, a1, a2, a3, r⟩ := s
  simp only [Sp.arr]
  have hs0 := fun W => jlsup_any 48 0 W
  have hs1 := fun W => jlsup_any 48 1 W
  have hr := fun v W => recover_nil v W
  simp only [Sp.zero, Sp.arr] at hr
  have he0 := (law_err 0 (.inl rfl)).1
  have HG : Hid (ErrT w) := hg
  clear hg
  go_enter Tryz.func6, Tryz.ntmps6
  go_wp2_with fail
  refine (ideal_any _).mono ?_
  rintro e w1 ⟨V, rfl, hv1, hb1⟩
  obtain ⟨F, hF⟩ : ∃ F : Nat → Prop, Ideal w1 F V newV := ⟨_, hv1⟩
  have HV1 : Hid (Ideal w1 F V newV ∧ Below w.heap.size w w1) := ⟨hF, (bel_alloc w _).trans (hb1.mono (by simp))⟩
  clear hv1 hb1 hF
  go_wp2_with fail
  refine (hr _ _).mono ?_
  rintro e w2 ⟨rfl, hb2⟩
  have HB2 : Hid (Below w1.heap.size w1 (w2.alloc (.cells #[.int .i64 0, .int .i64 0, .int .i64 0, .int .i64 0, .string ⟨#[]⟩] 33))) := hb2.alloc hb2.size _
  clear hr hb2
  go_wp2_with fail
  refine (live_nil _).mono ?_
  rintro e w3 ⟨rfl, hb3⟩
  have HB3 : Hid (Below w1.heap.size w1 w3) := HB2.out.trans (hb3.mono HB2.out.size)
  clear hb3 HB2
  go_wp2_with fail
  refine (hs1 _).mono ?_
  rintro e w4 ⟨rfl, hb4⟩
  have HB4 : Hid (Below w1.heap.size w1 w4) := HB3.out.trans (hb4.mono HB3.out.size)
  clear hb4 HB3 hs1
  go_wp2_with fail
  refine (commit_nil _ (lawSp 48 1) _).mono ?_
  rintro e w5 ⟨rfl, hb5⟩
  have HB5 : Hid (Below w1.heap.size w1 w5) := HB4.out.trans (hb5.mono HB4.out.size)
  clear hb5 HB4
  go_wp2_with fail
  refine (hs0 _).mono ?_
  rintro e w6 ⟨rfl, hb6⟩
  have HB6 : Hid (Below w1.heap.size w1 w6) := HB5.out.trans (hb6.mono HB5.out.size)
  clear hb6 HB5
  go_wp2_with fail
  refine (format_nil _ (lawSp 48 0) _).mono ?_
  rintro e w7 ⟨rfl, hb7⟩
  have HB7 : Hid (Below w1.heap.size w1 w7) := HB6.out.trans (hb7.mono HB6.out.size)
  clear hb7 HB6
  go_wp2_with fail
  refine (hs0 _).mono ?_
  rintro e w8 ⟨rfl, hb8⟩
  have HB8 : Hid (Below w1.heap.size w1 w8) := HB7.out.trans (hb8.mono HB7.out.size)
  clear hb8 HB7 hs0
  have h9 := anew_nil (idealK V) (idealOk V) _ newV (lawSp 48 0) he0 w8 (by show (0 : Nat) + 0 ≤ 1000000 ∧ (0 : Nat) + 0 ≤ 1000000; omega) (HV1.out.1.below HB8.out)
  clear he0
  go_wp2_with fail
  refine h9.mono ?_
  rintro e w9 ⟨rfl, hb9⟩
  have HB9 : Hid (Below w.heap.size w w9) := (HV1.out.2.trans (HB8.out.mono HV1.out.2.size)).trans (hb9.mono (Nat.le_trans HV1.out.2.size HB8.out.size))
  have h10 := jawake_any w9 (HG.out.bel HB9.out)
  clear h9 hb9 HB8 HV1
  go_wp2_with fail
  refine h10.mono ?_
  rintro e w10 ⟨rfl, hb10⟩
  have HF : Hid (Below w.heap.size w w10) := HB9.out.trans (hb10.mono HB9.out.size)
  clear h10 hb10 HB9
  go_wp2
  go_ret
  exact ⟨rfl, HF.out⟩
end Go.Proofs.YtdngoicpcocnnaaGreatDoor

namespace Go.Proofs.YtdngoicpcocnnaaGreatDoor
set_option maxRecDepth 20000
open Go.ChangeShapes Go.WideShapes Go.ChangeAt Go.RowKit

theorem array5 {α : Type} {cs : Array α} (h : cs.size = 5) : ∃ c0 c1 c2 c3 c4, cs = #[c0, c1, c2, c3, c4] := by
  obtain ⟨l⟩ := cs
  match l, h with
  | [c0, c1, c2, c3, c4], _ => exact ⟨c0, c1, c2, c3, c4, rfl⟩
theorem cells_super : Tryz.prog.cellsOf 33 = 5 := by kernel_rfl
theorem open_super {H : Type} {enc : TypeId × Value → H} {w : World} {base b0 : Nat} {spare : Nat → Bool} {held : Bool} {r : Reach} {v : Value} {d : DataW H} {p : List MemPlace}
    (hv : Value.okWide Tryz.prog w r b0 33 v) (h : DataW.Trod enc Tryz.prog w base spare held 33 v d p) :
    ∃ (a0 a1 a2 a3 : Int) (s : ByteArray), v = .agg #[.int .i64 a0, .int .i64 a1, .int .i64 a2, .int .i64 a3, .string s] ∧ (IsInt a0 ∧ IsInt a1 ∧ IsInt a2 ∧ IsInt a3 ∧ s.size ≤ maxLen) := by
  obtain ⟨cs, rfl, hsz⟩ := okWide_struct Tryz.underlying33 hv
  obtain ⟨c0, c1, c2, c3, c4, rfl⟩ := array5 (hsz.trans cells_super)
  obtain ⟨fuel, hf⟩ := h
  obtain ⟨xs, n, _, _, _, hlen, hf⟩ := DataW.trod_struct Tryz.underlying33 hf
  have hl : xs.length = 5 := hlen
  obtain ⟨a0, rfl, w0⟩ := fld_int (c := c0) (i := 0) (xs := xs) (by simpa [Value.cells, cells_int] using hf 0 _ rfl) (by omega)
  obtain ⟨a1, rfl, w1⟩ := fld_int (c := c1) (i := 1) (xs := xs) (by simpa [Value.cells, cells_int] using hf 1 _ rfl) (by omega)
  obtain ⟨a2, rfl, w2⟩ := fld_int (c := c2) (i := 2) (xs := xs) (by simpa [Value.cells, cells_int] using hf 2 _ rfl) (by omega)
  obtain ⟨a3, rfl, w3⟩ := fld_int (c := c3) (i := 3) (xs := xs) (by simpa [Value.cells, cells_int] using hf 3 _ rfl) (by omega)
  obtain ⟨s, rfl, w4⟩ := fld_string (c := c4) (i := 4) (xs := xs) (by simpa [Value.cells, cells_string] using hf 4 _ rfl) (by omega)
  exact ⟨a0, a1, a2, a3, s, rfl, w0, w1, w2, w3, w4⟩
end Go.Proofs.YtdngoicpcocnnaaGreatDoor
