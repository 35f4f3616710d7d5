/- The law BlockNobody, called with any text and address, returns true, and changes nothing that was there. -/
import Derived.Test.YtenenhjmedonfaaGreatDoorBkEq
namespace Go.Proofs.YtenenhjmedonfaaGreatDoor
set_option maxRecDepth 20000
open Go.RowKit Go.Lib

theorem vseal_nil (z : Int) (n a s : ByteArray) (w : World) : Calls Tryz.prog 52 #[.pointer none, .int .i64 z, .string n, .string a, .string s] w fun e w' => e = .returned (.tuple #[.string ⟨#[]⟩, .int .i64 1]) ∧ w' = w := by
  go_enter Tryz.func52, Tryz.ntmps52
  go_wp2_with fail
  refine (given_nil _).mono ?_
  rintro e w1 ⟨rfl, rfl⟩
  go_wp2
  go_ret2
  exact ⟨rfl, rfl⟩
theorem bseal_nil (b : ByteArray) (hb : b.size = 448) (w : World) : Calls Tryz.prog 24 #[.pointer none, .agg Hd.zero.arr, .string b] w fun e w' => e = .returned (.tuple #[.string ⟨#[]⟩, .int .i64 1]) ∧ Below w.heap.size w w' :=
  (bseal_gen (.pointer none) Hd.zero b ⟨#[]⟩ 1 (fun w' => Below w.heap.size w w') w hb (by decide) (by decide) fun w' hw => (vseal_nil _ _ _ _ w').mono fun e w'' ⟨h1, h2⟩ => by subst h2; exact ⟨h1, hw, fun _ _ _ => rfl⟩).mono fun e w' ⟨h1, h2⟩ => ⟨h1, h2⟩
theorem get_nil (at_ : Int) (w : World) : Calls Tryz.prog 14 #[.pointer none, .int .i64 at_] w fun e w' => e = .returned (.tuple #[.string ⟨#[]⟩, .int .i64 0, .int .i64 1]) ∧ w' = w := by
  go_enter Tryz.func14, Tryz.ntmps14
  go_wp2
  exact bodyPost_ret (v := .tuple #[.string ⟨#[]⟩, .int .i64 0, .int .i64 1]) (by simp [results, Tryz.results14]) rfl ⟨rfl, rfl⟩
theorem put_nil (at_ : Int) (r : ByteArray) (w : World) : Calls Tryz.prog 17 #[.pointer none, .int .i64 at_, .string r] w fun e w' => e = .returned (.int .i64 1) ∧ w' = w := by
  go_enter Tryz.func17, Tryz.ntmps17
  go_wp2
  go_ret
  exact ⟨rfl, rfl⟩
theorem tag_short (r : ByteArray) (hr : ¬ r.size = 512) (w : World) : Calls Tryz.prog 32 #[.string r] w fun e w' => e = .returned (.string ⟨#[]⟩) ∧ w' = w := by
  have hw := fun w => whole_any r w
  rw [decide_eq_false hr] at hw
  go_enter Tryz.func32, Tryz.ntmps32
  go_wp2_with fail
  refine (hw _).mono ?_
  rintro e w1 ⟨rfl, rfl⟩
  go_wp2
  go_ret
  exact ⟨rfl, rfl⟩
set_option maxHeartbeats 1000000 in
theorem load_nil (v : Value) (at_ : Int) (w : World) : Calls Tryz.prog 26 #[.pointer none, v, .int .i64 at_] w fun e w' => e = .returned (.agg #[.bool false, .int .i64 Hd.zero.v0, .int .i64 Hd.zero.v1, .int .i64 Hd.zero.v2, .int .i64 Hd.zero.v3, .int .i64 Hd.zero.v4, .int .i64 Hd.zero.v5, .int .i64 Hd.zero.v6, .int .i64 Hd.zero.v7, .string ⟨#[]⟩]) ∧ Below w.heap.size w w' := by
  have g0 := heap_alloc_new w (.cells #[.bool false, .int .i64 0, .int .i64 0, .int .i64 0, .int .i64 0, .int .i64 0, .int .i64 0, .int .i64 0, .int .i64 0, .string ⟨#[]⟩] 55)
  have HG : Hid _ := g0
  have HB : Hid (Below w.heap.size w (w.alloc (.cells #[.bool false, .int .i64 0, .int .i64 0, .int .i64 0, .int .i64 0, .int .i64 0, .int .i64 0, .int .i64 0, .int .i64 0, .string ⟨#[]⟩] 55))) := (Below.refl _ _).alloc (Nat.le_refl _) _
  clear g0
  go_enter Tryz.func26, Tryz.ntmps26
  go_wp2_with fail
  refine (get_nil _ _).mono ?_
  rintro e w1 ⟨rfl, rfl⟩
  go_wp2_with fail
  exact bodyPost_ret (v := .agg #[.bool false, .int .i64 Hd.zero.v0, .int .i64 Hd.zero.v1, .int .i64 Hd.zero.v2, .int .i64 Hd.zero.v3, .int .i64 Hd.zero.v4, .int .i64 Hd.zero.v5, .int .i64 Hd.zero.v6, .int .i64 Hd.zero.v7, .string ⟨#[]⟩]) (results_cell_row Tryz.results26 _ _ w.heap.size 55 _ (0, 0) _ rfl HG.out Tryz.underlying55 rfl (by kernel_rfl)) rfl ⟨rfl, HB.out⟩

set_option maxRecDepth 100000 in
set_option maxHeartbeats 4000000 in
theorem walk_blockNobody (r : ByteArray) (at_ : Int) (w : World) :
    Calls Tryz.prog 7 #[.string r, .int .i64 at_] w fun e w' => e = .returned (.bool true) ∧ Below w.heap.size w w' := by
  have hbd := fun w => body_any ⟨#[]⟩ w
  have hsz := bodyS_size ⟨#[]⟩
  have hsn := fun w => bseal_nil (bodyS ⟨#[]⟩) hsz w
  have hfo := field_ok
  generalize bodyS ⟨#[]⟩ = b at *
  have hway : (r.size = 512 ∧ ∃ u, r.extract 0 511 = u ∧ ¬ u.size = 512) ∨ ¬ r.size = 512 := by
    by_cases hc : r.size = 512
    · exact .inl ⟨hc, _, rfl, by simp [hc]⟩
    · exact .inr hc
  rcases hway with ⟨hc, u, hu, hz⟩ | hc
  case' inl =>
    have hc1 : (r.size : Int) = 512 := by omega
    have hc2 : (511 : Int) ≤ r.size := by omega
  case' inr =>
    have hc1 : ((r.size : Int) == 512) = false := beq_false_of_ne (by omega)
    obtain ⟨u, hu, hz⟩ : ∃ u, u = r ∧ ¬ u.size = 512 := ⟨r, rfl, hc⟩
    subst hu
  all_goals
    have ho := fun v w => bopen_short v u hz w
    have ht := fun w => tag_short u hz w
    simp only [Hd.arr, Hd.zero] at ho hsn
    go_enter Tryz.func7, Tryz.ntmps7
    go_wp2_with fail
    refine (ideal_any w).mono ?_
    rintro e w1 ⟨B, rfl, _, hb⟩
    go_wp2_with fail
    refine (ho _ _).mono ?_
    rintro e w2 ⟨rfl, hb2⟩
    have hb2' := hb.trans (hb2.mono hb.size)
    have HB3 : Hid (Below w.heap.size w (w2.alloc (.cells #[.int .i64 0, .int .i64 0, .int .i64 0, .int .i64 0, .int .i64 0, .int .i64 0, .int .i64 0, .int .i64 0] 46))) := hb2'.alloc hb2'.size _
    clear hb hb2 hb2' ho
    go_wp2_with fail
    refine (get_nil _ _).mono ?_
    rintro e w4 ⟨rfl, rfl⟩
    go_wp2_with fail
    refine (hbd _).mono ?_
    rintro e w5 ⟨rfl, hb5⟩
    have HB5 : Hid (Below w.heap.size w w5) := HB3.out.trans (hb5.mono HB3.out.size)
    clear hb5 HB3 hbd
    go_wp2_with fail
    refine (hsn _).mono ?_
    rintro e w6 ⟨rfl, hb6⟩
    have HB6 : Hid (Below w.heap.size w w6) := HB5.out.trans (hb6.mono HB5.out.size)
    clear hb6 HB5 hsn
    go_wp2_with fail
    refine (put_nil _ _ _).mono ?_
    rintro e w7 ⟨rfl, rfl⟩
    go_wp2_with fail
    refine (ht _).mono ?_
    rintro e w8 ⟨rfl, rfl⟩
    clear ht
    go_wp2_with fail
    refine (ideal_any _).mono ?_
    rintro e w9 ⟨B9, rfl, _, hb9⟩
    have HB9 : Hid (Below w.heap.size w w9) := HB6.out.trans (hb9.mono HB6.out.size)
    clear hb9 HB6
    go_wp2_with fail
    refine (load_nil _ _ _).mono ?_
    rintro e w10 ⟨rfl, hb10⟩
    have HB10 : Hid (Below w.heap.size w w10) := HB9.out.trans (hb10.mono HB9.out.size)
    clear hb10 HB9
    go_wp2_with fail
    refine (bawake_any _).mono ?_
    rintro e w11 ⟨rfl, hb11⟩
    have HF : Hid (Below w.heap.size w w11) := HB10.out.trans (hb11.mono HB10.out.size)
    clear hb11 HB10
    go_wp2
    go_ret
    exact ⟨rfl, HF.out⟩
end Go.Proofs.YtenenhjmedonfaaGreatDoor
