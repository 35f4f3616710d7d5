/- The laws' body, and chapter 6's first example. -/
import Derived.Test.YtkopbpbmfdogfaaDoorBkTold
namespace Go.Proofs.YtkopbpbmfdogfaaDoor
set_option maxRecDepth 20000
open Go.RowKit Go.Lib

def cut448 (s : ByteArray) : ByteArray := if 448 < s.size then s.extract 0 448 else s
theorem cut448_size (s : ByteArray) : (cut448 s).size ≤ 448 := by
  unfold cut448
  split
  · simp; omega
  · omega
def bodyS (s : ByteArray) : ByteArray := cut448 s ++ noughtsS (448 - (cut448 s).size)
theorem bodyS_size (s : ByteArray) : (bodyS s).size = 448 := by
  have := cut448_size s
  unfold bodyS
  rw [ByteArray.size_append, noughtsS_size]
  omega
set_option maxHeartbeats 1000000 in
theorem body_any (s : ByteArray) (w : World) : Calls Tryd.prog 6 #[.string s] w fun e w' => e = .returned (.string (bodyS s)) ∧ Below w.heap.size w w' := by
  obtain ⟨i0, hi, hz0, hz1, hz2⟩ := info_parts info_u8
  have HK : Hid (bodyS s = cut448 s ++ noughtsS (448 - (cut448 s).size)) := rfl
  have hk := cut448_size s
  have hcut : (448 < s.size ∧ s.extract 0 448 = cut448 s) ∨ (¬ 448 < s.size ∧ s = cut448 s) := by
    by_cases h : 448 < s.size
    · exact .inl ⟨h, by simp [cut448, h]⟩
    · exact .inr ⟨h, by simp [cut448, h]⟩
  generalize bodyS s = b at *
  generalize cut448 s = k at *
  obtain ⟨m, hm⟩ : ∃ m, m = 448 - k.size := ⟨_, rfl⟩
  rw [← hm] at HK
  have v1 : IntKind.i64.wrap ((448 : Int) - k.size) = m := by rw [IntKind.wrap_i64]; omega
  have v2 : (448 : Int) - k.size = m := by omega
  have hm4 : m ≤ 448 := by omega
  have HM : Hid (m = 448 - k.size) := hm
  have hzs := noughtsS_size m
  have hadd : ∀ w', (Op.stringOp .add k (noughtsS m)).run Tryd.prog w' = .ok (.string b) w' := fun w' => by rw [HK.out]; exact run_string_add_sum (P := Tryd.prog) (w := w') k _ (by omega)
  clear hm HK
  rcases hcut with ⟨hc, he⟩ | ⟨hc, he⟩
  case' inl =>
    have hc1 : (448 : Int) < s.size := by omega
    have hc2 : (448 : Int) ≤ s.size := by omega
    go_enter Tryd.func6, Tryd.ntmps6
  case' inr =>
    have hc1 : ¬ (448 : Int) < s.size := by omega
    subst he
    go_enter Tryd.func6, Tryd.ntmps6
  all_goals
    go_wp2_with (at_make; refine wpList_make_full _ rfl _ _ 50 rfl w.heap.size 5 i0 (.int .u8 0) 1 Tryd.underlying50 hi hz0 hz1 .i64 .i64 _ _ m rfl rfl rfl rfl ?c1 ?c2 (Nat.le_refl _) ?_)
    case c1 => first | omega | (rw [hz2]; omega)
    case c2 => unfold maxLen; omega
    intro w2 hown1 hgrow1
    have hb2 : Below w.heap.size w w2 := (Below.refl _ _).grown hgrow1 (Nat.le_refl _) (fun k hk => by simp at hk)
    have hown2 : w2.ownsRow w.heap.size 5 1 (.slice (some ⟨w.heap.size, 0, none⟩) m m) m (List.replicate m (Value.int .u8 0)) := by
      simpa [toList_madeCells_one, Value.cells] using hown1
    have hcv := run_convert_bytes_arg (P := Tryd.prog) w2 50 5 Tryd.underlying50 Tryd.underlying5 w.heap.size 0 m m (List.replicate m 0) (by simp) (fun i hi => by
      rw [Nat.zero_add, hown2.cellAt i (by omega)]
      simp [List.getD, hi]) 9 Tryd.underlying9
    rw [show strOfNums (List.replicate m 0) = noughtsS m from rfl] at hcv
    clear hown1 hown2 hgrow1
    generalize noughtsS m = Z at *
    go_wp2
    go_ret
    exact ⟨rfl, hb2⟩

def h9 : Hd := ⟨0, 9, 0, 0, 0, 0, 0, 0⟩
theorem h9_err : h9.err = 0 := by decide
theorem new_one (h : Hd) (s : ByteArray) : numOf (addN newV.seals (h.four s)) (h.four s) = 1 := by
  rw [numOf_add]
  rfl
/-- A block that was sealed by a new vault. -/
theorem new_seal (h : Hd) (s : ByteArray) (e : h.err = 0) (hs : s.size = 448) : bsealS newV h s = blkS h s 1 ∧ bsealE h s = 0 ∧ bsealP newV h s = ⟨[], [], [h.four s]⟩ := by
  have hB : bsealB h s = true := by simp [bsealB, hs, e]
  refine ⟨?_, by simp [bsealE, hs, e], ?_⟩
  · unfold bsealS; rw [hB, if_pos rfl, new_one]
  · unfold bsealP; rw [hB, if_pos rfl]; rfl
theorem new_opens (h : Hd) (s : ByteArray) (e : h.err = 0) (hs : s.size = 448) : bopenE ⟨[], [], [h.four s]⟩ (blkS h s 1) = 0 ∧ bopenH ⟨[], [], [h.four s]⟩ (blkS h s 1) = h ∧ bopenS ⟨[], [], [h.four s]⟩ (blkS h s 1) = s := by
  have h1 : numOf [h.four s] (h.four s) = 1 := by simp [numOf]
  have := bopen_blk ⟨[], [], [h.four s]⟩ h s (by show (1 : Nat) ≤ _; omega) e hs (by show numOf [h.four s] (h.four s) ≠ 0; rw [h1]; omega)
  rw [show numOf (VS.mk [] [] [h.four s]).seals (h.four s) = 1 from h1] at this
  exact this
theorem field_ok (ok : Bool) (x0 x1 x2 x3 x4 x5 x6 x7 : Int) (s : ByteArray) (w : World) : (Instr.field 36 (.agg #[.bool ok, .int .i64 x0, .int .i64 x1, .int .i64 x2, .int .i64 x3, .int .i64 x4, .int .i64 x5, .int .i64 x6, .int .i64 x7, .string s]) 0).run Tryd.prog w = .ok (.bool ok) w := by kernel_rfl
set_option maxHeartbeats 2000000 in
theorem bawake_any (w : World) : Calls Tryd.prog 8 #[] w fun e w' => e = .returned (.bool true) ∧ Below w.heap.size w w' := by
  have hx := fun w => body_any ⟨#[120]⟩ w
  have hsz := bodyS_size ⟨#[120]⟩
  generalize bodyS ⟨#[120]⟩ = b at *
  obtain ⟨s1, s2, s3⟩ := new_seal h9 b h9_err hsz
  obtain ⟨o1, o2, o3⟩ := new_opens h9 b h9_err hsz
  have hse := fun B F w (hp : Ideal w F B newV) => bseal_any B F newV h9 b (by decide) w hp
  rw [s1, s2, s3] at hse
  have hr512 := blk_size (n := 1) h9_err hsz (by decide)
  have ht9 := fun B F w (hp : Ideal w F B ⟨[], [], [h9.four b]⟩) => told_any B F ⟨[], [], [h9.four b]⟩ (blkS h9 b 1) 9 (by show (1 : Nat) ≤ _; omega) w hp
  have ht10 := fun B F w (hp : Ideal w F B ⟨[], [], [h9.four b]⟩) => told_any B F ⟨[], [], [h9.four b]⟩ (blkS h9 b 1) 10 (by show (1 : Nat) ≤ _; omega) w hp
  rw [o1, o2, o3] at ht9 ht10
  simp only [show h9.v1 = 9 from rfl, and_self, if_true, show ¬ (9 : Int) = 10 by decide, and_false, if_false] at ht9 ht10
  simp only [readA, noneA] at ht9 ht10
  generalize blkS h9 b 1 = r at *
  generalize VS.mk [] [] [h9.four b] = S at *
  simp only [Hd.arr] at hse
  simp only [show h9.v0 = 0 from rfl, show h9.v1 = 9 from rfl, show h9.v2 = 0 from rfl, show h9.v3 = 0 from rfl, show h9.v4 = 0 from rfl, show h9.v5 = 0 from rfl, show h9.v6 = 0 from rfl, show h9.v7 = 0 from rfl] at hse
  have hr' : (r.size : Int) = 512 := by omega
  clear s1 s2 s3 o1 o2 o3 hsz hr512
  have hfo := field_ok
  go_enter Tryd.func8, Tryd.ntmps8
  go_wp2_with fail
  refine (ideal_any w).mono ?_
  rintro e w1 ⟨B, rfl, hp, hb⟩
  go_wp2_with fail
  refine (hx _).mono ?_
  rintro e w2 ⟨rfl, hb2⟩
  have hp2 := hp.below hb2
  have hb2' := hb.trans (hb2.mono hb.size)
  clear hx hp hb hb2
  go_wp2_with fail
  refine (hse B _ w2 hp2).mono ?_
  rintro e w3 ⟨rfl, hp3, ht3⟩
  have hb3 := hb2'.trans (ht3.below hb2'.size fun k h => h.1)
  clear hse hp2 hb2' ht3
  go_wp2_with fail
  refine (ht9 B _ w3 hp3).mono ?_
  rintro e w4 ⟨rfl, hb4⟩
  have hp4 := hp3.below hb4
  have hb4' := hb3.trans (hb4.mono hb3.size)
  clear ht9 hp3 hb3 hb4
  go_wp2_with fail
  refine (ht10 B _ w4 hp4).mono ?_
  rintro e w5 ⟨rfl, hb5⟩
  have HF : Hid (Below w.heap.size w w5) := hb4'.trans (hb5.mono hb4'.size)
  clear ht10 hp4 hb4' hb5
  go_wp2
  go_ret
  exact ⟨rfl, HF.out⟩
end Go.Proofs.YtkopbpbmfdogfaaDoor
