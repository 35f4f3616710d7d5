/- chart's Table and Body. -/
import Derived.Test.YtcmbphppeobhfabCtTabM
import Derived.Test.YtcmbphppeobhfabCtInts
import Derived.Test.YtcmbphppeobhfabCtBuild
import Derived.Test.YtcmbphppeobhfabGet
import Derived.Test.YtcmbphppeobhfabRefPut
import Derived.Test.YtcmbphppeobhfabRefGet
namespace Go.Proofs.Ytcmbphppeobhfab
set_option maxRecDepth 20000
open Go.RowKit Go.Shelf

theorem ownsRow_keep {w w' : World} {base : Nat} {e : TypeId} {size : Nat} {v : Value} {n : Nat} {xs : List Value} (h : w.ownsRow base e size v n xs) (hk : ∀ k, base ≤ k → k < w.heap.size → w'.heap[k]? = w.heap[k]?) : w'.ownsRow base e size v n xs := by
  refine ⟨h.1, ?_⟩
  rcases h.2 with h0 | ⟨g, cap, cur, e, h0, hg, h1, h2, h3, h4⟩
  · exact .inl h0
  · exact .inr ⟨g, cap, cur, e, h0, (hk g h0 (lt_of_block hg)).trans hg, h1, h2, h3, h4⟩
theorem table_bad (s : ByteArray) (hs : ¬ s.size = 448) (w : World) :
    Calls Try.prog 17 #[.string s] w fun e w' => e = .returned (.tuple #[.slice none 0 0, .int .i64 1]) ∧ w' = w := by
  have h : ¬ (s.size : Int) = 448 := by omega
  go_enter Try.func17, Try.ntmps17
  go_wp2
  go_ret2
  exact ⟨rfl, rfl⟩
theorem make_112 (w : World) : (Instr.makeSlice 22 (.int .i64 112) (.int .i64 112)).run Try.prog w = .ok (.slice (some ⟨w.heap.size, 0, none⟩) 112 112) (w.alloc (.cells (madeCells #[.int .i64 0] 112) 3)) :=
  run_make_row' (P := Try.prog) 22 3 (.int .i64 0) 8 Try.underlying22 ct_info_int rfl .i64 .i64 112 (by omega) (by omega) w
def tabF (B : List UInt8) (j i : Nat) : Int := if i < j then leVal ((B.drop (4 * i)).take 4) else 0
theorem made_tab (w : World) (B : List UInt8) : Row (w.alloc (.cells (madeCells #[.int .i64 0] 112) 3)) w.heap.size 3 (rowF 112 fun i => .int .i64 (tabF B 0 i)) := by
  have e : (rowF 112 fun i => Value.int .i64 (tabF B 0 i)) = List.replicate 112 (.int .i64 0) := by
    rw [rowF]
    simp only [tabF, Nat.not_lt_zero, if_false]
    rw [List.map_const', List.length_range]
  rw [e, Row, ← toList_madeCells_one]
  exact heap_alloc_new w _
theorem tab_set {w : World} {b : Nat} {B : List UInt8} {j : Nat} (h : Row w b 3 (rowF 112 fun i => .int .i64 (tabF B j i))) : Row (w.setCell ⟨b, j, none⟩ (.int .i64 (leVal ((B.drop (4 * j)).take 4)))) b 3 (rowF 112 fun i => .int .i64 (tabF B (j + 1) i)) := by
  refine Row.congr (Row.setF h j _) (rowF_congr fun k _ => ?_)
  unfold tabF
  by_cases e : k = j
  · subst e; rw [if_pos rfl, if_pos (by omega)]
  · rw [if_neg e]
    by_cases e2 : k < j
    · rw [if_pos e2, if_pos (by omega)]
    · rw [if_neg e2, if_neg (by omega)]
theorem tab_list {w : World} {b : Nat} {B : List UInt8} (h : Row w b 3 (rowF 112 fun i => .int .i64 (tabF B 112 i))) : List1 (Value.int .i64) w (.slice (some ⟨b, 0, none⟩) 112 112) (tabN B 112) := by
  refine .inr ⟨b, 0, 112, by rw [tabN_length], Row.lt h, fun i x hx => ?_⟩
  have hi : i < 112 := by have := (List.getElem?_eq_some_iff.1 hx).1; rwa [tabN_length] at this
  rw [Nat.zero_add, Row.cellF h i hi]
  unfold tabF
  rw [if_pos hi]
  simp only [tabN, List.getElem?_map, List.getElem?_range hi, Option.map_some, Option.some.injEq] at hx
  rw [hx]
set_option maxHeartbeats 1000000 in
theorem table_any (s : ByteArray) (hs : s.size = 448) (w : World) :
    Calls Try.prog 17 #[.string s] w fun e w' => ∃ v, e = .returned (.tuple #[v, .int .i64 0]) ∧ List1 (Value.int .i64) w' v (tabN s.data.toList 112) ∧ Below w.heap.size w w' := by
  have hm := make_112
  have h : (s.size : Int) = 448 := by omega
  have HG : Hid (∀ j : Nat, j < 112 → ∀ w, Calls Try.prog 30 #[.string s, .int .i64 ((j : Int) * 4), .int .i64 4] w fun e w' => e = .returned (.tuple #[.int .i64 (leVal ((s.data.toList.drop (4 * j)).take 4)), .int .i64 0]) ∧ w' = w) := fun j hj w => by
    have := get_ok s (4 * j) 4 (by decide) (by decide) (by rw [hs]; decide) (by omega) w
    rw [show (((4 * j : Nat)) : Int) = (j : Int) * 4 by omega] at this
    exact this
  have HM : Hid (Row (w.alloc (.cells (madeCells #[.int .i64 0] 112) 3)) w.heap.size 3 (rowF 112 fun i => .int .i64 (tabF s.data.toList 0 i))) := made_tab w _
  clear hs
  go_enter Try.func17, Try.ntmps17
  go_wp2_with fail
  go_loopw [12] (fun iv wr => ∃ j : Nat, j ≤ 112 ∧ iv = .int .i64 (j : Int) ∧ Row wr w.heap.size 3 (rowF 112 fun i => .int .i64 (tabF s.data.toList j i)) ∧ Below w.heap.size w wr) (fun iv _ => 112 - (intOf iv).toNat)
  case atStart => exact ⟨0, Nat.zero_le _, rfl, HM.out, (Below.refl _ _).alloc (Nat.le_refl _) _⟩
  case round =>
    clear HM hm
    obtain ⟨j, hj, rfl, hrow, hb⟩ := hrel
    have HR : Hid (Row wr w.heap.size 3 (rowF 112 fun i => .int .i64 (tabF s.data.toList j i)) ∧ Below w.heap.size w wr) := ⟨hrow, hb⟩
    by_cases hlt : j < 112
    · have j1 : (j : Int) < 112 := by omega
      have hg := HG.out j hlt
      have hc := Row.cellF hrow j hlt
      have hf := Row.frozen hrow j
      have HS : Hid (Row (wr.setCell ⟨w.heap.size, j, none⟩ (.int .i64 (leVal ((s.data.toList.drop (4 * j)).take 4)))) w.heap.size 3 (rowF 112 fun i => .int .i64 (tabF s.data.toList (j + 1) i)) ∧ Below w.heap.size w (wr.setCell ⟨w.heap.size, j, none⟩ (.int .i64 (leVal ((s.data.toList.drop (4 * j)).take 4))))) := ⟨tab_set hrow, hb.setCell (p := ⟨w.heap.size, j, none⟩) (Nat.le_refl _) _⟩
      clear hrow hb HG HR
      generalize leVal ((s.data.toList.drop (4 * j)).take 4) = x at *
      generalize tabF s.data.toList j j = y at *
      go_wp2_with fail
      refine (hg _).mono ?_
      rintro e w1 ⟨rfl, rfl⟩
      go_wp2
      go_roundw
      case rel => exact ⟨j + 1, by omega, by go_num, HS.out⟩
      case measure => simp [intOf]; omega
    · obtain rfl : j = 112 := by omega
      have HL : Hid (List1 (Value.int .i64) wr (.slice (some ⟨w.heap.size, 0, none⟩) 112 112) (tabN s.data.toList 112)) := tab_list hrow
      clear hrow hb HG
      go_wp2
      go_ret2
      exact ⟨_, rfl, HL.out, HR.out.2⟩
theorem body_bad (v : Value) (l : List Int) (w : World) (hv : List1 (Value.int .i64) w v l) (hl : ¬ l.length = 112) :
    Calls Try.prog 19 #[v] w fun e w' => e = .returned (.tuple #[.string ⟨#[]⟩, .int .i64 1]) ∧ Below w.heap.size w w' := by
  obtain ⟨oa, ca, rfl⟩ := hv.form
  clear hv
  have h : ¬ (l.length : Int) = 112 := by omega
  generalize l.length = n at *
  go_enter Try.func19, Try.ntmps19
  go_wp2
  go_ret2
  exact ⟨rfl, Below.refl _ _⟩
theorem ctWrite_any (B b : Nat) (l : List UInt8) (t : List UInt8) (w : World) (h : Lib.IsBuilder 56 5 B b (Lib.byteCells l) w) (hlen : l.length + t.length ≤ 140737488355328) (hBw : B ≤ w.heap.size) :
    Calls Try.prog 33 #[.pointer (some ⟨b, 0, none⟩), .string ⟨t.toArray⟩] w fun e w' => e = .returned (.tuple #[.int .i64 ((t.length : Nat) : Int), .nilIface]) ∧ Lib.IsBuilder 56 5 B b (Lib.byteCells (l ++ t)) w' ∧ Below B w w' := by
  refine (Any.Builder_WriteString ct166 ct166_extra B b (Lib.byteCells l) ⟨t.toArray⟩ w h (by rw [Lib.byteCells_length]; exact hlen) hBw).mono fun e w' ⟨he, hB, hb⟩ => ⟨by rw [he]; rfl, .inr ?_, hb⟩
  have e : Lib.byteCells l ++ Lib.strCells ⟨t.toArray⟩ = Lib.byteCells (l ++ t) := by simp [Lib.byteCells, Lib.strCells]
  rw [← e]
  exact hB
set_option maxHeartbeats 1000000 in
theorem body_any (v : Value) (l : List Int) (w : World) (hv : List1 (Value.int .i64) w v l) (hl : l.length = 112) :
    Calls Try.prog 19 #[v] w fun e w' => ((∀ x ∈ l, okN x) ∧ e = .returned (.tuple #[.string ⟨(bodB l).toArray⟩, .int .i64 0]) ∨ (¬ ∀ x ∈ l, okN x) ∧ e = .returned (.tuple #[.string ⟨#[]⟩, .int .i64 2])) ∧ Below w.heap.size w w' := by
  obtain ⟨oa, ca, rfl⟩ := hv.form
  have HV : Hid (List1 (Value.int .i64) w (.slice oa l.length ca) l ∧ l.length = 112) := ⟨hv, hl⟩
  clear hv
  rw [hl]
  clear hl
  have HB0 : Hid (Lib.IsBuilder 56 5 w.heap.size w.heap.size (Lib.byteCells []) (w.alloc (.cells #[.pointer none, .slice none 0 0] 56))) :=
    (show Lib.IsBuilder 56 5 w.heap.size w.heap.size (Lib.byteCells []) (w.alloc (.cells #[.pointer none, .slice none 0 0] 56)) from .inl ⟨Nat.le_refl _, _, heap_alloc_new w _, World.ownsRow_nil _ _ _ _, by simp [Value.ownBlock]⟩)
  go_enter Try.func19, Try.ntmps19
  go_wp2_with fail
  go_loopw [14] (fun iv wr => ∃ j : Nat, j ≤ 112 ∧ iv = .int .i64 (j : Int) ∧ (∀ x ∈ l.take j, okN x) ∧ Lib.IsBuilder 56 5 w.heap.size w.heap.size (Lib.byteCells (bodB (l.take j))) wr ∧ Below w.heap.size w wr) (fun iv _ => 112 - (intOf iv).toNat)
  case atStart => exact ⟨0, Nat.zero_le _, rfl, by simp, HB0.out, (Below.refl _ _).alloc (Nat.le_refl _) _⟩
  case round =>
    clear HB0
    obtain ⟨j, hj, rfl, hok, hbl, hb⟩ := hrel
    by_cases hlt : j < 112
    · have j1 : (j : Int) < 112 := by omega
      have hlt' : j < l.length := by rw [HV.out.2]; exact hlt
      have hv1 := HV.out.1
      rw [HV.out.2] at hv1
      obtain ⟨g, o, rfl, hg, hc0⟩ := HV.out.1.at (i := j) hlt'
      have hc := (cell_kept_1 (hb.block g hg) _).trans hc0
      have ht : l.take (j + 1) = l.take j ++ [l[j]'hlt'] := by rw [List.take_add_one, List.getElem?_eq_getElem hlt']; rfl
      have HT : Hid (l.take (j + 1) = l.take j ++ [l[j]'hlt'] ∧ l[j]'hlt' ∈ l ∧ ∀ x ∈ l.take j, okN x) := ⟨ht, List.getElem_mem hlt', hok⟩
      have hp := put_any (l[j]'hlt') 4
      have hlb : (bodB (l.take j)).length ≤ 448 := by rw [bodB_length, List.length_take]; omega
      have HI : Hid (Lib.IsBuilder 56 5 w.heap.size w.heap.size (Lib.byteCells (bodB (l.take j))) wr ∧ Below w.heap.size w wr) := ⟨hbl, hb⟩
      clear ht hok hbl hb hc0 hv1
      generalize l[j]'hlt' = x at *
      by_cases hx : okN x
      · rw [(put_four hx).1, (put_four hx).2] at hp
        have hfl := fourB_length x
        have HW : Hid (∀ w1, Below wr.heap.size wr w1 → Calls Try.prog 33 #[.pointer (some ⟨w.heap.size, 0, none⟩), .string ⟨(fourB x).toArray⟩] w1 fun e w' => e = .returned (.tuple #[.int .i64 (((fourB x).length : Nat) : Int), .nilIface]) ∧ Lib.IsBuilder 56 5 w.heap.size w.heap.size (Lib.byteCells (bodB (l.take (j + 1)))) w' ∧ Below w.heap.size w1 w') := fun w1 hb1 => by
          rw [HT.out.1, bodB_snoc]
          refine ctWrite_any w.heap.size w.heap.size _ _ w1 ?_ (by omega) (Nat.le_trans HI.out.2.size hb1.size)
          have hk : ∀ k, k < wr.heap.size → w1.heap[k]? = wr.heap[k]? := fun k hk => hb1.block k hk
          rcases HI.out.1 with ⟨h1, v, h2, h3, h4⟩ | ⟨h1, v, h2, h3, h4⟩
          · exact .inl ⟨h1, v, (hk _ (lt_of_block h2)).trans h2, ownsRow_keep h3 fun k _ h => hk k h, h4⟩
          · exact .inr ⟨h1, v, (hk _ (lt_of_block h2)).trans h2, ownsRow_keep h3 fun k _ h => hk k h, h4⟩
        have HOK : Hid (∀ y ∈ l.take (j + 1), okN y) := fun y hy => by
          rw [HT.out.1, List.mem_append] at hy
          rcases hy with hy | hy
          · exact HT.out.2.2 y hy
          · simp at hy; rw [hy]; exact hx
        clear hx hlb HT
        rw [hfl] at HW
        generalize (fourB x) = fx at *
        go_wp2_with fail
        refine (hp _).mono ?_
        rintro e w1 ⟨rfl, hb1⟩
        have hw := HW.out w1 hb1
        have HB1 : Hid (Below w.heap.size w w1) := HI.out.2.trans (hb1.mono HI.out.2.size)
        clear hp hb1 HW HI
        go_wp2_with fail
        refine hw.mono ?_
        rintro e w2 ⟨rfl, hbl2, hb2⟩
        have HF : Hid (Lib.IsBuilder 56 5 w.heap.size w.heap.size (Lib.byteCells (bodB (l.take (j + 1)))) w2 ∧ Below w.heap.size w w2) := ⟨hbl2, HB1.out.trans hb2⟩
        clear hw hbl2 hb2 HB1
        go_wp2
        go_roundw
        case rel => exact ⟨j + 1, by omega, by go_num, HOK.out, HF.out⟩
        case measure => simp [intOf]; omega
      · rw [put_not hx] at hp
        have HN : Hid (¬ ∀ x ∈ l, okN x) := fun h => hx (h _ HT.out.2.1)
        generalize putS x 4 = ps at *
        clear hx hlb HT
        go_wp2_with fail
        refine (hp _).mono ?_
        rintro e w1 ⟨rfl, hb1⟩
        have HB1 : Hid (Below w.heap.size w w1) := HI.out.2.trans (hb1.mono HI.out.2.size)
        clear hp hb1 HI
        go_wp2
        go_ret2
        exact ⟨.inr ⟨HN.out, rfl⟩, HB1.out⟩
    · obtain rfl : j = 112 := by omega
      have ht : l.take 112 = l := by rw [← HV.out.2]; exact List.take_length
      rw [ht] at hok hbl
      have hs := ctString_any w.heap.size w.heap.size (bodB l) wr hbl hb.size
      have HI : Hid ((∀ x ∈ l, okN x) ∧ Below w.heap.size w wr) := ⟨hok, hb⟩
      clear ht hok hbl hb
      obtain ⟨bl, hbl⟩ : ∃ bl, bl = bodB l := ⟨_, rfl⟩
      have HBL : Hid (bl = bodB l) := hbl
      rw [← hbl] at hs
      clear hbl
      go_wp2_with fail
      refine hs.mono ?_
      rintro e w1 ⟨rfl, hb1⟩
      have HB1 : Hid (Below w.heap.size w w1) := HI.out.2.trans hb1
      clear hs hb1
      go_wp2
      go_ret2
      exact ⟨.inl ⟨HI.out.1, by rw [← HBL.out]; rfl⟩, HB1.out⟩
end Go.Proofs.Ytcmbphppeobhfab
