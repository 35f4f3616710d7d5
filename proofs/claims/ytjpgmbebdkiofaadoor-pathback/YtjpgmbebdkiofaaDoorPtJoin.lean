/- Join: the program's. -/
import Derived.Test.YtjpgmbebdkiofaaDoorPtLaw
import Derived.Test.YtjpgmbebdkiofaaDoorCtBuild
namespace Go.Proofs.YtjpgmbebdkiofaaDoor
set_option maxRecDepth 20000
open Go.RowKit Go.Shelf

def pt170_ren : Go.Shelf.Ren := ⟨fun | 170 => 23 | n => n, fun | 0 => 0 | 3 => 3 | 5 => 5 | 37 => 40 | 70 => 39 | 72 => 42 | n => n, fun | n => n⟩
theorem pt170 : Go.Proofs.Lays.n170 Tryd.prog pt170_ren := {
  mixed := by kernel_rfl
  f170 := Tryd.func23.trans (congrArg some (by kernel_rfl))
  t0 := Tryd.underlying0
  a0 := Tryd.isAgg0
  z0 := Tryd.sizeOf0
  v0 := Tryd.zeroValue0
  t3 := Tryd.underlying3
  a3 := Tryd.isAgg3
  z3 := Tryd.sizeOf3
  v3 := Tryd.zeroValue3
  t37 := Tryd.underlying40
  a37 := Tryd.isAgg40
  z37 := Tryd.sizeOf40
  v37 := Tryd.zeroValue40
  t70 := Tryd.underlying39
  a70 := Tryd.isAgg39
  z70 := Tryd.sizeOf39
  v70 := Tryd.zeroValue39
  t72 := Tryd.underlying42
  a72 := Tryd.isAgg42
  z72 := Tryd.sizeOf42
  v72 := Tryd.zeroValue42 }
def Bl (B b : Nat) (l : List UInt8) (w : World) : Prop := Lib.IsBuilder 42 5 B b (Lib.byteCells l) w
theorem ptLen_any (B b : Nat) (l : List UInt8) (w : World) (h : Bl B b l w) :
    Calls Tryd.prog 23 #[.pointer (some ⟨b, 0, none⟩)] w fun e w' => e = .returned (.int .i64 l.length) ∧ w' = w := by
  have := Any.Builder_Len pt170 B b (Lib.byteCells l) w h
  rw [Lib.byteCells_length] at this
  exact this
theorem ptWrite_any (B b : Nat) (l : List UInt8) (s : ByteArray) (w : World) (h : Bl B b l w) (hlen : l.length + s.size ≤ 140737488355328) (hBw : B ≤ w.heap.size) :
    Calls Tryd.prog 22 #[.pointer (some ⟨b, 0, none⟩), .string s] w fun e w' => e = .returned (.tuple #[.int .i64 s.size, .nilIface]) ∧ Bl B b (l ++ s.data.toList) w' ∧ Below B w w' := by
  refine (Any.Builder_WriteString ct166 ct166_extra B b (Lib.byteCells l) s w h (by rw [Lib.byteCells_length]; exact hlen) hBw).mono fun e w' ⟨he, hB, hb⟩ => ⟨by rw [he], .inr ?_, hb⟩
  have e : Lib.byteCells l ++ Lib.strCells s = Lib.byteCells (l ++ s.data.toList) := by simp [Lib.byteCells, Lib.strCells]
  rw [← e]
  exact hB
theorem pt_owns {w w' : World} {base : Nat} {e : TypeId} {size : Nat} {v : Value} {n : Nat} {xs : List Value} (h : w.ownsRow base e size v n xs) (hk : ∀ k, k < w.heap.size → w'.heap[k]? = w.heap[k]?) : w'.ownsRow base e size v n xs := by
  refine ⟨h.1, ?_⟩
  rcases h.2 with h0 | ⟨g, cap, cur, e, h0, hg, h1, h2, h3, h4⟩
  · exact .inl h0
  · exact .inr ⟨g, cap, cur, e, h0, (hk g (lt_of_block hg)).trans hg, h1, h2, h3, h4⟩
theorem Bl_keep {B b : Nat} {l : List UInt8} {w w' : World} (h : Bl B b l w) (hb : Below w.heap.size w w') : Bl B b l w' := by
  have hk : ∀ k, k < w.heap.size → w'.heap[k]? = w.heap[k]? := fun k hk => hb.block k hk
  rcases h with ⟨h1, v, h2, h3, h4⟩ | ⟨h1, v, h2, h3, h4⟩
  · exact .inl ⟨h1, v, (hk _ (lt_of_block h2)).trans h2, pt_owns h3 hk, h4⟩
  · exact .inr ⟨h1, v, (hk _ (lt_of_block h2)).trans h2, pt_owns h3 hk, h4⟩
theorem jnGo_bad (a p : List UInt8) (ps : List (List UInt8)) (h : ¬ nmL p = 0) : jnGo a (p :: ps) = ([], nmL p) := by rw [jnGo, if_neg h]
theorem jnGo_long (a p : List UInt8) (ps : List (List UInt8)) (h : nmL p = 0) (h2 : 255 < (a ++ 47 :: p).length) : jnGo a (p :: ps) = ([], 4) := by rw [jnGo, if_pos h, if_pos h2]
theorem jnGo_more (a p : List UInt8) (ps : List (List UInt8)) (h : nmL p = 0) (h2 : ¬ 255 < (a ++ 47 :: p).length) : jnGo a (p :: ps) = jnGo (a ++ 47 :: p) ps := by rw [jnGo, if_pos h, if_neg h2]
theorem lsts_drop {l : List ByteArray} {j : Nat} (h : j < l.length) : (lsts l).drop j = (l[j]).data.toList :: (lsts l).drop (j + 1) := by
  have h2 : j < (lsts l).length := by unfold lsts; rw [List.length_map]; exact h
  rw [List.drop_eq_getElem_cons h2]
  congr 1
  simp [lsts]
theorem lsts_end {l : List ByteArray} {j : Nat} (h : ¬ j < l.length) : (lsts l).drop j = [] := by
  apply List.drop_eq_nil_of_le
  unfold lsts
  rw [List.length_map]
  omega
theorem name_size {s : ByteArray} (h : nmL s.data.toList = 0) : s.size ≤ 19 := by
  rw [Lib.size_eq]
  exact (nm_parts h).1
set_option maxHeartbeats 2000000 in
theorem pjoin_any (v : Value) (l : List ByteArray) (w : World) (hv : LS w v l) (hl : l.length ≤ 1000000000) :
    Calls Tryd.prog 15 #[v] w fun e w' => e = .returned (.tuple #[.string (mkB (jn (lsts l)).1), .int .i64 (jn (lsts l)).2]) ∧ Below w.heap.size w w' := by
  obtain ⟨oa, ca, rfl⟩ := hv.form
  by_cases h0 : l = []
  · subst h0
    clear hv hl
    go_enter Tryd.func15, Tryd.ntmps15
    go_wp2
    go_ret2
    exact ⟨rfl, Below.refl _ _⟩
  · have hlp : ((l.length : Int) == 0) = false := by have := List.length_pos_iff.2 h0; rw [beq_eq_false_iff_ne]; omega
    have hj0 : jn (lsts l) = jnGo [] ((lsts l).drop 0) := by
      rw [List.drop_zero, jn, if_neg]
      unfold lsts
      simpa using h0
    obtain ⟨X1, X2, hX⟩ : ∃ X1 X2, jn (lsts l) = (X1, X2) := ⟨_, _, rfl⟩
    rw [hX] at hj0 ⊢
    have HJ0 : Hid ((X1, X2) = jnGo [] ((lsts l).drop 0)) := hj0
    have HV : Hid (LS w (.slice oa l.length ca) l) := hv
    have HB0 : Hid (Bl w.heap.size w.heap.size [] (w.alloc (.cells #[.pointer none, .slice none 0 0] 42))) :=
      (show Lib.IsBuilder 42 5 w.heap.size w.heap.size (Lib.byteCells []) (w.alloc (.cells #[.pointer none, .slice none 0 0] 42)) from .inl ⟨Nat.le_refl _, _, heap_alloc_new w _, World.ownsRow_nil _ _ _ _, by simp [Value.ownBlock]⟩)
    clear hX hj0 hv h0
    go_enter Tryd.func15, Tryd.ntmps15
    go_wp2_with fail
    go_loopw [13] (fun iv wr => ∃ (j : Nat) (a : List UInt8), j ≤ l.length ∧ iv = .int .i64 (j : Int) ∧ a.length ≤ 255 ∧ (X1, X2) = jnGo a ((lsts l).drop j) ∧ Bl w.heap.size w.heap.size a wr ∧ Below w.heap.size w wr) (fun iv _ => l.length - (intOf iv).toNat)
    case atStart => exact ⟨0, [], Nat.zero_le _, rfl, by simp, HJ0.out, HB0.out, (Below.refl _ _).alloc (Nat.le_refl _) _⟩
    case round =>
      clear HB0 HJ0 hlp
      obtain ⟨j, a, hj, rfl, ha, hJ, hbl, hb⟩ := hrel
      have HO : Hid ((X1, X2) = jnGo a ((lsts l).drop j) ∧ Bl w.heap.size w.heap.size a wr ∧ Below w.heap.size w wr) := ⟨hJ, hbl, hb⟩
      by_cases hlt : j < l.length
      · have j1 : (j : Int) < l.length := by omega
        obtain ⟨g, o, rfl, hg, hc0⟩ := HV.out.at (i := j) hlt
        have hc := (cell_kept_1 (hb.block g hg) _).trans hc0
        have hd := lsts_drop hlt
        rw [hd] at hJ
        have hn := name_any l[j]
        generalize l[j] = x at *
        have HJ : Hid ((X1, X2) = jnGo a (x.data.toList :: (lsts l).drop (j + 1))) := hJ
        clear hJ hbl hb hc0 hd
        by_cases hp : nmL x.data.toList = 0
        · have hxs := name_size hp
          rw [hp] at hn
          have hlen2 : (a ++ 47 :: x.data.toList).length = a.length + 1 + x.size := by rw [List.length_append, List.length_cons, Lib.size_eq]; omega
          have HP : Hid (nmL x.data.toList = 0 ∧ (a ++ 47 :: x.data.toList).length = a.length + 1 + x.size) := ⟨hp, hlen2⟩
          clear hp hlen2
          go_wp2_with fail
          refine (hn _).mono ?_
          rintro e w1 ⟨rfl, hb1⟩
          clear hn
          have hB1 : Bl w.heap.size w.heap.size a w1 := Bl_keep HO.out.2.1 hb1
          have hL1 : Below w.heap.size w w1 := HO.out.2.2.trans (hb1.mono HO.out.2.2.size)
          have hw1 := ptWrite_any w.heap.size w.heap.size a ⟨#[47]⟩ w1 hB1 (show a.length + 1 ≤ _ by omega) hL1.size
          have HL1 : Hid (Below w.heap.size w w1) := hL1
          clear hb1 hB1 hL1
          go_wp2_with fail
          refine hw1.mono ?_
          rintro e w2 ⟨rfl, hB2, hb2⟩
          clear hw1
          have hL2 : Below w.heap.size w w2 := HL1.out.trans hb2
          have hw2 := ptWrite_any w.heap.size w.heap.size _ x w2 hB2 (by rw [List.length_append]; show a.length + 1 + x.size ≤ _; omega) hL2.size
          have HL2 : Hid (Below w.heap.size w w2) := hL2
          clear hb2 hB2 hL2 HL1
          go_wp2_with fail
          refine hw2.mono ?_
          rintro e w3 ⟨rfl, hB3, hb3⟩
          clear hw2
          have hL3 : Below w.heap.size w w3 := HL2.out.trans hb3
          have e3 : a ++ (⟨#[47]⟩ : ByteArray).data.toList ++ x.data.toList = a ++ 47 :: x.data.toList := by simp
          rw [e3] at hB3
          have hw3 := ptLen_any w.heap.size w.heap.size _ w3 hB3
          rw [HP.out.2] at hw3
          have HL3 : Hid (Bl w.heap.size w.heap.size (a ++ 47 :: x.data.toList) w3 ∧ Below w.heap.size w w3) := ⟨hB3, hL3⟩
          clear hb3 hB3 hL3 HL2 e3
          by_cases hbig : 255 < a.length + 1 + x.size
          · have hbig' : (255 : Int) < (a.length + 1 + x.size : Nat) := by omega
            have HF : Hid (X1 = [] ∧ X2 = 4) := by
              have := HJ.out
              rw [jnGo_long _ _ _ HP.out.1 (by rw [HP.out.2]; exact hbig)] at this
              exact Prod.mk.inj this
            generalize a.length + 1 + x.size = q at *
            clear HJ HP
            go_wp2_with fail
            refine hw3.mono ?_
            rintro e w4 ⟨rfl, rfl⟩
            clear hw3
            go_wp2
            go_ret2
            exact ⟨by rw [HF.out.1, HF.out.2]; rfl, HL3.out.2⟩
          · have hbig' : ¬ (255 : Int) < (a.length + 1 + x.size : Nat) := by omega
            have HF : Hid ((X1, X2) = jnGo (a ++ 47 :: x.data.toList) ((lsts l).drop (j + 1)) ∧ (a ++ 47 :: x.data.toList).length ≤ 255) := by
              have := HJ.out
              rw [jnGo_more _ _ _ HP.out.1 (by rw [HP.out.2]; exact hbig)] at this
              exact ⟨this, by rw [HP.out.2]; omega⟩
            generalize a.length + 1 + x.size = q at *
            clear HJ HP
            go_wp2_with fail
            refine hw3.mono ?_
            rintro e w4 ⟨rfl, rfl⟩
            clear hw3
            go_wp2
            go_roundw
            case rel => exact ⟨j + 1, _, by omega, by go_num, HF.out.2, HF.out.1, HL3.out.1, HL3.out.2⟩
            case measure => simp [intOf]; omega
        · have HF : Hid (X1 = [] ∧ X2 = nmL x.data.toList) := by
            have := HJ.out
            rw [jnGo_bad _ _ _ hp] at this
            exact Prod.mk.inj this
          clear HJ
          generalize nmL x.data.toList = q at *
          go_wp2_with fail
          refine (hn _).mono ?_
          rintro e w1 ⟨rfl, hb1⟩
          have HL1 : Hid (Below w.heap.size w w1) := HO.out.2.2.trans (hb1.mono HO.out.2.2.size)
          clear hb1 hn
          go_wp2
          go_ret2
          exact ⟨by rw [HF.out.1, HF.out.2]; rfl, HL1.out⟩
      · have j1 : ¬ (j : Int) < l.length := by omega
        have HF : Hid (X1 = a ∧ X2 = 0) := by
          have := hJ
          rw [lsts_end hlt, jnGo] at this
          exact Prod.mk.inj this
        have hs := ctString_any w.heap.size w.heap.size a wr hbl hb.size
        clear hJ hbl hb
        go_wp2_with fail
        refine hs.mono ?_
        rintro e w1 ⟨rfl, hb1⟩
        have HL1 : Hid (Below w.heap.size w w1) := HO.out.2.2.trans hb1
        clear hb1 hs
        go_wp2
        go_ret2
        exact ⟨by rw [HF.out.1, HF.out.2]; rfl, HL1.out⟩
end Go.Proofs.YtjpgmbebdkiofaaDoor
