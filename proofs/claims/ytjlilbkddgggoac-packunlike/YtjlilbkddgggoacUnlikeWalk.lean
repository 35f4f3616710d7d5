/- The law PackUnlike, called with any two heads and any two entries, returns true, and changes nothing that was there. -/
import Derived.Test.YtjlilbkddgggoacAwake
import Derived.Test.YtjlilbkddgggoacHead
import Derived.Test.YtjlilbkddgggoacEntry
import Derived.Test.YtjlilbkddgggoacOpenHead
import Derived.Test.YtjlilbkddgggoacOpenEntry
import Derived.Test.YtjlilbkddgggoacInj
namespace Go.Proofs.Ytjlilbkddgggoac
open Go.RowKit

def eqHead (a0 a1 a2 a3 a4 a5 a6 a7 b0 b1 b2 b3 b4 b5 b6 b7 : Int) : Bool := a0 == b0 && (a1 == b1 && (a2 == b2 && (a3 == b3 && (a4 == b4 && (a5 == b5 && (a6 == b6 && a7 == b7))))))
theorem eql_head (a0 a1 a2 a3 a4 a5 a6 a7 b0 b1 b2 b3 b4 b5 b6 b7 : Int) (w : World) : (binOp .eql 23 (.agg #[.int .i64 a0, .int .i64 a1, .int .i64 a2, .int .i64 a3, .int .i64 a4, .int .i64 a5, .int .i64 a6, .int .i64 a7]) (.agg #[.int .i64 b0, .int .i64 b1, .int .i64 b2, .int .i64 b3, .int .i64 b4, .int .i64 b5, .int .i64 b6, .int .i64 b7])).run Try.prog w = .ok (.bool (eqHead a0 a1 a2 a3 a4 a5 a6 a7 b0 b1 b2 b3 b4 b5 b6 b7)) w := by
  go_simp
  unfold eqHead
  repeat' split
  all_goals simp_all
theorem eql_entry (s t : ByteArray) (c1 c2 d1 d2 : Int) (w : World) : (binOp .eql 25 (.agg #[.string s, .int .i64 c1, .int .i64 c2]) (.agg #[.string t, .int .i64 d1, .int .i64 d2])).run Try.prog w = .ok (.bool (s.toList == t.toList && (c1 == d1 && c2 == d2))) w := by
  go_simp
  repeat' split
  all_goals simp_all

/-- What is asked of two heads: one is refused, or their bytes are one just if they are. -/
theorem heads_way (a0 a1 a2 a3 a4 a5 a6 a7 b0 b1 b2 b3 b4 b5 b6 b7 : Int) :
    (recE (headPs a0 a1 a2 a3 a4 a5 a6 a7) != 0) = true ∨ ((recE (headPs a0 a1 a2 a3 a4 a5 a6 a7) != 0) = false ∧ (recE (headPs b0 b1 b2 b3 b4 b5 b6 b7) != 0) = true) ∨
    ((recE (headPs a0 a1 a2 a3 a4 a5 a6 a7) != 0) = false ∧ (recE (headPs b0 b1 b2 b3 b4 b5 b6 b7) != 0) = false ∧ ((recS [71, 82, 80, 78] (headPs a0 a1 a2 a3 a4 a5 a6 a7) 8).toList == (recS [71, 82, 80, 78] (headPs b0 b1 b2 b3 b4 b5 b6 b7) 8).toList) = eqHead a0 a1 a2 a3 a4 a5 a6 a7 b0 b1 b2 b3 b4 b5 b6 b7) := by
  by_cases h1 : recE (headPs a0 a1 a2 a3 a4 a5 a6 a7) = 0
  · by_cases h2 : recE (headPs b0 b1 b2 b3 b4 b5 b6 b7) = 0
    · refine .inr (.inr ⟨by simp [h1], by simp [h2], ?_⟩)
      rw [Bool.eq_iff_iff, beq_iff_eq, ByteArray.toList_eq, ByteArray.toList_eq]
      constructor
      · intro h
        have h3 : recS [71, 82, 80, 78] (headPs a0 a1 a2 a3 a4 a5 a6 a7) 8 = recS [71, 82, 80, 78] (headPs b0 b1 b2 b3 b4 b5 b6 b7) 8 := by
          apply ByteArray.ext; exact Array.toList_inj.1 h
        have h4 := (recS_inj (ps := headPs a0 a1 a2 a3 a4 a5 a6 a7) (qs := headPs b0 b1 b2 b3 b4 b5 b6 b7) rfl rfl (recE_zero h1) (recE_zero h2) h3).2
        unfold headPs at h4
        simp only [List.cons.injEq, Prod.mk.injEq, and_true] at h4
        obtain ⟨rfl, rfl, rfl, rfl, rfl, rfl, rfl, rfl⟩ := h4
        simp [eqHead]
      · intro h
        simp only [eqHead, Bool.and_eq_true, beq_iff_eq] at h
        obtain ⟨rfl, rfl, rfl, rfl, rfl, rfl, rfl, rfl⟩ := h
        rfl
    · exact .inr (.inl ⟨by simp [h1], by simpa using h2⟩)
  · exact .inl (by simpa using h1)
/-- What is asked of two entries. -/
theorem entries_way (s t : ByteArray) (c1 c2 d1 d2 : Int) :
    (entE s c1 c2 != 0) = true ∨ ((entE s c1 c2 != 0) = false ∧ (entE t d1 d2 != 0) = true) ∨
    ((entE s c1 c2 != 0) = false ∧ (entE t d1 d2 != 0) = false ∧ ((entS s c1 c2).toList == (entS t d1 d2).toList) = (s.toList == t.toList && (c1 == d1 && c2 == d2))) := by
  by_cases h1 : entE s c1 c2 = 0
  · by_cases h2 : entE t d1 d2 = 0
    · refine .inr (.inr ⟨by simp [h1], by simp [h2], ?_⟩)
      rw [Bool.eq_iff_iff, beq_iff_eq, ByteArray.toList_eq, ByteArray.toList_eq]
      constructor
      · intro h
        have h3 : entS s c1 c2 = entS t d1 d2 := by apply ByteArray.ext; exact Array.toList_inj.1 h
        obtain ⟨rfl, rfl, rfl⟩ := entS_inj h1 h2 h3
        simp
      · intro h
        simp only [Bool.and_eq_true, beq_iff_eq] at h
        obtain ⟨h0, rfl, rfl⟩ := h
        have : s = t := by
          rw [ByteArray.toList_eq, ByteArray.toList_eq] at h0
          apply ByteArray.ext; exact Array.toList_inj.1 h0
        rw [this]
    · exact .inr (.inl ⟨by simp [h1], by simpa using h2⟩)
  · exact .inl (by simpa using h1)

theorem cell_at {w : World} {b : Nat} {cs : Array Value} {t : TypeId} (h : w.heap[b]? = some (.cells cs t (0, 0))) (i : Nat) (v : Value) (hv : cs[i]? = some v) : w.cell? ⟨b, i, none⟩ = some v := by simp [World.cell?, h, hv]
theorem cells4 (w : World) (o1 o2 o3 o4 : Obj) : ((((w.alloc o1).alloc o2).alloc o3).alloc o4).heap[w.heap.size]? = some o1 ∧ ((((w.alloc o1).alloc o2).alloc o3).alloc o4).heap[w.heap.size + 1]? = some o2 ∧
    ((((w.alloc o1).alloc o2).alloc o3).alloc o4).heap[w.heap.size + 1 + 1]? = some o3 ∧ ((((w.alloc o1).alloc o2).alloc o3).alloc o4).heap[w.heap.size + 1 + 1 + 1]? = some o4 := by
  have e1 := heap_alloc_new w o1
  have e2 := heap_alloc_new (w.alloc o1) o2
  have e3 := heap_alloc_new ((w.alloc o1).alloc o2) o3
  have e4 := heap_alloc_new (((w.alloc o1).alloc o2).alloc o3) o4
  rw [World.size_alloc] at e2
  rw [World.size_alloc, World.size_alloc] at e3
  rw [World.size_alloc, World.size_alloc, World.size_alloc] at e4
  refine ⟨?_, ?_, ?_, e4⟩
  · rw [Below.heap_alloc _ _ _ (by simp only [World.size_alloc]; omega), Below.heap_alloc _ _ _ (by simp only [World.size_alloc]; omega), Below.heap_alloc _ _ _ (by simp only [World.size_alloc]; omega)]; exact e1
  · rw [Below.heap_alloc _ _ _ (by simp only [World.size_alloc]; omega), Below.heap_alloc _ _ _ (by simp only [World.size_alloc]; omega)]; exact e2
  · rw [Below.heap_alloc _ _ _ (by simp only [World.size_alloc]; omega)]; exact e3
/-- The four arguments lie in their blocks. -/
structure Four (a0 a1 a2 a3 a4 a5 a6 a7 b0 b1 b2 b3 b4 b5 b6 b7 : Int) (s t : ByteArray) (c1 c2 d1 d2 : Int) (N : Nat) (w : World) : Prop where
  g0 : w.heap[N]? = some (.cells #[.int .i64 a0, .int .i64 a1, .int .i64 a2, .int .i64 a3, .int .i64 a4, .int .i64 a5, .int .i64 a6, .int .i64 a7] 23 (0, 0))
  g1 : w.heap[N + 1]? = some (.cells #[.int .i64 b0, .int .i64 b1, .int .i64 b2, .int .i64 b3, .int .i64 b4, .int .i64 b5, .int .i64 b6, .int .i64 b7] 23 (0, 0))
  g2 : w.heap[N + 1 + 1]? = some (.cells #[.string s, .int .i64 c1, .int .i64 c2] 25 (0, 0))
  g3 : w.heap[N + 1 + 1 + 1]? = some (.cells #[.string t, .int .i64 d1, .int .i64 d2] 25 (0, 0))
theorem Four.below {a0 a1 a2 a3 a4 a5 a6 a7 b0 b1 b2 b3 b4 b5 b6 b7 : Int} {s t : ByteArray} {c1 c2 d1 d2 : Int} {N : Nat} {w w' : World} (h : Four a0 a1 a2 a3 a4 a5 a6 a7 b0 b1 b2 b3 b4 b5 b6 b7 s t c1 c2 d1 d2 N w) (hb : Below w.heap.size w w') : Four a0 a1 a2 a3 a4 a5 a6 a7 b0 b1 b2 b3 b4 b5 b6 b7 s t c1 c2 d1 d2 N w' :=
  ⟨(hb.block _ (lt_of_block h.g0)).trans h.g0, (hb.block _ (lt_of_block h.g1)).trans h.g1, (hb.block _ (lt_of_block h.g2)).trans h.g2, (hb.block _ (lt_of_block h.g3)).trans h.g3⟩

set_option maxHeartbeats 4000000 in
theorem walk_packUnlike (a0 a1 a2 a3 a4 a5 a6 a7 b0 b1 b2 b3 b4 b5 b6 b7 : Int) (s : ByteArray) (c1 c2 : Int) (t : ByteArray) (d1 d2 : Int) (w : World) :
    Calls Try.prog 3 #[.agg #[.int .i64 a0, .int .i64 a1, .int .i64 a2, .int .i64 a3, .int .i64 a4, .int .i64 a5, .int .i64 a6, .int .i64 a7], .agg #[.int .i64 b0, .int .i64 b1, .int .i64 b2, .int .i64 b3, .int .i64 b4, .int .i64 b5, .int .i64 b6, .int .i64 b7], .agg #[.string s, .int .i64 c1, .int .i64 c2], .agg #[.string t, .int .i64 d1, .int .i64 d2]] w fun e w' => e = .returned (.bool true) ∧ Below w.heap.size w w' := by
  have hF : Four a0 a1 a2 a3 a4 a5 a6 a7 b0 b1 b2 b3 b4 b5 b6 b7 s t c1 c2 d1 d2 w.heap.size ((((w.alloc (.cells #[.int .i64 a0, .int .i64 a1, .int .i64 a2, .int .i64 a3, .int .i64 a4, .int .i64 a5, .int .i64 a6, .int .i64 a7] 23)).alloc (.cells #[.int .i64 b0, .int .i64 b1, .int .i64 b2, .int .i64 b3, .int .i64 b4, .int .i64 b5, .int .i64 b6, .int .i64 b7] 23)).alloc (.cells #[.string s, .int .i64 c1, .int .i64 c2] 25)).alloc (.cells #[.string t, .int .i64 d1, .int .i64 d2] 25)) :=
    let h := cells4 w (.cells #[.int .i64 a0, .int .i64 a1, .int .i64 a2, .int .i64 a3, .int .i64 a4, .int .i64 a5, .int .i64 a6, .int .i64 a7] 23) (.cells #[.int .i64 b0, .int .i64 b1, .int .i64 b2, .int .i64 b3, .int .i64 b4, .int .i64 b5, .int .i64 b6, .int .i64 b7] 23) (.cells #[.string s, .int .i64 c1, .int .i64 c2] 25) (.cells #[.string t, .int .i64 d1, .int .i64 d2] 25)
    ⟨h.1, h.2.1, h.2.2.1, h.2.2.2⟩
  have hb0 : Below w.heap.size w ((((w.alloc (.cells #[.int .i64 a0, .int .i64 a1, .int .i64 a2, .int .i64 a3, .int .i64 a4, .int .i64 a5, .int .i64 a6, .int .i64 a7] 23)).alloc (.cells #[.int .i64 b0, .int .i64 b1, .int .i64 b2, .int .i64 b3, .int .i64 b4, .int .i64 b5, .int .i64 b6, .int .i64 b7] 23)).alloc (.cells #[.string s, .int .i64 c1, .int .i64 c2] 25)).alloc (.cells #[.string t, .int .i64 d1, .int .i64 d2] 25)) :=
    ((((Below.refl _ _).alloc (Nat.le_refl _) _).alloc (by simp) _).alloc (by simp; omega) _).alloc (by simp; omega) _
  have g0 := hF.g0
  go_enter Try.func3, Try.ntmps3
  go_wp2_with (refine wpList_load_row rfl 23 _ rfl w.heap.size rfl 23 _ (0, 0) _ g0 Try.underlying23 rfl (by kernel_rfl) ?_)
  clear g0
  generalize (((w.alloc (.cells #[.int .i64 a0, .int .i64 a1, .int .i64 a2, .int .i64 a3, .int .i64 a4, .int .i64 a5, .int .i64 a6, .int .i64 a7] 23)).alloc (.cells #[.int .i64 b0, .int .i64 b1, .int .i64 b2, .int .i64 b3, .int .i64 b4, .int .i64 b5, .int .i64 b6, .int .i64 b7] 23)).alloc (.cells #[.string s, .int .i64 c1, .int .i64 c2] 25)).alloc (.cells #[.string t, .int .i64 d1, .int .i64 d2] 25) = w0 at *
  refine (head_any a0 a1 a2 a3 a4 a5 a6 a7 _).mono ?_
  rintro e w1 ⟨rfl, hb1⟩
  have hF1 := hF.below hb1
  have g1 := hF1.g1
  go_wp2_with (refine wpList_load_row rfl 23 _ rfl (w.heap.size + 1) rfl 23 _ (0, 0) _ g1 Try.underlying23 rfl (by kernel_rfl) ?_)
  clear g1 hF
  refine (head_any b0 b1 b2 b3 b4 b5 b6 b7 _).mono ?_
  rintro e w2 ⟨rfl, hb2⟩
  have hF2 := hF1.below hb2
  have g2 := hF2.g2
  go_wp2_with (refine wpList_load_row rfl 25 _ rfl (w.heap.size + 1 + 1) rfl 25 _ (0, 0) _ g2 Try.underlying25 rfl (by kernel_rfl) ?_)
  clear g2 hF1
  refine (entry_any s c1 c2 _).mono ?_
  rintro e w3 ⟨rfl, hb3⟩
  have hF3 := hF2.below hb3
  have g3 := hF3.g3
  go_wp2_with (refine wpList_load_row rfl 25 _ rfl (w.heap.size + 1 + 1 + 1) rfl 25 _ (0, 0) _ g3 Try.underlying25 rfl (by kernel_rfl) ?_)
  clear g3 hF2
  refine (entry_any t d1 d2 _).mono ?_
  rintro e w4 ⟨rfl, hb4⟩
  have hF4 := hF3.below hb4
  clear hF3
  have hbw : Below w.heap.size w w4 := hb0.trans ((hb1.mono hb0.size).trans ((hb2.mono (Nat.le_trans hb0.size hb1.size)).trans ((hb3.mono (Nat.le_trans hb0.size (Nat.le_trans hb1.size hb2.size))).trans (hb4.mono (Nat.le_trans hb0.size (Nat.le_trans hb1.size (Nat.le_trans hb2.size hb3.size)))))))
  clear hb0 hb1 hb2 hb3 hb4
  have hq1 := eql_head a0 a1 a2 a3 a4 a5 a6 a7 b0 b1 b2 b3 b4 b5 b6 b7
  have hq2 := eql_entry s t c1 c2 d1 d2
  rcases heads_way a0 a1 a2 a3 a4 a5 a6 a7 b0 b1 b2 b3 b4 b5 b6 b7 with h1 | ⟨h1, h2⟩ | ⟨h1, h2, h3⟩
  · rcases entries_way s t c1 c2 d1 d2 with k1 | ⟨k1, k2⟩ | ⟨k1, k2, k3⟩
    · clear hF4
      go_wp2_with fail
      refine (awake_any _).mono ?_
      rintro e w5 ⟨rfl, hb5⟩
      go_wp2
      go_ret
      exact ⟨rfl, hbw.trans (hb5.mono hbw.size)⟩
    · clear hF4
      go_wp2_with fail
      refine (awake_any _).mono ?_
      rintro e w5 ⟨rfl, hb5⟩
      go_wp2
      go_ret
      exact ⟨rfl, hbw.trans (hb5.mono hbw.size)⟩
    · have p0 := cell_at hF4.g2 0 _ rfl
      have q0 := cell_at hF4.g3 0 _ rfl
      have p1 := cell_at hF4.g2 1 _ rfl
      have q1 := cell_at hF4.g3 1 _ rfl
      have p2 := cell_at hF4.g2 2 _ rfl
      have q2 := cell_at hF4.g3 2 _ rfl
      clear hF4
      go_wp2_with fail
      refine (awake_any _).mono ?_
      rintro e w5 ⟨rfl, hb5⟩
      go_wp2
      go_ret
      exact ⟨rfl, hbw.trans (hb5.mono hbw.size)⟩
  · rcases entries_way s t c1 c2 d1 d2 with k1 | ⟨k1, k2⟩ | ⟨k1, k2, k3⟩
    · clear hF4
      go_wp2_with fail
      refine (awake_any _).mono ?_
      rintro e w5 ⟨rfl, hb5⟩
      go_wp2
      go_ret
      exact ⟨rfl, hbw.trans (hb5.mono hbw.size)⟩
    · clear hF4
      go_wp2_with fail
      refine (awake_any _).mono ?_
      rintro e w5 ⟨rfl, hb5⟩
      go_wp2
      go_ret
      exact ⟨rfl, hbw.trans (hb5.mono hbw.size)⟩
    · have p0 := cell_at hF4.g2 0 _ rfl
      have q0 := cell_at hF4.g3 0 _ rfl
      have p1 := cell_at hF4.g2 1 _ rfl
      have q1 := cell_at hF4.g3 1 _ rfl
      have p2 := cell_at hF4.g2 2 _ rfl
      have q2 := cell_at hF4.g3 2 _ rfl
      clear hF4
      go_wp2_with fail
      refine (awake_any _).mono ?_
      rintro e w5 ⟨rfl, hb5⟩
      go_wp2
      go_ret
      exact ⟨rfl, hbw.trans (hb5.mono hbw.size)⟩
  · rcases entries_way s t c1 c2 d1 d2 with k1 | ⟨k1, k2⟩ | ⟨k1, k2, k3⟩
    · have x0 := cell_at hF4.g0 0 _ rfl
      have y0 := cell_at hF4.g1 0 _ rfl
      have x1 := cell_at hF4.g0 1 _ rfl
      have y1 := cell_at hF4.g1 1 _ rfl
      have x2 := cell_at hF4.g0 2 _ rfl
      have y2 := cell_at hF4.g1 2 _ rfl
      have x3 := cell_at hF4.g0 3 _ rfl
      have y3 := cell_at hF4.g1 3 _ rfl
      have x4 := cell_at hF4.g0 4 _ rfl
      have y4 := cell_at hF4.g1 4 _ rfl
      have x5 := cell_at hF4.g0 5 _ rfl
      have y5 := cell_at hF4.g1 5 _ rfl
      have x6 := cell_at hF4.g0 6 _ rfl
      have y6 := cell_at hF4.g1 6 _ rfl
      have x7 := cell_at hF4.g0 7 _ rfl
      have y7 := cell_at hF4.g1 7 _ rfl
      clear hF4
      go_wp2_with fail
      refine (awake_any _).mono ?_
      rintro e w5 ⟨rfl, hb5⟩
      go_wp2
      go_ret
      exact ⟨rfl, hbw.trans (hb5.mono hbw.size)⟩
    · have x0 := cell_at hF4.g0 0 _ rfl
      have y0 := cell_at hF4.g1 0 _ rfl
      have x1 := cell_at hF4.g0 1 _ rfl
      have y1 := cell_at hF4.g1 1 _ rfl
      have x2 := cell_at hF4.g0 2 _ rfl
      have y2 := cell_at hF4.g1 2 _ rfl
      have x3 := cell_at hF4.g0 3 _ rfl
      have y3 := cell_at hF4.g1 3 _ rfl
      have x4 := cell_at hF4.g0 4 _ rfl
      have y4 := cell_at hF4.g1 4 _ rfl
      have x5 := cell_at hF4.g0 5 _ rfl
      have y5 := cell_at hF4.g1 5 _ rfl
      have x6 := cell_at hF4.g0 6 _ rfl
      have y6 := cell_at hF4.g1 6 _ rfl
      have x7 := cell_at hF4.g0 7 _ rfl
      have y7 := cell_at hF4.g1 7 _ rfl
      clear hF4
      go_wp2_with fail
      refine (awake_any _).mono ?_
      rintro e w5 ⟨rfl, hb5⟩
      go_wp2
      go_ret
      exact ⟨rfl, hbw.trans (hb5.mono hbw.size)⟩
    · have x0 := cell_at hF4.g0 0 _ rfl
      have y0 := cell_at hF4.g1 0 _ rfl
      have x1 := cell_at hF4.g0 1 _ rfl
      have y1 := cell_at hF4.g1 1 _ rfl
      have x2 := cell_at hF4.g0 2 _ rfl
      have y2 := cell_at hF4.g1 2 _ rfl
      have x3 := cell_at hF4.g0 3 _ rfl
      have y3 := cell_at hF4.g1 3 _ rfl
      have x4 := cell_at hF4.g0 4 _ rfl
      have y4 := cell_at hF4.g1 4 _ rfl
      have x5 := cell_at hF4.g0 5 _ rfl
      have y5 := cell_at hF4.g1 5 _ rfl
      have x6 := cell_at hF4.g0 6 _ rfl
      have y6 := cell_at hF4.g1 6 _ rfl
      have x7 := cell_at hF4.g0 7 _ rfl
      have y7 := cell_at hF4.g1 7 _ rfl
      have p0 := cell_at hF4.g2 0 _ rfl
      have q0 := cell_at hF4.g3 0 _ rfl
      have p1 := cell_at hF4.g2 1 _ rfl
      have q1 := cell_at hF4.g3 1 _ rfl
      have p2 := cell_at hF4.g2 2 _ rfl
      have q2 := cell_at hF4.g3 2 _ rfl
      clear hF4
      go_wp2_with fail
      refine (awake_any _).mono ?_
      rintro e w5 ⟨rfl, hb5⟩
      go_wp2
      go_ret
      exact ⟨rfl, hbw.trans (hb5.mono hbw.size)⟩
end Go.Proofs.Ytjlilbkddgggoac
