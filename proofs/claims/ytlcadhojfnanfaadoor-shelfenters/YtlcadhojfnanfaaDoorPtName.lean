/- Name: the program's and the document's. -/
import Derived.Test.YtlcadhojfnanfaaDoorPtMath
import Derived.Test.YtlcadhojfnanfaaDoorBxBase
import Derived.Laws.RangeAny
namespace Go.Proofs.YtlcadhojfnanfaaDoor
set_option maxRecDepth 20000
open Go.RowKit

theorem iter_below (w : World) (s : ByteArray) (pos : Nat) : Below w.heap.size w (w.iter s pos) := (Below.refl _ _).alloc (Nat.le_refl _) _
theorem nm_long {s : ByteArray} (h : 19 < s.size) : nmL s.data.toList = 4 := by
  unfold nmL
  rw [if_pos (by rw [← Lib.size_eq]; exact h)]
theorem nm_dots {s : ByteArray} (h : ¬ 19 < s.size) (h2 : s.data.toList = [] ∨ s.data.toList = [46] ∨ s.data.toList = [46, 46]) : nmL s.data.toList = 40 := by
  unfold nmL
  rw [if_neg (by rw [← Lib.size_eq]; exact h), if_pos h2]
theorem nm_else {s : ByteArray} (h : ¬ 19 < s.size) (h2 : ¬ (s.data.toList = [] ∨ s.data.toList = [46] ∨ s.data.toList = [46, 46])) : nmL s.data.toList = if s.data.toList.all okC then 0 else 40 := by
  unfold nmL
  rw [if_neg (by rw [← Lib.size_eq]; exact h), if_neg h2]
theorem nm_bad {s : ByteArray} {j : Nat} (hj : j < s.size) (hc : ¬ okC s[j] = true) : (if s.data.toList.all okC then (0 : Int) else 40) = 40 := by
  rw [if_neg fun h => hc (List.all_eq_true.1 h _ ?_)]
  show s.data[j] ∈ _
  exact Array.mem_toList_iff.2 (Array.getElem_mem _)
theorem nm_good {s : ByteArray} (h : ∀ j (hj : j < s.size), okC s[j] = true) : (if s.data.toList.all okC then (0 : Int) else 40) = 0 := by
  rw [if_pos]
  refine List.all_eq_true.2 fun c hc => ?_
  obtain ⟨j, hj, rfl⟩ := List.mem_iff_getElem.1 hc
  exact h j (by rw [Lib.size_eq]; exact hj)
theorem okC_iff (c : UInt8) : okC c = true ↔ 33 ≤ c.toNat ∧ c.toNat ≤ 126 ∧ c.toNat ≠ 47 := by unfold okC; exact decide_eq_true_iff
theorem bad_rune (s : ByteArray) (pos : Nat) (h : pos < s.size) (hc : ¬ okC s[pos] = true) : (Utf8.decode s pos).1 < 33 ∨ 126 < (Utf8.decode s pos).1 ∨ (Utf8.decode s pos).1 = 47 := by
  rw [okC_iff] at hc
  by_cases ha : (s[pos]'h).toNat < 128
  · rw [decode_ascii s pos h ha]
    simp only
    omega
  · have := (decode_high s pos h (by omega)).1
    omega
set_option maxHeartbeats 1000000 in
theorem name_any (s : ByteArray) (w : World) : Calls Tryd.prog 15 #[.string s] w fun e w' => e = .returned (.int .i64 (nmL s.data.toList)) ∧ Below w.heap.size w w' := by
  by_cases h1 : 19 < s.size
  · rw [nm_long h1]
    have h1' : (19 : Int) < s.size := by omega
    go_enter Tryd.func15, Tryd.ntmps15
    go_wp2
    go_ret
    exact ⟨rfl, Below.refl _ _⟩
  · have h1' : ¬ (19 : Int) < s.size := by omega
    by_cases h2 : s.data.toList = [] ∨ s.data.toList = [46] ∨ s.data.toList = [46, 46]
    · rw [nm_dots h1 h2]
      clear h1
      rw [← Lib.toList_data] at h2
      rcases h2 with h2 | h2 | h2
      · go_enter Tryd.func15, Tryd.ntmps15
        go_wp2
        go_ret
        exact ⟨rfl, Below.refl _ _⟩
      · go_enter Tryd.func15, Tryd.ntmps15
        go_wp2
        go_ret
        exact ⟨rfl, Below.refl _ _⟩
      · go_enter Tryd.func15, Tryd.ntmps15
        go_wp2
        go_ret
        exact ⟨rfl, Below.refl _ _⟩
    · rw [nm_else h1 h2]
      obtain ⟨X, hX⟩ : ∃ X : Int, X = if s.data.toList.all okC then 0 else 40 := ⟨_, rfl⟩
      rw [← hX]
      have HX : Hid (X = if s.data.toList.all okC then 0 else 40) := hX
      clear hX
      rw [← Lib.toList_data] at h2
      obtain ⟨q0, q1, q2⟩ : ¬ s.toList = [] ∧ ¬ s.toList = [46] ∧ ¬ s.toList = [46, 46] := ⟨fun h => h2 (.inl h), fun h => h2 (.inr (.inl h)), fun h => h2 (.inr (.inr h))⟩
      have e0 : s.toList.isEmpty = false := by simpa using q0
      have e1 : (s.toList == [46]) = false := beq_eq_false_iff_ne.2 q1
      have e2 : (s.toList == [46, 46]) = false := beq_eq_false_iff_ne.2 q2
      clear h2 h1
      go_enter Tryd.func15, Tryd.ntmps15
      go_wp2_with fail
      go_loopw [4] (fun _ wr => ∃ pos, pos ≤ s.size ∧ wr = w.iter s pos ∧ ∀ i (hi : i < s.size), i < pos → okC s[i] = true) (fun _ wr => s.size - wr.iterPos w.heap.size)
      case atStart => exact ⟨0, Nat.zero_le _, rfl, fun i _ h => absurd h (Nat.not_lt_zero _)⟩
      case round =>
        clear q0 q1 q2 e0 e1 e2 h1'
        obtain ⟨pos, hpos, rfl, hok⟩ := hrel
        have HK : Hid (∀ i (hi : i < s.size), i < pos → okC s[i] = true) := hok
        clear hok
        by_cases hp : pos < s.size
        · by_cases hc : okC s[pos] = true
          · have hnx : ∀ ty, (Instr.next (.pointer (some ⟨w.heap.size, 0, none⟩)) true ty).run Tryd.prog (w.iter s pos) = _ := fun ty => run_next_ascii w s pos ty hp (by rw [okC_iff] at hc; omega)
            have HC : Hid (okC s[pos] = true) := hc
            rw [okC_iff] at hc
            obtain ⟨c1, c2, c3⟩ := hc
            have d1 : ¬ (((s[pos]'hp).toNat : Nat) : Int) < 33 := by omega
            have d2 : ¬ (126 : Int) < (((s[pos]'hp).toNat : Nat) : Int) := by omega
            have d3 : ¬ (((s[pos]'hp).toNat : Nat) : Int) = 47 := by omega
            go_wp2
            go_roundw
            case rel =>
              refine ⟨pos + 1, by omega, rfl, fun i hi h => ?_⟩
              by_cases e : i = pos
              · subst e; exact HC.out
              · exact HK.out i hi (by omega)
            case measure => simp; omega
          · have HB : Hid (X = 40) := by rw [HX.out]; exact nm_bad hp hc
            clear HX
            have hr := bad_rune s pos hp hc
            have hnx : ∀ ty, (Instr.next (.pointer (some ⟨w.heap.size, 0, none⟩)) true ty).run Tryd.prog (w.iter s pos) = _ := fun ty => run_next_any w s pos ty hp
            clear hc HK
            generalize (Utf8.decode s pos).1 = r at *
            generalize (Utf8.decode s pos).2 = q at *
            by_cases d1 : (r : Int) < 33
            · go_wp2
              go_ret
              exact ⟨by rw [HB.out]; rfl, iter_below _ _ _⟩
            · by_cases d2 : (126 : Int) < r
              · clear hr
                go_wp2
                go_ret
                exact ⟨by rw [HB.out]; rfl, iter_below _ _ _⟩
              · have d3 : (r : Int) = 47 := by omega
                clear hr
                go_wp2
                go_ret
                exact ⟨by rw [HB.out]; rfl, iter_below _ _ _⟩
        · have hnx : ∀ ty, (Instr.next (.pointer (some ⟨w.heap.size, 0, none⟩)) true ty).run Tryd.prog (w.iter s pos) = _ := fun ty => run_next_end w s pos ty hp
          have HB : Hid (X = 0) := by rw [HX.out]; exact nm_good fun j hj => HK.out j hj (by omega)
          clear HX
          go_wp2
          go_ret
          exact ⟨by rw [HB.out]; rfl, iter_below _ _ _⟩
set_option maxHeartbeats 1000000 in
theorem rname_any (s : ByteArray) (w : World) : Calls Tryd.prog 16 #[.string s] w fun e w' => e = .returned (.int .i64 (nmL s.data.toList)) ∧ w' = w := by
  by_cases h1 : 19 < s.size
  · rw [nm_long h1]
    have h1' : (19 : Int) < s.size := by omega
    go_enter Tryd.func16, Tryd.ntmps16
    go_wp2
    go_ret
    exact ⟨rfl, rfl⟩
  · have h1' : ¬ (19 : Int) < s.size := by omega
    by_cases h2 : s.data.toList = [] ∨ s.data.toList = [46] ∨ s.data.toList = [46, 46]
    · rw [nm_dots h1 h2]
      clear h1
      rw [← Lib.toList_data] at h2
      rcases h2 with h2 | h2 | h2
      · go_enter Tryd.func16, Tryd.ntmps16
        go_wp2
        go_ret
        exact ⟨rfl, rfl⟩
      · go_enter Tryd.func16, Tryd.ntmps16
        go_wp2
        go_ret
        exact ⟨rfl, rfl⟩
      · go_enter Tryd.func16, Tryd.ntmps16
        go_wp2
        go_ret
        exact ⟨rfl, rfl⟩
    · rw [nm_else h1 h2]
      obtain ⟨X, hX⟩ : ∃ X : Int, X = if s.data.toList.all okC then 0 else 40 := ⟨_, rfl⟩
      rw [← hX]
      have HX : Hid (X = if s.data.toList.all okC then 0 else 40) := hX
      clear hX
      have hsz : s.size ≤ 19 := by omega
      rw [← Lib.toList_data] at h2
      obtain ⟨q0, q1, q2⟩ : ¬ s.toList = [] ∧ ¬ s.toList = [46] ∧ ¬ s.toList = [46, 46] := ⟨fun h => h2 (.inl h), fun h => h2 (.inr (.inl h)), fun h => h2 (.inr (.inr h))⟩
      have e0 : s.toList.isEmpty = false := by simpa using q0
      have e1 : (s.toList == [46]) = false := beq_eq_false_iff_ne.2 q1
      have e2 : (s.toList == [46, 46]) = false := beq_eq_false_iff_ne.2 q2
      clear h2 h1
      go_enter Tryd.func16, Tryd.ntmps16
      go_wp2_with fail
      go_loopw [3] (fun iv wr => ∃ pos : Nat, pos ≤ s.size ∧ iv = .int .i64 (pos : Int) ∧ wr = w ∧ ∀ i (hi : i < s.size), i < pos → okC s[i] = true) (fun iv _ => s.size - (intOf iv).toNat)
      case atStart => exact ⟨0, Nat.zero_le _, rfl, rfl, fun i _ h => absurd h (Nat.not_lt_zero _)⟩
      case round =>
        clear q0 q1 q2 e0 e1 e2 h1'
        obtain ⟨pos, hpos, rfl, rfl, hok⟩ := hrel
        have HK : Hid (∀ i (hi : i < s.size), i < pos → okC s[i] = true) := hok
        clear hok
        by_cases hp : pos < s.size
        · have hp' : (pos : Int) < s.size := by omega
          by_cases hc : okC s[pos] = true
          · have HC : Hid (okC s[pos] = true) := hc
            rw [okC_iff] at hc
            obtain ⟨c1, c2, c3⟩ := hc
            have d1 : ¬ (((s[pos]'hp).toNat : Nat) : Int) < 33 := by omega
            have d2 : ¬ (126 : Int) < (((s[pos]'hp).toNat : Nat) : Int) := by omega
            have d3 : ¬ (((s[pos]'hp).toNat : Nat) : Int) = 47 := by omega
            go_wp2
            go_roundw
            case rel =>
              refine ⟨pos + 1, by omega, by go_num, trivial, fun i hi h => ?_⟩
              by_cases e : i = pos
              · subst e; exact HC.out
              · exact HK.out i hi (by omega)
            case measure => simp [intOf]; omega
          · have HB : Hid (X = 40) := by rw [HX.out]; exact nm_bad hp hc
            clear HX
            rw [okC_iff] at hc
            clear HK
            by_cases d1 : (((s[pos]'hp).toNat : Nat) : Int) < 33
            · clear hc
              go_wp2
              go_ret
              exact ⟨by rw [HB.out]; rfl, rfl⟩
            · by_cases d2 : (126 : Int) < (((s[pos]'hp).toNat : Nat) : Int)
              · clear hc
                go_wp2
                go_ret
                exact ⟨by rw [HB.out]; rfl, rfl⟩
              · have d3 : (((s[pos]'hp).toNat : Nat) : Int) = 47 := by omega
                clear hc
                go_wp2
                go_ret
                exact ⟨by rw [HB.out]; rfl, rfl⟩
        · have hp' : ¬ (pos : Int) < s.size := by omega
          have HB : Hid (X = 0) := by rw [HX.out]; exact nm_good fun j hj => HK.out j hj (by omega)
          clear HX
          go_wp2
          go_ret
          exact ⟨by rw [HB.out]; rfl, rfl⟩
end Go.Proofs.YtlcadhojfnanfaaDoor
