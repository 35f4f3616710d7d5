/- The laws' same; the document's Both: two rising lists as one. -/
import Derived.Test.YtcmbphppeobhfabCtInts
namespace Go.Proofs.Ytcmbphppeobhfab
set_option maxRecDepth 20000
open Go.RowKit

theorem ct_drewN {B : Nat} {w w' : World} (h : Below B w w') (n : Nat) : Below B w (w'.drewN n) := h.trans ⟨rfl, rfl, rfl, Nat.le_refl _, fun _ _ => rfl⟩
set_option maxHeartbeats 1000000 in
theorem csame_any (w : World) (v1 v2 : Value) (l : List Int) (h1 : List1 (Value.int .i64) w v1 l) (h2 : List1 (Value.int .i64) w v2 l) (hl : l.length ≤ 1000000000) :
    Calls Try.prog 16 #[v1, v2] w fun e w' => e = .returned (.bool true) ∧ Below w.heap.size w w' := by
  obtain ⟨oa, ca, rfl⟩ := h1.form
  obtain ⟨ob, cb, rfl⟩ := h2.form
  have H1 : Hid (List1 (Value.int .i64) w (.slice oa l.length ca) l ∧ List1 (Value.int .i64) w (.slice ob l.length cb) l) := ⟨h1, h2⟩
  clear h1 h2
  obtain ⟨len, hle⟩ : ∃ len, len = l.length := ⟨_, rfl⟩
  have HE : Hid (len = l.length) := hle
  rw [← hle] at hl ⊢
  clear hle
  go_enter Try.func16, Try.ntmps16
  go_wp2_with fail
  go_loopw [5] (fun v wr => ∃ j : Nat, j ≤ len ∧ v = .int .i64 (j : Int) ∧ Below w.heap.size w wr) (fun v _ => len - (intOf v).toNat)
  case atStart => exact ⟨0, Nat.zero_le _, rfl, Below.refl _ _⟩
  case round =>
    obtain ⟨j, hj, rfl, hb⟩ := hrel
    by_cases hlt : j < len
    · have j1 : (j : Int) < (len : Nat) := by omega
      obtain ⟨ga, oa', rfl, hga, ca'⟩ := H1.out.1.at (i := j) (by rw [← HE.out]; exact hlt)
      obtain ⟨gb, ob', rfl, hgb, cb'⟩ := H1.out.2.at (i := j) (by rw [← HE.out]; exact hlt)
      have c1 := (cell_kept_1 (hb.block ga hga) _).trans ca'
      have c2 := (cell_kept_1 (hb.block gb hgb) _).trans cb'
      generalize l[j]'(by rw [← HE.out]; exact hlt) = x at *
      clear ca' cb'
      go_wp2_with fail
      go_quiet (fail)
      go_wp2
      go_roundw
      case rel => exact ⟨j + 1, by omega, by go_num, ct_drewN hb _⟩
      case measure => simp [intOf]; omega
    · obtain rfl : j = len := by omega
      have j1 : ¬ (j : Int) < j := by omega
      go_wp2
      go_ret
      exact ⟨rfl, hb⟩
/-- Two rising lists as one. -/
def bothL : List Int → List Int → List Int
  | [], b => b
  | a, [] => a
  | x :: a, y :: b => if x < y then x :: bothL a (y :: b) else if y < x then y :: bothL (x :: a) b else x :: bothL a b
termination_by a b => a.length + b.length
theorem bothL_nil (b : List Int) : bothL [] b = b := by unfold bothL; rfl
theorem bothL_nil' (a : List Int) : bothL a [] = a := by cases a <;> (unfold bothL; rfl)
theorem bothL_lt (x y : Int) (a b : List Int) (h : x < y) : bothL (x :: a) (y :: b) = x :: bothL a (y :: b) := by rw [bothL, if_pos h]
theorem bothL_gt (x y : Int) (a b : List Int) (h : y < x) : bothL (x :: a) (y :: b) = y :: bothL (x :: a) b := by rw [bothL, if_neg (by omega), if_pos h]
theorem bothL_eq (x : Int) (a b : List Int) : bothL (x :: a) (x :: b) = x :: bothL a b := by rw [bothL, if_neg (by omega), if_neg (by omega)]
theorem bothL_len (a b : List Int) : (bothL a b).length ≤ a.length + b.length := by
  fun_induction bothL a b <;> simp_all <;> omega
theorem drop_at {l : List Int} {i : Nat} (h : i < l.length) : l.drop i = l[i] :: l.drop (i + 1) := List.drop_eq_getElem_cons h
/-- A list under way: it is owned, and nothing below is changed. -/
def BQ (w : World) (v : Value) (n : Nat) (L : List Int) (wr : World) : Prop := wr.ownsRow w.heap.size 3 1 v n (intZ L) ∧ Below w.heap.size w wr
theorem BQ.drew {w : World} {v : Value} {n : Nat} {L : List Int} {wr : World} (h : BQ w v n L wr) (m : Nat) : BQ w v n L (wr.drewN m) := ⟨h.1, ct_drewN h.2 m⟩
set_option maxHeartbeats 4000000 in
theorem both_any (w : World) (va vb : Value) (a b : List Int) (ha : List1 (Value.int .i64) w va a) (hb : List1 (Value.int .i64) w vb b) (hla : a.length ≤ 1000000) (hlb : b.length ≤ 1000000) :
    Calls Try.prog 11 #[va, vb] w fun e w' => ∃ v, e = .returned v ∧ IZ w' w.heap.size v (bothL a b) ∧ Below w.heap.size w w' := by
  obtain ⟨i0, hi0, hz0, hz1, hz2⟩ := info_parts ct_info_int
  obtain ⟨oa, ca, rfl⟩ := ha.form
  obtain ⟨ob, cb, rfl⟩ := hb.form
  have H1 : Hid (List1 (Value.int .i64) w (.slice oa a.length ca) a ∧ List1 (Value.int .i64) w (.slice ob b.length cb) b) := ⟨ha, hb⟩
  clear ha hb
  obtain ⟨la, hla'⟩ : ∃ len, len = a.length := ⟨_, rfl⟩
  obtain ⟨lb, hlb'⟩ : ∃ len, len = b.length := ⟨_, rfl⟩
  have HE : Hid (la = a.length ∧ lb = b.length) := ⟨hla', hlb'⟩
  rw [← hla'] at hla ⊢
  rw [← hlb'] at hlb ⊢
  clear hla' hlb'
  go_enter Try.func11, Try.ntmps11
  go_wp2_with fail
  go_loopw [5, 6, 7] (fun pv iv jv wr => ∃ (i j : Nat) (L : List Int) (ad : Option Addr) (c : Nat), i ≤ la ∧ j ≤ lb ∧ iv = .int .i64 (i : Int) ∧ jv = .int .i64 (j : Int) ∧ pv = .slice ad L.length c ∧ IZ wr w.heap.size pv L ∧ Below w.heap.size w wr ∧ bothL a b = L ++ bothL (a.drop i) (b.drop j) ∧ L.length ≤ i + j) (fun _ iv jv _ => la + lb - (intOf iv).toNat - (intOf jv).toNat)
  case atStart => exact ⟨0, 0, [], none, 0, Nat.zero_le _, Nat.zero_le _, rfl, rfl, rfl, IZ.nil _ _, Below.refl _ _, rfl, Nat.le_refl _⟩
  case round =>
    obtain ⟨i, j, L, ad, c, hi, hj, rfl, rfl, rfl, hown, hb, hL, hLl⟩ := hrel
    have hbs := hb.size
    obtain ⟨n, hn⟩ : ∃ n, n = L.length := ⟨_, rfl⟩
    have HL : Hid (n = L.length ∧ bothL a b = L ++ bothL (a.drop i) (b.drop j)) := ⟨hn, hL⟩
    unfold IZ at hown
    rw [← hn] at hown hLl ⊢
    have HO : Hid (BQ w (.slice ad n c) n L wr) := ⟨hown, hb⟩
    clear hn hL hown hb
    by_cases h1 : i < la
    · have i1 : (i : Int) < (la : Nat) := by omega
      obtain ⟨ga, o1, rfl, hga, ca'⟩ := H1.out.1.at (i := i) (by rw [← HE.out.1]; exact h1)
      obtain ⟨x, hx, hd1⟩ : ∃ x, x = a[i]'(by rw [← HE.out.1]; exact h1) ∧ a.drop i = x :: a.drop (i + 1) := ⟨_, rfl, drop_at (by rw [← HE.out.1]; exact h1)⟩
      rw [← hx] at ca'
      have HC1 : Hid (∀ wr, Below w.heap.size w wr → wr.cell? ⟨ga, o1 + i, none⟩ = some (.int .i64 x)) := fun wr hb => (cell_kept_1 (hb.block ga hga) _).trans ca'
      have c1 := HC1.out wr HO.out.2
      have HD1 : Hid (a.drop i = x :: a.drop (i + 1)) := hd1
      clear ca' hx hd1
      by_cases h2 : j < lb
      · have j1 : (j : Int) < (lb : Nat) := by omega
        have j2 : ((j : Int) == (lb : Nat)) = false := by simp; omega
        have i2 : ((i : Int) == (la : Nat)) = false := by simp; omega
        obtain ⟨gb, o2, rfl, hgb, cb'⟩ := H1.out.2.at (i := j) (by rw [← HE.out.2]; exact h2)
        obtain ⟨y, hy, hd2⟩ : ∃ y, y = b[j]'(by rw [← HE.out.2]; exact h2) ∧ b.drop j = y :: b.drop (j + 1) := ⟨_, rfl, drop_at (by rw [← HE.out.2]; exact h2)⟩
        rw [← hy] at cb'
        have HC2 : Hid (∀ wr, Below w.heap.size w wr → wr.cell? ⟨gb, o2 + j, none⟩ = some (.int .i64 y)) := fun wr hb => (cell_kept_1 (hb.block gb hgb) _).trans cb'
        have c2 := HC2.out wr HO.out.2
        have HD2 : Hid (b.drop j = y :: b.drop (j + 1)) := hd2
        clear cb' hy hd2
        rcases Int.lt_trichotomy x y with hxy | rfl | hyx
        · have x1 : decide (x < y) = true := decide_eq_true hxy
          have HN : Hid (L ++ bothL (a.drop i) (b.drop j) = (L ++ [x]) ++ bothL (a.drop (i + 1)) (b.drop j)) := by
            rw [HD1.out, HD2.out, bothL_lt x y _ _ hxy, List.append_assoc]; rfl
          go_wp2_with fail
          go_quiet (fail)
          have hQ := HO.out.drew nq
          clear HO c1 c2
          generalize wr.drewN nq = wr at *
          have HO : Hid (BQ w (.slice ad n c) n L wr) := hQ
          have hbs := HO.out.2.size
          have c1 := HC1.out wr HO.out.2
          have c2 := HC2.out wr HO.out.2
          clear hQ
          have hownC := World.ownsRow.alloc HO.out.1 (.cells #[.int .i64 x] 3)
          have hnew : (wr.alloc (.cells #[.int .i64 x] 3)).heap[wr.heap.size]? = some (.cells #[.int .i64 x] 3 (0, 0)) := heap_alloc_new wr _
          have hone : ∀ u ∈ ([.int .i64 x] : List Value), u.oneCell' = true := by intro u hu; simp at hu; rw [hu]; rfl
          go_wp2_with (first | (at_builtin; (refine wpList_append_own _ rfl _ _ 22 rfl w.heap.size 3 i0 (.int .i64 0) 1 8 Try.underlying22 hi0 hz0 hz1 hz2 rfl (by decide) (.slice ad n c) n (intZ L) rfl hownC ⟨wr.heap.size, 0, none⟩ 1 1 [.int .i64 x] rfl rfl (World.news_of_block hnew) hone (by unfold maxLen; omega) (by omega) (by simp; omega) ?_)))
          intro v1 wB hown1 hgrow1 _
          have hTB : Below w.heap.size w wB := (HO.out.2.alloc hbs _).grown hgrow1 (by simp; omega) fun k hk => (HO.out.1.lt k hk).1
          obtain ⟨g1, cap1, rfl⟩ : ∃ g1 cap1, v1 = .slice (some ⟨g1, 0, none⟩) (n + 1) cap1 := by obtain ⟨g1, c1, e1, _⟩ := World.ownsRow.form hown1 (by omega); exact ⟨g1, c1, e1⟩
          have HF : Hid (IZ wB w.heap.size (.slice (some ⟨g1, 0, none⟩) (n + 1) cap1) (L ++ [x]) ∧ Below w.heap.size w wB ∧ (L ++ [x]).length = n + 1) := by
            unfold IZ
            rw [List.length_append, ← HL.out.1, intZ_append]
            exact ⟨hown1, hTB, rfl⟩
          clear hownC hnew hown1 hgrow1 hTB hone c1 c2
          go_wp2
          go_roundw
          case rel => exact ⟨(i + 1), j, L ++ [x], some ⟨g1, 0, none⟩, cap1, by omega, by omega, by go_num, by go_num, by rw [HF.out.2.2], HF.out.1, HF.out.2.1, by rw [← HN.out]; exact HL.out.2, by rw [HF.out.2.2]; omega⟩
          case measure => simp [intOf]; omega
        · have x1 : decide (x < x) = false := decide_eq_false (by omega)
          have HN : Hid (L ++ bothL (a.drop i) (b.drop j) = (L ++ [x]) ++ bothL (a.drop (i + 1)) (b.drop (j + 1))) := by
            rw [HD1.out, HD2.out, bothL_eq, List.append_assoc]; rfl
          go_wp2_with fail
          go_quiet (fail)
          have hQ := HO.out.drew nq
          clear HO c1 c2
          generalize wr.drewN nq = wr at *
          have HO : Hid (BQ w (.slice ad n c) n L wr) := hQ
          have hbs := HO.out.2.size
          have c1 := HC1.out wr HO.out.2
          have c2 := HC2.out wr HO.out.2
          clear hQ
          go_wp2_with fail
          go_quiet (fail)
          have hQ := HO.out.drew nq
          clear HO c1 c2
          generalize wr.drewN nq = wr at *
          have HO : Hid (BQ w (.slice ad n c) n L wr) := hQ
          have hbs := HO.out.2.size
          have c1 := HC1.out wr HO.out.2
          have c2 := HC2.out wr HO.out.2
          clear hQ
          have hownC := World.ownsRow.alloc HO.out.1 (.cells #[.int .i64 x] 3)
          have hnew : (wr.alloc (.cells #[.int .i64 x] 3)).heap[wr.heap.size]? = some (.cells #[.int .i64 x] 3 (0, 0)) := heap_alloc_new wr _
          have hone : ∀ u ∈ ([.int .i64 x] : List Value), u.oneCell' = true := by intro u hu; simp at hu; rw [hu]; rfl
          go_wp2_with (first | (at_builtin; (refine wpList_append_own _ rfl _ _ 22 rfl w.heap.size 3 i0 (.int .i64 0) 1 8 Try.underlying22 hi0 hz0 hz1 hz2 rfl (by decide) (.slice ad n c) n (intZ L) rfl hownC ⟨wr.heap.size, 0, none⟩ 1 1 [.int .i64 x] rfl rfl (World.news_of_block hnew) hone (by unfold maxLen; omega) (by omega) (by simp; omega) ?_)))
          intro v1 wB hown1 hgrow1 _
          have hTB : Below w.heap.size w wB := (HO.out.2.alloc hbs _).grown hgrow1 (by simp; omega) fun k hk => (HO.out.1.lt k hk).1
          obtain ⟨g1, cap1, rfl⟩ : ∃ g1 cap1, v1 = .slice (some ⟨g1, 0, none⟩) (n + 1) cap1 := by obtain ⟨g1, c1, e1, _⟩ := World.ownsRow.form hown1 (by omega); exact ⟨g1, c1, e1⟩
          have HF : Hid (IZ wB w.heap.size (.slice (some ⟨g1, 0, none⟩) (n + 1) cap1) (L ++ [x]) ∧ Below w.heap.size w wB ∧ (L ++ [x]).length = n + 1) := by
            unfold IZ
            rw [List.length_append, ← HL.out.1, intZ_append]
            exact ⟨hown1, hTB, rfl⟩
          clear hownC hnew hown1 hgrow1 hTB hone c1 c2
          go_wp2
          go_roundw
          case rel => exact ⟨(i + 1), (j + 1), L ++ [x], some ⟨g1, 0, none⟩, cap1, by omega, by omega, by go_num, by go_num, by rw [HF.out.2.2], HF.out.1, HF.out.2.1, by rw [← HN.out]; exact HL.out.2, by rw [HF.out.2.2]; omega⟩
          case measure => simp [intOf]; omega
        · have x1 : decide (x < y) = false := decide_eq_false (by omega)
          have x2 : decide (y < x) = true := decide_eq_true hyx
          have HN : Hid (L ++ bothL (a.drop i) (b.drop j) = (L ++ [y]) ++ bothL (a.drop i) (b.drop (j + 1))) := by
            rw [HD1.out, HD2.out, bothL_gt x y _ _ hyx, List.append_assoc]; rfl
          go_wp2_with fail
          go_quiet (fail)
          have hQ := HO.out.drew nq
          clear HO c1 c2
          generalize wr.drewN nq = wr at *
          have HO : Hid (BQ w (.slice ad n c) n L wr) := hQ
          have hbs := HO.out.2.size
          have c1 := HC1.out wr HO.out.2
          have c2 := HC2.out wr HO.out.2
          clear hQ
          go_wp2_with fail
          go_quiet (fail)
          have hQ := HO.out.drew nq
          clear HO c1 c2
          generalize wr.drewN nq = wr at *
          have HO : Hid (BQ w (.slice ad n c) n L wr) := hQ
          have hbs := HO.out.2.size
          have c1 := HC1.out wr HO.out.2
          have c2 := HC2.out wr HO.out.2
          clear hQ
          have hownC := World.ownsRow.alloc HO.out.1 (.cells #[.int .i64 y] 3)
          have hnew : (wr.alloc (.cells #[.int .i64 y] 3)).heap[wr.heap.size]? = some (.cells #[.int .i64 y] 3 (0, 0)) := heap_alloc_new wr _
          have hone : ∀ u ∈ ([.int .i64 y] : List Value), u.oneCell' = true := by intro u hu; simp at hu; rw [hu]; rfl
          go_wp2_with (first | (at_builtin; (refine wpList_append_own _ rfl _ _ 22 rfl w.heap.size 3 i0 (.int .i64 0) 1 8 Try.underlying22 hi0 hz0 hz1 hz2 rfl (by decide) (.slice ad n c) n (intZ L) rfl hownC ⟨wr.heap.size, 0, none⟩ 1 1 [.int .i64 y] rfl rfl (World.news_of_block hnew) hone (by unfold maxLen; omega) (by omega) (by simp; omega) ?_)))
          intro v1 wB hown1 hgrow1 _
          have hTB : Below w.heap.size w wB := (HO.out.2.alloc hbs _).grown hgrow1 (by simp; omega) fun k hk => (HO.out.1.lt k hk).1
          obtain ⟨g1, cap1, rfl⟩ : ∃ g1 cap1, v1 = .slice (some ⟨g1, 0, none⟩) (n + 1) cap1 := by obtain ⟨g1, c1, e1, _⟩ := World.ownsRow.form hown1 (by omega); exact ⟨g1, c1, e1⟩
          have HF : Hid (IZ wB w.heap.size (.slice (some ⟨g1, 0, none⟩) (n + 1) cap1) (L ++ [y]) ∧ Below w.heap.size w wB ∧ (L ++ [y]).length = n + 1) := by
            unfold IZ
            rw [List.length_append, ← HL.out.1, intZ_append]
            exact ⟨hown1, hTB, rfl⟩
          clear hownC hnew hown1 hgrow1 hTB hone c1 c2
          go_wp2
          go_roundw
          case rel => exact ⟨i, (j + 1), L ++ [y], some ⟨g1, 0, none⟩, cap1, by omega, by omega, by go_num, by go_num, by rw [HF.out.2.2], HF.out.1, HF.out.2.1, by rw [← HN.out]; exact HL.out.2, by rw [HF.out.2.2]; omega⟩
          case measure => simp [intOf]; omega
      · have j1 : ¬ (j : Int) < (lb : Nat) := by omega
        obtain rfl : j = lb := by omega
        have j2 : ((j : Int) == (j : Nat)) = true := by simp
        have HD2 : Hid (b.drop j = []) := List.drop_eq_nil_of_le (by rw [← HE.out.2]; exact Nat.le_refl _)
        have HN : Hid (L ++ bothL (a.drop i) (b.drop j) = (L ++ [x]) ++ bothL (a.drop (i + 1)) (b.drop j)) := by
          rw [HD1.out, HD2.out, bothL_nil', bothL_nil', List.append_assoc]; rfl
        go_wp2_with fail
        go_quiet (fail)
        have hQ := HO.out.drew nq
        clear HO c1
        generalize wr.drewN nq = wr at *
        have HO : Hid (BQ w (.slice ad n c) n L wr) := hQ
        have hbs := HO.out.2.size
        have c1 := HC1.out wr HO.out.2
        clear hQ
        have hownC := World.ownsRow.alloc HO.out.1 (.cells #[.int .i64 x] 3)
        have hnew : (wr.alloc (.cells #[.int .i64 x] 3)).heap[wr.heap.size]? = some (.cells #[.int .i64 x] 3 (0, 0)) := heap_alloc_new wr _
        have hone : ∀ u ∈ ([.int .i64 x] : List Value), u.oneCell' = true := by intro u hu; simp at hu; rw [hu]; rfl
        go_wp2_with (first | (at_builtin; (refine wpList_append_own _ rfl _ _ 22 rfl w.heap.size 3 i0 (.int .i64 0) 1 8 Try.underlying22 hi0 hz0 hz1 hz2 rfl (by decide) (.slice ad n c) n (intZ L) rfl hownC ⟨wr.heap.size, 0, none⟩ 1 1 [.int .i64 x] rfl rfl (World.news_of_block hnew) hone (by unfold maxLen; omega) (by omega) (by simp; omega) ?_)))
        intro v1 wB hown1 hgrow1 _
        have hTB : Below w.heap.size w wB := (HO.out.2.alloc hbs _).grown hgrow1 (by simp; omega) fun k hk => (HO.out.1.lt k hk).1
        obtain ⟨g1, cap1, rfl⟩ : ∃ g1 cap1, v1 = .slice (some ⟨g1, 0, none⟩) (n + 1) cap1 := by obtain ⟨g1, c1, e1, _⟩ := World.ownsRow.form hown1 (by omega); exact ⟨g1, c1, e1⟩
        have HF : Hid (IZ wB w.heap.size (.slice (some ⟨g1, 0, none⟩) (n + 1) cap1) (L ++ [x]) ∧ Below w.heap.size w wB ∧ (L ++ [x]).length = n + 1) := by
          unfold IZ
          rw [List.length_append, ← HL.out.1, intZ_append]
          exact ⟨hown1, hTB, rfl⟩
        clear hownC hnew hown1 hgrow1 hTB hone c1
        go_wp2
        go_roundw
        case rel => exact ⟨(i + 1), j, L ++ [x], some ⟨g1, 0, none⟩, cap1, by omega, by omega, by go_num, by go_num, by rw [HF.out.2.2], HF.out.1, HF.out.2.1, by rw [← HN.out]; exact HL.out.2, by rw [HF.out.2.2]; omega⟩
        case measure => simp [intOf]; omega
    · have i1 : ¬ (i : Int) < (la : Nat) := by omega
      obtain rfl : i = la := by omega
      have HD1 : Hid (a.drop i = []) := List.drop_eq_nil_of_le (by rw [← HE.out.1]; exact Nat.le_refl _)
      by_cases h2 : j < lb
      · have j1 : (j : Int) < (lb : Nat) := by omega
        have j2 : ((j : Int) == (lb : Nat)) = false := by simp; omega
        have i2 : ((i : Int) == (i : Nat)) = true := by simp
        obtain ⟨gb, o2, rfl, hgb, cb'⟩ := H1.out.2.at (i := j) (by rw [← HE.out.2]; exact h2)
        obtain ⟨y, hy, hd2⟩ : ∃ y, y = b[j]'(by rw [← HE.out.2]; exact h2) ∧ b.drop j = y :: b.drop (j + 1) := ⟨_, rfl, drop_at (by rw [← HE.out.2]; exact h2)⟩
        rw [← hy] at cb'
        have HC2 : Hid (∀ wr, Below w.heap.size w wr → wr.cell? ⟨gb, o2 + j, none⟩ = some (.int .i64 y)) := fun wr hb => (cell_kept_1 (hb.block gb hgb) _).trans cb'
        have c2 := HC2.out wr HO.out.2
        have HD2 : Hid (b.drop j = y :: b.drop (j + 1)) := hd2
        clear cb' hy hd2
        have HN : Hid (L ++ bothL (a.drop i) (b.drop j) = (L ++ [y]) ++ bothL (a.drop i) (b.drop (j + 1))) := by
          rw [HD1.out, HD2.out, bothL_nil, bothL_nil, List.append_assoc]; rfl
        go_wp2_with fail
        go_quiet (fail)
        have hQ := HO.out.drew nq
        clear HO c2
        generalize wr.drewN nq = wr at *
        have HO : Hid (BQ w (.slice ad n c) n L wr) := hQ
        have hbs := HO.out.2.size
        have c2 := HC2.out wr HO.out.2
        clear hQ
        go_wp2_with fail
        go_quiet (fail)
        have hQ := HO.out.drew nq
        clear HO c2
        generalize wr.drewN nq = wr at *
        have HO : Hid (BQ w (.slice ad n c) n L wr) := hQ
        have hbs := HO.out.2.size
        have c2 := HC2.out wr HO.out.2
        clear hQ
        have hownC := World.ownsRow.alloc HO.out.1 (.cells #[.int .i64 y] 3)
        have hnew : (wr.alloc (.cells #[.int .i64 y] 3)).heap[wr.heap.size]? = some (.cells #[.int .i64 y] 3 (0, 0)) := heap_alloc_new wr _
        have hone : ∀ u ∈ ([.int .i64 y] : List Value), u.oneCell' = true := by intro u hu; simp at hu; rw [hu]; rfl
        go_wp2_with (first | (at_builtin; (refine wpList_append_own _ rfl _ _ 22 rfl w.heap.size 3 i0 (.int .i64 0) 1 8 Try.underlying22 hi0 hz0 hz1 hz2 rfl (by decide) (.slice ad n c) n (intZ L) rfl hownC ⟨wr.heap.size, 0, none⟩ 1 1 [.int .i64 y] rfl rfl (World.news_of_block hnew) hone (by unfold maxLen; omega) (by omega) (by simp; omega) ?_)))
        intro v1 wB hown1 hgrow1 _
        have hTB : Below w.heap.size w wB := (HO.out.2.alloc hbs _).grown hgrow1 (by simp; omega) fun k hk => (HO.out.1.lt k hk).1
        obtain ⟨g1, cap1, rfl⟩ : ∃ g1 cap1, v1 = .slice (some ⟨g1, 0, none⟩) (n + 1) cap1 := by obtain ⟨g1, c1, e1, _⟩ := World.ownsRow.form hown1 (by omega); exact ⟨g1, c1, e1⟩
        have HF : Hid (IZ wB w.heap.size (.slice (some ⟨g1, 0, none⟩) (n + 1) cap1) (L ++ [y]) ∧ Below w.heap.size w wB ∧ (L ++ [y]).length = n + 1) := by
          unfold IZ
          rw [List.length_append, ← HL.out.1, intZ_append]
          exact ⟨hown1, hTB, rfl⟩
        clear hownC hnew hown1 hgrow1 hTB hone c2
        go_wp2
        go_roundw
        case rel => exact ⟨i, (j + 1), L ++ [y], some ⟨g1, 0, none⟩, cap1, by omega, by omega, by go_num, by go_num, by rw [HF.out.2.2], HF.out.1, HF.out.2.1, by rw [← HN.out]; exact HL.out.2, by rw [HF.out.2.2]; omega⟩
        case measure => simp [intOf]; omega
      · have j1 : ¬ (j : Int) < (lb : Nat) := by omega
        obtain rfl : j = lb := by omega
        have HF : Hid (IZ wr w.heap.size (.slice ad n c) (bothL a b) ∧ Below w.heap.size w wr) := by
          rw [HL.out.2, HD1.out, List.drop_eq_nil_of_le (show b.length ≤ j by rw [← HE.out.2]; exact Nat.le_refl _), bothL_nil, List.append_nil]
          unfold IZ
          rw [← HL.out.1]
          exact HO.out
        go_wp2
        go_ret
        exact ⟨_, rfl, HF.out⟩
end Go.Proofs.Ytcmbphppeobhfab
