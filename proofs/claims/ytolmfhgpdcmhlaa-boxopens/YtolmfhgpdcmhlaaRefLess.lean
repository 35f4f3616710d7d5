/- Numbers of digits; the document's prime and less. -/
import Derived.Test.YtolmfhgpdcmhlaaRefDigits
namespace Go.Proofs.Ytolmfhgpdcmhlaa
open Go.RowKit

/-- The number of digits of ten bits. -/
def dN : List Nat → Nat
  | [] => 0
  | x :: l => x + 1024 * dN l
def Digs (l : List Nat) : Prop := ∀ x ∈ l, x < 1024
theorem dN_append (a b : List Nat) : dN (a ++ b) = dN a + 1024 ^ a.length * dN b := by
  induction a with
  | nil => simp [dN]
  | cons x a ih =>
    show x + 1024 * dN (a ++ b) = x + 1024 * dN a + 1024 ^ (a.length + 1) * dN b
    rw [ih, Nat.mul_add, Nat.pow_succ, Nat.mul_comm (1024 ^ a.length) 1024, Nat.mul_assoc]
    omega
theorem dN_lt (a : List Nat) (h : Digs a) : dN a < 1024 ^ a.length := by
  induction a with
  | nil => simp [dN]
  | cons x a ih =>
    have h1 := h x (List.mem_cons_self ..)
    have h2 := ih fun y hy => h y (List.mem_cons_of_mem _ hy)
    show x + 1024 * dN a < 1024 ^ (a.length + 1)
    rw [Nat.pow_succ]
    omega
theorem dN_digL (V : Nat) : ∀ n, dN (digL V n) = V % 1024 ^ n
  | 0 => by simp [digL, dN, Nat.mod_one]
  | n + 1 => by
    have e : digL V (n + 1) = digL V n ++ [V / 2 ^ (10 * n) % 1024] := by rw [digL, List.range_succ, List.map_append]; rfl
    rw [e, dN_append, dN_digL V n, digL_length, show dN [V / 2 ^ (10 * n) % 1024] = V / 2 ^ (10 * n) % 1024 from by simp [dN], Nat.pow_succ, Nat.mod_mul, show 2 ^ (10 * n) = 1024 ^ n by rw [Nat.pow_mul]]
theorem digL_digs (V n : Nat) : Digs (digL V n) := fun x hx => by
  obtain ⟨i, _, rfl⟩ := List.mem_map.1 hx
  exact Nat.mod_lt _ (by decide)
/-- The first digit from above that is unlike tells which number is less. -/
theorem dN_parts (A : List Nat) (J : Nat) (h : J < A.length) : dN A = dN (A.take J) + 1024 ^ J * (A.getD J 0 + 1024 * dN (A.drop (J + 1))) := by
  have e : A = A.take J ++ A.getD J 0 :: A.drop (J + 1) := by
    rw [getD_at _ _ h, ← List.drop_eq_getElem_cons h, List.take_append_drop]
  have h1 := congrArg dN e
  rw [dN_append, List.length_take, Nat.min_eq_left (by omega)] at h1
  exact h1
theorem dN_less (A B : List Nat) (ha : Digs A) (hl : A.length = B.length) (J : Nat) (h : J < A.length) (he : A.drop (J + 1) = B.drop (J + 1)) (hlt : A.getD J 0 < B.getD J 0) : dN A < dN B := by
  rw [dN_parts A J h, dN_parts B J (by omega), he]
  have h1 : dN (A.take J) < 1024 ^ J := by
    have := dN_lt (A.take J) (fun x hx => ha x (List.mem_of_mem_take hx))
    rwa [List.length_take, Nat.min_eq_left (by omega)] at this
  have h2 : 1024 ^ J * (A.getD J 0 + 1024 * dN (B.drop (J + 1)) + 1) ≤ 1024 ^ J * (B.getD J 0 + 1024 * dN (B.drop (J + 1))) := Nat.mul_le_mul_left _ (by omega)
  rw [Nat.mul_add (1024 ^ J) _ 1, Nat.mul_one] at h2
  omega
theorem drop_same (A B : List Nat) (hl : A.length = B.length) (J : Nat) (h : J < A.length) (he : A.drop (J + 1) = B.drop (J + 1)) (hq : A.getD J 0 = B.getD J 0) : A.drop J = B.drop J := by
  rw [List.drop_eq_getElem_cons h, List.drop_eq_getElem_cons (show J < B.length by omega), he, ← getD_at A 0 h, ← getD_at B 0 (show J < B.length by omega), hq]

/-- So many ints that stand in a block, from its beginning on. -/
structure IntsN (w : World) (g n : Nat) (L : List Nat) : Prop where
  lt : g < w.heap.size
  cells : ∀ i, i < n → w.cell? ⟨g, i, none⟩ = some (.int .i64 (L.getD i 0 : Nat))
  free : ∀ i, i < n → w.frozen? ⟨g, i, none⟩ = false
theorem IntsN.below {w w' : World} {g B n : Nat} {L : List Nat} (h : IntsN w g n L) (hb : Below B w w') (hg : g < B) : IntsN w' g n L :=
  ⟨Nat.lt_of_lt_of_le h.lt hb.size, fun i hi => (hb.cell (p := ⟨g, i, none⟩) hg).trans (h.cells i hi), fun i hi => (hb.frozen (p := ⟨g, i, none⟩) hg).trans (h.free i hi)⟩
theorem IntsN.of {w : World} {base g n cap : Nat} {L : List Nat} (h : OwnC w base g n cap (intV L)) (hl : L.length = n) : IntsN w g n L := ⟨h.lt, fun i hi => h.cells i _ (intV_at L i (by omega)), fun i hi => h.free i (by have := h.room; omega)⟩
theorem drewN_two (w : World) (a b : Nat) : (w.drewN a).drewN b = w.drewN (a + b) := by
  simp
theorem drewN_three (w : World) (a b c : Nat) : ((w.drewN a).drewN b).drewN c = w.drewN (a + b + c) := by
  simp
def primeL : List Nat := 1019 :: List.replicate 12 1023
theorem prime_num : dN primeL = polyP := by decide

set_option maxRecDepth 10000 in
set_option maxHeartbeats 1000000 in
theorem rprime_any (w : World) :
    Calls Try.prog 47 #[] w fun e w' => ∃ g cap, e = .returned (.slice (some ⟨g, 0, none⟩) 13 cap) ∧ IntsN w' g 13 primeL ∧ w.heap.size ≤ g ∧ Below w.heap.size w w' := by
  obtain ⟨i0, hi, hz0, hz1, hz2⟩ := info_parts info_int
  have HE : Hid (OwnC (w.alloc (.cells #[.int .i64 1019] 3)) w.heap.size w.heap.size 1 1 (intV (1019 :: List.replicate 0 1023)) ∧ Below w.heap.size w (w.alloc (.cells #[.int .i64 1019] 3))) := ⟨OwnC.fresh w 3 (intV (1019 :: List.replicate 0 1023)) 1 rfl (by decide), (Below.refl _ _).alloc (Nat.le_refl _) _⟩
  go_enter Try.func47, Try.ntmps47
  go_wp2_with fail
  go_loopw [1, 2] (fun v i wr => ∃ j g cap : Nat, j ≤ 12 ∧ i = .int .i64 ((j : Int) + 1) ∧ v = .slice (some ⟨g, 0, none⟩) (1 + j) cap ∧ OwnC wr w.heap.size g (1 + j) cap (intV (1019 :: List.replicate j 1023)) ∧ Below w.heap.size w wr) (fun _ i _ => 13 - (intOf i).toNat)
  case atStart => exact ⟨0, w.heap.size, 1, Nat.zero_le _, rfl, rfl, HE.out.1, HE.out.2⟩
  case round =>
    clear HE
    obtain ⟨j, g, cap, hj, rfl, rfl, hown, hb⟩ := hrel
    by_cases hlt : j < 12
    · have HST : Hid (intV (1019 :: List.replicate (j + 1) 1023) = intV (1019 :: List.replicate j 1023) ++ [.int .i64 1023]) := by
        show _ = _
        rw [List.replicate_succ', ← List.cons_append]
        simp [intV]
      have hji : (j : Int) + 1 < 13 := by omega
      go_wp2_with (at_builtin; refine wpList_appendC _ rfl _ _ 48 rfl w.heap.size 3 i0 (.int .i64 0) 8 Try.underlying48 hi hz0 hz1 hz2 rfl g (1 + j) cap (intV (1019 :: List.replicate j 1023)) rfl (hown.alloc _) ⟨wr.heap.size, 0, none⟩ 1 1 [.int .i64 1023] rfl rfl (World.news_of_block (heap_alloc_new _ _)) ?c2 ?c3 ?c4 ?c5 ?_)
      case c2 => intro u hu; rw [List.mem_singleton] at hu; rw [hu]; rfl
      case c3 => unfold maxLen; omega
      case c4 => omega
      case c5 => have := hb.size; simp; omega
      intro g2 cap2 w2 hown2 hgrow2 _
      have hlow := hown.low
      have hb2 : Below w.heap.size w w2 := (hb.alloc hb.size _).grown hgrow2 (by have := hb.size; simp; omega) (fun x hx => by obtain rfl : g = x := (by simpa using hx); exact hlow)
      rw [← HST.out] at hown2
      clear hown hgrow2 hb
      go_wp2
      go_roundw
      case rel => exact ⟨j + 1, g2, cap2, by omega, by go_num, rfl, hown2, hb2⟩
      case measure => simp [intOf]; omega
    · obtain rfl : j = 12 := by omega
      have HF : Hid (IntsN wr g 13 primeL ∧ w.heap.size ≤ g ∧ Below w.heap.size w wr) := ⟨IntsN.of hown rfl, hown.low, hb⟩
      clear hown hb
      rw [show ((12 : Nat) : Int) + 1 = 13 from rfl]
      go_wp2
      go_ret
      exact ⟨g, cap, rfl, HF.out⟩

set_option maxRecDepth 10000 in
set_option maxHeartbeats 1000000 in
theorem rless_any (A B : List Nat) (hA : Digs A) (hB : Digs B) (la : A.length = 13) (lb : B.length = 13) (ga gb ca cb : Nat) (w : World) (ia : IntsN w ga 13 A) (ib : IntsN w gb 13 B) :
    Calls Try.prog 48 #[.slice (some ⟨ga, 0, none⟩) 13 ca, .slice (some ⟨gb, 0, none⟩) 13 cb] w fun e w' => e = .returned (.bool (decide (dN A < dN B))) ∧ ∃ n, w' = w.drewN n := by
  obtain ⟨R, hR⟩ : ∃ R, R = decide (dN A < dN B) := ⟨_, rfl⟩
  rw [← hR]
  have HR : Hid (R = decide (dN A < dN B)) := hR
  clear hR
  go_enter Try.func48, Try.ntmps48
  go_wp2_with fail
  go_loopw [5] (fun i wz => ∃ J k : Nat, J ≤ 13 ∧ i = .int .i64 ((J : Int) - 1) ∧ A.drop J = B.drop J ∧ wz = w.drewN k) (fun i _ => (intOf i + 1).toNat)
  case atStart => exact ⟨13, 0, Nat.le_refl _, rfl, by rw [List.drop_eq_nil_of_le (by omega), List.drop_eq_nil_of_le (by omega)], rfl⟩
  case round =>
    obtain ⟨J, k, hJ, rfl, he, rfl⟩ := hrel
    cases J with
    | zero =>
      obtain rfl : R = false := by
        rw [HR.out, show A = B from he]
        simp
      rw [show ((0 : Nat) : Int) - 1 = -1 from rfl]
      clear he
      go_wp2
      go_ret
      exact ⟨rfl, _, rfl⟩
    | succ J =>
      rw [show (((J + 1 : Nat) : Int) - 1) = (J : Int) by omega]
      have cx := ia.cells J (by omega)
      have cy := ib.cells J (by omega)
      have cx' : ∀ n, (w.drewN n).cell? ⟨ga, J, none⟩ = some (.int .i64 (A.getD J 0 : Nat)) := fun n => cx
      have cy' : ∀ n, (w.drewN n).cell? ⟨gb, J, none⟩ = some (.int .i64 (B.getD J 0 : Nat)) := fun n => cy
      have j13 : (J : Int) < 13 := by omega
      have HE : Hid (A.drop (J + 1) = B.drop (J + 1)) := he
      clear he
      obtain ⟨x, hx⟩ : ∃ x, x = A.getD J 0 := ⟨_, rfl⟩
      obtain ⟨y, hy⟩ : ∃ y, y = B.getD J 0 := ⟨_, rfl⟩
      rw [← hx] at cx cx'
      rw [← hy] at cy cy'
      have HX : Hid (x = A.getD J 0 ∧ y = B.getD J 0) := ⟨hx, hy⟩
      clear hx hy
      generalize hwk : w.drewN k = wk at *
      have cx'' : wk.cell? ⟨ga, J, none⟩ = some (.int .i64 x) := by rw [← hwk]; exact cx
      have cy'' : wk.cell? ⟨gb, J, none⟩ = some (.int .i64 y) := by rw [← hwk]; exact cy
      have HWK : Hid (w.drewN k = wk) := hwk
      clear hwk cx cy cx' cy'
      by_cases hq : x = y
      · subst hq
        go_wp2_with fail
        go_quiet (fail)
        go_wp2
        go_roundw
        case rel => exact ⟨J, _, by omega, rfl, drop_same A B (by omega) J (by omega) HE.out (HX.out.1.symm.trans HX.out.2), by rw [← HWK.out]; exact drewN_two _ _ _⟩
        case measure => simp [intOf]
      · have hqi : ¬ (x : Int) = y := by omega
        have cx3 : ∀ n, (wk.drewN n).cell? ⟨ga, J, none⟩ = some (.int .i64 x) := fun n => cx''
        have cy3 : ∀ n, (wk.drewN n).cell? ⟨gb, J, none⟩ = some (.int .i64 y) := fun n => cy''
        by_cases hxy : x < y
        · have hxi : (x : Int) < y := by omega
          obtain rfl : R = true := by
            rw [HR.out]
            exact decide_eq_true (dN_less A B hA (by omega) J (by omega) HE.out (by rw [← HX.out.1, ← HX.out.2]; exact hxy))
          go_wp2_with fail
          go_quiet (fail)
          go_wp2_with fail
          go_quiet (fail)
          go_wp2
          go_ret
          exact ⟨rfl, _, by rw [← HWK.out]; exact drewN_three _ _ _ _⟩
        · have hxi : ¬ (x : Int) < y := by omega
          obtain rfl : R = false := by
            rw [HR.out]
            exact decide_eq_false (Nat.not_lt_of_lt (dN_less B A hB (by omega) J (by omega) HE.out.symm (by rw [← HX.out.1, ← HX.out.2]; omega)))
          go_wp2_with fail
          go_quiet (fail)
          go_wp2_with fail
          go_quiet (fail)
          go_wp2
          go_ret
          exact ⟨rfl, _, by rw [← HWK.out]; exact drewN_three _ _ _ _⟩
end Go.Proofs.Ytolmfhgpdcmhlaa
