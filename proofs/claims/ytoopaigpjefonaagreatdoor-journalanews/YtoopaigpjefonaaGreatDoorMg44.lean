/- Numbers of digits; the document's prime and less. · The document's clamped: the first sixteen bytes of a key, bits taken away. · A number of many digits modulo 2^130 - 5, turn by turn; nothing of the program. · The turns of the document's reduced, as lists of digits; bounds; nothing of the program. -/
import Derived.Test.YtoopaigpjefonaaGreatDoorMg43
namespace Go.Proofs.YtoopaigpjefonaaGreatDoor.Bx
set_option maxRecDepth 20000
open Go.RowKit

/-- The number of digits of ten bits. -/
def dN : List Nat → Nat
  | [] => 0
  | x :: l => x + 1024 * dN l
def Digs (l : List Nat) : Prop := ∀ x ∈ l, x < 1024
theorem dN_append (a b : List Nat) : dN (a ++ b) = dN a + 1024 ^ a.length * dN b := by
  induction a with
  | nil => simp [dN]
  | cons x a ih =>
    show x + 1024 * dN (a ++ b) = x + 1024 * dN a + 1024 ^ (a.length + 1) * dN b
    rw [ih, Nat.mul_add, Nat.pow_succ, Nat.mul_comm (1024 ^ a.length) 1024, Nat.mul_assoc]
    omega
theorem dN_lt (a : List Nat) (h : Digs a) : dN a < 1024 ^ a.length := by
  induction a with
  | nil => simp [dN]
  | cons x a ih =>
    have h1 := h x (List.mem_cons_self ..)
    have h2 := ih fun y hy => h y (List.mem_cons_of_mem _ hy)
    show x + 1024 * dN a < 1024 ^ (a.length + 1)
    rw [Nat.pow_succ]
    omega
theorem dN_digL (V : Nat) : ∀ n, dN (digL V n) = V % 1024 ^ n
  | 0 => by simp [digL, dN, Nat.mod_one]
  | n + 1 => by
    have e : digL V (n + 1) = digL V n ++ [V / 2 ^ (10 * n) % 1024] := by rw [digL, List.range_succ, List.map_append]; rfl
    rw [e, dN_append, dN_digL V n, digL_length, show dN [V / 2 ^ (10 * n) % 1024] = V / 2 ^ (10 * n) % 1024 from by simp [dN], Nat.pow_succ, Nat.mod_mul, show 2 ^ (10 * n) = 1024 ^ n by rw [Nat.pow_mul]]
theorem digL_digs (V n : Nat) : Digs (digL V n) := fun x hx => by
  obtain ⟨i, _, rfl⟩ := List.mem_map.1 hx
  exact Nat.mod_lt _ (by decide)
/-- The first digit from above that is unlike tells which number is less. -/
theorem dN_parts (A : List Nat) (J : Nat) (h : J < A.length) : dN A = dN (A.take J) + 1024 ^ J * (A.getD J 0 + 1024 * dN (A.drop (J + 1))) := by
  have e : A = A.take J ++ A.getD J 0 :: A.drop (J + 1) := by
    rw [getD_at _ _ h, ← List.drop_eq_getElem_cons h, List.take_append_drop]
  have h1 := congrArg dN e
  rw [dN_append, List.length_take, Nat.min_eq_left (by omega)] at h1
  exact h1
theorem dN_less (A B : List Nat) (ha : Digs A) (hl : A.length = B.length) (J : Nat) (h : J < A.length) (he : A.drop (J + 1) = B.drop (J + 1)) (hlt : A.getD J 0 < B.getD J 0) : dN A < dN B := by
  rw [dN_parts A J h, dN_parts B J (by omega), he]
  have h1 : dN (A.take J) < 1024 ^ J := by
    have := dN_lt (A.take J) (fun x hx => ha x (List.mem_of_mem_take hx))
    rwa [List.length_take, Nat.min_eq_left (by omega)] at this
  have h2 : 1024 ^ J * (A.getD J 0 + 1024 * dN (B.drop (J + 1)) + 1) ≤ 1024 ^ J * (B.getD J 0 + 1024 * dN (B.drop (J + 1))) := Nat.mul_le_mul_left _ (by omega)
  rw [Nat.mul_add (1024 ^ J) _ 1, Nat.mul_one] at h2
  omega
theorem drop_same (A B : List Nat) (hl : A.length = B.length) (J : Nat) (h : J < A.length) (he : A.drop (J + 1) = B.drop (J + 1)) (hq : A.getD J 0 = B.getD J 0) : A.drop J = B.drop J := by
  rw [List.drop_eq_getElem_cons h, List.drop_eq_getElem_cons (show J < B.length by omega), he, ← getD_at A 0 h, ← getD_at B 0 (show J < B.length by omega), hq]

/-- So many ints that stand in a block, from its beginning on. -/
structure IntsN (w : World) (g n : Nat) (L : List Nat) : Prop where
  lt : g < w.heap.size
  cells : ∀ i, i < n → w.cell? ⟨g, i, none⟩ = some (.int .i64 (L.getD i 0 : Nat))
  free : ∀ i, i < n → w.frozen? ⟨g, i, none⟩ = false
theorem IntsN.below {w w' : World} {g B n : Nat} {L : List Nat} (h : IntsN w g n L) (hb : Below B w w') (hg : g < B) : IntsN w' g n L :=
  ⟨Nat.lt_of_lt_of_le h.lt hb.size, fun i hi => (hb.cell (p := ⟨g, i, none⟩) hg).trans (h.cells i hi), fun i hi => (hb.frozen (p := ⟨g, i, none⟩) hg).trans (h.free i hi)⟩
theorem IntsN.of {w : World} {base g n cap : Nat} {L : List Nat} (h : OwnC w base g n cap (intV L)) (hl : L.length = n) : IntsN w g n L := ⟨h.lt, fun i hi => h.cells i _ (intV_at L i (by omega)), fun i hi => h.free i (by have := h.room; omega)⟩
theorem drewN_two (w : World) (a b : Nat) : (w.drewN a).drewN b = w.drewN (a + b) := by
  simp
theorem drewN_three (w : World) (a b c : Nat) : ((w.drewN a).drewN b).drewN c = w.drewN (a + b + c) := by
  simp
def primeL : List Nat := 1019 :: List.replicate 12 1023
theorem prime_num : dN primeL = polyP := by decide

set_option maxRecDepth 10000 in
set_option maxHeartbeats 1000000 in
theorem rprime_any (w : World) :
    Calls Tryz.prog 212 #[] w fun e w' => ∃ g cap, e = .returned (.slice (some ⟨g, 0, none⟩) 13 cap) ∧ IntsN w' g 13 primeL ∧ w.heap.size ≤ g ∧ Below w.heap.size w w' := by
  obtain ⟨i0, hi, hz0, hz1, hz2⟩ := info_parts info_int
  have HE : Hid (OwnC (w.alloc (.cells #[.int .i64 1019] 3)) w.heap.size w.heap.size 1 1 (intV (1019 :: List.replicate 0 1023)) ∧ Below w.heap.size w (w.alloc (.cells #[.int .i64 1019] 3))) := ⟨OwnC.fresh w 3 (intV (1019 :: List.replicate 0 1023)) 1 rfl (by decide), (Below.refl _ _).alloc (Nat.le_refl _) _⟩
  go_enter Tryz.func212, Tryz.ntmps212
  go_wp2_with fail
  go_loopw [1, 2] (fun v i wr => ∃ j g cap : Nat, j ≤ 12 ∧ i = .int .i64 ((j : Int) + 1) ∧ v = .slice (some ⟨g, 0, none⟩) (1 + j) cap ∧ OwnC wr w.heap.size g (1 + j) cap (intV (1019 :: List.replicate j 1023)) ∧ Below w.heap.size w wr) (fun _ i _ => 13 - (intOf i).toNat)
  case atStart => exact ⟨0, w.heap.size, 1, Nat.zero_le _, rfl, rfl, HE.out.1, HE.out.2⟩
  case round =>
    clear HE
    obtain ⟨j, g, cap, hj, rfl, rfl, hown, hb⟩ := hrel
    by_cases hlt : j < 12
    · have HST : Hid (intV (1019 :: List.replicate (j + 1) 1023) = intV (1019 :: List.replicate j 1023) ++ [.int .i64 1023]) := by
        show _ = _
        rw [List.replicate_succ', ← List.cons_append]
        simp [intV]
      have hji : (j : Int) + 1 < 13 := by omega
      go_wp2_with (at_builtin; refine wpList_appendC _ rfl _ _ 92 rfl w.heap.size 3 i0 (.int .i64 0) 8 Tryz.underlying92 hi hz0 hz1 hz2 rfl g (1 + j) cap (intV (1019 :: List.replicate j 1023)) rfl (hown.alloc _) ⟨wr.heap.size, 0, none⟩ 1 1 [.int .i64 1023] rfl rfl (World.news_of_block (heap_alloc_new _ _)) ?c2 ?c3 ?c4 ?c5 ?_)
      case c2 => intro u hu; rw [List.mem_singleton] at hu; rw [hu]; rfl
      case c3 => unfold maxLen; omega
      case c4 => omega
      case c5 => have := hb.size; simp; omega
      intro g2 cap2 w2 hown2 hgrow2 _
      have hlow := hown.low
      have hb2 : Below w.heap.size w w2 := (hb.alloc hb.size _).grown hgrow2 (by have := hb.size; simp; omega) (fun x hx => by obtain rfl : g = x := (by simpa using hx); exact hlow)
      rw [← HST.out] at hown2
      clear hown hgrow2 hb
      go_wp2
      go_roundw
      case rel => exact ⟨j + 1, g2, cap2, by omega, by go_num, rfl, hown2, hb2⟩
      case measure => simp [intOf]; omega
    · obtain rfl : j = 12 := by omega
      have HF : Hid (IntsN wr g 13 primeL ∧ w.heap.size ≤ g ∧ Below w.heap.size w wr) := ⟨IntsN.of hown rfl, hown.low, hb⟩
      clear hown hb
      rw [show ((12 : Nat) : Int) + 1 = 13 from rfl]
      go_wp2
      go_ret
      exact ⟨g, cap, rfl, HF.out⟩

set_option maxRecDepth 10000 in
set_option maxHeartbeats 1000000 in
theorem rless_any (A B : List Nat) (hA : Digs A) (hB : Digs B) (la : A.length = 13) (lb : B.length = 13) (ga gb ca cb : Nat) (w : World) (ia : IntsN w ga 13 A) (ib : IntsN w gb 13 B) :
    Calls Tryz.prog 213 #[.slice (some ⟨ga, 0, none⟩) 13 ca, .slice (some ⟨gb, 0, none⟩) 13 cb] w fun e w' => e = .returned (.bool (decide (dN A < dN B))) ∧ ∃ n, w' = w.drewN n := by
  obtain ⟨R, hR⟩ : ∃ R, R = decide (dN A < dN B) := ⟨_, rfl⟩
  rw [← hR]
  have HR : Hid (R = decide (dN A < dN B)) := hR
  clear hR
  go_enter Tryz.func213, Tryz.ntmps213
  go_wp2_with fail
  go_loopw [5] (fun i wz => ∃ J k : Nat, J ≤ 13 ∧ i = .int .i64 ((J : Int) - 1) ∧ A.drop J = B.drop J ∧ wz = w.drewN k) (fun i _ => (intOf i + 1).toNat)
  case atStart => exact ⟨13, 0, Nat.le_refl _, rfl, by rw [List.drop_eq_nil_of_le (by omega), List.drop_eq_nil_of_le (by omega)], rfl⟩
  case round =>
    obtain ⟨J, k, hJ, rfl, he, rfl⟩ := hrel
    cases J with
    | zero =>
      obtain rfl : R = false := by
        rw [HR.out, show A = B from he]
        simp
      rw [show ((0 : Nat) : Int) - 1 = -1 from rfl]
      clear he
      go_wp2
      go_ret
      exact ⟨rfl, _, rfl⟩
    | succ J =>
      rw [show (((J + 1 : Nat) : Int) - 1) = (J : Int) by omega]
      have cx := ia.cells J (by omega)
      have cy := ib.cells J (by omega)
      have cx' : ∀ n, (w.drewN n).cell? ⟨ga, J, none⟩ = some (.int .i64 (A.getD J 0 : Nat)) := fun n => cx
      have cy' : ∀ n, (w.drewN n).cell? ⟨gb, J, none⟩ = some (.int .i64 (B.getD J 0 : Nat)) := fun n => cy
      have j13 : (J : Int) < 13 := by omega
      have HE : Hid (A.drop (J + 1) = B.drop (J + 1)) := he
      clear he
      obtain ⟨x, hx⟩ : ∃ x, x = A.getD J 0 := ⟨_, rfl⟩
      obtain ⟨y, hy⟩ : ∃ y, y = B.getD J 0 := ⟨_, rfl⟩
      rw [← hx] at cx cx'
      rw [← hy] at cy cy'
      have HX : Hid (x = A.getD J 0 ∧ y = B.getD J 0) := ⟨hx, hy⟩
      clear hx hy
      generalize hwk : w.drewN k = wk at *
      have cx'' : wk.cell? ⟨ga, J, none⟩ = some (.int .i64 x) := by rw [← hwk]; exact cx
      have cy'' : wk.cell? ⟨gb, J, none⟩ = some (.int .i64 y) := by rw [← hwk]; exact cy
      have HWK : Hid (w.drewN k = wk) := hwk
      clear hwk cx cy cx' cy'
      by_cases hq : x = y
      · subst hq
        go_wp2_with fail
        go_quiet (fail)
        go_wp2
        go_roundw
        case rel => exact ⟨J, _, by omega, rfl, drop_same A B (by omega) J (by omega) HE.out (HX.out.1.symm.trans HX.out.2), by rw [← HWK.out]; exact drewN_two _ _ _⟩
        case measure => simp [intOf]
      · have hqi : ¬ (x : Int) = y := by omega
        have cx3 : ∀ n, (wk.drewN n).cell? ⟨ga, J, none⟩ = some (.int .i64 x) := fun n => cx''
        have cy3 : ∀ n, (wk.drewN n).cell? ⟨gb, J, none⟩ = some (.int .i64 y) := fun n => cy''
        by_cases hxy : x < y
        · have hxi : (x : Int) < y := by omega
          obtain rfl : R = true := by
            rw [HR.out]
            exact decide_eq_true (dN_less A B hA (by omega) J (by omega) HE.out (by rw [← HX.out.1, ← HX.out.2]; exact hxy))
          go_wp2_with fail
          go_quiet (fail)
          go_wp2_with fail
          go_quiet (fail)
          go_wp2
          go_ret
          exact ⟨rfl, _, by rw [← HWK.out]; exact drewN_three _ _ _ _⟩
        · have hxi : ¬ (x : Int) < y := by omega
          obtain rfl : R = false := by
            rw [HR.out]
            exact decide_eq_false (Nat.not_lt_of_lt (dN_less B A hB (by omega) J (by omega) HE.out.symm (by rw [← HX.out.1, ← HX.out.2]; omega)))
          go_wp2_with fail
          go_quiet (fail)
          go_wp2_with fail
          go_quiet (fail)
          go_wp2
          go_ret
          exact ⟨rfl, _, by rw [← HWK.out]; exact drewN_three _ _ _ _⟩
end Go.Proofs.YtoopaigpjefonaaGreatDoor.Bx

namespace Go.Proofs.YtoopaigpjefonaaGreatDoor.Bx
set_option maxRecDepth 20000
open Go.RowKit

/-- A block's first cells, told by a function. -/
structure CellsF (w : World) (g n : Nat) (f : Nat → Value) : Prop where
  lt : g < w.heap.size
  cells : ∀ i, i < n → w.cell? ⟨g, i, none⟩ = some (f i)
  free : ∀ i, i < n → w.frozen? ⟨g, i, none⟩ = false
theorem CellsF.below {w w' : World} {g B n : Nat} {f : Nat → Value} (h : CellsF w g n f) (hb : Below B w w') (hg : g < B) : CellsF w' g n f :=
  ⟨Nat.lt_of_lt_of_le h.lt hb.size, fun i hi => (hb.cell (p := ⟨g, i, none⟩) hg).trans (h.cells i hi), fun i hi => (hb.frozen (p := ⟨g, i, none⟩) hg).trans (h.free i hi)⟩
theorem CellsF.congr {w : World} {g n : Nat} {f f' : Nat → Value} (h : CellsF w g n f) (e : ∀ i, i < n → f i = f' i) : CellsF w g n f' := ⟨h.lt, fun i hi => by rw [h.cells i hi, e i hi], h.free⟩
theorem CellsF.drewN {w : World} {g n : Nat} {f : Nat → Value} (h : CellsF w g n f) (k : Nat) : CellsF (w.drewN k) g n f := ⟨h.lt, h.cells, h.free⟩
theorem CellsF.set {w : World} {g n : Nat} {f : Nat → Value} (h : CellsF w g n f) (i : Nat) (v : Value) (hi : i < n) : CellsF (w.setCell ⟨g, i, none⟩ v) g n (fun k => if k = i then v else f k) := by
  refine ⟨by have := h.lt; simp [World.setCell]; exact this, fun j hj => ?_, fun j hj => ?_⟩
  · by_cases e : j = i
    · subst e
      rw [if_pos rfl, World.cell?_setCell_same _ _ _ (h.cells j hj)]
    · rw [if_neg e, World.cell?_setCell_other _ _ _ _ (by intro hh; injection hh with _ h2; exact e h2.symm)]
      exact h.cells j hj
  · rw [World.frozen?_setCell]; exact h.free j hj
def cl (l : List Nat) (j k : Nat) : Nat := if k < j then clampB k (l.getD k 0) else l.getD k 0
theorem cl_step (l : List Nat) (j k : Nat) : (if k = j then Value.int .u8 ((clampB j (l.getD j 0) : Nat) : Int) else .int .u8 ((cl l j k : Nat) : Int)) = .int .u8 ((cl l (j + 1) k : Nat) : Int) := by
  unfold cl
  by_cases e : k = j
  · subst e
    rw [if_pos rfl, if_pos (by omega)]
  · rw [if_neg e]
    by_cases h : k < j
    · rw [if_pos h, if_pos (by omega)]
    · rw [if_neg h, if_neg (by omega)]
theorem cl_same (l : List Nat) (j k : Nat) (h : clampB j (l.getD j 0) = l.getD j 0) : cl l j k = cl l (j + 1) k := by
  unfold cl
  by_cases e : k = j
  · subst e
    rw [if_neg (by omega), if_pos (by omega), h]
  · by_cases h : k < j
    · rw [if_pos h, if_pos (by omega)]
    · rw [if_neg h, if_neg (by omega)]

set_option maxRecDepth 10000 in
set_option maxHeartbeats 1000000 in
theorem rclamped_any (key : ByteArray) (hk : key.size = 32) (w : World) :
    Calls Tryz.prog 201 #[.string key] w fun e w' => e = .returned (.string (strN (clampL (numsOf key)))) ∧ Below w.heap.size w w' := by
  have hxs : (key.extract 0 16).size = 16 := by simp; omega
  have hcv := fun w' => Lib.run_convert_string_bytes (P := Tryz.prog) w' 9 143 5 (key.extract 0 16) Tryz.underlying9 Tryz.underlying143 Tryz.underlying5
  have hO := bytesWorld_own w 5 (key.extract 0 16) (by rw [hxs]; decide)
  have hB := bytesWorld_below w 5 (key.extract 0 16)
  rw [numsV, numsOf_extract, hxs] at hO
  rw [hxs] at hcv
  have hkl : (numsOf key).length = 32 := by rw [numsOf_length]; exact hk
  have hkb := numsOf_bytes key
  obtain ⟨R, hR⟩ : ∃ R, R = strN (clampL (numsOf key)) := ⟨_, rfl⟩
  rw [← hR]
  have HR : Hid (R = strN (clampL (numsOf key))) := hR
  clear hR
  generalize numsOf key = l at *
  have hC : CellsF (Lib.bytesWorld w 5 (key.extract 0 16)) w.heap.size 16 (fun k => .int .u8 ((cl l 0 k : Nat) : Int)) := by
    refine ⟨hO.lt, fun i hi => ?_, fun i hi => hO.free i (by have := hO.room; omega)⟩
    refine hO.cells i _ ?_
    rw [byV_get _ _ (by simp; omega)]
    congr 3
    rw [getD_at _ _ (by simp; omega)]
    unfold cl
    rw [if_neg (by omega), getD_at _ _ (by omega)]
    simp
  have HC : Hid (CellsF (Lib.bytesWorld w 5 (key.extract 0 16)) w.heap.size 16 (fun k => .int .u8 ((cl l 0 k : Nat) : Int)) ∧ Below w.heap.size w (Lib.bytesWorld w 5 (key.extract 0 16))) := ⟨hC, hB⟩
  clear hC hB hO
  go_enter Tryz.func201, Tryz.ntmps201
  go_wp2_with fail
  go_loopw [4] (fun i wr => ∃ j : Nat, j ≤ 16 ∧ i = .int .i64 j ∧ CellsF wr w.heap.size 16 (fun k => .int .u8 ((cl l j k : Nat) : Int)) ∧ Below w.heap.size w wr) (fun i _ => 16 - (intOf i).toNat)
  case atStart => exact ⟨0, Nat.zero_le _, rfl, HC.out⟩
  case round =>
    clear HC hcv
    obtain ⟨j, hj, rfl, hC, hb⟩ := hrel
    by_cases hlt : j < 16
    · have cx : wr.cell? ⟨w.heap.size, j, none⟩ = some (.int .u8 (l.getD j 0 : Nat)) := by
        rw [hC.cells j hlt]
        unfold cl
        rw [if_neg (by omega)]
      have fx := hC.free j hlt
      have lx : l.getD j 0 < 256 := getD_lt (by decide) hkb j
      have j16 : (j : Int) < 16 := by omega
      have HS : Hid (∀ v, v = clampB j (l.getD j 0) → ∀ n, CellsF ((wr.setCell ⟨w.heap.size, j, none⟩ (.int .u8 (v : Nat))).drewN n) w.heap.size 16 (fun k => .int .u8 ((cl l (j + 1) k : Nat) : Int)) ∧ Below w.heap.size w ((wr.setCell ⟨w.heap.size, j, none⟩ (.int .u8 (v : Nat))).drewN n)) := fun v hv n => by
        subst hv
        exact ⟨((hC.set j _ hlt).congr fun k _ => cl_step l j k).drewN n, below_drewN (hb.setCell (p := ⟨w.heap.size, j, none⟩) (Nat.le_refl _) _) n⟩
      by_cases h3 : j % 4 = 3
      · have HF0 := HS.out (l.getD j 0 % 16) (by unfold clampB; rw [if_pos h3]) 0
        have HF : Hid _ := HF0
        have h3i : (j : Int) % 4 = 3 := by omega
        clear hC hb HS HF0
        generalize l.getD j 0 = x at *
        have v1 : ((x % 16 : Nat) : Int) = (x : Int) % 16 := by omega
        rw [v1] at HF
        clear v1
        go_wp2
        go_roundw
        case rel => exact ⟨j + 1, by omega, by go_num, HF.out.1, HF.out.2⟩
        case measure => simp [intOf]; omega
      · by_cases h0 : j % 4 = 0 ∧ 0 < j
        · have HF0 := HS.out (l.getD j 0 - l.getD j 0 % 4) (by unfold clampB; rw [if_neg h3, if_pos h0])
          have HF : Hid _ := HF0
          have h3i : (j : Int) % 4 = 0 := by omega
          have h0i : (0 : Int) < j := by omega
          have h0n : 0 < j := h0.2
          clear hC hb HS HF0
          generalize l.getD j 0 = x at *
          have v1 : IntKind.u8.wrap ((x : Int) - (x : Int) % 4) = ((x - x % 4 : Nat) : Int) := by rw [IntKind.wrap_u8]; omega
          go_wp2_with fail
          go_region
          all_goals
            go_wp2
            go_roundw
            case rel => exact ⟨j + 1, by omega, by go_num, (HF.out 1).1, (HF.out 1).2⟩
            case measure => simp [intOf]; omega
        · have HF : Hid (CellsF wr w.heap.size 16 (fun k => .int .u8 ((cl l (j + 1) k : Nat) : Int)) ∧ Below w.heap.size w wr) := ⟨hC.congr fun k _ => by rw [cl_same l j k (by unfold clampB; rw [if_neg h3, if_neg h0])], hb⟩
          have h3i : ¬ (j : Int) % 4 = 3 := by omega
          clear hC hb HS cx fx lx
          by_cases hz : j = 0
          · subst hz
            go_wp2
            go_roundw
            case rel => exact ⟨1, by omega, rfl, HF.out⟩
            case measure => simp [intOf]
          · have h4i : ¬ (j : Int) % 4 = 0 := by omega
            clear h0
            go_wp2
            go_roundw
            case rel => exact ⟨j + 1, by omega, by go_num, HF.out⟩
            case measure => simp [intOf]; omega
    · obtain rfl : j = 16 := by omega
      have hcv := run_convert_bytes_arg (P := Tryz.prog) wr 143 5 Tryz.underlying143 Tryz.underlying5 w.heap.size 0 16 (grownCap w 16 0 5) ((clampL l).map fun (x : Nat) => (x : Int)) (by simp [clampL]) (fun i hi => by
        rw [Nat.zero_add, hC.cells i hi]
        unfold cl
        rw [if_pos hi]
        simp [clampL, List.getD, hi]) 9 Tryz.underlying9
      rw [show strOfNums ((clampL l).map fun (x : Nat) => (x : Int)) = strN (clampL l) from rfl, ← HR.out] at hcv
      have HF : Hid (Below w.heap.size w wr) := hb
      clear hC hb
      go_wp2
      go_ret
      exact ⟨rfl, HF.out⟩
end Go.Proofs.YtoopaigpjefonaaGreatDoor.Bx

namespace Go.Proofs.YtoopaigpjefonaaGreatDoor.Bx
set_option maxRecDepth 20000

/-- The number of n digits, told by a function. -/
def sumF (f : Nat → Nat) : Nat → Nat
  | 0 => 0
  | n + 1 => sumF f n + f n * 1024 ^ n
theorem sumF_congr {f g : Nat → Nat} : ∀ n, (∀ i, i < n → f i = g i) → sumF f n = sumF g n
  | 0, _ => rfl
  | n + 1, h => by rw [sumF, sumF, sumF_congr n fun i hi => h i (by omega), h n (by omega)]
theorem sumF_add (f g : Nat → Nat) (m : Nat) : ∀ n, sumF (fun k => f k + m * g k) n = sumF f n + m * sumF g n
  | 0 => by simp [sumF]
  | n + 1 => by
    rw [sumF, sumF, sumF, sumF_add f g m n, Nat.add_mul, Nat.mul_add, Nat.mul_assoc]
    omega
theorem sumF_split (f : Nat → Nat) (n : Nat) : ∀ m, sumF f (n + m) = sumF f n + 1024 ^ n * sumF (fun k => f (n + k)) m
  | 0 => by simp [sumF]
  | m + 1 => by
    rw [← Nat.add_assoc, sumF, sumF, sumF_split f n m, Nat.mul_add, Nat.pow_add, Nat.mul_left_comm (1024 ^ n)]
    omega
/-- What is carried into a digit. -/
def carryC (f : Nat → Nat) : Nat → Nat
  | 0 => 0
  | i + 1 => (carryC f i + f i) / 1024
theorem carryC_eq (f : Nat → Nat) : ∀ i, carryC f i = sumF f i / 1024 ^ i
  | 0 => by simp [carryC, sumF]
  | i + 1 => by
    rw [carryC, carryC_eq f i, sumF, Nat.pow_succ, ← Nat.div_div_eq_div_mul, Nat.add_mul_div_right _ _ (Nat.pow_pos (by decide))]
theorem carryD_eq (f : Nat → Nat) (i m : Nat) : (carryC f i + f i) % 1024 = sumF f (i + 1 + m) / 1024 ^ i % 1024 := by
  rw [sumF_split f (i + 1) m, sumF, carryC_eq, Nat.pow_succ, Nat.mul_assoc, Nat.mul_comm (1024 ^ i) (1024 * _), Nat.add_mul_div_right _ _ (Nat.pow_pos (by decide)), Nat.add_mul_div_right _ _ (Nat.pow_pos (by decide)), Nat.add_mul_mod_self_left]
/-- Thirteen digits and what stands above them, added five times, as far as the first n are added. -/
def foldF (t : List Nat) (n k : Nat) : Nat := (if k < n then t.getD k 0 else 0) + 5 * (if k + 13 < n then t.getD (k + 13) 0 else 0)
theorem foldF_all (t : List Nat) (k : Nat) : foldF t t.length k = t.getD k 0 + 5 * t.getD (k + 13) 0 := by
  unfold foldF
  have h : ∀ i, (if i < t.length then t.getD i 0 else 0) = t.getD i 0 := fun i => by
    by_cases hi : i < t.length
    · rw [if_pos hi]
    · rw [if_neg hi, getD_beyond _ _ (by omega)]
  rw [h, h]
/-- The number of at most 26 digits; what one turn makes of it. -/
def bigN (t : List Nat) : Nat := sumF (fun k => t.getD k 0) 13 + 1024 ^ 13 * sumF (fun k => t.getD (k + 13) 0) 13
def turnN (t : List Nat) : Nat := sumF (fun k => t.getD k 0) 13 + 5 * sumF (fun k => t.getD (k + 13) 0) 13
theorem turn_sum (t : List Nat) : sumF (foldF t t.length) 13 = turnN t := by
  rw [sumF_congr 13 fun i _ => foldF_all t i, sumF_add (fun k => t.getD k 0) (fun k => t.getD (k + 13) 0) 5 13, turnN]
theorem turn_mod (t : List Nat) : turnN t % polyP = bigN t % polyP := by
  refine mod_of_add (bigN t) (turnN t) (sumF (fun k => t.getD (k + 13) 0) 13) ?_
  unfold turnN bigN polyP
  omega
/-- The digits behind a turn. -/
def turnL (V : Nat) : List Nat := digL V 13 ++ [V / 1024 ^ 13 % 1024, V / 1024 ^ 13 / 1024 % 1024, V / 1024 ^ 13 / 1048576]
theorem turnL_length (V : Nat) : (turnL V).length = 16 := by simp [turnL, digL_length]
theorem digL_at (V n i : Nat) (h : i < n) : (digL V n).getD i 0 = V / 1024 ^ i % 1024 := by
  rw [List.getD_eq_getElem?_getD, digL, List.getElem?_map, List.getElem?_range h, show 1024 ^ i = 2 ^ (10 * i) by rw [Nat.pow_mul]]
  rfl
theorem sumF_digits (V : Nat) : ∀ n, sumF (fun k => V / 1024 ^ k % 1024) n = V % 1024 ^ n
  | 0 => by simp [sumF, Nat.mod_one]
  | n + 1 => by
    rw [sumF, sumF_digits V n, Nat.pow_succ, Nat.mod_mul, Nat.mul_comm (1024 ^ n)]
theorem turnL_low (V k : Nat) (h : k < 13) : (turnL V).getD k 0 = V / 1024 ^ k % 1024 := by
  rw [turnL, getD_left _ _ _ _ (by rw [digL_length]; exact h), digL_at V 13 k h]
theorem turnL_high (V k : Nat) : (turnL V).getD (k + 13) 0 = [V / 1024 ^ 13 % 1024, V / 1024 ^ 13 / 1024 % 1024, V / 1024 ^ 13 / 1048576].getD k 0 := by
  rw [turnL, getD_right _ _ _ _ (by rw [digL_length]; omega), digL_length, show k + 13 - 13 = k by omega]
theorem turnL_turn (V : Nat) : turnN (turnL V) = V % 1024 ^ 13 + 5 * (V / 1024 ^ 13) := by
  rw [turnN, sumF_congr 13 fun i hi => turnL_low V i hi, sumF_digits, sumF_congr 13 fun i _ => turnL_high V i]
  generalize V / 1024 ^ 13 = c
  have e : sumF (fun k => [c % 1024, c / 1024 % 1024, c / 1048576].getD k 0) 13 = c := by
    simp [sumF]
    omega
  rw [e]
theorem turnL_big (V : Nat) : bigN (turnL V) = V := by
  rw [bigN, sumF_congr 13 fun i hi => turnL_low V i hi, sumF_digits, sumF_congr 13 fun i _ => turnL_high V i]
  have e : ∀ c : Nat, sumF (fun k => [c % 1024, c / 1024 % 1024, c / 1048576].getD k 0) 13 = c := fun c => by
    simp [sumF]
    omega
  rw [e, Nat.mod_add_div]
/-- What the turns make of a number. -/
def turnsN (V : Nat) : Nat → Nat
  | 0 => V
  | k + 1 => turnsN V k % 1024 ^ 13 + 5 * (turnsN V k / 1024 ^ 13)
theorem turnsN_mod (V : Nat) : ∀ k, turnsN V k % polyP = V % polyP
  | 0 => rfl
  | k + 1 => by
    rw [← turnsN_mod V k, turnsN]
    refine mod_of_add (turnsN V k) _ (turnsN V k / 1024 ^ 13) ?_
    generalize turnsN V k = x
    unfold polyP
    omega
theorem turnsN_small (V : Nat) (h : V < 1024 ^ 13 * 1073741824) : ∀ k, turnsN V (k + 2) < 1024 ^ 13
  | 0 => by
    show (V % 1024 ^ 13 + 5 * (V / 1024 ^ 13)) % 1024 ^ 13 + 5 * ((V % 1024 ^ 13 + 5 * (V / 1024 ^ 13)) / 1024 ^ 13) < 1024 ^ 13
    omega
  | k + 1 => by
    have := turnsN_small V h k
    rw [show k + 1 + 2 = (k + 2) + 1 from rfl, turnsN]
    generalize turnsN V (k + 2) = x at *
    omega
end Go.Proofs.YtoopaigpjefonaaGreatDoor.Bx

namespace Go.Proofs.YtoopaigpjefonaaGreatDoor.Bx
set_option maxRecDepth 20000

def Small (l : List Nat) : Prop := ∀ x ∈ l, x < 1073741824
theorem small_getD {l : List Nat} (h : Small l) (i : Nat) : l.getD i 0 < 1073741824 := getD_lt (by decide) h i
/-- The digits ahead of turn k. -/
def stL (T : List Nat) : Nat → List Nat
  | 0 => T
  | k + 1 => turnL (turnsN (turnN T) k)
theorem stL_turn (T : List Nat) : ∀ k, turnN (stL T k) = turnsN (turnN T) k
  | 0 => rfl
  | k + 1 => by rw [stL, turnL_turn]; rfl
theorem stL_next (T : List Nat) (k : Nat) : turnL (turnN (stL T k)) = stL T (k + 1) := by rw [stL_turn]; rfl
set_option maxRecDepth 100000 in
theorem sum_aux (C s t p : Nat) (h : s * 1023 ≤ C * (p - 1)) (ht : t ≤ C * p) (hp : 0 < p) : (s + t) * 1023 ≤ C * (p * 1024 - 1) := by
  rw [Nat.mul_sub, Nat.mul_one] at h
  rw [Nat.mul_sub, Nat.mul_one, ← Nat.mul_assoc]
  have ha : C ≤ C * p := Nat.le_mul_of_pos_right C hp
  generalize C * p = a at *
  omega
theorem sumF_lt (f : Nat → Nat) (h : ∀ i, f i < 1073741824) : ∀ n, sumF f n * 1023 ≤ 1073741823 * (1024 ^ n - 1)
  | 0 => by simp [sumF]
  | n + 1 => by
    rw [sumF, Nat.pow_succ]
    exact sum_aux _ _ _ _ (sumF_lt f h n) (Nat.mul_le_mul_right _ (by have := h n; omega)) (Nat.pow_pos (by decide))
theorem turnN_lt {T : List Nat} (h : Small T) : turnN T < 1024 ^ 13 * 1073741824 := by
  have h1 := sumF_lt (fun k => T.getD k 0) (fun i => small_getD h i) 13
  have h2 := sumF_lt (fun k => T.getD (k + 13) 0) (fun i => small_getD h (i + 13)) 13
  unfold turnN
  generalize sumF (fun k => T.getD k 0) 13 = a at *
  generalize sumF (fun k => T.getD (k + 13) 0) 13 = b at *
  omega
theorem turnsN_le (V : Nat) (h : V < 1024 ^ 13 * 1073741824) : ∀ k, turnsN V k < 1024 ^ 13 * 1073741824
  | 0 => h
  | k + 1 => by
    have := turnsN_le V h k
    rw [turnsN]
    generalize turnsN V k = x at *
    omega
theorem stL_small {T : List Nat} (h : Small T) : ∀ k, Small (stL T k)
  | 0 => h
  | k + 1 => by
    have hv := turnsN_le (turnN T) (turnN_lt h) k
    rw [stL]
    generalize turnsN (turnN T) k = V at *
    intro x hx
    rw [turnL] at hx
    rcases List.mem_append.1 hx with hx | hx
    · have := digL_digs V 13 x hx
      omega
    · simp only [List.mem_cons, List.not_mem_nil, or_false] at hx
      rcases hx with rfl | rfl | rfl
      · omega
      · omega
      · omega
theorem stL_length {T : List Nat} (h : T.length ≤ 26) : ∀ k, (stL T k).length ≤ 26
  | 0 => h
  | k + 1 => by rw [stL, turnL_length]; decide
theorem foldF_low (L : List Nat) (i k : Nat) (hi : i < 13) : foldF L (i + 1) k = if k = i then L.getD i 0 else foldF L i k := by
  unfold foldF
  by_cases e : k = i
  · subst e
    rw [if_pos (by omega), if_neg (by omega), if_pos rfl]
    omega
  · rw [if_neg e]
    by_cases h : k < i
    · rw [if_pos h, if_pos (by omega), if_neg (by omega), if_neg (by omega)]
    · rw [if_neg h, if_neg (by omega), if_neg (by omega), if_neg (by omega)]
theorem foldF_zero (L : List Nat) (i : Nat) : foldF L i i = 0 := by
  unfold foldF
  rw [if_neg (by omega), if_neg (by omega)]
theorem foldF_high (L : List Nat) (i k : Nat) (hi : 13 ≤ i) (hk : k < 13) : foldF L (i + 1) k = if k = i - 13 then foldF L i (i - 13) + 5 * L.getD i 0 else foldF L i k := by
  unfold foldF
  by_cases e : k = i - 13
  · subst e
    rw [if_pos (by omega), if_pos (by omega), if_pos rfl, if_pos (by omega), if_neg (by omega), show i - 13 + 13 = i by omega]
    omega
  · rw [if_neg e]
    by_cases h : k + 13 < i
    · have a1 : k < i + 1 := by omega
      have a2 : k + 13 < i + 1 := by omega
      have a3 : k < i := by omega
      rw [if_pos a1, if_pos a2, if_pos a3, if_pos h]
    · have a1 : k < i + 1 := by omega
      have a2 : ¬ k + 13 < i + 1 := by omega
      have a3 : k < i := by omega
      rw [if_pos a1, if_neg a2, if_pos a3, if_neg h]
theorem foldF_lt {L : List Nat} (h : Small L) (n k : Nat) : foldF L n k < 6442450944 := by
  have h1 := small_getD h k
  have h2 := small_getD h (k + 13)
  unfold foldF
  split <;> split <;> omega
theorem foldF_init (L : List Nat) (k : Nat) : foldF L 0 k = 0 := by
  unfold foldF
  rw [if_neg (by omega), if_neg (by omega)]
theorem carryC_lt {f : Nat → Nat} (h : ∀ i, f i < 6442450944) : ∀ i, carryC f i < 6442450944
  | 0 => by simp [carryC]
  | i + 1 => by
    have := carryC_lt h i
    have := h i
    rw [carryC]
    omega
/-- The digits behind the carrying, as far as the first i. -/
def carryD (f : Nat → Nat) (i k : Nat) : Nat := if k < i then (carryC f k + f k) % 1024 else f k
theorem carryD_step (f : Nat → Nat) (i k : Nat) : carryD f (i + 1) k = if k = i then (carryC f i + f i) % 1024 else carryD f i k := by
  unfold carryD
  by_cases e : k = i
  · subst e; rw [if_pos (by omega), if_pos rfl]
  · rw [if_neg e]
    by_cases h : k < i
    · rw [if_pos h, if_pos (by omega)]
    · rw [if_neg h, if_neg (by omega)]
theorem carryD_all (L : List Nat) (k : Nat) (hk : k < 13) : carryD (foldF L L.length) 13 k = (digL (turnN L) 13).getD k 0 := by
  unfold carryD
  rw [if_pos hk, digL_at _ _ _ hk, ← turn_sum, carryD_eq (foldF L L.length) k (12 - k), show k + 1 + (12 - k) = 13 by omega]
theorem carry_last (L : List Nat) : carryC (foldF L L.length) 13 = turnN L / 1024 ^ 13 := by rw [carryC_eq, turn_sum]
/-- The number behind eight turns. -/
theorem eight (T : List Nat) (h : Small T) : ∃ X, stL T 8 = turnL X ∧ X < 1024 ^ 13 ∧ X % polyP = bigN T % polyP := by
  refine ⟨turnsN (turnN T) 7, rfl, turnsN_small (turnN T) (turnN_lt h) 5, ?_⟩
  rw [turnsN_mod, turn_mod]
theorem turnL_take (X : Nat) : (turnL X).take 13 = digL X 13 := by rw [turnL, List.take_left' (digL_length X 13)]
theorem over (X : Nat) (h1 : polyP ≤ X) (h2 : X < 1024 ^ 13) : ∃ y, X % polyP = y ∧ ∀ i, i < 13 → (digL X 13).getD i 0 = primeL.getD i 0 + (digL y 13).getD i 0 := by
  obtain ⟨y, rfl⟩ : ∃ y, X = polyP + y := ⟨X - polyP, by omega⟩
  have hy : y < 5 := by unfold polyP at h2; omega
  refine ⟨y, by rw [Nat.add_mod_left, Nat.mod_eq_of_lt (by unfold polyP; omega)], ?_⟩
  have key : ∀ y : Fin 5, ∀ i : Fin 13, (digL (polyP + y.val) 13).getD i.val 0 = primeL.getD i.val 0 + (digL y.val 13).getD i.val 0 := by decide
  exact fun i hi => key ⟨y, hy⟩ ⟨i, hi⟩
end Go.Proofs.YtoopaigpjefonaaGreatDoor.Bx
