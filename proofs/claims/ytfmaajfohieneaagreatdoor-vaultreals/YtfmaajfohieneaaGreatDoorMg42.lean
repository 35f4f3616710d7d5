/- Lists of ints as cells; a new slice; draws. · The document's even, long and prime. · The document's digits: a number of bytes as digits of ten bits. -/
import Derived.Test.YtfmaajfohieneaaGreatDoorMg24
import Derived.Test.YtfmaajfohieneaaGreatDoorMg25
import Derived.Test.YtfmaajfohieneaaGreatDoorMg29
namespace Go.Proofs.YtfmaajfohieneaaGreatDoor.Bx
set_option maxRecDepth 20000
open Go.RowKit

theorem info_int : (Tryz.prog.info? 3).map (fun i => (i.zero, i.size, i.bytes)) = some (some (.int .i64 0), 1, 8) := by kernel_rfl
def intV (l : List Nat) : List Value := l.map fun (x : Nat) => Value.int .i64 (x : Int)
theorem intV_one (l : List Nat) : ∀ u ∈ intV l, u.oneCell' = true := fun u hu => by
  obtain ⟨x, _, rfl⟩ := List.mem_map.1 hu
  rfl
theorem intV_at (l : List Nat) (i : Nat) (h : i < l.length) : (intV l)[i]? = some (.int .i64 (l.getD i 0 : Nat)) := by
  rw [intV, List.getElem?_map, List.getElem?_eq_getElem h, getD_at _ _ h]; rfl
theorem OwnC.fresh (w : World) (t : TypeId) (vs : List Value) (n : Nat) (hl : vs.length = n) (hm : n ≤ maxLen) : OwnC (w.alloc (.cells vs.toArray t)) w.heap.size w.heap.size n n vs := by
  have hr : Row (w.alloc (.cells vs.toArray t)) w.heap.size t vs := heap_alloc_new w _
  refine ⟨hl, Nat.le_refl _, by simp, Nat.le_refl _, hm, fun i hi => ?_, fun i hi => hr.frozen i, fun i u hu => (hr.cell i).trans hu⟩
  rw [hr.cell, List.getElem?_eq_getElem (by omega)]; rfl
theorem below_drewN {B : Nat} {w w' : World} (h : Below B w w') (n : Nat) : Below B w (w'.drewN n) := h.trans ⟨rfl, rfl, rfl, Nat.le_refl _, fun _ _ => rfl⟩
theorem OwnC.drewN {w : World} {base g n cap : Nat} {xs : List Value} (h : OwnC w base g n cap xs) (k : Nat) : OwnC (w.drewN k) base g n cap xs := h.kept rfl (Nat.le_refl _)
theorem strN_nums (s : ByteArray) : strN (numsOf s) = s := by
  unfold strN strOfNums numsOf
  rw [List.map_map, List.map_map]
  have : ((fun (n : Int) => UInt8.ofNat n.toNat) ∘ (fun (x : Nat) => (x : Int))) ∘ (fun (x : UInt8) => x.toNat) = id := by
    funext x
    simp
  rw [this, List.map_id]
theorem strN_app (a b : List Nat) : strN a ++ strN b = strN (a ++ b) := by
  unfold strN strOfNums
  apply ByteArray.ext
  simp
theorem numsAt (s : ByteArray) (i : Nat) (h : i < s.size) : (numsOf s).getD i 0 = s[i].toNat := by
  rw [getD_at _ _ (by rw [numsOf_length]; exact h)]
  simp [numsOf]
  rfl
end Go.Proofs.YtfmaajfohieneaaGreatDoor.Bx

namespace Go.Proofs.YtfmaajfohieneaaGreatDoor.Bx
set_option maxRecDepth 20000
open Go.RowKit

set_option maxRecDepth 100000 in
set_option maxHeartbeats 1000000 in
theorem reven_any (s : ByteArray) (hs : s.size ≤ 1048576) (w : World) :
    Calls Tryz.prog 58 #[.string s] w fun e w' => e = .returned (.string (strN (fill16 (numsOf s)))) ∧ w' = w := by
  have HL : Hid (fill16 (numsOf s) = numsOf s ++ List.replicate ((16 - s.size % 16) % 16) 0) := by show _ = _; rw [fill16, numsOf_length]
  have HS : Hid (s = strN (numsOf s ++ List.replicate 0 0)) := by show _ = _; rw [List.replicate_zero, List.append_nil, strN_nums]
  have HZ : Hid (∀ j, (strN (numsOf s ++ List.replicate j 0)).size = s.size + j ∧ strN (numsOf s ++ List.replicate j 0) ++ ⟨#[0]⟩ = strN (numsOf s ++ List.replicate (j + 1) 0)) := fun j => ⟨by rw [strN_size]; simp [numsOf_length], by rw [List.replicate_succ', ← List.append_assoc]; exact strN_app _ [0]⟩
  obtain ⟨R, hR⟩ : ∃ R, R = strN (fill16 (numsOf s)) := ⟨_, rfl⟩
  rw [← hR]
  have HR : Hid (R = strN (fill16 (numsOf s))) := hR
  clear hR
  go_enter Tryz.func58, Tryz.ntmps58
  go_wp2_with fail
  go_loopw [0] (fun v wr => ∃ j : Nat, j ≤ (16 - s.size % 16) % 16 ∧ v = .string (strN (numsOf s ++ List.replicate j 0)) ∧ wr = w) (fun v _ => 1048600 - strSize v)
  case atStart => exact ⟨0, Nat.zero_le _, congrArg Value.string HS.out, rfl⟩
  case round =>
    clear HS
    obtain ⟨j, hj, rfl, rfl⟩ := hrel
    obtain ⟨hz, ha⟩ := HZ.out j
    by_cases hlt : j < (16 - s.size % 16) % 16
    · obtain ⟨hz1, _⟩ := HZ.out (j + 1)
      have HM : Hid ((strN (numsOf s ++ List.replicate (j + 1) 0)).size = s.size + (j + 1)) := hz1
      have HM0 : Hid ((strN (numsOf s ++ List.replicate j 0)).size = s.size + j) := hz
      obtain ⟨B, hB⟩ : ∃ B, B = strN (numsOf s ++ List.replicate (j + 1) 0) := ⟨_, rfl⟩
      rw [← hB] at ha
      have HB : Hid (B = strN (numsOf s ++ List.replicate (j + 1) 0)) := hB
      clear hB hz1 HZ HL
      generalize strN (numsOf s ++ List.replicate j 0) = A at *
      have hadd : ∀ w', (Op.stringOp .add A ⟨#[0]⟩).run Tryz.prog w' = .ok (.string B) w' := fun w' => by rw [← ha]; exact run_string_add_sum (P := Tryz.prog) (w := w') A ⟨#[0]⟩ (by rw [hz]; show _ + 1 ≤ _; omega)
      have c1 : ¬ (A.size : Int) % 16 = 0 := by omega
      have c2 : ¬ A.size % 16 = 0 := by omega
      clear hz ha
      go_wp2
      go_roundw
      case rel => exact ⟨j + 1, by omega, by rw [HB.out], trivial⟩
      case measure =>
        have h1 := HM.out
        rw [← HB.out] at h1
        have h2 := HM0.out
        simp [strSize]
        omega
    · obtain rfl : j = (16 - s.size % 16) % 16 := by omega
      rw [← HL.out, ← HR.out] at hz ⊢
      have c1 : (R.size : Int) % 16 = 0 := by omega
      have c2 : R.size % 16 = 0 := by omega
      clear hz ha HZ HL hj hlt HR
      go_wp2
      go_ret
      exact ⟨rfl, rfl⟩

theorem leB_snoc (k n : Nat) : byV (leB (k + 1) n) = byV (leB k n) ++ [.int .u8 ((n / 2 ^ (8 * k) % 256 : Nat) : Int)] := by
  rw [leB, List.range_succ, List.map_append, byV_append]
  rfl
set_option maxRecDepth 100000 in
set_option maxHeartbeats 1000000 in
theorem rlong_any (n : Nat) (hn : n < 9223372036854775808) (w : World) :
    Calls Tryz.prog 59 #[.int .i64 n] w fun e w' => e = .returned (.string (strN (leB 8 n))) ∧ Below w.heap.size w w' := by
  obtain ⟨i1, hj, hy0, hy1, hy2⟩ := info_parts info_u8
  obtain ⟨X, hX⟩ : ∃ X, X = strN (leB 8 n) := ⟨_, rfl⟩
  rw [← hX]
  have HX : Hid (X = strN (leB 8 n)) := hX
  clear hX
  go_enter Tryz.func59, Tryz.ntmps59
  go_wp2_with fail
  go_loopw [0, 3, 4] (fun m v i wz => ∃ j : Nat, j ≤ 8 ∧ i = .int .i64 j ∧ m = .int .i64 (n / 2 ^ (8 * j) : Nat) ∧ wz.ownsRow w.heap.size 5 1 v j (byV (leB j n)) ∧ Below w.heap.size w wz) (fun _ _ i _ => 8 - (intOf i).toNat)
  case atStart => exact ⟨0, Nat.zero_le _, rfl, by simp, World.ownsRow_nil _ _ _ _, Below.refl _ _⟩
  case round =>
    obtain ⟨j, hj8, rfl, rfl, hown, hb⟩ := hrel
    by_cases hlt : j < 8
    · have HN : Hid (n / 2 ^ (8 * (j + 1)) = n / 2 ^ (8 * j) / 256) := by
        show _ = _
        rw [Nat.div_div_eq_div_mul, show 8 * (j + 1) = 8 * j + 8 by omega, Nat.pow_add]
      have HB : Hid (byV (leB (j + 1) n) = byV (leB j n) ++ [.int .u8 ((n / 2 ^ (8 * j) % 256 : Nat) : Int)]) := leB_snoc j n
      have hm : n / 2 ^ (8 * j) ≤ n := Nat.div_le_self _ _
      generalize n / 2 ^ (8 * j) = m at *
      have hw' : wrap64 ((m : Int) / 256) = ((m / 256 : Nat) : Int) := by
        unfold wrap64
        omega
      have HW : Hid (wrap64 ((m : Int) / 256) = ((m / 256 : Nat) : Int)) := hw'
      clear hw'
      obtain ⟨y, hy⟩ : ∃ y, y = m % 256 := ⟨_, rfl⟩
      have f0 : IntKind.u8.wrap ((m : Int) % 256) = (y : Int) := by rw [IntKind.wrap_u8, hy]; omega
      rw [← hy] at HB
      clear hy hm
      have HNE : Hid (∀ g', u3.ownBlock = some g' → w.heap.size ≤ g') := fun g' hg' => (hown.lt g' hg').1
      go_wp2_with (at_builtin; refine wpList_append_lies _ rfl _ _ 71 rfl w.heap.size 5 i1 (.int .u8 0) 1 1 Tryz.underlying71 hj hy0 hy1 hy2 rfl (by decide) u3 j (byV (leB j n)) rfl (hown.alloc _) ⟨wr.heap.size, 0, none⟩ 1 1 [.int .u8 (y : Nat)] rfl rfl (World.news_of_block (heap_alloc_new _ _)) ?c2 (by decide) ?c3 ?c4 ?c5 _ rfl ?_)
      case c2 => intro u hu; rw [List.mem_singleton] at hu; rw [hu]; rfl
      case c3 => unfold maxLen; omega
      case c4 => omega
      case c5 => have := hb.size; simp; omega
      intro g1 cap1 w1 hown1 hgrow1 hat1 hlt1
      have hb2 := (hb.alloc hb.size _).grown hgrow1 (by have := hb.size; simp; omega) (fun g hg => HNE.out g hg)
      have hown2 := HB.out ▸ hown1
      have HF : Hid (_ ∧ _) := ⟨hown2, hb2⟩
      clear hown1 hown2 hgrow1 hat1 hlt1 hb2 hown hb f0 HNE
      go_wp2
      go_roundw
      case rel => exact ⟨j + 1, by omega, by go_num, by rw [HN.out, HW.out], HF.out.1, HF.out.2⟩
      case measure => simp [intOf]; omega
    · obtain rfl : j = 8 := by omega
      obtain ⟨g, cap, rfl, _, _⟩ := hown.form (by decide)
      have hcv := run_convert_bytes_arg (P := Tryz.prog) wr 71 5 Tryz.underlying71 Tryz.underlying5 g 0 8 cap ((leB 8 n).map fun (x : Nat) => (x : Int)) (by simp [leB_length]) (fun i hi => by
        rw [Nat.zero_add, hown.cellAt i (by omega), byV_get _ _ (by rw [leB_length]; exact hi), getD_at _ _ (by rw [leB_length]; exact hi)]
        simp [List.getD, leB_length, hi]) 9 Tryz.underlying9
      rw [show strOfNums ((leB 8 n).map fun (x : Nat) => (x : Int)) = strN (leB 8 n) from rfl, ← HX.out] at hcv
      have HF : Hid (Below w.heap.size w wr) := hb
      clear hown hb
      generalize n / 2 ^ (8 * 8) = m at *
      go_wp2
      go_ret
      exact ⟨rfl, HF.out⟩
end Go.Proofs.YtfmaajfohieneaaGreatDoor.Bx

namespace Go.Proofs.YtfmaajfohieneaaGreatDoor.Bx
set_option maxRecDepth 20000
open Go.RowKit

theorem leN_digit : ∀ (l : List Nat) (_ : Bytes l) (k : Nat), leN l / 256 ^ k % 256 = l.getD k 0
  | [], _, k => by simp [leN]
  | x :: l, h, 0 => by
    have := h x (List.mem_cons_self ..)
    show (x + 256 * leN l) / 256 ^ 0 % 256 = x
    rw [Nat.pow_zero, Nat.div_one]
    omega
  | x :: l, h, k + 1 => by
    have h1 := h x (List.mem_cons_self ..)
    have h2 := leN_digit l (fun y hy => h y (List.mem_cons_of_mem _ hy)) k
    show (x + 256 * leN l) / 256 ^ (k + 1) % 256 = l.getD k 0
    rw [show 256 ^ (k + 1) = 256 * 256 ^ k by rw [Nat.pow_succ, Nat.mul_comm], ← Nat.div_div_eq_div_mul, show (x + 256 * leN l) / 256 = leN l by omega]
    exact h2
theorem bit_of (y r : Nat) (hr : r < 8) : y / 2 ^ r % 2 = y % 256 / 2 ^ r % 2 := by
  have : r = 0 ∨ r = 1 ∨ r = 2 ∨ r = 3 ∨ r = 4 ∨ r = 5 ∨ r = 6 ∨ r = 7 := by omega
  rcases this with rfl | rfl | rfl | rfl | rfl | rfl | rfl | rfl <;> simp only [Nat.reducePow] <;> omega
theorem leN_bit (l : List Nat) (h : Bytes l) (t : Nat) : leN l / 2 ^ t % 2 = l.getD (t / 8) 0 / 2 ^ (t % 8) % 2 := by
  have e : 2 ^ t = 256 ^ (t / 8) * 2 ^ (t % 8) := by
    rw [show (256 : Nat) = 2 ^ 8 from rfl, ← Nat.pow_mul, ← Nat.pow_add]
    congr 1
    omega
  rw [e, ← Nat.div_div_eq_div_mul, bit_of _ _ (Nat.mod_lt _ (by decide)), leN_digit l h]
theorem dig_step (V t m : Nat) : 2 * (V / 2 ^ (t + 1) % 2 ^ m) + V / 2 ^ t % 2 = V / 2 ^ t % 2 ^ (m + 1) := by
  rw [Nat.pow_succ 2 t, ← Nat.div_div_eq_div_mul, Nat.pow_succ 2 m, Nat.mul_comm (2 ^ m) 2, Nat.mod_mul]
  omega
/-- A number's first digits of ten bits. -/
def digL (V n : Nat) : List Nat := (List.range n).map fun i => V / 2 ^ (10 * i) % 1024
theorem digL_length (V n : Nat) : (digL V n).length = n := by simp [digL]
theorem digL_snoc (V n : Nat) : intV (digL V (n + 1)) = intV (digL V n) ++ [.int .i64 ((V / 2 ^ (10 * n) % 1024 : Nat) : Int)] := by
  rw [digL, List.range_succ, List.map_append, intV, List.map_append]
  rfl
theorem and_one (b r : Nat) (h : b < 256) : bits .and .i64 ((b : Int) / 2 ^ r) 1 = ((b / 2 ^ r % 2 : Nat) : Int) := by
  have e2 : (b : Int) / 2 ^ r = ((b / 2 ^ r : Nat) : Int) := by rw [Int.natCast_ediv, Int.natCast_pow]; rfl
  have hd : b / 2 ^ r ≤ b := Nat.div_le_self _ _
  rw [e2, show (1 : Int) = ((1 : Nat) : Int) from rfl, i64_and_nat _ _ (by omega) (by decide), Nat.and_one_is_mod]

set_option maxRecDepth 10000 in
set_option maxHeartbeats 2000000 in
theorem rdigits_any (b : ByteArray) (hs : b.size ≤ 1048576) (n : Nat) (h0 : 0 < n) (hn : n ≤ 1000) (w : World) :
    Calls Tryz.prog 66 #[.string b, .int .i64 n] w fun e w' => ∃ g cap, e = .returned (.slice (some ⟨g, 0, none⟩) n cap) ∧ OwnC w' w.heap.size g n cap (intV (digL (leN (numsOf b)) n)) ∧ Below w.heap.size w w' := by
  obtain ⟨i0, hi, hz0, hz1, hz2⟩ := info_parts info_int
  have HBIT : Hid (∀ t, leN (numsOf b) / 2 ^ t % 2 = (numsOf b).getD (t / 8) 0 / 2 ^ (t % 8) % 2) := fun t => leN_bit _ (numsOf_bytes b) t
  generalize leN (numsOf b) = V at *
  go_enter Tryz.func66, Tryz.ntmps66
  go_wp2_with fail
  go_loopw [5, 6] (fun v i wz => ∃ I : Nat, I ≤ n ∧ i = .int .i64 I ∧ wz.ownsRow w.heap.size 3 1 v I (intV (digL V I)) ∧ Below w.heap.size w wz) (fun _ i _ => n - (intOf i).toNat)
  case atStart => exact ⟨0, Nat.zero_le _, rfl, World.ownsRow_nil _ _ _ _, Below.refl _ _⟩
  case round =>
    obtain ⟨I, hI, rfl, hown, hb⟩ := hrel
    by_cases hlt : I < n
    · have HO : Hid (wr.ownsRow w.heap.size 3 1 u5 I (intV (digL V I)) ∧ Below w.heap.size w wr) := ⟨hown, hb⟩
      clear hown hb
      have hlti : (I : Int) < n := by omega
      generalize hwo : wr = wo at *
      clear hwo
      go_wp2_with fail
      go_loopw [7, 8] (fun d jv wz => ∃ J : Nat, J ≤ 10 ∧ jv = .int .i64 ((J : Int) - 1) ∧ d = .int .i64 ((V / 2 ^ (10 * I + J) % 2 ^ (10 - J) : Nat) : Int) ∧ wz = wo) (fun _ jv _ => (intOf jv + 1).toNat)
      case atStart => exact ⟨10, Nat.le_refl _, rfl, by simp [Nat.mod_one], rfl⟩
      case round =>
        obtain ⟨J, hJ, rfl, rfl, rfl⟩ := hrel
        cases J with
        | zero =>
          rw [show ((0 : Nat) : Int) - 1 = -1 from rfl, show 10 * I + 0 = 10 * I from rfl, show 2 ^ (10 - 0) = 1024 from rfl]
          have HD : Hid (intV (digL V (I + 1)) = intV (digL V I) ++ [.int .i64 ((V / 2 ^ (10 * I) % 1024 : Nat) : Int)]) := digL_snoc V I
          generalize V / 2 ^ (10 * I) % 1024 = d at *
          have hown := HO.out.1
          have hb := HO.out.2
          have HNE : Hid (∀ g', u5.ownBlock = some g' → w.heap.size ≤ g') := fun g' hg' => (hown.lt g' hg').1
          clear HO HBIT
          go_wp2_with (at_builtin; refine wpList_append_lies _ rfl _ _ 95 rfl w.heap.size 3 i0 (.int .i64 0) 1 8 Tryz.underlying95 hi hz0 hz1 hz2 rfl (by decide) u5 I (intV (digL V I)) rfl (hown.alloc _) ⟨_, 0, none⟩ 1 1 [.int .i64 (d : Nat)] rfl rfl (World.news_of_block (heap_alloc_new _ _)) ?c2 (by decide) ?c3 ?c4 ?c5 _ rfl ?_)
          case c2 => intro u hu; rw [List.mem_singleton] at hu; rw [hu]; rfl
          case c3 => unfold maxLen; omega
          case c4 => omega
          case c5 => have := hb.size; simp; omega
          intro g1 cap1 w1 hown1 hgrow1 hat1 hlt1
          have hb2 := (hb.alloc hb.size _).grown hgrow1 (by have := hb.size; simp; omega) (fun g hg => HNE.out g hg)
          have hown2 := HD.out ▸ hown1
          have HF : Hid (_ ∧ _) := ⟨hown2, hb2⟩
          clear hown1 hown2 hgrow1 hat1 hlt1 hb2 hown hb HNE
          go_wp2
          go_roundw
          case rel => exact ⟨I + 1, by omega, by go_num, HF.out.1, HF.out.2⟩
          case measure => simp [intOf]; omega
        | succ J =>
          rw [show (((J + 1 : Nat) : Int) - 1) = (J : Int) by omega]
          have HST := dig_step V (10 * I + J) (9 - J)
          rw [show 9 - J + 1 = 10 - J by omega] at HST
          have hdl : V / 2 ^ (10 * I + J + 1) % 2 ^ (9 - J) < 1024 := Nat.lt_of_lt_of_le (Nat.mod_lt _ (Nat.pow_pos (by decide))) (Nat.le_trans (Nat.pow_le_pow_right (by decide) (show 9 - J ≤ 10 by omega)) (by decide))
          rw [show 10 * I + (J + 1) = 10 * I + J + 1 by omega, show 10 - (J + 1) = 9 - J by omega]
          rw [HBIT.out] at HST
          have HS : Hid _ := HST
          clear HST
          generalize V / 2 ^ (10 * I + J + 1) % 2 ^ (9 - J) = d at *
          have e1 : IntKind.i64.wrap (10 * (I : Int)) = 10 * I := by rw [IntKind.wrap_i64]; omega
          obtain ⟨t, ht⟩ : ∃ t, t = 10 * I + J := ⟨_, rfl⟩
          have e2 : IntKind.i64.wrap (10 * (I : Int) + (J : Int)) = (t : Int) := by rw [IntKind.wrap_i64]; omega
          have e3 : IntKind.i64.wrap (2 * (d : Int)) = 2 * d := by rw [IntKind.wrap_i64]; omega
          obtain ⟨k, hk⟩ : ∃ k, k = t / 8 := ⟨_, rfl⟩
          obtain ⟨r, hr⟩ : ∃ r, r = t % 8 := ⟨_, rfl⟩
          have k1 : (t : Int) / 8 = (k : Int) := by omega
          have k2 : (t : Int) % 8 = (r : Int) := by omega
          rw [← ht, ← hk, ← hr] at HS
          have tl : (t : Int) < 100000 := by omega
          have rl : r < 8 := by omega
          have HT : Hid (t = 10 * I + J) := ht
          clear ht hk hr
          by_cases hkb : k < b.size
          · have k3 : (k : Int) < b.size := by omega
            have hbl := b[k].toNat_lt
            have ha := and_one b[k].toNat r hbl
            rw [numsAt b k hkb] at HS
            have hd2 : b[k].toNat / 2 ^ r % 2 < 2 := Nat.mod_lt _ (by decide)
            generalize b[k].toNat / 2 ^ r % 2 = x at *
            have e4 : IntKind.i64.wrap (2 * (d : Int) + (x : Int)) = ((2 * d + x : Nat) : Int) := by rw [IntKind.wrap_i64]; omega
            have k4 : ¬ (r : Int) < 0 := by omega
            have k5 : (0 : Int) ≤ r := by omega
            go_wp2
            go_roundw
            case rel => exact ⟨J, by omega, rfl, congrArg (Value.int .i64) (by rw [← HT.out, ← HS.out]; omega), trivial⟩
            case measure => simp [intOf]
          · have k3 : ¬ (k : Int) < b.size := by omega
            rw [getD_beyond _ _ (by rw [numsOf_length]; omega), Nat.zero_div, Nat.zero_mod] at HS
            go_wp2
            go_roundw
            case rel => exact ⟨J, by omega, rfl, congrArg (Value.int .i64) (by rw [← HT.out, ← HS.out]; omega), trivial⟩
            case measure => simp [intOf]
    · obtain rfl : I = n := by omega
      obtain ⟨g, cap, rfl, hC⟩ := OwnC.of hown h0
      have HF : Hid (OwnC wr w.heap.size g I cap (intV (digL V I)) ∧ Below w.heap.size w wr) := ⟨hC, hb⟩
      clear hC hown hb HBIT
      go_wp2
      go_ret
      exact ⟨g, cap, rfl, HF.out⟩
end Go.Proofs.YtfmaajfohieneaaGreatDoor.Bx
