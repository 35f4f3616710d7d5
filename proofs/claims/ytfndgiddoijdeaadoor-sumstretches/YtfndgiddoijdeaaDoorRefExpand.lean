/- The document's Expand. -/
import Derived.Test.YtfndgiddoijdeaaDoorExpandAll
import Derived.Test.YtfndgiddoijdeaaDoorRefMacLong
namespace Go.Proofs.YtfndgiddoijdeaaDoor
open Go.RowKit

theorem strOf_append (a b : List Nat) : strOfNums (a.map fun (x : Nat) => (x : Int)) ++ strOfNums (b.map fun (x : Nat) => (x : Int)) = strOfNums ((a ++ b).map fun (x : Nat) => (x : Int)) := by
  have h : ∀ x y : ByteArray, x.data ++ y.data = (x ++ y).data := fun x y => by simp
  apply ByteArray.ext
  rw [← h]
  simp [strOfNums]

theorem strOf_take (l : List Nat) (n : Nat) : (strOfNums (l.map fun (x : Nat) => (x : Int))).extract 0 n = strOfNums ((l.take n).map fun (x : Nat) => (x : Int)) := by
  apply ByteArray.ext
  apply Array.toList_inj.1
  rw [Lib.extract_data]
  simp [strOfNums, List.map_take]

set_option maxRecDepth 10000 in
set_option maxHeartbeats 1000000 in
theorem rExpand_in (key info : ByteArray) (n : Nat) (hn : n ≤ 8160) (hk : key.size < 1099511627776) (hi : info.size ≤ 1048576) (w : World) :
    Calls Tryd.prog 20 #[.string key, .string info, .int .i64 n] w fun e w' => e = .returned (.tuple #[.string (expS key info n), .int .i64 0]) ∧ Below w.heap.size w w' := by
  have h1 : ¬ (n : Int) < 0 := by omega
  have h2 : ¬ (8160 : Int) < n := by omega
  obtain ⟨m, hm⟩ : ∃ m, m = (n + 31) / 32 := ⟨_, rfl⟩
  have hm1 : m ≤ 255 := by omega
  have hmn : n ≤ 32 * m := by omega
  have hnm : 32 * m ≤ n + 31 := by omega
  obtain ⟨T, hT⟩ : ∃ T : Nat → List Nat, T = expT (keyP (numsOf key)) (numsOf info) := ⟨_, rfl⟩
  obtain ⟨U, hU⟩ : ∃ U : Nat → ByteArray, U = fun i => strOfNums ((T i).map fun (x : Nat) => (x : Int)) := ⟨_, rfl⟩
  obtain ⟨O, hO⟩ : ∃ O : Nat → ByteArray, O = fun j => strOfNums ((catD (fun i => T (i + 1)) j).map fun (x : Nat) => (x : Int)) := ⟨_, rfl⟩
  have hUs : ∀ i, (U i).size ≤ 32 := fun i => by rw [hU, hT]; exact tS_size _ _ i
  have hOs : ∀ j, (O j).size = 32 * j := fun j => by
    rw [hO, ← numsOf_length]
    show (numsOf (strOfNums _)).length = _
    have hb : Bytes (catD (fun i => T (i + 1)) j) := by
      induction j with
      | zero => intro x hx; simp [catD] at hx
      | succ j ih => rw [catD]; exact ih.append (by rw [hT]; exact expT_bytes _ _ _)
    rw [numsOf_str _ hb, catD_length _ (fun i => by rw [hT]; exact expT_length _ _ _)]
  have hO1 : ∀ j, O j ++ U (j + 1) = O (j + 1) := fun j => by rw [hO, hU]; exact strOf_append _ _
  have hU1 : ∀ j, j < 255 → ∀ bs : ByteArray, numsOf bs = [j + 1] → macS key (U j ++ info ++ bs) = U (j + 1) := fun j hj bs hbs => by
    rw [hU, hT, macS]
    show strOfNums _ = strOfNums _
    rw [numsOf_append, numsOf_append, show numsOf (strOfNums _) = _ from tS_nums _ _ j, hbs]
    show _ = strOfNums ((macL _ (_ ++ _ ++ [(j + 1) % 256])).map _)
    rw [Nat.mod_eq_of_lt (by omega)]
  have HX : Hid ((O m).extract 0 n = expS key info n ∧ U 0 = ByteArray.empty ∧ O 0 = ByteArray.empty) := ⟨by
    rw [hO, hT, hm]; exact strOf_take _ n, by rw [hU, hT]; rfl, by rw [hO]; rfl⟩
  have HU : Hid ((∀ j, O j ++ U (j + 1) = O (j + 1)) ∧ (∀ j, j < 255 → ∀ bs : ByteArray, numsOf bs = [j + 1] → macS key (U j ++ info ++ bs) = U (j + 1)) ∧ (∀ j, (O j).size = 32 * j)) := ⟨hO1, hU1, hOs⟩
  clear hT hU hO hO1 hU1 hOs hm
  go_enter Tryd.func20, Tryd.ntmps20
  go_wp2_with fail
  go_loopw [8, 9, 10] (fun out t i wr => ∃ j : Nat, j ≤ m ∧ i = .int .i64 ((j : Int) + 1) ∧ out = .string (O j) ∧ t = .string (U j) ∧ Below w.heap.size w wr) (fun _ _ i _ => m + 1 - (intOf i).toNat)
  case atStart => exact ⟨0, Nat.zero_le _, rfl, by rw [HX.out.2.2]; rfl, by rw [HX.out.2.1]; rfl, Below.refl _ _⟩
  case round =>
    obtain ⟨j, hj, rfl, rfl, rfl, hb⟩ := hrel
    have hsj := HU.out.2.2 j
    by_cases hlt : j < m
    · obtain ⟨Oj, hOj⟩ : ∃ Oj, Oj = O j := ⟨_, rfl⟩
      obtain ⟨Uj, hUj⟩ : ∃ Uj, Uj = U j := ⟨_, rfl⟩
      have hUjs := hUs j
      rw [← hOj] at hsj
      rw [← hUj] at hUjs
      rw [← hOj, ← hUj]
      have hjn : ((Oj.size : Nat) : Int) < n := by omega
      have HJ : Hid (Oj = O j ∧ Uj = U j ∧ Oj.size = 32 * j) := ⟨hOj, hUj, hsj⟩
      clear hOj hUj hsj
      have zi : IntKind.u8.wrap ((j : Int) + 1) = j + 1 := by rw [IntKind.wrap_u8]; omega
      have hcv := run_convert_bytes_arg (P := Tryd.prog) (wr.alloc (.cells #[.int .u8 ((j : Int) + 1)] 5)) 40 5 Tryd.underlying40 Tryd.underlying5 wr.heap.size 0 1 1 [(j : Int) + 1] rfl (fun i hi => by
        obtain rfl : i = 0 := by omega
        exact (cell_of_row _ _ _ _ _ _ (heap_alloc_new wr _))) 9 Tryd.underlying9
      obtain ⟨bs, hbs⟩ : ∃ bs, bs = strOfNums [(j : Int) + 1] := ⟨_, rfl⟩
      rw [← hbs] at hcv
      have hbn : numsOf bs = [j + 1] := by rw [hbs]; exact numsOf_str [j + 1] (fun x hx => by rw [List.mem_singleton] at hx; omega)
      have hbl : bs.size = 1 := by rw [← numsOf_length, hbn]; rfl
      obtain ⟨q1, hq1⟩ : ∃ q1, q1 = Uj ++ info := ⟨_, rfl⟩
      have hadd1 : ∀ w', (Op.stringOp .add Uj info).run Tryd.prog w' = .ok (.string q1) w' := fun w' => by rw [hq1]; exact run_string_add_sum (P := Tryd.prog) (w := w') Uj info (by omega)
      have hq1s : q1.size ≤ 1048608 := by rw [hq1, ByteArray.size_append]; omega
      obtain ⟨q2, hq2⟩ : ∃ q2, q2 = q1 ++ bs := ⟨_, rfl⟩
      have hadd2 : ∀ w', (Op.stringOp .add q1 bs).run Tryd.prog w' = .ok (.string q2) w' := fun w' => by rw [hq2]; exact run_string_add_sum (P := Tryd.prog) (w := w') q1 bs (by omega)
      have hq2s : q2.size ≤ 1048609 := by rw [hq2, ByteArray.size_append]; omega
      have HQ : Hid (macS key q2 = U (j + 1)) := by
        show _ = _
        rw [hq2, hq1, HJ.out.2.1]
        exact HU.out.2.1 j (by omega) bs hbn
      have hb1 := hb.alloc hb.size (.cells #[.int .u8 ((j : Int) + 1)] 5)
      clear hbs hbn hq1 hq2 hb
      go_wp2_with fail
      first
        | (rw [hcv]; go_wp2_with fail)
        | skip
      refine (rMac_any key q2 hk (by omega) _).mono ?_
      rintro e w2 ⟨rfl, hb2⟩
      rw [HQ.out]
      have hb2' := hb1.trans (hb2.mono hb1.size)
      clear hb1 hb2 HQ hcv hadd1 hadd2
      obtain ⟨Un, hUn⟩ : ∃ Un, Un = U (j + 1) := ⟨_, rfl⟩
      obtain ⟨On, hOn⟩ : ∃ On, On = O (j + 1) := ⟨_, rfl⟩
      have hUns : Un.size ≤ 32 := by rw [hUn]; exact hUs _
      have hadd3 : ∀ w', (Op.stringOp .add Oj Un).run Tryd.prog w' = .ok (.string On) w' := fun w' => by
        rw [hOn, ← HU.out.1 j, hUn, ← HJ.out.1]
        rw [← hUn]
        exact run_string_add_sum (P := Tryd.prog) (w := w') Oj Un (by omega)
      rw [← hUn]
      have HN : Hid (Un = U (j + 1) ∧ On = O (j + 1)) := ⟨hUn, hOn⟩
      clear hUn hOn
      go_wp2
      go_roundw
      case rel => exact ⟨j + 1, by omega, by go_num, by rw [HN.out.2], by rw [HN.out.1], hb2'⟩
      case measure => simp [intOf]; omega
    · obtain rfl : j = m := by omega
      obtain ⟨Oj, hOj⟩ : ∃ Oj, Oj = O j := ⟨_, rfl⟩
      rw [← hOj] at hsj
      rw [← hOj]
      have hjn : ¬ ((Oj.size : Nat) : Int) < n := by omega
      have hnO : (n : Int) ≤ Oj.size := by omega
      have HX2 : Hid (Oj.extract 0 n = expS key info n) := by show _ = _; rw [hOj]; exact HX.out.1
      clear hOj hsj
      go_wp2
      go_ret2
      exact ⟨by first | (rw [HX2.out]; rfl) | (rw [← HX2.out]; rfl), hb⟩

theorem rExpand_out (key info : ByteArray) (n : Int) (hn : n < 0 ∨ 8160 < n) (w : World) :
    Calls Tryd.prog 20 #[.string key, .string info, .int .i64 n] w fun e w' => e = .returned (.tuple #[.string ⟨#[]⟩, .int .i64 1]) ∧ Below w.heap.size w w' := by
  rcases hn with h | h
  · go_enter Tryd.func20, Tryd.ntmps20
    go_wp2
    go_ret2
    exact ⟨rfl, Below.refl _ _⟩
  · have h1 : ¬ n < 0 := by omega
    go_enter Tryd.func20, Tryd.ntmps20
    go_wp2
    go_ret2
    exact ⟨rfl, Below.refl _ _⟩
end Go.Proofs.YtfndgiddoijdeaaDoor
