/- sum.putHigh, called with a part of a block's cells and a number, lays the number there, the highest byte first, and changes nothing else. -/
import Derived.Test.YtfndgiddoijdeabDoorShaRot
import Derived.Deep.WholeRow
import Derived.Deep.RegionHeld3
import Derived.Deep.QuietTactic
import Derived.BigQuiet
namespace Go.Proofs.YtfndgiddoijdeabDoor
open Go.RowKit

/-- A block whose cells are these. -/
def Row (w : World) (g : Nat) (t : TypeId) (l : List Value) : Prop := w.heap[g]? = some (.cells l.toArray t (0, 0))
/-- Nothing that was there is changed but block b. -/
def Only (b : Nat) (w w' : World) : Prop := Below 0 w w' ∧ ∀ k, k < w.heap.size → k ≠ b → w'.heap[k]? = w.heap[k]?
theorem Only.refl (b : Nat) (w : World) : Only b w w := ⟨Below.refl _ _, fun _ _ _ => rfl⟩
theorem Only.trans {b : Nat} {w w1 w2 : World} (h : Only b w w1) (k : Only b w1 w2) : Only b w w2 :=
  ⟨h.1.trans k.1, fun i hi hb => (k.2 i (Nat.lt_of_lt_of_le hi h.1.size) hb).trans (h.2 i hi hb)⟩
theorem Only.of_below {b : Nat} {w w' : World} (h : Below w.heap.size w w') : Only b w w' := ⟨h.mono (Nat.zero_le _), fun k hk _ => h.block k hk⟩
theorem Only.below {b : Nat} {w w' : World} (h : Only b w w') (hb : b ≤ w.heap.size) : Below b w w' := ⟨h.1.os, h.1.tape, h.1.output, h.1.size, fun k hk => h.2 k (by omega) (by omega)⟩
theorem Only.size {b : Nat} {w w' : World} (h : Only b w w') : w.heap.size ≤ w'.heap.size := h.1.size
theorem Only.drew {b : Nat} {w w' : World} (h : Only b w w') : Only b w w'.drew := ⟨h.1.drew, fun k hk hb => h.2 k hk hb⟩
theorem Only.setCell {b : Nat} {w w' : World} (h : Only b w w') (i : Nat) (v : Value) : Only b w (w'.setCell ⟨b, i, none⟩ v) :=
  ⟨h.1.setCell (p := ⟨b, i, none⟩) (Nat.zero_le _) _, fun k hk hb => (Below.heap_setCell w' ⟨b, i, none⟩ _ k hb).trans (h.2 k hk hb)⟩
theorem set_mid (A P Q C : List Value) (v q : Value) (n : Nat) (hn : n = A.length + P.length) : (A ++ P ++ (q :: Q) ++ C).toArray.setIfInBounds n v = (A ++ (P ++ [v]) ++ Q ++ C).toArray := by
  subst hn
  rw [List.setIfInBounds_toArray]
  congr 1
  rw [List.append_assoc, List.set_append_right _ _ (by simp), List.length_append, Nat.sub_self]
  simp
/-- A number's bytes, n of them, the highest first. -/
def beV (L n : Nat) : List Value := (List.range L).map fun i => Value.int .u8 ((n / 2 ^ (8 * (L - 1 - i)) % 256 : Nat) : Int)

set_option maxHeartbeats 1000000 in
theorem putHigh_any (g t : Nat) (A B C : List Value) (L cap n : Nat) (hL : L ≤ 8) (hB : B.length = L) (w : World) (hr : Row w g t (A ++ B ++ C)) :
    Calls Tryd.prog 29 #[.slice (some ⟨g, A.length, none⟩) L cap, .int .u64 n] w fun e w' => e = .returned (.tuple #[]) ∧ Row w' g t (A ++ beV L n ++ C) ∧ Only g w w' := by
  go_enter Tryd.func29, Tryd.ntmps29
  go_wp2_with fail
  go_loopw [7] (fun i wr => ∃ j : Nat, j ≤ L ∧ i = .int .i64 j ∧ Row wr g t (A ++ (beV L n).take j ++ B.drop j ++ C) ∧ Only g w wr) (fun i _ => L - (intOf i).toNat)
  case atStart => exact ⟨0, Nat.zero_le _, rfl, by simpa using hr, Only.refl _ _⟩
  case round =>
    clear hr
    obtain ⟨j, hj, rfl, hr, ho⟩ := hrel
    by_cases hlt : j < L
    · obtain ⟨q, Q, hq⟩ : ∃ q Q, B.drop j = q :: Q := ⟨B[j], B.drop (j + 1), List.drop_eq_getElem_cons (by omega)⟩
      have hQ : Q = B.drop (j + 1) := by
        have h1 := congrArg List.tail hq
        simpa using h1.symm
      have hbl : (beV L n).length = L := by simp [beV]
      have hbt : (beV L n).take (j + 1) = (beV L n).take j ++ [Value.int .u8 ((n / 2 ^ (8 * (L - 1 - j)) % 256 : Nat) : Int)] := by
        rw [List.take_succ_eq_append_getElem (by omega)]
        simp [beV]
      rw [hq] at hr
      have hpl : ((beV L n).take j).length = j := by simp; omega
      have d1 : wr.cell? ⟨g, A.length + j, none⟩ = some q := (cell_of_row _ _ _ _ _ _ hr).trans (by
        rw [List.getElem?_toArray, List.append_assoc, List.getElem?_append_right (by simp; omega), List.length_append, hpl, Nat.sub_self]
        rfl)
      have d2 : wr.frozen? ⟨g, A.length + j, none⟩ = false := by simp [World.frozen?, show wr.heap[g]? = _ from hr]
      obtain ⟨m, hm⟩ : ∃ m, m = L - 1 - j := ⟨_, rfl⟩
      rw [← hm] at hbt
      have e1 : (L : Int) - 1 - (j : Int) = m := by omega
      have e2 : IntKind.i64.wrap ((L : Int) - 1) = L - 1 := by rw [IntKind.wrap_i64]; omega
      have e3 : IntKind.i64.wrap (m : Int) = m := by rw [IntKind.wrap_i64]; omega
      have e4 : IntKind.i64.wrap (8 * (m : Int)) = 8 * m := by rw [IntKind.wrap_i64]; omega
      have e5 : (8 * (m : Int)).toNat = 8 * m := by omega
      have e6 : (0 : Int) ≤ 8 * (m : Int) := by omega
      have s1 : (j : Int) < L := by omega
      clear hm hq hbl
      have hv : Value.int .u8 ((n : Int) / 2 ^ (8 * m) % 256) = Value.int .u8 ((n / 2 ^ (8 * m) % 256 : Nat) : Int) := by
        congr 1
      have hr' := heap_setCell_same wr g (A.length + j) _ _ (Value.int .u8 ((n : Int) / 2 ^ (8 * m) % 256)) hr
      rw [set_mid A ((beV L n).take j) Q C _ q _ (by rw [hpl]), hv, ← hbt, hQ] at hr'
      have HR : Hid (Row (wr.setCell ⟨g, A.length + j, none⟩ (Value.int .u8 ((n / 2 ^ (8 * m) % 256 : Nat) : Int))) g t (A ++ (beV L n).take (j + 1) ++ B.drop (j + 1) ++ C)) := hr'
      clear hr hr' hbt hQ hpl hv
      go_wp2_with fail
      refine ⟨⟨j + 1, by omega, by go_num, ?_, ho.setCell _ _⟩, by simp [intOf]; omega⟩
      exact HR.out
    · obtain rfl : j = L := by omega
      go_wp2
      go_end0
      refine ⟨rfl, ?_, ho⟩
      have h1 : (beV j n).take j = beV j n := List.take_of_length_le (by simp [beV])
      have h2 : B.drop j = [] := List.drop_eq_nil_of_le (by omega)
      rw [h1, h2, List.append_nil] at hr
      exact hr
theorem putHigh_at (g t o : Nat) (A B C : List Value) (ho : o = A.length) (L cap n : Nat) (hL : L ≤ 8) (hB : B.length = L) (w : World) (hr : Row w g t (A ++ B ++ C)) :
    Calls Tryd.prog 29 #[.slice (some ⟨g, o, none⟩) L cap, .int .u64 n] w fun e w' => e = .returned (.tuple #[]) ∧ Row w' g t (A ++ beV L n ++ C) ∧ Only g w w' := by
  subst ho
  exact putHigh_any g t A B C L cap n hL hB w hr
end Go.Proofs.YtfndgiddoijdeabDoor
