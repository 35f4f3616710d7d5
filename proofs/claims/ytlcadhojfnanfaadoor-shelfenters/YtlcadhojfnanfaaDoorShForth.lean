/- Slots and blocks are each other's: the arithmetic; nothing of the program. -/
import Derived.Test.YtlcadhojfnanfaaDoorShMath
import Derived.Test.YtlcadhojfnanfaaDoorLeVal
namespace Go.Proofs.YtlcadhojfnanfaaDoor
set_option maxRecDepth 20000
open Go.RowKit

theorem sz_list (s : ByteArray) : s.data.toList.length = s.size := by simp
theorem ba_eq {s t : ByteArray} (h : s.data.toList = t.data.toList) : s = t := ByteArray.ext (Array.toList_inj.1 h)
theorem ext_list (s : ByteArray) (a b : Nat) : (s.extract a b).data.toList = (s.data.toList.drop a).take (b - a) := by
  rw [Lib.extract_data]
/-- A number laid is read again. -/
theorem put_val {n : Int} {k : Nat} (h1 : 1 ≤ k) (h6 : k ≤ 6) (h : putE n k = 0) : leVal (putS n k).data.toList = n := by
  have hr : ¬ ((k : Int) < 1 ∨ 6 < (k : Int)) := by omega
  by_cases hn : n < 0 ∨ 256 ^ k ≤ n
  · rw [putE_noRoom h1 h6 hn] at h; cases h
  · have h0 : 0 ≤ n := by omega
    have h2 : n < 256 ^ k := by omega
    rw [putS_ok h1 h6 h0 h2]
    show leVal ((leI k n).map fun x => UInt8.ofNat x.toNat) = n
    exact leVal_leI k n h0 h2
theorem entry_forth {x : En} (h : entEx x = 0) : entryOE (entSx x) = 0 ∧ enOf (entSx x) = x := by
  obtain ⟨nm, a1, a2⟩ := x
  obtain ⟨h1, h2, h3⟩ := entE_zero h
  have e : entSx ⟨nm, a1, a2⟩ = recS (entPre nm) (entPs a1 a2) 0 := by unfold entSx entS; rw [if_pos ⟨h1, h2⟩]
  rw [recS_ok h3] at e
  simp only at h1 h2 h3 e
  have hp := entPre_length h1
  simp only [entPs, laidOk, Bool.and_eq_true, beq_iff_eq, Bool.and_true] at h3
  obtain ⟨p1, p2⟩ := h3
  have q1 : (putS a1 4).data.toList.length = 4 := putS_size p1
  have q2 : (putS a2 4).data.toList.length = 4 := putS_size p2
  have v1 : leVal (putS a1 4).data.toList = a1 := put_val (k := 4) (by decide) (by decide) p1
  have v2 : leVal (putS a2 4).data.toList = a2 := put_val (k := 4) (by decide) (by decide) p2
  obtain ⟨l1, l2⟩ := (entLen h1 : _ ∧ _)
  have v0 : leVal (putS nm.size 1).data.toList = nm.size := put_val (k := 1) (by decide) (by decide) l1
  generalize hT : entSx ⟨nm, a1, a2⟩ = T at *
  have hd : T.data.toList = entPre nm ++ ((putS a1 4).data.toList ++ (putS a2 4).data.toList) := by
    rw [e]
    simp [entPs, laidL]
  have hsz : T.size = 28 := by rw [← sz_list, hd, List.length_append, List.length_append, hp, q1, q2]
  have d20 : (T.data.toList.drop 20).take 4 = (putS a1 4).data.toList := by
    rw [hd, List.drop_append_of_le_length (by omega), List.drop_of_length_le (by omega), List.nil_append, List.take_append_of_le_length (by omega), List.take_of_length_le (by omega)]
  have d24 : (T.data.toList.drop 24).take 4 = (putS a2 4).data.toList := by
    rw [show (24 : Nat) = 20 + 4 by rfl, ← List.drop_drop, hd, List.drop_append_of_le_length (by omega), List.drop_of_length_le (l := entPre nm) (by omega), List.nil_append, List.drop_append_of_le_length (by omega), List.drop_of_length_le (l := (putS a1 4).data.toList) (by omega), List.nil_append, List.take_of_length_le (by omega)]
  have d0 : (T.data.toList.drop 0).take 1 = (putS nm.size 1).data.toList := by
    rw [hd, List.drop_zero, entPre, List.append_assoc, List.append_assoc, List.take_append_of_le_length (by omega), List.take_of_length_le (by omega)]
  have hlen : eoLen T = nm.size := by unfold eoLen; rw [d0, v0]; omega
  have d1 : (T.data.toList.drop 1).take 19 = nm.data.toList ++ List.replicate (19 - nm.size) 0 := by
    rw [hd, entPre, List.append_assoc, List.append_assoc, List.drop_append_of_le_length (by omega), List.drop_of_length_le (by omega), List.nil_append, ← List.append_assoc, List.take_append_of_le_length (by rw [List.length_append, List.length_replicate, sz_list]; omega), List.take_of_length_le (by rw [List.length_append, List.length_replicate, sz_list]; omega)]
  have n1 : (T.extract 1 20).data.toList = nm.data.toList ++ List.replicate (19 - nm.size) 0 := by rw [ext_list]; exact d1
  have hname : eoName T = nm := by
    unfold eoName
    apply ba_eq
    rw [ext_list, n1, hlen, List.drop_zero, Nat.sub_zero, List.take_append_of_le_length (by rw [sz_list]; exact Nat.le_refl _), List.take_of_length_le (by rw [sz_list]; exact Nat.le_refl _)]
  have hz : allZ ((T.extract 1 20).extract (eoLen T) 19) = true := by
    unfold allZ
    rw [ext_list, n1, hlen, List.drop_append_of_le_length (by rw [sz_list]; exact Nat.le_refl _), List.drop_of_length_le (by rw [sz_list]; exact Nat.le_refl _), List.nil_append, List.all_eq_true]
    intro y hy
    rw [List.eq_of_mem_replicate (List.mem_of_mem_take hy)]
    rfl
  have hfit : eoFits T = true := by
    unfold eoFits
    rw [hz, hname, d20, d24, v1, v2, h2, hlen]
    simp [h1]
  have he : entryOE T = 0 := by rw [entryOE, if_neg (by omega), if_neg (by omega), if_pos hfit]
  refine ⟨he, ?_⟩
  rw [enOf, entryOR, entryON, entryON, if_pos he, if_pos he, if_pos he, hname, d20, d24, v1, v2]
theorem bodyF_piece : ∀ (l : List En) (i : Nat) (hi : i < l.length), (∀ x ∈ l, entEx x = 0) → ((bodyF l).drop (i * 28)).take 28 = (entSx l[i]).data.toList
  | [], i, hi, _ => by simp at hi
  | x :: l, 0, _, h => by
    have hx := entSx_len (h x (List.mem_cons_self ..))
    show ((entSx x).data.toList ++ bodyF l).take 28 = _
    rw [List.take_append_of_le_length (by omega), List.take_of_length_le (by omega)]
    rfl
  | x :: l, i + 1, hi, h => by
    have hx := entSx_len (h x (List.mem_cons_self ..))
    show (((entSx x).data.toList ++ bodyF l).drop ((i + 1) * 28)).take 28 = _
    rw [show (i + 1) * 28 = 28 + i * 28 by omega, ← List.drop_drop, List.drop_append_of_le_length (by omega), List.drop_of_length_le (l := (entSx x).data.toList) (by omega), List.nil_append]
    exact bodyF_piece l i (by simpa using hi) fun y hy => h y (List.mem_cons_of_mem _ hy)
theorem bodyF_len : ∀ (l : List En), (∀ x ∈ l, entEx x = 0) → (bodyF l).length = l.length * 28
  | [], _ => rfl
  | x :: l, h => by
    have hx := entSx_len (h x (List.mem_cons_self ..))
    show ((entSx x).data.toList ++ bodyF l).length = _
    rw [List.length_append, hx, bodyF_len l fun y hy => h y (List.mem_cons_of_mem _ hy), List.length_cons]
    omega
/-- Page of Body is the slots. -/
theorem page_body {l : List En} (h : bodyE l = 0) : pageE (bodyS l) = 0 ∧ pageL (bodyS l) = l := by
  obtain ⟨h16, ha⟩ := bodyE_inv h
  have e : bodyS l = ⟨(bodyF l).toArray⟩ := by rw [bodyS, if_pos h]
  have hd : (bodyS l).data.toList = bodyF l := by rw [e]
  have hs : (bodyS l).size = 448 := by rw [← sz_list, hd, bodyF_len l ha, h16]
  have hp : ∀ i (hi : i < l.length), piece (bodyS l) i = entSx l[i] := fun i hi => by
    apply ba_eq
    rw [piece, ext_list, hd, show i * 28 + 28 - i * 28 = 28 by omega, bodyF_piece l i hi ha]
  have hE : pageE (bodyS l) = 0 := pageE_good hs fun j hj => by
    rw [hp j (by omega)]
    exact (entry_forth (ha _ (List.getElem_mem _))).1
  refine ⟨hE, ?_⟩
  rw [pageL, if_pos hE]
  apply List.ext_getElem
  · rw [pageF_len, h16]
  · intro i h1 h2
    simp only [pageF, List.getElem_map, List.getElem_range]
    rw [hp i h2]
    exact (entry_forth (ha _ (List.getElem_mem _))).2
def awakeL : List En := ⟨⟨#[97]⟩, 3, 1⟩ :: List.replicate 15 zeroEn
theorem zero_entE : entEx zeroEn = 0 := by decide +kernel
theorem a_entE : entEx ⟨⟨#[97]⟩, 3, 1⟩ = 0 := by decide +kernel
theorem awakeL_E : bodyE awakeL = 0 := bodyE_good rfl fun x hx => by
  rcases List.mem_cons.1 hx with rfl | hx
  · exact a_entE
  · rw [List.eq_of_mem_replicate hx]; exact zero_entE
theorem fr_zero : frE zeroEn = true := by unfold frE zeroEn; rw [ByteArray.toList_eq]; rfl
theorem fr_a : frE ⟨⟨#[97]⟩, 3, 1⟩ = false := by unfold frE; rw [ByteArray.toList_eq]; rfl
theorem awakeL_sp : spareI awakeL = 1 := by
  rw [spareI, fstI_hit (l := awakeL) (k := 1) (by decide) fr_zero (fun j hj => match j, hj with | 0, _ => fr_a)]
  rfl
theorem zeroL_sp : spareI (List.replicate 16 zeroEn) = 0 := by
  rw [spareI, fstI_hit (l := List.replicate 16 zeroEn) (k := 0) (by decide) fr_zero (fun j hj => absurd hj (Nat.not_lt_zero _))]
  rfl
end Go.Proofs.YtlcadhojfnanfaaDoor
