/- The law ChartTables, called with any text and any list, returns true, and changes nothing that was there. -/
import Derived.Test.YtcmbphppeobhfabCtRTab
import Derived.Test.YtcmbphppeobhfabCtArgs
import Derived.Test.YtcmbphppeobhfabCtBoth
import Derived.Test.YtcmbphppeobhfabCtLaw
namespace Go.Proofs.Ytcmbphppeobhfab
set_option maxRecDepth 20000
open Go.RowKit

def tbL (s : ByteArray) : List Int := if s.size = 448 then tabN s.data.toList 112 else []
def tbE (s : ByteArray) : Int := if s.size = 448 then 0 else 1
open Classical in
noncomputable def bdE (l : List Int) : Int := if l.length = 112 then if ∀ x ∈ l, okN x then 0 else 2 else 1
open Classical in
noncomputable def bdS (l : List Int) : ByteArray := if l.length = 112 ∧ ∀ x ∈ l, okN x then ⟨(bodB l).toArray⟩ else ⟨#[]⟩
theorem nil1 (w : World) : List1 (Value.int .i64) w (.slice none 0 0) [] := .inl ⟨none, 0, rfl, rfl⟩
theorem table_all (s : ByteArray) (w : World) : Calls Try.prog 17 #[.string s] w fun e w' => ∃ v, e = .returned (.tuple #[v, .int .i64 (tbE s)]) ∧ List1 (Value.int .i64) w' v (tbL s) ∧ Below w.heap.size w w' := by
  unfold tbL tbE
  by_cases h : s.size = 448
  · rw [if_pos h, if_pos h]; exact table_any s h w
  · rw [if_neg h, if_neg h]; exact (table_bad s h w).mono fun e w' ⟨he, hw⟩ => ⟨_, he, nil1 _, by rw [hw]; exact Below.refl _ _⟩
theorem rtable_all (s : ByteArray) (w : World) : Calls Try.prog 18 #[.string s] w fun e w' => ∃ v, e = .returned (.tuple #[v, .int .i64 (tbE s)]) ∧ List1 (Value.int .i64) w' v (tbL s) ∧ Below w.heap.size w w' := by
  unfold tbL tbE
  by_cases h : s.size = 448
  · rw [if_pos h, if_pos h]; exact rtable_any s h w
  · rw [if_neg h, if_neg h]; exact (rtable_bad s h w).mono fun e w' ⟨he, hw⟩ => ⟨_, he, nil1 _, by rw [hw]; exact Below.refl _ _⟩
theorem body_all (v : Value) (l : List Int) (w : World) (hv : List1 (Value.int .i64) w v l) : Calls Try.prog 19 #[v] w fun e w' => e = .returned (.tuple #[.string (bdS l), .int .i64 (bdE l)]) ∧ Below w.heap.size w w' := by
  unfold bdS bdE
  by_cases h : l.length = 112
  · refine (body_any v l w hv h).mono fun e w' ⟨he, hb⟩ => ⟨?_, hb⟩
    rcases he with ⟨h1, he⟩ | ⟨h1, he⟩
    · rw [if_pos ⟨h, h1⟩, if_pos h, if_pos h1]; exact he
    · rw [if_neg (fun h2 => h1 h2.2), if_pos h, if_neg h1]; exact he
  · rw [if_neg (fun h2 => h h2.1), if_neg h]; exact body_bad v l w hv h
theorem rbody_all (v : Value) (l : List Int) (w : World) (hv : List1 (Value.int .i64) w v l) (hw : ∀ x ∈ l, x ≤ 9223372036854775807) : Calls Try.prog 20 #[v] w fun e w' => e = .returned (.tuple #[.string (bdS l), .int .i64 (bdE l)]) ∧ Below w.heap.size w w' := by
  unfold bdS bdE
  by_cases h : l.length = 112
  · refine (rbody_any v l w hv h hw).mono fun e w' ⟨he, hb⟩ => ⟨?_, hb⟩
    rcases he with ⟨h1, he⟩ | ⟨h1, he⟩
    · rw [if_pos ⟨h, h1⟩, if_pos h, if_pos h1]; exact he
    · rw [if_neg (fun h2 => h1 h2.2), if_pos h, if_neg h1]; exact he
  · rw [if_neg (fun h2 => h h2.1), if_neg h]; exact rbody_bad v l w hv h
theorem tb_back (s : ByteArray) (h : tbE s = 0) : bdE (tbL s) = 0 ∧ bdS (tbL s) = s := by
  have hs : s.size = 448 := by unfold tbE at h; split at h; assumption; cases h
  have hl : (tbL s).length = 112 := by unfold tbL; rw [if_pos hs, tabN_length]
  have ho : ∀ x ∈ tbL s, okN x := by unfold tbL; rw [if_pos hs]; exact tabN_ok _ _
  refine ⟨by unfold bdE; rw [if_pos hl, if_pos ho], ?_⟩
  unfold bdS
  rw [if_pos ⟨hl, ho⟩]
  unfold tbL
  have hsz : s.data.toList.length = 448 := by simpa using hs
  rw [if_pos hs, tab_back _ 112 (by omega), List.take_of_length_le (by omega)]
theorem bd_back (l : List Int) (h : bdE l = 0) : tbE (bdS l) = 0 ∧ tbL (bdS l) = l ∧ l.length = 112 := by
  have hl : l.length = 112 := by unfold bdE at h; split at h; assumption; cases h
  have ho : ∀ x ∈ l, okN x := by unfold bdE at h; rw [if_pos hl] at h; split at h; assumption; cases h
  have hs : bdS l = ⟨(bodB l).toArray⟩ := if_pos ⟨hl, ho⟩
  have hz : (⟨(bodB l).toArray⟩ : ByteArray).size = 448 := by show (bodB l).length = 448; rw [bodB_length]; omega
  rw [hs]
  refine ⟨if_pos hz, ?_, hl⟩
  unfold tbL
  rw [if_pos hz]
  have := body_back l ho
  rw [hl] at this
  exact this
theorem bd_no (l : List Int) (h : ¬ bdE l = 0) : bdS l = ⟨#[]⟩ := by
  unfold bdS
  rw [if_neg]
  rintro ⟨h1, h2⟩
  exact h (by unfold bdE; rw [if_pos h1, if_pos h2])
theorem tbL_len (s : ByteArray) : (tbL s).length ≤ 112 := by
  unfold tbL; split
  · rw [tabN_length]; exact Nat.le_refl _
  · simp
set_option maxHeartbeats 4000000 in
theorem walk_chartTables (s : ByteArray) (v : Value) (l : List Int) (w : World) (hv : List1 (Value.int .i64) w v l) (hc : Capped v ∧ ∀ x ∈ l, (Lit.int .i64 x).wf = true) :
    Calls Try.prog 7 #[.string s, v] w fun e w' => e = .returned (.bool true) ∧ Below w.heap.size w w' := by
  obtain ⟨oa, ca, rfl⟩ := hv.form
  have HV : Hid (List1 (Value.int .i64) w (.slice oa l.length ca) l ∧ ∀ x ∈ l, x ≤ 9223372036854775807) := ⟨hv, fun x hx => by have := (wf_int (hc.2 x hx)).2; omega⟩
  clear hv hc
  have h1 := table_all s
  have h2 := rtable_all s
  have HT : Hid (tbE s = 0 → bdE (tbL s) = 0 ∧ bdS (tbL s) = s) := tb_back s
  have HL : Hid ((tbL s).length ≤ 112) := tbL_len s
  have HD : Hid (bdE l = 0 → tbE (bdS l) = 0 ∧ tbL (bdS l) = l ∧ l.length = 112) := bd_back l
  obtain ⟨len, hlen⟩ : ∃ len, len = l.length := ⟨_, rfl⟩
  have HN : Hid (len = l.length) := hlen
  rw [← hlen]
  clear hlen
  generalize tbL s = A at *
  obtain ⟨te, hte⟩ : ∃ te, te = tbE s := ⟨_, rfl⟩
  rw [← hte] at h1 h2 HT
  clear hte
  obtain ⟨be, hbe⟩ : ∃ be, be = bdE l := ⟨_, rfl⟩
  have HBE : Hid (be = bdE l) := hbe
  obtain ⟨bs, hbs⟩ : ∃ bs, bs = bdS l := ⟨_, rfl⟩
  have HBS : Hid (bs = bdS l) := hbs
  rw [← hbe, ← hbs] at HD
  clear hbe hbs
  go_enter Try.func7, Try.ntmps7
  go_wp2_with fail
  refine (h1 _).mono ?_
  rintro e w1 ⟨v1, rfl, hv1, hb1⟩
  clear h1
  go_wp2_with fail
  refine (h2 _).mono ?_
  rintro e w2 ⟨v2, rfl, hv2, hb2⟩
  clear h2
  have H2 : Hid (List1 (Value.int .i64) w2 v1 A ∧ List1 (Value.int .i64) w2 v2 A ∧ Below w.heap.size w w2) := ⟨hv1.below hb2, hv2, hb1.trans (hb2.mono hb1.size)⟩
  clear hv1 hv2 hb1 hb2
  have h3 := body_all (.slice oa l.length ca) l w2 (HV.out.1.below H2.out.2.2)
  rw [← HBE.out, ← HBS.out, ← HN.out] at h3
  go_wp2_with fail
  refine h3.mono ?_
  rintro e w3 ⟨rfl, hb3⟩
  clear h3
  have H3 : Hid (List1 (Value.int .i64) w3 v1 A ∧ List1 (Value.int .i64) w3 v2 A ∧ Below w.heap.size w w3) := ⟨H2.out.1.below hb3, H2.out.2.1.below hb3, H2.out.2.2.trans (hb3.mono H2.out.2.2.size)⟩
  clear hb3 H2
  have h4 := rbody_all (.slice oa l.length ca) l w3 (HV.out.1.below H3.out.2.2) HV.out.2
  rw [← HBE.out, ← HBS.out, ← HN.out] at h4
  go_wp2_with fail
  refine h4.mono ?_
  rintro e w4 ⟨rfl, hb4⟩
  clear h4
  have H4 : Hid (List1 (Value.int .i64) w4 v1 A ∧ Below w.heap.size w w4) := ⟨H3.out.1.below hb4, H3.out.2.2.trans (hb4.mono H3.out.2.2.size)⟩
  have hs := csame_any w4 v1 v2 A (H3.out.1.below hb4) (H3.out.2.1.below hb4) (by have := HL.out; omega)
  clear hb4 H3
  go_wp2_with fail
  refine hs.mono ?_
  rintro e w5 ⟨rfl, hb5⟩
  have H5 : Hid (List1 (Value.int .i64) w5 v1 A ∧ Below w.heap.size w w5) := ⟨H4.out.1.below hb5, H4.out.2.trans (hb5.mono H4.out.2.size)⟩
  have h6 := body_all v1 A w5 H5.out.1
  clear hs hb5 H4
  obtain ⟨ae, hae⟩ : ∃ ae, ae = bdE A := ⟨_, rfl⟩
  obtain ⟨as_, has_⟩ : ∃ as_, as_ = bdS A := ⟨_, rfl⟩
  rw [← hae, ← has_] at h6 HT
  clear hae has_
  go_wp2_with fail
  refine h6.mono ?_
  rintro e w6 ⟨rfl, hb6⟩
  have H6 : Hid (Below w.heap.size w w6) := H5.out.2.trans (hb6.mono H5.out.2.size)
  have h7 := table_all bs w6
  clear h6 hb6 H5
  obtain ⟨ze, hze⟩ : ∃ ze, ze = tbE bs := ⟨_, rfl⟩
  obtain ⟨Z, hZ⟩ : ∃ Z, Z = tbL bs := ⟨_, rfl⟩
  rw [← hze, ← hZ] at h7 HD
  clear hze hZ
  go_wp2_with fail
  refine h7.mono ?_
  rintro e w7 ⟨v7, rfl, hv7, hb7⟩
  have H7 : Hid (List1 (Value.int .i64) w7 v7 Z ∧ Below w.heap.size w w7) := ⟨hv7, H6.out.trans (hb7.mono H6.out.size)⟩
  clear h7 hv7 hb7 H6
  have hT : (te = 0 ∧ ae = 0 ∧ as_ = s) ∨ ¬ te = 0 := by
    by_cases h : te = 0
    · exact .inl ⟨h, HT.out h⟩
    · exact .inr h
  have hD : (be = 0 ∧ ze = 0 ∧ Z = l ∧ l.length = 112) ∨ ¬ be = 0 := by
    by_cases h : be = 0
    · exact .inl ⟨h, HD.out h⟩
    · exact .inr h
  clear HT HD HBE HBS
  rcases hT with ⟨rfl, rfl, rfl⟩ | hte
  · rcases hD with ⟨rfl, rfl, rfl, h112⟩ | hbe
    · have hs := csame_any w7 v7 (.slice oa Z.length ca) Z H7.out.1 (HV.out.1.below H7.out.2) (by omega)
      rw [← HN.out] at hs
      clear h112
      go_wp2_with fail
      refine hs.mono ?_
      rintro e w8 ⟨rfl, hb8⟩
      have H8 : Hid (Below w.heap.size w w8) := H7.out.2.trans (hb8.mono H7.out.2.size)
      clear hs hb8 H7
      go_wp2_with fail
      refine (cawake_any _).mono ?_
      rintro e w9 ⟨rfl, hb9⟩
      have HF : Hid (Below w.heap.size w w9) := H8.out.trans (hb9.mono H8.out.size)
      clear hb9 H8
      go_wp2
      go_ret
      exact ⟨rfl, HF.out⟩
    · have d1 := beq_false_of_ne hbe
      go_wp2_with fail
      refine (cawake_any _).mono ?_
      rintro e w9 ⟨rfl, hb9⟩
      have HF : Hid (Below w.heap.size w w9) := H7.out.2.trans (hb9.mono H7.out.2.size)
      clear hb9 H7
      go_wp2
      go_ret
      exact ⟨rfl, HF.out⟩
  · have d2 := beq_false_of_ne hte
    rcases hD with ⟨rfl, rfl, rfl, h112⟩ | hbe
    · have hs := csame_any w7 v7 (.slice oa Z.length ca) Z H7.out.1 (HV.out.1.below H7.out.2) (by omega)
      rw [← HN.out] at hs
      clear h112
      go_wp2_with fail
      refine hs.mono ?_
      rintro e w8 ⟨rfl, hb8⟩
      have H8 : Hid (Below w.heap.size w w8) := H7.out.2.trans (hb8.mono H7.out.2.size)
      clear hs hb8 H7
      go_wp2_with fail
      refine (cawake_any _).mono ?_
      rintro e w9 ⟨rfl, hb9⟩
      have HF : Hid (Below w.heap.size w w9) := H8.out.trans (hb9.mono H8.out.size)
      clear hb9 H8
      go_wp2
      go_ret
      exact ⟨rfl, HF.out⟩
    · have d1 := beq_false_of_ne hbe
      go_wp2_with fail
      refine (cawake_any _).mono ?_
      rintro e w9 ⟨rfl, hb9⟩
      have HF : Hid (Below w.heap.size w w9) := H7.out.2.trans (hb9.mono H7.out.2.size)
      clear hb9 H7
      go_wp2
      go_ret
      exact ⟨rfl, HF.out⟩
end Go.Proofs.Ytcmbphppeobhfab
