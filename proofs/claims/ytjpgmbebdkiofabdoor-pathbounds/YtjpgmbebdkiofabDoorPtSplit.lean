/- Split: the program's. -/
import Derived.Test.YtjpgmbebdkiofabDoorPtBase
import Derived.Test.YtjpgmbebdkiofabDoorPtShelf
namespace Go.Proofs.YtjpgmbebdkiofabDoor
set_option maxRecDepth 20000
open Go.RowKit

theorem cutp_yes (s : ByteArray) (x : List UInt8) (h : s.data.toList = 47 :: x) (hs : s.size ≤ 255) (w : World) :
    Calls Tryd.prog 7 #[.string s, .string ⟨#[47]⟩] w fun e w' => e = .returned (.tuple #[.string (mkB x), .bool true]) ∧ w' = w := by
  have h1 : ¬ (s.size : Int) < 1 := by rw [Lib.size_eq, h, List.length_cons]; omega
  have hq : ((s.extract 0 1).toList == [47]) = true := by
    rw [Lib.toList_data, Lib.extract_from_zero, h]; rfl
  have HE : Hid (s.extract 1 s.size = mkB x) := by
    apply ByteArray.ext
    apply Array.toList_inj.1
    rw [Lib.extract_to_end, h]
    rfl
  clear h
  go_enter Tryd.func7, Tryd.ntmps7
  go_wp2
  go_ret2
  exact ⟨by rw [← HE.out]; rfl, rfl⟩
theorem cutp_no (s : ByteArray) (h : ¬ s.data.toList.head? = some 47) (w : World) :
    Calls Tryd.prog 7 #[.string s, .string ⟨#[47]⟩] w fun e w' => e = .returned (.tuple #[.string s, .bool false]) ∧ w' = w := by
  by_cases h1 : (s.size : Int) < 1
  · clear h
    go_enter Tryd.func7, Tryd.ntmps7
    go_wp2
    go_ret2
    exact ⟨rfl, rfl⟩
  · have hq : ((s.extract 0 1).toList == [47]) = false := by
      rw [Lib.toList_data, Lib.extract_from_zero, beq_eq_false_iff_ne]
      intro e
      apply h
      cases hl : s.data.toList with
      | nil => rw [hl] at e; cases e
      | cons c l => rw [hl] at e; simpa using e
    clear h
    go_enter Tryd.func7, Tryd.ntmps7
    go_wp2
    go_ret2
    exact ⟨rfl, rfl⟩
theorem split47 (x : List UInt8) (hx : x.length ≤ 255) (w : World) :
    Calls Tryd.prog 8 #[.string (mkB x), .string ⟨#[47]⟩] w fun e w' =>
      e = .returned (.slice (some ⟨w.heap.size, 0, none⟩) (cutL x).length (cutL x).length) ∧ w' = w.alloc (.cells (((cutL x).map mkB).map Value.string).toArray 9) := by
  have hlen := Lib.splitB_all ⟨#[47]⟩ (Nat.le_refl 1) 0 _ (mkB x) rfl
  have hp := split_pieces (mkB x)
  have k := split_any (mkB x) 47 w (by rw [Lib.size_eq, list_mkB]; omega)
  rw [hp] at k hlen
  rw [← hlen, List.length_map] at k
  exact k
theorem cut_len (x : List UInt8) : (cutL x).length ≤ x.length + 1 := by
  induction x with
  | nil => simp [cutL]
  | cons c l ih =>
    unfold cutL
    split
    · simp; omega
    · cases h : cutL l with
      | nil => exact absurd h (cutL_ne l)
      | cons p ps => rw [h] at ih; simp [consH] at ih ⊢; omega
theorem LS.cell {w : World} {B n c : Nat} {l : List ByteArray} (h : LS w (.slice (some ⟨B, 0, none⟩) n c) l) {i : Nat} {x : ByteArray} (hi : l[i]? = some x) : B < w.heap.size ∧ w.cell? ⟨B, i, none⟩ = some (.string x) := by
  rcases h with ⟨_, _, _, rfl⟩ | ⟨g, o, cap, e, hg, hx⟩
  · cases hi
  · simp only [Value.slice.injEq, Option.some.injEq, Addr.mk.injEq] at e
    obtain ⟨⟨rfl, rfl, _⟩, _⟩ := e
    exact ⟨hg, by rw [← hx i x hi, Nat.zero_add]⟩
/-- A slice is no longer than its place. -/
def Fit (v : Value) : Prop := ∀ oa len cap, v = .slice oa len cap → len ≤ cap
theorem fit_slice {oa : Option Addr} {n c : Nat} (h : n ≤ c) : Fit (.slice oa n c) := fun oa' len cap e => by
  simp only [Value.slice.injEq] at e
  omega
set_option maxHeartbeats 1000000 in
theorem psplit_any (s : ByteArray) (w : World) :
    Calls Tryd.prog 5 #[.string s] w fun e w' => ∃ v, e = .returned (.tuple #[v, .int .i64 (spE s.data.toList)]) ∧ LS w' v ((spL s.data.toList).map mkB) ∧ Below w.heap.size w w' ∧ Fit v := by
  by_cases h1 : 255 < s.size
  · have hz := sp_long (l := s.data.toList) (by rw [← Lib.size_eq]; exact h1)
    rw [hz.1, hz.2]
    have h1' : (255 : Int) < s.size := by omega
    clear hz h1
    go_enter Tryd.func5, Tryd.ntmps5
    go_wp2
    go_ret2
    exact ⟨_, rfl, .inl ⟨_, _, rfl, rfl⟩, Below.refl _ _, fit_slice (Nat.le_refl _)⟩
  have h1' : ¬ (255 : Int) < s.size := by omega
  have h1l : ¬ 255 < s.data.toList.length := by rw [← Lib.size_eq]; exact h1
  by_cases h2 : s.data.toList.head? = some 47
  · obtain ⟨x, hx⟩ : ∃ x, s.data.toList = 47 :: x := by
      cases hl : s.data.toList with
      | nil => rw [hl] at h2; cases h2
      | cons c l => rw [hl] at h2; exact ⟨l, by rw [(by simpa using h2 : c = 47)]⟩
    have hc := cutp_yes s x hx (by omega)
    rw [hx] at h1l ⊢
    clear h2 hx h1
    by_cases h3 : x = []
    · subst h3
      rw [sp_root.1, sp_root.2]
      have e0 : (mkB []).toList = [] := by rw [Lib.toList_data]; rfl
      clear h1l
      generalize mkB [] = r at *
      go_enter Tryd.func5, Tryd.ntmps5
      go_wp2_with fail
      refine (hc _).mono ?_
      rintro e w1 ⟨rfl, rfl⟩
      go_wp2
      go_ret2
      exact ⟨_, rfl, .inl ⟨_, _, rfl, rfl⟩, Below.refl _ _, fit_slice (Nat.le_refl _)⟩
    · have hz := sp_else h1l h3
      have hxl : x.length ≤ 254 := by rw [List.length_cons] at h1l; omega
      obtain ⟨E, hE⟩ : ∃ E : Int, E = spE (47 :: x) := ⟨_, rfl⟩
      obtain ⟨L, hL⟩ : ∃ L, L = spL (47 :: x) := ⟨_, rfl⟩
      rw [← hE, ← hL]
      have HZ : Hid (E = fstE (cutL x) ∧ L = if fstE (cutL x) = 0 then cutL x else []) := by rw [hE, hL]; exact hz
      have e0 : (mkB x).toList.isEmpty = false := by rw [Lib.toList_data, list_mkB]; simpa using h3
      have hcl := clone_any (mkB x)
      have hcs : (mkB x).size ≤ 281474976710656 := by rw [Lib.size_eq, list_mkB]; omega
      have hsp := split47 x (by omega)
      have hlen := cut_len x
      have HL : Hid (∀ w : World, LS (w.alloc (.cells (((cutL x).map mkB).map Value.string).toArray 9)) (.slice (some ⟨w.heap.size, 0, none⟩) (cutL x).length (cutL x).length) ((cutL x).map mkB)) := fun w => by
        have := made_list w ((cutL x).map mkB) (cutL x).length
        rw [List.length_map] at this
        exact this
      clear hz hE hL h1l h3
      generalize cutL x = ps at *
      generalize mkB x = r at *
      generalize ((ps.map mkB).map Value.string).toArray = cs at *
      go_enter Tryd.func5, Tryd.ntmps5
      go_wp2_with fail
      refine (hc _).mono ?_
      rintro e w1 ⟨rfl, rfl⟩
      clear hc
      go_wp2_with fail
      refine (hcl _ hcs).mono ?_
      rintro e w2 ⟨rfl, hb2⟩
      clear hcl
      go_wp2_with fail
      refine (hsp _).mono ?_
      rintro e w3 ⟨rfl, rfl⟩
      clear hsp
      have HL3 := HL.out w2
      have HB3 : Hid (Below w1.heap.size w1 (w2.alloc (.cells cs 9))) := hb2.alloc hb2.size _
      have HL4 : Hid (LS (w2.alloc (.cells cs 9)) (.slice (some ⟨w2.heap.size, 0, none⟩) ps.length ps.length) (ps.map mkB)) := HL3
      clear HL HL3 hb2
      generalize w2.alloc (.cells cs 9) = w3 at *
      generalize w2.heap.size = B at *
      go_wp2_with fail
      go_loopw [27] (fun iv wr => ∃ j : Nat, j ≤ ps.length ∧ iv = .int .i64 (j : Int) ∧ (∀ i (hi : i < ps.length), i < j → nmL ps[i] = 0) ∧ Below w3.heap.size w3 wr) (fun iv _ => ps.length - (intOf iv).toNat)
      case atStart => exact ⟨0, Nat.zero_le _, rfl, fun i _ h => absurd h (Nat.not_lt_zero _), Below.refl _ _⟩
      case round =>
        obtain ⟨j, hj, rfl, hok, hb⟩ := hrel
        have HO : Hid ((∀ i (hi : i < ps.length), i < j → nmL ps[i] = 0) ∧ Below w3.heap.size w3 wr) := ⟨hok, hb⟩
        by_cases hlt : j < ps.length
        · have j1 : (j : Int) < ps.length := by omega
          obtain ⟨hB, hc0⟩ := HL4.out.cell (i := j) (x := mkB ps[j]) (by rw [List.getElem?_map, List.getElem?_eq_getElem hlt]; rfl)
          have hc := (cell_kept_1 (hb.block B hB) _).trans hc0
          have hn : ∀ w, Calls Tryd.prog 6 #[.string (mkB ps[j])] w fun e w' => e = .returned (.int .i64 (nmL ps[j])) ∧ Below w.heap.size w w' := fun w => name_any (mkB ps[j]) w
          clear hc0 hB hb hok
          by_cases hp : nmL ps[j] = 0
          · have HP : Hid (nmL ps[j] = 0) := hp
            rw [hp] at hn
            clear hp
            generalize mkB ps[j] = y at *
            go_wp2_with fail
            refine (hn _).mono ?_
            rintro e w4 ⟨rfl, hb4⟩
            have HB4 : Hid (Below w3.heap.size w3 w4) := HO.out.2.trans (hb4.mono HO.out.2.size)
            clear hn hb4
            go_wp2
            go_roundw
            case rel =>
              refine ⟨j + 1, by omega, by go_num, fun i hi h => ?_, HB4.out⟩
              by_cases e : i = j
              · subst e; exact HP.out
              · exact HO.out.1 i hi (by omega)
            case measure => simp [intOf]; omega
          · have HF : Hid (E = nmL ps[j] ∧ L = []) := by
              have hf : fstE ps = nmL ps[j] := by
                have e : ps = ps.take j ++ ps[j] :: ps.drop (j + 1) := by rw [← List.drop_eq_getElem_cons hlt, List.take_append_drop]
                have hall : ∀ q ∈ ps.take j, nmL q = 0 := fun q hq => by
                  obtain ⟨i, hi, rfl⟩ := List.mem_iff_getElem.1 hq
                  rw [List.length_take] at hi
                  rw [List.getElem_take]
                  exact HO.out.1 i (by omega) (by omega)
                have := fstE_bad (b := ps.drop (j + 1)) hall hp
                rw [← e] at this
                exact this
              refine ⟨by rw [HZ.out.1, hf], by rw [HZ.out.2, hf, if_neg hp]⟩
            have hq : ¬ nmL ps[j] = 0 := hp
            clear hp HZ
            generalize nmL ps[j] = q at *
            generalize mkB ps[j] = y at *
            go_wp2_with fail
            refine (hn _).mono ?_
            rintro e w4 ⟨rfl, hb4⟩
            have HB4 : Hid (Below w1.heap.size w1 w4) := HB3.out.trans ((HO.out.2.trans (hb4.mono HO.out.2.size)).mono HB3.out.size)
            clear hn hb4
            go_wp2
            go_ret2
            rw [HF.out.1, HF.out.2]
            exact ⟨_, rfl, .inl ⟨_, _, rfl, rfl⟩, HB4.out, fit_slice (Nat.le_refl _)⟩
        · have j1 : ¬ (j : Int) < ps.length := by omega
          have HF : Hid (E = 0 ∧ L = ps) := by
            have hf : fstE ps = 0 := fstE_ok fun q hq => by
              obtain ⟨i, hi, rfl⟩ := List.mem_iff_getElem.1 hq
              exact HO.out.1 i hi (by omega)
            exact ⟨by rw [HZ.out.1, hf], by rw [HZ.out.2, hf, if_pos rfl]⟩
          have HB4 : Hid (Below w1.heap.size w1 wr) := HB3.out.trans (hb.mono HB3.out.size)
          have HL5 : Hid (LS wr (.slice (some ⟨B, 0, none⟩) ps.length ps.length) (ps.map mkB)) := HL4.out.below hb
          clear HZ hok hb HO
          go_wp2
          go_ret2
          rw [HF.out.1, HF.out.2]
          exact ⟨_, rfl, HL5.out, HB4.out, fit_slice (Nat.le_refl _)⟩
  · have hz := sp_bare h1l h2
    rw [hz.1, hz.2]
    have hc := cutp_no s h2
    clear hz h1 h1l h2
    go_enter Tryd.func5, Tryd.ntmps5
    go_wp2_with fail
    refine (hc _).mono ?_
    rintro e w1 ⟨rfl, rfl⟩
    go_wp2
    go_ret2
    exact ⟨_, rfl, .inl ⟨_, _, rfl, rfl⟩, Below.refl _ _, fit_slice (Nat.le_refl _)⟩
end Go.Proofs.YtjpgmbebdkiofabDoor
