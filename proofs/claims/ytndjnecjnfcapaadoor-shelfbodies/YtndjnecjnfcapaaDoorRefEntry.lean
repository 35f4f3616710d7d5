/- The document's Entry, called with any entry whose name is a text of Go, tells the bytes entS and the error entE, and changes nothing that was there. -/
import Derived.Test.YtndjnecjnfcapaaDoorRefLaid
import Derived.Test.YtndjnecjnfcapaaDoorNoughts
namespace Go.Proofs.YtndjnecjnfcapaaDoor
set_option maxRecDepth 20000
open Go.RowKit Go.Lib

theorem rentry_long (s : ByteArray) (a1 a2 : Int) (h : (19 : Int) < s.size) (w : World) :
    Calls Tryd.prog 28 #[.agg #[.string s, .int .i64 a1, .int .i64 a2]] w fun e w' => e = .returned (.tuple #[.string ByteArray.empty, .int .i64 4]) ∧ Below w.heap.size w w' := by
  go_enter Tryd.func28, Tryd.ntmps28
  go_wp2
  go_ret2
  exact ⟨rfl, (Below.refl _ _).alloc (Nat.le_refl _) _⟩

set_option maxHeartbeats 400000 in
theorem rentry_form (s : ByteArray) (a1 a2 : Int) (h : ¬ (19 : Int) < s.size) (hf : entFree s a1 a2 = false) (w : World) :
    Calls Tryd.prog 28 #[.agg #[.string s, .int .i64 a1, .int .i64 a2]] w fun e w' => e = .returned (.tuple #[.string ByteArray.empty, .int .i64 5]) ∧ Below w.heap.size w w' := by
  obtain rfl : s = ByteArray.empty := by simp [entFree] at hf; exact hf.1
  by_cases h1 : a1 = 0
  · have h1b : (a1 != 0) = false := by simpa using h1
    have h2b : (a2 != 0) = true := by simp [entFree, h1] at hf; simpa using hf
    clear hf h1
    go_enter Tryd.func28, Tryd.ntmps28
    go_wp2
    go_ret2
    exact ⟨rfl, (Below.refl _ _).alloc (Nat.le_refl _) _⟩
  · have h1b : (a1 != 0) = true := by simpa using h1
    clear hf h1
    go_enter Tryd.func28, Tryd.ntmps28
    go_wp2
    go_ret2
    exact ⟨rfl, (Below.refl _ _).alloc (Nat.le_refl _) _⟩

theorem run_byte_text (W : World) (g : Nat) (x : Int) (h : W.cell? ⟨g, 0, none⟩ = some (.int .u8 x)) : (convert 43 9 (.slice (some ⟨g, 0, none⟩) 1 1)).run Tryd.prog W = .ok (.string (strOfNums [x])) W :=
  run_convert_bytes_arg (P := Tryd.prog) W 43 5 Tryd.underlying43 Tryd.underlying5 g 0 1 1 [x] rfl (fun i hi => by
    obtain rfl : i = 0 := by omega
    exact h) 9 Tryd.underlying9

/-- What holds behind every operation may be said more weakly. -/
theorem wpAnyH_monoS {P : Program} {md : Region.Mode} {ops : Array Oper} {Q : Exit → Act → World → Prop} {S S' : World → Prop} (hSS : ∀ w, S' w → S w) :
    ∀ (fuel : Nat) (listed : Array Bool) (a : Act) (w : World), wpAnyH P md ops Q S' fuel listed a w → wpAnyH P md ops Q S fuel listed a w
  | 0, _, _, _, h => h
  | fuel + 1, _, _, _, h => ⟨h.1, fun i hi => wpOp_mono (fun a' w' h' => ⟨hSS w' h'.1, wpAnyH_monoS hSS fuel _ a' w' h'.2⟩) (h.2 i hi)⟩

theorem cell_alloc_old {w : World} {b off : Nat} {v : Value} (h : w.cell? ⟨b, off, none⟩ = some v) (o : Obj) : (w.alloc o).cell? ⟨b, off, none⟩ = some v :=
  (World.cell?_alloc_past _ _ _ (block_lt_of_cell h)).trans h
theorem cell_alloc_drew {w : World} {b off : Nat} {v : Value} (h : w.cell? ⟨b, off, none⟩ = some v) (o : Obj) : (w.alloc o).drew.cell? ⟨b, off, none⟩ = some v := cell_alloc_old h o
theorem cell_alloc_one (w : World) (v : Value) (t : TypeId) : (w.alloc (.cells #[v] t)).cell? ⟨w.heap.size, 0, none⟩ = some v := by
  rw [World.cell?_alloc_at _ _ _ _ rfl]; rfl

/-- A name's length as a text of one byte. -/
def lenS (s : ByteArray) : ByteArray := strOfNums [IntKind.u8.wrap (s.size : Int)]
theorem lenS_size (s : ByteArray) : (lenS s).size = 1 := rfl
theorem lenS_eq {s : ByteArray} (h : s.size ≤ 19) : lenS s = putS s.size 1 := by
  have e : putS (s.size : Int) 1 = strOfNums (leI 1 s.size) := putS_ok (n := s.size) (m := 1) (by decide) (by decide) (by omega) (by rw [Int.pow_succ]; omega)
  have e2 : leI 1 (s.size : Int) = [(s.size : Int)] := by
    show [(s.size : Int) / 256 ^ 0 % 256] = _
    rw [Int.pow_zero, Int.ediv_one, Int.emod_eq_of_lt (by omega) (by omega)]
  have e3 : IntKind.u8.wrap (s.size : Int) = s.size := by rw [IntKind.wrap_u8]; omega
  rw [e, e2]
  unfold lenS
  rw [e3]

theorem entText {s : ByteArray} (h : s.size ≤ 19) (l : List UInt8) : lenS s ++ s ++ noughtsS (19 - s.size) ++ ⟨l.toArray⟩ = ⟨(entPre s ++ l ++ List.replicate 0 0).toArray⟩ := by
  rw [lenS_eq h, pad_append]
  unfold entPre
  rw [List.replicate_zero, List.append_nil]
  apply ByteArray.ext
  apply Array.toList_inj.1
  simp

set_option maxHeartbeats 2000000 in
theorem rentry_in (s : ByteArray) (a1 a2 : Int) (hs : s.size ≤ 19) (hf : (s.toList.isEmpty = true ∧ (a1 != 0) = false ∧ (a2 != 0) = false) ∨ s.toList.isEmpty = false) (hm : ∀ p ∈ entPs a1 a2, p.1 ≤ 9223372036854775807) (w : World) :
    Calls Tryd.prog 28 #[.agg #[.string s, .int .i64 a1, .int .i64 a2]] w fun e w' => e = .returned (.tuple #[.string (recS (entPre s) (entPs a1 a2) 0), .int .i64 (recE (entPs a1 a2))]) ∧ Below w.heap.size w w' := by
  have hs1 : ¬ (19 : Int) < s.size := by omega
  have HM : Hid (∀ p ∈ entPs a1 a2, p.1 ≤ 9223372036854775807) := hm
  clear hm
  rcases hf with ⟨hf1, hf2, hf3⟩ | hf
  all_goals
    go_enter Tryd.func28, Tryd.ntmps28
    go_wp2_with fail
    refine (rlaid_blk (entPs a1 a2) 2 rfl (by decide) _ _ 2 2 _ 3 3 (by exact heap3_1 w _ _ _) (by exact heap3_2 w _ _ _) HM.out).mono ?_
    rintro e w1 ⟨rfl, hb1⟩
    have c0 := (hb1.cell (p := ⟨w.heap.size, 0, none⟩) (by simp; omega)).trans (show _ = some (Value.string s) from by
      rw [World.cell?_alloc_past _ _ _ (by simp; omega)]; exact cells_boxed w _ _ _ 0 _ rfl)
    have hb : Below w.heap.size w w1 := (below3 w _ _ _).trans (hb1.mono (by simp; omega))
    clear hb1
    cases ho : laidOk (entPs a1 a2) with
    | false =>
      have HO : Hid (laidOk (entPs a1 a2) = false) := ho
      clear ho
      go_wp2
      go_ret2
      exact ⟨by rw [recS_no HO.out, recE_no HO.out]; rfl, hb⟩
    | true =>
      have HO : Hid (laidOk (entPs a1 a2) = true) := ho
      rw [laidS_ok ho]
      have hsz : (⟨(laidL (entPs a1 a2)).toArray⟩ : ByteArray).size = 8 := by have := laidL_length _ ho; simp [ByteArray.size, this]; rfl
      clear ho
      generalize hG : (⟨(laidL (entPs a1 a2)).toArray⟩ : ByteArray) = g at *
      have HG : Hid ((⟨(laidL (entPs a1 a2)).toArray⟩ : ByteArray) = g) := hG
      clear hG
      have hadd := fun w2 => run_string_add_sum (P := Tryd.prog) (w := w2) (lenS s) s (by rw [lenS_size]; omega)
      have hadd2 := fun w2 => run_string_add_sum (P := Tryd.prog) (w := w2) (lenS s ++ s) (noughtsS (19 - s.size)) (by
        rw [noughtsS_size, ByteArray.size_append, lenS_size]; omega)
      have hadd3 := fun w2 => run_string_add_sum (P := Tryd.prog) (w := w2) (lenS s ++ s ++ noughtsS (19 - s.size)) g (by
        rw [ByteArray.size_append, noughtsS_size, ByteArray.size_append, lenS_size, hsz]; omega)
      clear hsz
      have hlt := block_lt_of_cell c0
      have HZ : Hid (IntKind.i64.wrap (19 - (s.size : Int)) = ((19 - s.size : Nat) : Int)) := by show _ = _; rw [IntKind.wrap_i64]; omega
      have hcv := fun (W : World) (g : Nat) (h : W.cell? ⟨g, 0, none⟩ = some (.int .u8 (IntKind.u8.wrap (s.size : Int)))) => run_byte_text W g (IntKind.u8.wrap (s.size : Int)) h
      rw [show strOfNums [IntKind.u8.wrap (s.size : Int)] = lenS s from rfl] at hcv
      go_wp2
      refine wp_region_noPanic ?_
      refine wp_region_held_drew (S := fun w' => w'.cell? ⟨w.heap.size, 0, none⟩ = some (.string s)) (by kernel_rfl) ?_ (fun hHeld => ?_)
      · simpa using c0
      refine wpAnyH_take (i := 0) (v := .pointer (some ⟨w.heap.size, 0, none⟩)) rfl (by kernel_rfl) (by kernel_rfl) (by kernel_rfl) (fun _ _ _ h => h) (Or.inl ⟨by rfl, ?_⟩) (by assumption) ?_
      · intro w' hSw; (try dsimp only at hSw); go_simp
      simp only [Act.put]
      refine wpAnyH_take (i := 1) (v := .string s) rfl (by kernel_rfl) (by kernel_rfl) (by kernel_rfl) (fun _ _ _ h => h) (Or.inl ⟨by rfl, ?_⟩) (by assumption) ?_
      · intro w' hSw; (try dsimp only at hSw); go_simp
      simp only [Act.put]
      refine wpAnyH_take (i := 2) (v := .int .i64 s.size) rfl (by kernel_rfl) (by kernel_rfl) (by kernel_rfl) (fun _ _ _ h => h) (Or.inl ⟨by rfl, ?_⟩) (by assumption) ?_
      · intro w' hSw; (try dsimp only at hSw); go_simp
      simp only [Act.put]
      refine wpAnyH_take (i := 3) (v := .int .u8 (IntKind.u8.wrap s.size)) rfl (by kernel_rfl) (by kernel_rfl) (by kernel_rfl) (fun _ _ _ h => h) (Or.inl ⟨by rfl, ?_⟩) (by assumption) ?_
      · intro w' hSw; (try dsimp only at hSw); go_simp
      simp only [Act.put]
      refine wpAnyH_take (i := 6) (v := .pointer (some ⟨w.heap.size, 0, none⟩)) rfl (by kernel_rfl) (by kernel_rfl) (by kernel_rfl) (fun _ _ _ h => h) (Or.inl ⟨by rfl, ?_⟩) (by assumption) ?_
      · intro w' hSw; (try dsimp only at hSw); go_simp
      simp only [Act.put]
      refine wpAnyH_take (i := 7) (v := .string s) rfl (by kernel_rfl) (by kernel_rfl) (by kernel_rfl) (fun _ _ _ h => h) (Or.inl ⟨by rfl, ?_⟩) (by assumption) ?_
      · intro w' hSw; (try dsimp only at hSw); go_simp
      simp only [Act.put]
      refine wpAnyH_take (i := 9) (v := .pointer (some ⟨w.heap.size, 0, none⟩)) rfl (by kernel_rfl) (by kernel_rfl) (by kernel_rfl) (fun _ _ _ h => h) (Or.inl ⟨by rfl, ?_⟩) (by assumption) ?_
      · intro w' hSw; (try dsimp only at hSw); go_simp
      simp only [Act.put]
      refine wpAnyH_take (i := 10) (v := .string s) rfl (by kernel_rfl) (by kernel_rfl) (by kernel_rfl) (fun _ _ _ h => h) (Or.inl ⟨by rfl, ?_⟩) (by assumption) ?_
      · intro w' hSw; (try dsimp only at hSw); go_simp
      simp only [Act.put]
      refine wpAnyH_take (i := 11) (v := .int .i64 s.size) rfl (by kernel_rfl) (by kernel_rfl) (by kernel_rfl) (fun _ _ _ h => h) (Or.inl ⟨by rfl, ?_⟩) (by assumption) ?_
      · intro w' hSw; (try dsimp only at hSw); go_simp
      simp only [Act.put]
      refine wpAnyH_take (i := 12) (v := .int .i64 (IntKind.i64.wrap (19 - s.size))) rfl (by kernel_rfl) (by kernel_rfl) (by kernel_rfl) (fun _ _ _ h => h) (Or.inl ⟨by rfl, ?_⟩) (by assumption) ?_
      · intro w' hSw; (try dsimp only at hSw); go_simp
      simp only [Act.put]
      refine wpAnyH_take (i := 15) (v := .string g) rfl (by kernel_rfl) (by kernel_rfl) (by kernel_rfl) (fun _ _ _ h => h) (Or.inl ⟨by rfl, ?_⟩) (by assumption) ?_
      · intro w' hSw; (try dsimp only at hSw); go_simp
      simp only [Act.put]
      refine wpAnyH_ready (rs := [4, 13]) (by kernel_rfl) (by simp) ?_
      refine AllReadyH.cons rfl (fun K hK => ?_) (AllReadyH.cons rfl (fun K hK => ?_) AllReadyH.nil)
      · go_simp
        refine hK.out _ _ (cell_alloc_drew c0 _) (fun hHeld2 => ?_)
        clear hK K hHeld
        refine wpAnyH_monoS (S' := fun w' => w'.cell? ⟨w.heap.size, 0, none⟩ = some (.string s) ∧ w'.cell? ⟨w1.heap.size, 0, none⟩ = some (.int .u8 (IntKind.u8.wrap (s.size : Int)))) (fun _ h => h.1) _ _ _ _ ?_
        have hHeld : (w1.alloc (.cells #[.int .u8 (IntKind.u8.wrap (s.size : Int))] 5)).drew.cell? ⟨w.heap.size, 0, none⟩ = some (.string s) ∧ (w1.alloc (.cells #[.int .u8 (IntKind.u8.wrap (s.size : Int))] 5)).drew.cell? ⟨w1.heap.size, 0, none⟩ = some (.int .u8 (IntKind.u8.wrap (s.size : Int))) := ⟨hHeld2, cell_alloc_one _ _ _⟩
        clear hHeld2
        refine wpAnyH_take (i := 5) (v := .string (lenS s)) rfl (by kernel_rfl) (by kernel_rfl) (by kernel_rfl) (fun _ _ _ h => h) (Or.inl ⟨by rfl, ?_⟩) (by assumption) ?_
        · intro w' hSw; (try dsimp only at hSw); go_simp
        simp only [Act.put]
        refine wpAnyH_take (i := 8) (v := .string (lenS s ++ s)) rfl (by kernel_rfl) (by kernel_rfl) (by kernel_rfl) (fun _ _ _ h => h) (Or.inl ⟨by rfl, ?_⟩) (by assumption) ?_
        · intro w' hSw; (try dsimp only at hSw); go_simp
        simp only [Act.put]
        refine wpAnyH_ready (rs := [13]) (by kernel_rfl) (by simp) ?_
        refine AllReadyH.cons rfl (fun K hK => ?_) AllReadyH.nil
        go_simp
        refine (noughts_z _ (19 - s.size) HZ.out (by omega) _).mono ?_
        rintro e w2 ⟨rfl, hb2⟩
        go_wp2_with fail
        refine hK.out _ _ ⟨(hb2.cell (block_lt_of_cell hHeld.1)).trans hHeld.1, (hb2.cell (block_lt_of_cell hHeld.2)).trans hHeld.2⟩ (fun hHeld2 => ?_)
        clear hK K hHeld
        refine wpAnyH_take (i := 14) (v := .string (lenS s ++ s ++ noughtsS (19 - s.size))) rfl (by kernel_rfl) (by kernel_rfl) (by kernel_rfl) (fun _ _ _ h => h) (Or.inl ⟨by rfl, ?_⟩) (by assumption) ?_
        · intro w' hSw; (try dsimp only at hSw); go_simp
        simp only [Act.put]
        refine wpAnyH_take (i := 16) (v := .string (lenS s ++ s ++ noughtsS (19 - s.size) ++ g)) rfl (by kernel_rfl) (by kernel_rfl) (by kernel_rfl) (fun _ _ _ h => h) (Or.inl ⟨by rfl, ?_⟩) (by assumption) ?_
        · intro w' hSw; (try dsimp only at hSw); go_simp
        simp only [Act.put]
        refine wpAnyH_ready (rs := [17]) (by kernel_rfl) (by simp) ?_
        refine AllReadyH.cons rfl (fun K hK => ?_) AllReadyH.nil
        go_simp
        refine hK.out _ _ (by assumption) (fun _ => ?_)
        clear hK K
        refine wpAnyH_ready (rs := [18]) (by kernel_rfl) (by simp) ?_
        refine AllReadyH.cons rfl (fun K hK => ?_) AllReadyH.nil
        go_simp
        refine hK.out _ _ (by assumption) (fun _ => ?_)
        clear hK K
        refine wpAnyH_done (by kernel_rfl) ?_ _
        refine NoPanic.normal ?_
        go_wp2
        go_ret2
        refine ⟨?_, (hb.alloc hb.size _).drew.trans (hb2.mono (by have := hb.size; simp; omega))⟩
        rw [recS_ok HO.out, recE_ok HO.out, ← entText (by omega), HG.out]
        rfl
      · go_simp
        refine (noughts_z _ (19 - s.size) HZ.out (by omega) _).mono ?_
        rintro e w2 ⟨rfl, hb2⟩
        go_wp2_with fail
        refine hK.out _ _ ((hb2.cell (block_lt_of_cell hHeld)).trans hHeld) (fun hHeld2 => ?_)
        clear hK K hHeld
        refine wpAnyH_ready (rs := [4]) (by kernel_rfl) (by simp) ?_
        refine AllReadyH.cons rfl (fun K hK => ?_) AllReadyH.nil
        go_simp
        refine hK.out _ _ (cell_alloc_old hHeld2 _) (fun hHeld3 => ?_)
        clear hK K hHeld2
        refine wpAnyH_monoS (S' := fun w' => w'.cell? ⟨w.heap.size, 0, none⟩ = some (.string s) ∧ w'.cell? ⟨w2.heap.size, 0, none⟩ = some (.int .u8 (IntKind.u8.wrap (s.size : Int)))) (fun _ h => h.1) _ _ _ _ ?_
        have hHeld : (w2.alloc (.cells #[.int .u8 (IntKind.u8.wrap (s.size : Int))] 5)).cell? ⟨w.heap.size, 0, none⟩ = some (.string s) ∧ (w2.alloc (.cells #[.int .u8 (IntKind.u8.wrap (s.size : Int))] 5)).cell? ⟨w2.heap.size, 0, none⟩ = some (.int .u8 (IntKind.u8.wrap (s.size : Int))) := ⟨hHeld3, cell_alloc_one _ _ _⟩
        clear hHeld3
        refine wpAnyH_take (i := 5) (v := .string (lenS s)) rfl (by kernel_rfl) (by kernel_rfl) (by kernel_rfl) (fun _ _ _ h => h) (Or.inl ⟨by rfl, ?_⟩) (by assumption) ?_
        · intro w' hSw; (try dsimp only at hSw); go_simp
        simp only [Act.put]
        refine wpAnyH_take (i := 8) (v := .string (lenS s ++ s)) rfl (by kernel_rfl) (by kernel_rfl) (by kernel_rfl) (fun _ _ _ h => h) (Or.inl ⟨by rfl, ?_⟩) (by assumption) ?_
        · intro w' hSw; (try dsimp only at hSw); go_simp
        simp only [Act.put]
        refine wpAnyH_take (i := 14) (v := .string (lenS s ++ s ++ noughtsS (19 - s.size))) rfl (by kernel_rfl) (by kernel_rfl) (by kernel_rfl) (fun _ _ _ h => h) (Or.inl ⟨by rfl, ?_⟩) (by assumption) ?_
        · intro w' hSw; (try dsimp only at hSw); go_simp
        simp only [Act.put]
        refine wpAnyH_take (i := 16) (v := .string (lenS s ++ s ++ noughtsS (19 - s.size) ++ g)) rfl (by kernel_rfl) (by kernel_rfl) (by kernel_rfl) (fun _ _ _ h => h) (Or.inl ⟨by rfl, ?_⟩) (by assumption) ?_
        · intro w' hSw; (try dsimp only at hSw); go_simp
        simp only [Act.put]
        refine wpAnyH_ready (rs := [17]) (by kernel_rfl) (by simp) ?_
        refine AllReadyH.cons rfl (fun K hK => ?_) AllReadyH.nil
        go_simp
        refine hK.out _ _ (by assumption) (fun _ => ?_)
        clear hK K
        refine wpAnyH_ready (rs := [18]) (by kernel_rfl) (by simp) ?_
        refine AllReadyH.cons rfl (fun K hK => ?_) AllReadyH.nil
        go_simp
        refine hK.out _ _ (by assumption) (fun _ => ?_)
        clear hK K
        refine wpAnyH_done (by kernel_rfl) ?_ _
        refine NoPanic.normal ?_
        go_wp2
        go_ret2
        refine ⟨?_, (hb.drew.trans (hb2.mono (by have := hb.size; simpa using this))).alloc (by have := hb2.size; have := hb.size; simp at *; omega) _⟩
        rw [recS_ok HO.out, recE_ok HO.out, ← entText (by omega), HG.out]
        rfl

theorem rentry_any (s : ByteArray) (a1 a2 : Int) (hm : ∀ p ∈ entPs a1 a2, p.1 ≤ 9223372036854775807) (w : World) :
    Calls Tryd.prog 28 #[.agg #[.string s, .int .i64 a1, .int .i64 a2]] w fun e w' => e = .returned (.tuple #[.string (entS s a1 a2), .int .i64 (entE s a1 a2)]) ∧ Below w.heap.size w w' := by
  by_cases hs : s.size ≤ 19
  · cases hf : entFree s a1 a2 with
    | true =>
      have e1 : entS s a1 a2 = recS (entPre s) (entPs a1 a2) 0 := by unfold entS; rw [if_pos ⟨hs, hf⟩]
      have e2 : entE s a1 a2 = recE (entPs a1 a2) := by unfold entE; rw [if_pos hs, if_pos hf]
      rw [e1, e2]
      refine rentry_in s a1 a2 hs ?_ hm w
      by_cases h0 : s.size = 0
      · obtain rfl : s = ByteArray.empty := by simpa using h0
        simp [entFree] at hf
        exact .inl ⟨by rw [ByteArray.toList_eq]; rfl, by simp [hf.1], by simp [hf.2]⟩
      · exact .inr (toList_some h0)
    | false =>
      have e1 : entS s a1 a2 = ByteArray.empty := by unfold entS; rw [if_neg (by rw [hf]; simp)]
      have e2 : entE s a1 a2 = 5 := by unfold entE; rw [if_pos hs, if_neg (by rw [hf]; simp)]
      rw [e1, e2]
      exact rentry_form s a1 a2 (by omega) hf w
  · have e1 : entS s a1 a2 = ByteArray.empty := by unfold entS; rw [if_neg (fun h => hs h.1)]
    have e2 : entE s a1 a2 = 4 := by unfold entE; rw [if_neg hs]
    rw [e1, e2]
    exact rentry_long s a1 a2 (by omega) w
end Go.Proofs.YtndjnecjnfcapaaDoor
