/- The document's vault, the ideal one: Seal, Open. -/
import Derived.Test.YtcefoeaakdemmaaGreatDoorVtRefOps
namespace Go.Proofs.YtcefoeaakdemmaaGreatDoor
set_option maxRecDepth 20000
open Go.RowKit

set_option maxRecDepth 100000 in
set_option maxHeartbeats 4000000 in
theorem rseal_any (B : Nat) (F : Nat → Prop) (S : VS) (z : Int) (a b s : ByteArray) (hs : s.size ≤ 140737488355328) (hl : S.seals.length ≤ 1000000) (w : World) (hp : RefV w F B S) :
    Calls Tryz.prog 18 #[.pointer (some ⟨B, 0, none⟩), .int .i64 z, .string a, .string b, .string s] w fun e w' => e = .returned (.tuple #[.string (sealS S z a b s), .int .i64 (sealE z a)]) ∧ RefV w' (grow F w w') B (sealP S z a b s) ∧ Touch F w w' := by
  have hwr := rwrong_any z a w
  by_cases hf : fitB z a = true
  case neg =>
    have hf' : fitB z a = false := by simpa using hf
    rw [hf'] at hwr
    have HR : Hid (sealS S z a b s = ⟨#[]⟩ ∧ sealE z a = 1 ∧ sealP S z a b s = S) := ⟨by simp [sealS, hf'], by simp [sealE, hf'], by simp [sealP, hf']⟩
    have HP : Hid (RefV w (grow F w w) B S) := hp.mono fun k _ h => .inl h
    clear hp hf hf'
    simp only [Bool.not_false] at hwr
    go_enter Tryz.func18, Tryz.ntmps18
    go_wp2_with fail
    refine hwr.mono ?_
    rintro e w1 ⟨rfl, rfl⟩
    clear hwr
    go_wp2
    go_ret2
    exact ⟨by rw [HR.out.1, HR.out.2.1]; rfl, by rw [HR.out.2.2]; exact HP.out, Touch.refl _ _⟩
  rw [hf] at hwr
  simp only [Bool.not_true] at hwr
  have hfour := rfour_any B F S ⟨z, a, b, s⟩ hl w hp
  simp only [keyS] at hfour
  obtain ⟨hv, pv, fv, h⟩ := hp
  have HP : Hid (RefVAt w F B hv pv fv S) := h
  obtain ⟨op, cp, rfl⟩ := owns_slice h.fs
  have hBw := h.row.lt
  have d0 : w.cell? ⟨B, 0, none⟩ = some (.bool true) := h.row.cell 0
  have hle := numOf_le (⟨z, a, b, s⟩ : Four) S.seals
  clear h
  by_cases h0 : numOf S.seals ⟨z, a, b, s⟩ = 0
  case neg =>
    obtain ⟨k, hk⟩ : ∃ k, numOf S.seals ⟨z, a, b, s⟩ = k + 1 := ⟨numOf S.seals ⟨z, a, b, s⟩ - 1, by omega⟩
    have HR : Hid (sealS S z a b s = s ++ wideS (k + 1) 16 ∧ sealE z a = 0 ∧ sealP S z a b s = S) := ⟨by simp only [sealS, hf, if_true]; rw [numOf_add, if_neg h0, hk], by simp [sealE, hf], by simp only [sealP, hf, if_true]; rw [addN_old h0]⟩
    rw [hk, show (((k + 1 : Nat) : Int) - 1) = (k : Nat) by omega] at hfour
    have hnum := fun W => rnumbered_any ((k : Int) + 1) (k + 1) 16 (by omega) (by omega) (by decide) (by decide) 16 rfl W
    have hz : (wideS (k + 1) 16).size = 16 := wideS_size (by omega) (by decide)
    have hk1 : decide (((k : Nat) : Int) < 0) = false := by simp
    have hk2 : ((k : Nat) : Int) < 1000000 := by omega
    generalize wideS (k + 1) 16 = u at *
    have ha : ∀ w', (Op.stringOp .add s u).run Tryz.prog w' = .ok (.string (s ++ u)) w' := fun w' => run_string_add_sum (P := Tryz.prog) (w := w') _ _ (by omega)
    clear h0 hk hle hf
    go_enter Tryz.func18, Tryz.ntmps18
    go_wp2_with fail
    refine hwr.mono ?_
    rintro e w1 ⟨rfl, rfl⟩
    clear hwr
    go_wp2_with fail
    refine hfour.mono ?_
    rintro e w2 ⟨rfl, hb2⟩
    clear hfour d0
    go_wp2_with fail
    refine (hnum _).mono ?_
    rintro e w3 ⟨rfl, hb3⟩
    have hb := hb2.trans (hb3.mono hb2.size)
    have HF : Hid (RefV w3 (grow F w1 w3) B S ∧ Touch F w1 w3) := ⟨⟨_, _, _, (HP.out.keep fun k hk _ => hb.block k hk).mono fun k _ hf => .inl hf⟩, Touch.of_below hb⟩
    clear hnum hb hb2 hb3
    go_wp2
    go_ret2
    exact ⟨by rw [HR.out.1, HR.out.2.1]; rfl, by rw [HR.out.2.2]; exact HF.out.1, HF.out.2⟩
  have HR : Hid (sealS S z a b s = s ++ wideS (S.seals.length + 1) 16 ∧ sealE z a = 0 ∧ sealP S z a b s = { S with seals := S.seals ++ [⟨z, a, b, s⟩] }) := ⟨by simp only [sealS, hf, if_true]; rw [numOf_add, if_pos h0], by simp [sealE, hf], by simp only [sealP, hf, if_true]; rw [addN_new h0]⟩
  rw [h0, show (((0 : Nat) : Int) - 1) = -1 by rfl] at hfour
  have hnum := fun W => rnumbered_any ((S.seals.length : Int) + 1) (S.seals.length + 1) 16 (by omega) (by omega) (by decide) (by decide) 16 rfl W
  have hz : (wideS (S.seals.length + 1) 16).size = 16 := wideS_size (by omega) (by decide)
  obtain ⟨i0, hi0, hz0, hz1, hz2⟩ := info_parts info_four
  obtain ⟨n, hn⟩ : ∃ n, n = S.seals.length := ⟨_, rfl⟩
  have HE : Hid (n = S.seals.length) := hn
  rw [← hn] at hl hnum hz HR HP
  generalize wideS (n + 1) 16 = u at *
  have ha : ∀ w', (Op.stringOp .add s u).run Tryz.prog w' = .ok (.string (s ++ u)) w' := fun w' => run_string_add_sum (P := Tryz.prog) (w := w') _ _ (by omega)
  clear h0 hle hn hf
  have hone : ∀ u ∈ ([.int .i64 z, .string a, .string b, .string s] : List Value), u.oneCell' = true := by intro u hu; simp at hu; rcases hu with rfl | rfl | rfl | rfl <;> rfl
  go_enter Tryz.func18, Tryz.ntmps18
  go_wp2_with fail
  refine hwr.mono ?_
  rintro e w1 ⟨rfl, rfl⟩
  clear hwr
  go_wp2_with fail
  refine hfour.mono ?_
  rintro e w2 ⟨rfl, hb2⟩
  clear hfour d0
  have hP2 := HP.out.keep (w' := w2) fun k hk _ => hb2.block k hk
  have d4 : w2.cell? ⟨B, 4, none⟩ = some (.slice op n cp) := hP2.row.cell 4
  have hnew : (w2.alloc (.cells #[.int .i64 z, .string a, .string b, .string s] 83)).heap[w2.heap.size]? = some (.cells #[.int .i64 z, .string a, .string b, .string s] 83 (0, 0)) := heap_alloc_new w2 _
  have hA := hP2.keep (w' := w2.alloc (.cells #[.int .i64 z, .string a, .string b, .string s] 83)) fun k hk _ => Below.heap_alloc w2 _ k hk
  have hown := hA.fs
  rw [← HE.out] at hown
  have HA : Hid _ := hA
  have HTB : Hid (Touch F w1 (w2.alloc (.cells #[.int .i64 z, .string a, .string b, .string s] 83))) := Touch.of_below (hb2.alloc hb2.size _)
  clear hA hP2 hb2
  go_wp2_with (first | (at_builtin; refine wpList_append_own_at _ rfl _ _ 34 rfl 0 83 i0 (.agg #[.int .i64 0, .string ⟨#[]⟩, .string ⟨#[]⟩, .string ⟨#[]⟩]) 4 56 Tryz.underlying34 hi0 hz0 hz1 hz2 rfl (by decide) (.slice op n cp) n (fouC S.seals) rfl hown ⟨w2.heap.size, 0, none⟩ 1 1 [.int .i64 z, .string a, .string b, .string s] rfl rfl (World.news_of_block hnew) hone (by unfold maxLen; omega) (by omega) (Nat.zero_le _) ?_))
  intro v1 wB hown1 hgrow1 _ hat1
  obtain ⟨x1, x2, hmid, hT3⟩ := RefVAt.add_f (x := ⟨z, a, b, s⟩) HA.out HTB.out (by rw [← HE.out]; exact hown1) hgrow1 (by rw [show (w2.alloc (.cells #[.int .i64 z, .string a, .string b, .string s] 83)).heap.size = w2.heap.size + 1 by simp]; exact hat1)
  obtain ⟨g1, cap1, rfl, hgc, _⟩ := owns_form hown1 (by omega)
  obtain ⟨w5, hw5⟩ : ∃ w5, wB.setCell ⟨B, 4, none⟩ (.slice (some ⟨g1, 0, none⟩) (n + 1) cap1) = w5 := ⟨_, rfl⟩
  rw [hw5] at hmid hT3
  have HF : Hid (RefV w5 (grow F w1 w5) B (sealP S z a b s) ∧ Touch F w1 w5) := ⟨by rw [HR.out.2.2]; exact ⟨_, _, _, hmid⟩, hT3⟩
  clear hmid hT3 HA HTB hown1 hgrow1 hat1 hown hnew hone
  go_wp2_with fail
  refine (hnum _).mono ?_
  rintro e w6 ⟨rfl, hb⟩
  have HF6 : Hid (RefV w6 (grow F w1 w6) B (sealP S z a b s) ∧ Touch F w1 w6) := ⟨(HF.out.1.below hb).mono fun k _ hf => hf.imp id fun x => ⟨x.1, Nat.lt_of_lt_of_le x.2 hb.size⟩, HF.out.2.trans (Touch.of_below hb)⟩
  clear hnum hb HF
  go_wp2
  go_ret2
  exact ⟨by rw [HR.out.1, HR.out.2.1]; rfl, HF6.out.1, HF6.out.2⟩

set_option maxRecDepth 100000 in
set_option maxHeartbeats 4000000 in
theorem ropen_any (B : Nat) (F : Nat → Prop) (S : VS) (z : Int) (a b s : ByteArray) (hs : s.size ≤ 140737488355328) (hl : S.seals.length ≤ 1000000) (w : World) (hp : RefV w F B S) :
    Calls Tryz.prog 26 #[.pointer (some ⟨B, 0, none⟩), .int .i64 z, .string a, .string b, .string s] w fun e w' => e = .returned (.tuple #[.string (openS S z a b s), .int .i64 (openE S z a b s)]) ∧ Below w.heap.size w w' := by
  have hwr := rwrong_any z a w
  unfold openS openE
  by_cases hf : fitB z a = true
  case neg =>
    have hf' : fitB z a = false := by simpa using hf
    rw [hf'] at hwr ⊢
    simp only [Bool.not_false, Bool.false_eq_true, if_false] at hwr ⊢
    clear hp hf hf'
    go_enter Tryz.func26, Tryz.ntmps26
    go_wp2_with fail
    refine hwr.mono ?_
    rintro e w1 ⟨rfl, rfl⟩
    clear hwr
    go_wp2
    go_ret2
    exact ⟨rfl, Below.refl _ _⟩
  rw [hf] at hwr ⊢
  simp only [Bool.not_true, if_true] at hwr ⊢
  by_cases h16 : s.size < 16
  · have h16' : (s.size : Int) < 16 := by omega
    simp only [h16, if_true]
    clear hp hf
    go_enter Tryz.func26, Tryz.ntmps26
    go_wp2_with fail
    refine hwr.mono ?_
    rintro e w1 ⟨rfl, rfl⟩
    clear hwr
    go_wp2
    go_ret2
    exact ⟨rfl, Below.refl _ _⟩
  have h16' : ¬ (s.size : Int) < 16 := by omega
  simp only [h16, if_false]
  have hfour := rfour_any B F S ⟨z, a, b, headS s⟩ hl w hp
  simp only [keyS] at hfour
  have hle := numOf_le (⟨z, a, b, headS s⟩ : Four) S.seals
  obtain ⟨hv, pv, fv, h⟩ := hp
  have d0 : w.cell? ⟨B, 0, none⟩ = some (.bool true) := h.row.cell 0
  clear h
  have e1 : headS s = s.extract 0 (s.size - 16) := rfl
  have e2 : tagS16 s = s.extract (s.size - 16) s.size := rfl
  have hob : openB S z a b s = decide (numOf S.seals ⟨z, a, b, headS s⟩ ≠ 0 ∧ tagS16 s = wideS (numOf S.seals ⟨z, a, b, headS s⟩) 16) := rfl
  obtain ⟨q, hq⟩ : ∃ q : Nat, q = s.size - 16 := ⟨_, rfl⟩
  have hq1 : (s.size : Int) - 16 = (q : Nat) := by omega
  have hq3 : wrap64 ((q : Nat) : Int) = (q : Nat) := by unfold wrap64; omega
  have n0 : (0 : Int) ≤ (q : Nat) := by omega
  have n1 : ((q : Nat) : Int) ≤ (s.size : Nat) := by omega
  rw [← hq] at e1 e2
  have hes : (s.extract 0 q).size = q := by simp; omega
  clear hq h16 hf
  by_cases h0 : numOf S.seals ⟨z, a, b, headS s⟩ = 0
  · rw [show openB S z a b s = false from by rw [hob]; simp [h0]]
    rw [h0, show (((0 : Nat) : Int) - 1) = -1 by rfl] at hfour
    simp only [Bool.false_eq_true, if_false]
    rw [e1] at hfour
    clear h0 hle hob e1 e2
    go_enter Tryz.func26, Tryz.ntmps26
    go_wp2_with fail
    refine hwr.mono ?_
    rintro e w1 ⟨rfl, rfl⟩
    clear hwr
    go_wp2_with fail
    refine hfour.mono ?_
    rintro e w2 ⟨rfl, hb2⟩
    have HB : Hid (Below w1.heap.size w1 w2) := hb2
    clear hfour d0 hb2
    go_wp2_with fail
    go_quiet (fail)
    have HF : Hid (Below w1.heap.size w1 (w2.drewN nq)) := HB.out.trans ⟨rfl, rfl, rfl, Nat.le_refl _, fun _ _ => rfl⟩
    clear HB
    go_wp2
    go_ret2
    exact ⟨rfl, HF.out⟩
  obtain ⟨k, hk⟩ : ∃ k, numOf S.seals ⟨z, a, b, headS s⟩ = k + 1 := ⟨numOf S.seals ⟨z, a, b, headS s⟩ - 1, by omega⟩
  rw [hk, show (((k + 1 : Nat) : Int) - 1) = (k : Nat) by omega] at hfour
  have hnum := fun W => rnumbered_any ((k : Int) + 1) (k + 1) 16 (by omega) (by omega) (by decide) (by decide) 16 rfl W
  have hk1 : decide (((k : Nat) : Int) < 0) = false := by simp
  have hk2 : ((k : Nat) : Int) < 1000000 := by omega
  have hob2 : openB S z a b s = ((s.extract q s.size).toList == (wideS (k + 1) 16).toList) := by rw [hob, hk, beq_dec3, e2]; simp
  rw [hob2]
  generalize wideS (k + 1) 16 = u at *
  rw [e1] at hfour ⊢
  clear h0 hk hle hob hob2 e1 e2
  obtain ⟨T, hT⟩ : ∃ T, T = s.extract q s.size := ⟨_, rfl⟩
  have HTT : Hid (s.extract q s.size = T) := hT.symm
  rw [← hT]
  clear hT
  obtain ⟨bb, hbb⟩ : ∃ bb, bb = (T.toList == u.toList) := ⟨_, rfl⟩
  have HBB : Hid ((T.toList == u.toList) = bb) := hbb.symm
  rw [← hbb]
  clear hbb
  have HK1 : Hid (decide (((k : Nat) : Int) < 0) = false ∧ IntKind.i64.wrap (((k : Nat) : Int) + 1) = ((k : Nat) : Int) + 1) := ⟨hk1, by rw [IntKind.wrap_i64]; omega⟩
  clear hk1 hk2
  cases bb
  case' false => simp only [Bool.false_eq_true, if_false]
  case' true => simp only [if_true]
  all_goals
    go_enter Tryz.func26, Tryz.ntmps26
    go_wp2_with fail
    refine hwr.mono ?_
    rintro e w1 ⟨rfl, rfl⟩
    clear hwr
    go_wp2_with fail
    refine hfour.mono ?_
    rintro e w2 ⟨rfl, hb2⟩
    have HB : Hid (Below w1.heap.size w1 w2) := hb2
    clear hfour d0 hb2
    have hTT := HTT.out
    have hBB := HBB.out
    obtain ⟨hk1, hk3⟩ := HK1.out
    go_wp2_with fail
    generalize hHd : s.extract 0 q = Hd at *
    have HHd : Hid (s.extract 0 q = Hd) := hHd
    clear hq1 hq3 hs hl HK1 HBB HTT hHd
    go_region_held3 (fun _ => True) (exact trivial) (first | (go_at_call 40; refine (hnum _).mono ?_; rintro e wA ⟨rfl, hA⟩))
    have HF : Hid (Below w1.heap.size w1 wA) := HB.out.trans ((show Below w2.heap.size w2 w2.drew from ⟨rfl, rfl, rfl, Nat.le_refl _, fun _ _ => rfl⟩).trans hA |>.mono HB.out.size)
    clear HB hA hnum
    go_wp2
    go_ret2
    exact ⟨by first | (rw [HHd.out]; rfl) | rfl, HF.out⟩
end Go.Proofs.YtcefoeaakdemmaaGreatDoor
