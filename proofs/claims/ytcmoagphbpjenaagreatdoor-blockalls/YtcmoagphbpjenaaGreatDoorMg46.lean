/- The document's Get and Put of a block, at a device that lies in memory. -/
import Derived.Test.YtcmoagphbpjenaaGreatDoorMg45
namespace Go.Proofs.YtcmoagphbpjenaaGreatDoor
set_option maxRecDepth 20000
open Go.RowKit

theorem readE_has {S : PS} {x : Int} (h : hasB S x = true) : readE S x = 0 ∨ readE S x = 20 ∨ readE S x = 21 := by
  unfold readE heldE
  rw [h]
  simp only [if_true]
  split
  · split
    · exact .inl rfl
    · split
      · exact .inr (.inr rfl)
      · exact .inl rfl
  · exact .inr (.inl rfl)
theorem rreadS_size {w : World} {F : Nat → Prop} {B : Nat} {S : PS} (hp : RefP w F B S) (x : Int) : (readS S x).size ≤ 64 := by
  obtain ⟨kv, dv, wv, ks, ds, h⟩ := hp
  have hk : (keptS S x).size ≤ 64 := by
    unfold keptS
    rw [List.getD_eq_getElem?_getD]
    by_cases hi : x.toNat < S.kept.length
    · rw [h.says _ hi]
      simp only [Option.getD_some]
      split
      · decide
      · rw [List.getD_eq_getElem?_getD]
        by_cases hj : x.toNat < ks.length
        · rw [List.getElem?_eq_getElem hj]
          have := h.texts _ (List.getElem_mem hj)
          simp
          omega
        · rw [List.getElem?_eq_none (by omega)]
          decide
    · rw [List.getElem?_eq_none (by omega)]
      decide
  have hh : (heldS S x).size ≤ 64 := by
    unfold heldS
    split
    · exact hk
    · decide
  unfold readS
  split
  · split
    · cases ht : textOf S.wait x.toNat with
      | none => exact hh
      | some u =>
        have h2 : u.size = 64 := (h.ats _ (List.mem_reverse.1 (textR_mem ht))).2
        simp only [Option.getD_some]
        omega
    · decide
  · decide
theorem rget_ret (tmps : Array Value) (w : World) (t : ByteArray) (m y : Int) (R : Ending → World → Prop) (h1 : tmps.getD 4 undef = .string t) (h2 : tmps.getD 5 undef = .int .i64 m) (h3 : tmps.getD 6 undef = .int .i64 y) (hR : R (.returned (.tuple #[.string t, .int .i64 m, .int .i64 y])) w) :
    bodyPost Tryz.prog Tryz.f13 R .ret { tmps := tmps, defers := [] } w := by
  simp at h1 h2 h3
  exact bodyPost_ret (v := .tuple #[.string t, .int .i64 m, .int .i64 y]) (by simp [results, Tryz.results13, h1, h2, h3]) rfl hR
theorem RefP.c0 {w : World} {F : Nat → Prop} {B : Nat} {S : PS} (hp : RefP w F B S) : ∃ oa cap, w.cell? ⟨B, 0, none⟩ = some (.slice oa S.kept.length cap) ∧ S.kept.length ≤ 32768 := by
  obtain ⟨kv, dv, wv, ks, ds, h⟩ := hp
  obtain ⟨oa, cap, rfl⟩ := h.kform
  exact ⟨oa, cap, Row.cell h.row 0, h.most⟩
set_option maxHeartbeats 4000000 in
theorem rbget_any (B : Nat) (F : Nat → Prop) (S : PS) (at_ : Int) (w : World) (hp : RefP w F B S) (hw : S.wait.length ≤ 1000000) :
    Calls Tryz.prog 13 #[.pointer (some ⟨B, 0, none⟩), .int .i64 at_] w fun e w' => e = .returned (.tuple #[.string (bget S at_).1.1, .int .i64 ((bget S at_).1.2.1 : Nat), .int .i64 (bget S at_).1.2.2]) ∧ RefP w' F B (bget S at_).2 ∧ Touch F w w' := by
  obtain ⟨oa, cap, c0, hm⟩ := hp.c0
  obtain ⟨n, hn⟩ : ∃ n, n = S.kept.length := ⟨_, rfl⟩
  rw [← hn] at c0 hm
  obtain ⟨nb, hnb⟩ : ∃ nb : Nat, nb = n / 8 := ⟨_, rfl⟩
  have d8 : (n : Int) / 8 = (nb : Int) := by omega
  have HN : Hid (n = S.kept.length ∧ nb = n / 8) := ⟨hn, hnb⟩
  cases hb : bhasB S at_
  · have hno : ¬ (0 ≤ at_ ∧ at_ < (nb : Int)) := by
      have := of_decide_eq_false hb
      rwa [← hn, ← hnb] at this
    have HF : Hid (bget S at_ = ((⟨#[]⟩, 0, 2), S) ∧ RefP w F B S) := ⟨by simp [bget, hb], hp⟩
    rw [HF.out.1]
    clear hp hn hnb
    by_cases h0 : at_ < 0
    · clear hno
      go_enter Tryz.func13, Tryz.ntmps13
      go_wp2_with fail
      exact rget_ret _ _ ⟨#[]⟩ 0 2 _ rfl rfl rfl ⟨rfl, HF.out.2, Touch.refl _ _⟩
    · have h1 : decide (at_ < 0) = false := decide_eq_false h0
      have h2 : (nb : Int) ≤ at_ := by omega
      clear hno
      go_enter Tryz.func13, Tryz.ntmps13
      go_wp2_with fail
      exact rget_ret _ _ ⟨#[]⟩ 0 2 _ rfl rfl rfl ⟨rfl, HF.out.2, Touch.refl _ _⟩
  · have hb2 : 0 ≤ at_ ∧ at_ < (nb : Int) := by
      have := of_decide_eq_true hb
      rwa [← hn, ← hnb] at this
    obtain ⟨a, rfl⟩ : ∃ a : Nat, at_ = a := ⟨at_.toNat, by omega⟩
    have HR : Hid (bget S (a : Nat) = getGo a 8 0 S ⟨#[]⟩ 0) := by show _ = _; simp [bget, hb]
    rw [HR.out]
    have ha : a < 4096 := by omega
    have ha2 : a < nb := by omega
    have h2 : decide (nb ≤ a) = false := decide_eq_false (by omega)
    have HAN : Hid (8 * a + 8 ≤ S.kept.length) := by show _ ≤ _; rw [← hn]; omega
    obtain ⟨G, hG⟩ : ∃ G, getGo a 8 0 S ⟨#[]⟩ 0 = G := ⟨_, rfl⟩
    rw [hG]
    have HG : Hid (getGo a 8 0 S ⟨#[]⟩ 0 = G) := hG
    have HP : Hid (RefP w F B S) := hp
    clear hp hb HR hb2 hG hn hnb
    go_enter Tryz.func13, Tryz.ntmps13
    go_wp2_with fail
    go_loopw [7, 8, 9, 10] (fun tv mv bv i wr => ∃ (j : Nat) (Sj : PS) (t : ByteArray) (m : Nat), j ≤ 8 ∧ i = .int .i64 (j : Int) ∧ tv = .string t ∧ mv = .int .i64 (m : Int) ∧ bv = .int .i64 ((2 ^ j : Nat) : Int) ∧ m < 2 ^ j ∧ t.size ≤ 64 * j ∧ getGo a (8 - j) j Sj t m = G ∧ RefP wr F B Sj ∧ Touch F w wr ∧ Sj.wait.length ≤ 1000000 ∧ Sj.kept.length = S.kept.length) (fun _ _ _ i _ => 8 - (intOf i).toNat)
    case atStart => exact ⟨0, S, ⟨#[]⟩, 0, by omega, rfl, rfl, rfl, rfl, by decide, by decide, HG.out, HP.out, Touch.refl _ _, hw, rfl⟩
    case round =>
      clear HG HP c0
      obtain ⟨j, Sj, t, m, hj, rfl, rfl, rfl, rfl, hmj, htz, hgo, hpj, htj, hwj, hkj⟩ := hrel
      by_cases hlt8 : j < 8
      · have j1 : (j : Int) < 8 := by omega
        obtain ⟨x, hx⟩ : ∃ x : Int, x = ((8 * a + j : Nat) : Int) := ⟨_, rfl⟩
        have HGO : Hid (getGo a (8 - j) j Sj t m = if readE Sj x = 0 then getGo a (8 - (j + 1)) (j + 1) (readP Sj x) (t ++ readS Sj x) m else if readE Sj x = 21 then getGo a (8 - (j + 1)) (j + 1) (readP Sj x) (t ++ fillS 0 64) (m + 2 ^ j) else ((⟨#[]⟩, 0, readE Sj x), readP Sj x)) := by
          show _ = _
          rw [show 8 - j = (8 - (j + 1)) + 1 by omega, hx]
          rfl
        rw [HGO.out] at hgo
        have hrd := rread_any B F Sj x wr hpj hwj
        have hsz := rreadS_size hpj x
        have hwl : (readP Sj x).wait.length ≤ 1000000 := by rw [(readP_len Sj x).2]; exact hwj
        have hkl : (readP Sj x).kept.length = S.kept.length := by rw [(readP_len Sj x).1]; exact hkj
        have hre := readE_has (S := Sj) (x := x) (decide_eq_true ⟨by omega, by rw [hkj, hx]; have := HAN.out; omega⟩)
        have m4 : IntKind.i64.wrap (8 * (a : Int)) = 8 * (a : Int) := by rw [IntKind.wrap_i64]; omega
        have m5 : IntKind.i64.wrap (8 * (a : Int) + (j : Int)) = x := by rw [IntKind.wrap_i64]; omega
        have hp2 : (2 : Nat) ^ j ≤ 128 := Nat.le_trans (Nat.pow_le_pow_right (by decide) (show j ≤ 7 by omega)) (by decide)
        obtain ⟨pj, hpw⟩ : ∃ pj : Nat, pj = 2 ^ j := ⟨_, rfl⟩
        have HPW : Hid (2 ^ (j + 1) = 2 * pj ∧ pj = 2 ^ j) := ⟨by rw [hpw, Nat.pow_succ]; omega, hpw⟩
        rw [← hpw] at hmj hp2 ⊢
        have HSK : Hid ((readP Sj x).wait.length ≤ 1000000 ∧ (readP Sj x).kept.length = S.kept.length) := ⟨hwl, hkl⟩
        have HT : Hid (Touch F w wr) := htj
        clear HGO hpj htj hx hwl hkl hpw
        generalize readE Sj x = y at *
        generalize readS Sj x = s at *
        generalize readP Sj x = Sk at *
        have m6 : IntKind.i64.wrap (2 * (pj : Int)) = ((2 * pj : Nat) : Int) := by rw [IntKind.wrap_i64]; omega
        rcases hre with rfl | rfl | rfl
        · rw [if_pos rfl] at hgo
          have hadd : ∀ w', (Op.stringOp .add t s).run Tryz.prog w' = .ok (.string (t ++ s)) w' := fun w' => run_string_add_sum (P := Tryz.prog) (w := w') t s (by omega)
          have HGO : Hid _ := hgo
          have hts : (t ++ s).size ≤ 64 * (j + 1) := by rw [ByteArray.size_append]; omega
          have HTS : Hid ((t ++ s).size ≤ 64 * (j + 1)) := hts
          clear hgo hts
          generalize t ++ s = ts at *
          go_wp2_with fail
          refine hrd.mono ?_
          rintro e w3 ⟨rfl, hp3, ht3⟩
          have HF : Hid (RefP w3 F B Sk ∧ Touch F w w3) := ⟨hp3, HT.out.trans (ht3.mono fun _ h => .inl h)⟩
          clear hrd hp3 ht3 HT
          go_wp2
          go_roundw
          case rel => exact ⟨j + 1, Sk, ts, m, by omega, by go_num, rfl, rfl, by rw [HPW.out.1]; go_num, by rw [HPW.out.1]; omega, HTS.out, HGO.out, HF.out.1, HF.out.2, HSK.out.1, HSK.out.2⟩
          case measure => simp [intOf]; omega
        · rw [if_neg (by decide), if_neg (by decide)] at hgo
          have HGO : Hid _ := hgo
          clear hgo
          go_wp2_with fail
          refine hrd.mono ?_
          rintro e w3 ⟨rfl, hp3, ht3⟩
          have HF : Hid (RefP w3 F B Sk ∧ Touch F w w3) := ⟨hp3, HT.out.trans (ht3.mono fun _ h => .inl h)⟩
          clear hrd hp3 ht3 HT
          go_wp2_with fail
          refine rget_ret _ _ ⟨#[]⟩ 0 20 _ rfl rfl rfl ?_
          rw [← HGO.out]
          exact ⟨rfl, HF.out.1, HF.out.2⟩
        · rw [if_neg (by decide), if_pos rfl] at hgo
          have hadd : ∀ w', (Op.stringOp .add t (fillS 0 64)).run Tryz.prog w' = .ok (.string (t ++ fillS 0 64)) w' := fun w' => run_string_add_sum (P := Tryz.prog) (w := w') t (fillS 0 64) (by rw [fillS_size]; omega)
          have HGO : Hid (getGo a (8 - (j + 1)) (j + 1) Sk (t ++ fillS 0 64) (m + pj) = G) := by rw [HPW.out.2]; exact hgo
          have hts : (t ++ fillS 0 64).size ≤ 64 * (j + 1) := by rw [ByteArray.size_append, fillS_size]; omega
          have HTS : Hid ((t ++ fillS 0 64).size ≤ 64 * (j + 1)) := hts
          have hbl := fun w => blank_any w
          have m7 : IntKind.i64.wrap ((m : Int) + (pj : Int)) = ((m + pj : Nat) : Int) := by rw [IntKind.wrap_i64]; omega
          clear hgo hts
          generalize fillS 0 64 = bl at *
          generalize t ++ bl = ts at *
          go_wp2_with fail
          refine hrd.mono ?_
          rintro e w3 ⟨rfl, hp3, ht3⟩
          have HF0 : Hid (RefP w3 F B Sk ∧ Touch F w w3) := ⟨hp3, HT.out.trans (ht3.mono fun _ h => .inl h)⟩
          clear hrd hp3 ht3 HT
          go_wp2_with fail
          refine (hbl _).mono ?_
          rintro e w4 ⟨rfl, hb4⟩
          have HF : Hid (RefP w4 F B Sk ∧ Touch F w w4) := ⟨HF0.out.1.keep fun k hk _ => hb4.block k hk, HF0.out.2.trans (Touch.of_below hb4)⟩
          clear hb4 HF0 hbl
          go_wp2
          go_roundw
          case rel => exact ⟨j + 1, Sk, ts, m + pj, by omega, by go_num, rfl, by go_num, by rw [HPW.out.1]; go_num, by rw [HPW.out.1]; omega, HTS.out, HGO.out, HF.out.1, HF.out.2, HSK.out.1, HSK.out.2⟩
          case measure => simp [intOf]; omega
      · obtain rfl : j = 8 := by omega
        have HF : Hid (((t, m, (0 : Int)), Sj) = G ∧ RefP wr F B Sj ∧ Touch F w wr) := ⟨hgo, hpj, htj⟩
        clear hgo hpj htj
        go_wp2_with fail
        refine rget_ret _ _ t m 0 _ rfl rfl rfl ?_
        rw [← HF.out.1]
        exact ⟨rfl, HF.out.2⟩
end Go.Proofs.YtcmoagphbpjenaaGreatDoor
