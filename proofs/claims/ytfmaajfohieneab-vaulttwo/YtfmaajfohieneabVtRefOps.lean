/- The document's vault, the ideal one: Mac, Made, Seal, Open. -/
import Derived.Test.YtfmaajfohieneabVtRefPair
namespace Go.Proofs.Ytfmaajfohieneab
open Go.RowKit

theorem rwrong_any (z : Int) (a : ByteArray) (w : World) : Calls Try.prog 27 #[.int .i64 z, .string a] w fun e w' => e = .returned (.bool (!fitB z a)) ∧ w' = w := by
  by_cases h1 : z < 0
  · have hr : fitB z a = false := by unfold fitB; simp; intro h; omega
    rw [hr]
    go_enter Try.func27, Try.ntmps27
    go_wp2
    go_ret
    exact ⟨rfl, rfl⟩
  by_cases h2 : 281474976710655 < z
  · have hr : fitB z a = false := by unfold fitB; simp; intro _ h; omega
    rw [hr]
    go_enter Try.func27, Try.ntmps27
    go_wp2
    go_ret
    exact ⟨rfl, rfl⟩
  by_cases h3 : (a.size : Int) = 12
  · have hr : fitB z a = true := by unfold fitB; simp; omega
    have h4 : ((a.size : Int) == 12) = true := by simp [h3]
    rw [hr]
    go_enter Try.func27, Try.ntmps27
    go_wp2
    go_ret
    exact ⟨rfl, rfl⟩
  · have hr : fitB z a = false := by unfold fitB; simp; omega
    have h4 : ((a.size : Int) == 12) = false := beq_false_of_ne h3
    have h5 : ((a.size : Int) != 12) = true := by simp [bne, h4]
    rw [hr]
    go_enter Try.func27, Try.ntmps27
    go_wp2
    go_ret
    exact ⟨rfl, rfl⟩
theorem beq_dec3 (a b : ByteArray) : (a.toList == b.toList) = decide (a = b) := by
  by_cases e : a = b
  · subst e; simp
  · rw [str_ne e]; simp [e]
theorem info_pair : (Try.prog.info? 59).map (fun i => (i.zero, i.size, i.bytes)) = some (some (.agg #[.string ⟨#[]⟩, .string ⟨#[]⟩]), 2, 32) := by kernel_rfl
theorem info_four : (Try.prog.info? 63).map (fun i => (i.zero, i.size, i.bytes)) = some (some (.agg #[.int .i64 0, .string ⟨#[]⟩, .string ⟨#[]⟩, .string ⟨#[]⟩]), 4, 56) := by kernel_rfl

set_option maxRecDepth 100000 in
set_option maxHeartbeats 2000000 in
theorem rmac_any (B : Nat) (F : Nat → Prop) (S : VS) (a s : ByteArray) (hl : S.marks.length ≤ 1000000) (w : World) (hp : RefV w F B S) :
    Calls Try.prog 16 #[.pointer (some ⟨B, 0, none⟩), .string a, .string s] w fun e w' => e = .returned (.string (macS S a s)) ∧ RefV w' (grow F w w') B (macP S a s) ∧ Touch F w w' := by
  have hpair := rpair_any B F S a s hl w hp
  obtain ⟨hv, pv, fv, h⟩ := hp
  have HP : Hid (RefVAt w F B hv pv fv S) := h
  obtain ⟨op, cp, rfl⟩ := owns_slice h.ps
  have d0 : w.cell? ⟨B, 0, none⟩ = some (.bool true) := h.row.cell 0
  have d3 : w.cell? ⟨B, 3, none⟩ = some (.slice op S.marks.length cp) := h.row.cell 3
  have hle := numOf_le (a, s) S.marks
  clear h
  by_cases h0 : numOf S.marks (a, s) = 0
  case neg =>
    obtain ⟨k, hk⟩ : ∃ k, numOf S.marks (a, s) = k + 1 := ⟨numOf S.marks (a, s) - 1, by omega⟩
    have HR : Hid (macS S a s = wideS (k + 1) 16 ∧ macP S a s = S) := ⟨by unfold macS; rw [numOf_add, if_neg h0, hk], by unfold macP; rw [addN_old h0]⟩
    rw [hk, show (((k + 1 : Nat) : Int) - 1) = (k : Nat) by omega] at hpair
    have hnum := fun W => rnumbered_any ((k : Int) + 1) (k + 1) 16 (by omega) (by omega) (by decide) (by decide) 16 rfl W
    have hk1 : decide (((k : Nat) : Int) < 0) = false := by simp
    have hk2 : ((k : Nat) : Int) < 1000000 := by omega
    clear h0 hk hle
    go_enter Try.func16, Try.ntmps16
    go_wp2_with fail
    refine hpair.mono ?_
    rintro e w1 ⟨rfl, rfl⟩
    clear hpair
    go_wp2_with fail
    refine (hnum _).mono ?_
    rintro e w2 ⟨rfl, hb⟩
    have HF : Hid (RefV w2 (grow F w1 w2) B S ∧ Touch F w1 w2) := ⟨⟨_, _, _, (HP.out.keep fun k hk _ => hb.block k hk).mono fun k _ hf => .inl hf⟩, Touch.of_below hb⟩
    clear hnum hb
    go_wp2
    go_ret
    exact ⟨by rw [HR.out.1]; rfl, by rw [HR.out.2]; exact HF.out.1, HF.out.2⟩
  have HR : Hid (macS S a s = wideS (S.marks.length + 1) 16 ∧ macP S a s = { S with marks := S.marks ++ [(a, s)] }) := ⟨by unfold macS; rw [numOf_add, if_pos h0], by unfold macP; rw [addN_new h0]⟩
  rw [h0, show (((0 : Nat) : Int) - 1) = -1 by rfl] at hpair
  have hnum := fun W => rnumbered_any ((S.marks.length : Int) + 1) (S.marks.length + 1) 16 (by omega) (by omega) (by decide) (by decide) 16 rfl W
  obtain ⟨i0, hi0, hz0, hz1, hz2⟩ := info_parts info_pair
  obtain ⟨n, hn⟩ : ∃ n, n = S.marks.length := ⟨_, rfl⟩
  have HE : Hid (n = S.marks.length) := hn
  rw [← hn] at d3 hl hnum
  clear h0 hle hn
  have hnew : (w.alloc (.cells #[.string a, .string s] 59)).heap[w.heap.size]? = some (.cells #[.string a, .string s] 59 (0, 0)) := heap_alloc_new w _
  have hA : RefVAt (w.alloc (.cells #[.string a, .string s] 59)) F B hv (.slice op n cp) fv S := by
    have := HP.out.keep (w' := w.alloc (.cells #[.string a, .string s] 59)) fun k hk _ => Below.heap_alloc w _ k hk
    rw [← HE.out] at this
    exact this
  have hown := hA.ps
  rw [← HE.out] at hown
  have hone : ∀ u ∈ ([.string a, .string s] : List Value), u.oneCell' = true := by intro u hu; simp at hu; rcases hu with rfl | rfl <;> rfl
  have HA : Hid _ := hA
  have HTB : Hid (Touch F w (w.alloc (.cells #[.string a, .string s] 59))) := Touch.of_below ((Below.refl _ _).alloc (Nat.le_refl _) _)
  clear hA
  go_enter Try.func16, Try.ntmps16
  go_wp2_with fail
  refine hpair.mono ?_
  rintro e w1 ⟨rfl, rfl⟩
  clear hpair
  go_wp2_with (first | (at_builtin; refine wpList_append_own_at _ rfl _ _ 27 rfl 0 59 i0 (.agg #[.string ⟨#[]⟩, .string ⟨#[]⟩]) 2 32 Try.underlying27 hi0 hz0 hz1 hz2 rfl (by decide) (.slice op n cp) n (marC S.marks) rfl hown ⟨w1.heap.size, 0, none⟩ 1 1 [.string a, .string s] rfl rfl (World.news_of_block hnew) hone (by unfold maxLen; omega) (by omega) (Nat.zero_le _) ?_))
  intro v1 wB hown1 hgrow1 _ hat1
  obtain ⟨x1, x2, hmid, hT3⟩ := HA.out.add_p (x := (a, s)) HTB.out (by rw [← HE.out]; exact hown1) hgrow1 (by rw [show (w1.alloc (.cells #[.string a, .string s] 59)).heap.size = w1.heap.size + 1 by simp]; exact hat1)
  obtain ⟨g1, cap1, rfl, hgc, _⟩ := owns_form hown1 (by omega)
  obtain ⟨w5, hw5⟩ : ∃ w5, wB.setCell ⟨B, 3, none⟩ (.slice (some ⟨g1, 0, none⟩) (n + 1) cap1) = w5 := ⟨_, rfl⟩
  rw [hw5] at hmid hT3
  have HF : Hid (RefV w5 (grow F w1 w5) B (macP S a s) ∧ Touch F w1 w5) := ⟨by rw [HR.out.2]; exact ⟨_, _, _, hmid⟩, hT3⟩
  clear hmid hT3 HA HTB hown1 hgrow1 hat1 hown hnew hone
  go_wp2_with fail
  refine (hnum _).mono ?_
  rintro e w6 ⟨rfl, hb⟩
  have HF6 : Hid (RefV w6 (grow F w1 w6) B (macP S a s) ∧ Touch F w1 w6) := ⟨(HF.out.1.below hb).mono fun k _ hf => hf.imp id fun x => ⟨x.1, Nat.lt_of_lt_of_le x.2 hb.size⟩, HF.out.2.trans (Touch.of_below hb)⟩
  clear hnum hb HF
  go_wp2
  go_ret
  exact ⟨by rw [HR.out.1, ← HE.out]; rfl, HF6.out.1, HF6.out.2⟩

set_option maxRecDepth 100000 in
set_option maxHeartbeats 2000000 in
theorem rmade_any (B : Nat) (F : Nat → Prop) (S : VS) (a s tag : ByteArray) (hl : S.marks.length ≤ 1000000) (w : World) (hp : RefV w F B S) :
    Calls Try.prog 17 #[.pointer (some ⟨B, 0, none⟩), .string a, .string s, .string tag] w fun e w' => e = .returned (.bool (madeB S a s tag)) ∧ Below w.heap.size w w' := by
  have hpair := rpair_any B F S a s hl w hp
  obtain ⟨hv, pv, fv, h⟩ := hp
  have d0 : w.cell? ⟨B, 0, none⟩ = some (.bool true) := h.row.cell 0
  have hle := numOf_le (a, s) S.marks
  clear h
  unfold madeB
  by_cases h0 : numOf S.marks (a, s) = 0
  · rw [h0, show (((0 : Nat) : Int) - 1) = -1 by rfl] at hpair
    rw [h0, show decide ((0 : Nat) ≠ 0 ∧ tag = wideS 0 16) = false by simp]
    clear h0 hle
    go_enter Try.func17, Try.ntmps17
    go_wp2_with fail
    refine hpair.mono ?_
    rintro e w1 ⟨rfl, rfl⟩
    clear hpair
    go_wp2
    go_ret
    exact ⟨rfl, Below.refl _ _⟩
  obtain ⟨k, hk⟩ : ∃ k, numOf S.marks (a, s) = k + 1 := ⟨numOf S.marks (a, s) - 1, by omega⟩
  rw [hk, show (((k + 1 : Nat) : Int) - 1) = (k : Nat) by omega] at hpair
  rw [hk, show decide (k + 1 ≠ 0 ∧ tag = wideS (k + 1) 16) = (tag.toList == (wideS (k + 1) 16).toList) by rw [beq_dec3]; simp]
  have hnum := fun W => rnumbered_any ((k : Int) + 1) (k + 1) 16 (by omega) (by omega) (by decide) (by decide) 16 rfl W
  have hk1 : ¬ ((k : Nat) : Int) < 0 := by omega
  have hk2 : ((k : Nat) : Int) < 1000000 := by omega
  generalize wideS (k + 1) 16 = u at *
  clear h0 hk hle
  go_enter Try.func17, Try.ntmps17
  go_wp2_with fail
  refine hpair.mono ?_
  rintro e w1 ⟨rfl, rfl⟩
  clear hpair
  go_wp2_with fail
  refine (hnum _).mono ?_
  rintro e w2 ⟨rfl, hb⟩
  have HF : Hid (Below w1.heap.size w1 w2) := hb
  clear hnum hb
  go_wp2
  go_ret
  exact ⟨rfl, HF.out⟩
end Go.Proofs.Ytfmaajfohieneab
