/- The document's Write, Arm, Spoil, keep and Lay. -/
import Derived.Test.YtcmoagphbpjenaaGreatDoorMg11
namespace Go.Proofs.YtcmoagphbpjenaaGreatDoor
set_option maxRecDepth 20000
open Go.RowKit

theorem RefAt.appended {w0 w w' : World} {F : Nat → Prop} {B i : Nat} {kv dv wv v' : Value} {ks : List ByteArray} {ds : List Bool} {S : PS} {s : ByteArray} (h : RefAt w F B kv dv wv ks ds S) (ht : Touch F w0 w) (hi : i < S.kept.length) (hs : s.size = 64)
    (hown : w'.ownsRow 0 74 2 v' (S.wait.length + 1) (waitC S.wait ++ [.int .i64 (i : Nat), .string s])) (hg : w.grownBy w' wv.ownBlock) (hat : v'.ownBlock = wv.ownBlock ∨ v'.ownBlock = some w.heap.size) :
    w'.cell? ⟨B, 2, none⟩ = some wv ∧ w'.frozen? ⟨B, 2, none⟩ = false ∧ RefAt (w'.setCell ⟨B, 2, none⟩ v') (grow F w0 (w'.setCell ⟨B, 2, none⟩ v')) B kv dv v' ks ds { S with wait := S.wait ++ [(i, s)] } ∧ Touch F w0 (w'.setCell ⟨B, 2, none⟩ v') := by
  have hB := h.row.lt
  have r1 : Row w' B _ _ := (hg.block B h.row.lt (fun e => h.wB e.symm)).trans h.row
  have r2 := owns_keep (w' := w') h.kept fun g hg' => hg.block g (owns_lt h.kept g hg') (fun e => h.kw g hg' e.symm)
  have r3 := owns_keep (w' := w') h.dumb fun g hg' => hg.block g (owns_lt h.dumb g hg') (fun e => h.dw g hg' e.symm)
  have nB : Apart v' B := by
    rcases hat with e | e
    · unfold Apart; rw [e]; exact h.wB
    · unfold Apart; rw [e]; intro e2; cases e2; omega
  have nK : Apart2 kv v' := fun g hg' => by
    rcases hat with e | e
    · rw [e]; exact h.kw g hg'
    · rw [e]; intro e2; cases e2; have := owns_lt h.kept _ hg'; omega
  have nD : Apart2 dv v' := fun g hg' => by
    rcases hat with e | e
    · rw [e]; exact h.dw g hg'
    · rw [e]; intro e2; cases e2; have := owns_lt h.dumb _ hg'; omega
  have hsz : (w'.setCell ⟨B, 2, none⟩ v').heap.size = w'.heap.size := by simp
  have ht2 : Touch F w0 w' := ⟨ht.1.trans ⟨hg.os, hg.tape, hg.output, hg.size, fun k hk => absurd hk (Nat.not_lt_zero k)⟩, fun k hk hn => (hg.block k (Nat.lt_of_lt_of_le hk ht.size) (fun e => hn (h.fW k e.symm))).trans (ht.2 k hk hn)⟩
  refine ⟨r1.cell 2, r1.frozen 2, ⟨r1.setL 2 v', owns_off r2 h.kB _ _, owns_off r3 h.dB _ _, ?_, .inl h.fB, fun g hg' => .inl (h.fK g hg'), fun g hg' => .inl (h.fD g hg'), fun g hg' => ?_, h.kB, h.dB, nB, h.kd, nK, nD, h.most, ?_, h.says, h.texts, h.fuse⟩, ht2.setCell _ _ _ (.inl h.fB)⟩
  · rw [waitC_snoc]
    show World.ownsRow _ _ _ _ _ (S.wait ++ [(i, s)]).length _
    rw [List.length_append]
    exact owns_off hown nB _ _
  · have hlt := owns_lt hown g hg'
    rcases hat with e | e
    · exact .inl (h.fW g (by rw [← e]; exact hg'))
    · rw [e] at hg'
      cases hg'
      exact .inr ⟨ht.size, by rw [hsz]; exact hlt⟩
  · intro p hp
    rcases List.mem_append.1 hp with hp | hp
    · exact h.ats p hp
    · rw [List.mem_singleton] at hp
      subst hp
      exact ⟨hi, hs⟩
theorem info_rwrite : (Tryz.prog.info? 74).map (fun i => (i.zero, i.size, i.bytes)) = some (some (.agg #[.int .i64 0, .string ⟨#[]⟩]), 2, 24) := by kernel_rfl
theorem RefAt.kform {w : World} {F : Nat → Prop} {B : Nat} {kv dv wv : Value} {ks : List ByteArray} {ds : List Bool} {S : PS} (h : RefAt w F B kv dv wv ks ds S) : ∃ oa cap, kv = .slice oa S.kept.length cap := by
  rcases owns_len h.kept with ⟨cap, e⟩ | ⟨g, cap, e⟩
  · exact ⟨_, cap, e⟩
  · exact ⟨_, cap, e⟩
theorem RefAt.wform {w : World} {F : Nat → Prop} {B : Nat} {kv dv wv : Value} {ks : List ByteArray} {ds : List Bool} {S : PS} (h : RefAt w F B kv dv wv ks ds S) : ∃ oa cap, wv = .slice oa S.wait.length cap := by
  rcases owns_len h.wait with ⟨cap, e⟩ | ⟨g, cap, e⟩
  · exact ⟨_, cap, e⟩
  · exact ⟨_, cap, e⟩

set_option maxRecDepth 10000 in
set_option maxHeartbeats 2000000 in
theorem rwrite_any (B : Nat) (F : Nat → Prop) (S : PS) (at_ : Int) (s : ByteArray) (w : World) (hp : RefP w F B S) (hw : S.wait.length ≤ 1000000) :
    Calls Tryz.prog 11 #[.pointer (some ⟨B, 0, none⟩), .int .i64 at_, .string s] w fun e w' => e = .returned (.int .i64 (writeE S at_ s)) ∧ RefP w' (grow F w w') B (writeP S at_ s) ∧ Touch F w w' := by
  by_cases hs : s.size = 64
  case neg =>
    have HF : Hid (writeE S at_ s = 1 ∧ RefP w (grow F w w) B (writeP S at_ s)) := ⟨by simp [writeE, hs], by simp only [writeP, hs, if_false]; exact hp.mono fun k _ h => .inl h⟩
    clear hp
    have hs' : ¬ (s.size : Int) = 64 := by omega
    go_enter Tryz.func11, Tryz.ntmps11
    go_wp2
    go_ret
    exact ⟨by rw [HF.out.1]; rfl, HF.out.2, Touch.refl _ _⟩
  have hs' : (s.size : Int) = 64 := by omega
  have hp0 := hp.mono (F' := grow F w w) fun k _ h => .inl h
  obtain ⟨kv, dv, wv, ks, ds, hp⟩ := hp
  have c4 := hp.c4
  cases hu : S.up
  · rw [hu] at c4
    have HF : Hid (writeE S at_ s = 20 ∧ RefP w (grow F w w) B (writeP S at_ s)) := ⟨by simp [writeE, hs, hu], by simp [writeP, hs, hu]; exact hp0⟩
    clear hp hp0 hu
    go_enter Tryz.func11, Tryz.ntmps11
    go_wp2
    go_ret
    exact ⟨by rw [HF.out.1]; rfl, HF.out.2, Touch.refl _ _⟩
  rw [hu] at c4
  obtain ⟨oa, ca, rfl⟩ := hp.kform
  have hhas := none_any B oa _ ca at_ S rfl w hp.c0
  cases hb : hasB S at_
  · rw [hb] at hhas
    have HF : Hid (writeE S at_ s = 2 ∧ RefP w (grow F w w) B (writeP S at_ s)) := ⟨by simp [writeE, hs, hu, hb], by simp [writeP, hs, hu, hb]; exact hp0⟩
    clear hp hp0 hu hb
    go_enter Tryz.func11, Tryz.ntmps11
    go_wp2_with fail
    refine hhas.mono ?_
    rintro e w1 ⟨rfl, rfl⟩
    clear hhas
    go_wp2
    go_ret
    exact ⟨by rw [HF.out.1]; rfl, HF.out.2, Touch.refl _ _⟩
  rw [hb] at hhas
  have c3 := hp.c3
  clear hp0
  by_cases hf0 : S.fuse = 0
  · rw [hf0] at c3
    have f4 : w.frozen? ⟨B, 4, none⟩ = false := hp.row.frozen 4
    obtain ⟨w1, hw1⟩ : ∃ w1, w.setCell ⟨B, 4, none⟩ (.bool true) = w1 := ⟨_, rfl⟩
    have HF : Hid (writeE S at_ s = 20 ∧ RefP w1 (grow F w w1) B (writeP S at_ s) ∧ Touch F w w1) := ⟨by simp [writeE, hs, hu, hb, hf0], by rw [show writeP S at_ s = { S with up := false } by simp only [writeP, hs, if_true, hu, hb, hf0]]; exact ⟨_, _, _, _, _, by rw [← hw1]; exact (hp.setUp false).mono fun k _ h => .inl h⟩, by rw [← hw1]; exact (Touch.refl _ _).setCell _ _ _ (.inl hp.fB)⟩
    clear hp hu hb hf0
    go_enter Tryz.func11, Tryz.ntmps11
    go_wp2_with fail
    refine hhas.mono ?_
    rintro e w2 ⟨rfl, rfl⟩
    clear hhas
    go_wp2
    go_ret
    exact ⟨by rw [HF.out.1]; rfl, HF.out.2.1, HF.out.2.2⟩
  obtain ⟨h0, h1⟩ := hasB_true hb
  obtain ⟨i, rfl⟩ : ∃ i : Nat, at_ = i := ⟨at_.toNat, by omega⟩
  have hi : i < S.kept.length := by omega
  obtain ⟨fz, hfz⟩ : ∃ fz, fz = if S.fuse = -1 then -1 else S.fuse - 1 := ⟨_, rfl⟩
  have hE : writeE S i s = 0 := by simp [writeE, hs, hu, hb, hf0]
  have hP : writeP S i s = { S with fuse := fz, writes := wrap64 (S.writes + 1), wait := S.wait ++ [(i, s)] } := by rw [hfz]; simp only [writeP, hs, if_true, hu, hb, hf0, if_false, Int.toNat_natCast]
  obtain ⟨j0, hj, hy0, hy1, hy2⟩ := info_parts info_rwrite
  have hfr := hp.fuse
  have key : ∃ w1, RefAt w1 F B (.slice oa S.kept.length ca) dv wv ks ds { S with fuse := fz } ∧ Touch F w w1 ∧ ((S.fuse = -1 ∧ w1 = w) ∨ (0 < S.fuse ∧ w.setCell ⟨B, 3, none⟩ (.int .i64 (S.fuse - 1)) = w1)) := by
    by_cases h1 : S.fuse = -1
    · refine ⟨w, ?_, Touch.refl _ _, .inl ⟨h1, rfl⟩⟩
      rw [hfz, if_pos h1, ← h1]; exact hp
    · refine ⟨_, ?_, (Touch.refl _ _).setCell B 3 (.int .i64 (S.fuse - 1)) (.inl hp.fB), .inr ⟨by omega, rfl⟩⟩
      rw [hfz, if_neg h1]; exact hp.setFuse (S.fuse - 1) (by omega)
  obtain ⟨w1, hp1, ht1, hway⟩ := key
  have d6 := hp1.c6
  have e6 : w1.frozen? ⟨B, 6, none⟩ = false := hp1.row.frozen 6
  have hp2 := hp1.setWrites (wrap64 (S.writes + 1))
  have ht2 := ht1.setCell B 6 (.int .i64 (wrap64 (S.writes + 1))) (.inl hp.fB)
  obtain ⟨w2, hw2⟩ : ∃ w2, w1.setCell ⟨B, 6, none⟩ (.int .i64 (wrap64 (S.writes + 1))) = w2 := ⟨_, rfl⟩
  rw [hw2] at hp2 ht2
  obtain ⟨S2, hS2⟩ : ∃ S2 : PS, S2 = { S with fuse := fz, writes := wrap64 (S.writes + 1) } := ⟨_, rfl⟩
  have hp2' : RefAt w2 F B (.slice oa S.kept.length ca) dv wv ks ds S2 := by rw [hS2]; exact hp2
  have hP' : writeP S i s = { S2 with wait := S2.wait ++ [(i, s)] } := by rw [hP, hS2]
  have hk2 : S2.kept.length = S.kept.length := by rw [hS2]
  have hl2 : S2.wait.length ≤ 1000000 := by rw [hS2]; exact hw
  obtain ⟨ob, cb, rfl⟩ := hp2'.wform
  have HK : Hid (RefAt w2 F B (.slice oa S.kept.length ca) dv (.slice ob S2.wait.length cb) ks ds S2 ∧ Touch F w w2 ∧ writeE S i s = 0 ∧ writeP S i s = { S2 with wait := S2.wait ++ [(i, s)] }) := ⟨hp2', ht2, hE, hP'⟩
  have d2 := hp2'.c2
  have f3 : w.frozen? ⟨B, 3, none⟩ = false := hp.row.frozen 3
  have hi2 : i < S2.kept.length := by omega
  clear hp hp1 hp2 hp2' ht1 ht2 hE hP hP' hS2 hfz hu hb
  have hway' : (S.fuse = -1 ∧ w1 = w) ∨ (0 < S.fuse ∧ w.setCell ⟨B, 3, none⟩ (.int .i64 (S.fuse - 1)) = w1) := hway
  clear hway
  rcases hway' with ⟨hm, rfl⟩ | ⟨hm, hw3⟩
  case' inl =>
    rw [hm] at c3
    go_enter Tryz.func11, Tryz.ntmps11
    go_wp2_with fail
    refine hhas.mono ?_
    rintro e w9 ⟨rfl, rfl⟩
    clear hhas
  case' inr =>
    have hq2 : IntKind.i64.wrap (S.fuse - 1) = S.fuse - 1 := by rw [IntKind.wrap_i64]; omega
    go_enter Tryz.func11, Tryz.ntmps11
    go_wp2_with fail
    refine hhas.mono ?_
    rintro e w9 ⟨rfl, rfl⟩
    clear hhas
  all_goals
    go_wp2_with (first | (at_builtin; refine wpList_append_own_at _ rfl _ _ 38 rfl 0 74 j0 (.agg #[.int .i64 0, .string ⟨#[]⟩]) 2 24 Tryz.underlying38 hj hy0 hy1 hy2 rfl (by decide) (.slice ob S2.wait.length cb) S2.wait.length (waitC S2.wait) rfl (owns_keep HK.out.1.wait fun g hg => Below.heap_alloc w2 _ g (owns_lt HK.out.1.wait g hg)) ⟨w2.heap.size, 0, none⟩ 1 1 [.int .i64 (i : Nat), .string s] rfl rfl (World.news_of_block (heap_alloc_new w2 _)) (by intro u hu; simp at hu; rcases hu with rfl | rfl <;> rfl) (by unfold maxLen; omega) (by omega) (Nat.zero_le _) ?_))
    intro v1 wB hown1 hgrow1 _ hat1
    obtain ⟨g1, cap1, rfl, hgc, _⟩ := owns_form hown1 (by omega)
    have hA2 := HK.out.1.keep (w' := w2.alloc (.cells #[.int .i64 (i : Nat), .string s] 74)) (fun k hk _ => Below.heap_alloc w2 _ k hk)
    have hTB : Touch F w9 (w2.alloc (.cells #[.int .i64 (i : Nat), .string s] 74)) := ⟨HK.out.2.1.1.alloc (Nat.zero_le _) _, fun k hk hn => (Below.heap_alloc w2 _ k (Nat.lt_of_lt_of_le hk HK.out.2.1.size)).trans (HK.out.2.1.2 k hk hn)⟩
    obtain ⟨x1, x2, hmid, hT3⟩ := hA2.appended hTB hi2 hs hown1 hgrow1 (by rw [show (w2.alloc (.cells #[.int .i64 (i : Nat), .string s] 74)).heap.size = w2.heap.size + 1 by simp]; exact hat1)
    obtain ⟨w5, hw5⟩ : ∃ w5, wB.setCell ⟨B, 2, none⟩ (.slice (some ⟨g1, 0, none⟩) (S2.wait.length + 1) cap1) = w5 := ⟨_, rfl⟩
    rw [hw5] at hmid hT3
    have HF : Hid (RefP w5 (grow F w9 w5) B (writeP S i s) ∧ Touch F w9 w5) := ⟨by rw [HK.out.2.2.2]; exact ⟨_, _, _, _, _, hmid⟩, hT3⟩
    clear hmid hT3 hA2 hTB hown1 hgrow1 hat1
    go_wp2
    go_ret
    exact ⟨by rw [HK.out.2.2.1]; rfl, HF.out.1, HF.out.2⟩
end Go.Proofs.YtcmoagphbpjenaaGreatDoor
