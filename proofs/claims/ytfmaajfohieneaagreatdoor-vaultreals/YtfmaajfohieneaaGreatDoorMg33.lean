/- The document's vault, the ideal one: Mac, Made, Seal, Open. · The document's real vault, over what the document's sum and box tell. -/
import Derived.Test.YtfmaajfohieneaaGreatDoorMg32
import Derived.Test.YtfmaajfohieneaaGreatDoorMg06
namespace Go.Proofs.YtfmaajfohieneaaGreatDoor
set_option maxRecDepth 20000
open Go.RowKit

theorem rwrong_any (z : Int) (a : ByteArray) (w : World) : Calls Tryz.prog 34 #[.int .i64 z, .string a] w fun e w' => e = .returned (.bool (!fitB z a)) ∧ w' = w := by
  by_cases h1 : z < 0
  · have hr : fitB z a = false := by unfold fitB; simp; intro h; omega
    rw [hr]
    go_enter Tryz.func34, Tryz.ntmps34
    go_wp2
    go_ret
    exact ⟨rfl, rfl⟩
  by_cases h2 : 281474976710655 < z
  · have hr : fitB z a = false := by unfold fitB; simp; intro _ h; omega
    rw [hr]
    go_enter Tryz.func34, Tryz.ntmps34
    go_wp2
    go_ret
    exact ⟨rfl, rfl⟩
  by_cases h3 : (a.size : Int) = 12
  · have hr : fitB z a = true := by unfold fitB; simp; omega
    have h4 : ((a.size : Int) == 12) = true := by simp [h3]
    rw [hr]
    go_enter Tryz.func34, Tryz.ntmps34
    go_wp2
    go_ret
    exact ⟨rfl, rfl⟩
  · have hr : fitB z a = false := by unfold fitB; simp; omega
    have h4 : ((a.size : Int) == 12) = false := beq_false_of_ne h3
    have h5 : ((a.size : Int) != 12) = true := by simp [bne, h4]
    rw [hr]
    go_enter Tryz.func34, Tryz.ntmps34
    go_wp2
    go_ret
    exact ⟨rfl, rfl⟩
theorem beq_dec3 (a b : ByteArray) : (a.toList == b.toList) = decide (a = b) := by
  by_cases e : a = b
  · subst e; simp
  · rw [str_ne e]; simp [e]
theorem info_pair : (Tryz.prog.info? 77).map (fun i => (i.zero, i.size, i.bytes)) = some (some (.agg #[.string ⟨#[]⟩, .string ⟨#[]⟩]), 2, 32) := by kernel_rfl
theorem info_four : (Tryz.prog.info? 82).map (fun i => (i.zero, i.size, i.bytes)) = some (some (.agg #[.int .i64 0, .string ⟨#[]⟩, .string ⟨#[]⟩, .string ⟨#[]⟩]), 4, 56) := by kernel_rfl

set_option maxRecDepth 100000 in
set_option maxHeartbeats 2000000 in
theorem rmac_any (B : Nat) (F : Nat → Prop) (S : VS) (a s : ByteArray) (hl : S.marks.length ≤ 1000000) (w : World) (hp : RefV w F B S) :
    Calls Tryz.prog 15 #[.pointer (some ⟨B, 0, none⟩), .string a, .string s] w fun e w' => e = .returned (.string (macS S a s)) ∧ RefV w' (grow F w w') B (macP S a s) ∧ Touch F w w' := by
  have hpair := rpair_any B F S a s hl w hp
  obtain ⟨hv, pv, fv, h⟩ := hp
  have HP : Hid (RefVAt w F B hv pv fv S) := h
  obtain ⟨op, cp, rfl⟩ := owns_slice h.ps
  have d0 : w.cell? ⟨B, 0, none⟩ = some (.bool true) := h.row.cell 0
  have d3 : w.cell? ⟨B, 3, none⟩ = some (.slice op S.marks.length cp) := h.row.cell 3
  have hle := numOf_le (a, s) S.marks
  clear h
  by_cases h0 : numOf S.marks (a, s) = 0
  case neg =>
    obtain ⟨k, hk⟩ : ∃ k, numOf S.marks (a, s) = k + 1 := ⟨numOf S.marks (a, s) - 1, by omega⟩
    have HR : Hid (macS S a s = wideS (k + 1) 16 ∧ macP S a s = S) := ⟨by unfold macS; rw [numOf_add, if_neg h0, hk], by unfold macP; rw [addN_old h0]⟩
    rw [hk, show (((k + 1 : Nat) : Int) - 1) = (k : Nat) by omega] at hpair
    have hnum := fun W => rnumbered_any ((k : Int) + 1) (k + 1) 16 (by omega) (by omega) (by decide) (by decide) 16 rfl W
    have hk1 : decide (((k : Nat) : Int) < 0) = false := by simp
    have hk2 : ((k : Nat) : Int) < 1000000 := by omega
    clear h0 hk hle
    go_enter Tryz.func15, Tryz.ntmps15
    go_wp2_with fail
    refine hpair.mono ?_
    rintro e w1 ⟨rfl, rfl⟩
    clear hpair
    go_wp2_with fail
    refine (hnum _).mono ?_
    rintro e w2 ⟨rfl, hb⟩
    have HF : Hid (RefV w2 (grow F w1 w2) B S ∧ Touch F w1 w2) := ⟨⟨_, _, _, (HP.out.keep fun k hk _ => hb.block k hk).mono fun k _ hf => .inl hf⟩, Touch.of_below hb⟩
    clear hnum hb
    go_wp2
    go_ret
    exact ⟨by rw [HR.out.1]; rfl, by rw [HR.out.2]; exact HF.out.1, HF.out.2⟩
  have HR : Hid (macS S a s = wideS (S.marks.length + 1) 16 ∧ macP S a s = { S with marks := S.marks ++ [(a, s)] }) := ⟨by unfold macS; rw [numOf_add, if_pos h0], by unfold macP; rw [addN_new h0]⟩
  rw [h0, show (((0 : Nat) : Int) - 1) = -1 by rfl] at hpair
  have hnum := fun W => rnumbered_any ((S.marks.length : Int) + 1) (S.marks.length + 1) 16 (by omega) (by omega) (by decide) (by decide) 16 rfl W
  obtain ⟨i0, hi0, hz0, hz1, hz2⟩ := info_parts info_pair
  obtain ⟨n, hn⟩ : ∃ n, n = S.marks.length := ⟨_, rfl⟩
  have HE : Hid (n = S.marks.length) := hn
  rw [← hn] at d3 hl hnum
  clear h0 hle hn
  have hnew : (w.alloc (.cells #[.string a, .string s] 77)).heap[w.heap.size]? = some (.cells #[.string a, .string s] 77 (0, 0)) := heap_alloc_new w _
  have hA : RefVAt (w.alloc (.cells #[.string a, .string s] 77)) F B hv (.slice op n cp) fv S := by
    have := HP.out.keep (w' := w.alloc (.cells #[.string a, .string s] 77)) fun k hk _ => Below.heap_alloc w _ k hk
    rw [← HE.out] at this
    exact this
  have hown := hA.ps
  rw [← HE.out] at hown
  have hone : ∀ u ∈ ([.string a, .string s] : List Value), u.oneCell' = true := by intro u hu; simp at hu; rcases hu with rfl | rfl <;> rfl
  have HA : Hid _ := hA
  have HTB : Hid (Touch F w (w.alloc (.cells #[.string a, .string s] 77))) := Touch.of_below ((Below.refl _ _).alloc (Nat.le_refl _) _)
  clear hA
  go_enter Tryz.func15, Tryz.ntmps15
  go_wp2_with fail
  refine hpair.mono ?_
  rintro e w1 ⟨rfl, rfl⟩
  clear hpair
  go_wp2_with (first | (at_builtin; refine wpList_append_own_at _ rfl _ _ 46 rfl 0 77 i0 (.agg #[.string ⟨#[]⟩, .string ⟨#[]⟩]) 2 32 Tryz.underlying46 hi0 hz0 hz1 hz2 rfl (by decide) (.slice op n cp) n (marC S.marks) rfl hown ⟨w1.heap.size, 0, none⟩ 1 1 [.string a, .string s] rfl rfl (World.news_of_block hnew) hone (by unfold maxLen; omega) (by omega) (Nat.zero_le _) ?_))
  intro v1 wB hown1 hgrow1 _ hat1
  obtain ⟨x1, x2, hmid, hT3⟩ := HA.out.add_p (x := (a, s)) HTB.out (by rw [← HE.out]; exact hown1) hgrow1 (by rw [show (w1.alloc (.cells #[.string a, .string s] 77)).heap.size = w1.heap.size + 1 by simp]; exact hat1)
  obtain ⟨g1, cap1, rfl, hgc, _⟩ := owns_form hown1 (by omega)
  obtain ⟨w5, hw5⟩ : ∃ w5, wB.setCell ⟨B, 3, none⟩ (.slice (some ⟨g1, 0, none⟩) (n + 1) cap1) = w5 := ⟨_, rfl⟩
  rw [hw5] at hmid hT3
  have HF : Hid (RefV w5 (grow F w1 w5) B (macP S a s) ∧ Touch F w1 w5) := ⟨by rw [HR.out.2]; exact ⟨_, _, _, hmid⟩, hT3⟩
  clear hmid hT3 HA HTB hown1 hgrow1 hat1 hown hnew hone
  go_wp2_with fail
  refine (hnum _).mono ?_
  rintro e w6 ⟨rfl, hb⟩
  have HF6 : Hid (RefV w6 (grow F w1 w6) B (macP S a s) ∧ Touch F w1 w6) := ⟨(HF.out.1.below hb).mono fun k _ hf => hf.imp id fun x => ⟨x.1, Nat.lt_of_lt_of_le x.2 hb.size⟩, HF.out.2.trans (Touch.of_below hb)⟩
  clear hnum hb HF
  go_wp2
  go_ret
  exact ⟨by rw [HR.out.1, ← HE.out]; rfl, HF6.out.1, HF6.out.2⟩

set_option maxRecDepth 100000 in
set_option maxHeartbeats 2000000 in
theorem rmade_any (B : Nat) (F : Nat → Prop) (S : VS) (a s tag : ByteArray) (hl : S.marks.length ≤ 1000000) (w : World) (hp : RefV w F B S) :
    Calls Tryz.prog 17 #[.pointer (some ⟨B, 0, none⟩), .string a, .string s, .string tag] w fun e w' => e = .returned (.bool (madeB S a s tag)) ∧ Below w.heap.size w w' := by
  have hpair := rpair_any B F S a s hl w hp
  obtain ⟨hv, pv, fv, h⟩ := hp
  have d0 : w.cell? ⟨B, 0, none⟩ = some (.bool true) := h.row.cell 0
  have hle := numOf_le (a, s) S.marks
  clear h
  unfold madeB
  by_cases h0 : numOf S.marks (a, s) = 0
  · rw [h0, show (((0 : Nat) : Int) - 1) = -1 by rfl] at hpair
    rw [h0, show decide ((0 : Nat) ≠ 0 ∧ tag = wideS 0 16) = false by simp]
    clear h0 hle
    go_enter Tryz.func17, Tryz.ntmps17
    go_wp2_with fail
    refine hpair.mono ?_
    rintro e w1 ⟨rfl, rfl⟩
    clear hpair
    go_wp2
    go_ret
    exact ⟨rfl, Below.refl _ _⟩
  obtain ⟨k, hk⟩ : ∃ k, numOf S.marks (a, s) = k + 1 := ⟨numOf S.marks (a, s) - 1, by omega⟩
  rw [hk, show (((k + 1 : Nat) : Int) - 1) = (k : Nat) by omega] at hpair
  rw [hk, show decide (k + 1 ≠ 0 ∧ tag = wideS (k + 1) 16) = (tag.toList == (wideS (k + 1) 16).toList) by rw [beq_dec3]; simp]
  have hnum := fun W => rnumbered_any ((k : Int) + 1) (k + 1) 16 (by omega) (by omega) (by decide) (by decide) 16 rfl W
  have hk1 : ¬ ((k : Nat) : Int) < 0 := by omega
  have hk2 : ((k : Nat) : Int) < 1000000 := by omega
  generalize wideS (k + 1) 16 = u at *
  clear h0 hk hle
  go_enter Tryz.func17, Tryz.ntmps17
  go_wp2_with fail
  refine hpair.mono ?_
  rintro e w1 ⟨rfl, rfl⟩
  clear hpair
  go_wp2_with fail
  refine (hnum _).mono ?_
  rintro e w2 ⟨rfl, hb⟩
  have HF : Hid (Below w1.heap.size w1 w2) := hb
  clear hnum hb
  go_wp2
  go_ret
  exact ⟨rfl, HF.out⟩
end Go.Proofs.YtfmaajfohieneaaGreatDoor

namespace Go.Proofs.YtfmaajfohieneaaGreatDoor
set_option maxRecDepth 20000
open Go.RowKit

structure RPrims (f : PF) : Prop where
  sum : ∀ s : ByteArray, s.size ≤ 1048576 → ∀ w, Calls Tryz.prog 29 #[.string s] w fun e w' => e = .returned (.string (f.sum s)) ∧ Below w.heap.size w w'
  mac : ∀ k s : ByteArray, k.size ≤ 1048576 → s.size ≤ 1048576 → ∀ w, Calls Tryz.prog 26 #[.string k, .string s] w fun e w' => e = .returned (.string (f.mac k s)) ∧ Below w.heap.size w w'
  macz : ∀ k s, (f.mac k s).size = 32
  exp : ∀ k i : ByteArray, k.size ≤ 1048576 → i.size ≤ 1048576 → ∀ w, Calls Tryz.prog 50 #[.string k, .string i, .int .i64 32] w fun e w' => e = .returned (.tuple #[.string (f.exp k i), .int .i64 0]) ∧ Below w.heap.size w w'
  expz : ∀ k i, (f.exp k i).size = 32
  shut : ∀ k n a s : ByteArray, a.size ≤ 1048576 → s.size ≤ 1048576 → ∀ w, Calls Tryz.prog 35 #[.string k, .string n, .string a, .string s] w fun e w' => e = .returned (.tuple #[.string (f.shut k n a s), .int .i64 (f.shutX k n)]) ∧ Below w.heap.size w w'
  opn : ∀ k n a s : ByteArray, a.size ≤ 1048576 → s.size ≤ 1048576 → ∀ w, Calls Tryz.prog 37 #[.string k, .string n, .string a, .string s] w fun e w' => e = .returned (.tuple #[.string (f.opn k n a s), .int .i64 (f.opnX k n a s)]) ∧ Below w.heap.size w w'
def RefR (w : World) (B : Nat) (key : ByteArray) : Prop := Row w B 49 [.bool false, .string key, .slice none 0 0, .slice none 0 0, .slice none 0 0]
theorem RefR.keep {w w' : World} {B : Nat} {key : ByteArray} (h : RefR w B key) (hb : Below w.heap.size w w') : RefR w' B key := Row.below h hb (Row.lt h)
theorem wide6 (n : Nat) : wideS n 6 = putS n 6 := by
  unfold wideS
  apply ByteArray.ext
  simp [ByteArray.data_append, noughtsS, strOfNums]

section
variable {f : PF}
theorem under_any (P : RPrims f) (B : Nat) (key p : ByteArray) (hk : key.size ≤ 1048576) (hp : p.size ≤ 1048576) (w : World) (hr : RefR w B key) :
    Calls Tryz.prog 31 #[.pointer (some ⟨B, 0, none⟩), .string p] w fun e w' => e = .returned (.string (f.exp key p)) ∧ Below w.heap.size w w' := by
  have h := P.exp key p hk hp w
  have c : w.cell? ⟨B, 1, none⟩ = some (.string key) := Row.cell hr 1
  generalize f.exp key p = x at *
  clear P hk hp hr
  go_enter Tryz.func31, Tryz.ntmps31
  go_wp2_with fail
  refine h.mono ?_
  rintro e w1 ⟨rfl, hb⟩
  clear h c
  go_wp2
  go_ret
  exact ⟨rfl, hb⟩
theorem rrhash_any (P : RPrims f) (B : Nat) (key s : ByteArray) (hs : s.size ≤ 1048576) (w : World) (hr : RefR w B key) :
    Calls Tryz.prog 13 #[.pointer (some ⟨B, 0, none⟩), .string s] w fun e w' => e = .returned (.string (f.sum s)) ∧ Below w.heap.size w w' := by
  have h := P.sum s hs w
  have c : w.cell? ⟨B, 0, none⟩ = some (.bool false) := Row.cell hr 0
  generalize f.sum s = x at *
  clear P hs hr
  go_enter Tryz.func13, Tryz.ntmps13
  go_wp2_with fail
  refine h.mono ?_
  rintro e w1 ⟨rfl, hb⟩
  have HB : Hid _ := hb
  clear h c hb
  go_wp2
  go_ret
  exact ⟨rfl, HB.out⟩
theorem rrmac_any (P : RPrims f) (B : Nat) (key l s : ByteArray) (hk : key.size ≤ 1048576) (hl : l.size ≤ 1048000) (hs : s.size ≤ 1048576) (w : World) (hr : RefR w B key) :
    Calls Tryz.prog 15 #[.pointer (some ⟨B, 0, none⟩), .string l, .string s] w fun e w' => e = .returned (.string (macR f key l s)) ∧ Below w.heap.size w w' := by
  have hz : (markT ++ l).size ≤ 1048576 := by rw [ByteArray.size_append, show markT.size = 5 from rfl]; omega
  have ha : ∀ w', (Op.stringOp .add ⟨#[109, 97, 114, 107, 32]⟩ l).run Tryz.prog w' = .ok (.string (markT ++ l)) w' := fun w' => run_string_add_sum (P := Tryz.prog) (w := w') _ _ (by rw [show (⟨#[109, 97, 114, 107, 32]⟩ : ByteArray).size = 5 from rfl]; omega)
  have h1 := under_any P B key (markT ++ l) hk hz w hr
  have c : w.cell? ⟨B, 0, none⟩ = some (.bool false) := Row.cell hr 0
  have he := P.expz key (markT ++ l)
  have HR : Hid (macR f key l s = (f.mac (f.exp key (markT ++ l)) s).extract 0 16) := rfl
  generalize markT ++ l = ml at *
  generalize f.exp key ml = x at *
  have h2 := fun W => P.mac x s (by omega) hs W
  have hm := P.macz x s
  generalize f.mac x s = m at *
  have i1 : (16 : Int) ≤ m.size := by omega
  clear P hk hl hs hz hr
  go_enter Tryz.func15, Tryz.ntmps15
  go_wp2_with fail
  refine h1.mono ?_
  rintro e w1 ⟨rfl, hb⟩
  clear h1 c
  go_wp2_with fail
  refine (h2 _).mono ?_
  rintro e w2 ⟨rfl, hb2⟩
  have HB : Hid (Below w.heap.size w w2) := hb.trans (hb2.mono hb.size)
  clear h2 hb hb2
  go_wp2
  go_ret
  exact ⟨by rw [HR.out]; rfl, HB.out⟩
theorem rrmade_any (P : RPrims f) (B : Nat) (key l s tag : ByteArray) (hk : key.size ≤ 1048576) (hl : l.size ≤ 1048000) (hs : s.size ≤ 1048576) (w : World) (hr : RefR w B key) :
    Calls Tryz.prog 17 #[.pointer (some ⟨B, 0, none⟩), .string l, .string s, .string tag] w fun e w' => e = .returned (.bool (decide (tag = macR f key l s))) ∧ Below w.heap.size w w' := by
  have h1 := rrmac_any P B key l s hk hl hs w hr
  have c : w.cell? ⟨B, 0, none⟩ = some (.bool false) := Row.cell hr 0
  generalize macR f key l s = m at *
  have HD : Hid (decide (tag = m) = (m.toList == tag.toList)) := (show decide (tag = m) = (m.toList == tag.toList) from by rw [beq_dec3]; by_cases e : tag = m <;> simp [e, eq_comm])
  rw [HD.out]
  clear P hk hl hs hr HD
  go_enter Tryz.func17, Tryz.ntmps17
  go_wp2_with fail
  refine h1.mono ?_
  rintro e w1 ⟨rfl, hb⟩
  have HB : Hid _ := hb
  clear h1 c hb
  go_wp2
  go_ret
  exact ⟨rfl, HB.out⟩
set_option maxHeartbeats 1000000 in
theorem rrseal_any (P : RPrims f) (B : Nat) (key : ByteArray) (z : Int) (n a s : ByteArray) (hk : key.size ≤ 1048576) (hA : a.size ≤ 1048576) (hs : s.size ≤ 1048576) (w : World) (hr : RefR w B key) :
    Calls Tryz.prog 19 #[.pointer (some ⟨B, 0, none⟩), .int .i64 z, .string n, .string a, .string s] w fun e w' => e = .returned (.tuple #[.string (sealRS f key z n a s), .int .i64 (sealRE f key z n)]) ∧ Below w.heap.size w w' := by
  have hwr := rwrong_any z n w
  unfold sealRS sealRE
  cases hb : fitB z n <;> rw [hb] at hwr
  · simp only [Bool.false_eq_true, if_false, Bool.not_false] at hwr ⊢
    clear P hk hA hs hr
    go_enter Tryz.func19, Tryz.ntmps19
    go_wp2_with fail
    refine hwr.mono ?_
    rintro e w1 ⟨rfl, rfl⟩
    clear hwr
    go_wp2
    go_ret2
    exact ⟨rfl, Below.refl _ _⟩
  simp only [if_true, Bool.not_true] at hwr ⊢
  have hbb := of_decide_eq_true hb
  obtain ⟨m, rfl⟩ : ∃ m : Nat, z = m := ⟨z.toNat, by omega⟩
  have c : w.cell? ⟨B, 0, none⟩ = some (.bool false) := Row.cell hr 0
  have hnum := rnumbered_any (m : Int) m 6 rfl (by omega) (by decide) (by decide) 6 rfl w
  rw [wide6] at hnum
  have hz := put6_le m
  have HR : Hid (sealK f key m = f.exp key (sealTT ++ putS m 6)) := rfl
  generalize putS m 6 = p at *
  have hz2 : (sealTT ++ p).size ≤ 1048576 := by rw [ByteArray.size_append, show sealTT.size = 5 from rfl]; omega
  have ha : ∀ w', (Op.stringOp .add ⟨#[115, 101, 97, 108, 32]⟩ p).run Tryz.prog w' = .ok (.string (sealTT ++ p)) w' := fun w' => run_string_add_sum (P := Tryz.prog) (w := w') _ _ (by rw [show (⟨#[115, 101, 97, 108, 32]⟩ : ByteArray).size = 5 from rfl]; omega)
  have hu := fun W (hW : Below w.heap.size w W) => under_any P B key (sealTT ++ p) hk hz2 W (hr.keep hW)
  have hs2 := fun W => P.shut (sealK f key m) n a s hA hs W
  rw [HR.out] at hs2 ⊢
  generalize sealTT ++ p = q at *
  generalize f.exp key q = x at *
  generalize f.shut x n a s = t at *
  generalize f.shutX x n = v at *
  clear P hk hA hs hr hz hz2 hb hbb
  go_enter Tryz.func19, Tryz.ntmps19
  go_wp2_with fail
  refine hwr.mono ?_
  rintro e w1 ⟨rfl, rfl⟩
  clear hwr
  go_wp2_with fail
  refine hnum.mono ?_
  rintro e w2 ⟨rfl, hb2⟩
  clear hnum c
  go_wp2_with fail
  refine (hu _ hb2).mono ?_
  rintro e w3 ⟨rfl, hb3⟩
  have hB3 := hb2.trans (hb3.mono hb2.size)
  clear hu hb2 hb3
  go_wp2_with fail
  refine (hs2 _).mono ?_
  rintro e w4 ⟨rfl, hb4⟩
  have HB : Hid (Below w1.heap.size w1 w4) := hB3.trans (hb4.mono hB3.size)
  clear hs2 hB3 hb4
  go_wp2
  go_ret2
  exact ⟨rfl, HB.out⟩
set_option maxHeartbeats 1000000 in
theorem rropen_any (P : RPrims f) (B : Nat) (key : ByteArray) (z : Int) (n a s : ByteArray) (hk : key.size ≤ 1048576) (hA : a.size ≤ 1048576) (hs : s.size ≤ 1048576) (w : World) (hr : RefR w B key) :
    Calls Tryz.prog 21 #[.pointer (some ⟨B, 0, none⟩), .int .i64 z, .string n, .string a, .string s] w fun e w' => e = .returned (.tuple #[.string (openRS f key z n a s), .int .i64 (openRE f key z n a s)]) ∧ Below w.heap.size w w' := by
  have hwr := rwrong_any z n w
  unfold openRS openRE
  cases hb : fitB z n <;> rw [hb] at hwr
  · simp only [Bool.false_eq_true, if_false, Bool.not_false] at hwr ⊢
    clear P hk hA hs hr
    go_enter Tryz.func21, Tryz.ntmps21
    go_wp2_with fail
    refine hwr.mono ?_
    rintro e w1 ⟨rfl, rfl⟩
    clear hwr
    go_wp2
    go_ret2
    exact ⟨rfl, Below.refl _ _⟩
  simp only [if_true, Bool.not_true] at hwr ⊢
  by_cases h16 : s.size < 16
  · have h16' : (s.size : Int) < 16 := by omega
    simp only [h16, if_true]
    clear P hk hA hs hr
    go_enter Tryz.func21, Tryz.ntmps21
    go_wp2_with fail
    refine hwr.mono ?_
    rintro e w1 ⟨rfl, rfl⟩
    clear hwr
    go_wp2
    go_ret2
    exact ⟨rfl, Below.refl _ _⟩
  have h16' : ¬ (s.size : Int) < 16 := by omega
  simp only [h16, if_false]
  have hbb := of_decide_eq_true hb
  obtain ⟨m, rfl⟩ : ∃ m : Nat, z = m := ⟨z.toNat, by omega⟩
  have c : w.cell? ⟨B, 0, none⟩ = some (.bool false) := Row.cell hr 0
  have hnum := rnumbered_any (m : Int) m 6 rfl (by omega) (by decide) (by decide) 6 rfl w
  rw [wide6] at hnum
  have hz := put6_le m
  have HR : Hid (sealK f key m = f.exp key (sealTT ++ putS m 6)) := rfl
  generalize putS m 6 = p at *
  have hz2 : (sealTT ++ p).size ≤ 1048576 := by rw [ByteArray.size_append, show sealTT.size = 5 from rfl]; omega
  have ha : ∀ w', (Op.stringOp .add ⟨#[115, 101, 97, 108, 32]⟩ p).run Tryz.prog w' = .ok (.string (sealTT ++ p)) w' := fun w' => run_string_add_sum (P := Tryz.prog) (w := w') _ _ (by rw [show (⟨#[115, 101, 97, 108, 32]⟩ : ByteArray).size = 5 from rfl]; omega)
  have hu := fun W (hW : Below w.heap.size w W) => under_any P B key (sealTT ++ p) hk hz2 W (hr.keep hW)
  have hs2 := fun W => P.opn (sealK f key m) n a s hA hs W
  rw [HR.out] at hs2 ⊢
  generalize sealTT ++ p = q at *
  generalize f.exp key q = x at *
  generalize f.opn x n a s = t at *
  generalize f.opnX x n a s = v at *
  clear P hk hA hs hr hz hz2 hb hbb h16
  go_enter Tryz.func21, Tryz.ntmps21
  go_wp2_with fail
  refine hwr.mono ?_
  rintro e w1 ⟨rfl, rfl⟩
  clear hwr
  go_wp2_with fail
  refine hnum.mono ?_
  rintro e w2 ⟨rfl, hb2⟩
  clear hnum c
  go_wp2_with fail
  refine (hu _ hb2).mono ?_
  rintro e w3 ⟨rfl, hb3⟩
  have hB3 := hb2.trans (hb3.mono hb2.size)
  clear hu hb2 hb3
  go_wp2_with fail
  refine (hs2 _).mono ?_
  rintro e w4 ⟨rfl, hb4⟩
  have HB : Hid (Below w1.heap.size w1 w4) := hB3.trans (hb4.mono hB3.size)
  clear hs2 hB3 hb4
  go_wp2
  go_ret2
  exact ⟨rfl, HB.out⟩
end
theorem rreal_no {pass salt X : ByteArray} {rounds c : Int} (w : World) (hc : ¬ c = 0) (hs : Calls Tryz.prog 10 #[.string pass, .string salt, .int .i64 rounds, .int .i64 32] w fun e w' => e = .returned (.tuple #[.string X, .int .i64 c]) ∧ Below w.heap.size w w') :
    Calls Tryz.prog 6 #[.string pass, .string salt, .int .i64 rounds] w fun e w' => e = .returned (.tuple #[.pointer none, .int .i64 c]) ∧ Below w.heap.size w w' := by
  have hc1 : (c != 0) = true := by simpa using hc
  have hc2 : (c == 0) = false := beq_false_of_ne hc
  clear hc
  go_enter Tryz.func6, Tryz.ntmps6
  go_wp2_with fail
  refine hs.mono ?_
  rintro e w1 ⟨rfl, hb⟩
  have HB : Hid _ := hb
  clear hs hb
  go_wp2
  go_ret2
  exact ⟨rfl, HB.out⟩
theorem rreal_yes {pass salt X : ByteArray} {rounds : Int} (w : World) (hs : Calls Tryz.prog 10 #[.string pass, .string salt, .int .i64 rounds, .int .i64 32] w fun e w' => e = .returned (.tuple #[.string X, .int .i64 0]) ∧ Below w.heap.size w w') :
    Calls Tryz.prog 6 #[.string pass, .string salt, .int .i64 rounds] w fun e w' => ∃ B, e = .returned (.tuple #[.pointer (some ⟨B, 0, none⟩), .int .i64 0]) ∧ RefR w' B X ∧ Below w.heap.size w w' := by
  go_enter Tryz.func6, Tryz.ntmps6
  go_wp2_with fail
  refine hs.mono ?_
  rintro e w1 ⟨rfl, hb⟩
  have HB : Hid _ := hb
  clear hs hb
  go_wp2
  go_ret2
  exact ⟨w1.heap.size, rfl, heap_alloc_new w1 _, HB.out.alloc HB.out.size _⟩
end Go.Proofs.YtfmaajfohieneaaGreatDoor
