/- The vault's calls, the real one behind them: what each tells; nothing that was there is changed. -/
import Derived.Test.YtfmaajfohieneaaDoorMg09
namespace Go.Proofs.YtfmaajfohieneaaDoor
set_option maxRecDepth 20000
open Go.RowKit

section
variable {Tab : World → Prop} {f : PF}
theorem khash_any (P : Prims Tab f) (N : Nat) (s : ByteArray) (hs : s.size ≤ 1048576) (w : World) (ht : Tab w) :
    Calls Tryd.prog 49 #[.pointer (some ⟨N, 0, none⟩), .string s] w fun e w' => e = .returned (.string (f.sum s)) ∧ Below w.heap.size w w' := by
  have h := P.sum s hs w ht
  generalize f.sum s = x at *
  clear P ht hs
  go_enter Tryd.func49, Tryd.ntmps49
  go_wp2_with fail
  refine h.mono ?_
  rintro e w1 ⟨rfl, hb⟩
  clear h
  go_wp2
  go_ret
  exact ⟨rfl, hb⟩
theorem rvhash_any (P : Prims Tab f) (B : Nat) (key s : ByteArray) (hs : s.size ≤ 1048576) (w : World) (ht : Tab w) (hp : RealV w B key) :
    Calls Tryd.prog 15 #[.pointer (some ⟨B, 0, none⟩), .string s] w fun e w' => e = .returned (.string (f.sum s)) ∧ Below w.heap.size w w' := by
  obtain ⟨N, r1, r2⟩ := hp
  have c0 : w.cell? ⟨B, 0, none⟩ = some (.iface 34 (.pointer (some ⟨N, 0, none⟩))) := r1.cell 0
  have cN : w.cell? ⟨N, 0, none⟩ = some (.string key) := r2.cell 0
  have hg := given_any B _ _ w c0
  have hn := khash_any P N s hs w ht
  have hm : ∀ w : World, (method 265 34 (.pointer (some ⟨N, 0, none⟩)) "grapnel/vault.hash").run Tryd.prog w = .ok (49, .pointer (some ⟨N, 0, none⟩)) w := fun _ => by kernel_rfl
  generalize f.sum s = u at *
  clear P ht hs r1 r2 cN
  go_enter Tryd.func15, Tryd.ntmps15
  go_wp2_with fail
  refine hg.mono ?_
  rintro e w1 ⟨rfl, rfl⟩
  clear hg
  go_wp2_with fail
  refine hn.mono ?_
  rintro e w2 ⟨rfl, h1⟩
  have HF : Hid _ := h1
  clear h1 hn
  go_wp2
  go_ret
  exact ⟨rfl, HF.out⟩
theorem rvmac_any (P : Prims Tab f) (B : Nat) (key l s : ByteArray) (hk : key.size ≤ 1048576) (hl : l.size ≤ 1048000) (hs : s.size ≤ 1048576) (w : World) (ht : Tab w) (hp : RealV w B key) :
    Calls Tryd.prog 9 #[.pointer (some ⟨B, 0, none⟩), .string l, .string s] w fun e w' => e = .returned (.string (macR f key l s)) ∧ Below w.heap.size w w' := by
  obtain ⟨N, r1, r2⟩ := hp
  have c0 : w.cell? ⟨B, 0, none⟩ = some (.iface 34 (.pointer (some ⟨N, 0, none⟩))) := r1.cell 0
  have cN : w.cell? ⟨N, 0, none⟩ = some (.string key) := r2.cell 0
  have hg := given_any B _ _ w c0
  have hn := kmac_any P N key l s hk hl hs w ht cN
  have hm : ∀ w : World, (method 265 34 (.pointer (some ⟨N, 0, none⟩)) "grapnel/vault.mac").run Tryd.prog w = .ok (50, .pointer (some ⟨N, 0, none⟩)) w := fun _ => by kernel_rfl
  generalize macR f key l s = u at *
  clear P ht hk hl hs r1 r2 cN
  go_enter Tryd.func9, Tryd.ntmps9
  go_wp2_with fail
  refine hg.mono ?_
  rintro e w1 ⟨rfl, rfl⟩
  clear hg
  go_wp2_with fail
  refine hn.mono ?_
  rintro e w2 ⟨rfl, h1⟩
  have HF : Hid _ := h1
  clear h1 hn
  go_wp2
  go_ret
  exact ⟨rfl, HF.out⟩
theorem rvmade_any (P : Prims Tab f) (B : Nat) (key l s tag : ByteArray) (hk : key.size ≤ 1048576) (hl : l.size ≤ 1048000) (hs : s.size ≤ 1048576) (htg : tag.size ≤ maxLen) (w : World) (ht : Tab w) (hp : RealV w B key) :
    Calls Tryd.prog 10 #[.pointer (some ⟨B, 0, none⟩), .string l, .string s, .string tag] w fun e w' => e = .returned (.bool (decide (tag = macR f key l s))) ∧ Below w.heap.size w w' := by
  obtain ⟨N, r1, r2⟩ := hp
  have c0 : w.cell? ⟨B, 0, none⟩ = some (.iface 34 (.pointer (some ⟨N, 0, none⟩))) := r1.cell 0
  have cN : w.cell? ⟨N, 0, none⟩ = some (.string key) := r2.cell 0
  have hg := given_any B _ _ w c0
  have hn := kmade_any P N key l s tag hk hl hs htg w ht cN
  have hm : ∀ w : World, (method 265 34 (.pointer (some ⟨N, 0, none⟩)) "grapnel/vault.made").run Tryd.prog w = .ok (51, .pointer (some ⟨N, 0, none⟩)) w := fun _ => by kernel_rfl
  generalize decide (tag = macR f key l s) = u at *
  clear P ht hk hl hs htg r1 r2 cN
  go_enter Tryd.func10, Tryd.ntmps10
  go_wp2_with fail
  refine hg.mono ?_
  rintro e w1 ⟨rfl, rfl⟩
  clear hg
  go_wp2_with fail
  refine hn.mono ?_
  rintro e w2 ⟨rfl, h1⟩
  have HF : Hid _ := h1
  clear h1 hn
  go_wp2
  go_ret
  exact ⟨rfl, HF.out⟩
set_option maxHeartbeats 1000000 in
theorem rvseal_any (P : Prims Tab f) (B : Nat) (key : ByteArray) (z : Int) (n a s : ByteArray) (hk : key.size ≤ 1048576) (hA : a.size ≤ 1048576) (hs : s.size ≤ 1048576) (w : World) (ht : Tab w) (hp : RealV w B key) :
    Calls Tryd.prog 6 #[.pointer (some ⟨B, 0, none⟩), .int .i64 z, .string n, .string a, .string s] w fun e w' => e = .returned (.tuple #[.string (sealRS f key z n a s), .int .i64 (sealRE f key z n)]) ∧ Below w.heap.size w w' := by
  obtain ⟨N, r1, r2⟩ := hp
  have c0 : w.cell? ⟨B, 0, none⟩ = some (.iface 34 (.pointer (some ⟨N, 0, none⟩))) := r1.cell 0
  have cN : w.cell? ⟨N, 0, none⟩ = some (.string key) := r2.cell 0
  have hg := given_any B _ _ w c0
  have hf := fit_any z n w
  unfold sealRS sealRE
  rw [show decide (0 ≤ z ∧ z ≤ 281474976710655 ∧ n.size = 12) = fitB z n from rfl] at hf
  cases hb : fitB z n <;> rw [hb] at hf
  · simp only [Bool.false_eq_true, if_false]
    clear P ht hk hA hs r1 r2 cN
    go_enter Tryd.func6, Tryd.ntmps6
    go_wp2_with fail
    refine hg.mono ?_
    rintro e w1 ⟨rfl, rfl⟩
    clear hg
    go_wp2_with fail
    refine hf.mono ?_
    rintro e w3 ⟨rfl, rfl⟩
    clear hf
    go_wp2
    go_ret2
    exact ⟨rfl, Below.refl _ _⟩
  · simp only [if_true]
    obtain ⟨m, rfl⟩ : ∃ m : Nat, z = m := ⟨z.toNat, by have := of_decide_eq_true hb; omega⟩
    have hn := kseal_any P N key m n a s hk hA hs w ht cN
    have hm : ∀ w : World, (method 265 34 (.pointer (some ⟨N, 0, none⟩)) "grapnel/vault.seal").run Tryd.prog w = .ok (53, .pointer (some ⟨N, 0, none⟩)) w := fun _ => by kernel_rfl
    generalize f.shut (sealK f key m) n a s = u at *
    generalize f.shutX (sealK f key m) n = v at *
    clear P ht hk hA hs r1 r2 cN hb
    go_enter Tryd.func6, Tryd.ntmps6
    go_wp2_with fail
    refine hg.mono ?_
    rintro e w1 ⟨rfl, rfl⟩
    clear hg
    go_wp2_with fail
    refine hf.mono ?_
    rintro e w3 ⟨rfl, rfl⟩
    clear hf
    go_wp2_with fail
    refine hn.mono ?_
    rintro e w2 ⟨rfl, h1⟩
    have HF : Hid _ := h1
    clear h1 hn
    go_wp2
    go_ret2
    exact ⟨rfl, HF.out⟩
set_option maxHeartbeats 1000000 in
theorem rvopen_any (P : Prims Tab f) (B : Nat) (key : ByteArray) (z : Int) (n a s : ByteArray) (hk : key.size ≤ 1048576) (hA : a.size ≤ 1048576) (hs : s.size ≤ 1048576) (w : World) (ht : Tab w) (hp : RealV w B key) :
    Calls Tryd.prog 8 #[.pointer (some ⟨B, 0, none⟩), .int .i64 z, .string n, .string a, .string s] w fun e w' => e = .returned (.tuple #[.string (openRS f key z n a s), .int .i64 (openRE f key z n a s)]) ∧ Below w.heap.size w w' := by
  obtain ⟨N, r1, r2⟩ := hp
  have c0 : w.cell? ⟨B, 0, none⟩ = some (.iface 34 (.pointer (some ⟨N, 0, none⟩))) := r1.cell 0
  have cN : w.cell? ⟨N, 0, none⟩ = some (.string key) := r2.cell 0
  have hg := given_any B _ _ w c0
  have hf := fit_any z n w
  unfold openRS openRE
  rw [show decide (0 ≤ z ∧ z ≤ 281474976710655 ∧ n.size = 12) = fitB z n from rfl] at hf
  cases hb : fitB z n <;> rw [hb] at hf
  · simp only [Bool.false_eq_true, if_false]
    clear P ht hk hA hs r1 r2 cN
    go_enter Tryd.func8, Tryd.ntmps8
    go_wp2_with fail
    refine hg.mono ?_
    rintro e w1 ⟨rfl, rfl⟩
    clear hg
    go_wp2_with fail
    refine hf.mono ?_
    rintro e w3 ⟨rfl, rfl⟩
    clear hf
    go_wp2
    go_ret2
    exact ⟨rfl, Below.refl _ _⟩
  simp only [if_true]
  by_cases h16 : s.size < 16
  · have h16' : (s.size : Int) < 16 := by omega
    simp only [h16, if_true]
    clear P ht hk hA hs r1 r2 cN
    go_enter Tryd.func8, Tryd.ntmps8
    go_wp2_with fail
    refine hg.mono ?_
    rintro e w1 ⟨rfl, rfl⟩
    clear hg
    go_wp2_with fail
    refine hf.mono ?_
    rintro e w3 ⟨rfl, rfl⟩
    clear hf
    go_wp2
    go_ret2
    exact ⟨rfl, Below.refl _ _⟩
  · have h16' : ¬ (s.size : Int) < 16 := by omega
    simp only [h16, if_false]
    obtain ⟨m, rfl⟩ : ∃ m : Nat, z = m := ⟨z.toNat, by have := of_decide_eq_true hb; omega⟩
    have hn := kopen_any P N key m n a s hk hA hs w ht cN
    have hm : ∀ w : World, (method 265 34 (.pointer (some ⟨N, 0, none⟩)) "grapnel/vault.open").run Tryd.prog w = .ok (52, .pointer (some ⟨N, 0, none⟩)) w := fun _ => by kernel_rfl
    generalize f.opn (sealK f key m) n a s = u at *
    generalize f.opnX (sealK f key m) n a s = v at *
    clear P ht hk hA hs r1 r2 cN hb h16
    go_enter Tryd.func8, Tryd.ntmps8
    go_wp2_with fail
    refine hg.mono ?_
    rintro e w1 ⟨rfl, rfl⟩
    clear hg
    go_wp2_with fail
    refine hf.mono ?_
    rintro e w3 ⟨rfl, rfl⟩
    clear hf
    go_wp2_with fail
    refine hn.mono ?_
    rintro e w2 ⟨rfl, h1⟩
    have HF : Hid _ := h1
    clear h1 hn
    go_wp2
    go_ret2
    exact ⟨rfl, HF.out⟩
end
/-- A new real vault, or Stretch's error. -/
theorem real_no {pass salt X : ByteArray} {rounds c : Int} (w : World) (hc : ¬ c = 0) (hs : Calls Tryd.prog 11 #[.string pass, .string salt, .int .i64 rounds, .int .i64 32] w fun e w' => e = .returned (.tuple #[.string X, .int .i64 c]) ∧ Below w.heap.size w w') :
    Calls Tryd.prog 5 #[.string pass, .string salt, .int .i64 rounds] w fun e w' => e = .returned (.tuple #[.pointer none, .int .i64 c]) ∧ Below w.heap.size w w' := by
  have hc1 : (c != 0) = true := by simpa using hc
  have hc2 : (c == 0) = false := beq_false_of_ne hc
  clear hc
  go_enter Tryd.func5, Tryd.ntmps5
  go_wp2_with fail
  refine hs.mono ?_
  rintro e w1 ⟨rfl, hb⟩
  have HB : Hid _ := hb
  clear hs hb
  go_wp2
  go_ret2
  exact ⟨rfl, HB.out⟩
theorem real_yes {pass salt X : ByteArray} {rounds : Int} (w : World) (hs : Calls Tryd.prog 11 #[.string pass, .string salt, .int .i64 rounds, .int .i64 32] w fun e w' => e = .returned (.tuple #[.string X, .int .i64 0]) ∧ Below w.heap.size w w') :
    Calls Tryd.prog 5 #[.string pass, .string salt, .int .i64 rounds] w fun e w' => ∃ B, e = .returned (.tuple #[.pointer (some ⟨B, 0, none⟩), .int .i64 0]) ∧ RealV w' B X ∧ Below w.heap.size w w' := by
  go_enter Tryd.func5, Tryd.ntmps5
  go_wp2_with fail
  refine hs.mono ?_
  rintro e w1 ⟨rfl, hb⟩
  have HB : Hid _ := hb
  clear hs hb
  go_wp2
  go_ret2
  obtain ⟨r0, r1, rB⟩ := two_new (w := w1) (w1 := (w1.alloc (.cells #[.string X] 36)).alloc (.cells #[.iface 34 (.pointer (some ⟨w1.heap.size, 0, none⟩))] 40)) (Below.refl _ _)
  exact ⟨w1.heap.size + 1, rfl, ⟨w1.heap.size, r1, r0⟩, HB.out.trans (rB.mono HB.out.size)⟩
end Go.Proofs.YtfmaajfohieneaaDoor
