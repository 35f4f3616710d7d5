/- journal's Commit: refused; and followed. · journal at a device that is off or has no layout: Recover, Commit, Anew refused. -/
import Derived.Test.YtoopaigpjefonaaGreatDoorMg13
import Derived.Test.YtoopaigpjefonaaGreatDoorMg16
import Derived.Test.YtoopaigpjefonaaGreatDoorMg14
namespace Go.Proofs.YtoopaigpjefonaaGreatDoor
set_option maxRecDepth 20000
open Go.RowKit

theorem promise_duo (K : VK) (HK : VKOk K) (F : Nat → Prop) (B : Nat) (P : PS) (S : K.σ) (s : Sp) (oa : Option Addr) (ca : Nat) (l : List Wt) (w : World) (h : Duo K w F B P S) (hr : K.room S 2) (hv : Wts w (.slice oa l.length ca) l) (hll : l.length ≤ 24) (hsz : ∀ x ∈ l, x.raw.size ≤ 512) :
    Calls Tryz.prog 55 #[K.v, .slice oa l.length ca, .agg s.arr] w fun e w' => e = .returned (.tuple #[.agg #[.int .i64 (proA K S l s), .string (proR K S l s)], .int .i64 (proE K S l s)]) ∧ Duo K w' F B P (proP K S l s) ∧ Touch F w w' := by
  refine h.vaultC (E := fun e => e = .returned (.tuple #[.agg #[.int .i64 (proA K S l s), .string (proR K S l s)], .int .i64 (proE K S l s)])) fun F2 hl _ => ?_
  exact (jpro_any K HK F2 S s oa ca l hr (VOut.start HK hl (Below.refl _ _)) (Nat.le_refl _) hv hll hsz).mono fun e w' ⟨h1, h2, _⟩ => ⟨h1, h2.lies HK, h2.2⟩
theorem super_duo (K : VK) (HK : VKOk K) (F : Nat → Prop) (B : Nat) (P : PS) (S : K.σ) (s : Sp) (w : World) (h : Duo K w F B P S) (hr : K.room S 1) :
    Calls Tryz.prog 56 #[K.v, .agg s.arr] w fun e w' => e = .returned (.tuple #[.agg #[.int .i64 (supA s), .string (supR K S s)], .int .i64 (supE s)]) ∧ Duo K w' F B P (supP K S s) ∧ Touch F w w' := by
  refine h.vaultC (E := fun e => e = .returned (.tuple #[.agg #[.int .i64 (supA s), .string (supR K S s)], .int .i64 (supE s)])) fun F2 hl _ => ?_
  exact (jsuper_any K HK F2 S s hr (VOut.start HK hl (Below.refl _ _)) (Nat.le_refl _)).mono fun e w' ⟨h1, h2, _⟩ => ⟨h1, h2.lies HK, h2.2⟩
set_option maxHeartbeats 4000000 in
theorem commit_in (K : VK) (HK : VKOk K) (F : Nat → Prop) (B : Nat) (P : PS) (S : K.σ) (a0 a1 a2 : Int) (r : ByteArray) (n q s2 t : Nat) (oa : Option Addr) (ca : Nat) (l : List Wt) (w : World) (A1 A2 : Int) (R1 R2 : ByteArray) (S1 S2 : K.σ) (h : Duo K w F B P S) (hw : P.wait.length ≤ 100000) (hg : ErrT w) (hF : ¬ F 3)
    (hv : WtO F w (.slice oa l.length ca) l) (hll : l.length ≤ 24) (hn : n ≤ 1024) (hup : P.up = true) (htg : togB 27 (n : Int) l = true)
    (hlay : ∀ W, Below w.heap.size w W → Calls Tryz.prog 53 #[.pointer (some ⟨B, 0, none⟩)] W fun e W' => e = .returned (.tuple #[.agg (layA n q s2 t), .int .i64 0]) ∧ Below W.heap.size W W')
    (huns : ∀ W, Below w.heap.size w W → Calls Tryz.prog 28 #[K.v, .agg #[.int .i64 a0, .int .i64 a1, .int .i64 a2, .int .i64 (n : Int), .string r]] W fun e W' => e = .returned (.int .i64 0) ∧ Below W.heap.size W W')
    (hpro : ∀ W, Duo K W F B P S → Wts W (.slice oa l.length ca) l → Calls Tryz.prog 55 #[K.v, .slice oa l.length ca, .agg #[.int .i64 a0, .int .i64 a1, .int .i64 a2, .int .i64 (n : Int), .string r]] W fun e W' => e = .returned (.tuple #[.agg #[.int .i64 A1, .string R1], .int .i64 0]) ∧ Duo K W' F B P S1 ∧ Touch F W W')
    (hsup : ∀ W, Duo K W F B P S1 → Calls Tryz.prog 56 #[K.v, .agg #[.int .i64 a0, .int .i64 a1, .int .i64 a2, .int .i64 (n : Int), .string r]] W fun e W' => e = .returned (.tuple #[.agg #[.int .i64 A2, .string R2], .int .i64 0]) ∧ Duo K W' F B P S2 ∧ Touch F W W') :
    Calls Tryz.prog 22 #[.pointer (some ⟨B, 0, none⟩), K.v, .slice oa l.length ca, .agg #[.int .i64 a0, .int .i64 a1, .int .i64 a2, .int .i64 (n : Int), .string r]] w fun e w' => e = .returned (.int .i64 (ansE (folE [recsL 3 0 l, [⟨A1, R1⟩], l, [⟨A2, R2⟩]] P))) ∧ Duo K w' (grow F w w') B (folP [recsL 3 0 l, [⟨A1, R1⟩], l, [⟨A2, R2⟩]] P) S2 ∧ Touch F w w' := by
  have hb0 := bel_alloc w (.cells #[.int .i64 a0, .int .i64 a1, .int .i64 a2, .int .i64 (n : Int), .string r] 23)
  have g0 := heap_alloc_new w (.cells #[.int .i64 a0, .int .i64 a1, .int .i64 a2, .int .i64 (n : Int), .string r] 23)
  have h1 := hlay _ hb0
  have hans := answer_any (folE [recsL 3 0 l, [⟨A1, R1⟩], l, [⟨A2, R2⟩]] P)
  have HW4 : Hid (P.wait.length + 8 * total [recsL 3 0 l, [⟨A1, R1⟩], l, [⟨A2, R2⟩]] ≤ 900000) := by
    have e : total [recsL 3 0 l, [⟨A1, R1⟩], l, [⟨A2, R2⟩]] = l.length + (1 + (l.length + (1 + 0))) := by show (recsL 3 0 l).length + _ = _; rw [recsL_length]; rfl
    show _ ≤ _
    rw [e]
    omega
  have HH : Hid (True ∧ ErrT w ∧ ¬ F 3 ∧ (∀ k, F k → k < w.heap.size) ∧ Duo K w F B P S ∧ WtO F w (.slice oa l.length ca) l ∧ togB 27 (n : Int) l = true ∧ P.up = true) := ⟨trivial, hg, hF, h.lt, h, hv, htg, hup⟩
  have j24 : ¬ (24 : Int) < (l.length : Int) := by omega
  have htog := fun W (hW : Wts W (.slice oa l.length ca) l) => together_any n q s2 t _ l W hW (by omega) hn
  rw [htg] at htog
  unfold layA at h1 htog
  clear h hw hg hF hv hup htg hlay
  go_enter Tryz.func22, Tryz.ntmps22
  go_wp2_with fail
  refine h1.mono ?_
  rintro e w1 ⟨rfl, hb1⟩
  have hbw1 : Below w.heap.size w w1 := hb0.trans (hb1.mono hb0.size)
  have g1 := (hb1.block w.heap.size (by simp)).trans g0
  have hlt1 := lt_of_block g1
  have gA : (w1.alloc (.cells #[.int .i64 (n : Int), .int .i64 2, .int .i64 3, .int .i64 27, .int .i64 28, .int .i64 29, .int .i64 (q : Int), .int .i64 (29 + (q : Int)), .int .i64 (s2 : Int), .int .i64 (29 + (q : Int) + (s2 : Int)), .int .i64 (29 + (q : Int) + (s2 : Int) + 1), .int .i64 (n : Int), .int .i64 ((n : Int) + 1), .int .i64 (t : Int), .int .i64 ((n : Int) + 1 + (t : Int)), .int .i64 ((n : Int) + 1 + (t : Int) + (n : Int))] 51)).heap[w1.heap.size]? = some (.cells #[.int .i64 (n : Int), .int .i64 2, .int .i64 3, .int .i64 27, .int .i64 28, .int .i64 29, .int .i64 (q : Int), .int .i64 (29 + (q : Int)), .int .i64 (s2 : Int), .int .i64 (29 + (q : Int) + (s2 : Int)), .int .i64 (29 + (q : Int) + (s2 : Int) + 1), .int .i64 (n : Int), .int .i64 ((n : Int) + 1), .int .i64 (t : Int), .int .i64 ((n : Int) + 1 + (t : Int)), .int .i64 ((n : Int) + 1 + (t : Int) + (n : Int))] 51 (0, 0)) := heap_alloc_new w1 _
  have gS : (w1.alloc (.cells #[.int .i64 (n : Int), .int .i64 2, .int .i64 3, .int .i64 27, .int .i64 28, .int .i64 29, .int .i64 (q : Int), .int .i64 (29 + (q : Int)), .int .i64 (s2 : Int), .int .i64 (29 + (q : Int) + (s2 : Int)), .int .i64 (29 + (q : Int) + (s2 : Int) + 1), .int .i64 (n : Int), .int .i64 ((n : Int) + 1), .int .i64 (t : Int), .int .i64 ((n : Int) + 1 + (t : Int)), .int .i64 ((n : Int) + 1 + (t : Int) + (n : Int))] 51)).heap[w.heap.size]? = some (.cells #[.int .i64 a0, .int .i64 a1, .int .i64 a2, .int .i64 (n : Int), .string r] 23 (0, 0)) := (Below.heap_alloc _ _ _ hlt1).trans g1
  have c3 : (w1.alloc (.cells #[.int .i64 (n : Int), .int .i64 2, .int .i64 3, .int .i64 27, .int .i64 28, .int .i64 29, .int .i64 (q : Int), .int .i64 (29 + (q : Int)), .int .i64 (s2 : Int), .int .i64 (29 + (q : Int) + (s2 : Int)), .int .i64 (29 + (q : Int) + (s2 : Int) + 1), .int .i64 (n : Int), .int .i64 ((n : Int) + 1), .int .i64 (t : Int), .int .i64 ((n : Int) + 1 + (t : Int)), .int .i64 ((n : Int) + 1 + (t : Int) + (n : Int))] 51)).cell? ⟨w.heap.size, 3, none⟩ = some (.int .i64 (n : Int)) := cell_of_row _ _ 3 _ _ _ gS
  have hbw2 : Below w.heap.size w (w1.alloc (.cells #[.int .i64 (n : Int), .int .i64 2, .int .i64 3, .int .i64 27, .int .i64 28, .int .i64 29, .int .i64 (q : Int), .int .i64 (29 + (q : Int)), .int .i64 (s2 : Int), .int .i64 (29 + (q : Int) + (s2 : Int)), .int .i64 (29 + (q : Int) + (s2 : Int) + 1), .int .i64 (n : Int), .int .i64 ((n : Int) + 1), .int .i64 (t : Int), .int .i64 ((n : Int) + 1 + (t : Int)), .int .i64 ((n : Int) + 1 + (t : Int) + (n : Int))] 51)) := hbw1.alloc hbw1.size _
  have h2 := htog _ (HH.out.2.2.2.2.2.1.1.below hbw2)
  clear h1 hb0 g0 hb1 g1 hbw1 htog
  go_wp2_with fail
  refine h2.mono ?_
  rintro e w2 ⟨rfl, hb2⟩
  have gS2 := (hb2.block w.heap.size (lt_of_block gS)).trans gS
  have gA2 := (hb2.block w1.heap.size (lt_of_block gA)).trans gA
  have hbw3 : Below w.heap.size w w2 := hbw2.trans (hb2.mono hbw2.size)
  have h3 := huns _ hbw3
  have s0 : w2.cell? ⟨w.heap.size, 0, none⟩ = some (.int .i64 a0) := cell_of_row _ _ 0 _ _ _ gS2
  have s1 : w2.cell? ⟨w.heap.size, 1, none⟩ = some (.int .i64 a1) := cell_of_row _ _ 1 _ _ _ gS2
  have s2' : w2.cell? ⟨w.heap.size, 2, none⟩ = some (.int .i64 a2) := cell_of_row _ _ 2 _ _ _ gS2
  have s3 : w2.cell? ⟨w.heap.size, 3, none⟩ = some (.int .i64 (n : Int)) := cell_of_row _ _ 3 _ _ _ gS2
  have s4 : w2.cell? ⟨w.heap.size, 4, none⟩ = some (.string r) := cell_of_row _ _ 4 _ _ _ gS2
  have HB2 : Hid (Below w.heap.size w w2 ∧ w2.heap[w.heap.size]? = some (.cells #[.int .i64 a0, .int .i64 a1, .int .i64 a2, .int .i64 (n : Int), .string r] 23 (0, 0)) ∧ w2.heap[w1.heap.size]? = some (.cells #[.int .i64 (n : Int), .int .i64 2, .int .i64 3, .int .i64 27, .int .i64 28, .int .i64 29, .int .i64 (q : Int), .int .i64 (29 + (q : Int)), .int .i64 (s2 : Int), .int .i64 (29 + (q : Int) + (s2 : Int)), .int .i64 (29 + (q : Int) + (s2 : Int) + 1), .int .i64 (n : Int), .int .i64 ((n : Int) + 1), .int .i64 (t : Int), .int .i64 ((n : Int) + 1 + (t : Int)), .int .i64 ((n : Int) + 1 + (t : Int) + (n : Int))] 51 (0, 0)) ∧ w.heap.size ≤ w1.heap.size) := ⟨hbw3, gS2, gA2, by omega⟩
  clear h2 hb2 gA gS gS2 gA2 hbw2 hbw3 huns c3
  go_wp2_with fail
  refine h3.mono ?_
  rintro e w3 ⟨rfl, hb3⟩
  have hbw3 : Below w.heap.size w w3 := HB2.out.1.trans (hb3.mono HB2.out.1.size)
  have HB3 : Hid (Below w.heap.size w w3 ∧ w3.heap[w.heap.size]? = some (.cells #[.int .i64 a0, .int .i64 a1, .int .i64 a2, .int .i64 (n : Int), .string r] 23 (0, 0)) ∧ w3.heap[w1.heap.size]? = some (.cells #[.int .i64 (n : Int), .int .i64 2, .int .i64 3, .int .i64 27, .int .i64 28, .int .i64 29, .int .i64 (q : Int), .int .i64 (29 + (q : Int)), .int .i64 (s2 : Int), .int .i64 (29 + (q : Int) + (s2 : Int)), .int .i64 (29 + (q : Int) + (s2 : Int) + 1), .int .i64 (n : Int), .int .i64 ((n : Int) + 1), .int .i64 (t : Int), .int .i64 ((n : Int) + 1 + (t : Int)), .int .i64 ((n : Int) + 1 + (t : Int) + (n : Int))] 51 (0, 0)) ∧ w.heap.size ≤ w1.heap.size ∧ Duo K w3 F B P S ∧ WtO F w3 (.slice oa l.length ca) l ∧ ErrT w3) := ⟨hbw3, (hb3.block _ (lt_of_block HB2.out.2.1)).trans HB2.out.2.1, (hb3.block _ (lt_of_block HB2.out.2.2.1)).trans HB2.out.2.2.1, HB2.out.2.2.2, HH.out.2.2.2.2.1.below HK hbw3, HH.out.2.2.2.2.2.1.below hbw3, HH.out.2.1.bel hbw3⟩
  have h4 := HB3.out.2.2.2.2.1.up
  rw [HH.out.2.2.2.2.2.2.2] at h4
  clear h3 hb3 hbw3 HB2 s0 s1 s2' s3 s4
  go_wp2_with fail
  refine h4.mono ?_
  rintro e w4 ⟨rfl, rfl⟩
  have h5 := hpro _ HB3.out.2.2.2.2.1 HB3.out.2.2.2.2.2.1.1
  have u0 : w4.cell? ⟨w.heap.size, 0, none⟩ = some (.int .i64 a0) := cell_of_row _ _ 0 _ _ _ HB3.out.2.1
  have u1 : w4.cell? ⟨w.heap.size, 1, none⟩ = some (.int .i64 a1) := cell_of_row _ _ 1 _ _ _ HB3.out.2.1
  have u2 : w4.cell? ⟨w.heap.size, 2, none⟩ = some (.int .i64 a2) := cell_of_row _ _ 2 _ _ _ HB3.out.2.1
  have u3 : w4.cell? ⟨w.heap.size, 3, none⟩ = some (.int .i64 (n : Int)) := cell_of_row _ _ 3 _ _ _ HB3.out.2.1
  have u4 : w4.cell? ⟨w.heap.size, 4, none⟩ = some (.string r) := cell_of_row _ _ 4 _ _ _ HB3.out.2.1
  clear h4 hpro
  go_wp2_with fail
  refine h5.mono ?_
  rintro e w5 ⟨rfl, hd5, ht5⟩
  have hnF : ∀ k, w.heap.size ≤ k → ¬ F k := fun k hk hF => by have := HH.out.2.2.2.1 k hF; omega
  have HB5 : Hid (Touch F w w5 ∧ w5.heap[w.heap.size]? = some (.cells #[.int .i64 a0, .int .i64 a1, .int .i64 a2, .int .i64 (n : Int), .string r] 23 (0, 0)) ∧ w5.heap[w1.heap.size]? = some (.cells #[.int .i64 (n : Int), .int .i64 2, .int .i64 3, .int .i64 27, .int .i64 28, .int .i64 29, .int .i64 (q : Int), .int .i64 (29 + (q : Int)), .int .i64 (s2 : Int), .int .i64 (29 + (q : Int) + (s2 : Int)), .int .i64 (29 + (q : Int) + (s2 : Int) + 1), .int .i64 (n : Int), .int .i64 ((n : Int) + 1), .int .i64 (t : Int), .int .i64 ((n : Int) + 1 + (t : Int)), .int .i64 ((n : Int) + 1 + (t : Int) + (n : Int))] 51 (0, 0)) ∧ w.heap.size ≤ w1.heap.size ∧ Duo K w5 F B P S1 ∧ WtO F w5 (.slice oa l.length ca) l ∧ ErrT w5) := ⟨(Touch.of_below HB3.out.1).trans (ht5.mono fun _ h => .inl h), (ht5.2 _ (lt_of_block HB3.out.2.1) (hnF _ (Nat.le_refl _))).trans HB3.out.2.1, (ht5.2 _ (lt_of_block HB3.out.2.2.1) (hnF _ HB3.out.2.2.2.1)).trans HB3.out.2.2.1, HB3.out.2.2.2.1, hd5, ⟨HB3.out.2.2.2.2.2.1.1.touch2 ht5 HB3.out.2.2.2.2.2.1.2, HB3.out.2.2.2.2.2.1.2⟩, HB3.out.2.2.2.2.2.2.touch ht5 HH.out.2.2.1⟩
  have hba : Below w5.heap.size w5 (w5.alloc (.cells #[.int .i64 A1, .string R1] 68)) := bel_alloc _ _
  have HB6 : Hid (Touch F w (w5.alloc (.cells #[.int .i64 A1, .string R1] 68)) ∧ (w5.alloc (.cells #[.int .i64 A1, .string R1] 68)).heap[w.heap.size]? = some (.cells #[.int .i64 a0, .int .i64 a1, .int .i64 a2, .int .i64 (n : Int), .string r] 23 (0, 0)) ∧ (w5.alloc (.cells #[.int .i64 A1, .string R1] 68)).heap[w1.heap.size]? = some (.cells #[.int .i64 (n : Int), .int .i64 2, .int .i64 3, .int .i64 27, .int .i64 28, .int .i64 29, .int .i64 (q : Int), .int .i64 (29 + (q : Int)), .int .i64 (s2 : Int), .int .i64 (29 + (q : Int) + (s2 : Int)), .int .i64 (29 + (q : Int) + (s2 : Int) + 1), .int .i64 (n : Int), .int .i64 ((n : Int) + 1), .int .i64 (t : Int), .int .i64 ((n : Int) + 1 + (t : Int)), .int .i64 ((n : Int) + 1 + (t : Int) + (n : Int))] 51 (0, 0)) ∧ w.heap.size ≤ w1.heap.size ∧ Duo K (w5.alloc (.cells #[.int .i64 A1, .string R1] 68)) F B P S1 ∧ WtO F (w5.alloc (.cells #[.int .i64 A1, .string R1] 68)) (.slice oa l.length ca) l ∧ ErrT (w5.alloc (.cells #[.int .i64 A1, .string R1] 68)) ∧ (w5.alloc (.cells #[.int .i64 A1, .string R1] 68)).heap[w5.heap.size]? = some (.cells #[.int .i64 A1, .string R1] 68 (0, 0)) ∧ w1.heap.size < w5.heap.size) := ⟨HB5.out.1.trans (Touch.of_below hba), (hba.block _ (lt_of_block HB5.out.2.1)).trans HB5.out.2.1, (hba.block _ (lt_of_block HB5.out.2.2.1)).trans HB5.out.2.2.1, HB5.out.2.2.2.1, HB5.out.2.2.2.2.1.below HK hba, HB5.out.2.2.2.2.2.1.below hba, HB5.out.2.2.2.2.2.2.bel hba, heap_alloc_new _ _, lt_of_block HB5.out.2.2.1⟩
  have h6 := hsup _ HB6.out.2.2.2.2.1
  have v0 : (w5.alloc (.cells #[.int .i64 A1, .string R1] 68)).cell? ⟨w.heap.size, 0, none⟩ = some (.int .i64 a0) := cell_of_row _ _ 0 _ _ _ HB6.out.2.1
  have v1 : (w5.alloc (.cells #[.int .i64 A1, .string R1] 68)).cell? ⟨w.heap.size, 1, none⟩ = some (.int .i64 a1) := cell_of_row _ _ 1 _ _ _ HB6.out.2.1
  have v2 : (w5.alloc (.cells #[.int .i64 A1, .string R1] 68)).cell? ⟨w.heap.size, 2, none⟩ = some (.int .i64 a2) := cell_of_row _ _ 2 _ _ _ HB6.out.2.1
  have v3 : (w5.alloc (.cells #[.int .i64 A1, .string R1] 68)).cell? ⟨w.heap.size, 3, none⟩ = some (.int .i64 (n : Int)) := cell_of_row _ _ 3 _ _ _ HB6.out.2.1
  have v4 : (w5.alloc (.cells #[.int .i64 A1, .string R1] 68)).cell? ⟨w.heap.size, 4, none⟩ = some (.string r) := cell_of_row _ _ 4 _ _ _ HB6.out.2.1
  clear h5 hd5 ht5 hnF hba hsup u0 u1 u2 u3 u4 HB3 HB5
  go_wp2_with fail
  refine h6.mono ?_
  rintro e w7 ⟨rfl, hd7, ht7⟩
  have hnF : ∀ k, w.heap.size ≤ k → ¬ F k := fun k hk hF => by have := HH.out.2.2.2.1 k hF; omega
  have hz7 : w5.heap.size < w7.heap.size := by have := ht7.size; simp at this; omega
  have HB7 : Hid (Touch F w w7 ∧ w7.heap[w1.heap.size]? = some (.cells #[.int .i64 (n : Int), .int .i64 2, .int .i64 3, .int .i64 27, .int .i64 28, .int .i64 29, .int .i64 (q : Int), .int .i64 (29 + (q : Int)), .int .i64 (s2 : Int), .int .i64 (29 + (q : Int) + (s2 : Int)), .int .i64 (29 + (q : Int) + (s2 : Int) + 1), .int .i64 (n : Int), .int .i64 ((n : Int) + 1), .int .i64 (t : Int), .int .i64 ((n : Int) + 1 + (t : Int)), .int .i64 ((n : Int) + 1 + (t : Int) + (n : Int))] 51 (0, 0)) ∧ Duo K w7 F B P S2 ∧ WtO F w7 (.slice oa l.length ca) l ∧ ErrT w7 ∧ w7.heap[w5.heap.size]? = some (.cells #[.int .i64 A1, .string R1] 68 (0, 0))) := ⟨HB6.out.1.trans (ht7.mono fun _ h => .inl h), (ht7.2 _ (lt_of_block HB6.out.2.2.1) (hnF _ HB6.out.2.2.2.1)).trans HB6.out.2.2.1, hd7, ⟨HB6.out.2.2.2.2.2.1.1.touch2 ht7 HB6.out.2.2.2.2.2.1.2, HB6.out.2.2.2.2.2.1.2⟩, HB6.out.2.2.2.2.2.2.1.touch ht7 HH.out.2.2.1, (ht7.2 _ (lt_of_block HB6.out.2.2.2.2.2.2.2.1) (hnF _ (by have := HB6.out.2.2.2.1; have := HB6.out.2.2.2.2.2.2.2.2; omega))).trans HB6.out.2.2.2.2.2.2.2.1⟩
  have hz1 : w.heap.size ≤ w1.heap.size ∧ w1.heap.size < w5.heap.size := ⟨HB6.out.2.2.2.1, HB6.out.2.2.2.2.2.2.2.2⟩
  clear h6 hd7 ht7 hnF v0 v1 v2 v3 v4 HB6
  go_wp2_with fail
  have HMS : Hid (∀ W : World, W.heap[w1.heap.size]? = some (.cells #[.int .i64 (n : Int), .int .i64 2, .int .i64 3, .int .i64 27, .int .i64 28, .int .i64 29, .int .i64 (q : Int), .int .i64 (29 + (q : Int)), .int .i64 (s2 : Int), .int .i64 (29 + (q : Int) + (s2 : Int)), .int .i64 (29 + (q : Int) + (s2 : Int) + 1), .int .i64 (n : Int), .int .i64 ((n : Int) + 1), .int .i64 (t : Int), .int .i64 ((n : Int) + 1 + (t : Int)), .int .i64 ((n : Int) + 1 + (t : Int) + (n : Int))] 51 (0, 0)) → W.heap[w5.heap.size]? = some (.cells #[.int .i64 A1, .string R1] 68 (0, 0)) → W.heap[w7.heap.size]? = some (.cells #[.int .i64 A2, .string R2] 68 (0, 0)) → W.cell? ⟨w1.heap.size, 0, none⟩ = some (.int .i64 (n : Int)) ∧ W.cell? ⟨w1.heap.size, 1, none⟩ = some (.int .i64 2) ∧ W.cell? ⟨w1.heap.size, 2, none⟩ = some (.int .i64 3) ∧ W.cell? ⟨w1.heap.size, 3, none⟩ = some (.int .i64 27) ∧ W.cell? ⟨w1.heap.size, 4, none⟩ = some (.int .i64 28) ∧ W.cell? ⟨w1.heap.size, 5, none⟩ = some (.int .i64 29) ∧ W.cell? ⟨w1.heap.size, 6, none⟩ = some (.int .i64 (q : Int)) ∧ W.cell? ⟨w1.heap.size, 7, none⟩ = some (.int .i64 (29 + (q : Int))) ∧ W.cell? ⟨w1.heap.size, 8, none⟩ = some (.int .i64 (s2 : Int)) ∧ W.cell? ⟨w1.heap.size, 9, none⟩ = some (.int .i64 (29 + (q : Int) + (s2 : Int))) ∧ W.cell? ⟨w1.heap.size, 10, none⟩ = some (.int .i64 (29 + (q : Int) + (s2 : Int) + 1)) ∧ W.cell? ⟨w1.heap.size, 11, none⟩ = some (.int .i64 (n : Int)) ∧ W.cell? ⟨w1.heap.size, 12, none⟩ = some (.int .i64 ((n : Int) + 1)) ∧ W.cell? ⟨w1.heap.size, 13, none⟩ = some (.int .i64 (t : Int)) ∧ W.cell? ⟨w1.heap.size, 14, none⟩ = some (.int .i64 ((n : Int) + 1 + (t : Int))) ∧ W.cell? ⟨w1.heap.size, 15, none⟩ = some (.int .i64 ((n : Int) + 1 + (t : Int) + (n : Int))) ∧ W.cell? ⟨w5.heap.size, 0, none⟩ = some (.int .i64 A1) ∧ W.cell? ⟨w5.heap.size, 1, none⟩ = some (.string R1) ∧ W.cell? ⟨w7.heap.size, 0, none⟩ = some (.int .i64 A2) ∧ W.cell? ⟨w7.heap.size, 1, none⟩ = some (.string R2)) := fun W e1 e2 e3 => ⟨cell_of_row _ _ 0 _ _ _ e1, cell_of_row _ _ 1 _ _ _ e1, cell_of_row _ _ 2 _ _ _ e1, cell_of_row _ _ 3 _ _ _ e1, cell_of_row _ _ 4 _ _ _ e1, cell_of_row _ _ 5 _ _ _ e1, cell_of_row _ _ 6 _ _ _ e1, cell_of_row _ _ 7 _ _ _ e1, cell_of_row _ _ 8 _ _ _ e1, cell_of_row _ _ 9 _ _ _ e1, cell_of_row _ _ 10 _ _ _ e1, cell_of_row _ _ 11 _ _ _ e1, cell_of_row _ _ 12 _ _ _ e1, cell_of_row _ _ 13 _ _ _ e1, cell_of_row _ _ 14 _ _ _ e1, cell_of_row _ _ 15 _ _ _ e1, cell_of_row _ _ 0 _ _ _ e2, cell_of_row _ _ 1 _ _ _ e2, cell_of_row _ _ 0 _ _ _ e3, cell_of_row _ _ 1 _ _ _ e3⟩
  have hba : Below w7.heap.size w7 (w7.alloc (.cells #[.int .i64 A2, .string R2] 68)) := bel_alloc _ _
  have HB8 : Hid ((w7.alloc (.cells #[.int .i64 A2, .string R2] 68)).heap[w1.heap.size]? = some (.cells #[.int .i64 (n : Int), .int .i64 2, .int .i64 3, .int .i64 27, .int .i64 28, .int .i64 29, .int .i64 (q : Int), .int .i64 (29 + (q : Int)), .int .i64 (s2 : Int), .int .i64 (29 + (q : Int) + (s2 : Int)), .int .i64 (29 + (q : Int) + (s2 : Int) + 1), .int .i64 (n : Int), .int .i64 ((n : Int) + 1), .int .i64 (t : Int), .int .i64 ((n : Int) + 1 + (t : Int)), .int .i64 ((n : Int) + 1 + (t : Int) + (n : Int))] 51 (0, 0)) ∧ (w7.alloc (.cells #[.int .i64 A2, .string R2] 68)).heap[w5.heap.size]? = some (.cells #[.int .i64 A1, .string R1] 68 (0, 0)) ∧ (w7.alloc (.cells #[.int .i64 A2, .string R2] 68)).heap[w7.heap.size]? = some (.cells #[.int .i64 A2, .string R2] 68 (0, 0))) := ⟨(hba.block _ (lt_of_block HB7.out.2.1)).trans HB7.out.2.1, (hba.block _ (lt_of_block HB7.out.2.2.2.2.2)).trans HB7.out.2.2.2.2.2, heap_alloc_new _ _⟩
  have HKS : Hid (∀ W : World, Below (w7.alloc (.cells #[.int .i64 A2, .string R2] 68)).heap.size (w7.alloc (.cells #[.int .i64 A2, .string R2] 68)) W → W.cell? ⟨w1.heap.size, 0, none⟩ = some (.int .i64 (n : Int)) ∧ W.cell? ⟨w1.heap.size, 1, none⟩ = some (.int .i64 2) ∧ W.cell? ⟨w1.heap.size, 2, none⟩ = some (.int .i64 3) ∧ W.cell? ⟨w1.heap.size, 3, none⟩ = some (.int .i64 27) ∧ W.cell? ⟨w1.heap.size, 4, none⟩ = some (.int .i64 28) ∧ W.cell? ⟨w1.heap.size, 5, none⟩ = some (.int .i64 29) ∧ W.cell? ⟨w1.heap.size, 6, none⟩ = some (.int .i64 (q : Int)) ∧ W.cell? ⟨w1.heap.size, 7, none⟩ = some (.int .i64 (29 + (q : Int))) ∧ W.cell? ⟨w1.heap.size, 8, none⟩ = some (.int .i64 (s2 : Int)) ∧ W.cell? ⟨w1.heap.size, 9, none⟩ = some (.int .i64 (29 + (q : Int) + (s2 : Int))) ∧ W.cell? ⟨w1.heap.size, 10, none⟩ = some (.int .i64 (29 + (q : Int) + (s2 : Int) + 1)) ∧ W.cell? ⟨w1.heap.size, 11, none⟩ = some (.int .i64 (n : Int)) ∧ W.cell? ⟨w1.heap.size, 12, none⟩ = some (.int .i64 ((n : Int) + 1)) ∧ W.cell? ⟨w1.heap.size, 13, none⟩ = some (.int .i64 (t : Int)) ∧ W.cell? ⟨w1.heap.size, 14, none⟩ = some (.int .i64 ((n : Int) + 1 + (t : Int))) ∧ W.cell? ⟨w1.heap.size, 15, none⟩ = some (.int .i64 ((n : Int) + 1 + (t : Int) + (n : Int))) ∧ W.cell? ⟨w5.heap.size, 0, none⟩ = some (.int .i64 A1) ∧ W.cell? ⟨w5.heap.size, 1, none⟩ = some (.string R1) ∧ W.cell? ⟨w7.heap.size, 0, none⟩ = some (.int .i64 A2) ∧ W.cell? ⟨w7.heap.size, 1, none⟩ = some (.string R2)) := fun W hW => HMS.out W ((hW.block _ (lt_of_block HB8.out.1)).trans HB8.out.1) ((hW.block _ (lt_of_block HB8.out.2.1)).trans HB8.out.2.1) ((hW.block _ (lt_of_block HB8.out.2.2)).trans HB8.out.2.2)
  have HBX : Hid (True ∧ Below (w7.alloc (.cells #[.int .i64 A2, .string R2] 68)).heap.size (w7.alloc (.cells #[.int .i64 A2, .string R2] 68)) (w7.alloc (.cells #[.int .i64 A2, .string R2] 68))) := ⟨trivial, Below.refl _ _⟩
  have HT3 : Hid (Touch F w (w7.alloc (.cells #[.int .i64 A2, .string R2] 68))) := HB7.out.1.trans (Touch.of_below hba)
  have HD3 : Hid (Duo K (w7.alloc (.cells #[.int .i64 A2, .string R2] 68)) F B P S2) := HB7.out.2.2.1.below HK hba
  have HE3 : Hid (ErrT (w7.alloc (.cells #[.int .i64 A2, .string R2] 68))) := HB7.out.2.2.2.2.1.bel hba
  have HL3 : Hid (WtO F (w7.alloc (.cells #[.int .i64 A2, .string R2] 68)) (.slice oa l.length ca) l) := HB7.out.2.2.2.1.below hba
  have hrec := fun (W : World) (hW : Below (w7.alloc (.cells #[.int .i64 A2, .string R2] 68)).heap.size (w7.alloc (.cells #[.int .i64 A2, .string R2] 68)) W) => records_any n q s2 t (.slice oa l.length ca) l W (HL3.out.1.below hW) (by omega)
  unfold layA at hrec
  clear hba HB7
  go_region_held3 (fun w' => w'.cell? ⟨w1.heap.size, 0, none⟩ = some (.int .i64 (n : Int)) ∧ w'.cell? ⟨w1.heap.size, 1, none⟩ = some (.int .i64 2) ∧ w'.cell? ⟨w1.heap.size, 2, none⟩ = some (.int .i64 3) ∧ w'.cell? ⟨w1.heap.size, 3, none⟩ = some (.int .i64 27) ∧ w'.cell? ⟨w1.heap.size, 4, none⟩ = some (.int .i64 28) ∧ w'.cell? ⟨w1.heap.size, 5, none⟩ = some (.int .i64 29) ∧ w'.cell? ⟨w1.heap.size, 6, none⟩ = some (.int .i64 (q : Int)) ∧ w'.cell? ⟨w1.heap.size, 7, none⟩ = some (.int .i64 (29 + (q : Int))) ∧ w'.cell? ⟨w1.heap.size, 8, none⟩ = some (.int .i64 (s2 : Int)) ∧ w'.cell? ⟨w1.heap.size, 9, none⟩ = some (.int .i64 (29 + (q : Int) + (s2 : Int))) ∧ w'.cell? ⟨w1.heap.size, 10, none⟩ = some (.int .i64 (29 + (q : Int) + (s2 : Int) + 1)) ∧ w'.cell? ⟨w1.heap.size, 11, none⟩ = some (.int .i64 (n : Int)) ∧ w'.cell? ⟨w1.heap.size, 12, none⟩ = some (.int .i64 ((n : Int) + 1)) ∧ w'.cell? ⟨w1.heap.size, 13, none⟩ = some (.int .i64 (t : Int)) ∧ w'.cell? ⟨w1.heap.size, 14, none⟩ = some (.int .i64 ((n : Int) + 1 + (t : Int))) ∧ w'.cell? ⟨w1.heap.size, 15, none⟩ = some (.int .i64 ((n : Int) + 1 + (t : Int) + (n : Int))) ∧ w'.cell? ⟨w5.heap.size, 0, none⟩ = some (.int .i64 A1) ∧ w'.cell? ⟨w5.heap.size, 1, none⟩ = some (.string R1) ∧ w'.cell? ⟨w7.heap.size, 0, none⟩ = some (.int .i64 A2) ∧ w'.cell? ⟨w7.heap.size, 1, none⟩ = some (.string R2)) (first | exact hsG | exact hsF | exact HKS.out _ (by (repeat (first | exact HBX.out.2 | refine bd ?_ | refine ba ?_)))) (first
    | (go_at_call 57; refine (hrec _ (by (repeat (first | exact HBX.out.2 | refine bd ?_ | refine ba ?_)))).mono ?_; rintro e wN ⟨rv, rfl, hWZ, hsN⟩; obtain ⟨oz, cz, rfl⟩ := hWZ.form; have HBY : Hid (Below (w7.alloc (.cells #[.int .i64 A2, .string R2] 68)).heap.size (w7.alloc (.cells #[.int .i64 A2, .string R2] 68)) wN) := (show Below (w7.alloc (.cells #[.int .i64 A2, .string R2] 68)).heap.size (w7.alloc (.cells #[.int .i64 A2, .string R2] 68)) _ from (by (repeat (first | exact HBX.out.2 | refine bd ?_ | refine ba ?_)))).trans (hsN.mono (show (w7.alloc (.cells #[.int .i64 A2, .string R2] 68)).heap.size ≤ _ from (show Below (w7.alloc (.cells #[.int .i64 A2, .string R2] 68)).heap.size (w7.alloc (.cells #[.int .i64 A2, .string R2] 68)) _ from (by (repeat (first | exact HBX.out.2 | refine bd ?_ | refine ba ?_)))).size)); have hzN : w7.heap.size + 1 ≤ wN.heap.size := (by have q := HBY.out.size; simpa using q); have hWtR : Wts wN (.slice oz (recsL 3 0 l).length cz) (recsL 3 0 l) ∧ Wts.Out (.slice oz (recsL 3 0 l).length cz) F := ⟨hWZ.wts.1, fun g o len cap e hk => by have q1 := (hWZ.wts.2 g o len cap e).1; have q2 := HH.out.2.2.2.1 _ hk; have q3 := (show Below (w7.alloc (.cells #[.int .i64 A2, .string R2] 68)).heap.size (w7.alloc (.cells #[.int .i64 A2, .string R2] 68)) _ from (by (repeat (first | exact HBX.out.2 | refine bd ?_ | refine ba ?_)))).size; simp at q1 q3; omega⟩; have HBX : Hid (True ∧ Below (w7.alloc (.cells #[.int .i64 A2, .string R2] 68)).heap.size (w7.alloc (.cells #[.int .i64 A2, .string R2] 68)) wN) := ⟨trivial, HBY.out⟩; clear HBY hWZ)
    | (go_at_call 31; refine (follow_4 K HK F B P S2 _ _ _ _ _ (recsL 3 0 l) [⟨A1, R1⟩] l [⟨A2, R2⟩] _ _ 4 ?_ ?_ HW4.out ?_ HH.out.2.2.1 ⟨?_, fun _ => ?_⟩ ⟨?_, fun _ => ?_⟩ ⟨?_, fun _ => ?_⟩ ⟨?_, fun _ => ?_⟩).mono ?_; (focus (simp; done)); (focus (exact HD3.out.below HK (by (repeat (first | exact HBX.out.2 | refine bd ?_ | refine ba ?_))); done)); (focus (exact HE3.out.bel (by (repeat (first | exact HBX.out.2 | refine bd ?_ | refine ba ?_))); done)); (focus ((repeat (first | exact hWtR.1 | refine Wts.drew ?_ | refine Wts.al ?_)); done)); (focus (exact hWtR.2; done)); (focus ((repeat (first | exact wts_new1 _ _ _ _ _ _ (by simp) | refine Wts.drew ?_ | refine Wts.al ?_ | refine Wts.below ?_ (by assumption))); done)); (focus ((exact out_of (fun hk => by have q := HH.out.2.2.2.1 _ hk; omega)); done)); (focus (exact HL3.out.1.below (by (repeat (first | exact HBX.out.2 | refine bd ?_ | refine ba ?_))); done)); (focus (exact HL3.out.2 (by assumption); done)); (focus ((repeat (first | exact wts_new1 _ _ _ _ _ _ (by simp) | refine Wts.drew ?_ | refine Wts.al ?_ | refine Wts.below ?_ (by assumption))); done)); (focus ((exact out_of (fun hk => by have q := HH.out.2.2.2.1 _ hk; omega)); done)); rintro e wF ⟨⟨fv, rfl, hrv⟩, hdF, htF⟩; have HFin : Hid _ := duo_fin HT3.out HH.out.2.2.2.1 (by (repeat (first | exact HBX.out.2 | refine bd ?_ | refine ba ?_))) hdF htF; have HB9 : Hid (wF.heap[w1.heap.size]? = some (.cells #[.int .i64 (n : Int), .int .i64 2, .int .i64 3, .int .i64 27, .int .i64 28, .int .i64 29, .int .i64 (q : Int), .int .i64 (29 + (q : Int)), .int .i64 (s2 : Int), .int .i64 (29 + (q : Int) + (s2 : Int)), .int .i64 (29 + (q : Int) + (s2 : Int) + 1), .int .i64 (n : Int), .int .i64 ((n : Int) + 1), .int .i64 (t : Int), .int .i64 ((n : Int) + 1 + (t : Int)), .int .i64 ((n : Int) + 1 + (t : Int) + (n : Int))] 51 (0, 0)) ∧ wF.heap[w5.heap.size]? = some (.cells #[.int .i64 A1, .string R1] 68 (0, 0)) ∧ wF.heap[w7.heap.size]? = some (.cells #[.int .i64 A2, .string R2] 68 (0, 0))) := ⟨(keep_block (W3 := (w7.alloc (.cells #[.int .i64 A2, .string R2] 68))) (by (repeat (first | exact HBX.out.2 | refine bd ?_ | refine ba ?_))) htF (by first | (simp; done) | (simp; omega)) (fun hk => by have q := HH.out.2.2.2.1 _ hk; omega)).trans HB8.out.1, (keep_block (W3 := (w7.alloc (.cells #[.int .i64 A2, .string R2] 68))) (by (repeat (first | exact HBX.out.2 | refine bd ?_ | refine ba ?_))) htF (by first | (simp; done) | (simp; omega)) (fun hk => by have q := HH.out.2.2.2.1 _ hk; omega)).trans HB8.out.2.1, (keep_block (W3 := (w7.alloc (.cells #[.int .i64 A2, .string R2] 68))) (by (repeat (first | exact HBX.out.2 | refine bd ?_ | refine ba ?_))) htF (by first | (simp; done) | (simp; omega)) (fun hk => by have q := HH.out.2.2.2.1 _ hk; omega)).trans HB8.out.2.2⟩; have hsF := HMS.out wF HB9.out.1 HB9.out.2.1 HB9.out.2.2; clear hdF htF)
    | (go_at_call 30; refine (hans _ hrv _).mono ?_; rintro e wG ⟨rfl, hG⟩; have HGin : Hid _ := duo_step HK HFin.out hG; have hsG := HMS.out wG ((hG.block _ (lt_of_block HB9.out.1)).trans HB9.out.1) ((hG.block _ (lt_of_block HB9.out.2.1)).trans HB9.out.2.1) ((hG.block _ (lt_of_block HB9.out.2.2)).trans HB9.out.2.2); clear hG))
  all_goals
    have HZ : Hid _ := HGin.out
    clear HGin HFin hsF hsG hrv hans hrec
    go_wp2
    go_ret
    exact ⟨rfl, HZ.out⟩
end Go.Proofs.YtoopaigpjefonaaGreatDoor

namespace Go.Proofs.YtoopaigpjefonaaGreatDoor
set_option maxRecDepth 20000
open Go.RowKit

theorem jrcv_ret (tmps : Array Value) (g : Nat) (w' : World) (cs : Array Value) (m y : Int) (R : Ending → World → Prop) (h0 : tmps.getD 4 undef = .pointer (some ⟨g, 0, none⟩)) (h1 : tmps.getD 5 undef = .int .i64 m) (h2 : tmps.getD 6 undef = .int .i64 y) (hg : w'.heap[g]? = some (.cells cs 23 (0, 0))) (hs : cs.size = 5) (hR : R (.returned (.tuple #[.agg cs, .int .i64 m, .int .i64 y])) w') :
    bodyPost Tryz.prog Tryz.f24 R .ret { tmps := tmps, defers := [] } w' := by
  have hr := run_loadVar_row (P := Tryz.prog) w' g 23 23 cs (0, 0) _ hg Tryz.underlying23 rfl (by rw [hs]; kernel_rfl)
  simp at h0 h1 h2
  exact bodyPost_ret (v := .tuple #[.agg cs, .int .i64 m, .int .i64 y]) (by simp [results, Tryz.results24, asAddr, hr, h0, h1, h2]) rfl hR
set_option maxHeartbeats 2000000 in
theorem recover_off (p v : Value) (w : World) (hup : ∀ W, Below w.heap.size w W → Calls Tryz.prog 39 #[p] W fun e W' => e = .returned (.bool false) ∧ W' = W) :
    Calls Tryz.prog 24 #[p, v] w fun e w' => e = .returned (.tuple #[.agg Sp.zero.arr, .int .i64 0, .int .i64 20]) ∧ Below w.heap.size w w' := by
  have hb0 := bel_alloc w (.cells #[.int .i64 0, .int .i64 0, .int .i64 0, .int .i64 0, .string ⟨#[]⟩] 23)
  have h1 := hup _ hb0
  have HB : Hid _ := hb0
  simp only [Sp.zero, Sp.arr]
  clear hup hb0
  go_enter Tryz.func24, Tryz.ntmps24
  go_wp2_with fail
  refine h1.mono ?_
  rintro e w1 ⟨rfl, rfl⟩
  clear h1
  go_wp2
  exact jrcv_ret _ w.heap.size _ #[.int .i64 0, .int .i64 0, .int .i64 0, .int .i64 0, .string ⟨#[]⟩] 0 20 _ rfl rfl rfl (heap_alloc_new w _) rfl ⟨rfl, HB.out⟩
set_option maxHeartbeats 2000000 in
theorem commit_none (p v : Value) (oa : Option Addr) (ca k : Nat) (hk : k ≤ 24) (a0 a1 a2 a3 : Int) (r : ByteArray) (w : World) (hlo : ∀ W, Below w.heap.size w W → Calls Tryz.prog 53 #[p] W fun e W' => e = .returned (.tuple #[.agg layZ, .int .i64 30]) ∧ Below W.heap.size W W') :
    Calls Tryz.prog 22 #[p, v, .slice oa k ca, .agg #[.int .i64 a0, .int .i64 a1, .int .i64 a2, .int .i64 a3, .string r]] w fun e w' => e = .returned (.int .i64 1) ∧ Below w.heap.size w w' := by
  have hb0 := bel_alloc w (.cells #[.int .i64 a0, .int .i64 a1, .int .i64 a2, .int .i64 a3, .string r] 23)
  have h1 := hlo _ hb0
  have j24 : ¬ (24 : Int) < (k : Int) := by omega
  have HB : Hid _ := hb0
  unfold layZ at h1
  clear hlo hb0
  go_enter Tryz.func22, Tryz.ntmps22
  go_wp2_with fail
  refine h1.mono ?_
  rintro e w1 ⟨rfl, hb1⟩
  have HB1 : Hid (Below w.heap.size w w1) := HB.out.trans (hb1.mono HB.out.size)
  clear h1 hb1 HB
  go_wp2
  go_ret
  exact ⟨rfl, HB1.out.alloc HB1.out.size _⟩
set_option maxHeartbeats 2000000 in
theorem anew_bad (p v : Value) (a0 a1 a2 a3 : Int) (r : ByteArray) (w : World) (hU : ∀ W, Below w.heap.size w W → Calls Tryz.prog 28 #[v, .agg #[.int .i64 a0, .int .i64 a1, .int .i64 a2, .int .i64 a3, .string r]] W fun e W' => e = .returned (.int .i64 0) ∧ Below W.heap.size W W') (hI : ∀ W, Below w.heap.size w W → Calls Tryz.prog 27 #[p, .agg #[.int .i64 a0, .int .i64 a1, .int .i64 a2, .int .i64 a3, .string r]] W fun e W' => e = .returned (.bool false) ∧ Below W.heap.size W W') :
    Calls Tryz.prog 13 #[p, v, .agg #[.int .i64 a0, .int .i64 a1, .int .i64 a2, .int .i64 a3, .string r]] w fun e w' => e = .returned (.int .i64 1) ∧ Below w.heap.size w w' := by
  have hb0 := bel_alloc w (.cells #[.int .i64 a0, .int .i64 a1, .int .i64 a2, .int .i64 a3, .string r] 23)
  have g0 := heap_alloc_new w (.cells #[.int .i64 a0, .int .i64 a1, .int .i64 a2, .int .i64 a3, .string r] 23)
  have h1 := hU _ hb0
  clear hU
  go_enter Tryz.func13, Tryz.ntmps13
  go_wp2_with fail
  refine h1.mono ?_
  rintro e w1 ⟨rfl, hb1⟩
  have g1 := (hb1.block w.heap.size (by simp)).trans g0
  have hbw : Below w.heap.size w w1 := hb0.trans (hb1.mono hb0.size)
  have h2 := hI _ hbw
  have c0 : w1.cell? ⟨w.heap.size, 0, none⟩ = some (.int .i64 a0) := cell_of_row _ _ 0 _ _ _ g1
  have c1 : w1.cell? ⟨w.heap.size, 1, none⟩ = some (.int .i64 a1) := cell_of_row _ _ 1 _ _ _ g1
  have c2 : w1.cell? ⟨w.heap.size, 2, none⟩ = some (.int .i64 a2) := cell_of_row _ _ 2 _ _ _ g1
  have c3 : w1.cell? ⟨w.heap.size, 3, none⟩ = some (.int .i64 a3) := cell_of_row _ _ 3 _ _ _ g1
  have c4 : w1.cell? ⟨w.heap.size, 4, none⟩ = some (.string r) := cell_of_row _ _ 4 _ _ _ g1
  have HB1 : Hid (Below w.heap.size w w1) := hbw
  clear h1 hI hb0 g0 hb1 g1 hbw
  go_wp2_with fail
  refine h2.mono ?_
  rintro e w2 ⟨rfl, hb2⟩
  have HB2 : Hid (Below w.heap.size w w2) := HB1.out.trans (hb2.mono HB1.out.size)
  clear h2 hb2 HB1 c0 c1 c2 c3 c4
  go_wp2
  go_ret
  exact ⟨rfl, HB2.out⟩
end Go.Proofs.YtoopaigpjefonaaGreatDoor
