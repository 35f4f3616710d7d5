/- block's Load, at a device and an ideal vault that lie in memory. -/
import Derived.Test.YtdcooepeehamnaaGreatDoorBkGet
import Derived.Test.YtdcooepeehamnaaGreatDoorBkEq
namespace Go.Proofs.YtdcooepeehamnaaGreatDoor
set_option maxRecDepth 20000
open Go.RowKit

/-- What Load tells. -/
def loadA (S : PS) (T : VS) (at_ : Int) : Array Value :=
  if (bget S at_).1.2.2 = 0 ∧ (bget S at_).1.2.1 = 0 ∧ bopenE T (bget S at_).1.1 = 0 ∧ (bopenH T (bget S at_).1.1).v1 = at_ then readA true (bopenH T (bget S at_).1.1) (bopenS T (bget S at_).1.1) else noneA
theorem load_ret (tmps : Array Value) (w w' : World) (cs : Array Value) (R : Ending → World → Prop) (h1 : tmps.getD 6 undef = .pointer (some ⟨w.heap.size, 0, none⟩)) (hg : w'.heap[w.heap.size]? = some (.cells cs 55 (0, 0))) (hs : cs.size = 10) (hR : R (.returned (.agg cs)) w') :
    bodyPost Tryz.prog Tryz.f25 R .ret { tmps := tmps, defers := [] } w' :=
  bodyPost_ret (v := .agg cs) (results_cell_row Tryz.results25 tmps w' w.heap.size 55 cs (0, 0) _ h1 hg Tryz.underlying55 rfl (by rw [hs]; kernel_rfl)) rfl hR
theorem readA_one (ok : Bool) (h : Hd) (s : ByteArray) : (readA ok h s).all (·.oneCell') = true := by simp [readA, Value.oneCell']
set_option maxHeartbeats 4000000 in
theorem bload_any (B V : Nat) (F F' : Nat → Prop) (S : PS) (T : VS) (at_ : Int) (w : World) (hp : Plate w F B S) (hw : S.wait.length ≤ 1000000) (hg : ErrT w) (hF : ¬ F 0) (hv : Ideal w F' V T) (hl : T.seals.length ≤ 1000000) (hd : ∀ k, F' k → ¬ F k) (hb : ∀ k, F k → k < w.heap.size) :
    Calls Tryz.prog 25 #[.pointer (some ⟨B, 0, none⟩), .pointer (some ⟨V, 0, none⟩), .int .i64 at_] w fun e w' => e = .returned (.agg (loadA S T at_)) ∧ Plate w' F B (bget S at_).2 ∧ Touch F w w' := by
  obtain ⟨w0, hw0⟩ : ∃ w0, w.alloc (.cells #[.bool false, .int .i64 0, .int .i64 0, .int .i64 0, .int .i64 0, .int .i64 0, .int .i64 0, .int .i64 0, .int .i64 0, .string ⟨#[]⟩] 55) = w0 := ⟨_, rfl⟩
  have g0 : w0.heap[w.heap.size]? = some (.cells #[.bool false, .int .i64 0, .int .i64 0, .int .i64 0, .int .i64 0, .int .i64 0, .int .i64 0, .int .i64 0, .int .i64 0, .string ⟨#[]⟩] 55 (0, 0)) := by rw [← hw0]; exact heap_alloc_new w _
  have hb0 : Below w.heap.size w w0 := by rw [← hw0]; exact (Below.refl _ _).alloc (Nat.le_refl _) _
  have hget := bget_any B F S at_ w0 (hp.below hb0) hw (hg.below hb0 (lt_of_cell_ hg)) hF
  have HK : Hid (∀ w', Touch F w0 w' → w'.heap[w.heap.size]? = some (.cells #[.bool false, .int .i64 0, .int .i64 0, .int .i64 0, .int .i64 0, .int .i64 0, .int .i64 0, .int .i64 0, .int .i64 0, .string ⟨#[]⟩] 55 (0, 0)) ∧ Ideal w' F' V T ∧ Touch F w w') := fun w' h => ⟨(h.2 _ (lt_of_block g0) (fun hf => absurd (hb _ hf) (Nat.lt_irrefl _))).trans g0, (hv.below hb0).keep fun k hk hf => h.2 k hk (hd k hf), ⟨(hb0.mono (Nat.zero_le _)).trans h.1, fun k hk hn => (h.2 k (Nat.lt_of_lt_of_le hk hb0.size) hn).trans (hb0.block k hk)⟩⟩
  have HR : Hid (∀ w' cs, Touch F w w' → Plate w' F B (bget S at_).2 → w'.heap[w.heap.size]? ≠ none → Plate (w'.setRow w.heap.size cs) F B (bget S at_).2 ∧ Touch F w (w'.setRow w.heap.size cs)) := fun w' cs h hp' _ => ⟨hp'.keep fun k _ hk => setRow_other _ _ _ _ (Nat.ne_of_lt (hb k hk)), ⟨h.1.trans ⟨rfl, rfl, rfl, by simp [World.setRow], fun k hk => absurd hk (Nat.not_lt_zero k)⟩, fun k hk hn => (setRow_other _ _ _ _ (Nat.ne_of_lt hk)).trans (h.2 k hk hn)⟩⟩
  have HL : Hid (loadA S T at_ = if (bget S at_).1.2.2 = 0 ∧ (bget S at_).1.2.1 = 0 ∧ bopenE T (bget S at_).1.1 = 0 ∧ (bopenH T (bget S at_).1.1).v1 = at_ then readA true (bopenH T (bget S at_).1.1) (bopenS T (bget S at_).1.1) else noneA) := rfl
  have htold := fun w h => told_any V F' T (bget S at_).1.1 at_ hl w h
  generalize hr : (bget S at_).1.1 = r at *
  generalize hm : (bget S at_).1.2.1 = m at *
  generalize hy : (bget S at_).1.2.2 = y at *
  generalize (bget S at_).2 = S' at *
  generalize loadA S T at_ = A at *
  clear hp hg hv hb0 g0 hr hm hy
  by_cases hc : y = 0 ∧ m = 0
  · obtain ⟨rfl, rfl⟩ := hc
    simp only [true_and] at HL
    rw [← HL.out] at htold
    have hA : A.size = 10 := by rw [HL.out]; split <;> rfl
    have hA1 : A.all (·.oneCell') = true := by rw [HL.out]; split; exact readA_one _ _ _; exact readA_one _ _ _
    clear HL
    go_enter Tryz.func25, Tryz.ntmps25
    go_wp2_with fail
    try rw [hw0]
    refine hget.mono ?_
    rintro e w1 ⟨rfl, hp1, ht1⟩
    obtain ⟨g1, hi1, ht2⟩ := HK.out w1 ht1
    clear hget ht1 HK hw0
    go_wp2_with fail
    refine (htold _ hi1).mono ?_
    rintro e w2 ⟨rfl, hb2⟩
    have g2 := (hb2.block _ (lt_of_block g1)).trans g1
    have HF : Hid _ := HR.out w2 A (ht2.trans (Touch.of_below hb2)) (hp1.below hb2) (by rw [g2]; simp)
    clear htold hi1 hb2 g1 hp1 ht2 HR
    go_wp2_with (refine wpList_store_row rfl 55 _ _ rfl w.heap.size A rfl rfl 55 _ g2 (by rw [hA]; kernel_rfl) (by rw [hA]; rfl) hA1 ?_)
    exact load_ret _ w _ A _ rfl (setRow_heap _ _ _ _ _ _ g2) hA ⟨rfl, HF.out⟩
  · have hn : A = noneA := by rw [HL.out, if_neg]; exact fun h => hc ⟨h.1, h.2.1⟩
    subst hn
    simp only [noneA, readA, Hd.zero]
    clear HL htold
    have hway : (y != 0) = true ∨ (y = 0 ∧ ((m : Nat) : Int) ≠ 0) := by
      by_cases h0 : y = 0
      · exact .inr ⟨h0, fun h => hc ⟨h0, by omega⟩⟩
      · exact .inl (bne_iff_ne.2 h0)
    rcases hway with h0 | ⟨rfl, h0⟩
    case' inr => have h1 : (((m : Nat) : Int) != 0) = true := bne_iff_ne.2 h0
    all_goals
      go_enter Tryz.func25, Tryz.ntmps25
      go_wp2_with fail
      try rw [hw0]
      refine hget.mono ?_
      rintro e w1 ⟨rfl, hp1, ht1⟩
      obtain ⟨g1, _, ht2⟩ := HK.out w1 ht1
      have HF : Hid _ := HR.out w1 #[.bool false, .int .i64 0, .int .i64 0, .int .i64 0, .int .i64 0, .int .i64 0, .int .i64 0, .int .i64 0, .int .i64 0, .string ⟨#[]⟩] ht2 hp1 (by rw [g1]; simp)
      clear hget ht1 HK hw0 hp1 ht2 HR
      go_wp2_with (refine wpList_store_row rfl 55 _ _ rfl w.heap.size #[.bool false, .int .i64 0, .int .i64 0, .int .i64 0, .int .i64 0, .int .i64 0, .int .i64 0, .int .i64 0, .int .i64 0, .string ⟨#[]⟩] rfl rfl 55 _ g1 (by kernel_rfl) rfl (by simp [Value.oneCell']) ?_)
      exact load_ret _ w _ _ _ rfl (setRow_heap _ _ _ _ _ _ g1) rfl ⟨rfl, HF.out⟩
end Go.Proofs.YtdcooepeehamnaaGreatDoor
