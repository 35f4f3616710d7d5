/- block's Load, at a device and any vault that is told. · journal's Recover at a device and a vault that lie apart, where nothing is left to be done. -/
import Derived.Test.YtbmjablmmlnieaaGreatDoorMg12
import Derived.Test.YtbmjablmmlnieaaGreatDoorMg20
import Derived.Test.YtbmjablmmlnieaaGreatDoorMg32
import Derived.Test.YtbmjablmmlnieaaGreatDoorMg37
import Derived.Test.YtbmjablmmlnieaaGreatDoorMg36
import Derived.Test.YtbmjablmmlnieaaGreatDoorMg39
import Derived.Test.YtbmjablmmlnieaaGreatDoorMg15
import Derived.Test.YtbmjablmmlnieaaGreatDoorMg19
namespace Go.Proofs.YtbmjablmmlnieaaGreatDoor
set_option maxRecDepth 20000
open Go.RowKit

/-- What Load tells. -/
def loadK (K : VK) (S : PS) (T : K.σ) (at_ : Int) : Array Value :=
  if (bget S at_).1.2.2 = 0 ∧ (bget S at_).1.2.1 = 0 ∧ K.oE T (bget S at_).1.1 = 0 ∧ (K.oH T (bget S at_).1.1).v1 = at_ then readA true (K.oH T (bget S at_).1.1) (K.oS T (bget S at_).1.1) else noneA
theorem kload_ret (tmps : Array Value) (w w' : World) (cs : Array Value) (R : Ending → World → Prop) (h1 : tmps.getD 6 undef = .pointer (some ⟨w.heap.size, 0, none⟩)) (hg : w'.heap[w.heap.size]? = some (.cells cs 81 (0, 0))) (hs : cs.size = 10) (hR : R (.returned (.agg cs)) w') :
    bodyPost Tryz.prog Tryz.f46 R .ret { tmps := tmps, defers := [] } w' :=
  bodyPost_ret (v := .agg cs) (results_cell_row Tryz.results46 tmps w' w.heap.size 81 cs (0, 0) _ h1 hg Tryz.underlying81 rfl (by rw [hs]; kernel_rfl)) rfl hR
theorem kreadA_one (ok : Bool) (h : Hd) (s : ByteArray) : (readA ok h s).all (·.oneCell') = true := by simp [readA, Value.oneCell']
set_option maxHeartbeats 4000000 in
theorem kload_any (K : VK) (HK : VKOk K) (B : Nat) (F F' : Nat → Prop) (S : PS) (T : K.σ) (at_ : Int) (w : World) (hp : Plate w F B S) (hw : S.wait.length ≤ 1000000) (hg : ErrT w) (hF : ¬ F 0) (hv : K.lies w F' T) (hl : K.room T 0) (hd : ∀ k, F' k → ¬ F k) (hb : ∀ k, F k → k < w.heap.size) :
    Calls Tryz.prog 46 #[.pointer (some ⟨B, 0, none⟩), K.v, .int .i64 at_] w fun e w' => e = .returned (.agg (loadK K S T at_)) ∧ Plate w' F B (bget S at_).2 ∧ Touch F w w' := by
  obtain ⟨w0, hw0⟩ : ∃ w0, w.alloc (.cells #[.bool false, .int .i64 0, .int .i64 0, .int .i64 0, .int .i64 0, .int .i64 0, .int .i64 0, .int .i64 0, .int .i64 0, .string ⟨#[]⟩] 81) = w0 := ⟨_, rfl⟩
  have g0 : w0.heap[w.heap.size]? = some (.cells #[.bool false, .int .i64 0, .int .i64 0, .int .i64 0, .int .i64 0, .int .i64 0, .int .i64 0, .int .i64 0, .int .i64 0, .string ⟨#[]⟩] 81 (0, 0)) := by rw [← hw0]; exact heap_alloc_new w _
  have hb0 : Below w.heap.size w w0 := by rw [← hw0]; exact (Below.refl _ _).alloc (Nat.le_refl _) _
  have hget := bget_any B F S at_ w0 (hp.below hb0) hw (hg.below hb0 (lt_of_cell_ hg)) hF
  have HKK : Hid (∀ w', Touch F w0 w' → w'.heap[w.heap.size]? = some (.cells #[.bool false, .int .i64 0, .int .i64 0, .int .i64 0, .int .i64 0, .int .i64 0, .int .i64 0, .int .i64 0, .int .i64 0, .string ⟨#[]⟩] 81 (0, 0)) ∧ K.lies w' F' T ∧ Touch F w w') := fun w' h => ⟨(h.2 _ (lt_of_block g0) (fun hf => absurd (hb _ hf) (Nat.lt_irrefl _))).trans g0, HK.keep (HK.below hv hb0) fun k hk hf => h.2 k hk (hd k hf), ⟨(hb0.mono (Nat.zero_le _)).trans h.1, fun k hk hn => (h.2 k (Nat.lt_of_lt_of_le hk hb0.size) hn).trans (hb0.block k hk)⟩⟩
  have HR : Hid (∀ w' cs, Touch F w w' → Plate w' F B (bget S at_).2 → w'.heap[w.heap.size]? ≠ none → Plate (w'.setRow w.heap.size cs) F B (bget S at_).2 ∧ Touch F w (w'.setRow w.heap.size cs)) := fun w' cs h hp' _ => ⟨hp'.keep fun k _ hk => setRow_other _ _ _ _ (Nat.ne_of_lt (hb k hk)), ⟨h.1.trans ⟨rfl, rfl, rfl, by simp [World.setRow], fun k hk => absurd hk (Nat.not_lt_zero k)⟩, fun k hk hn => (setRow_other _ _ _ _ (Nat.ne_of_lt hk)).trans (h.2 k hk hn)⟩⟩
  have HL : Hid (loadK K S T at_ = if (bget S at_).1.2.2 = 0 ∧ (bget S at_).1.2.1 = 0 ∧ K.oE T (bget S at_).1.1 = 0 ∧ (K.oH T (bget S at_).1.1).v1 = at_ then readA true (K.oH T (bget S at_).1.1) (K.oS T (bget S at_).1.1) else noneA) := rfl
  have htold := fun w h => HK.told F' T (bget S at_).1.1 at_ w hl h
  simp only [toldK] at htold
  generalize hr : (bget S at_).1.1 = r at *
  generalize hm : (bget S at_).1.2.1 = m at *
  generalize hy : (bget S at_).1.2.2 = y at *
  generalize (bget S at_).2 = S' at *
  generalize loadK K S T at_ = A at *
  clear hp hg hv hb0 g0 hr hm hy
  by_cases hc : y = 0 ∧ m = 0
  · obtain ⟨rfl, rfl⟩ := hc
    simp only [true_and] at HL
    rw [← HL.out] at htold
    have hA : A.size = 10 := by rw [HL.out]; split <;> rfl
    have hA1 : A.all (·.oneCell') = true := by rw [HL.out]; split; exact kreadA_one _ _ _; exact kreadA_one _ _ _
    clear HL
    go_enter Tryz.func46, Tryz.ntmps46
    go_wp2_with fail
    try rw [hw0]
    refine hget.mono ?_
    rintro e w1 ⟨rfl, hp1, ht1⟩
    obtain ⟨g1, hi1, ht2⟩ := HKK.out w1 ht1
    clear hget ht1 HKK hw0
    go_wp2_with fail
    refine (htold _ hi1).mono ?_
    rintro e w2 ⟨rfl, hb2⟩
    have g2 := (hb2.block _ (lt_of_block g1)).trans g1
    have HF : Hid _ := HR.out w2 A (ht2.trans (Touch.of_below hb2)) (hp1.below hb2) (by rw [g2]; simp)
    clear htold hi1 hb2 g1 hp1 ht2 HR
    go_wp2_with (refine wpList_store_row rfl 81 _ _ rfl w.heap.size A rfl rfl 81 _ g2 (by rw [hA]; kernel_rfl) (by rw [hA]; rfl) hA1 ?_)
    exact kload_ret _ w _ A _ rfl (setRow_heap _ _ _ _ _ _ g2) hA ⟨rfl, HF.out⟩
  · have hn : A = noneA := by rw [HL.out, if_neg]; exact fun h => hc ⟨h.1, h.2.1⟩
    subst hn
    simp only [noneA, readA, Hd.zero]
    clear HL htold
    have hway : (y != 0) = true ∨ (y = 0 ∧ ((m : Nat) : Int) ≠ 0) := by
      by_cases h0 : y = 0
      · exact .inr ⟨h0, fun h => hc ⟨h0, by omega⟩⟩
      · exact .inl (bne_iff_ne.2 h0)
    rcases hway with h0 | ⟨rfl, h0⟩
    case' inr => have h1 : (((m : Nat) : Int) != 0) = true := bne_iff_ne.2 h0
    all_goals
      go_enter Tryz.func46, Tryz.ntmps46
      go_wp2_with fail
      try rw [hw0]
      refine hget.mono ?_
      rintro e w1 ⟨rfl, hp1, ht1⟩
      obtain ⟨g1, _, ht2⟩ := HKK.out w1 ht1
      have HF : Hid _ := HR.out w1 #[.bool false, .int .i64 0, .int .i64 0, .int .i64 0, .int .i64 0, .int .i64 0, .int .i64 0, .int .i64 0, .int .i64 0, .string ⟨#[]⟩] ht2 hp1 (by rw [g1]; simp)
      clear hget ht1 HKK hw0 hp1 ht2 HR
      go_wp2_with (refine wpList_store_row rfl 81 _ _ rfl w.heap.size #[.bool false, .int .i64 0, .int .i64 0, .int .i64 0, .int .i64 0, .int .i64 0, .int .i64 0, .int .i64 0, .int .i64 0, .string ⟨#[]⟩] rfl rfl 81 _ g1 (by kernel_rfl) rfl (by simp [Value.oneCell']) ?_)
      exact kload_ret _ w _ _ _ rfl (setRow_heap _ _ _ _ _ _ g1) rfl ⟨rfl, HF.out⟩
end Go.Proofs.YtbmjablmmlnieaaGreatDoor

namespace Go.Proofs.YtbmjablmmlnieaaGreatDoor
set_option maxRecDepth 20000
open Go.RowKit

theorem jviews {base : Nat} {w : World} {M n : Nat} {oa ob : Option Addr} {ca cb : Nat} {raws : List ByteArray} {masks : List Int} (h : ImgMid base w M (.slice oa n ca) (.slice ob n cb) raws masks) : List1 Value.string w (.slice oa n ca) raws ∧ List1 (Value.int .i64) w (.slice ob n cb) masks := ⟨list1_of_owns h.raws, list1_of_owns h.masks⟩
theorem touch_kept {F : Nat → Prop} {b : Nat} {W W' : World} (ht : Touch F W W') (hF : ∀ k, F k → k < b) : Kept b W W' := fun k h1 h2 => ht.2 k h2 fun h => by have := hF k h; omega
theorem duo_stb {K : VK} (HK : VKOk K) {F : Nat → Prop} {B : Nat} {P : PS} {S : K.σ} {w : World} (hF : ∀ k, F k → k < w.heap.size) : Stb w.heap.size (fun W => Duo K W F B P S ∧ Touch F w W) := fun _ _ h hb => ⟨h.1.keep HK hb.size fun k _ hk => hb.block k (hF k hk), ⟨h.2.1.trans (hb.mono (Nat.zero_le _)), fun k hk hn => (hb.block k hk).trans (h.2.2 k hk hn)⟩⟩
/-- Recover of any device and vault that lie apart, where nothing is left to be done. -/
theorem recover_duo (K : VK) (HK : VKOk K) (F : Nat → Prop) (B : Nat) (P : PS) (T : K.σ) (r0 r1 : Rg) (c : Sp) (P1 P2 : PS) (n : Nat) (raws : List ByteArray) (masks : List Int) (w : World) (h : Duo K w F B P T) (hg : ErrT w) (hF : ¬ F 0) (hw : P.wait.length ≤ 1000000) (hr : K.room T 1) (hO : ∀ r, K.oE T r = 0 → (K.oS T r).size = 448) (hn : n ≤ 1024)
    (hup : P.up = true) (hlo : loE (P.kept.length : Nat) = 0 ∧ loA (P.kept.length : Nat) = layA n (layQ n) (layS n) (layT n)) (e1 : (bget P 0).2 = P1) (e2 : (bget P1 1).2 = P2) (er0 : loadR K P T 0 = r0) (er1 : loadR K P1 T 1 = r1) (hc : chO [r0, r1] (n : Int) = some c) (era : rawsTo P2 (P2.kept.length / 8) = raws) (erm : masksTo P2 (P2.kept.length / 8) = masks)
    (hway : piB (lookR K T raws masks 2) (n : Int) = true → rcdB raws masks 3 (piN (lookR K T raws masks 2) (n : Int)).toNat = true → togB 27 (n : Int) (fnW K T raws masks (n : Int)) = true)
    (hno : fnOk K T raws masks (n : Int) = true → ¬ (fnS K T raws masks (n : Int)).ep = wrap64 (c.ep + 1)) :
    Calls Tryz.prog 22 #[.pointer (some ⟨B, 0, none⟩), K.v] w fun e w' => e = .returned (.tuple #[.agg c.arr, .int .i64 0, .int .i64 0]) ∧ Duo K w' F B (stA P2 (P2.kept.length / 8)) (fnP K T raws masks (n : Int)) ∧ Touch F w w' := by
  have hlt := h.lt
  have k1 : Alike P P1 := by rw [← e1]; exact jbget_alike P 0
  have k2 : Alike P1 P2 := by rw [← e2]; exact jbget_alike P1 1
  have hw1 : P1.wait.length ≤ 1000000 := by rw [k1.2.2.1]; exact hw
  have hw2 : P2.wait.length ≤ 1000000 := by rw [k2.2.2.1]; exact hw1
  have hl : raws.length = P2.kept.length / 8 ∧ masks.length = P2.kept.length / 8 := ⟨by rw [← era]; exact rawsTo_length _ _, by rw [← erm]; exact masksTo_length _ _⟩
  have hlays : ∀ W, Below w.heap.size w W → Calls Tryz.prog 27 #[.pointer (some ⟨B, 0, none⟩)] W fun e W' => e = .returned (.tuple #[.agg (layA n (layQ n) (layS n) (layT n)), .int .i64 0]) ∧ Below W.heap.size W W' := fun W hW => by
    have q := layoutOf_any (.pointer (some ⟨B, 0, none⟩)) (P.kept.length : Nat) W fun W2 h2 => ((h.below HK hW).below HK h2).sectors
    rw [hlo.1, hlo.2] at q
    exact q
  have hload : ∀ (Pa : PS) (a : Int) W, Pa.wait.length ≤ 1000000 → Duo K W F B Pa T → ErrT W → Calls Tryz.prog 46 #[.pointer (some ⟨B, 0, none⟩), K.v, .int .i64 a] W fun e W' => e = .returned (.agg (loadR K Pa T a).arr) ∧ Duo K W' F B (bget Pa a).2 T ∧ Touch F W W' := fun Pa a W hwa hd hgW => by
    obtain ⟨F1, F2, hd⟩ := hd
    have q := kload_any K HK B F1 F2 Pa T a W hd.plate hwa hgW (fun hk => hF (hd.in1 _ hk)) hd.vault (HK.less hr (Nat.zero_le _)) (fun k h2 h1 => hd.apart k h1 h2) (fun k hk => hd.lt k (hd.in1 k hk))
    refine q.mono fun e W' ⟨he, hp, ht⟩ => ⟨?_, ⟨F1, F2, hp, HK.keep hd.vault fun k hk hF2 => ht.2 k hk fun h1 => hd.apart k h1 hF2, hd.apart, hd.in1, hd.in2, fun k hk => Nat.lt_of_lt_of_le (hd.lt k hk) ht.size⟩, ht.mono hd.in1⟩
    rw [he]
    unfold loadK loadR Rg.arr
    by_cases q1 : (bget Pa a).1.2.2 = 0 ∧ (bget Pa a).1.2.1 = 0
    · rw [if_pos q1]
      unfold toldR
      by_cases q2 : K.oE T (bget Pa a).1.1 = 0 ∧ (K.oH T (bget Pa a).1.1).v1 = a
      · rw [if_pos q2, if_pos ⟨q1.1, q1.2, q2.1, q2.2⟩]
      · rw [if_neg q2, if_neg fun q => q2 ⟨q.2.2.1, q.2.2.2⟩]
        rfl
    · rw [if_neg q1, if_neg fun q => q1 ⟨q.1, q.2.1⟩]
      rfl
  have hgt : ∀ W, Touch F w W → ErrT W := fun W ht => hg.touch ht hF
  refine (recover_kept (.pointer (some ⟨B, 0, none⟩)) K.v n (layQ n) (layS n) (layT n) r0 r1 c (fnS K T raws masks (n : Int)) (fnOk K T raws masks (n : Int)) raws masks w (fun W => Duo K W F B P1 T ∧ Touch F w W) (fun W => Duo K W F B P2 T ∧ Touch F w W) (fun W => Duo K W F B (stA P2 (P2.kept.length / 8)) T ∧ Touch F w W) (fun W => Duo K W F B (stA P2 (P2.kept.length / 8)) (fnP K T raws masks (n : Int)) ∧ Touch F w W) (duo_stb HK hlt) (duo_stb HK hlt) (duo_stb HK hlt) (duo_stb HK hlt) (fun W hW => by have q := (h.below HK hW).up; rw [hup] at q; exact q) hlays ?_ ?_ ?_ ?_ ?_ hno).mono fun e w' ⟨he, hq⟩ => ⟨he, hq⟩
  · intro W hW
    have ht := Touch.of_below (F := F) hW
    have q := hload P 0 W hw (h.below HK hW) (hgt W ht)
    rw [er0, e1] at q
    exact q.mono fun e W' ⟨a1, a2, a3⟩ => ⟨a1, ⟨a2, ht.trans (a3.mono fun _ h => .inl h)⟩, touch_kept a3 hlt, a3.size⟩
  · intro W hW _
    have q := hload P1 1 W hw1 hW.1 (hgt W hW.2)
    rw [er1, e2] at q
    exact q.mono fun e W' ⟨a1, a2, a3⟩ => ⟨a1, ⟨a2, hW.2.trans (a3.mono fun _ h => .inl h)⟩, touch_kept a3 hlt, a3.size⟩
  · intro v' W hv
    have q := jcho_any v' [r0, r1] (n : Int) W hv
    rw [hc] at q
    exact q
  · intro W hW _
    obtain ⟨F1, F2, hd⟩ := hW.1
    refine (all_any B F1 P2 W hd.plate hw2 (hgt W hW.2) (fun hk => hF (hd.in1 _ hk)) (fun k hk => hd.lt k (hd.in1 k hk))).mono fun e W' ⟨oa, ca, ob, cb, he, ⟨M, hm⟩, hp, ht⟩ => ⟨oa, ca, ob, cb, ?_, ?_, ?_, ⟨⟨F1, F2, hp, HK.keep hd.vault fun k hk hF2 => ht.2 k hk fun h1 => hd.apart k h1 hF2, hd.apart, hd.in1, hd.in2, fun k hk => Nat.lt_of_lt_of_le (hd.lt k hk) ht.size⟩, hW.2.trans (ht.mono fun k hk => .inl (hd.in1 k hk))⟩, touch_kept (ht.mono hd.in1) hlt, ht.size⟩
    · rw [he, hl.1, hl.2]
    · rw [era, erm] at hm
      rw [hl.1]
      exact (jviews hm).1
    · rw [era, erm] at hm
      rw [hl.2]
      exact (jviews hm).2
  · intro oa ca ob cb W hW _ h1 h2
    refine (found_duo K HK F B _ T hr hO n (layQ n) (layS n) (layT n) hn oa ob ca cb raws masks W hW.1 h1 h2 hway).mono fun e W' ⟨⟨v', he, _⟩, hd, ht⟩ => ⟨v', he, ⟨hd, hW.2.trans (ht.mono fun _ h => .inl h)⟩, touch_kept ht hlt, ht.size⟩
end Go.Proofs.YtbmjablmmlnieaaGreatDoor
