/- block's Load, at a device and any vault that is told. · journal's Recover at a device and a vault that lie apart, where nothing is left to be done. · The laws' awake: what is committed is found. · The law JournalSupers returns true. · A value of type api.Super that is read as data is four numbers of type int and a text. · What a world holds where package errors' handle is laid. · Where the row's two tables read as they are laid, the first state and the numbers k stand where the program has them. -/
import Derived.Test.YtldkdoddklfdlaaGreatDoorMg09
import Derived.Test.YtldkdoddklfdlaaGreatDoorMg07
import Derived.Test.YtldkdoddklfdlaaGreatDoorMg45
import Derived.Test.YtldkdoddklfdlaaGreatDoorMg47
import Derived.Test.YtldkdoddklfdlaaGreatDoorMg46
import Derived.Test.YtldkdoddklfdlaaGreatDoorMg48
import Derived.Test.YtldkdoddklfdlaaGreatDoorMg10
import Derived.Test.YtldkdoddklfdlaaGreatDoorMg06
import Derived.Test.YtldkdoddklfdlaaGreatDoorMg40
import Derived.Deep.RegionHeld3
import Derived.Deep.Cut
import Derived.Test.YtldkdoddklfdlaaGreatDoorMg05
import Derived.Test.YtldkdoddklfdlaaGreatDoorRows
import Derived.Lib.LaidTab
import Derived.Test.YtldkdoddklfdlaaGreatDoorMg20
namespace Go.Proofs.YtldkdoddklfdlaaGreatDoor
set_option maxRecDepth 20000
open Go.RowKit

/-- What Load tells. -/
def loadK (K : VK) (S : PS) (T : K.σ) (at_ : Int) : Array Value :=
  if (bget S at_).1.2.2 = 0 ∧ (bget S at_).1.2.1 = 0 ∧ K.oE T (bget S at_).1.1 = 0 ∧ (K.oH T (bget S at_).1.1).v1 = at_ then readA true (K.oH T (bget S at_).1.1) (K.oS T (bget S at_).1.1) else noneA
theorem kload_ret (tmps : Array Value) (w w' : World) (cs : Array Value) (R : Ending → World → Prop) (h1 : tmps.getD 6 undef = .pointer (some ⟨w.heap.size, 0, none⟩)) (hg : w'.heap[w.heap.size]? = some (.cells cs 125 (0, 0))) (hs : cs.size = 10) (hR : R (.returned (.agg cs)) w') :
    bodyPost Tryz.prog Tryz.f53 R .ret { tmps := tmps, defers := [] } w' :=
  bodyPost_ret (v := .agg cs) (results_cell_row Tryz.results53 tmps w' w.heap.size 125 cs (0, 0) _ h1 hg Tryz.underlying125 rfl (by rw [hs]; kernel_rfl)) rfl hR
theorem kreadA_one (ok : Bool) (h : Hd) (s : ByteArray) : (readA ok h s).all (·.oneCell') = true := by simp [readA, Value.oneCell']
set_option maxHeartbeats 4000000 in
theorem kload_any (K : VK) (HK : VKOk K) (B : Nat) (F F' : Nat → Prop) (S : PS) (T : K.σ) (at_ : Int) (w : World) (hp : Plate w F B S) (hw : S.wait.length ≤ 1000000) (hg : ErrT w) (hF : ¬ F 3) (hv : K.lies w F' T) (hl : K.room T 0) (hd : ∀ k, F' k → ¬ F k) (hb : ∀ k, F k → k < w.heap.size) :
    Calls Tryz.prog 53 #[.pointer (some ⟨B, 0, none⟩), K.v, .int .i64 at_] w fun e w' => e = .returned (.agg (loadK K S T at_)) ∧ Plate w' F B (bget S at_).2 ∧ Touch F w w' := by
  obtain ⟨w0, hw0⟩ : ∃ w0, w.alloc (.cells #[.bool false, .int .i64 0, .int .i64 0, .int .i64 0, .int .i64 0, .int .i64 0, .int .i64 0, .int .i64 0, .int .i64 0, .string ⟨#[]⟩] 125) = w0 := ⟨_, rfl⟩
  have g0 : w0.heap[w.heap.size]? = some (.cells #[.bool false, .int .i64 0, .int .i64 0, .int .i64 0, .int .i64 0, .int .i64 0, .int .i64 0, .int .i64 0, .int .i64 0, .string ⟨#[]⟩] 125 (0, 0)) := by rw [← hw0]; exact heap_alloc_new w _
  have hb0 : Below w.heap.size w w0 := by rw [← hw0]; exact (Below.refl _ _).alloc (Nat.le_refl _) _
  have hget := bget_any B F S at_ w0 (hp.below hb0) hw (hg.below hb0 (lt_of_cell_ hg)) hF
  have HKK : Hid (∀ w', Touch F w0 w' → w'.heap[w.heap.size]? = some (.cells #[.bool false, .int .i64 0, .int .i64 0, .int .i64 0, .int .i64 0, .int .i64 0, .int .i64 0, .int .i64 0, .int .i64 0, .string ⟨#[]⟩] 125 (0, 0)) ∧ K.lies w' F' T ∧ Touch F w w') := fun w' h => ⟨(h.2 _ (lt_of_block g0) (fun hf => absurd (hb _ hf) (Nat.lt_irrefl _))).trans g0, HK.keep (HK.below hv hb0) fun k hk hf => h.2 k hk (hd k hf), ⟨(hb0.mono (Nat.zero_le _)).trans h.1, fun k hk hn => (h.2 k (Nat.lt_of_lt_of_le hk hb0.size) hn).trans (hb0.block k hk)⟩⟩
  have HR : Hid (∀ w' cs, Touch F w w' → Plate w' F B (bget S at_).2 → w'.heap[w.heap.size]? ≠ none → Plate (w'.setRow w.heap.size cs) F B (bget S at_).2 ∧ Touch F w (w'.setRow w.heap.size cs)) := fun w' cs h hp' _ => ⟨hp'.keep fun k _ hk => setRow_other _ _ _ _ (Nat.ne_of_lt (hb k hk)), ⟨h.1.trans ⟨rfl, rfl, rfl, by simp [World.setRow], fun k hk => absurd hk (Nat.not_lt_zero k)⟩, fun k hk hn => (setRow_other _ _ _ _ (Nat.ne_of_lt hk)).trans (h.2 k hk hn)⟩⟩
  have HL : Hid (loadK K S T at_ = if (bget S at_).1.2.2 = 0 ∧ (bget S at_).1.2.1 = 0 ∧ K.oE T (bget S at_).1.1 = 0 ∧ (K.oH T (bget S at_).1.1).v1 = at_ then readA true (K.oH T (bget S at_).1.1) (K.oS T (bget S at_).1.1) else noneA) := rfl
  have htold := fun w h => HK.told F' T (bget S at_).1.1 at_ w hl h
  simp only [toldK] at htold
  generalize hr : (bget S at_).1.1 = r at *
  generalize hm : (bget S at_).1.2.1 = m at *
  generalize hy : (bget S at_).1.2.2 = y at *
  generalize (bget S at_).2 = S' at *
  generalize loadK K S T at_ = A at *
  clear hp hg hv hb0 g0 hr hm hy
  by_cases hc : y = 0 ∧ m = 0
  · obtain ⟨rfl, rfl⟩ := hc
    simp only [true_and] at HL
    rw [← HL.out] at htold
    have hA : A.size = 10 := by rw [HL.out]; split <;> rfl
    have hA1 : A.all (·.oneCell') = true := by rw [HL.out]; split; exact kreadA_one _ _ _; exact kreadA_one _ _ _
    clear HL
    go_enter Tryz.func53, Tryz.ntmps53
    go_wp2_with fail
    try rw [hw0]
    refine hget.mono ?_
    rintro e w1 ⟨rfl, hp1, ht1⟩
    obtain ⟨g1, hi1, ht2⟩ := HKK.out w1 ht1
    clear hget ht1 HKK hw0
    go_wp2_with fail
    refine (htold _ hi1).mono ?_
    rintro e w2 ⟨rfl, hb2⟩
    have g2 := (hb2.block _ (lt_of_block g1)).trans g1
    have HF : Hid _ := HR.out w2 A (ht2.trans (Touch.of_below hb2)) (hp1.below hb2) (by rw [g2]; simp)
    clear htold hi1 hb2 g1 hp1 ht2 HR
    go_wp2_with (refine wpList_store_row rfl 125 _ _ rfl w.heap.size A rfl rfl 125 _ g2 (by rw [hA]; kernel_rfl) (by rw [hA]; rfl) hA1 ?_)
    exact kload_ret _ w _ A _ rfl (setRow_heap _ _ _ _ _ _ g2) hA ⟨rfl, HF.out⟩
  · have hn : A = noneA := by rw [HL.out, if_neg]; exact fun h => hc ⟨h.1, h.2.1⟩
    subst hn
    simp only [noneA, readA, Hd.zero]
    clear HL htold
    have hway : (y != 0) = true ∨ (y = 0 ∧ ((m : Nat) : Int) ≠ 0) := by
      by_cases h0 : y = 0
      · exact .inr ⟨h0, fun h => hc ⟨h0, by omega⟩⟩
      · exact .inl (bne_iff_ne.2 h0)
    rcases hway with h0 | ⟨rfl, h0⟩
    case' inr => have h1 : (((m : Nat) : Int) != 0) = true := bne_iff_ne.2 h0
    all_goals
      go_enter Tryz.func53, Tryz.ntmps53
      go_wp2_with fail
      try rw [hw0]
      refine hget.mono ?_
      rintro e w1 ⟨rfl, hp1, ht1⟩
      obtain ⟨g1, _, ht2⟩ := HKK.out w1 ht1
      have HF : Hid _ := HR.out w1 #[.bool false, .int .i64 0, .int .i64 0, .int .i64 0, .int .i64 0, .int .i64 0, .int .i64 0, .int .i64 0, .int .i64 0, .string ⟨#[]⟩] ht2 hp1 (by rw [g1]; simp)
      clear hget ht1 HKK hw0 hp1 ht2 HR
      go_wp2_with (refine wpList_store_row rfl 125 _ _ rfl w.heap.size #[.bool false, .int .i64 0, .int .i64 0, .int .i64 0, .int .i64 0, .int .i64 0, .int .i64 0, .int .i64 0, .int .i64 0, .string ⟨#[]⟩] rfl rfl 125 _ g1 (by kernel_rfl) rfl (by simp [Value.oneCell']) ?_)
      exact kload_ret _ w _ _ _ rfl (setRow_heap _ _ _ _ _ _ g1) rfl ⟨rfl, HF.out⟩
end Go.Proofs.YtldkdoddklfdlaaGreatDoor

namespace Go.Proofs.YtldkdoddklfdlaaGreatDoor
set_option maxRecDepth 20000
open Go.RowKit

theorem jviews {base : Nat} {w : World} {M n : Nat} {oa ob : Option Addr} {ca cb : Nat} {raws : List ByteArray} {masks : List Int} (h : ImgMid base w M (.slice oa n ca) (.slice ob n cb) raws masks) : List1 Value.string w (.slice oa n ca) raws ∧ List1 (Value.int .i64) w (.slice ob n cb) masks := ⟨list1_of_owns h.raws, list1_of_owns h.masks⟩
theorem touch_kept {F : Nat → Prop} {b : Nat} {W W' : World} (ht : Touch F W W') (hF : ∀ k, F k → k < b) : Kept b W W' := fun k h1 h2 => ht.2 k h2 fun h => by have := hF k h; omega
theorem duo_stb {K : VK} (HK : VKOk K) {F : Nat → Prop} {B : Nat} {P : PS} {S : K.σ} {w : World} (hF : ∀ k, F k → k < w.heap.size) : Stb w.heap.size (fun W => Duo K W F B P S ∧ Touch F w W) := fun _ _ h hb => ⟨h.1.keep HK hb.size fun k _ hk => hb.block k (hF k hk), ⟨h.2.1.trans (hb.mono (Nat.zero_le _)), fun k hk hn => (hb.block k hk).trans (h.2.2 k hk hn)⟩⟩
/-- Recover of any device and vault that lie apart, where nothing is left to be done. -/
theorem recover_duo (K : VK) (HK : VKOk K) (F : Nat → Prop) (B : Nat) (P : PS) (T : K.σ) (r0 r1 : Rg) (c : Sp) (P1 P2 : PS) (n : Nat) (raws : List ByteArray) (masks : List Int) (w : World) (h : Duo K w F B P T) (hg : ErrT w) (hF : ¬ F 3) (hw : P.wait.length ≤ 1000000) (hr : K.room T 1) (hO : ∀ r, K.oE T r = 0 → (K.oS T r).size = 448) (hn : n ≤ 1024)
    (hup : P.up = true) (hlo : loE (P.kept.length : Nat) = 0 ∧ loA (P.kept.length : Nat) = layA n (layQ n) (layS n) (layT n)) (e1 : (bget P 0).2 = P1) (e2 : (bget P1 1).2 = P2) (er0 : loadR K P T 0 = r0) (er1 : loadR K P1 T 1 = r1) (hc : chO [r0, r1] (n : Int) = some c) (era : rawsTo P2 (P2.kept.length / 8) = raws) (erm : masksTo P2 (P2.kept.length / 8) = masks)
    (hway : piB (lookR K T raws masks 2) (n : Int) = true → rcdB raws masks 3 (piN (lookR K T raws masks 2) (n : Int)).toNat = true → togB 27 (n : Int) (fnW K T raws masks (n : Int)) = true)
    (hno : fnOk K T raws masks (n : Int) = true → ¬ (fnS K T raws masks (n : Int)).ep = wrap64 (c.ep + 1)) :
    Calls Tryz.prog 22 #[.pointer (some ⟨B, 0, none⟩), K.v] w fun e w' => e = .returned (.tuple #[.agg c.arr, .int .i64 0, .int .i64 0]) ∧ Duo K w' F B (stA P2 (P2.kept.length / 8)) (fnP K T raws masks (n : Int)) ∧ Touch F w w' := by
  have hlt := h.lt
  have k1 : Alike P P1 := by rw [← e1]; exact jbget_alike P 0
  have k2 : Alike P1 P2 := by rw [← e2]; exact jbget_alike P1 1
  have hw1 : P1.wait.length ≤ 1000000 := by rw [k1.2.2.1]; exact hw
  have hw2 : P2.wait.length ≤ 1000000 := by rw [k2.2.2.1]; exact hw1
  have hl : raws.length = P2.kept.length / 8 ∧ masks.length = P2.kept.length / 8 := ⟨by rw [← era]; exact rawsTo_length _ _, by rw [← erm]; exact masksTo_length _ _⟩
  have hlays : ∀ W, Below w.heap.size w W → Calls Tryz.prog 47 #[.pointer (some ⟨B, 0, none⟩)] W fun e W' => e = .returned (.tuple #[.agg (layA n (layQ n) (layS n) (layT n)), .int .i64 0]) ∧ Below W.heap.size W W' := fun W hW => by
    have q := layoutOf_any (.pointer (some ⟨B, 0, none⟩)) (P.kept.length : Nat) W fun W2 h2 => ((h.below HK hW).below HK h2).sectors
    rw [hlo.1, hlo.2] at q
    exact q
  have hload : ∀ (Pa : PS) (a : Int) W, Pa.wait.length ≤ 1000000 → Duo K W F B Pa T → ErrT W → Calls Tryz.prog 53 #[.pointer (some ⟨B, 0, none⟩), K.v, .int .i64 a] W fun e W' => e = .returned (.agg (loadR K Pa T a).arr) ∧ Duo K W' F B (bget Pa a).2 T ∧ Touch F W W' := fun Pa a W hwa hd hgW => by
    obtain ⟨F1, F2, hd⟩ := hd
    have q := kload_any K HK B F1 F2 Pa T a W hd.plate hwa hgW (fun hk => hF (hd.in1 _ hk)) hd.vault (HK.less hr (Nat.zero_le _)) (fun k h2 h1 => hd.apart k h1 h2) (fun k hk => hd.lt k (hd.in1 k hk))
    refine q.mono fun e W' ⟨he, hp, ht⟩ => ⟨?_, ⟨F1, F2, hp, HK.keep hd.vault fun k hk hF2 => ht.2 k hk fun h1 => hd.apart k h1 hF2, hd.apart, hd.in1, hd.in2, fun k hk => Nat.lt_of_lt_of_le (hd.lt k hk) ht.size⟩, ht.mono hd.in1⟩
    rw [he]
    unfold loadK loadR Rg.arr
    by_cases q1 : (bget Pa a).1.2.2 = 0 ∧ (bget Pa a).1.2.1 = 0
    · rw [if_pos q1]
      unfold toldR
      by_cases q2 : K.oE T (bget Pa a).1.1 = 0 ∧ (K.oH T (bget Pa a).1.1).v1 = a
      · rw [if_pos q2, if_pos ⟨q1.1, q1.2, q2.1, q2.2⟩]
      · rw [if_neg q2, if_neg fun q => q2 ⟨q.2.2.1, q.2.2.2⟩]
        rfl
    · rw [if_neg q1, if_neg fun q => q1 ⟨q.1, q.2.1⟩]
      rfl
  have hgt : ∀ W, Touch F w W → ErrT W := fun W ht => hg.touch ht hF
  refine (recover_kept (.pointer (some ⟨B, 0, none⟩)) K.v n (layQ n) (layS n) (layT n) r0 r1 c (fnS K T raws masks (n : Int)) (fnOk K T raws masks (n : Int)) raws masks w (fun W => Duo K W F B P1 T ∧ Touch F w W) (fun W => Duo K W F B P2 T ∧ Touch F w W) (fun W => Duo K W F B (stA P2 (P2.kept.length / 8)) T ∧ Touch F w W) (fun W => Duo K W F B (stA P2 (P2.kept.length / 8)) (fnP K T raws masks (n : Int)) ∧ Touch F w W) (duo_stb HK hlt) (duo_stb HK hlt) (duo_stb HK hlt) (duo_stb HK hlt) (fun W hW => by have q := (h.below HK hW).up; rw [hup] at q; exact q) hlays ?_ ?_ ?_ ?_ ?_ hno).mono fun e w' ⟨he, hq⟩ => ⟨he, hq⟩
  · intro W hW
    have ht := Touch.of_below (F := F) hW
    have q := hload P 0 W hw (h.below HK hW) (hgt W ht)
    rw [er0, e1] at q
    exact q.mono fun e W' ⟨a1, a2, a3⟩ => ⟨a1, ⟨a2, ht.trans (a3.mono fun _ h => .inl h)⟩, touch_kept a3 hlt, a3.size⟩
  · intro W hW _
    have q := hload P1 1 W hw1 hW.1 (hgt W hW.2)
    rw [er1, e2] at q
    exact q.mono fun e W' ⟨a1, a2, a3⟩ => ⟨a1, ⟨a2, hW.2.trans (a3.mono fun _ h => .inl h)⟩, touch_kept a3 hlt, a3.size⟩
  · intro v' W hv
    have q := jcho_any v' [r0, r1] (n : Int) W hv
    rw [hc] at q
    exact q
  · intro W hW _
    obtain ⟨F1, F2, hd⟩ := hW.1
    refine (all_any B F1 P2 W hd.plate hw2 (hgt W hW.2) (fun hk => hF (hd.in1 _ hk)) (fun k hk => hd.lt k (hd.in1 k hk))).mono fun e W' ⟨oa, ca, ob, cb, he, ⟨M, hm⟩, hp, ht⟩ => ⟨oa, ca, ob, cb, ?_, ?_, ?_, ⟨⟨F1, F2, hp, HK.keep hd.vault fun k hk hF2 => ht.2 k hk fun h1 => hd.apart k h1 hF2, hd.apart, hd.in1, hd.in2, fun k hk => Nat.lt_of_lt_of_le (hd.lt k hk) ht.size⟩, hW.2.trans (ht.mono fun k hk => .inl (hd.in1 k hk))⟩, touch_kept (ht.mono hd.in1) hlt, ht.size⟩
    · rw [he, hl.1, hl.2]
    · rw [era, erm] at hm
      rw [hl.1]
      exact (jviews hm).1
    · rw [era, erm] at hm
      rw [hl.2]
      exact (jviews hm).2
  · intro oa ca ob cb W hW _ h1 h2
    refine (found_duo K HK F B _ T hr hO n (layQ n) (layS n) (layT n) hn oa ob ca cb raws masks W hW.1 h1 h2 hway).mono fun e W' ⟨⟨v', he, _⟩, hd, ht⟩ => ⟨v', he, ⟨hd, hW.2.trans (ht.mono fun _ h => .inl h)⟩, touch_kept ht hlt, ht.size⟩
end Go.Proofs.YtldkdoddklfdlaaGreatDoor

namespace Go.Proofs.YtldkdoddklfdlaaGreatDoor
set_option maxRecDepth 20000
open Go.RowKit

theorem sonS_up (K : VK) (P : PS) (S : K.σ) (s : Sp) (h : P.up = true) : sonS K P S s = supP K S s := if_pos h
theorem blks_one (w : World) (g : Nat) (t cap : Nat) (hg : g = w.heap.size) : Blks (w.alloc (.cells #[.int .i64 40, .int .u8 1, .bool false] t)) (.slice (some ⟨g, 0, none⟩) 1 cap) [aB] := by
  subst hg
  have g := heap_alloc_new w (.cells #[.int .i64 40, .int .u8 1, .bool false] t)
  refine .inr ⟨w.heap.size, 0, cap, rfl, by simp, fun i x hx => ?_⟩
  have hi : i = 0 := by have := (List.getElem?_eq_some_iff.1 hx).1; simp at this; omega
  subst hi
  cases hx
  exact ⟨cell_of_row _ _ 0 _ _ _ g, cell_of_row _ _ 1 _ _ _ g, cell_of_row _ _ 2 _ _ _ g⟩
theorem awk_fmt (F : Nat → Prop) (B V : Nat) (w : World) (h : Duo (idealK V) w F B (newP 784) newV) (hg : ErrT w) (hF : ¬ F 3) :
    Calls Tryz.prog 18 #[.pointer (some ⟨B, 0, none⟩), .pointer (some ⟨V, 0, none⟩), .agg (lawSp 48 0).arr] w fun e w' => e = .returned (.int .i64 0) ∧ Duo (idealK V) w' (grow F w w') B (aP1 V) (aS1 V) ∧ Touch F w w' := by
  obtain ⟨e0, h0, _⟩ := law_err 0 (.inl rfl)
  obtain ⟨x0, _, _⟩ := sup_sealed V newV e0 h0
  have hup : (newP 784).up = true := rfl
  have hl : (newP 784).kept.length = 784 := by show (List.replicate 784 (fillS 0 64)).length = 784; rw [List.length_replicate]
  have hE : sonE (newP 784) (lawSp 48 0) = 0 := by unfold sonE; rw [if_pos hup]; exact x0
  have hA : sonA (newP 784) (lawSp 48 0) = 0 := by unfold sonA; rw [if_pos hup]; unfold supA; rw [if_pos x0]; rfl
  have hR : sonR (idealK V) (newP 784) newV (lawSp 48 0) = aR0 V := by unfold sonR; rw [if_pos hup]; rfl
  have hS : sonS (idealK V) (newP 784) newV (lawSp 48 0) = aS1 V := sonS_up (idealK V) _ _ _ hup
  have hroom : (idealK V).room newV 1 := by show (0 : Nat) + 1 ≤ 1000000 ∧ (0 : Nat) + 1 ≤ 1000000; omega
  have q := format_in (idealK V) (idealOk V) F B (newP 784) newV (lawSp 48 0) w 0 (aR0 V) h hroom (by show (0 : Nat) ≤ 100000; omega) hg hF (by rw [hl]; exact ⟨a784.1, a784.2.1⟩) e0 hE hA ⟨by decide, by decide⟩ hR
  rw [hS, (aP1_fine V).1] at q
  exact q
theorem awk_com (F : Nat → Prop) (B V : Nat) (oa : Option Addr) (ca : Nat) (w : World) (h : Duo (idealK V) w F B (aP1 V) (aS1 V)) (hg : ErrT w) (hF : ¬ F 3) (hv : WtO F w (.slice oa aW.length ca) aW) :
    Calls Tryz.prog 20 #[.pointer (some ⟨B, 0, none⟩), .pointer (some ⟨V, 0, none⟩), .slice oa aW.length ca, .agg (lawSp 48 1).arr] w fun e w' => e = .returned (.int .i64 0) ∧ Duo (idealK V) w' (grow F w w') B (aP2 V) (aS3 V) ∧ Touch F w w' := by
  obtain ⟨e1, h1, c1⟩ := law_err 1 (.inr rfl)
  have hro := aS_room V
  have hr1 : (idealK V).room (aS1 V) 2 := by
    show (aS1 V).texts.length + 2 ≤ 1000000 ∧ (aS1 V).seals.length + 2 ≤ 1000000
    omega
  have hr2 : (idealK V).room (aS2 V) 1 := by
    show (aS2 V).texts.length + 1 ≤ 1000000 ∧ (aS2 V).seals.length + 1 ≤ 1000000
    omega
  have hwl : aW.length ≤ 24 := by rw [aW_eq]; decide
  have hsz : ∀ x ∈ aW, x.raw.size ≤ 512 := by
    intro x hx
    rw [aW_eq, List.mem_singleton] at hx
    subst hx
    exact Nat.le_of_eq aW_raw
  obtain ⟨p0, _, _⟩ := pro_sealed V (aS1 V) (l := aW) ((idealOk V).less hr1 (by decide)) hwl e1 c1
  obtain ⟨x0, _, _⟩ := sup_sealed V (aS2 V) e1 h1
  have hpA : proA (idealK V) (aS1 V) aW (lawSp 48 1) = 2 := by unfold proA; rw [if_pos p0]
  have hsA : supA (lawSp 48 1) = 1 := by unfold supA; rw [if_pos x0]; rfl
  obtain ⟨hf, hfi, hwt, _⟩ := aP1_fine V
  have hl : (aP1 V).kept.length = 784 := hfi.len
  have q := commit_in (idealK V) (idealOk V) F B (aP1 V) (aS1 V) 7 1 5 (fillS 3 32) 48 (layQ 48) (layS 48) (layT 48) oa ca aW w 2 1 (aRp V) (aR1 V) (aS2 V) (aS3 V) h (by rw [hwt]; decide) hg hF hv hwl (by decide) hfi.up aTogW (fun W hW => by
      have q := layoutOf_any (.pointer (some ⟨B, 0, none⟩)) ((aP1 V).kept.length : Nat) W fun W2 h2 => ((h.below (idealOk V) hW).below (idealOk V) h2).sectors
      rw [hl] at q
      have e784 : (((784 : Nat) : Int)) = 784 := rfl
      rw [e784, a784.1, a784.2.2] at q
      exact q) (fun W hW => by
      have q := unseal_duo (idealK V) (idealOk V) F B (aP1 V) (aS1 V) (lawSp 48 1) W (h.below (idealOk V) hW) ((idealOk V).less hr1 (by decide))
      rw [e1] at q
      exact q) (fun W hd hW => by
      have q := promise_duo (idealK V) (idealOk V) F B (aP1 V) (aS1 V) (lawSp 48 1) oa ca aW W hd hr1 hW hwl hsz
      rw [hpA, p0] at q
      exact q) (fun W hd => by
      have q := super_duo (idealK V) (idealOk V) F B (aP1 V) (aS2 V) (lawSp 48 1) W hd hr2
      rw [hsA, x0] at q
      exact q)
  rw [(aP2_fine V).1] at q
  exact q
theorem awk_rcv (F : Nat → Prop) (B V : Nat) (w : World) (h : Duo (idealK V) w F B (aP2 V) (aS3 V)) (hg : ErrT w) (hF : ¬ F 3) (hw : (aP2 V).wait.length ≤ 1000000) :
    Calls Tryz.prog 22 #[.pointer (some ⟨B, 0, none⟩), .pointer (some ⟨V, 0, none⟩)] w fun e w' => e = .returned (.tuple #[.agg (lawSp 48 1).arr, .int .i64 0, .int .i64 0]) ∧ Touch F w w' := by
  obtain ⟨P1, e1⟩ : ∃ P1, (bget (aP2 V) 0).2 = P1 := ⟨_, rfl⟩
  obtain ⟨P2, e2⟩ : ∃ P2, (bget P1 1).2 = P2 := ⟨_, rfl⟩
  obtain ⟨raws, er⟩ : ∃ l, rawsTo P2 (P2.kept.length / 8) = l := ⟨_, rfl⟩
  obtain ⟨masks, em⟩ : ∃ l, masksTo P2 (P2.kept.length / 8) = l := ⟨_, rfl⟩
  have H : AwR V P1 P2 raws masks := ⟨e1, e2, er, em⟩
  have hro := aS_room V
  have hr : (idealK V).room (aS3 V) 1 := by
    show (aS3 V).texts.length + 1 ≤ 1000000 ∧ (aS3 V).seals.length + 1 ≤ 1000000
    omega
  have hl := aP_len V
  have e784 : (((784 : Nat) : Int)) = 784 := rfl
  have q := recover_duo (idealK V) (idealOk V) F B (aP2 V) (aS3 V) aRg0 aRg1 (lawSp 48 1) P1 P2 48 raws masks w h hg hF hw hr (ideal_oSize V (aS3 V) (by omega)) (by decide) hl.2 (by rw [hl.1, e784]; exact ⟨a784.1, a784.2.2⟩) e1 e2 (aLoad0 V) (aLoad1 V H) aCho er em (fun _ _ => aTog V H) (fun hy => by
    have q := aFn V H hy
    have q2 : (fnS (idealK V) (aS3 V) raws masks ((48 : Nat) : Int)).ep = 1 := q
    rw [q2]
    show ¬ (1 : Int) = wrap64 (1 + 1)
    unfold wrap64
    omega)
  exact q.mono fun e w' ⟨a, _, c⟩ => ⟨a, c⟩
set_option maxHeartbeats 4000000 in
theorem jawake_any (w : World) (hg : ErrT w) : Calls Tryz.prog 7 #[] w fun e w' => e = .returned (.bool true) ∧ Below w.heap.size w w' := by
  have hn : ∀ W, Calls Tryz.prog 8 #[.int .i64 784] W fun e w' => ∃ B, e = .returned (.tuple #[.pointer (some ⟨B, 0, none⟩), .int .i64 0]) ∧ Plate w' (fun k => W.heap.size ≤ k ∧ k < w'.heap.size) B (newP 784) ∧ Below W.heap.size W w' := fun W => new_any 784 (by decide) W
  have hs0 := fun W => jlsup_any 48 0 W
  have hs1 := fun W => jlsup_any 48 1 W
  have HG : Hid (ErrT w) := hg
  clear hg
  go_enter Tryz.func7, Tryz.ntmps7
  go_wp2_with fail
  refine (jsectors_any _).mono ?_
  rintro e w1 ⟨rfl, hb1⟩
  have HB1 : Hid (Below w.heap.size w w1) := hb1
  clear hb1
  go_wp2_with fail
  refine (hn _).mono ?_
  rintro e w2 ⟨B, rfl, hp2, hb2⟩
  have HB2 : Hid (Plate w2 (fun k => w1.heap.size ≤ k ∧ k < w2.heap.size) B (newP 784) ∧ Below w1.heap.size w1 w2) := ⟨hp2, hb2⟩
  clear hn hp2 hb2
  go_wp2_with fail
  refine (ideal_any _).mono ?_
  rintro e w3 ⟨V, rfl, hv3, hb3⟩
  have hD : ∃ F : Nat → Prop, Duo (idealK V) w3 F B (newP 784) newV ∧ (∀ k, F k → w.heap.size ≤ k) := by
    refine ⟨fun k => w1.heap.size ≤ k ∧ k < w3.heap.size, ⟨_, _, HB2.out.1.below hb3, hv3, ?_, ?_, ?_, ?_⟩, ?_⟩
    · intro k h1 h2
      exact absurd h1.2 (by have := h2.1; omega)
    · exact fun k hk => ⟨hk.1, Nat.lt_of_lt_of_le hk.2 hb3.size⟩
    · exact fun k hk => ⟨Nat.le_trans HB2.out.2.size hk.1, hk.2⟩
    · exact fun k hk => hk.2
    · exact fun k hk => Nat.le_trans HB1.out.size hk.1
  obtain ⟨F, hD, hFl⟩ := hD
  have hbw3 : Below w.heap.size w w3 := (HB1.out.trans (HB2.out.2.mono HB1.out.size)).trans (hb3.mono (Nat.le_trans HB1.out.size HB2.out.2.size))
  have hFe : ¬ F 3 := fun h => by have q := hFl _ h; have q2 := lt_of_cell_ HG.out; omega
  have HD : Hid (Duo (idealK V) w3 F B (newP 784) newV ∧ (∀ k, F k → w.heap.size ≤ k) ∧ Below w.heap.size w w3 ∧ ErrT w3 ∧ ¬ F 3) := ⟨hD, hFl, hbw3, HG.out.below hbw3 (lt_of_cell_ HG.out), hFe⟩
  clear HB1 HB2 hv3 hb3 hD hFl hbw3 hFe
  go_wp2_with fail
  refine (hs0 _).mono ?_
  rintro e w4 ⟨rfl, hb4⟩
  have hd4 := HD.out.1.below (idealOk V) hb4
  have hg4 : ErrT w4 := HD.out.2.2.2.1.bel hb4
  have h5 := awk_fmt F B V w4 hd4 hg4 HD.out.2.2.2.2
  have HB4 : Hid (ErrT w4 ∧ Below w.heap.size w w4) := ⟨hg4, HD.out.2.2.1.trans (hb4.mono HD.out.2.2.1.size)⟩
  clear hs0 hb4 hd4 hg4
  go_wp2_with fail
  refine h5.mono ?_
  rintro e w5 ⟨rfl, hd5, ht5⟩
  have hF5 : ∀ k, grow F w4 w5 k → w.heap.size ≤ k := fun k hk => by
    rcases hk with hk | hk
    · exact HD.out.2.1 k hk
    · exact Nat.le_trans HB4.out.2.size hk.1
  have hb5 : Below w.heap.size w w5 := HB4.out.2.trans (ht5.below HB4.out.2.size HD.out.2.1)
  have hg5 : ErrT w5 := HB4.out.1.touch ht5 HD.out.2.2.2.2
  have hE5 : ¬ grow F w4 w5 3 := fun hk => by
    rcases hk with hk | hk
    · exact HD.out.2.2.2.2 hk
    · have q := lt_of_cell_ HB4.out.1; have q2 := hk.1; omega
  generalize grow F w4 w5 = F2 at *
  have HD5 : Hid (Duo (idealK V) w5 F2 B (aP1 V) (aS1 V) ∧ (∀ k, F2 k → w.heap.size ≤ k) ∧ Below w.heap.size w w5 ∧ ErrT w5 ∧ ¬ F2 3) := ⟨hd5, hF5, hb5, hg5, hE5⟩
  have hlt5 := hd5.lt
  have hw := fun g cap (hgg : g = w5.heap.size) => writes_l_any _ [aB] (w5.alloc (.cells #[.int .i64 40, .int .u8 1, .bool false] 62)) (blks_one w5 g _ cap hgg) (fun x hx => by rw [List.mem_singleton] at hx; subst hx; exact ⟨⟨1, rfl⟩, by decide⟩) (by decide)
  clear h5 hd5 ht5 hF5 hb5 hg5 hE5 HD HB4
  go_wp2_with fail
  refine (hw _ _ (by simp)).mono ?_
  rintro e w6 ⟨v', rfl, hwz, hb6⟩
  obtain ⟨oz, cz, rfl⟩ := hwz.form
  have hb56 : Below w5.heap.size w5 w6 := (bel_alloc w5 _).trans (hb6.mono (by simp))
  have HW6 : Hid (Wts w6 (.slice oz (wrsL [aB]).length cz) (wrsL [aB]) ∧ (∀ g o len cap, (.slice oz (wrsL [aB]).length cz : Value) = .slice (some ⟨g, o, none⟩) len cap → w5.heap.size ≤ g) ∧ Below w5.heap.size w5 w6) := ⟨hwz.wts.1, fun g o len cap e => by have q := (hwz.wts.2 g o len cap e).1; simp at q; omega, hb56⟩
  clear hw hwz hb6 hb56
  go_wp2_with fail
  refine (hs1 _).mono ?_
  rintro e w7 ⟨rfl, hb7⟩
  have hb57 : Below w5.heap.size w5 w7 := HW6.out.2.2.trans (hb7.mono HW6.out.2.2.size)
  have hd7 := HD5.out.1.below (idealOk V) hb57
  have hg7 : ErrT w7 := HD5.out.2.2.2.1.bel hb57
  have h8 := awk_com F2 B V oz cz w7 hd7 hg7 HD5.out.2.2.2.2 ⟨HW6.out.1.below hb7, fun _ g o len cap e hk => by have q := HW6.out.2.1 g o len cap e; have q2 := HD5.out.1.lt g hk; omega⟩
  have HB7 : Hid (ErrT w7 ∧ Below w.heap.size w w7) := ⟨hg7, HD5.out.2.2.1.trans (hb57.mono HD5.out.2.2.1.size)⟩
  clear hs1 hb7 hb57 hd7 hg7 hlt5
  go_wp2_with fail
  refine h8.mono ?_
  rintro e w8 ⟨rfl, hd8, ht8⟩
  have hF8 : ∀ k, grow F2 w7 w8 k → w.heap.size ≤ k := fun k hk => by
    rcases hk with hk | hk
    · exact HD5.out.2.1 k hk
    · exact Nat.le_trans HB7.out.2.size hk.1
  have hb8 : Below w.heap.size w w8 := HB7.out.2.trans (ht8.below HB7.out.2.size HD5.out.2.1)
  have hg8 : ErrT w8 := HB7.out.1.touch ht8 HD5.out.2.2.2.2
  have hE8 : ¬ grow F2 w7 w8 3 := fun hk => by
    rcases hk with hk | hk
    · exact HD5.out.2.2.2.2 hk
    · have q := lt_of_cell_ HB7.out.1; have q2 := hk.1; omega
  have h9 := awk_rcv _ B V w8 hd8 hg8 hE8 (by rw [aP2_wait]; decide)
  generalize grow F2 w7 w8 = F3 at *
  have HD8 : Hid ((∀ k, F3 k → w.heap.size ≤ k) ∧ Below w.heap.size w w8) := ⟨hF8, hb8⟩
  simp only [lawSp, Sp.arr] at h9
  clear h8 hd8 ht8 hF8 hb8 hg8 hE8 HB7 HW6 HD5
  go_wp2_with fail
  refine h9.mono ?_
  rintro e w9 ⟨rfl, ht9⟩
  have HF : Hid (Below w.heap.size w w9) := HD8.out.2.trans (ht9.below HD8.out.2.size HD8.out.1)
  clear h9 ht9 HD8
  generalize fillS 3 32 = rt at *
  go_wp2
  go_ret
  exact ⟨rfl, HF.out.alloc HF.out.size _⟩
end Go.Proofs.YtldkdoddklfdlaaGreatDoor

namespace Go.Proofs.YtldkdoddklfdlaaGreatDoor
set_option maxRecDepth 20000
open Go.RowKit

theorem jset2 {W : World} {g : Nat} {t : TypeId} {x y : Value} (h : W.heap[g]? = some (.cells #[x, y] t (0, 0))) (a b : Value) : ((W.setCell ⟨g, 0, none⟩ a).setCell ⟨g, 1, none⟩ b).heap[g]? = some (.cells #[a, b] t (0, 0)) := by
  have h1 := heap_setCell_same W g 0 _ t a h
  exact heap_setCell_same _ g 1 _ t b h1
theorem jset2_bel {B g : Nat} {w W : World} (h : Below B w W) (hB : B ≤ g) (a b : Value) : Below B w ((W.setCell ⟨g, 0, none⟩ a).setCell ⟨g, 1, none⟩ b) := (h.setCell (p := ⟨g, 0, none⟩) hB a).setCell (p := ⟨g, 1, none⟩) hB b
set_option maxHeartbeats 8000000 in
theorem walk_journalSupers (s : Sp) (hi : IsInt s.vol ∧ IsInt s.ep ∧ IsInt s.nx ∧ IsInt s.lv ∧ s.root.size ≤ maxLen) (w : World) (ht : TabR w) (hg : ErrT w) :
    Calls Tryz.prog 3 #[.agg s.arr] w fun e w' => e = .returned (.bool true) ∧ Below w.heap.size w w' := by
  have hs : s.Ok := ⟨hi.1, hi.2.1, hi.2.2.1, hi.2.2.2.1⟩
  clear hi
  obtain ⟨X, hX, hlaid⟩ := laid_any 0 (by decide)
  have hb0 := bel_alloc w (.cells s.arr 23)
  have g0 := heap_alloc_new w (.cells s.arr 23)
  obtain ⟨w0, hw0⟩ : ∃ w0, w.alloc (.cells s.arr 23) = w0 := ⟨_, rfl⟩
  rw [hw0] at hb0 g0
  have HW : Hid (w.alloc (.cells s.arr 23) = w0 ∧ Below w.heap.size w w0 ∧ w0.heap[w.heap.size]? = some (.cells s.arr 23 (0, 0)) ∧ TabR w0 ∧ ErrT w0 ∧ w.heap.size < w0.heap.size) := ⟨hw0, hb0, g0, prims6.tab ht hb0, hg.bel hb0, lt_of_block g0⟩
  have h1 := hlaid w0 (prims6.tab ht hb0)
  have HJ : Hid (∀ W B, TabR W → RealV W B X → Calls Tryz.prog 5 #[.pointer (some ⟨B, 0, none⟩), .agg s.arr] W fun e w' => e = .returned (.tuple #[.agg #[.int .i64 (supA s), .string (supRS realF X s)], .int .i64 (supE s)]) ∧ Below W.heap.size W w') := fun W B h2 h3 => jsuper_real prims6 backs6 B X hX s W h2 h3
  have HR : Hid (∀ W B, RefR W B X → Calls Tryz.prog 6 #[.pointer (some ⟨B, 0, none⟩), .agg s.arr] W fun e w' => e = .returned (.tuple #[.agg #[.int .i64 (supA s), .string (supRS realF X s)], .int .i64 (supE s)]) ∧ Below W.heap.size W w') := fun W B h3 => rjsuper_real rprims6 backs6 B X hX s hs W h3
  clear hb0 g0 hw0 hlaid ht hg hs hX
  generalize supA s = A at *
  generalize supRS realF X s = R at *
  generalize supE s = E at *
  obtain ⟨a0, a1, a2, a3, rt⟩ := s
  simp only [Sp.arr] at HW HJ HR ⊢
  go_enter Tryz.func3, Tryz.ntmps3
  go_wp2_with fail
  rw [HW.out.1]
  refine h1.mono ?_
  rintro e w1 ⟨G, B1, B2, B3, B4, rfl, hL, hb1⟩
  have HL : Hid (LaidW w0 w1 X (newP 0) G B1 B2 B3 B4 ∧ Below w0.heap.size w0 w1) := ⟨hL, hb1⟩
  clear h1 hL hb1
  have hGl := lt_of_block HL.out.1.row
  have HS : Hid (∀ W, Below w1.heap.size w1 W → W.cell? ⟨G, 2, none⟩ = some (.pointer (some ⟨B3, 0, none⟩)) ∧ W.cell? ⟨G, 3, none⟩ = some (.pointer (some ⟨B4, 0, none⟩)) ∧ W.cell? ⟨w.heap.size, 0, none⟩ = some (.int .i64 a0) ∧ W.cell? ⟨w.heap.size, 1, none⟩ = some (.int .i64 a1) ∧ W.cell? ⟨w.heap.size, 2, none⟩ = some (.int .i64 a2) ∧ W.cell? ⟨w.heap.size, 3, none⟩ = some (.int .i64 a3) ∧ W.cell? ⟨w.heap.size, 4, none⟩ = some (.string rt)) := fun W hW => by
    have gA := (hW.block G hGl).trans HL.out.1.row
    have gB := ((HL.out.2.trans (hW.mono HL.out.2.size)).block w.heap.size HW.out.2.2.2.2.2).trans HW.out.2.2.1
    exact ⟨cell_of_row _ _ 2 _ _ _ gA, cell_of_row _ _ 3 _ _ _ gA, cell_of_row _ _ 0 _ _ _ gB, cell_of_row _ _ 1 _ _ _ gB, cell_of_row _ _ 2 _ _ _ gB, cell_of_row _ _ 3 _ _ _ gB, cell_of_row _ _ 4 _ _ _ gB⟩
  have HQ : Hid (∀ W, Below w1.heap.size w1 W → TabR W ∧ RealV W B3 X ∧ RefR W B4 X ∧ ErrT W ∧ Below w.heap.size w W) := fun W hW => by
    have q := HL.out.2.trans (hW.mono HL.out.2.size)
    exact ⟨prims6.tab HW.out.2.2.2.1 q, HL.out.1.real.below hW, HL.out.1.ref.keep hW, HW.out.2.2.2.2.1.bel q, HW.out.2.1.trans (q.mono HW.out.2.1.size)⟩
  clear hGl
  clear HW HL
  go_wp2_with fail
  have HS2 : Hid (∀ W, Below w1.heap.size w1 W → W.cell? ⟨G, 2, none⟩ = some (.pointer (some ⟨B3, 0, none⟩)) ∧ W.cell? ⟨w.heap.size, 0, none⟩ = some (.int .i64 a0) ∧ W.cell? ⟨w.heap.size, 1, none⟩ = some (.int .i64 a1) ∧ W.cell? ⟨w.heap.size, 2, none⟩ = some (.int .i64 a2) ∧ W.cell? ⟨w.heap.size, 3, none⟩ = some (.int .i64 a3) ∧ W.cell? ⟨w.heap.size, 4, none⟩ = some (.string rt)) := fun W hW => by have q := HS.out W (hW); exact ⟨q.1, q.2.2⟩
  have HC2 : Hid (∀ W, Below w1.heap.size w1 W → Calls Tryz.prog 5 #[.pointer (some ⟨B3, 0, none⟩), .agg #[.int .i64 a0, .int .i64 a1, .int .i64 a2, .int .i64 a3, .string rt]] W fun e w' => e = .returned (.tuple #[.agg #[.int .i64 A, .string R], .int .i64 E]) ∧ Below W.heap.size W w') := fun W hW => HJ.out W B3 (HQ.out W hW).1 (HQ.out W hW).2.1
  go_cut [4, 5] from 8 (fun s4 s5 wc => ∃ Y, s4 = .pointer (some ⟨Y, 0, none⟩) ∧ s5 = .int .i64 E ∧ Hid (wc.heap[Y]? = some (.cells #[.int .i64 A, .string R] 27 (0, 0)) ∧ Below w1.heap.size w1 wc))
  case first =>
    go_region_held3 (fun w' => w'.cell? ⟨G, 2, none⟩ = some (.pointer (some ⟨B3, 0, none⟩)) ∧ w'.cell? ⟨w.heap.size, 0, none⟩ = some (.int .i64 a0) ∧ w'.cell? ⟨w.heap.size, 1, none⟩ = some (.int .i64 a1) ∧ w'.cell? ⟨w.heap.size, 2, none⟩ = some (.int .i64 a2) ∧ w'.cell? ⟨w.heap.size, 3, none⟩ = some (.int .i64 a3) ∧ w'.cell? ⟨w.heap.size, 4, none⟩ = some (.string rt)) (first | exact HS2.out _ (jset2_bel hkA (Nat.le_refl _) _ _) | (refine HS2.out _ ?_; (repeat (first | exact hkA | exact Below.refl _ _ | refine bd ?_ | refine ba ?_)); done)) (first
      | (go_at_call 5; (with_reducible refine (HC2.out _ ?_).mono ?_); (focus ((repeat (first | exact Below.refl _ _ | refine bd ?_ | refine ba ?_)); done)); rintro e wA ⟨rfl, hbA⟩; have hkA : Below w1.heap.size w1 wA := (by first | exact (bd (Below.refl w1.heap.size w1)).trans hbA | exact (bd (ba (Below.refl w1.heap.size w1))).trans (hbA.mono (by simp)) | exact (ba (bd (Below.refl w1.heap.size w1))).trans (hbA.mono (by simp))); (first | (have gT : wA.heap[w1.heap.size]? = some (.cells #[.int .i64 0, .string ⟨#[]⟩] 27 (0, 0)) := (hbA.block w1.heap.size (by simp)).trans (heap_alloc_new w1 _)) | skip); (try (have q0 := cell_of_row wA _ 0 _ _ _ gT; have fz0 := frozen_of_row wA _ 0 _ _ gT; have q1 := cell_of_row wA _ 1 _ _ _ gT; have fz1 := frozen_of_row wA _ 1 _ _ gT)); clear hbA))
    all_goals
      go_wp2_with fail
      go_meet
      first
        | exact ⟨_, rfl, rfl, jset2 gT _ _, jset2_bel hkA (Nat.le_refl _) _ _⟩
        | exact ⟨_, rfl, rfl, heap_alloc_new wA _, ba hkA⟩
  case rest =>
    obtain ⟨Y, rfl, rfl, HX⟩ := hcut
    generalize wc = x2 at *
    clear HS2 HC2
    go_wp2_with fail
    have HS3 : Hid (∀ W, Below x2.heap.size x2 W → W.cell? ⟨G, 3, none⟩ = some (.pointer (some ⟨B4, 0, none⟩)) ∧ W.cell? ⟨w.heap.size, 0, none⟩ = some (.int .i64 a0) ∧ W.cell? ⟨w.heap.size, 1, none⟩ = some (.int .i64 a1) ∧ W.cell? ⟨w.heap.size, 2, none⟩ = some (.int .i64 a2) ∧ W.cell? ⟨w.heap.size, 3, none⟩ = some (.int .i64 a3) ∧ W.cell? ⟨w.heap.size, 4, none⟩ = some (.string rt)) := fun W hW => by have q := HS.out W (HX.out.2.trans (hW.mono HX.out.2.size)); exact ⟨q.2.1, q.2.2⟩
    have HC3 : Hid (∀ W, Below x2.heap.size x2 W → Calls Tryz.prog 6 #[.pointer (some ⟨B4, 0, none⟩), .agg #[.int .i64 a0, .int .i64 a1, .int .i64 a2, .int .i64 a3, .string rt]] W fun e w' => e = .returned (.tuple #[.agg #[.int .i64 A, .string R], .int .i64 E]) ∧ Below W.heap.size W w') := fun W hW => HR.out W B4 (HQ.out W (HX.out.2.trans (hW.mono HX.out.2.size))).2.2.1
    go_cut [6, 7] from 8 (fun s4 s5 wc => ∃ Y, s4 = .pointer (some ⟨Y, 0, none⟩) ∧ s5 = .int .i64 E ∧ Hid (wc.heap[Y]? = some (.cells #[.int .i64 A, .string R] 27 (0, 0)) ∧ Below x2.heap.size x2 wc))
    case first =>
      go_region_held3 (fun w' => w'.cell? ⟨G, 3, none⟩ = some (.pointer (some ⟨B4, 0, none⟩)) ∧ w'.cell? ⟨w.heap.size, 0, none⟩ = some (.int .i64 a0) ∧ w'.cell? ⟨w.heap.size, 1, none⟩ = some (.int .i64 a1) ∧ w'.cell? ⟨w.heap.size, 2, none⟩ = some (.int .i64 a2) ∧ w'.cell? ⟨w.heap.size, 3, none⟩ = some (.int .i64 a3) ∧ w'.cell? ⟨w.heap.size, 4, none⟩ = some (.string rt)) (first | exact HS3.out _ (jset2_bel hkA (Nat.le_refl _) _ _) | (refine HS3.out _ ?_; (repeat (first | exact hkA | exact Below.refl _ _ | refine bd ?_ | refine ba ?_)); done)) (first
        | (go_at_call 6; (with_reducible refine (HC3.out _ ?_).mono ?_); (focus ((repeat (first | exact Below.refl _ _ | refine bd ?_ | refine ba ?_)); done)); rintro e wA ⟨rfl, hbA⟩; have hkA : Below x2.heap.size x2 wA := (by first | exact (bd (Below.refl x2.heap.size x2)).trans hbA | exact (bd (ba (Below.refl x2.heap.size x2))).trans (hbA.mono (by simp)) | exact (ba (bd (Below.refl x2.heap.size x2))).trans (hbA.mono (by simp))); (first | (have gT : wA.heap[x2.heap.size]? = some (.cells #[.int .i64 0, .string ⟨#[]⟩] 27 (0, 0)) := (hbA.block x2.heap.size (by simp)).trans (heap_alloc_new x2 _)) | skip); (try (have q0 := cell_of_row wA _ 0 _ _ _ gT; have fz0 := frozen_of_row wA _ 0 _ _ gT; have q1 := cell_of_row wA _ 1 _ _ _ gT; have fz1 := frozen_of_row wA _ 1 _ _ gT)); clear hbA))
      all_goals
        go_wp2_with fail
        go_meet
        first
          | exact ⟨_, rfl, rfl, jset2 gT _ _, jset2_bel hkA (Nat.le_refl _) _ _⟩
          | exact ⟨_, rfl, rfl, heap_alloc_new wA _, ba hkA⟩
    case rest =>
      obtain ⟨Z, rfl, rfl, HZ⟩ := hcut
      generalize wc = x3 at *
      have gY : x3.heap[Y]? = some (.cells #[.int .i64 A, .string R] 27 (0, 0)) := (HZ.out.2.block Y (lt_of_block HX.out.1)).trans HX.out.1
      have gZ := HZ.out.1
      have HE : Hid (ErrT x3 ∧ Below w.heap.size w x3) := by
        have q := HQ.out x3 (HX.out.2.trans (HZ.out.2.mono HX.out.2.size))
        exact ⟨q.2.2.2.1, q.2.2.2.2⟩
      have h3 := jawake_any x3 HE.out.1
      have hee : (E == E) = true := by simp
      clear HS3 HC3 HX HZ HQ HS HJ HR
      go_wp2_with (first | refine wpList_load_row rfl 27 _ rfl Y rfl 27 _ (0, 0) _ gY Tryz.underlying27 rfl (by kernel_rfl) ?_ | refine wpList_load_row rfl 27 _ rfl Z rfl 27 _ (0, 0) _ gZ Tryz.underlying27 rfl (by kernel_rfl) ?_)
      refine h3.mono ?_
      rintro e wz ⟨rfl, hbz⟩
      have HF : Hid (Below w.heap.size w wz) := HE.out.2.trans (hbz.mono HE.out.2.size)
      clear h3 hbz gY gZ HE
      go_wp2
      go_ret
      exact ⟨by simp, HF.out⟩
end Go.Proofs.YtldkdoddklfdlaaGreatDoor

namespace Go.Proofs.YtldkdoddklfdlaaGreatDoor
set_option maxRecDepth 20000
open Go.ChangeShapes Go.WideShapes Go.ChangeAt Go.RowKit

theorem array5 {α : Type} {cs : Array α} (h : cs.size = 5) : ∃ c0 c1 c2 c3 c4, cs = #[c0, c1, c2, c3, c4] := by
  obtain ⟨l⟩ := cs
  match l, h with
  | [c0, c1, c2, c3, c4], _ => exact ⟨c0, c1, c2, c3, c4, rfl⟩
theorem cells_super : Tryz.prog.cellsOf 23 = 5 := by kernel_rfl
theorem open_super {H : Type} {enc : TypeId × Value → H} {w : World} {base b0 : Nat} {spare : Nat → Bool} {held : Bool} {r : Reach} {v : Value} {d : DataW H} {p : List MemPlace}
    (hv : Value.okWide Tryz.prog w r b0 23 v) (h : DataW.Trod enc Tryz.prog w base spare held 23 v d p) :
    ∃ (a0 a1 a2 a3 : Int) (s : ByteArray), v = .agg #[.int .i64 a0, .int .i64 a1, .int .i64 a2, .int .i64 a3, .string s] ∧ (IsInt a0 ∧ IsInt a1 ∧ IsInt a2 ∧ IsInt a3 ∧ s.size ≤ maxLen) := by
  obtain ⟨cs, rfl, hsz⟩ := okWide_struct Tryz.underlying23 hv
  obtain ⟨c0, c1, c2, c3, c4, rfl⟩ := array5 (hsz.trans cells_super)
  obtain ⟨fuel, hf⟩ := h
  obtain ⟨xs, n, _, _, _, hlen, hf⟩ := DataW.trod_struct Tryz.underlying23 hf
  have hl : xs.length = 5 := hlen
  obtain ⟨a0, rfl, w0⟩ := fld_int (c := c0) (i := 0) (xs := xs) (by simpa [Value.cells, cells_int] using hf 0 _ rfl) (by omega)
  obtain ⟨a1, rfl, w1⟩ := fld_int (c := c1) (i := 1) (xs := xs) (by simpa [Value.cells, cells_int] using hf 1 _ rfl) (by omega)
  obtain ⟨a2, rfl, w2⟩ := fld_int (c := c2) (i := 2) (xs := xs) (by simpa [Value.cells, cells_int] using hf 2 _ rfl) (by omega)
  obtain ⟨a3, rfl, w3⟩ := fld_int (c := c3) (i := 3) (xs := xs) (by simpa [Value.cells, cells_int] using hf 3 _ rfl) (by omega)
  obtain ⟨s, rfl, w4⟩ := fld_string (c := c4) (i := 4) (xs := xs) (by simpa [Value.cells, cells_string] using hf 4 _ rfl) (by omega)
  exact ⟨a0, a1, a2, a3, s, rfl, w0, w1, w2, w3, w4⟩
end Go.Proofs.YtldkdoddklfdlaaGreatDoor

namespace Go.Proofs.YtldkdoddklfdlaaGreatDoor
set_option maxRecDepth 20000
open Go.RowKit

theorem errT_of_handles {W : World} (h : handlesMet Tryz.prog [("errors.errorType", Rows.laid_errors_errorType)] W) : ErrT W := by
  have h2 : ∃ name u ty, (Rows.laid_errors_errorType : DataW Unit).handleName? = some name ∧ (Tryz.prog.cutTypes.find? (·.1 == "internal/reflectlite.rtype")).map (·.2) = some u ∧ ty < Tryz.prog.types.size ∧ Tryz.prog.rowNamed ty name = true ∧ W.var? Tryz.prog "errors.errorType" = some #[.iface u (.agg #[typeHandle Tryz.prog ty])] := h _ (List.mem_singleton.2 rfl)
  obtain ⟨name, u, ty, hn, hu, hty, hr, hv⟩ := h2
  obtain rfl : name = [101, 114, 114, 111, 114] := (Option.some.inj ((show (Rows.laid_errors_errorType : DataW Unit).handleName? = some [101, 114, 114, 111, 114] by kernel_rfl).symm.trans hn)).symm
  obtain rfl : u = 241 := (Option.some.inj ((show (Tryz.prog.cutTypes.find? (·.1 == "internal/reflectlite.rtype")).map (·.2) = some 241 by kernel_rfl).symm.trans hu)).symm
  have hall : (List.range Tryz.prog.types.size).all (fun t => !Tryz.prog.rowNamed t [101, 114, 114, 111, 114] || t == 113) = true := by kernel_rfl
  have h1 := List.all_eq_true.1 hall ty (List.mem_range.2 hty)
  rw [hr] at h1
  obtain rfl : ty = 113 := by simpa using h1
  have hc := World.var?_cell (show Tryz.prog.globalNamed "errors.errorType" = some 3 by kernel_rfl) hv 0
  have hs : Tryz.prog.globals.size = 6 := by kernel_rfl
  rw [ErrT, hc]
  simp only [typeHandle, hs]
  rfl
end Go.Proofs.YtldkdoddklfdlaaGreatDoor

namespace Go.Proofs.YtldkdoddklfdlaaGreatDoor.Sm
set_option maxRecDepth 20000
open Go.RowKit

def firstZ : List Int := [1779033703, 3144134277, 1013904242, 2773480762, 1359893119, 2600822924, 528734635, 1541459225]
def cubesZ : List Int := [1116352408, 1899447441, 3049323471, 3921009573, 961987163, 1508970993, 2453635748, 2870763221, 3624381080, 310598401, 607225278, 1426881987, 1925078388, 2162078206, 2614888103, 3248222580, 3835390401, 4022224774, 264347078, 604807628, 770255983, 1249150122, 1555081692, 1996064986, 2554220882, 2821834349, 2952996808, 3210313671, 3336571891, 3584528711, 113926993, 338241895, 666307205, 773529912, 1294757372, 1396182291, 1695183700, 1986661051, 2177026350, 2456956037, 2730485921, 2820302411, 3259730800, 3345764771, 3516065817, 3600352804, 4094571909, 275423344, 430227734, 506948616, 659060556, 883997877, 958139571, 1322822218, 1537002063, 1747873779, 1955562222, 2024104815, 2227730452, 2361852424, 2428436474, 2756734187, 3204031479, 3329325298]
theorem firstZ_at (i : Nat) (h : i < 8) : firstZ.getD i 0 = ((st0.at i : Nat) : Int) := by
  have all : ∀ j : Fin 8, firstZ.getD j.val 0 = ((st0.at j.val : Nat) : Int) := by decide
  exact all ⟨i, h⟩
theorem cubesZ_at (i : Nat) (h : i < 64) : cubesZ.getD i 0 = ((keyN i : Nat) : Int) := by
  have all : ∀ j : Fin 64, cubesZ.getD j.val 0 = ((keyN j.val : Nat) : Int) := by decide +kernel
  exact all ⟨i, h⟩
theorem lt_of_cell {w : World} {g i : Nat} {v : Value} (h : w.cell? ⟨g, i, none⟩ = some v) : g < w.heap.size := by
  rcases Nat.lt_or_ge g w.heap.size with h' | h'
  · exact h'
  · simp [World.cell?, Array.getElem?_eq_none h'] at h
theorem tables_of_laid {W : World} (h : laidMet Tryz.prog [("grapnel/sum.first", Lib.tabData .u32 firstZ), ("grapnel/sum.cubes", Lib.tabData .u32 cubesZ)] W) : First W ∧ Cubes W := by
  have g0 : Tryz.prog.globalNamed "grapnel/sum.first" = some 0 := by kernel_rfl
  have g1 : Tryz.prog.globalNamed "grapnel/sum.cubes" = some 2 := by kernel_rfl
  have y1 : (Tryz.prog.globals[2]?).map (·.type) = some 261 := by kernel_rfl
  have T0 := Lib.tabIs_of_head g0 (show (Tryz.prog.globals[0]?).map (·.type) = some 146 by kernel_rfl) Tryz.underlying146 Tryz.underlying144 (by kernel_rfl) (by kernel_rfl) h
  have T1 : Lib.TabIs Tryz.prog W "grapnel/sum.cubes" .u32 cubesZ := by
    obtain ⟨ps, ⟨_, _, _, _, _, _, _, _, _, _, ⟨g', t', cs, fuel, p, q, hg', ht', hvar, hd, _, _⟩, _⟩, _⟩ := h
    obtain rfl := Option.some.inj (g1.symm.trans hg')
    obtain rfl := Option.some.inj (y1.symm.trans ht')
    unfold Lib.TabIs
    rw [hvar, ← Lib.cells_of_tab Tryz.underlying261 Tryz.underlying144 (by kernel_rfl) (by kernel_rfl) hd]
  have c0 : ∀ i, i < 8 → W.cell? ⟨0, i, none⟩ = some (.int .u32 (st0.at i : Nat)) := fun i hi => by rw [T0.cell g0 i hi, firstZ_at i hi]
  have c1 : ∀ i, i < 64 → W.cell? ⟨2, i, none⟩ = some (.int .u32 (keyN i : Nat)) := fun i hi => by rw [T1.cell g1 i hi, cubesZ_at i hi]
  exact ⟨⟨lt_of_cell (c0 0 (by decide)), c0⟩, ⟨lt_of_cell (c1 0 (by decide)), c1⟩⟩
end Go.Proofs.YtldkdoddklfdlaaGreatDoor.Sm
