/- journal's Recover at a device and a vault that lie apart, where something is left. · The law JournalAll: a Recover behind a cut. -/
import Derived.Test.YtbmjablmmlnieaaGreatDoorMg40
import Derived.Test.YtbmjablmmlnieaaGreatDoorMg43
import Derived.Test.YtbmjablmmlnieaaGreatDoorMg42
import Derived.Test.YtbmjablmmlnieaaGreatDoorMg37
import Derived.Test.YtbmjablmmlnieaaGreatDoorMg35
namespace Go.Proofs.YtbmjablmmlnieaaGreatDoor
set_option maxRecDepth 20000
open Go.RowKit

/-- Recover of any device and vault that lie apart, where something is left. -/
theorem recover_redo (K : VK) (HK : VKOk K) (F : Nat → Prop) (B : Nat) (P : PS) (T : K.σ) (r0 r1 : Rg) (c : Sp) (P1 P2 : PS) (n : Nat) (raws : List ByteArray) (masks : List Int) (w : World) (h : Duo K w F B P T) (hg : ErrT w) (hF : ¬ F 0) (hw : P.wait.length ≤ 1000000) (hr : K.room T 1) (hO : ∀ r, K.oE T r = 0 → (K.oS T r).size = 448) (hn : n ≤ 1024)
    (hup : P.up = true) (hlo : loE (P.kept.length : Nat) = 0 ∧ loA (P.kept.length : Nat) = layA n (layQ n) (layS n) (layT n)) (e1 : (bget P 0).2 = P1) (e2 : (bget P1 1).2 = P2) (er0 : loadR K P T 0 = r0) (er1 : loadR K P1 T 1 = r1) (hc : chO [r0, r1] (n : Int) = some c) (era : rawsTo P2 (P2.kept.length / 8) = raws) (erm : masksTo P2 (P2.kept.length / 8) = masks)
    (f : Sp) (hf : fnS K T raws masks (n : Int) = f) (hok : fnOk K T raws masks (n : Int) = true) (hyes : f.ep = wrap64 (c.ep + 1)) (T2 : K.σ) (hT2 : fnP K T raws masks (n : Int) = T2) (hr2 : K.room T2 1) (hsE : supE f = 0) (l : List Wt) (hl9 : fnW K T raws masks (n : Int) = l) (hll : l.length ≤ 24)
    (X : Int) (PF : PS) (hX : folE [l, [⟨supA f, supR K T2 f⟩]] (stA P2 (P2.kept.length / 8)) = X) (hPF : folP [l, [⟨supA f, supR K T2 f⟩]] (stA P2 (P2.kept.length / 8)) = PF) (hw9 : P.wait.length ≤ 100000) (V : Value) (hV0 : ansE X = 0 → V = .tuple #[.agg f.arr, .int .i64 (l.length : Nat), .int .i64 0]) (hV1 : ¬ ansE X = 0 → V = .tuple #[.agg Sp.zero.arr, .int .i64 0, .int .i64 (ansE X)]) :
    Calls Tryz.prog 22 #[.pointer (some ⟨B, 0, none⟩), K.v] w fun e w' => e = .returned V ∧ Duo K w' (grow F w w') B PF (supP K T2 f) ∧ Touch F w w' := by
  have hlt := h.lt
  have k1 : Alike P P1 := by rw [← e1]; exact jbget_alike P 0
  have k2 : Alike P1 P2 := by rw [← e2]; exact jbget_alike P1 1
  have hw1 : P1.wait.length ≤ 1000000 := by rw [k1.2.2.1]; exact hw
  have hw2 : P2.wait.length ≤ 1000000 := by rw [k2.2.2.1]; exact hw1
  have hw3 : (stA P2 (P2.kept.length / 8)).wait.length ≤ 100000 := by rw [(stA_alike P2 _).2.2.1, k2.2.2.1, k1.2.2.1]; exact hw9
  have hl : raws.length = P2.kept.length / 8 ∧ masks.length = P2.kept.length / 8 := ⟨by rw [← era]; exact rawsTo_length _ _, by rw [← erm]; exact masksTo_length _ _⟩
  have hlays : ∀ W, Below w.heap.size w W → Calls Tryz.prog 27 #[.pointer (some ⟨B, 0, none⟩)] W fun e W' => e = .returned (.tuple #[.agg (layA n (layQ n) (layS n) (layT n)), .int .i64 0]) ∧ Below W.heap.size W W' := fun W hW => by
    have q := layoutOf_any (.pointer (some ⟨B, 0, none⟩)) (P.kept.length : Nat) W fun W2 h2 => ((h.below HK hW).below HK h2).sectors
    rw [hlo.1, hlo.2] at q
    exact q
  have hload : ∀ (Pa : PS) (a : Int) W, Pa.wait.length ≤ 1000000 → Duo K W F B Pa T → ErrT W → Calls Tryz.prog 46 #[.pointer (some ⟨B, 0, none⟩), K.v, .int .i64 a] W fun e W' => e = .returned (.agg (loadR K Pa T a).arr) ∧ Duo K W' F B (bget Pa a).2 T ∧ Touch F W W' := fun Pa a W hwa hd hgW => by
    obtain ⟨F1, F2, hd⟩ := hd
    have q := kload_any K HK B F1 F2 Pa T a W hd.plate hwa hgW (fun hk => hF (hd.in1 _ hk)) hd.vault (HK.less hr (Nat.zero_le _)) (fun k h2 h1 => hd.apart k h1 h2) (fun k hk => hd.lt k (hd.in1 k hk))
    refine q.mono fun e W' ⟨he, hp, ht⟩ => ⟨?_, ⟨F1, F2, hp, HK.keep hd.vault fun k hk hF2 => ht.2 k hk fun h1 => hd.apart k h1 hF2, hd.apart, hd.in1, hd.in2, fun k hk => Nat.lt_of_lt_of_le (hd.lt k hk) ht.size⟩, ht.mono hd.in1⟩
    rw [he]
    unfold loadK loadR Rg.arr
    by_cases q1 : (bget Pa a).1.2.2 = 0 ∧ (bget Pa a).1.2.1 = 0
    · rw [if_pos q1]
      unfold toldR
      by_cases q2 : K.oE T (bget Pa a).1.1 = 0 ∧ (K.oH T (bget Pa a).1.1).v1 = a
      · rw [if_pos q2, if_pos ⟨q1.1, q1.2, q2.1, q2.2⟩]
      · rw [if_neg q2, if_neg fun q => q2 ⟨q.2.2.1, q.2.2.2⟩]
        rfl
    · rw [if_neg q1, if_neg fun q => q1 ⟨q.1, q.2.1⟩]
      rfl
  have hgt : ∀ W, Touch F w W → ErrT W := fun W ht => hg.touch ht hF
  have hfd : ∀ oa ca ob cb W, Duo K W F B (stA P2 (P2.kept.length / 8)) T → List1 Value.string W (.slice oa raws.length ca) raws → List1 (Value.int .i64) W (.slice ob masks.length cb) masks → Calls Tryz.prog 47 #[K.v, .agg (layA n (layQ n) (layS n) (layT n)), .agg #[.slice oa raws.length ca, .slice ob masks.length cb]] W fun e w' => FnE K W T raws masks n e w' ∧ Duo K w' F B (stA P2 (P2.kept.length / 8)) (fnP K T raws masks (n : Int)) ∧ Touch F W w' := fun oa ca ob cb W hd h1 h2 => hd.vaultW (E := FnE K W T raws masks n) fun F2 hl2 _ => found_all K HK F2 T hr hO n (layQ n) (layS n) (layT n) hn oa ob ca cb raws masks W hl2 h1 h2
  refine (recover_left (.pointer (some ⟨B, 0, none⟩)) K.v n (layQ n) (layS n) (layT n) r0 r1 c f l (supA f) (supR K T2 f) X V hV0 hV1 raws masks w (fun W => Duo K W F B P1 T ∧ Touch F w W) (fun W => Duo K W F B P2 T ∧ Touch F w W) (fun W => Duo K W F B (stA P2 (P2.kept.length / 8)) T ∧ Touch F w W) (fun W => Duo K W F B (stA P2 (P2.kept.length / 8)) T2 ∧ Touch F w W) (fun W => Duo K W F B (stA P2 (P2.kept.length / 8)) (supP K T2 f) ∧ Touch F w W) (fun W => Touch F w W ∧ ∃ b, w.heap.size < b ∧ Duo K W (fun k => F k ∨ (b ≤ k ∧ k < W.heap.size)) B PF (supP K T2 f)) (duo_stb HK hlt) (duo_stb HK hlt) (duo_stb HK hlt) (duo_stb HK hlt) (duo_stb HK hlt) ?_ ?_ (fun W hW => by have q := (h.below HK hW).up; rw [hup] at q; exact q) hlays ?_ ?_ ?_ ?_ ?_ hyes ?_ ?_).mono fun e w' ⟨he, ht, b, hb, hd⟩ => ⟨he, hd.mono (fun k hk => by
      rcases hk with hk | hk
      · exact .inl hk
      · exact .inr ⟨by omega, hk.2⟩) (fun k hk => by
      rcases hk with hk | hk
      · exact Nat.lt_of_lt_of_le (hlt k hk) ht.size
      · exact hk.2), ht⟩
  · intro w1 w2 ⟨ht, b, hb, hd⟩ hbb
    refine ⟨ht.trans (Touch.of_below hbb), b, hb, (hd.below HK hbb).mono (fun k hk => ?_) fun k hk => ?_⟩
    · rcases hk with hk | hk
      · exact .inl hk
      · exact .inr ⟨hk.1, Nat.lt_of_lt_of_le hk.2 hbb.size⟩
    · rcases hk with hk | hk
      · exact Nat.lt_of_lt_of_le (hd.lt k (.inl hk)) hbb.size
      · exact hk.2
  · intro w1 cs ⟨ht, b, hb, hd⟩
    have hs : (w1.setRow w.heap.size cs).heap.size = w1.heap.size := by simp [World.setRow]
    refine ⟨⟨ht.1.trans ⟨rfl, rfl, rfl, by simp [World.setRow], fun k hk => absurd hk (Nat.not_lt_zero k)⟩, fun k hk hn => (setRow_other _ _ _ _ (Nat.ne_of_lt hk)).trans (ht.2 k hk hn)⟩, b, hb, ?_⟩
    rw [hs]
    exact hd.keep HK (Nat.le_of_eq hs.symm) fun k _ hk => setRow_other _ _ _ _ (by
      rcases hk with hk | hk
      · exact Nat.ne_of_lt (hlt k hk)
      · omega)
  · intro W hW
    have ht := Touch.of_below (F := F) hW
    have q := hload P 0 W hw (h.below HK hW) (hgt W ht)
    rw [er0, e1] at q
    exact q.mono fun e W' ⟨a1, a2, a3⟩ => ⟨a1, ⟨a2, ht.trans (a3.mono fun _ h => .inl h)⟩, touch_kept a3 hlt, a3.size⟩
  · intro W hW _
    have q := hload P1 1 W hw1 hW.1 (hgt W hW.2)
    rw [er1, e2] at q
    exact q.mono fun e W' ⟨a1, a2, a3⟩ => ⟨a1, ⟨a2, hW.2.trans (a3.mono fun _ h => .inl h)⟩, touch_kept a3 hlt, a3.size⟩
  · intro v' W hv
    have q := jcho_any v' [r0, r1] (n : Int) W hv
    rw [hc] at q
    exact q
  · intro W hW _
    obtain ⟨F1, F2, hd⟩ := hW.1
    refine (all_any B F1 P2 W hd.plate hw2 (hgt W hW.2) (fun hk => hF (hd.in1 _ hk)) (fun k hk => hd.lt k (hd.in1 k hk))).mono fun e W' ⟨oa, ca, ob, cb, he, ⟨M, hm⟩, hp, ht⟩ => ⟨oa, ca, ob, cb, ?_, ?_, ?_, ⟨⟨F1, F2, hp, HK.keep hd.vault fun k hk hF2 => ht.2 k hk fun h1 => hd.apart k h1 hF2, hd.apart, hd.in1, hd.in2, fun k hk => Nat.lt_of_lt_of_le (hd.lt k hk) ht.size⟩, hW.2.trans (ht.mono fun k hk => .inl (hd.in1 k hk))⟩, touch_kept (ht.mono hd.in1) hlt, ht.size⟩
    · rw [he, hl.1, hl.2]
    · rw [era, erm] at hm
      rw [hl.1]
      exact (jviews hm).1
    · rw [era, erm] at hm
      rw [hl.2]
      exact (jviews hm).2
  · intro oa ca ob cb W hW _ h1 h2
    have q := hfd oa ca ob cb W hW.1 h1 h2
    rw [hT2] at q
    refine q.mono fun e W' ⟨⟨v', he, hv⟩, hd, ht⟩ => ?_
    obtain ⟨hv1, hv2⟩ := hv hok
    rw [hl9] at hv1
    obtain ⟨oz, cz, rfl⟩ := hv1.form
    exact ⟨oz, cz, by rw [he, hf, hok], hv1, fun g o len cap e => (hv2 g o len cap e).1, ⟨hd, hW.2.trans (ht.mono fun _ h => .inl h)⟩, touch_kept ht hlt, ht.size⟩
  · intro W hW _
    have q := super_duo K HK F B _ T2 f W hW.1 hr2
    rw [hsE] at q
    exact q.mono fun e W' ⟨a1, a2, a3⟩ => ⟨a1, ⟨a2, hW.2.trans (a3.mono fun _ h => .inl h)⟩, touch_kept a3 hlt, a3.size⟩
  · intro W v2 g t cap oz cz hg9 hW hz hv1 hf1 hv2 hf2
    have q := follow_2 K HK F B _ (supP K T2 f) W (.slice oz l.length cz) v2 l [⟨supA f, supR K T2 f⟩] g t cap hg9 hW.1 (by
      have e9 : total [l, [⟨supA f, supR K T2 f⟩]] = l.length + (1 + 0) := rfl
      rw [e9]
      omega) (hgt W hW.2) hF ⟨hv1, fun _ g o len cap e hk => by have q1 := hf1 g o len cap e; have q2 := hlt g hk; omega⟩ ⟨hv2, fun _ g o len cap e hk => by have q1 := hf2 g o len cap e; have q2 := hlt g hk; omega⟩
    rw [hX, hPF] at q
    have hba := bel_alloc W (.cells #[.slice oz l.length cz, v2] t)
    refine q.mono fun e W' ⟨a1, a2, a3⟩ => ⟨a1, ⟨(hW.2.trans (Touch.of_below hba)).trans (a3.mono fun _ h => .inl h), _, ?_, a2⟩, touch_kept a3 hlt, a3.size⟩
    simp
    omega
end Go.Proofs.YtbmjablmmlnieaaGreatDoor

namespace Go.Proofs.YtbmjablmmlnieaaGreatDoor
set_option maxRecDepth 20000
open Go.RowKit

/-- What Recover reads of a device. -/
structure RdP (P P1 P2 : PS) (raws : List ByteArray) (masks : List Int) : Prop where
  e1 : (bget P 0).2 = P1
  e2 : (bget P1 1).2 = P2
  er : rawsTo P2 (P2.kept.length / 8) = raws
  em : masksTo P2 (P2.kept.length / 8) = masks
theorem RdP.a1 {P P1 P2 : PS} {raws : List ByteArray} {masks : List Int} (h : RdP P P1 P2 raws masks) : Alike P P1 := by
  have q := jbget_alike P 0
  rw [h.e1] at q
  exact q
theorem RdP.a2 {P P1 P2 : PS} {raws : List ByteArray} {masks : List Int} (h : RdP P P1 P2 raws masks) : Alike P P2 := by
  have q := jbget_alike P1 1
  rw [h.e2] at q
  exact h.a1.trans q
theorem load_blk (B : Nat) {P : PS} {T : VS} {a : Nat} {R : List ByteArray} (hu : P.up = true) (h : Mix P a R) (hR : ∀ r, r ∈ R → r.size = 512) : loadR (idealK B) P T (a : Int) = toldR (idealK B) T (blkOf P a) (a : Int) := by
  have hg := get_blk hu h hR
  unfold loadR
  rw [hg]
  rw [if_pos ⟨rfl, rfl⟩]
theorem look_blk (B : Nat) {P : PS} {T : VS} {a : Nat} {R : List ByteArray} (hu : P.up = true) (h : Mix P a R) (hR : ∀ r, r ∈ R → r.size = 512) : lookR (idealK B) T (rawsTo P (P.kept.length / 8)) (masksTo P (P.kept.length / 8)) (a : Int) = toldR (idealK B) T (blkOf P a) (a : Int) := by
  obtain ⟨h1, h2⟩ := at_blk hu h hR
  unfold lookR
  rw [h1, h2, if_pos rfl]
theorem one_size {r : ByteArray} (h : r.size = 512) : ∀ x, x ∈ [r] → x.size = 512 := fun x hx => by
  rw [List.mem_singleton] at hx
  rw [hx]
  exact h
theorem two_size {r q : ByteArray} (h : r.size = 512) (h2 : q.size = 512) : ∀ x, x ∈ [r, q] → x.size = 512 := fun x hx => by
  rcases List.mem_cons.1 hx with rfl | hx
  · exact h
  · exact one_size h2 x hx

theorem fnP_yes (K : VK) (T : K.σ) (raws : List ByteArray) (masks : List Int) (n : Int) (h : fnB K T raws masks n = true) : fnP K T raws masks n = K.hP T (joinB (fnW K T raws masks n)) := if_pos h
theorem fnP_no (K : VK) (T : K.σ) (raws : List ByteArray) (masks : List Int) (n : Int) (h : fnB K T raws masks n = false) : fnP K T raws masks n = T := if_neg (by rw [h]; decide)
/-- What is found behind the promise. -/
structure NewF (X : Cx) (B : Nat) (T : VS) (raws : List ByteArray) (masks : List Int) : Prop where
  ok : fnOk (idealK B) T raws masks 48 = true
  w : fnW (idealK B) T raws masks 48 = X.new
  s : fnS (idealK B) T raws masks 48 = lawSp 48 2
  p : fnP (idealK B) T raws masks 48 = hashP T (joinB X.new)
theorem new_found {X : Cx} (HX : CxOk X) (B : Nat) {T : VS} {k : Nat} (hV : VSt X T k) {P P1 P2 : PS} {raws : List ByteArray} {masks : List Int} (H : RdP P P1 P2 raws masks) (hu : P.up = true) (hN : NewD X P) : NewF X B T raws masks := by
  have hro := hV.room
  have hu2 : P2.up = true := H.a2.1.trans hu
  have hN2 : NewD X P2 := hN.move fun a R h => h.alike H.a2
  have z2 := hV.p2.size (by omega)
  have hlook : lookR (idealK B) T raws masks 2 = ⟨true, (lawSp 48 2).hdC, X.t2⟩ := by
    have q := look_blk B (T := T) (a := 2) hu2 hN2.m2 (one_size z2)
    rw [H.er, H.em, blk_one hN2.m2 z2] at q
    exact q.trans (sealed_told B hV.p2 (by omega) rfl)
  obtain ⟨b1, b2, b3⟩ := HX.pi2
  have hhd : ∀ (i : Nat) (x : Wt), X.new[i]? = some x → x.raw.size = 512 ∧ (hdOf (x.raw.extract 0 48)).v1 = x.at_ := fun i x hx => by
    obtain ⟨_, _, hd⟩ := togB_all X.new 27 48 HX.tog x (List.mem_of_getElem? hx)
    exact ⟨(of_decide_eq_true hd).1, (of_decide_eq_true hd).2.2⟩
  have hat : ∀ (i : Nat) (x : Wt), X.new[i]? = some x → atS raws masks (3 + (i : Int)) = x.raw ∧ atM raws masks (3 + (i : Int)) = 0 := fun i x hx => by
    have hz := (hhd i x hx).1
    obtain ⟨q1, q2⟩ := at_blk hu2 (hN2.rcs i x hx) (one_size hz)
    rw [H.er, H.em, show ((3 + i : Nat) : Int) = 3 + (i : Int) by omega] at q1 q2
    rw [blk_one (hN2.rcs i x hx) hz] at q1
    exact ⟨q1, q2⟩
  have hw : rcdL raws masks 3 X.new.length = X.new := by
    refine List.ext_getElem? fun i => ?_
    unfold rcdL
    rw [List.getElem?_map]
    by_cases hi : i < X.new.length
    · have hx := List.getElem?_eq_getElem hi
      rw [List.getElem?_range hi, hx]
      show some (rcdW raws masks 3 i) = _
      unfold rcdW
      rw [(hat i _ hx).1, (hhd i _ hx).2]
    · rw [List.getElem?_eq_none (by simpa using hi), List.getElem?_eq_none (by omega)]
      rfl
  have hb : rcdB raws masks 3 X.new.length = true := by
    unfold rcdB
    rw [List.all_eq_true]
    intro i hi
    have hi : i < X.new.length := by simpa using hi
    exact decide_eq_true (hat i _ (List.getElem?_eq_getElem hi)).2
  have eW : fnW (idealK B) T raws masks 48 = X.new := by
    unfold fnW
    rw [hlook, b2, Int.toNat_natCast]
    exact hw
  have eB : fnB (idealK B) T raws masks 48 = true := by
    unfold fnB
    rw [hlook, b1, b2, Int.toNat_natCast, hb, hw, HX.tog]
    rfl
  have eO : fnOk (idealK B) T raws masks 48 = true := by
    unfold fnOk
    rw [eB, eW, hlook, Bool.true_and]
    have hs2 : (idealK B).hS T (joinB X.new) = X.t2.extract 2 34 := hV.hs
    exact decide_eq_true hs2
  refine ⟨eO, eW, ?_, ?_⟩
  · unfold fnS
    rw [if_pos eO, hlook]
    exact b3
  · have q := fnP_yes (idealK B) T raws masks 48 eB
    rw [eW] at q
    exact q
/-- Superblocks in the vault: the readings' records, and that no two blocks are one. -/
theorem cx_unlike {X : Cx} {T : VS} {k : Nat} (hV : VSt X T k) : X.r0 ≠ X.r2 ∧ X.p1 ≠ X.p2 := by
  have hro := hV.room
  constructor
  · intro e
    have q1 := sealed_told 0 (a := 0) hV.s0 (by omega) rfl
    have q2 := sealed_told 0 (a := 0) hV.s2 (by omega) rfl
    rw [e, q2] at q1
    have q3 : (2 : Int) = 0 := congrArg (fun r : Rg => r.h.v6) q1
    exact absurd q3 (by decide)
  · intro e
    have q1 := sealed_told 0 (a := 2) hV.p1 (by omega) rfl
    have q2 := sealed_told 0 (a := 2) hV.p2 (by omega) rfl
    rw [e, q2] at q1
    have q3 : (2 : Int) = 1 := congrArg (fun r : Rg => r.h.v6) q1
    exact absurd q3 (by decide)
theorem vst_fn {X : Cx} {T : VS} {k : Nat} (hV : VSt X T (k + 1)) (B : Nat) (raws : List ByteArray) (masks : List Int) (n : Int) : VSt X (fnP (idealK B) T raws masks n) k := by
  cases hb : fnB (idealK B) T raws masks n with
  | true =>
    have e : fnP (idealK B) T raws masks n = hashP T (joinB (fnW (idealK B) T raws masks n)) := fnP_yes (idealK B) T raws masks n hb
    rw [e]
    exact hV.hash _
  | false =>
    have e : fnP (idealK B) T raws masks n = T := fnP_no (idealK B) T raws masks n hb
    rw [e]
    exact hV.less (by omega)
theorem sup_again (B : Nat) {T : VS} {s : Sp} {r : ByteArray} (he : s.err = 0) (hh : s.hd.err = 0) (h : Sealed T s.hd s.txt r) : supR (idealK B) T s = r := by
  obtain ⟨_, s1, x1⟩ := sup_sealed B T he hh
  rw [x1] at s1
  have s2 := h.add s.hd s.txt
  rw [s1.2.2.2, s2.2.2.2]
theorem fol_wait : ∀ (ls : List (List Wt)) (S : PS), (folP ls S).wait.length ≤ S.wait.length + 8 * total ls
  | [], S => Nat.le_add_right _ _
  | l :: ls, S => by
    have h1 := take_wait l S
    have e : total (l :: ls) = l.length + total ls := rfl
    unfold folP
    split
    · have h2 := fol_wait ls (takeP l S)
      omega
    · omega
theorem ep_12 : (lawSp 48 2).ep = wrap64 ((lawSp 48 1).ep + 1) := by
  show (2 : Int) = wrap64 (1 + 1)
  unfold wrap64
  omega
theorem ep_23 : ¬ (lawSp 48 2).ep = wrap64 ((lawSp 48 2).ep + 1) := by
  show ¬ (2 : Int) = wrap64 (2 + 1)
  unfold wrap64
  omega
theorem ep_11 : ¬ (lawSp 48 1).ep = wrap64 ((lawSp 48 1).ep + 1) := by
  show ¬ (1 : Int) = wrap64 (1 + 1)
  unfold wrap64
  omega
/-- What a Recover of the law is told to do. -/
structure RcO (X : Cx) (B : Nat) (P P' : PS) (T' : VS) (k : Nat) (V : Value) : Prop where
  vst : VSt X T' k
  len : P'.kept.length = 784
  wait : P'.wait.length ≤ 208
  dev : OldD X P' ∨ NewD X P'
  new : NewD X P → NewD X P'
  fine : P.fuse = -1 → P'.up = true ∧ ∃ (n : Int) (s : Sp), V = .tuple #[.agg s.arr, .int .i64 n, .int .i64 0] ∧ ((s = lawSp 48 1 ∧ ¬ NewD X P ∧ BlkIn P' X.old) ∨ (s = lawSp 48 2 ∧ BlkIn P' X.new))
  form : ∃ (s : Sp) (n E : Int), V = .tuple #[.agg s.arr, .int .i64 n, .int .i64 E]
theorem rec_kept {X : Cx} (F : Nat → Prop) (B V : Nat) (P : PS) (T : VS) (k : Nat) (w : World) (h : Duo (idealK V) w F B P T) (hg : ErrT w) (hF : ¬ F 0) (hup : P.up = true) (hl : P.kept.length = 784) (hwt : P.wait = []) (hV : VSt X T (k + 2)) {P1 P2 : PS} {raws : List ByteArray} {masks : List Int} (H : RdP P P1 P2 raws masks) (c : Sp) (r0 : Rg) (er0 : loadR (idealK V) P T 0 = r0) (m1 : Mix P 1 [X.r1]) (hc : chO [r0, aRg1] 48 = some c)
    (hno : fnOk (idealK V) T raws masks 48 = true → ¬ (fnS (idealK V) T raws masks 48).ep = wrap64 (c.ep + 1))
    (hD : OldD X P ∨ NewD X P) (hc2 : (c = lawSp 48 1 ∧ ¬ NewD X P ∧ BlkIn P X.old) ∨ (c = lawSp 48 2 ∧ BlkIn P X.new)) :
    Calls Tryz.prog 22 #[.pointer (some ⟨B, 0, none⟩), .pointer (some ⟨V, 0, none⟩)] w fun e w' => ∃ P' T' R, e = .returned R ∧ Duo (idealK V) w' (grow F w w') B P' T' ∧ Touch F w w' ∧ RcO X V P P' T' k R := by
  have hro := hV.room
  have hr : (idealK V).room T 1 := by
    show T.texts.length + 1 ≤ 1000000 ∧ T.seals.length + 1 ≤ 1000000
    omega
  have z1 := hV.s1.size (by omega)
  have hu1 : P1.up = true := H.a1.1.trans hup
  have hm1 : Mix P1 1 [X.r1] := m1.alike H.a1
  have er1 : loadR (idealK V) P1 T 1 = aRg1 := by
    have q := load_blk V (T := T) (a := 1) hu1 hm1 (one_size z1)
    rw [blk_one hm1 z1] at q
    exact q.trans (sealed_told V hV.s1 (by omega) rfl)
  have a3 : Alike P (stA P2 (P2.kept.length / 8)) := H.a2.trans (stA_alike P2 _)
  have e784 : (((784 : Nat) : Int)) = 784 := rfl
  have q := recover_nil_ (idealK V) (idealOk V) F B P T r0 aRg1 c P1 P2 48 raws masks w h hg hF (by rw [hwt]; decide) hr (ideal_oSize V T (by omega)) (by decide) hup (by rw [hl, e784]; exact ⟨a784.1, a784.2.2⟩) H.e1 H.e2 er0 er1 hc H.er H.em hno
  have hVn := vst_fn (hV.less (m := k + 1) (by omega)) V raws masks 48
  generalize stA P2 (P2.kept.length / 8) = P3 at *
  refine q.mono fun e w' ⟨he, hd, ht⟩ => ⟨P3, _, _, he, ?_, ht, ⟨hVn, ?_, ?_, ?_, ?_, ?_, ⟨c, 0, 0, rfl⟩⟩⟩
  · exact hd.mono (fun _ h => .inl h) fun k hk => by
      rcases hk with hk | hk
      · exact hd.lt k hk
      · exact hk.2
  · rw [a3.2.1]; exact hl
  · rw [a3.2.2.1, hwt]; exact Nat.zero_le _
  · exact hD.imp (fun g => g.move fun a R hm => hm.alike a3) fun g => g.move fun a R hm => hm.alike a3
  · exact fun g => g.move fun a R hm => hm.alike a3
  · intro _
    refine ⟨a3.1.trans hup, 0, c, rfl, ?_⟩
    exact hc2.imp (fun g => ⟨g.1, g.2.1, g.2.2.move fun a R hm => hm.alike a3⟩) fun g => ⟨g.1, g.2.move fun a R hm => hm.alike a3⟩
theorem rec_redo {X : Cx} (HX : CxOk X) (F : Nat → Prop) (B V : Nat) (P : PS) (T : VS) (k : Nat) (w : World) (h : Duo (idealK V) w F B P T) (hg : ErrT w) (hF : ¬ F 0) (hup : P.up = true) (hl : P.kept.length = 784) (hwt : P.wait = []) (hV : VSt X T (k + 2)) {P1 P2 : PS} {raws : List ByteArray} {masks : List Int} (H : RdP P P1 P2 raws masks) (r0 : Rg) (er0 : loadR (idealK V) P T 0 = r0) (hc : chO [r0, aRg1] 48 = some (lawSp 48 1)) (hN : NewD X P) :
    Calls Tryz.prog 22 #[.pointer (some ⟨B, 0, none⟩), .pointer (some ⟨V, 0, none⟩)] w fun e w' => ∃ P' T' R, e = .returned R ∧ Duo (idealK V) w' (grow F w w') B P' T' ∧ Touch F w w' ∧ RcO X V P P' T' k R := by
  have hro := hV.room
  obtain ⟨y1, y2, _⟩ := law_err2 2 (.inr (.inr rfl))
  have hr : (idealK V).room T 1 := by
    show T.texts.length + 1 ≤ 1000000 ∧ T.seals.length + 1 ≤ 1000000
    omega
  have z1 := hV.s1.size (by omega)
  have hu1 : P1.up = true := H.a1.1.trans hup
  have hm1 : Mix P1 1 [X.r1] := hN.m1.alike H.a1
  have er1 : loadR (idealK V) P1 T 1 = aRg1 := by
    have q := load_blk V (T := T) (a := 1) hu1 hm1 (one_size z1)
    rw [blk_one hm1 z1] at q
    exact q.trans (sealed_told V hV.s1 (by omega) rfl)
  have a3 : Alike P (stA P2 (P2.kept.length / 8)) := H.a2.trans (stA_alike P2 _)
  obtain ⟨fo, fw, fs, fp⟩ := new_found HX V hV H hup hN
  have hVn : VSt X (hashP T (joinB X.new)) (k + 1) := hV.hash _
  have hron := hVn.room
  obtain ⟨T2, eT2⟩ : ∃ T2, hashP T (joinB X.new) = T2 := ⟨_, rfl⟩
  rw [eT2] at hVn hron fp
  have hr2 : (idealK V).room T2 1 := by
    show T2.texts.length + 1 ≤ 1000000 ∧ T2.seals.length + 1 ≤ 1000000
    omega
  obtain ⟨x0, _, x1⟩ := sup_sealed V T2 y1 y2
  have hA : supA (lawSp 48 2) = 0 := by unfold supA; rw [if_pos x0]; rfl
  have hR : supR (idealK V) T2 (lawSp 48 2) = X.r2 := sup_again V y1 y2 hVn.s2
  have hVs : VSt X (supP (idealK V) T2 (lawSp 48 2)) k := by rw [x1]; exact hVn.seal _ _
  obtain ⟨P3, e3⟩ : ∃ P3, stA P2 (P2.kept.length / 8) = P3 := ⟨_, rfl⟩
  rw [e3] at a3
  have hN3 : NewD X P3 := hN.move fun a R hm => hm.alike a3
  obtain ⟨f1, f2⟩ := fol_new HX hN3
  have hwl := fol_wait [X.new, [⟨0, X.r2⟩]] P3
  have htt : total [X.new, [⟨0, X.r2⟩]] = X.new.length + (1 + 0) := rfl
  have hll := HX.len
  have hkl := fol_kept [X.new, [⟨0, X.r2⟩]] P3
  have hzr : X.r2.size = 512 := hV.s2.size (by omega)
  have hfi : P.fuse = -1 → folE [X.new, [⟨0, X.r2⟩]] P3 = 0 ∧ Fine (folP [X.new, [⟨0, X.r2⟩]] P3) 784 := fun hf => by
    obtain ⟨q1, q2, _, _⟩ := fol_fine [X.new, [⟨0, X.r2⟩]] (S := P3) (n := 784) ⟨a3.1.trans hup, a3.2.2.2.trans hf, by rw [a3.2.1]; exact hl⟩ (by rw [a3.2.2.1]; exact hwt) (by
      intro l hl x hx
      simp only [List.mem_cons, List.not_mem_nil, or_false] at hl
      rcases hl with rfl | rfl
      · obtain ⟨g1, g2, g3⟩ := togB_all X.new 27 48 HX.tog x hx
        exact ⟨⟨x.at_.toNat, (HX.at_ hx).symm, by omega⟩, (of_decide_eq_true g3).1⟩
      · rw [List.mem_singleton] at hx
        subst hx
        exact ⟨⟨0, rfl, by decide⟩, hzr⟩)
    exact ⟨q1, q2⟩
  obtain ⟨Y, eY⟩ : ∃ Y, folE [X.new, [⟨0, X.r2⟩]] P3 = Y := ⟨_, rfl⟩
  obtain ⟨PF, eP⟩ : ∃ PF, folP [X.new, [⟨0, X.r2⟩]] P3 = PF := ⟨_, rfl⟩
  rw [eP] at f1 f2 hwl hkl hfi
  rw [eY] at f2 hfi
  have e784 : (((784 : Nat) : Int)) = 784 := rfl
  have q := recover_redo (idealK V) (idealOk V) F B P T r0 aRg1 (lawSp 48 1) P1 P2 48 raws masks w h hg hF (by rw [hwt]; decide) hr (ideal_oSize V T (by omega)) (by decide) hup (by rw [hl, e784]; exact ⟨a784.1, a784.2.2⟩) H.e1 H.e2 er0 er1 hc H.er H.em (lawSp 48 2) fs fo ep_12 T2 fp hr2 x0 X.new fw hll Y PF (by rw [hA, hR, e3]; exact eY) (by rw [hA, hR, e3]; exact eP) (by rw [hwt]; decide) (if ansE Y = 0 then .tuple #[.agg (lawSp 48 2).arr, .int .i64 (X.new.length : Nat), .int .i64 0] else .tuple #[.agg Sp.zero.arr, .int .i64 0, .int .i64 (ansE Y)]) (fun h => if_pos h) (fun h => if_neg h)
  refine q.mono fun e w' ⟨he, hd, ht⟩ => ⟨PF, _, _, he, hd, ht, ⟨hVs, ?_, ?_, .inr f1, fun _ => f1, ?_, ?_⟩⟩
  · rw [hkl, a3.2.1]; exact hl
  · rw [a3.2.2.1, hwt, htt] at hwl
    have e0 : ([] : List (Nat × ByteArray)).length = 0 := rfl
    omega
  · intro hf
    obtain ⟨g1, g2⟩ := hfi hf
    refine ⟨g2.up, X.new.length, lawSp 48 2, ?_, .inr ⟨rfl, (f2 g1).2⟩⟩
    rw [g1]
    rfl
  · by_cases e0 : ansE Y = 0
    · exact ⟨_, _, _, if_pos e0⟩
    · exact ⟨_, _, _, if_neg e0⟩
/-- A Recover of the law: what it leaves, and what it tells, if the power does not fail. -/
theorem rec_step {X : Cx} (HX : CxOk X) (F : Nat → Prop) (B V : Nat) (P : PS) (T : VS) (k : Nat) (w : World) (h : Duo (idealK V) w F B P T) (hg : ErrT w) (hF : ¬ F 0) (hup : P.up = true) (hl : P.kept.length = 784) (hwt : P.wait = []) (hD : OldD X P ∨ NewD X P) (hV : VSt X T (k + 2)) :
    Calls Tryz.prog 22 #[.pointer (some ⟨B, 0, none⟩), .pointer (some ⟨V, 0, none⟩)] w fun e w' => ∃ P' T' R, e = .returned R ∧ Duo (idealK V) w' (grow F w w') B P' T' ∧ Touch F w w' ∧ RcO X V P P' T' k R := by
  obtain ⟨P1, e1⟩ : ∃ P1, (bget P 0).2 = P1 := ⟨_, rfl⟩
  obtain ⟨P2, e2⟩ : ∃ P2, (bget P1 1).2 = P2 := ⟨_, rfl⟩
  obtain ⟨raws, er⟩ : ∃ l, rawsTo P2 (P2.kept.length / 8) = l := ⟨_, rfl⟩
  obtain ⟨masks, em⟩ : ∃ l, masksTo P2 (P2.kept.length / 8) = l := ⟨_, rfl⟩
  have H : RdP P P1 P2 raws masks := ⟨e1, e2, er, em⟩
  clear e1 e2 er em
  have hro := hV.room
  have z0 := hV.s0.size (by omega)
  have z2 := hV.s2.size (by omega)
  have y1 := hV.p1.size (by omega)
  have y2 := hV.p2.size (by omega)
  obtain ⟨u1, u2⟩ := cx_unlike hV
  by_cases hN : NewD X P
  · obtain ⟨hz, hsec⟩ := mix_blk hN.m0 (two_size z0 z2)
    have el := load_blk V (T := T) (a := 0) hup hN.m0 (two_size z0 z2)
    obtain ⟨fo, fw, fs, fp⟩ := new_found HX V hV H hup hN
    rcases told_torn V hV.s0 hV.s2 (by omega) hsec 0 rfl rfl with ⟨_, e⟩ | ⟨eb, e⟩ | e
    · exact rec_redo HX F B V P T k w h hg hF hup hl hwt hV H aRg0 (el.trans e) aCho hN
    · have hb : BlkIn P X.new := hN.blk.resolve_left fun m => u1 ((blk_one m z0).symm.trans eb)
      have hc : chO [⟨true, (lawSp 48 2).hd, (lawSp 48 2).txt⟩, aRg1] 48 = some (lawSp 48 2) := by
        have h := cho_two (law_err2 2 (.inr (.inr rfl))).1 (law_err2 1 (.inr (.inl rfl))).1 rfl rfl rfl
        rw [if_neg (by decide)] at h
        exact h
      refine rec_kept F B V P T k w h hg hF hup hl hwt hV H (lawSp 48 2) ⟨true, (lawSp 48 2).hd, (lawSp 48 2).txt⟩ (el.trans e) hN.m1 hc (fun _ => ?_) hD (.inr ⟨rfl, hb⟩)
      rw [fs]
      exact ep_23
    · have hc : chO [Rg.zero, aRg1] 48 = some (lawSp 48 1) := cho_one (law_err2 1 (.inr (.inl rfl))).1 rfl
      exact rec_redo HX F B V P T k w h hg hF hup hl hwt hV H Rg.zero (el.trans e) hc hN
  · have hO := hD.resolve_right hN
    have el : loadR (idealK V) P T 0 = aRg0 := by
      have q := load_blk V (T := T) (a := 0) hup hO.m0 (one_size z0)
      rw [blk_one hO.m0 z0] at q
      exact q.trans (sealed_told V hV.s0 (by omega) rfl)
    have hu2 : P2.up = true := H.a2.1.trans hup
    have hm2 : Mix P2 2 [X.p1, X.p2] := hO.m2.alike H.a2
    have hlk := look_blk V (T := T) (a := 2) hu2 hm2 (two_size y1 y2)
    rw [H.er, H.em, blkOf_alike H.a2] at hlk
    have hlk : lookR (idealK V) T raws masks 2 = toldR (idealK V) T (blkOf P 2) 2 := hlk
    obtain ⟨hz, hsec⟩ := mix_blk hO.m2 (two_size y1 y2)
    refine rec_kept F B V P T k w h hg hF hup hl hwt hV H (lawSp 48 1) aRg0 el hO.m1 aCho (fun hy => ?_) hD (.inl ⟨rfl, hN, hO.blk⟩)
    rcases told_torn V hV.p1 hV.p2 (by omega) hsec 2 rfl rfl with ⟨_, e⟩ | ⟨eb, e⟩ | e
    · have es : fnS (idealK V) T raws masks 48 = lawSp 48 1 := by
        unfold fnS
        rw [if_pos hy, hlk, e]
        exact HX.pi1
      rw [es]
      exact ep_11
    · exfalso
      have ms := blk_solid hO.m2 hwt (two_size y1 y2) eb
      refine hN ⟨hO.m0.more mem_l2, hO.m1, ms, hO.rcs.resolve_left fun m => u2 ((blk_one m y1).symm.trans eb), .inl hO.m0⟩
    · have eb : fnB (idealK V) T raws masks 48 = false := by
        unfold fnB
        rw [hlk, e, piB_zero]
        rfl
      unfold fnOk at hy
      rw [eb] at hy
      cases hy
end Go.Proofs.YtbmjablmmlnieaaGreatDoor
