/- journal's Found at a device and a vault that lie apart, every way. · journal's Recover at a device and a vault that lie apart, where nothing is left to be done, whatever the records are. -/
import Derived.Test.YtbmjablmmlnieaaGreatDoorMg29
import Derived.Test.YtbmjablmmlnieaaGreatDoorMg41
import Derived.Test.YtbmjablmmlnieaaGreatDoorMg40
namespace Go.Proofs.YtbmjablmmlnieaaGreatDoor
set_option maxRecDepth 20000
open Go.RowKit

theorem found_all (K : VK) (HK : VKOk K) (F : Nat → Prop) (T : K.σ) (hr : K.room T 1) (hO : ∀ r, K.oE T r = 0 → (K.oS T r).size = 448) (n q s2 t : Nat) (hn : n ≤ 1024) (oa ob : Option Addr) (ca cb : Nat) (raws : List ByteArray) (masks : List Int) (w : World) (hl : K.lies w F T) (h1 : List1 Value.string w (.slice oa raws.length ca) raws) (h2 : List1 (Value.int .i64) w (.slice ob masks.length cb) masks) :
    Calls Tryz.prog 47 #[K.v, .agg (layA n q s2 t), .agg #[.slice oa raws.length ca, .slice ob masks.length cb]] w fun e w' => FnE K w T raws masks n e w' ∧ K.lies w' F (fnP K T raws masks (n : Int)) ∧ Touch F w w' := by
  by_cases hc : piB (lookR K T raws masks 2) (n : Int) = true ∧ rcdB raws masks 3 (piN (lookR K T raws masks 2) (n : Int)).toNat = true ∧ togB 27 (n : Int) (fnW K T raws masks (n : Int)) = false
  · obtain ⟨hb, hrb, ht⟩ := hc
    have hlook := fun W (hW : Below w.heap.size w W) => klook_any K HK F T (HK.less hr (Nat.zero_le _)) oa ob ca cb raws masks 2 W (HK.below hl hW) (h1.below hW) (h2.below hW)
    rw [lookR_arr] at hlook
    have hpi := fun W => jpri_any (lookR K T raws masks 2) (n : Int) W (lookR_size hO)
    obtain ⟨m, hm⟩ := getN_nat (lookR K T raws masks 2).body 0 2
    have hpn : piN (lookR K T raws masks 2) (n : Int) = (m : Int) := by rw [← hm]; exact if_pos hb
    have hm24 : m ≤ 24 := by
      have := (of_decide_eq_true hb).2.2.1
      rw [hm] at this
      omega
    have hfb : fnB K T raws masks (n : Int) = false := by
      unfold fnB
      unfold fnW at ht
      rw [ht, Bool.and_false]
    have eO : fnOk K T raws masks (n : Int) = false := by unfold fnOk; rw [hfb]; rfl
    have eP : fnP K T raws masks (n : Int) = T := by unfold fnP; rw [if_neg (by rw [hfb]; decide)]
    have eFS : fnS K T raws masks (n : Int) = Sp.zero := by unfold fnS; rw [if_neg (by rw [eO]; decide)]
    have eW : fnW K T raws masks (n : Int) = rcdL raws masks 3 m := by unfold fnW; rw [hpn, Int.toNat_natCast]
    rw [hpn, Int.toNat_natCast] at hrb
    rw [eW] at ht
    have hrcd := fun W (hW : Below w.heap.size w W) => recorded_any n q s2 t oa ob ca cb raws masks m (by omega) W (h1.below hW) (h2.below hW)
    have hlen := rcdL_length raws masks 3 m
    have htog := fun (oz : Option Addr) (cz : Nat) W (hW : Wts W (.slice oz (rcdL raws masks 3 m).length cz) (rcdL raws masks 3 m)) => together_any n q s2 t _ _ W hW (by omega) hn
    rw [ht] at htog
    have HF := found_tno K.v n q s2 t oa ob ca cb raws masks (lookR K T raws masks 2).ok (lookR K T raws masks 2).h (lookR K T raws masks 2).body m (piS (lookR K T raws masks 2) (n : Int)).vol (piS (lookR K T raws masks 2) (n : Int)).ep (piS (lookR K T raws masks 2) (n : Int)).nx (piS (lookR K T raws masks 2) (n : Int)).lv (piS (lookR K T raws masks 2) (n : Int)).root w hlook (fun W => by
        have := hpi W
        rw [hpn, hb] at this
        exact this) (rcdL raws masks 3 m) (fun W hW => (hrcd W hW).mono fun e w' ⟨v', he, hy, _, hbb⟩ => by
        have hz := hy hrb
        obtain ⟨oz, cz, rfl⟩ := hz.form
        exact ⟨oz, cz, by rw [he, hrb], hz, hbb⟩) htog
    refine HF.mono fun e w' ⟨he, hbb⟩ => ⟨⟨_, by rw [eFS, eO]; exact he, fun h => by rw [eO] at h; cases h⟩, ?_, Touch.of_below hbb⟩
    rw [eP]
    exact HK.below hl hbb
  · exact found_lies K HK F T hr hO n q s2 t hn oa ob ca cb raws masks w hl h1 h2 fun a b => by
      cases ht : togB 27 (n : Int) (fnW K T raws masks (n : Int)) with
      | true => rfl
      | false => exact absurd ⟨a, b, ht⟩ hc
end Go.Proofs.YtbmjablmmlnieaaGreatDoor

namespace Go.Proofs.YtbmjablmmlnieaaGreatDoor
set_option maxRecDepth 20000
open Go.RowKit

/-- Recover of any device and vault that lie apart, where nothing is left to be done, whatever the records are. -/
theorem recover_nil_ (K : VK) (HK : VKOk K) (F : Nat → Prop) (B : Nat) (P : PS) (T : K.σ) (r0 r1 : Rg) (c : Sp) (P1 P2 : PS) (n : Nat) (raws : List ByteArray) (masks : List Int) (w : World) (h : Duo K w F B P T) (hg : ErrT w) (hF : ¬ F 0) (hw : P.wait.length ≤ 1000000) (hr : K.room T 1) (hO : ∀ r, K.oE T r = 0 → (K.oS T r).size = 448) (hn : n ≤ 1024)
    (hup : P.up = true) (hlo : loE (P.kept.length : Nat) = 0 ∧ loA (P.kept.length : Nat) = layA n (layQ n) (layS n) (layT n)) (e1 : (bget P 0).2 = P1) (e2 : (bget P1 1).2 = P2) (er0 : loadR K P T 0 = r0) (er1 : loadR K P1 T 1 = r1) (hc : chO [r0, r1] (n : Int) = some c) (era : rawsTo P2 (P2.kept.length / 8) = raws) (erm : masksTo P2 (P2.kept.length / 8) = masks)
    (hno : fnOk K T raws masks (n : Int) = true → ¬ (fnS K T raws masks (n : Int)).ep = wrap64 (c.ep + 1)) :
    Calls Tryz.prog 22 #[.pointer (some ⟨B, 0, none⟩), K.v] w fun e w' => e = .returned (.tuple #[.agg c.arr, .int .i64 0, .int .i64 0]) ∧ Duo K w' F B (stA P2 (P2.kept.length / 8)) (fnP K T raws masks (n : Int)) ∧ Touch F w w' := by
  have hlt := h.lt
  have k1 : Alike P P1 := by rw [← e1]; exact jbget_alike P 0
  have k2 : Alike P1 P2 := by rw [← e2]; exact jbget_alike P1 1
  have hw1 : P1.wait.length ≤ 1000000 := by rw [k1.2.2.1]; exact hw
  have hw2 : P2.wait.length ≤ 1000000 := by rw [k2.2.2.1]; exact hw1
  have hl : raws.length = P2.kept.length / 8 ∧ masks.length = P2.kept.length / 8 := ⟨by rw [← era]; exact rawsTo_length _ _, by rw [← erm]; exact masksTo_length _ _⟩
  have hlays : ∀ W, Below w.heap.size w W → Calls Tryz.prog 27 #[.pointer (some ⟨B, 0, none⟩)] W fun e W' => e = .returned (.tuple #[.agg (layA n (layQ n) (layS n) (layT n)), .int .i64 0]) ∧ Below W.heap.size W W' := fun W hW => by
    have q := layoutOf_any (.pointer (some ⟨B, 0, none⟩)) (P.kept.length : Nat) W fun W2 h2 => ((h.below HK hW).below HK h2).sectors
    rw [hlo.1, hlo.2] at q
    exact q
  have hload : ∀ (Pa : PS) (a : Int) W, Pa.wait.length ≤ 1000000 → Duo K W F B Pa T → ErrT W → Calls Tryz.prog 46 #[.pointer (some ⟨B, 0, none⟩), K.v, .int .i64 a] W fun e W' => e = .returned (.agg (loadR K Pa T a).arr) ∧ Duo K W' F B (bget Pa a).2 T ∧ Touch F W W' := fun Pa a W hwa hd hgW => by
    obtain ⟨F1, F2, hd⟩ := hd
    have q := kload_any K HK B F1 F2 Pa T a W hd.plate hwa hgW (fun hk => hF (hd.in1 _ hk)) hd.vault (HK.less hr (Nat.zero_le _)) (fun k h2 h1 => hd.apart k h1 h2) (fun k hk => hd.lt k (hd.in1 k hk))
    refine q.mono fun e W' ⟨he, hp, ht⟩ => ⟨?_, ⟨F1, F2, hp, HK.keep hd.vault fun k hk hF2 => ht.2 k hk fun h1 => hd.apart k h1 hF2, hd.apart, hd.in1, hd.in2, fun k hk => Nat.lt_of_lt_of_le (hd.lt k hk) ht.size⟩, ht.mono hd.in1⟩
    rw [he]
    unfold loadK loadR Rg.arr
    by_cases q1 : (bget Pa a).1.2.2 = 0 ∧ (bget Pa a).1.2.1 = 0
    · rw [if_pos q1]
      unfold toldR
      by_cases q2 : K.oE T (bget Pa a).1.1 = 0 ∧ (K.oH T (bget Pa a).1.1).v1 = a
      · rw [if_pos q2, if_pos ⟨q1.1, q1.2, q2.1, q2.2⟩]
      · rw [if_neg q2, if_neg fun q => q2 ⟨q.2.2.1, q.2.2.2⟩]
        rfl
    · rw [if_neg q1, if_neg fun q => q1 ⟨q.1, q.2.1⟩]
      rfl
  have hgt : ∀ W, Touch F w W → ErrT W := fun W ht => hg.touch ht hF
  refine (recover_kept (.pointer (some ⟨B, 0, none⟩)) K.v n (layQ n) (layS n) (layT n) r0 r1 c (fnS K T raws masks (n : Int)) (fnOk K T raws masks (n : Int)) raws masks w (fun W => Duo K W F B P1 T ∧ Touch F w W) (fun W => Duo K W F B P2 T ∧ Touch F w W) (fun W => Duo K W F B (stA P2 (P2.kept.length / 8)) T ∧ Touch F w W) (fun W => Duo K W F B (stA P2 (P2.kept.length / 8)) (fnP K T raws masks (n : Int)) ∧ Touch F w W) (duo_stb HK hlt) (duo_stb HK hlt) (duo_stb HK hlt) (duo_stb HK hlt) (fun W hW => by have q := (h.below HK hW).up; rw [hup] at q; exact q) hlays ?_ ?_ ?_ ?_ ?_ hno).mono fun e w' ⟨he, hq⟩ => ⟨he, hq⟩
  · intro W hW
    have ht := Touch.of_below (F := F) hW
    have q := hload P 0 W hw (h.below HK hW) (hgt W ht)
    rw [er0, e1] at q
    exact q.mono fun e W' ⟨a1, a2, a3⟩ => ⟨a1, ⟨a2, ht.trans (a3.mono fun _ h => .inl h)⟩, touch_kept a3 hlt, a3.size⟩
  · intro W hW _
    have q := hload P1 1 W hw1 hW.1 (hgt W hW.2)
    rw [er1, e2] at q
    exact q.mono fun e W' ⟨a1, a2, a3⟩ => ⟨a1, ⟨a2, hW.2.trans (a3.mono fun _ h => .inl h)⟩, touch_kept a3 hlt, a3.size⟩
  · intro v' W hv
    have q := jcho_any v' [r0, r1] (n : Int) W hv
    rw [hc] at q
    exact q
  · intro W hW _
    obtain ⟨F1, F2, hd⟩ := hW.1
    refine (all_any B F1 P2 W hd.plate hw2 (hgt W hW.2) (fun hk => hF (hd.in1 _ hk)) (fun k hk => hd.lt k (hd.in1 k hk))).mono fun e W' ⟨oa, ca, ob, cb, he, ⟨M, hm⟩, hp, ht⟩ => ⟨oa, ca, ob, cb, ?_, ?_, ?_, ⟨⟨F1, F2, hp, HK.keep hd.vault fun k hk hF2 => ht.2 k hk fun h1 => hd.apart k h1 hF2, hd.apart, hd.in1, hd.in2, fun k hk => Nat.lt_of_lt_of_le (hd.lt k hk) ht.size⟩, hW.2.trans (ht.mono fun k hk => .inl (hd.in1 k hk))⟩, touch_kept (ht.mono hd.in1) hlt, ht.size⟩
    · rw [he, hl.1, hl.2]
    · rw [era, erm] at hm
      rw [hl.1]
      exact (jviews hm).1
    · rw [era, erm] at hm
      rw [hl.2]
      exact (jviews hm).2
  · intro oa ca ob cb W hW _ h1 h2
    refine (hW.1.vaultW (E := FnE K W T raws masks n) fun F2 hl2 _ => found_all K HK F2 T hr hO n (layQ n) (layS n) (layT n) hn oa ob ca cb raws masks W hl2 h1 h2).mono fun e W' ⟨⟨v', he, _⟩, hd, ht⟩ => ⟨v', he, ⟨hd, hW.2.trans (ht.mono fun _ h => .inl h)⟩, touch_kept ht hlt, ht.size⟩
end Go.Proofs.YtbmjablmmlnieaaGreatDoor
