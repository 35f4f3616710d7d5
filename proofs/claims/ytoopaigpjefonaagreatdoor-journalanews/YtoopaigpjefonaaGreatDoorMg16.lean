/- journal's Found at a device and a vault that lie apart. · A device behind block's Put, read by Get: arithmetic; nothing of the program's calls. · A device behind block's Put, flushed, and spoilt: arithmetic; nothing of the program's calls. · A device whose power does not fail: which block is seen where; arithmetic, nothing of the program's calls. · journal's promise over any vault that is told. -/
import Derived.Test.YtoopaigpjefonaaGreatDoorMg14
import Derived.Test.YtoopaigpjefonaaGreatDoorMg15
import Derived.Test.YtoopaigpjefonaaGreatDoorMg08
import Derived.Test.YtoopaigpjefonaaGreatDoorMg09
import Derived.Test.YtoopaigpjefonaaGreatDoorMg12
import Derived.Test.YtoopaigpjefonaaGreatDoorMg13
import Derived.BigQuiet
import Derived.Deep.RegionHeld3
namespace Go.Proofs.YtoopaigpjefonaaGreatDoor
set_option maxRecDepth 20000
open Go.RowKit

theorem ideal_oSize (B : Nat) (S : VS) (hl : S.seals.length ≤ 1000000) (r : ByteArray) (h : (idealK B).oE S r = 0) : ((idealK B).oS S r).size = 448 := by
  obtain ⟨hd, s, e, hs, hn, rfl⟩ := (bopen_iff S r hl).1 h
  obtain ⟨_, _, h3⟩ := bopen_blk S hd s hl e hs hn
  show (bopenS S _).size = 448
  rw [h3]
  exact hs
theorem lookR_size {K : VK} {S : K.σ} {raws : List ByteArray} {masks : List Int} {a : Int} (hO : ∀ r, K.oE S r = 0 → (K.oS S r).size = 448) (h : (lookR K S raws masks a).ok = true) : (lookR K S raws masks a).body.size = 448 := by
  unfold lookR at h ⊢
  split at h
  · next hm =>
    rw [if_pos hm]
    unfold toldR at h ⊢
    split at h
    · next hc =>
      rw [if_pos hc]
      exact hO _ hc.1
    · cases h
  · cases h
theorem Duo.vaultW {K : VK} {w : World} {F : Nat → Prop} {B : Nat} {P : PS} {S : K.σ} (h : Duo K w F B P S) {f : FuncId} {args : Array Value} {E : Ending → World → Prop} {S' : K.σ}
    (hc : ∀ F2, K.lies w F2 S → (∀ k, F2 k → F k) → Calls Tryz.prog f args w fun e w' => E e w' ∧ K.lies w' F2 S' ∧ Touch F2 w w') :
    Calls Tryz.prog f args w fun e w' => E e w' ∧ Duo K w' F B P S' ∧ Touch F w w' := by
  obtain ⟨F1, F2, h⟩ := h
  exact (hc F2 h.vault h.in2).mono fun e w' ⟨he, hp, ht⟩ => ⟨he, ⟨F1, F2, h.plate.keep fun k hk hF => ht.2 k hk (h.apart k hF), hp, h.apart, h.in1, h.in2, fun k hF => Nat.lt_of_lt_of_le (h.lt k hF) ht.size⟩, ht.mono h.in2⟩
/-- The superblock that Found tells. -/
def fnS (K : VK) (T : K.σ) (raws : List ByteArray) (masks : List Int) (n : Int) : Sp := if fnOk K T raws masks n then piS (lookR K T raws masks 2) n else Sp.zero
theorem getN_nat (s : ByteArray) (a k : Int) : ∃ m : Nat, getN s a k = (m : Int) := by
  unfold getN
  split
  · exact ⟨_, (Int.toNat_of_nonneg (leVal_nonneg _)).symm⟩
  · exact ⟨0, rfl⟩
theorem rcdL_sizes (raws : List ByteArray) (masks : List Int) (log : Int) (n : Nat) : ∀ x ∈ rcdL raws masks log n, x.raw.size ≤ 512 := by
  intro x hx
  unfold rcdL at hx
  obtain ⟨i, _, rfl⟩ := List.mem_map.1 hx
  exact Nat.le_of_eq (atS_size _ _ _)
/-- What Found ends in. -/
def FnE (K : VK) (w : World) (T : K.σ) (raws : List ByteArray) (masks : List Int) (n : Nat) (e : Ending) (w' : World) : Prop := ∃ v', e = .returned (.tuple #[v', .agg (fnS K T raws masks (n : Int)).arr, .bool (fnOk K T raws masks (n : Int))]) ∧ (fnOk K T raws masks (n : Int) = true → Wts w' v' (fnW K T raws masks (n : Int)) ∧ ∀ g o len cap, v' = .slice (some ⟨g, o, none⟩) len cap → w.heap.size ≤ g ∧ g < w'.heap.size)
theorem found_lies (K : VK) (HK : VKOk K) (F : Nat → Prop) (T : K.σ) (hr : K.room T 1) (hO : ∀ r, K.oE T r = 0 → (K.oS T r).size = 448) (n q s2 t : Nat) (hn : n ≤ 1024) (oa ob : Option Addr) (ca cb : Nat) (raws : List ByteArray) (masks : List Int) (w : World) (hl : K.lies w F T) (h1 : List1 Value.string w (.slice oa raws.length ca) raws) (h2 : List1 (Value.int .i64) w (.slice ob masks.length cb) masks)
    (hway : piB (lookR K T raws masks 2) (n : Int) = true → rcdB raws masks 3 (piN (lookR K T raws masks 2) (n : Int)).toNat = true → togB 27 (n : Int) (fnW K T raws masks (n : Int)) = true) :
    Calls Tryz.prog 61 #[K.v, .agg (layA n q s2 t), .agg #[.slice oa raws.length ca, .slice ob masks.length cb]] w fun e w' => FnE K w T raws masks n e w' ∧ K.lies w' F (fnP K T raws masks (n : Int)) ∧ Touch F w w' := by
  have hlook := fun W (hW : Below w.heap.size w W) => klook_any K HK F T (HK.less hr (Nat.zero_le _)) oa ob ca cb raws masks 2 W (HK.below hl hW) (h1.below hW) (h2.below hW)
  rw [lookR_arr] at hlook
  have hpi := fun W => jpri_any (lookR K T raws masks 2) (n : Int) W (lookR_size hO)
  have hbs := lookR_size hO (a := 2) (raws := raws) (masks := masks)
  by_cases hb : piB (lookR K T raws masks 2) (n : Int) = true
  · obtain ⟨m, hm⟩ := getN_nat (lookR K T raws masks 2).body 0 2
    have hpn : piN (lookR K T raws masks 2) (n : Int) = (m : Int) := by rw [← hm]; exact if_pos hb
    have hyes : (lookR K T raws masks 2).ok = true ∧ (m : Int) ≤ 24 := by
      have := of_decide_eq_true hb
      exact ⟨this.1, hm ▸ this.2.2.1⟩
    have hm24 : m ≤ 24 := by omega
    have hrcd := fun W (hW : Below w.heap.size w W) => recorded_any n q s2 t oa ob ca cb raws masks m (by omega) W (h1.below hW) (h2.below hW)
    have eW : fnW K T raws masks (n : Int) = rcdL raws masks 3 m := by unfold fnW; rw [hpn, Int.toNat_natCast]
    rw [hpn, Int.toNat_natCast, eW] at hway
    have eS : piS (lookR K T raws masks 2) (n : Int) = piS (lookR K T raws masks 2) (n : Int) := rfl
    by_cases hrb : rcdB raws masks 3 m = true
    · have ht := hway hb hrb
      have hfb : fnB K T raws masks (n : Int) = true := by
        unfold fnB
        rw [hpn, Int.toNat_natCast, hb, hrb, ht]
        rfl
      have eP : fnP K T raws masks (n : Int) = K.hP T (joinB (rcdL raws masks 3 m)) := by unfold fnP; rw [if_pos hfb, eW]
      have eO : fnOk K T raws masks (n : Int) = decide (K.hS T (joinB (rcdL raws masks 3 m)) = (lookR K T raws masks 2).body.extract 2 34) := by
        unfold fnOk
        rw [hfb, eW]
        rfl
      have hlen := rcdL_length raws masks 3 m
      have hsz := rcdL_sizes raws masks 3 m
      have hjl := joinB_le _ hsz
      have hjs := joinB_size (rcdL raws masks 3 m)
      have hbody := hbs hyes.1
      have htog := fun (oz : Option Addr) (cz : Nat) W (hW : Wts W (.slice oz (rcdL raws masks 3 m).length cz) (rcdL raws masks 3 m)) => together_any n q s2 t _ _ W hW (by omega) hn
      rw [ht] at htog
      have hjoin := fun (oz : Option Addr) (cz : Nat) W (hW : Wts W (.slice oz (rcdL raws masks 3 m).length cz) (rcdL raws masks 3 m)) => joined_any _ _ W hW (by omega) hsz
      have hvo : ∀ W, Below w.heap.size w W → VOut K F w T W := fun W hW => VOut.start HK hl hW
      have hhash := fun W (hW : Below w.heap.size w W) => VOut.hash HK (joinB (rcdL raws masks 3 m)) (by omega) hr (hvo W hW)
      have eFS : fnS K T raws masks (n : Int) = if K.hS T (joinB (rcdL raws masks 3 m)) = (lookR K T raws masks 2).body.extract 2 34 then piS (lookR K T raws masks 2) (n : Int) else Sp.zero := by
        unfold fnS
        rw [eO]
        by_cases h : K.hS T (joinB (rcdL raws masks 3 m)) = (lookR K T raws masks 2).body.extract 2 34
        · rw [if_pos h, if_pos (decide_eq_true h)]
        · rw [if_neg h, if_neg (by simpa using h)]
      have HF := found_yes K.v n q s2 t oa ob ca cb raws masks (lookR K T raws masks 2).ok (lookR K T raws masks 2).h (lookR K T raws masks 2).body m (piS (lookR K T raws masks 2) (n : Int)).vol (piS (lookR K T raws masks 2) (n : Int)).ep (piS (lookR K T raws masks 2) (n : Int)).nx (piS (lookR K T raws masks 2) (n : Int)).lv (piS (lookR K T raws masks 2) (n : Int)).root w hlook (fun W => by
          have := hpi W
          rw [hpn, hb] at this
          exact this) (rcdL raws masks 3 m) (joinB (rcdL raws masks 3 m)) (K.hS T (joinB (rcdL raws masks 3 m))) ((lookR K T raws masks 2).body.extract 2 34) (fnS K T raws masks (n : Int)).arr (fnOk K T raws masks (n : Int)) rfl (fun h => ⟨by rw [eFS, if_pos h]; rfl, by rw [eO]; exact decide_eq_true h⟩) (fun h => ⟨by rw [eFS, if_neg h]; rfl, by rw [eO]; exact decide_eq_false h⟩) (VOut K F w (K.hP T (joinB (rcdL raws masks 3 m)))) (VOut.stb HK) hbody (fun W hW => (hrcd W hW).mono fun e w' ⟨v', he, hy, _, hbb⟩ => by
          have hz := hy hrb
          obtain ⟨oz, cz, rfl⟩ := hz.form
          exact ⟨oz, cz, by rw [he, hrb], hz, hbb⟩) htog hjoin hhash
      refine HF.mono fun e w' ⟨v', he, hp, hw⟩ => ⟨⟨v', he, fun h => by rw [eW]; exact hw h⟩, ?_, hp.2⟩
      rw [eP]
      exact hp.lies HK
    · have hrb' : rcdB raws masks 3 m = false := Bool.eq_false_iff.2 hrb
      have hfb : fnB K T raws masks (n : Int) = false := by
        unfold fnB
        rw [hpn, Int.toNat_natCast, hrb', Bool.and_false, Bool.false_and]
      have eO : fnOk K T raws masks (n : Int) = false := by unfold fnOk; rw [hfb]; rfl
      have eP : fnP K T raws masks (n : Int) = T := by unfold fnP; rw [if_neg (by rw [hfb]; decide)]
      have eFS : fnS K T raws masks (n : Int) = Sp.zero := by unfold fnS; rw [if_neg (by rw [eO]; decide)]
      have HF := found_rno K.v n q s2 t oa ob ca cb raws masks (lookR K T raws masks 2).ok (lookR K T raws masks 2).h (lookR K T raws masks 2).body m (piS (lookR K T raws masks 2) (n : Int)).vol (piS (lookR K T raws masks 2) (n : Int)).ep (piS (lookR K T raws masks 2) (n : Int)).nx (piS (lookR K T raws masks 2) (n : Int)).lv (piS (lookR K T raws masks 2) (n : Int)).root w hlook (fun W => by
          have := hpi W
          rw [hpn, hb] at this
          exact this) (fun W hW => (hrcd W hW).mono fun e w' ⟨v', he, _, hv, hbb⟩ => by
          obtain rfl := hv hrb'
          exact ⟨by rw [he, hrb'], hbb⟩)
      refine HF.mono fun e w' ⟨he, hbb⟩ => ⟨⟨_, by rw [eFS, eO]; exact he, fun h => by rw [eO] at h; cases h⟩, ?_, Touch.of_below hbb⟩
      rw [eP]
      exact HK.below hl hbb
  · have hb' : piB (lookR K T raws masks 2) (n : Int) = false := Bool.eq_false_iff.2 hb
    have hfb : fnB K T raws masks (n : Int) = false := by
      unfold fnB
      rw [hb', Bool.false_and, Bool.false_and]
    have eO : fnOk K T raws masks (n : Int) = false := by unfold fnOk; rw [hfb]; rfl
    have eP : fnP K T raws masks (n : Int) = T := by unfold fnP; rw [if_neg (by rw [hfb]; decide)]
    have eFS : fnS K T raws masks (n : Int) = Sp.zero := by unfold fnS; rw [if_neg (by rw [eO]; decide)]
    have HF := found_pno K.v n q s2 t oa ob ca cb raws masks (lookR K T raws masks 2).ok (lookR K T raws masks 2).h (lookR K T raws masks 2).body (piN (lookR K T raws masks 2) (n : Int)) (piS (lookR K T raws masks 2) (n : Int)) w hlook (fun W => by
        have := hpi W
        rw [hb'] at this
        exact this)
    refine HF.mono fun e w' ⟨he, hbb⟩ => ⟨⟨_, by rw [eFS, eO]; exact he, fun h => by rw [eO] at h; cases h⟩, ?_, Touch.of_below hbb⟩
    rw [eP]
    exact HK.below hl hbb
theorem found_duo (K : VK) (HK : VKOk K) (F : Nat → Prop) (B : Nat) (P : PS) (T : K.σ) (hr : K.room T 1) (hO : ∀ r, K.oE T r = 0 → (K.oS T r).size = 448) (n q s2 t : Nat) (hn : n ≤ 1024) (oa ob : Option Addr) (ca cb : Nat) (raws : List ByteArray) (masks : List Int) (w : World) (h : Duo K w F B P T) (h1 : List1 Value.string w (.slice oa raws.length ca) raws) (h2 : List1 (Value.int .i64) w (.slice ob masks.length cb) masks)
    (hway : piB (lookR K T raws masks 2) (n : Int) = true → rcdB raws masks 3 (piN (lookR K T raws masks 2) (n : Int)).toNat = true → togB 27 (n : Int) (fnW K T raws masks (n : Int)) = true) :
    Calls Tryz.prog 61 #[K.v, .agg (layA n q s2 t), .agg #[.slice oa raws.length ca, .slice ob masks.length cb]] w fun e w' => FnE K w T raws masks n e w' ∧ Duo K w' F B P (fnP K T raws masks (n : Int)) ∧ Touch F w w' :=
  h.vaultW (E := FnE K w T raws masks n) fun F2 hl _ => found_lies K HK F2 T hr hO n q s2 t hn oa ob ca cb raws masks w hl h1 h2 hway
end Go.Proofs.YtoopaigpjefonaaGreatDoor

namespace Go.Proofs.YtoopaigpjefonaaGreatDoor
set_option maxRecDepth 20000
open Go.RowKit

theorem readP_same (S : PS) (x y : Int) : readE (readP S x) y = readE S y ∧ readS (readP S x) y = readS S y ∧ (readP S x).up = S.up ∧ (readP S x).kept = S.kept ∧ (readP S x).wait = S.wait := by
  unfold readP
  split
  · split
    · exact ⟨rfl, rfl, rfl, rfl, rfl⟩
    · exact ⟨rfl, rfl, rfl, rfl, rfl⟩
  · exact ⟨rfl, rfl, rfl, rfl, rfl⟩
/-- Two devices that are read alike. -/
def Alike (S S' : PS) : Prop := S'.up = S.up ∧ S'.kept = S.kept ∧ S'.wait = S.wait ∧ S'.fuse = S.fuse
theorem readP_alike (S : PS) (x : Int) : Alike S (readP S x) := by
  unfold readP
  split
  · split
    · exact ⟨rfl, rfl, rfl, rfl⟩
    · exact ⟨rfl, rfl, rfl, rfl⟩
  · exact ⟨rfl, rfl, rfl, rfl⟩
theorem Alike.trans {S S1 S2 : PS} (h : Alike S S1) (k : Alike S1 S2) : Alike S S2 := ⟨k.1.trans h.1, k.2.1.trans h.2.1, k.2.2.1.trans h.2.2.1, k.2.2.2.trans h.2.2.2⟩
theorem Alike.reads {S S' : PS} (h : Alike S S') (x : Int) : readE S' x = readE S x ∧ readS S' x = readS S x := by
  obtain ⟨h1, h2, h3, _⟩ := h
  unfold readE readS heldE heldS keptS hasB
  rw [h1, h2, h3]
  exact ⟨rfl, rfl⟩
/-- Whatever is read: the device stays alike. -/
theorem getGo_alike (a : Nat) : ∀ (n j : Nat) (S : PS) (t : ByteArray) (m : Nat), Alike S (getGo a n j S t m).2
  | 0, _, _, _, _ => ⟨rfl, rfl, rfl, rfl⟩
  | n + 1, j, S, t, m => by
    unfold getGo
    split
    · exact (readP_alike S _).trans (getGo_alike a n _ _ _ _)
    · split
      · exact (readP_alike S _).trans (getGo_alike a n _ _ _ _)
      · exact readP_alike S _
theorem sec_join (r : ByteArray) (j n : Nat) : secS r j ++ r.extract (64 * (j + 1)) (64 * (j + 1 + n)) = r.extract (64 * j) (64 * (j + (n + 1))) := by
  unfold secS
  rw [show 64 * j + 64 = 64 * (j + 1) by omega, show 64 * (j + 1 + n) = 64 * (j + (n + 1)) by omega, ByteArray.extract_append_extract, Nat.min_eq_left (by omega), Nat.max_eq_right (by omega)]
/-- All sectors can be read. -/
theorem getGo_all (a : Nat) (r : ByteArray) : ∀ (n j : Nat) (S : PS) (t : ByteArray) (m : Nat), (∀ i, j ≤ i → i < j + n → readE S ((8 * a + i : Nat) : Int) = 0 ∧ readS S ((8 * a + i : Nat) : Int) = secS r i) → (getGo a n j S t m).1 = (t ++ r.extract (64 * j) (64 * (j + n)), m, 0)
  | 0, j, S, t, m, _ => by
    simp [getGo]
  | n + 1, j, S, t, m, h => by
    obtain ⟨h1, h2⟩ := h j (Nat.le_refl _) (by omega)
    unfold getGo
    rw [if_pos h1, getGo_all a r n (j + 1) _ _ _ fun i hi hn => by
      obtain ⟨q1, q2⟩ := (readP_alike S ((8 * a + j : Nat) : Int)).reads ((8 * a + i : Nat) : Int)
      rw [q1, q2]
      exact h i (by omega) (by omega), h2, ByteArray.append_assoc, sec_join]
/-- One can't: the number is not 0. -/
theorem getGo_mask (a : Nat) : ∀ (n j : Nat) (S : PS) (t : ByteArray) (m : Nat), (∀ i, j ≤ i → i < j + n → readE S ((8 * a + i : Nat) : Int) = 0 ∨ readE S ((8 * a + i : Nat) : Int) = 21) → m ≤ (getGo a n j S t m).1.2.1 ∧ (getGo a n j S t m).1.2.2 = 0 ∧ ((∃ i, j ≤ i ∧ i < j + n ∧ readE S ((8 * a + i : Nat) : Int) = 21) → 0 < (getGo a n j S t m).1.2.1)
  | 0, j, S, t, m, _ => ⟨Nat.le_refl _, rfl, fun ⟨i, h1, h2, _⟩ => by omega⟩
  | n + 1, j, S, t, m, h => by
    have hk : ∀ i, j + 1 ≤ i → i < j + 1 + n → readE (readP S ((8 * a + j : Nat) : Int)) ((8 * a + i : Nat) : Int) = 0 ∨ readE (readP S ((8 * a + j : Nat) : Int)) ((8 * a + i : Nat) : Int) = 21 := fun i hi hn => by
      rw [((readP_alike S ((8 * a + j : Nat) : Int)).reads ((8 * a + i : Nat) : Int)).1]
      exact h i (by omega) (by omega)
    unfold getGo
    by_cases h0 : readE S ((8 * a + j : Nat) : Int) = 0
    · rw [if_pos h0]
      obtain ⟨q1, q2, q3⟩ := getGo_mask a n (j + 1) (readP S ((8 * a + j : Nat) : Int)) (t ++ readS S ((8 * a + j : Nat) : Int)) m hk
      refine ⟨q1, q2, fun ⟨i, h1, h2, h3⟩ => q3 ⟨i, ?_, by omega, ?_⟩⟩
      · by_cases e : i = j
        · subst e; omega
        · omega
      · rw [((readP_alike S ((8 * a + j : Nat) : Int)).reads ((8 * a + i : Nat) : Int)).1]
        exact h3
    · have h21 : readE S ((8 * a + j : Nat) : Int) = 21 := (h j (Nat.le_refl _) (by omega)).resolve_left h0
      rw [if_neg h0, if_pos h21]
      obtain ⟨q1, q2, _⟩ := getGo_mask a n (j + 1) (readP S ((8 * a + j : Nat) : Int)) (t ++ fillS 0 64) (m + 2 ^ j) hk
      have hp : 0 < 2 ^ j := Nat.two_pow_pos j
      exact ⟨by omega, q2, fun _ => by omega⟩
/-- The sectors of a block as writes. -/
def secsW (r : ByteArray) (a j : Nat) : Nat → List (Nat × ByteArray)
  | 0 => []
  | n + 1 => (8 * a + j, secS r j) :: secsW r a (j + 1) n
theorem putGo_all (r : ByteArray) (a : Nat) (hr : r.size = 512) : ∀ (n j : Nat) (S : PS), j + n ≤ 8 → S.up = true → S.fuse = -1 → 8 * a + 8 ≤ S.kept.length → ∃ w', putGo r a n j S = (0, { S with writes := w', wait := S.wait ++ secsW r a j n })
  | 0, j, S, _, _, _, _ => ⟨S.writes, by simp [putGo, secsW]⟩
  | n + 1, j, S, hj, hu, hf, hk => by
    have hs : (secS r j).size = 64 := by simp [secS, hr]; omega
    have hh : hasB S ((8 * a + j : Nat) : Int) = true := by simp [hasB]; omega
    have hE : writeE S ((8 * a + j : Nat) : Int) (secS r j) = 0 := by
      unfold writeE
      rw [if_pos hs, if_pos hu, if_pos hh, if_neg (by rw [hf]; decide)]
    have hP : writeP S ((8 * a + j : Nat) : Int) (secS r j) = { S with writes := wrap64 (S.writes + 1), wait := S.wait ++ [(8 * a + j, secS r j)] } := by
      simp only [writeP, hs, if_true, hu, hh, hf, Int.toNat_natCast]
      simp
    unfold putGo
    rw [if_pos hE, hP]
    obtain ⟨w', h'⟩ := putGo_all r a hr n (j + 1) { S with writes := wrap64 (S.writes + 1), wait := S.wait ++ [(8 * a + j, secS r j)] } (by omega) hu hf hk
    refine ⟨w', ?_⟩
    rw [h']
    simp [secsW]
theorem textOf_append (l m : List (Nat × ByteArray)) (i : Nat) : textOf (l ++ m) i = (textOf m i).or (textOf l i) := by
  have h : ∀ a b : List (Nat × ByteArray), textR (a ++ b) i = (textR a i).or (textR b i) := fun a b => by
    induction a with
    | nil => simp [textR]
    | cons p t ih =>
      obtain ⟨k, s⟩ := p
      rw [List.cons_append]
      simp only [textR]
      split
      · rfl
      · exact ih
  unfold textOf
  rw [List.reverse_append, h]
theorem textOf_secs (r : ByteArray) (a : Nat) : ∀ (n j i : Nat), textOf (secsW r a j n) (8 * a + i) = if j ≤ i ∧ i < j + n then some (secS r i) else none
  | 0, j, i => by
    rw [if_neg (by omega)]
    rfl
  | n + 1, j, i => by
    rw [show secsW r a j (n + 1) = [(8 * a + j, secS r j)] ++ secsW r a (j + 1) n from rfl, textOf_append, textOf_secs r a n (j + 1) i]
    by_cases h1 : j + 1 ≤ i ∧ i < j + 1 + n
    · rw [if_pos h1, if_pos (by omega)]
      rfl
    · rw [if_neg h1]
      by_cases h2 : i = j
      · subst h2
        rw [if_pos (by omega)]
        simp [textOf, textR]
      · rw [if_neg (by omega)]
        simp [textOf, textR]
        omega
/-- What was put is read. -/
theorem put_reads (r : ByteArray) (a : Nat) (S : PS) (w' : Int) (hu : S.up = true) (hk : 8 * a + 8 ≤ S.kept.length) (i : Nat) (hi : i < 8) : readE { S with writes := w', wait := S.wait ++ secsW r a 0 8 } ((8 * a + i : Nat) : Int) = 0 ∧ readS { S with writes := w', wait := S.wait ++ secsW r a 0 8 } ((8 * a + i : Nat) : Int) = secS r i := by
  have hh : hasB { S with writes := w', wait := S.wait ++ secsW r a 0 8 } ((8 * a + i : Nat) : Int) = true := by simp [hasB]; omega
  have ht : textOf (S.wait ++ secsW r a 0 8) (8 * a + i) = some (secS r i) := by
    rw [textOf_append, textOf_secs, if_pos (by omega)]
    rfl
  unfold readE readS
  rw [if_pos hu, if_pos hh, if_pos hu, if_pos hh]
  simp only [Int.toNat_natCast, ht]
  exact ⟨rfl, rfl⟩
end Go.Proofs.YtoopaigpjefonaaGreatDoor

namespace Go.Proofs.YtoopaigpjefonaaGreatDoor
set_option maxRecDepth 20000
open Go.RowKit

theorem keptAt_text (wait : List (Nat × ByteArray)) (kept : List ByteArray) (i : Nat) (hi : i < kept.length) : ∀ j, j ≤ wait.length → (keptAt (fun _ => true) wait kept j)[i]? = some ((textOf (wait.take j) i).getD kept[i])
  | 0, _ => by simp [keptAt, textOf, textR, hi]
  | j + 1, hj => by
    have ih := keptAt_text wait kept i hi j (by omega)
    have hl := keptAt_length (fun _ => true) wait kept j
    obtain ⟨p, hp⟩ : ∃ p, wait[j]? = some p := ⟨_, List.getElem?_eq_getElem (by omega)⟩
    obtain ⟨k, s⟩ := p
    have ht : wait.take (j + 1) = wait.take j ++ [(k, s)] := by rw [List.take_add_one, hp]; rfl
    rw [keptAt_step hp, if_pos rfl, ht, textOf_snoc]
    by_cases e : k = i
    · subst e
      rw [if_pos rfl, List.getElem?_set_self (by omega)]
      rfl
    · rw [if_neg e, List.getElem?_set_ne e]
      exact ih
/-- Behind a flush each sector is kept as it was read. -/
theorem flush_kept (S : PS) (hu : S.up = true) (i : Nat) (hi : i < S.kept.length) : (flushP S).kept[i]? = some ((textOf S.wait i).getD S.kept[i]) ∧ (flushP S).up = true ∧ (flushP S).wait = [] ∧ (flushP S).kept.length = S.kept.length := by
  have e : flushP S = settleP (fun _ => true) S := by unfold flushP; rw [if_pos hu]
  rw [e]
  refine ⟨?_, hu, rfl, keptAt_length _ _ _ _⟩
  have := keptAt_text S.wait S.kept i hi S.wait.length (Nat.le_refl _)
  rw [List.take_length] at this
  exact this
/-- What a device without writes that wait tells of a sector. -/
theorem kept_reads (S : PS) (hu : S.up = true) (hw : S.wait = []) (i : Nat) (s : ByteArray) (h : S.kept[i]? = some s) : readE S ((i : Nat) : Int) = (if s.size = 0 then 21 else 0) ∧ readS S ((i : Nat) : Int) = s := by
  have hi := (List.getElem?_eq_some_iff.1 h).1
  have hh : hasB S ((i : Nat) : Int) = true := by simp [hasB]; omega
  have hk : keptS S ((i : Nat) : Int) = s := by simp [keptS, h]
  have ht : textOf S.wait i = none := by rw [hw]; rfl
  unfold readE readS heldE heldS
  rw [if_pos hu, if_pos hh, if_pos hu, if_pos hh]
  simp only [Int.toNat_natCast, ht, hh, if_true, hk]
  exact ⟨by simp, rfl⟩
theorem spoil_kept (S : PS) (k : Nat) (hk : k < S.kept.length) (i : Nat) : (spoilP S (k : Nat)).kept[i]? = (if i = k then some ByteArray.empty else S.kept[i]?) ∧ (spoilP S (k : Nat)).up = S.up ∧ (spoilP S (k : Nat)).wait = S.wait := by
  have hh : hasB S ((k : Nat) : Int) = true := by simp [hasB]; omega
  unfold spoilP
  rw [if_pos hh]
  refine ⟨?_, rfl, rfl⟩
  show (S.kept.set ((k : Nat) : Int).toNat ByteArray.empty)[i]? = _
  rw [Int.toNat_natCast]
  by_cases e : i = k
  · subst e
    rw [if_pos rfl, List.getElem?_set_self hk]
  · rw [if_neg e, List.getElem?_set_ne (fun h => e h.symm)]
end Go.Proofs.YtoopaigpjefonaaGreatDoor

namespace Go.Proofs.YtoopaigpjefonaaGreatDoor
set_option maxRecDepth 20000
open Go.RowKit

structure Fine (S : PS) (n : Nat) : Prop where
  up : S.up = true
  fuse : S.fuse = -1
  len : S.kept.length = n
structure Seen (S : PS) (a : Nat) (r : ByteArray) : Prop where
  lt : 8 * a + 8 ≤ S.kept.length
  sec : ∀ i, i < 8 → (textOf S.wait (8 * a + i)).or S.kept[8 * a + i]? = some (secS r i)
theorem Fine.alike {S S' : PS} {n : Nat} (h : Fine S n) (k : Alike S S') : Fine S' n := ⟨k.1.trans h.up, k.2.2.2.trans h.fuse, by rw [k.2.1]; exact h.len⟩
theorem Seen.alike {S S' : PS} {a : Nat} {r : ByteArray} (h : Seen S a r) (k : Alike S S') : Seen S' a r := ⟨by rw [k.2.1]; exact h.lt, fun i hi => by rw [k.2.2.1, k.2.1]; exact h.sec i hi⟩
theorem textOf_other (r : ByteArray) (a b : Nat) (h : a ≠ b) : ∀ (n j i : Nat), j + n ≤ 8 → i < 8 → textOf (secsW r b j n) (8 * a + i) = none
  | 0, j, i, _, _ => rfl
  | n + 1, j, i, hj, hi => by
    rw [show secsW r b j (n + 1) = [(8 * b + j, secS r j)] ++ secsW r b (j + 1) n from rfl, textOf_append, textOf_other r a b h n (j + 1) i (by omega) hi]
    simp [textOf, textR]
    omega
theorem put_fine {S : PS} {n : Nat} {r : ByteArray} {a : Nat} (h : Fine S n) (hr : r.size = 512) (ha : 8 * a + 8 ≤ n) :
    bputE S (a : Int) r = 0 ∧ Fine (bputP S (a : Int) r) n ∧ Seen (bputP S (a : Int) r) a r ∧ ∀ b x, b ≠ a → Seen S b x → Seen (bputP S (a : Int) r) b x := by
  have hl := h.len
  have hB : bhasB S (a : Int) = true := by simp [bhasB, hl]; omega
  obtain ⟨w', h'⟩ := putGo_all r a hr 8 0 S (by omega) h.up h.fuse (by omega)
  have hP : bputP S (a : Int) r = { S with writes := w', wait := S.wait ++ secsW r a 0 8 } := by
    unfold bputP
    rw [if_pos hr, if_pos hB, Int.toNat_natCast, h']
  refine ⟨?_, ?_, ?_, ?_⟩
  · unfold bputE
    rw [if_pos hr, if_pos hB, Int.toNat_natCast, h']
  · rw [hP]
    exact ⟨h.up, h.fuse, h.len⟩
  · rw [hP]
    refine ⟨by show 8 * a + 8 ≤ S.kept.length; omega, fun i hi => ?_⟩
    show (textOf (S.wait ++ secsW r a 0 8) (8 * a + i)).or S.kept[8 * a + i]? = _
    rw [textOf_append, textOf_secs, if_pos (by omega)]
    rfl
  · intro b x hb hx
    rw [hP]
    refine ⟨hx.lt, fun i hi => ?_⟩
    show (textOf (S.wait ++ secsW r a 0 8) (8 * b + i)).or S.kept[8 * b + i]? = _
    rw [textOf_append, textOf_other r b a hb 8 0 i (by omega) hi]
    exact hx.sec i hi
theorem flush_fine {S : PS} {n : Nat} (h : Fine S n) : flushE S = 0 ∧ Fine (flushP S) n ∧ (flushP S).wait = [] ∧ ∀ b x, Seen S b x → Seen (flushP S) b x := by
  have e : flushP S = settleP (fun _ => true) S := by unfold flushP; rw [if_pos h.up]
  refine ⟨by unfold flushE; rw [if_pos h.up], ?_, by rw [e]; rfl, fun b x hx => ?_⟩
  · rw [e]
    exact ⟨h.up, h.fuse, (keptAt_length _ _ _ _).trans h.len⟩
  · have hl : (flushP S).kept.length = S.kept.length := by rw [e]; exact keptAt_length _ _ _ _
    refine ⟨by rw [hl]; exact hx.lt, fun i hi => ?_⟩
    have hlt : 8 * b + i < S.kept.length := by have := hx.lt; omega
    obtain ⟨h1, _, h3, _⟩ := flush_kept S h.up (8 * b + i) hlt
    have hs := hx.sec i hi
    rw [h3, h1]
    show some _ = _
    rw [List.getElem?_eq_getElem hlt] at hs
    cases ht : textOf S.wait (8 * b + i) with
    | none => rw [ht] at hs; exact hs
    | some t => rw [ht] at hs; exact hs
/-- The last bytes that a list of writes has for an address. -/
def lastW : List Wt → Int → Option ByteArray
  | [], _ => none
  | x :: l, b => (lastW l b).or (if x.at_ = b then some x.raw else none)
theorem lastW_append (l m : List Wt) (b : Int) : lastW (l ++ m) b = (lastW m b).or (lastW l b) := by
  induction l with
  | nil => simp [lastW]
  | cons x l ih =>
    rw [List.cons_append, lastW, ih, lastW]
    cases lastW m b <;> rfl
/-- What is seen behind writes. -/
def SeenL (l : List Wt) (S : PS) (b : Nat) (x : ByteArray) : Prop := match lastW l b with | some r => r = x | none => Seen S b x
structure FitW (n : Nat) (x : Wt) : Prop where
  ad : ∃ a : Nat, x.at_ = (a : Int) ∧ 8 * a + 8 ≤ n
  size : x.raw.size = 512
theorem take_fine : ∀ (l : List Wt) {S : PS} {n : Nat}, Fine S n → (∀ x ∈ l, FitW n x) → takeE l S = 0 ∧ Fine (takeP l S) n ∧ (takeP l S).wait = [] ∧ ∀ b x, SeenL l S b x → Seen (takeP l S) b x
  | [], S, n, h, _ => by
    obtain ⟨h1, h2, h3, h4⟩ := flush_fine h
    exact ⟨h1, h2, h3, fun b x hx => h4 b x hx⟩
  | y :: l, S, n, h, hf => by
    obtain ⟨⟨a, ea, ha⟩, hr⟩ := hf y (List.mem_cons_self ..)
    obtain ⟨p1, p2, p3, p4⟩ := put_fine (r := y.raw) h hr ha
    obtain ⟨q1, q2, q3, q4⟩ := take_fine l p2 fun x hx => hf x (List.mem_cons_of_mem _ hx)
    unfold takeE takeP
    rw [ea, if_pos p1, if_pos p1]
    refine ⟨q1, q2, q3, fun b x hx => q4 b x ?_⟩
    unfold SeenL at hx ⊢
    rw [lastW, ea] at hx
    cases hl : lastW l (b : Int) with
    | some r => rw [hl] at hx; exact hx
    | none =>
      rw [hl] at hx
      show Seen _ b x
      by_cases e : (a : Int) = (b : Int)
      · rw [if_pos e] at hx
        have hx : y.raw = x := hx
        have e' : a = b := by omega
        subst e'
        rw [← hx]
        exact p3
      · rw [if_neg e] at hx
        exact p4 b x (fun h => e (by rw [h])) hx
theorem fol_fine : ∀ (ls : List (List Wt)) {S : PS} {n : Nat}, Fine S n → S.wait = [] → (∀ l ∈ ls, ∀ x ∈ l, FitW n x) → folE ls S = 0 ∧ Fine (folP ls S) n ∧ (folP ls S).wait = [] ∧ ∀ b x, SeenL ls.flatten S b x → Seen (folP ls S) b x
  | [], S, n, h, hw, _ => ⟨rfl, h, hw, fun b x hx => hx⟩
  | l :: ls, S, n, h, hw, hf => by
    obtain ⟨p1, p2, p3, p4⟩ := take_fine l h (hf l (List.mem_cons_self ..))
    obtain ⟨q1, q2, q3, q4⟩ := fol_fine ls p2 p3 fun l' hl => hf l' (List.mem_cons_of_mem _ hl)
    unfold folE folP
    rw [if_pos p1, if_pos p1]
    refine ⟨q1, q2, q3, fun b x hx => q4 b x ?_⟩
    unfold SeenL at hx ⊢
    rw [List.flatten_cons, lastW_append] at hx
    cases hl : lastW ls.flatten (b : Int) with
    | some r => rw [hl] at hx; exact hx
    | none =>
      rw [hl] at hx
      exact p4 b x hx
theorem seen_get {S : PS} {n a : Nat} {r : ByteArray} (h : Fine S n) (hs : Seen S a r) (hr : r.size = 512) : (bget S (a : Int)).1 = (r, 0, 0) := by
  have hB : bhasB S (a : Int) = true := by have := hs.lt; simp [bhasB]; omega
  unfold bget
  rw [if_pos hB, Int.toNat_natCast, getGo_all a r 8 0 S ⟨#[]⟩ 0 fun i _ hi => by
    have hlt : 8 * a + i < S.kept.length := by have := hs.lt; omega
    have hh : hasB S ((8 * a + i : Nat) : Int) = true := by simp [hasB]; omega
    have hx := hs.sec i (by omega)
    have hz : (secS r i).size = 64 := by simp [secS, hr]; omega
    unfold readE readS heldE heldS
    rw [if_pos h.up, if_pos hh, if_pos h.up, if_pos hh]
    simp only [Int.toNat_natCast, hh, if_true]
    rcases Option.eq_none_or_eq_some (textOf S.wait (8 * a + i)) with ht | ⟨t, ht⟩
    · rw [ht] at hx
      have hx : S.kept[8 * a + i]? = some (secS r i) := hx
      have hk : keptS S ((8 * a + i : Nat) : Int) = secS r i := by
        unfold keptS
        rw [Int.toNat_natCast, List.getD_eq_getElem?_getD, hx]
        rfl
      simp only [ht, hk, hz]
      exact ⟨rfl, rfl⟩
    · rw [ht] at hx
      have hx : some t = some (secS r i) := hx
      simp [ht]
      exact Option.some.inj hx]
  show ((⟨#[]⟩ : ByteArray) ++ r.extract 0 512, _, _) = _
  rw [← hr, ByteArray.extract_zero_size]
  exact congrArg (fun x => (x, 0, 0)) ByteArray.empty_append
theorem jbget_alike (S : PS) (at_ : Int) : Alike S (bget S at_).2 := by
  unfold bget
  split
  · exact getGo_alike _ _ _ _ _ _
  · exact ⟨rfl, rfl, rfl, rfl⟩
theorem stA_alike (S : PS) : ∀ j, Alike S (stA S j)
  | 0 => ⟨rfl, rfl, rfl, rfl⟩
  | j + 1 => (stA_alike S j).trans (jbget_alike _ _)
theorem seen_at {S : PS} {n a : Nat} {r : ByteArray} (h : Fine S n) (hs : Seen S a r) (hr : r.size = 512) : atS (rawsTo S (S.kept.length / 8)) (masksTo S (S.kept.length / 8)) (a : Int) = r ∧ atM (rawsTo S (S.kept.length / 8)) (masksTo S (S.kept.length / 8)) (a : Int) = 0 := by
  have hlt : a < S.kept.length / 8 := by have := hs.lt; omega
  have hg := seen_get (h.alike (stA_alike S a)) (hs.alike (stA_alike S a)) hr
  have e1 : rawA S a = r := by unfold rawA; rw [hg, if_pos rfl]
  have e2 : maskA S a = 0 := by unfold maskA; rw [hg, if_pos rfl]; rfl
  have g1 : (rawsTo S (S.kept.length / 8)).getD ((a : Int).toNat) ⟨#[]⟩ = r := by
    simp [rawsTo, List.getD_eq_getElem?_getD, hlt, e1]
  have g2 : (masksTo S (S.kept.length / 8)).getD ((a : Int).toNat) 0 = 0 := by
    simp [masksTo, List.getD_eq_getElem?_getD, hlt, e2]
  have hB : atB (rawsTo S (S.kept.length / 8)) (masksTo S (S.kept.length / 8)) (a : Int) = true := by
    unfold atB
    rw [g1, rawsTo_length, masksTo_length]
    simp [hr]
    omega
  unfold atS atM
  rw [if_pos hB, if_pos hB]
  exact ⟨g1, g2⟩
end Go.Proofs.YtoopaigpjefonaaGreatDoor

namespace Go.Proofs.YtoopaigpjefonaaGreatDoor
set_option maxRecDepth 20000
open Go.RowKit

theorem jpro_ret (tmps : Array Value) (g : Nat) (w' : World) (a : Int) (r : ByteArray) (y : Int) (R : Ending → World → Prop) (h1 : tmps.getD 6 undef = .pointer (some ⟨g, 0, none⟩)) (h2 : tmps.getD 7 undef = .int .i64 y) (hg : w'.heap[g]? = some (.cells #[.int .i64 a, .string r] 68 (0, 0))) (hR : R (.returned (.tuple #[.agg #[.int .i64 a, .string r], .int .i64 y])) w') :
    bodyPost Tryz.prog Tryz.f55 R .ret { tmps := tmps, defers := [] } w' := by
  have hr := run_loadVar_row (P := Tryz.prog) w' g 68 68 #[.int .i64 a, .string r] (0, 0) _ hg Tryz.underlying68 rfl (by kernel_rfl)
  simp at h1 h2
  exact bodyPost_ret (v := .tuple #[.agg #[.int .i64 a, .string r], .int .i64 y]) (by simp [results, Tryz.results55, asAddr, hr, h1, h2]) rfl hR
set_option maxHeartbeats 4000000 in
theorem jpro_yes (v : Value) (l : List Wt) (oa : Option Addr) (ca : Nat) (a0 a1 a2 a3 : Int) (r T C J H B X : ByteArray) (E : Int) (P Q : World → Prop) (w : World) (hP : Stb w.heap.size P) (hQ : Stb w.heap.size Q) (hT : T.size = 448) (hC : C.size = 2) (hH : H.size = 32)
    (hp : ∀ w, Calls Tryz.prog 64 #[.agg #[.int .i64 a0, .int .i64 a1, .int .i64 a2, .int .i64 a3, .string r]] w fun e w' => e = .returned (.tuple #[.string T, .int .i64 0]) ∧ Below w.heap.size w w')
    (hput : ∀ w, Calls Tryz.prog 92 #[.int .i64 (l.length : Int), .int .i64 2] w fun e w' => e = .returned (.tuple #[.string C, .int .i64 0]) ∧ Below w.heap.size w w')
    (hj : ∀ w', Below w.heap.size w w' → Calls Tryz.prog 95 #[.slice oa l.length ca] w' fun e w'' => e = .returned (.string J) ∧ Below w'.heap.size w' w'')
    (hh : ∀ w', Below w.heap.size w w' → Calls Tryz.prog 94 #[v, .string J] w' fun e w'' => e = .returned (.string H) ∧ Q w'' ∧ Kept w.heap.size w' w'' ∧ w'.heap.size ≤ w''.heap.size)
    (hpad : ∀ w, Calls Tryz.prog 93 #[.string (C ++ H ++ T.extract 0 54), .int .i64 448] w fun e w' => e = .returned (.tuple #[.string B, .int .i64 0]) ∧ Below w.heap.size w w')
    (hs : ∀ w', Q w' → Calls Tryz.prog 96 #[v, .agg #[.int .i64 a0, .int .i64 2, .int .i64 2, .int .i64 0, .int .i64 0, .int .i64 0, .int .i64 a1, .int .i64 a1], .string B] w' fun e w'' => e = .returned (.tuple #[.string X, .int .i64 E]) ∧ P w'' ∧ Kept w.heap.size w' w'' ∧ w'.heap.size ≤ w''.heap.size) :
    Calls Tryz.prog 55 #[v, .slice oa l.length ca, .agg #[.int .i64 a0, .int .i64 a1, .int .i64 a2, .int .i64 a3, .string r]] w fun e w' => e = .returned (.tuple #[.agg #[.int .i64 (if E = 0 then 2 else 0), .string (if E = 0 then X else ⟨#[]⟩)], .int .i64 E]) ∧ P w' := by
  have h54 : (54 : Int) ≤ T.size := by omega
  have hU : (T.extract 0 54).size = 54 := by simp [hT]
  go_enter Tryz.func55, Tryz.ntmps55
  go_wp2_with fail
  refine (hp _).mono ?_
  rintro e w1 ⟨rfl, hb1⟩
  have g1 := (hb1.block (w.heap.size + 1) (by simp)).trans (heap_alloc2_new w _ _)
  have g0 := (hb1.block w.heap.size (by simp; omega)).trans (heap_alloc2_old w _ _)
  have hbw : Below w.heap.size w w1 := (((Below.refl _ _).alloc (Nat.le_refl _) _).alloc (by simp) _).trans (hb1.mono (by simp; omega))
  clear hp hb1
  go_wp2_with fail
  refine (hput _).mono ?_
  rintro e w2 ⟨rfl, hb2⟩
  have HB2 : Hid (Below w.heap.size w w2 ∧ w2.heap[w.heap.size + 1]? = some (.cells #[.int .i64 0, .string ⟨#[]⟩] 68 (0, 0)) ∧ w2.heap[w.heap.size]? = some (.cells #[.int .i64 a0, .int .i64 a1, .int .i64 a2, .int .i64 a3, .string r] 23 (0, 0))) := ⟨hbw.trans (hb2.mono hbw.size), (hb2.block _ (lt_of_block g1)).trans g1, (hb2.block _ (lt_of_block g0)).trans g0⟩
  clear hput hb2 g0 g1 hbw
  go_wp2_with fail
  go_region_held3 (fun _ => True) (exact True.intro) (first
    | (go_at_call 95; refine (hj _ HB2.out.1.drew).mono ?_; rintro e w3 ⟨rfl, hb3⟩; have HB3 : Hid (Below w.heap.size w w3 ∧ w3.heap[w.heap.size + 1]? = some (.cells #[.int .i64 0, .string ⟨#[]⟩] 68 (0, 0)) ∧ w3.heap[w.heap.size]? = some (.cells #[.int .i64 a0, .int .i64 a1, .int .i64 a2, .int .i64 a3, .string r] 23 (0, 0))) := ⟨HB2.out.1.drew.trans (hb3.mono HB2.out.1.size), (hb3.block _ (lt_of_block HB2.out.2.1)).trans HB2.out.2.1, (hb3.block _ (lt_of_block HB2.out.2.2)).trans HB2.out.2.2⟩; clear hb3)
    | (go_at_call 94; refine (hh _ HB3.out.1).mono ?_; rintro e w4 ⟨rfl, hq4, hk4, hz4⟩; have HB4 : Hid (Q w4 ∧ w4.heap[w.heap.size + 1]? = some (.cells #[.int .i64 0, .string ⟨#[]⟩] 68 (0, 0)) ∧ w4.heap[w.heap.size]? = some (.cells #[.int .i64 a0, .int .i64 a1, .int .i64 a2, .int .i64 a3, .string r] 23 (0, 0))) := ⟨hq4, (hk4 _ (by omega) (lt_of_block HB3.out.2.1)).trans HB3.out.2.1, (hk4 _ (by omega) (lt_of_block HB3.out.2.2)).trans HB3.out.2.2⟩; clear hq4 hk4 hz4)
    | (go_at_call 93; refine (hpad _).mono ?_; rintro e w5 ⟨rfl, hb5⟩; have HB5 : Hid (Q w5 ∧ w5.heap[w.heap.size + 1]? = some (.cells #[.int .i64 0, .string ⟨#[]⟩] 68 (0, 0)) ∧ w5.heap[w.heap.size]? = some (.cells #[.int .i64 a0, .int .i64 a1, .int .i64 a2, .int .i64 a3, .string r] 23 (0, 0))) := ⟨hQ _ _ HB4.out.1 (hb5.mono (by have := lt_of_block HB4.out.2.1; omega)), (hb5.block _ (lt_of_block HB4.out.2.1)).trans HB4.out.2.1, (hb5.block _ (lt_of_block HB4.out.2.2)).trans HB4.out.2.2⟩; clear hb5))
  have hlt5 := lt_of_block HB5.out.2.1
  have c0 : w5.cell? ⟨w.heap.size, 0, none⟩ = some (.int .i64 a0) := cell_of_row _ _ 0 _ _ _ HB5.out.2.2
  have c1 : w5.cell? ⟨w.heap.size, 1, none⟩ = some (.int .i64 a1) := cell_of_row _ _ 1 _ _ _ HB5.out.2.2
  have hbA : Below w5.heap.size w5 (w5.alloc (.cells #[.int .i64 a0, .int .i64 2, .int .i64 2, .int .i64 0, .int .i64 0, .int .i64 0, .int .i64 a1, .int .i64 a1] 121)) := (Below.refl _ _).alloc (Nat.le_refl _) _
  have hs2 := hs (w5.alloc (.cells #[.int .i64 a0, .int .i64 2, .int .i64 2, .int .i64 0, .int .i64 0, .int .i64 0, .int .i64 a1, .int .i64 a1] 121)) (hQ _ _ HB5.out.1 (hbA.mono (by omega)))
  have g5 : (w5.alloc (.cells #[.int .i64 a0, .int .i64 2, .int .i64 2, .int .i64 0, .int .i64 0, .int .i64 0, .int .i64 a1, .int .i64 a1] 121)).heap[w.heap.size + 1]? = some (.cells #[.int .i64 0, .string ⟨#[]⟩] 68 (0, 0)) := (Below.heap_alloc _ _ _ hlt5).trans HB5.out.2.1
  clear hj hh hpad hs hbA HB2 HB3 HB4
  go_wp2_with fail
  refine hs2.mono ?_
  rintro e w6 ⟨rfl, hp6, hk6, hz6⟩
  have g6 : w6.heap[w.heap.size + 1]? = some (.cells #[.int .i64 0, .string ⟨#[]⟩] 68 (0, 0)) := (hk6 _ (by omega) (by simp; omega)).trans g5
  have gh : w6.heap[w5.heap.size]? = _ := (hk6 _ (by omega) (by simp)).trans (heap_alloc_new w5 _)
  have ch : w6.cell? ⟨w5.heap.size, 1, none⟩ = some (.int .i64 2) := cell_of_row _ _ 1 _ _ _ gh
  have HP6 : Hid (∀ cs, P (w6.setRow (w.heap.size + 1) cs)) := fun cs => hP _ _ hp6 (below_setRow (Below.refl _ _) (by omega) _)
  clear hs2 c0 c1 gh hp6 hk6 hz6 g5 HB5
  by_cases hE : E = 0
  · subst hE
    go_wp2_with (refine wpList_store_row rfl 68 _ _ rfl (w.heap.size + 1) #[.int .i64 2, .string X] rfl rfl 68 _ g6 (by kernel_rfl) rfl (by simp [Value.oneCell']) ?_)
    exact jpro_ret _ (w.heap.size + 1) _ 2 X 0 _ rfl rfl (setRow_heap _ _ _ _ _ _ g6) ⟨by simp, HP6.out _⟩
  · have hE1 : (E != 0) = true := by simpa using hE
    go_wp2_with (refine wpList_store_row rfl 68 _ _ rfl (w.heap.size + 1) #[.int .i64 0, .string ⟨#[]⟩] rfl rfl 68 _ g6 (by kernel_rfl) rfl (by simp [Value.oneCell']) ?_)
    exact jpro_ret _ (w.heap.size + 1) _ 0 ⟨#[]⟩ E _ rfl rfl (setRow_heap _ _ _ _ _ _ g6) ⟨by simp, HP6.out _⟩
set_option maxHeartbeats 4000000 in
theorem jpro_no (v u : Value) (a0 a1 a2 a3 : Int) (r T : ByteArray) (E : Int) (w : World) (hE : ¬ E = 0)
    (hp : ∀ w, Calls Tryz.prog 64 #[.agg #[.int .i64 a0, .int .i64 a1, .int .i64 a2, .int .i64 a3, .string r]] w fun e w' => e = .returned (.tuple #[.string T, .int .i64 E]) ∧ Below w.heap.size w w') :
    Calls Tryz.prog 55 #[v, u, .agg #[.int .i64 a0, .int .i64 a1, .int .i64 a2, .int .i64 a3, .string r]] w fun e w' => e = .returned (.tuple #[.agg #[.int .i64 0, .string ⟨#[]⟩], .int .i64 E]) ∧ Below w.heap.size w w' := by
  have hE1 : (E != 0) = true := by simpa using hE
  clear hE
  go_enter Tryz.func55, Tryz.ntmps55
  go_wp2_with fail
  refine (hp _).mono ?_
  rintro e w1 ⟨rfl, hb1⟩
  have g1 := (hb1.block (w.heap.size + 1) (by simp)).trans (heap_alloc2_new w _ _)
  have hbw : Below w.heap.size w w1 := (((Below.refl _ _).alloc (Nat.le_refl _) _).alloc (by simp) _).trans (hb1.mono (by simp; omega))
  clear hp hb1
  go_wp2_with (refine wpList_store_row rfl 68 _ _ rfl (w.heap.size + 1) #[.int .i64 0, .string ⟨#[]⟩] rfl rfl 68 _ g1 (by kernel_rfl) rfl (by simp [Value.oneCell']) ?_)
  exact jpro_ret _ (w.heap.size + 1) _ 0 ⟨#[]⟩ E _ rfl rfl (setRow_heap _ _ _ _ _ _ g1) ⟨rfl, below_setRow hbw (by omega) _⟩
theorem pro_sizes {K : VK} (HK : VKOk K) {S : K.σ} {l : List Wt} {s : Sp} (hr : K.room S 1) (hll : l.length ≤ 24) (he : s.err = 0) : putE (l.length : Int) 2 = 0 ∧ (putS (l.length : Int) 2).size = 2 ∧ (K.hS S (joinB l)).size = 32 ∧ padE (putS (l.length : Int) 2 ++ K.hS S (joinB l) ++ s.txt.extract 0 54) 448 = 0 ∧ (proT K S l s).size = 448 := by
  have h1 : putE (l.length : Int) 2 = 0 := by
    unfold putE
    rw [if_neg (by decide), if_neg (by have : (256 : Int) ^ (2 : Int).toNat = 65536 := by decide
                                       omega)]
  have h2 : (putS (l.length : Int) 2).size = 2 := putS_len h1
  have h3 := HK.hSize S (joinB l) hr
  have h4 : (putS (l.length : Int) 2 ++ K.hS S (joinB l) ++ s.txt.extract 0 54).size = 88 := by
    rw [ByteArray.size_append, ByteArray.size_append, h2, h3, ByteArray.size_extract, sp_size he]
    rfl
  refine ⟨h1, h2, h3, ?_, ?_⟩
  · unfold padE
    rw [if_neg (by decide), h4]
    rfl
  · unfold proT
    unfold padS
    rw [if_pos (by rw [h4]; decide)]
    generalize putS (l.length : Int) 2 ++ K.hS S (joinB l) ++ s.txt.extract 0 54 = x at *
    show (x.data.toList ++ List.replicate ((448 : Int).toNat - x.size) 0).toArray.size = 448
    rw [List.size_toArray, List.length_append, List.length_replicate, ← Lib.size_eq, h4]
    rfl
theorem jpro_any (K : VK) (HK : VKOk K) (F : Nat → Prop) (S : K.σ) (s : Sp) (oa : Option Addr) (ca : Nat) (l : List Wt) {w w' : World} (hr : K.room S 2) (hl : VOut K F w S w') (hw : w.heap.size ≤ w'.heap.size) (hv : Wts w' (.slice oa l.length ca) l) (hll : l.length ≤ 24) (hsz : ∀ x ∈ l, x.raw.size ≤ 512) :
    Calls Tryz.prog 55 #[K.v, .slice oa l.length ca, .agg s.arr] w' fun e w'' => e = .returned (.tuple #[.agg #[.int .i64 (proA K S l s), .string (proR K S l s)], .int .i64 (proE K S l s)]) ∧ VOut K F w (proP K S l s) w'' ∧ Kept w.heap.size w' w'' ∧ w'.heap.size ≤ w''.heap.size := by
  have hp := fun w => super_any s.vol s.ep s.nx s.lv s.root w
  by_cases he : s.err = 0
  · have he' : superE s.vol s.ep s.nx s.lv s.root = 0 := he
    obtain ⟨z1, z2, z3, z4, z5⟩ := pro_sizes HK (HK.less hr (by omega)) hll he
    have hJ : (joinB l).size ≤ 1000000 := by
      have := joinB_le l hsz
      rw [joinB_size] at this
      omega
    have e1 : proE K S l s = bsealE s.hdC (proT K S l s) := if_pos he
    have e2 : proP K S l s = K.sP (K.hP S (joinB l)) s.hdC (proT K S l s) := if_pos he
    have e3 : proA K S l s = if bsealE s.hdC (proT K S l s) = 0 then 2 else 0 := by unfold proA; rw [e1]
    have e4 : proR K S l s = if bsealE s.hdC (proT K S l s) = 0 then K.sS (K.hP S (joinB l)) s.hdC (proT K S l s) else ⟨#[]⟩ := by unfold proR; rw [e1]
    rw [e1, e2, e3, e4]
    have stb : ∀ S', Stb w'.heap.size (fun w'' => VOut K F w S' w'' ∧ Kept w.heap.size w' w'' ∧ w'.heap.size ≤ w''.heap.size) := fun S' w1 w2 h hb => ⟨VOut.stb HK _ _ h.1 (hb.mono hw), fun k hk hk2 => (hb.block k hk2).trans (h.2.1 k hk hk2), Nat.le_trans h.2.2 hb.size⟩
    refine jpro_yes K.v l oa ca s.vol s.ep s.nx s.lv s.root s.txt (putS (l.length : Int) 2) (joinB l) (K.hS S (joinB l)) (proT K S l s) (K.sS (K.hP S (joinB l)) s.hdC (proT K S l s)) (bsealE s.hdC (proT K S l s)) (fun w'' => VOut K F w (K.sP (K.hP S (joinB l)) s.hdC (proT K S l s)) w'' ∧ Kept w.heap.size w' w'' ∧ w'.heap.size ≤ w''.heap.size) (fun w'' => VOut K F w (K.hP S (joinB l)) w'' ∧ Kept w.heap.size w' w'' ∧ w'.heap.size ≤ w''.heap.size) w' (stb _) (stb _) (sp_size he) z2 z3 ?_ ?_ ?_ ?_ ?_ ?_
    · intro w1
      have := hp w1
      rw [he'] at this
      exact this
    · intro w1
      have := put_any (l.length : Int) 2 w1
      rw [z1] at this
      exact this
    · intro w1 hb
      exact joined_any _ l w1 (hv.below hb) (by omega) hsz
    · intro w1 hb
      refine (VOut.hash HK (joinB l) hJ (HK.less hr (by omega)) (VOut.stb HK _ _ hl (hb.mono hw))).mono fun e w'' ⟨h2, h3, h4, h5⟩ => ⟨h2, ⟨h3, fun k hk hk2 => (h4 k hk (Nat.lt_of_lt_of_le hk2 hb.size)).trans (hb.block k hk2), Nat.le_trans hb.size h5⟩, fun k hk hk2 => h4 k (Nat.le_trans hw hk) hk2, h5⟩
    · intro w1
      have := pad_any (putS (l.length : Int) 2 ++ K.hS S (joinB l) ++ s.txt.extract 0 54) 448 w1
      rw [z4] at this
      exact this
    · intro w1 h
      refine (VOut.seal_ HK s.hdC (proT K S l s) (HK.hRoom hr) h.1).mono fun e w'' ⟨h2, h3, h4, h5⟩ => ⟨h2, ⟨h3, fun k hk hk2 => (h4 k hk (Nat.lt_of_lt_of_le hk2 h.2.2)).trans (h.2.1 k hk hk2), Nat.le_trans h.2.2 h5⟩, fun k hk hk2 => h4 k (Nat.le_trans hw hk) hk2, h5⟩
  · have he' : ¬ superE s.vol s.ep s.nx s.lv s.root = 0 := he
    have e1 : proE K S l s = superE s.vol s.ep s.nx s.lv s.root := if_neg he
    have e2 : proP K S l s = S := if_neg he
    have e3 : proA K S l s = 0 := by unfold proA; rw [e1]; exact if_neg he'
    have e4 : proR K S l s = ⟨#[]⟩ := by unfold proR; rw [e1]; exact if_neg he'
    rw [e1, e2, e3, e4]
    exact (jpro_no K.v _ s.vol s.ep s.nx s.lv s.root (superS s.vol s.ep s.nx s.lv s.root) _ w' he' hp).mono fun e w'' ⟨h1, h2⟩ => ⟨h1, VOut.stb HK _ _ hl (h2.mono hw), fun k _ hk => h2.block k hk, h2.size⟩
end Go.Proofs.YtoopaigpjefonaaGreatDoor
