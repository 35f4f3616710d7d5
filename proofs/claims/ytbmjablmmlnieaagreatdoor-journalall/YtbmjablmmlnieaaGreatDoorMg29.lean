/- journal's Found at a device and a vault that lie apart. · journal's zeros, blank, isOf, unsealable, headed. · journal's superOn where the power is on; isOf, unsealable at a device and a vault that lie apart. -/
import Derived.Test.YtbmjablmmlnieaaGreatDoorMg27
import Derived.Test.YtbmjablmmlnieaaGreatDoorMg28
import Derived.Test.YtbmjablmmlnieaaGreatDoorMg23
import Derived.Test.YtbmjablmmlnieaaGreatDoorMg26
namespace Go.Proofs.YtbmjablmmlnieaaGreatDoor
set_option maxRecDepth 20000
open Go.RowKit

theorem ideal_oSize (B : Nat) (S : VS) (hl : S.seals.length ≤ 1000000) (r : ByteArray) (h : (idealK B).oE S r = 0) : ((idealK B).oS S r).size = 448 := by
  obtain ⟨hd, s, e, hs, hn, rfl⟩ := (bopen_iff S r hl).1 h
  obtain ⟨_, _, h3⟩ := bopen_blk S hd s hl e hs hn
  show (bopenS S _).size = 448
  rw [h3]
  exact hs
theorem lookR_size {K : VK} {S : K.σ} {raws : List ByteArray} {masks : List Int} {a : Int} (hO : ∀ r, K.oE S r = 0 → (K.oS S r).size = 448) (h : (lookR K S raws masks a).ok = true) : (lookR K S raws masks a).body.size = 448 := by
  unfold lookR at h ⊢
  split at h
  · next hm =>
    rw [if_pos hm]
    unfold toldR at h ⊢
    split at h
    · next hc =>
      rw [if_pos hc]
      exact hO _ hc.1
    · cases h
  · cases h
theorem Duo.vaultW {K : VK} {w : World} {F : Nat → Prop} {B : Nat} {P : PS} {S : K.σ} (h : Duo K w F B P S) {f : FuncId} {args : Array Value} {E : Ending → World → Prop} {S' : K.σ}
    (hc : ∀ F2, K.lies w F2 S → (∀ k, F2 k → F k) → Calls Tryz.prog f args w fun e w' => E e w' ∧ K.lies w' F2 S' ∧ Touch F2 w w') :
    Calls Tryz.prog f args w fun e w' => E e w' ∧ Duo K w' F B P S' ∧ Touch F w w' := by
  obtain ⟨F1, F2, h⟩ := h
  exact (hc F2 h.vault h.in2).mono fun e w' ⟨he, hp, ht⟩ => ⟨he, ⟨F1, F2, h.plate.keep fun k hk hF => ht.2 k hk (h.apart k hF), hp, h.apart, h.in1, h.in2, fun k hF => Nat.lt_of_lt_of_le (h.lt k hF) ht.size⟩, ht.mono h.in2⟩
/-- The superblock that Found tells. -/
def fnS (K : VK) (T : K.σ) (raws : List ByteArray) (masks : List Int) (n : Int) : Sp := if fnOk K T raws masks n then piS (lookR K T raws masks 2) n else Sp.zero
theorem getN_nat (s : ByteArray) (a k : Int) : ∃ m : Nat, getN s a k = (m : Int) := by
  unfold getN
  split
  · exact ⟨_, (Int.toNat_of_nonneg (leVal_nonneg _)).symm⟩
  · exact ⟨0, rfl⟩
theorem rcdL_sizes (raws : List ByteArray) (masks : List Int) (log : Int) (n : Nat) : ∀ x ∈ rcdL raws masks log n, x.raw.size ≤ 512 := by
  intro x hx
  unfold rcdL at hx
  obtain ⟨i, _, rfl⟩ := List.mem_map.1 hx
  exact Nat.le_of_eq (atS_size _ _ _)
/-- What Found ends in. -/
def FnE (K : VK) (w : World) (T : K.σ) (raws : List ByteArray) (masks : List Int) (n : Nat) (e : Ending) (w' : World) : Prop := ∃ v', e = .returned (.tuple #[v', .agg (fnS K T raws masks (n : Int)).arr, .bool (fnOk K T raws masks (n : Int))]) ∧ (fnOk K T raws masks (n : Int) = true → Wts w' v' (fnW K T raws masks (n : Int)) ∧ ∀ g o len cap, v' = .slice (some ⟨g, o, none⟩) len cap → w.heap.size ≤ g ∧ g < w'.heap.size)
theorem found_lies (K : VK) (HK : VKOk K) (F : Nat → Prop) (T : K.σ) (hr : K.room T 1) (hO : ∀ r, K.oE T r = 0 → (K.oS T r).size = 448) (n q s2 t : Nat) (hn : n ≤ 1024) (oa ob : Option Addr) (ca cb : Nat) (raws : List ByteArray) (masks : List Int) (w : World) (hl : K.lies w F T) (h1 : List1 Value.string w (.slice oa raws.length ca) raws) (h2 : List1 (Value.int .i64) w (.slice ob masks.length cb) masks)
    (hway : piB (lookR K T raws masks 2) (n : Int) = true → rcdB raws masks 3 (piN (lookR K T raws masks 2) (n : Int)).toNat = true → togB 27 (n : Int) (fnW K T raws masks (n : Int)) = true) :
    Calls Tryz.prog 47 #[K.v, .agg (layA n q s2 t), .agg #[.slice oa raws.length ca, .slice ob masks.length cb]] w fun e w' => FnE K w T raws masks n e w' ∧ K.lies w' F (fnP K T raws masks (n : Int)) ∧ Touch F w w' := by
  have hlook := fun W (hW : Below w.heap.size w W) => klook_any K HK F T (HK.less hr (Nat.zero_le _)) oa ob ca cb raws masks 2 W (HK.below hl hW) (h1.below hW) (h2.below hW)
  rw [lookR_arr] at hlook
  have hpi := fun W => jpri_any (lookR K T raws masks 2) (n : Int) W (lookR_size hO)
  have hbs := lookR_size hO (a := 2) (raws := raws) (masks := masks)
  by_cases hb : piB (lookR K T raws masks 2) (n : Int) = true
  · obtain ⟨m, hm⟩ := getN_nat (lookR K T raws masks 2).body 0 2
    have hpn : piN (lookR K T raws masks 2) (n : Int) = (m : Int) := by rw [← hm]; exact if_pos hb
    have hyes : (lookR K T raws masks 2).ok = true ∧ (m : Int) ≤ 24 := by
      have := of_decide_eq_true hb
      exact ⟨this.1, hm ▸ this.2.2.1⟩
    have hm24 : m ≤ 24 := by omega
    have hrcd := fun W (hW : Below w.heap.size w W) => recorded_any n q s2 t oa ob ca cb raws masks m (by omega) W (h1.below hW) (h2.below hW)
    have eW : fnW K T raws masks (n : Int) = rcdL raws masks 3 m := by unfold fnW; rw [hpn, Int.toNat_natCast]
    rw [hpn, Int.toNat_natCast, eW] at hway
    have eS : piS (lookR K T raws masks 2) (n : Int) = piS (lookR K T raws masks 2) (n : Int) := rfl
    by_cases hrb : rcdB raws masks 3 m = true
    · have ht := hway hb hrb
      have hfb : fnB K T raws masks (n : Int) = true := by
        unfold fnB
        rw [hpn, Int.toNat_natCast, hb, hrb, ht]
        rfl
      have eP : fnP K T raws masks (n : Int) = K.hP T (joinB (rcdL raws masks 3 m)) := by unfold fnP; rw [if_pos hfb, eW]
      have eO : fnOk K T raws masks (n : Int) = decide (K.hS T (joinB (rcdL raws masks 3 m)) = (lookR K T raws masks 2).body.extract 2 34) := by
        unfold fnOk
        rw [hfb, eW]
        rfl
      have hlen := rcdL_length raws masks 3 m
      have hsz := rcdL_sizes raws masks 3 m
      have hjl := joinB_le _ hsz
      have hjs := joinB_size (rcdL raws masks 3 m)
      have hbody := hbs hyes.1
      have htog := fun (oz : Option Addr) (cz : Nat) W (hW : Wts W (.slice oz (rcdL raws masks 3 m).length cz) (rcdL raws masks 3 m)) => together_any n q s2 t _ _ W hW (by omega) hn
      rw [ht] at htog
      have hjoin := fun (oz : Option Addr) (cz : Nat) W (hW : Wts W (.slice oz (rcdL raws masks 3 m).length cz) (rcdL raws masks 3 m)) => joined_any _ _ W hW (by omega) hsz
      have hvo : ∀ W, Below w.heap.size w W → VOut K F w T W := fun W hW => VOut.start HK hl hW
      have hhash := fun W (hW : Below w.heap.size w W) => VOut.hash HK (joinB (rcdL raws masks 3 m)) (by omega) hr (hvo W hW)
      have eFS : fnS K T raws masks (n : Int) = if K.hS T (joinB (rcdL raws masks 3 m)) = (lookR K T raws masks 2).body.extract 2 34 then piS (lookR K T raws masks 2) (n : Int) else Sp.zero := by
        unfold fnS
        rw [eO]
        by_cases h : K.hS T (joinB (rcdL raws masks 3 m)) = (lookR K T raws masks 2).body.extract 2 34
        · rw [if_pos h, if_pos (decide_eq_true h)]
        · rw [if_neg h, if_neg (by simpa using h)]
      have HF := found_yes K.v n q s2 t oa ob ca cb raws masks (lookR K T raws masks 2).ok (lookR K T raws masks 2).h (lookR K T raws masks 2).body m (piS (lookR K T raws masks 2) (n : Int)).vol (piS (lookR K T raws masks 2) (n : Int)).ep (piS (lookR K T raws masks 2) (n : Int)).nx (piS (lookR K T raws masks 2) (n : Int)).lv (piS (lookR K T raws masks 2) (n : Int)).root w hlook (fun W => by
          have := hpi W
          rw [hpn, hb] at this
          exact this) (rcdL raws masks 3 m) (joinB (rcdL raws masks 3 m)) (K.hS T (joinB (rcdL raws masks 3 m))) ((lookR K T raws masks 2).body.extract 2 34) (fnS K T raws masks (n : Int)).arr (fnOk K T raws masks (n : Int)) rfl (fun h => ⟨by rw [eFS, if_pos h]; rfl, by rw [eO]; exact decide_eq_true h⟩) (fun h => ⟨by rw [eFS, if_neg h]; rfl, by rw [eO]; exact decide_eq_false h⟩) (VOut K F w (K.hP T (joinB (rcdL raws masks 3 m)))) (VOut.stb HK) hbody (fun W hW => (hrcd W hW).mono fun e w' ⟨v', he, hy, _, hbb⟩ => by
          have hz := hy hrb
          obtain ⟨oz, cz, rfl⟩ := hz.form
          exact ⟨oz, cz, by rw [he, hrb], hz, hbb⟩) htog hjoin hhash
      refine HF.mono fun e w' ⟨v', he, hp, hw⟩ => ⟨⟨v', he, fun h => by rw [eW]; exact hw h⟩, ?_, hp.2⟩
      rw [eP]
      exact hp.lies HK
    · have hrb' : rcdB raws masks 3 m = false := Bool.eq_false_iff.2 hrb
      have hfb : fnB K T raws masks (n : Int) = false := by
        unfold fnB
        rw [hpn, Int.toNat_natCast, hrb', Bool.and_false, Bool.false_and]
      have eO : fnOk K T raws masks (n : Int) = false := by unfold fnOk; rw [hfb]; rfl
      have eP : fnP K T raws masks (n : Int) = T := by unfold fnP; rw [if_neg (by rw [hfb]; decide)]
      have eFS : fnS K T raws masks (n : Int) = Sp.zero := by unfold fnS; rw [if_neg (by rw [eO]; decide)]
      have HF := found_rno K.v n q s2 t oa ob ca cb raws masks (lookR K T raws masks 2).ok (lookR K T raws masks 2).h (lookR K T raws masks 2).body m (piS (lookR K T raws masks 2) (n : Int)).vol (piS (lookR K T raws masks 2) (n : Int)).ep (piS (lookR K T raws masks 2) (n : Int)).nx (piS (lookR K T raws masks 2) (n : Int)).lv (piS (lookR K T raws masks 2) (n : Int)).root w hlook (fun W => by
          have := hpi W
          rw [hpn, hb] at this
          exact this) (fun W hW => (hrcd W hW).mono fun e w' ⟨v', he, _, hv, hbb⟩ => by
          obtain rfl := hv hrb'
          exact ⟨by rw [he, hrb'], hbb⟩)
      refine HF.mono fun e w' ⟨he, hbb⟩ => ⟨⟨_, by rw [eFS, eO]; exact he, fun h => by rw [eO] at h; cases h⟩, ?_, Touch.of_below hbb⟩
      rw [eP]
      exact HK.below hl hbb
  · have hb' : piB (lookR K T raws masks 2) (n : Int) = false := Bool.eq_false_iff.2 hb
    have hfb : fnB K T raws masks (n : Int) = false := by
      unfold fnB
      rw [hb', Bool.false_and, Bool.false_and]
    have eO : fnOk K T raws masks (n : Int) = false := by unfold fnOk; rw [hfb]; rfl
    have eP : fnP K T raws masks (n : Int) = T := by unfold fnP; rw [if_neg (by rw [hfb]; decide)]
    have eFS : fnS K T raws masks (n : Int) = Sp.zero := by unfold fnS; rw [if_neg (by rw [eO]; decide)]
    have HF := found_pno K.v n q s2 t oa ob ca cb raws masks (lookR K T raws masks 2).ok (lookR K T raws masks 2).h (lookR K T raws masks 2).body (piN (lookR K T raws masks 2) (n : Int)) (piS (lookR K T raws masks 2) (n : Int)) w hlook (fun W => by
        have := hpi W
        rw [hb'] at this
        exact this)
    refine HF.mono fun e w' ⟨he, hbb⟩ => ⟨⟨_, by rw [eFS, eO]; exact he, fun h => by rw [eO] at h; cases h⟩, ?_, Touch.of_below hbb⟩
    rw [eP]
    exact HK.below hl hbb
theorem found_duo (K : VK) (HK : VKOk K) (F : Nat → Prop) (B : Nat) (P : PS) (T : K.σ) (hr : K.room T 1) (hO : ∀ r, K.oE T r = 0 → (K.oS T r).size = 448) (n q s2 t : Nat) (hn : n ≤ 1024) (oa ob : Option Addr) (ca cb : Nat) (raws : List ByteArray) (masks : List Int) (w : World) (h : Duo K w F B P T) (h1 : List1 Value.string w (.slice oa raws.length ca) raws) (h2 : List1 (Value.int .i64) w (.slice ob masks.length cb) masks)
    (hway : piB (lookR K T raws masks 2) (n : Int) = true → rcdB raws masks 3 (piN (lookR K T raws masks 2) (n : Int)).toNat = true → togB 27 (n : Int) (fnW K T raws masks (n : Int)) = true) :
    Calls Tryz.prog 47 #[K.v, .agg (layA n q s2 t), .agg #[.slice oa raws.length ca, .slice ob masks.length cb]] w fun e w' => FnE K w T raws masks n e w' ∧ Duo K w' F B P (fnP K T raws masks (n : Int)) ∧ Touch F w w' :=
  h.vaultW (E := FnE K w T raws masks n) fun F2 hl _ => found_lies K HK F2 T hr hO n q s2 t hn oa ob ca cb raws masks w hl h1 h2 hway
end Go.Proofs.YtbmjablmmlnieaaGreatDoor

namespace Go.Proofs.YtbmjablmmlnieaaGreatDoor
set_option maxRecDepth 20000
open Go.RowKit

set_option maxRecDepth 100000 in
theorem blank12_eq : (⟨(Lib.repeatL (⟨#[0]⟩ : ByteArray).data.toList 12).toArray⟩ : ByteArray) = fillS 0 12 := by rfl
theorem jzeros_any (n : Nat) (hn : n = 12 ∨ n = 512) (w : World) : Calls Tryz.prog 70 #[.int .i64 (n : Int)] w fun e w' => e = .returned (.string (fillS 0 n)) ∧ Below w.heap.size w w' := by
  have hr : ∀ w : World, Calls Tryz.prog 26 #[.string ⟨#[0]⟩, .int .i64 (n : Int)] w fun e w' => e = .returned (.string (fillS 0 n)) ∧ Below w.heap.size w w' := fun w => by
    rcases hn with rfl | rfl
    · have h := Any.strings_Repeat pl_lays105 pl_Builder_Extra_105 ⟨#[0]⟩ 12 w (by decide) (by decide)
      rw [blank12_eq] at h
      exact h
    · have h := Any.strings_Repeat pl_lays105 pl_Builder_Extra_105 ⟨#[0]⟩ 512 w (by decide) (by decide)
      rw [blank512_eq] at h
      exact h
  generalize fillS 0 n = z at *
  clear hn
  go_enter Tryz.func70, Tryz.ntmps70
  go_wp2_with fail
  refine (hr _).mono ?_
  rintro e w1 ⟨rfl, hb⟩
  have HB : Hid _ := hb
  clear hb hr
  go_wp2
  go_ret
  exact ⟨rfl, HB.out⟩
theorem blank_ret (tmps : Array Value) (g : Nat) (w' : World) (cs : Array Value) (R : Ending → World → Prop) (h1 : tmps.getD 2 undef = .pointer (some ⟨g, 0, none⟩)) (hg : w'.heap[g]? = some (.cells cs 48 (0, 0))) (hs : cs.size = 2) (hR : R (.returned (.agg cs)) w') :
    bodyPost Tryz.prog Tryz.f38 R .ret { tmps := tmps, defers := [] } w' :=
  bodyPost_ret (v := .agg cs) (results_cell_row Tryz.results38 tmps w' g 48 cs (0, 0) _ h1 hg Tryz.underlying48 rfl (by rw [hs]; kernel_rfl)) rfl hR
set_option maxHeartbeats 4000000 in
theorem jblank_any (a : Int) (w : World) : Calls Tryz.prog 38 #[.int .i64 a] w fun e w' => e = .returned (.agg #[.int .i64 a, .string (fillS 0 512)]) ∧ Below w.heap.size w w' := by
  have hz := fun w => jzeros_any 512 (.inr rfl) w
  generalize fillS 0 512 = z at *
  go_enter Tryz.func38, Tryz.ntmps38
  go_wp2_with fail
  refine (hz _).mono ?_
  rintro e w1 ⟨rfl, hb1⟩
  have g0 := (hb1.block w.heap.size (by simp)).trans (heap_alloc_new w _)
  have hbw : Below w.heap.size w w1 := (below_new w _).trans (hb1.mono (by simp))
  clear hb1 hz
  go_wp2_with (refine wpList_store_row rfl 48 _ _ rfl w.heap.size #[.int .i64 a, .string z] rfl rfl 48 _ g0 (by kernel_rfl) rfl (by simp [Value.oneCell']) ?_)
  exact blank_ret _ w.heap.size _ #[.int .i64 a, .string z] _ rfl (setRow_heap _ _ _ _ _ _ g0) rfl ⟨rfl, hbw.trans ⟨rfl, rfl, rfl, by simp [World.setRow], fun k hk => setRow_other _ _ _ _ (by omega)⟩⟩
set_option maxHeartbeats 4000000 in
theorem isOf_any (p : Value) (sc : Int) (s : Sp) (w : World) (hS : ∀ W, Below w.heap.size w W → Calls Tryz.prog 60 #[p] W fun e W' => e = .returned (.int .i64 sc) ∧ W' = W) :
    Calls Tryz.prog 33 #[p, .agg s.arr] w fun e w' => e = .returned (.bool (decide (loE sc = 0 ∧ loN sc = s.lv))) ∧ Below w.heap.size w w' := by
  obtain ⟨a0, a1, a2, a3, r⟩ := s
  simp only [Sp.arr]
  have hb0 : Below w.heap.size w (w.alloc (.cells #[.int .i64 a0, .int .i64 a1, .int .i64 a2, .int .i64 a3, .string r] 33)) := (Below.refl _ _).alloc (Nat.le_refl _) _
  have hl := live_any p sc (w.alloc (.cells #[.int .i64 a0, .int .i64 a1, .int .i64 a2, .int .i64 a3, .string r] 33)) fun W hW => hS W (hb0.trans (hW.mono hb0.size))
  have g0 := heap_alloc_new w (.cells #[.int .i64 a0, .int .i64 a1, .int .i64 a2, .int .i64 a3, .string r] 33)
  generalize loE sc = E at *
  generalize loN sc = N at *
  clear hS
  go_enter Tryz.func33, Tryz.ntmps33
  go_wp2_with fail
  refine hl.mono ?_
  rintro e w1 ⟨rfl, hb1⟩
  have g1 := (hb1.block w.heap.size (by simp)).trans g0
  have c3 : w1.cell? ⟨w.heap.size, 3, none⟩ = some (.int .i64 a3) := by simp [World.cell?, g1]
  have HB : Hid (Below w.heap.size w w1) := hb0.trans (hb1.mono hb0.size)
  clear hl hb0 hb1 g0 g1
  by_cases h1 : E = 0
  · subst h1
    by_cases h2 : N = a3
    · have h3 : (N == a3) = true := by simp [h2]
      go_wp2
      go_ret
      exact ⟨by simp, HB.out⟩
    · have h3 : (N == a3) = false := by simp [h2]
      go_wp2
      go_ret
      exact ⟨by simp, HB.out⟩
  · have h3 : (E == 0) = false := by simp [h1]
    go_wp2
    go_ret
    exact ⟨by simp [h1], HB.out⟩
set_option maxHeartbeats 4000000 in
theorem unseal_any (K : VK) (HK : VKOk K) (F : Nat → Prop) (S : K.σ) (s : Sp) (w : World) (hr : K.room S 0) (hl : K.lies w F S) :
    Calls Tryz.prog 34 #[K.v, .agg s.arr] w fun e w' => e = .returned (.int .i64 s.err) ∧ Below w.heap.size w w' := by
  have hp := fun w => super_any s.vol s.ep s.nx s.lv s.root w
  have hz := fun w => jzeros_any 12 (.inl rfl) w
  have hq := fun (w' : World) (hb : Below w.heap.size w w') => HK.probe F S w' hr (HK.below hl hb)
  have he : s.err = superE s.vol s.ep s.nx s.lv s.root := rfl
  rw [he]
  obtain ⟨a0, a1, a2, a3, r⟩ := s
  simp only [Sp.arr] at *
  generalize superE a0 a1 a2 a3 r = E at *
  generalize superS a0 a1 a2 a3 r = T at *
  generalize fillS 0 12 = Z at *
  generalize K.v = v at *
  clear hr hl he
  by_cases h1 : E = 0
  · subst h1
    go_enter Tryz.func34, Tryz.ntmps34
    go_wp2_with fail
    refine (hp _).mono ?_
    rintro e w1 ⟨rfl, hb1⟩
    have hbw : Below w.heap.size w w1 := (below_new w _).trans (hb1.mono (by simp))
    clear hb1 hp
    go_wp2_with fail
    refine (hz _).mono ?_
    rintro e w2 ⟨rfl, hb2⟩
    have hbx : Below w.heap.size w w2 := hbw.trans (hb2.mono hbw.size)
    clear hb2 hz hbw
    go_wp2_with fail
    refine (hq _ hbx).mono ?_
    rintro e w3 ⟨rfl, hb3⟩
    have HB : Hid (Below w.heap.size w w3) := hbx.trans (hb3.mono hbx.size)
    clear hb3 hbx hq
    go_wp2
    go_ret
    exact ⟨rfl, HB.out⟩
  · have h3 : (E != 0) = true := by simpa using h1
    go_enter Tryz.func34, Tryz.ntmps34
    go_wp2_with fail
    refine (hp _).mono ?_
    rintro e w1 ⟨rfl, hb1⟩
    have HB : Hid (Below w.heap.size w w1) := (below_new w _).trans (hb1.mono (by simp))
    clear hb1 hp hz hq h1
    go_wp2
    go_ret
    exact ⟨rfl, HB.out⟩
end Go.Proofs.YtbmjablmmlnieaaGreatDoor

namespace Go.Proofs.YtbmjablmmlnieaaGreatDoor
set_option maxRecDepth 20000
open Go.RowKit

theorem json_ret (tmps : Array Value) (g : Nat) (w' : World) (a : Int) (r : ByteArray) (y : Int) (R : Ending → World → Prop) (h1 : tmps.getD 6 undef = .pointer (some ⟨g, 0, none⟩)) (h2 : tmps.getD 7 undef = .int .i64 y) (hg : w'.heap[g]? = some (.cells #[.int .i64 a, .string r] 48 (0, 0))) (hR : R (.returned (.tuple #[.agg #[.int .i64 a, .string r], .int .i64 y])) w') :
    bodyPost Tryz.prog Tryz.f35 R .ret { tmps := tmps, defers := [] } w' := by
  have hr := run_loadVar_row (P := Tryz.prog) w' g 48 48 #[.int .i64 a, .string r] (0, 0) _ hg Tryz.underlying48 rfl (by kernel_rfl)
  simp at h1 h2
  exact bodyPost_ret (v := .tuple #[.agg #[.int .i64 a, .string r], .int .i64 y]) (by simp [results, Tryz.results35, asAddr, hr, h1, h2]) rfl hR
set_option maxHeartbeats 4000000 in
theorem superOn_in (p v : Value) (u : Bool) (a0 a1 a2 a3 : Int) (r R : ByteArray) (A E A' E' : Int) (R' : ByteArray) (P : World → Prop) (w : World) (hP : Stb w.heap.size P)
    (hup : ∀ W, Below w.heap.size w W → Calls Tryz.prog 40 #[p] W fun e W' => e = .returned (.bool u) ∧ W' = W)
    (hno : u = false → (∀ W, Below w.heap.size w W → P W) ∧ A' = 0 ∧ R' = ⟨#[]⟩ ∧ E' = 20)
    (hyes : u = true → A' = A ∧ R' = R ∧ E' = E ∧ ∀ W, Below w.heap.size w W → Calls Tryz.prog 42 #[v, .agg #[.int .i64 a0, .int .i64 a1, .int .i64 a2, .int .i64 a3, .string r]] W fun e w'' => e = .returned (.tuple #[.agg #[.int .i64 A, .string R], .int .i64 E]) ∧ P w'' ∧ Kept w.heap.size W w'' ∧ W.heap.size ≤ w''.heap.size) :
    Calls Tryz.prog 35 #[p, v, .agg #[.int .i64 a0, .int .i64 a1, .int .i64 a2, .int .i64 a3, .string r]] w fun e w' => e = .returned (.tuple #[.agg #[.int .i64 A', .string R'], .int .i64 E']) ∧ P w' := by
  have hb0 : Below w.heap.size w ((w.alloc (.cells #[.int .i64 a0, .int .i64 a1, .int .i64 a2, .int .i64 a3, .string r] 33)).alloc (.cells #[.int .i64 0, .string ⟨#[]⟩] 48)) := ((Below.refl _ _).alloc (Nat.le_refl _) _).alloc (by simp) _
  have hu := hup _ hb0
  cases u with
  | false =>
    obtain ⟨h1, rfl, rfl, rfl⟩ := hno rfl
    have HF : Hid _ := h1 _ hb0
    clear hyes hno hup h1 hP hb0
    go_enter Tryz.func35, Tryz.ntmps35
    go_wp2_with fail
    refine hu.mono ?_
    rintro e w1 ⟨rfl, rfl⟩
    clear hu
    go_wp2
    exact json_ret _ (w.heap.size + 1) _ 0 ⟨#[]⟩ 20 _ rfl rfl (heap_alloc2_new w _ _) ⟨rfl, HF.out⟩
  | true =>
    obtain ⟨rfl, rfl, rfl, h1⟩ := hyes rfl
    have hs := h1 _ hb0
    clear hyes hno hup h1
    go_enter Tryz.func35, Tryz.ntmps35
    go_wp2_with fail
    refine hu.mono ?_
    rintro e w1 ⟨rfl, rfl⟩
    clear hu
    go_wp2_with fail
    refine hs.mono ?_
    rintro e w2 ⟨rfl, hp2, hk2, hz2⟩
    have g2 : w2.heap[w.heap.size + 1]? = some (.cells #[.int .i64 0, .string ⟨#[]⟩] 48 (0, 0)) := (hk2 _ (by omega) (by simp)).trans (heap_alloc2_new w _ _)
    have HP2 : Hid (∀ cs, P (w2.setRow (w.heap.size + 1) cs)) := fun cs => hP _ _ hp2 (below_setRow (Below.refl _ _) (by omega) _)
    clear hs hp2 hk2 hz2 hb0
    go_wp2_with (refine wpList_store_row rfl 48 _ _ rfl (w.heap.size + 1) #[.int .i64 A', .string R'] rfl rfl 48 _ g2 (by kernel_rfl) rfl (by simp [Value.oneCell']) ?_)
    exact json_ret _ (w.heap.size + 1) _ A' R' E' _ rfl rfl (setRow_heap _ _ _ _ _ _ g2) ⟨rfl, HP2.out _⟩
/-- What superOn tells. -/
def sonE (P : PS) (s : Sp) : Int := if P.up then supE s else 20
def sonA (P : PS) (s : Sp) : Int := if P.up then supA s else 0
def sonR (K : VK) (P : PS) (S : K.σ) (s : Sp) : ByteArray := if P.up then supR K S s else ⟨#[]⟩
def sonS (K : VK) (P : PS) (S : K.σ) (s : Sp) : K.σ := if P.up then supP K S s else S
theorem superOn_any (K : VK) (HK : VKOk K) (F : Nat → Prop) (B : Nat) (P : PS) (S : K.σ) (s : Sp) (w : World) (h : Duo K w F B P S) (hr : K.room S 1) :
    Calls Tryz.prog 35 #[.pointer (some ⟨B, 0, none⟩), K.v, .agg s.arr] w fun e w' => e = .returned (.tuple #[.agg #[.int .i64 (sonA P s), .string (sonR K P S s)], .int .i64 (sonE P s)]) ∧ Duo K w' F B P (sonS K P S s) ∧ Touch F w w' := by
  refine h.vaultC (E := fun e => e = .returned (.tuple #[.agg #[.int .i64 (sonA P s), .string (sonR K P S s)], .int .i64 (sonE P s)])) fun F2 hl _ => ?_
  refine (superOn_in (.pointer (some ⟨B, 0, none⟩)) K.v P.up s.vol s.ep s.nx s.lv s.root (supR K S s) (supA s) (supE s) (sonA P s) (sonE P s) (sonR K P S s) (VOut K F2 w (sonS K P S s)) w (VOut.stb HK) (fun W hb => (h.below HK hb).up) (fun hu => ?_) (fun hu => ?_)).mono fun e w' ⟨h1, h2⟩ => ⟨h1, h2.lies HK, h2.2⟩
  · unfold sonS sonA sonR sonE
    rw [hu]
    exact ⟨fun W hb => VOut.start HK hl hb, rfl, rfl, rfl⟩
  · unfold sonS sonA sonR sonE
    rw [hu]
    refine ⟨rfl, rfl, rfl, fun W hb => ?_⟩
    exact jsuper_any K HK F2 S s hr (VOut.start HK hl hb) hb.size
theorem isOf_duo (K : VK) (HK : VKOk K) (F : Nat → Prop) (B : Nat) (P : PS) (S : K.σ) (s : Sp) (w : World) (h : Duo K w F B P S) :
    Calls Tryz.prog 33 #[.pointer (some ⟨B, 0, none⟩), .agg s.arr] w fun e w' => e = .returned (.bool (decide (loE (P.kept.length : Nat) = 0 ∧ loN (P.kept.length : Nat) = s.lv))) ∧ Below w.heap.size w w' :=
  isOf_any _ _ s w fun _ hb => (h.below HK hb).sectors
theorem unseal_duo (K : VK) (HK : VKOk K) (F : Nat → Prop) (B : Nat) (P : PS) (S : K.σ) (s : Sp) (w : World) (h : Duo K w F B P S) (hr : K.room S 0) :
    Calls Tryz.prog 34 #[K.v, .agg s.arr] w fun e w' => e = .returned (.int .i64 s.err) ∧ Below w.heap.size w w' :=
  h.lookC fun F2 hl => unseal_any K HK F2 S s w hr hl
end Go.Proofs.YtbmjablmmlnieaaGreatDoor
