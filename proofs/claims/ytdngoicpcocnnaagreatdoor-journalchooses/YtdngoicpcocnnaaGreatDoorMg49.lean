/- The laws' awake: what is committed is found. · journal at a nil device: all that JournalNobody asks of the program but its awake. · The document's Live. · The law JournalLives returns true. · What a world holds where package errors' handle is laid. -/
import Derived.Test.YtdngoicpcocnnaaGreatDoorMg43
import Derived.Test.YtdngoicpcocnnaaGreatDoorMg45
import Derived.Test.YtdngoicpcocnnaaGreatDoorMg44
import Derived.Test.YtdngoicpcocnnaaGreatDoorMg48
import Derived.Test.YtdngoicpcocnnaaGreatDoorMg22
import Derived.Test.YtdngoicpcocnnaaGreatDoorMg12
import Derived.Test.YtdngoicpcocnnaaGreatDoorMg46
import Derived.Test.YtdngoicpcocnnaaGreatDoorMg26
import Derived.Test.YtdngoicpcocnnaaGreatDoorMg40
import Derived.Test.YtdngoicpcocnnaaGreatDoorMg15
import Derived.Test.YtdngoicpcocnnaaGreatDoorRows
import Derived.Lib.LaidTab
namespace Go.Proofs.YtdngoicpcocnnaaGreatDoor
set_option maxRecDepth 20000
open Go.RowKit

theorem sonS_up (K : VK) (P : PS) (S : K.σ) (s : Sp) (h : P.up = true) : sonS K P S s = supP K S s := if_pos h
theorem blks_one (w : World) (g : Nat) (t cap : Nat) (hg : g = w.heap.size) : Blks (w.alloc (.cells #[.int .i64 40, .int .u8 1, .bool false] t)) (.slice (some ⟨g, 0, none⟩) 1 cap) [aB] := by
  subst hg
  have g := heap_alloc_new w (.cells #[.int .i64 40, .int .u8 1, .bool false] t)
  refine .inr ⟨w.heap.size, 0, cap, rfl, by simp, fun i x hx => ?_⟩
  have hi : i = 0 := by have := (List.getElem?_eq_some_iff.1 hx).1; simp at this; omega
  subst hi
  cases hx
  exact ⟨cell_of_row _ _ 0 _ _ _ g, cell_of_row _ _ 1 _ _ _ g, cell_of_row _ _ 2 _ _ _ g⟩
theorem awk_fmt (F : Nat → Prop) (B V : Nat) (w : World) (h : Duo (idealK V) w F B (newP 784) newV) (hg : ErrT w) (hF : ¬ F 0) :
    Calls Tryz.prog 17 #[.pointer (some ⟨B, 0, none⟩), .pointer (some ⟨V, 0, none⟩), .agg (lawSp 48 0).arr] w fun e w' => e = .returned (.int .i64 0) ∧ Duo (idealK V) w' (grow F w w') B (aP1 V) (aS1 V) ∧ Touch F w w' := by
  obtain ⟨e0, h0, _⟩ := law_err 0 (.inl rfl)
  obtain ⟨x0, _, _⟩ := sup_sealed V newV e0 h0
  have hup : (newP 784).up = true := rfl
  have hl : (newP 784).kept.length = 784 := by show (List.replicate 784 (fillS 0 64)).length = 784; rw [List.length_replicate]
  have hE : sonE (newP 784) (lawSp 48 0) = 0 := by unfold sonE; rw [if_pos hup]; exact x0
  have hA : sonA (newP 784) (lawSp 48 0) = 0 := by unfold sonA; rw [if_pos hup]; unfold supA; rw [if_pos x0]; rfl
  have hR : sonR (idealK V) (newP 784) newV (lawSp 48 0) = aR0 V := by unfold sonR; rw [if_pos hup]; rfl
  have hS : sonS (idealK V) (newP 784) newV (lawSp 48 0) = aS1 V := sonS_up (idealK V) _ _ _ hup
  have hroom : (idealK V).room newV 1 := by show (0 : Nat) + 1 ≤ 1000000 ∧ (0 : Nat) + 1 ≤ 1000000; omega
  have q := format_in (idealK V) (idealOk V) F B (newP 784) newV (lawSp 48 0) w 0 (aR0 V) h hroom (by show (0 : Nat) ≤ 100000; omega) hg hF (by rw [hl]; exact ⟨a784.1, a784.2.1⟩) e0 hE hA ⟨by decide, by decide⟩ hR
  rw [hS, (aP1_fine V).1] at q
  exact q
theorem awk_com (F : Nat → Prop) (B V : Nat) (oa : Option Addr) (ca : Nat) (w : World) (h : Duo (idealK V) w F B (aP1 V) (aS1 V)) (hg : ErrT w) (hF : ¬ F 0) (hv : WtO F w (.slice oa aW.length ca) aW) :
    Calls Tryz.prog 19 #[.pointer (some ⟨B, 0, none⟩), .pointer (some ⟨V, 0, none⟩), .slice oa aW.length ca, .agg (lawSp 48 1).arr] w fun e w' => e = .returned (.int .i64 0) ∧ Duo (idealK V) w' (grow F w w') B (aP2 V) (aS3 V) ∧ Touch F w w' := by
  obtain ⟨e1, h1, c1⟩ := law_err 1 (.inr rfl)
  have hro := aS_room V
  have hr1 : (idealK V).room (aS1 V) 2 := by
    show (aS1 V).texts.length + 2 ≤ 1000000 ∧ (aS1 V).seals.length + 2 ≤ 1000000
    omega
  have hr2 : (idealK V).room (aS2 V) 1 := by
    show (aS2 V).texts.length + 1 ≤ 1000000 ∧ (aS2 V).seals.length + 1 ≤ 1000000
    omega
  have hwl : aW.length ≤ 24 := by rw [aW_eq]; decide
  have hsz : ∀ x ∈ aW, x.raw.size ≤ 512 := by
    intro x hx
    rw [aW_eq, List.mem_singleton] at hx
    subst hx
    exact Nat.le_of_eq aW_raw
  obtain ⟨p0, _, _⟩ := pro_sealed V (aS1 V) (l := aW) ((idealOk V).less hr1 (by decide)) hwl e1 c1
  obtain ⟨x0, _, _⟩ := sup_sealed V (aS2 V) e1 h1
  have hpA : proA (idealK V) (aS1 V) aW (lawSp 48 1) = 2 := by unfold proA; rw [if_pos p0]
  have hsA : supA (lawSp 48 1) = 1 := by unfold supA; rw [if_pos x0]; rfl
  obtain ⟨hf, hfi, hwt, _⟩ := aP1_fine V
  have hl : (aP1 V).kept.length = 784 := hfi.len
  have q := commit_in (idealK V) (idealOk V) F B (aP1 V) (aS1 V) 7 1 5 (fillS 3 32) 48 (layQ 48) (layS 48) (layT 48) oa ca aW w 2 1 (aRp V) (aR1 V) (aS2 V) (aS3 V) h (by rw [hwt]; decide) hg hF hv hwl (by decide) hfi.up aTogW (fun W hW => by
      have q := layoutOf_any (.pointer (some ⟨B, 0, none⟩)) ((aP1 V).kept.length : Nat) W fun W2 h2 => ((h.below (idealOk V) hW).below (idealOk V) h2).sectors
      rw [hl] at q
      have e784 : (((784 : Nat) : Int)) = 784 := rfl
      rw [e784, a784.1, a784.2.2] at q
      exact q) (fun W hW => by
      have q := unseal_duo (idealK V) (idealOk V) F B (aP1 V) (aS1 V) (lawSp 48 1) W (h.below (idealOk V) hW) ((idealOk V).less hr1 (by decide))
      rw [e1] at q
      exact q) (fun W hd hW => by
      have q := promise_duo (idealK V) (idealOk V) F B (aP1 V) (aS1 V) (lawSp 48 1) oa ca aW W hd hr1 hW hwl hsz
      rw [hpA, p0] at q
      exact q) (fun W hd => by
      have q := super_duo (idealK V) (idealOk V) F B (aP1 V) (aS2 V) (lawSp 48 1) W hd hr2
      rw [hsA, x0] at q
      exact q)
  rw [(aP2_fine V).1] at q
  exact q
theorem awk_rcv (F : Nat → Prop) (B V : Nat) (w : World) (h : Duo (idealK V) w F B (aP2 V) (aS3 V)) (hg : ErrT w) (hF : ¬ F 0) (hw : (aP2 V).wait.length ≤ 1000000) :
    Calls Tryz.prog 22 #[.pointer (some ⟨B, 0, none⟩), .pointer (some ⟨V, 0, none⟩)] w fun e w' => e = .returned (.tuple #[.agg (lawSp 48 1).arr, .int .i64 0, .int .i64 0]) ∧ Touch F w w' := by
  obtain ⟨P1, e1⟩ : ∃ P1, (bget (aP2 V) 0).2 = P1 := ⟨_, rfl⟩
  obtain ⟨P2, e2⟩ : ∃ P2, (bget P1 1).2 = P2 := ⟨_, rfl⟩
  obtain ⟨raws, er⟩ : ∃ l, rawsTo P2 (P2.kept.length / 8) = l := ⟨_, rfl⟩
  obtain ⟨masks, em⟩ : ∃ l, masksTo P2 (P2.kept.length / 8) = l := ⟨_, rfl⟩
  have H : AwR V P1 P2 raws masks := ⟨e1, e2, er, em⟩
  have hro := aS_room V
  have hr : (idealK V).room (aS3 V) 1 := by
    show (aS3 V).texts.length + 1 ≤ 1000000 ∧ (aS3 V).seals.length + 1 ≤ 1000000
    omega
  have hl := aP_len V
  have e784 : (((784 : Nat) : Int)) = 784 := rfl
  have q := recover_duo (idealK V) (idealOk V) F B (aP2 V) (aS3 V) aRg0 aRg1 (lawSp 48 1) P1 P2 48 raws masks w h hg hF hw hr (ideal_oSize V (aS3 V) (by omega)) (by decide) hl.2 (by rw [hl.1, e784]; exact ⟨a784.1, a784.2.2⟩) e1 e2 (aLoad0 V) (aLoad1 V H) aCho er em (fun _ _ => aTog V H) (fun hy => by
    have q := aFn V H hy
    have q2 : (fnS (idealK V) (aS3 V) raws masks ((48 : Nat) : Int)).ep = 1 := q
    rw [q2]
    show ¬ (1 : Int) = wrap64 (1 + 1)
    unfold wrap64
    omega)
  exact q.mono fun e w' ⟨a, _, c⟩ => ⟨a, c⟩
set_option maxHeartbeats 4000000 in
theorem jawake_any (w : World) (hg : ErrT w) : Calls Tryz.prog 9 #[] w fun e w' => e = .returned (.bool true) ∧ Below w.heap.size w w' := by
  have hn : ∀ W, Calls Tryz.prog 7 #[.int .i64 784] W fun e w' => ∃ B, e = .returned (.tuple #[.pointer (some ⟨B, 0, none⟩), .int .i64 0]) ∧ Plate w' (fun k => W.heap.size ≤ k ∧ k < w'.heap.size) B (newP 784) ∧ Below W.heap.size W w' := fun W => new_any 784 (by decide) W
  have hs0 := fun W => jlsup_any 48 0 W
  have hs1 := fun W => jlsup_any 48 1 W
  have HG : Hid (ErrT w) := hg
  clear hg
  go_enter Tryz.func9, Tryz.ntmps9
  go_wp2_with fail
  refine (jsectors_any _).mono ?_
  rintro e w1 ⟨rfl, hb1⟩
  have HB1 : Hid (Below w.heap.size w w1) := hb1
  clear hb1
  go_wp2_with fail
  refine (hn _).mono ?_
  rintro e w2 ⟨B, rfl, hp2, hb2⟩
  have HB2 : Hid (Plate w2 (fun k => w1.heap.size ≤ k ∧ k < w2.heap.size) B (newP 784) ∧ Below w1.heap.size w1 w2) := ⟨hp2, hb2⟩
  clear hn hp2 hb2
  go_wp2_with fail
  refine (ideal_any _).mono ?_
  rintro e w3 ⟨V, rfl, hv3, hb3⟩
  have hD : ∃ F : Nat → Prop, Duo (idealK V) w3 F B (newP 784) newV ∧ (∀ k, F k → w.heap.size ≤ k) := by
    refine ⟨fun k => w1.heap.size ≤ k ∧ k < w3.heap.size, ⟨_, _, HB2.out.1.below hb3, hv3, ?_, ?_, ?_, ?_⟩, ?_⟩
    · intro k h1 h2
      exact absurd h1.2 (by have := h2.1; omega)
    · exact fun k hk => ⟨hk.1, Nat.lt_of_lt_of_le hk.2 hb3.size⟩
    · exact fun k hk => ⟨Nat.le_trans HB2.out.2.size hk.1, hk.2⟩
    · exact fun k hk => hk.2
    · exact fun k hk => Nat.le_trans HB1.out.size hk.1
  obtain ⟨F, hD, hFl⟩ := hD
  have hbw3 : Below w.heap.size w w3 := (HB1.out.trans (HB2.out.2.mono HB1.out.size)).trans (hb3.mono (Nat.le_trans HB1.out.size HB2.out.2.size))
  have hFe : ¬ F 0 := fun h => by have q := hFl _ h; have q2 := lt_of_cell_ HG.out; omega
  have HD : Hid (Duo (idealK V) w3 F B (newP 784) newV ∧ (∀ k, F k → w.heap.size ≤ k) ∧ Below w.heap.size w w3 ∧ ErrT w3 ∧ ¬ F 0) := ⟨hD, hFl, hbw3, HG.out.below hbw3 (lt_of_cell_ HG.out), hFe⟩
  clear HB1 HB2 hv3 hb3 hD hFl hbw3 hFe
  go_wp2_with fail
  refine (hs0 _).mono ?_
  rintro e w4 ⟨rfl, hb4⟩
  have hd4 := HD.out.1.below (idealOk V) hb4
  have hg4 : ErrT w4 := HD.out.2.2.2.1.bel hb4
  have h5 := awk_fmt F B V w4 hd4 hg4 HD.out.2.2.2.2
  have HB4 : Hid (ErrT w4 ∧ Below w.heap.size w w4) := ⟨hg4, HD.out.2.2.1.trans (hb4.mono HD.out.2.2.1.size)⟩
  clear hs0 hb4 hd4 hg4
  go_wp2_with fail
  refine h5.mono ?_
  rintro e w5 ⟨rfl, hd5, ht5⟩
  have hF5 : ∀ k, grow F w4 w5 k → w.heap.size ≤ k := fun k hk => by
    rcases hk with hk | hk
    · exact HD.out.2.1 k hk
    · exact Nat.le_trans HB4.out.2.size hk.1
  have hb5 : Below w.heap.size w w5 := HB4.out.2.trans (ht5.below HB4.out.2.size HD.out.2.1)
  have hg5 : ErrT w5 := HB4.out.1.touch ht5 HD.out.2.2.2.2
  have hE5 : ¬ grow F w4 w5 0 := fun hk => by
    rcases hk with hk | hk
    · exact HD.out.2.2.2.2 hk
    · have q := lt_of_cell_ HB4.out.1; have q2 := hk.1; omega
  generalize grow F w4 w5 = F2 at *
  have HD5 : Hid (Duo (idealK V) w5 F2 B (aP1 V) (aS1 V) ∧ (∀ k, F2 k → w.heap.size ≤ k) ∧ Below w.heap.size w w5 ∧ ErrT w5 ∧ ¬ F2 0) := ⟨hd5, hF5, hb5, hg5, hE5⟩
  have hlt5 := hd5.lt
  have hw := fun g cap (hgg : g = w5.heap.size) => writes_l_any _ [aB] (w5.alloc (.cells #[.int .i64 40, .int .u8 1, .bool false] 75)) (blks_one w5 g _ cap hgg) (fun x hx => by rw [List.mem_singleton] at hx; subst hx; exact ⟨⟨1, rfl⟩, by decide⟩) (by decide)
  clear h5 hd5 ht5 hF5 hb5 hg5 hE5 HD HB4
  go_wp2_with fail
  refine (hw _ _ (by simp)).mono ?_
  rintro e w6 ⟨v', rfl, hwz, hb6⟩
  obtain ⟨oz, cz, rfl⟩ := hwz.form
  have hb56 : Below w5.heap.size w5 w6 := (bel_alloc w5 _).trans (hb6.mono (by simp))
  have HW6 : Hid (Wts w6 (.slice oz (wrsL [aB]).length cz) (wrsL [aB]) ∧ (∀ g o len cap, (.slice oz (wrsL [aB]).length cz : Value) = .slice (some ⟨g, o, none⟩) len cap → w5.heap.size ≤ g) ∧ Below w5.heap.size w5 w6) := ⟨hwz.wts.1, fun g o len cap e => by have q := (hwz.wts.2 g o len cap e).1; simp at q; omega, hb56⟩
  clear hw hwz hb6 hb56
  go_wp2_with fail
  refine (hs1 _).mono ?_
  rintro e w7 ⟨rfl, hb7⟩
  have hb57 : Below w5.heap.size w5 w7 := HW6.out.2.2.trans (hb7.mono HW6.out.2.2.size)
  have hd7 := HD5.out.1.below (idealOk V) hb57
  have hg7 : ErrT w7 := HD5.out.2.2.2.1.bel hb57
  have h8 := awk_com F2 B V oz cz w7 hd7 hg7 HD5.out.2.2.2.2 ⟨HW6.out.1.below hb7, fun _ g o len cap e hk => by have q := HW6.out.2.1 g o len cap e; have q2 := HD5.out.1.lt g hk; omega⟩
  have HB7 : Hid (ErrT w7 ∧ Below w.heap.size w w7) := ⟨hg7, HD5.out.2.2.1.trans (hb57.mono HD5.out.2.2.1.size)⟩
  clear hs1 hb7 hb57 hd7 hg7 hlt5
  go_wp2_with fail
  refine h8.mono ?_
  rintro e w8 ⟨rfl, hd8, ht8⟩
  have hF8 : ∀ k, grow F2 w7 w8 k → w.heap.size ≤ k := fun k hk => by
    rcases hk with hk | hk
    · exact HD5.out.2.1 k hk
    · exact Nat.le_trans HB7.out.2.size hk.1
  have hb8 : Below w.heap.size w w8 := HB7.out.2.trans (ht8.below HB7.out.2.size HD5.out.2.1)
  have hg8 : ErrT w8 := HB7.out.1.touch ht8 HD5.out.2.2.2.2
  have hE8 : ¬ grow F2 w7 w8 0 := fun hk => by
    rcases hk with hk | hk
    · exact HD5.out.2.2.2.2 hk
    · have q := lt_of_cell_ HB7.out.1; have q2 := hk.1; omega
  have h9 := awk_rcv _ B V w8 hd8 hg8 hE8 (by rw [aP2_wait]; decide)
  generalize grow F2 w7 w8 = F3 at *
  have HD8 : Hid ((∀ k, F3 k → w.heap.size ≤ k) ∧ Below w.heap.size w w8) := ⟨hF8, hb8⟩
  simp only [lawSp, Sp.arr] at h9
  clear h8 hd8 ht8 hF8 hb8 hg8 hE8 HB7 HW6 HD5
  go_wp2_with fail
  refine h9.mono ?_
  rintro e w9 ⟨rfl, ht9⟩
  have HF : Hid (Below w.heap.size w w9) := HD8.out.2.trans (ht9.below HD8.out.2.size HD8.out.1)
  clear h9 ht9 HD8
  generalize fillS 3 32 = rt at *
  go_wp2
  go_ret
  exact ⟨rfl, HF.out.alloc HF.out.size _⟩
end Go.Proofs.YtdngoicpcocnnaaGreatDoor

namespace Go.Proofs.YtdngoicpcocnnaaGreatDoor
set_option maxRecDepth 20000
open Go.RowKit

theorem up_nil (w : World) : Calls Tryz.prog 40 #[.pointer none] w fun e w' => e = .returned (.bool false) ∧ w' = w := by
  go_enter Tryz.func40, Tryz.ntmps40
  go_wp2
  go_ret
  exact ⟨rfl, rfl⟩
theorem sectors_nil (w : World) : Calls Tryz.prog 60 #[.pointer none] w fun e w' => e = .returned (.int .i64 0) ∧ w' = w := by
  go_enter Tryz.func60, Tryz.ntmps60
  go_wp2
  go_ret
  exact ⟨rfl, rfl⟩
theorem live_zero : liveO 0 = none := by
  cases h : liveO 0 with
  | none => rfl
  | some m =>
    have := liveO_some h
    unfold totI at this
    omega
theorem layoutOf_nil (w : World) : Calls Tryz.prog 27 #[.pointer none] w fun e w' => e = .returned (.tuple #[.agg layZ, .int .i64 30]) ∧ Below w.heap.size w w' := by
  have h := layoutOf_any (.pointer none) 0 w fun W _ => sectors_nil W
  unfold loA loE at h
  rw [live_zero] at h
  exact h
theorem live_nil (w : World) : Calls Tryz.prog 8 #[.pointer none] w fun e w' => e = .returned (.tuple #[.int .i64 0, .int .i64 30]) ∧ Below w.heap.size w w' := by
  have h := live_any (.pointer none) 0 w fun W _ => sectors_nil W
  unfold loN loE at h
  rw [live_zero] at h
  exact h
theorem isOf_nil (s : Sp) (w : World) : Calls Tryz.prog 33 #[.pointer none, .agg s.arr] w fun e w' => e = .returned (.bool false) ∧ Below w.heap.size w w' := by
  have h := isOf_any (.pointer none) 0 s w fun W _ => sectors_nil W
  have e : loE 0 = 30 := by unfold loE; rw [live_zero]
  rw [e, decide_eq_false (by omega)] at h
  exact h
theorem recover_nil (v : Value) (w : World) : Calls Tryz.prog 22 #[.pointer none, v] w fun e w' => e = .returned (.tuple #[.agg Sp.zero.arr, .int .i64 0, .int .i64 20]) ∧ Below w.heap.size w w' := recover_off _ v w fun W _ => up_nil W
theorem format_nil (v : Value) (s : Sp) (w : World) : Calls Tryz.prog 17 #[.pointer none, v, .agg s.arr] w fun e w' => e = .returned (.int .i64 1) ∧ Below w.heap.size w w' := format_bad _ v s.vol s.ep s.nx s.lv s.root w fun W _ => isOf_nil s W
theorem commit_nil (v : Value) (s : Sp) (w : World) : Calls Tryz.prog 19 #[.pointer none, v, .slice none 0 0, .agg s.arr] w fun e w' => e = .returned (.int .i64 1) ∧ Below w.heap.size w w' := commit_none _ v none 0 0 (by decide) s.vol s.ep s.nx s.lv s.root w fun W _ => layoutOf_nil W
theorem anew_nil (K : VK) (HK : VKOk K) (F : Nat → Prop) (S : K.σ) (s : Sp) (he : s.err = 0) (w : World) (hr : K.room S 0) (hl : K.lies w F S) : Calls Tryz.prog 25 #[.pointer none, K.v, .agg s.arr] w fun e w' => e = .returned (.int .i64 1) ∧ Below w.heap.size w w' :=
  anew_bad _ K.v s.vol s.ep s.nx s.lv s.root w (fun W hW => by
    have h := unseal_any K HK F S s W hr (HK.below hl hW)
    rw [he] at h
    exact h) fun W _ => isOf_nil s W
end Go.Proofs.YtdngoicpcocnnaaGreatDoor

namespace Go.Proofs.YtdngoicpcocnnaaGreatDoor
set_option maxRecDepth 20000
open Go.RowKit

set_option maxHeartbeats 4000000 in
theorem rlive_any (s : Int) (w : World) :
    Calls Tryz.prog 10 #[.int .i64 s] w fun e w' => e = .returned (.tuple #[.int .i64 (loN s), .int .i64 (loE s)]) ∧ Below w.heap.size w w' := by
  obtain ⟨X, hX⟩ : ∃ X, X = loN s := ⟨_, rfl⟩
  obtain ⟨Y, hY⟩ : ∃ Y, Y = loE s := ⟨_, rfl⟩
  rw [← hX, ← hY]
  have HX : Hid (X = loN s ∧ Y = loE s) := ⟨hX, hY⟩
  clear hX hY
  go_enter Tryz.func10, Tryz.ntmps10
  go_wp2_with fail
  go_loopw [4] (fun iv wr => ∃ k : Nat, iv = .int .i64 (k : Int) ∧ Hid (48 ≤ k ∧ k ≤ 1025 ∧ liveO s = lvGo s (1025 - k) k ∧ Below w.heap.size w wr)) (fun iv _ => 1025 - (intOf iv).toNat)
  case atStart => exact ⟨48, rfl, Nat.le_refl _, by omega, rfl, Below.refl _ _⟩
  case round =>
    obtain ⟨k, rfl, HR⟩ := hrel
    obtain ⟨hk, _, hgo, _⟩ := HR.out
    by_cases hlt : k ≤ 1024
    · have j1 : (k : Int) ≤ 1024 := by omega
      have hl := rlayout_any k hk hlt
      have hT := totI_bound hlt
      have HG : Hid ((totI k * 8 = s → X = (k : Int) ∧ Y = 0) ∧ (¬ totI k * 8 = s → liveO s = lvGo s (1025 - (k + 1)) (k + 1))) := by
        have e : liveO s = if totI k * 8 = s then some k else lvGo s (1025 - (k + 1)) (k + 1) := by rw [hgo, show 1025 - k = (1025 - (k + 1)) + 1 by omega]; rfl
        refine ⟨fun h => ?_, fun h => by rw [e, if_neg h]⟩
        rw [if_pos h] at e
        rw [HX.out.1, HX.out.2, loN, loE, e]
        exact ⟨rfl, rfl⟩
      clear hgo
      unfold totI at hT HG
      unfold layA at hl
      generalize layQ k = q at *
      generalize layS k = s2 at *
      generalize layT k = tt at *
      generalize (k : Int) + 1 + (tt : Int) + (k : Int) = t at *
      by_cases hs : t * 8 = s
      · have HXY : Hid (X = (k : Int) ∧ Y = 0) := HG.out.1 hs
        have hs3 : 8 * t = s := by omega
        clear HG
        subst hs
        have hs1 : (8 * t == t * 8) = true := by simp; omega
        go_wp2_with fail
        refine (hl _).mono ?_
        rintro e w1 ⟨rfl, hb1⟩
        have HB : Hid (Below w.heap.size w w1) := HR.out.2.2.2.trans (hb1.mono HR.out.2.2.2.size)
        clear hb1 hl HR
        go_wp2
        go_ret2
        exact ⟨by rw [HXY.out.1, HXY.out.2]; rfl, HB.out.alloc HB.out.size _⟩
      · have HN : Hid (liveO s = lvGo s (1025 - (k + 1)) (k + 1)) := HG.out.2 hs
        have hs1 : (8 * t == s) = false := by simp; omega
        have hs2 : ¬ 8 * t = s := by omega
        clear HG
        go_wp2_with fail
        refine (hl _).mono ?_
        rintro e w1 ⟨rfl, hb1⟩
        have HB : Hid (Below w.heap.size w w1) := HR.out.2.2.2.trans (hb1.mono HR.out.2.2.2.size)
        clear hb1 hl HR
        go_wp2
        go_roundw
        case rel => exact ⟨k + 1, by go_num, by omega, by omega, HN.out, HB.out.alloc HB.out.size _⟩
        case measure => simp [intOf]; omega
    · have j1 : ¬ (k : Int) ≤ 1024 := by omega
      have hk5 := HR.out.2.1
      have HE : Hid (X = 0 ∧ Y = 30) := by
        have e : liveO s = none := by rw [hgo, show 1025 - k = 0 by omega]; rfl
        rw [HX.out.1, HX.out.2, loN, loE, e]
        exact ⟨rfl, rfl⟩
      clear hgo
      go_wp2
      go_ret2
      exact ⟨by rw [HE.out.1, HE.out.2]; rfl, HR.out.2.2.2⟩
end Go.Proofs.YtdngoicpcocnnaaGreatDoor

namespace Go.Proofs.YtdngoicpcocnnaaGreatDoor
set_option maxRecDepth 20000
open Go.RowKit

set_option maxHeartbeats 4000000 in
theorem walk_journalLives (n : Int) (w : World) (hg : ErrT w) : Calls Tryz.prog 3 #[.int .i64 n] w fun e w' => e = .returned (.bool true) ∧ Below w.heap.size w w' := by
  have HG : Hid (ErrT w) := hg
  clear hg
  by_cases hc : 0 ≤ n ∧ n ≤ 32768
  · obtain ⟨m, rfl⟩ : ∃ m : Nat, n = (m : Int) := ⟨n.toNat, by omega⟩
    have hn := new_any m (by omega) w
    have hrl := fun W => rlive_any (m : Int) W
    clear hc
    go_enter Tryz.func3, Tryz.ntmps3
    go_wp2_with fail
    refine hn.mono ?_
    rintro e w1 ⟨B, rfl, hp, hb1⟩
    have hl : (newP m).kept.length = m := by show (List.replicate m (fillS 0 64)).length = m; rw [List.length_replicate]
    have h2 := live_any (.pointer (some ⟨B, 0, none⟩)) (m : Int) w1 (fun W hW => by
      have q := sectors_any B _ (newP m) W (hp.below hW)
      rw [hl] at q
      exact q)
    have HB1 : Hid (Below w.heap.size w w1) := hb1
    clear hn hp hb1 hl
    go_wp2_with fail
    refine h2.mono ?_
    rintro e w2 ⟨rfl, hb2⟩
    have HB2 : Hid (Below w.heap.size w w2) := HB1.out.trans (hb2.mono HB1.out.size)
    clear h2 hb2 HB1
    go_wp2_with fail
    refine (hrl _).mono ?_
    rintro e w3 ⟨rfl, hb3⟩
    have HB3 : Hid (Below w.heap.size w w3) := HB2.out.trans (hb3.mono HB2.out.size)
    have h4 := jawake_any w3 (HG.out.bel HB3.out)
    clear hrl hb3 HB2
    go_wp2_with fail
    refine h4.mono ?_
    rintro e w4 ⟨rfl, hb4⟩
    have HF : Hid (Below w.heap.size w w4) := HB3.out.trans (hb4.mono HB3.out.size)
    clear h4 hb4 HB3
    go_wp2
    go_ret
    exact ⟨rfl, HF.out⟩
  · have hn := new_bad n (by omega) w
    clear hc
    go_enter Tryz.func3, Tryz.ntmps3
    go_wp2_with fail
    refine hn.mono ?_
    rintro e w1 ⟨rfl, hb1⟩
    have HB1 : Hid (Below w.heap.size w w1) := by show Below w.heap.size w w1; rw [hb1]; exact Below.refl _ _
    clear hn hb1
    go_wp2_with fail
    refine (live_nil _).mono ?_
    rintro e w2 ⟨rfl, hb2⟩
    have HB2 : Hid (Below w.heap.size w w2) := HB1.out.trans (hb2.mono HB1.out.size)
    have h4 := jawake_any w2 (HG.out.bel HB2.out)
    clear hb2 HB1
    go_wp2_with fail
    refine h4.mono ?_
    rintro e w4 ⟨rfl, hb4⟩
    have HF : Hid (Below w.heap.size w w4) := HB2.out.trans (hb4.mono HB2.out.size)
    clear h4 hb4 HB2
    go_wp2
    go_ret
    exact ⟨rfl, HF.out⟩
end Go.Proofs.YtdngoicpcocnnaaGreatDoor

namespace Go.Proofs.YtdngoicpcocnnaaGreatDoor
set_option maxRecDepth 20000
open Go.RowKit

theorem errT_of_handles {W : World} (h : handlesMet Tryz.prog [("errors.errorType", Rows.laid_errors_errorType)] W) : ErrT W := by
  have h2 : ∃ name u ty, (Rows.laid_errors_errorType : DataW Unit).handleName? = some name ∧ (Tryz.prog.cutTypes.find? (·.1 == "internal/reflectlite.rtype")).map (·.2) = some u ∧ ty < Tryz.prog.types.size ∧ Tryz.prog.rowNamed ty name = true ∧ W.var? Tryz.prog "errors.errorType" = some #[.iface u (.agg #[typeHandle Tryz.prog ty])] := h _ (List.mem_singleton.2 rfl)
  obtain ⟨name, u, ty, hn, hu, hty, hr, hv⟩ := h2
  obtain rfl : name = [101, 114, 114, 111, 114] := (Option.some.inj ((show (Rows.laid_errors_errorType : DataW Unit).handleName? = some [101, 114, 114, 111, 114] by kernel_rfl).symm.trans hn)).symm
  obtain rfl : u = 206 := (Option.some.inj ((show (Tryz.prog.cutTypes.find? (·.1 == "internal/reflectlite.rtype")).map (·.2) = some 206 by kernel_rfl).symm.trans hu)).symm
  have hall : (List.range Tryz.prog.types.size).all (fun t => !Tryz.prog.rowNamed t [101, 114, 114, 111, 114] || t == 99) = true := by kernel_rfl
  have h1 := List.all_eq_true.1 hall ty (List.mem_range.2 hty)
  rw [hr] at h1
  obtain rfl : ty = 99 := by simpa using h1
  have hc := World.var?_cell (show Tryz.prog.globalNamed "errors.errorType" = some 0 by kernel_rfl) hv 0
  have hs : Tryz.prog.globals.size = 4 := by kernel_rfl
  rw [ErrT, hc]
  simp only [typeHandle, hs]
  rfl
end Go.Proofs.YtdngoicpcocnnaaGreatDoor
