/- What the laws' awake comes to: a device of 784 sectors, formatted and committed to once; nothing of the program's calls. · The law JournalAll: what a device and a vault are behind each cut; arithmetic, nothing of the program's calls. -/
import Derived.Test.YtbmjablmmlnieaaGreatDoorMg32
import Derived.Test.YtbmjablmmlnieaaGreatDoorMg34
import Derived.Test.YtbmjablmmlnieaaGreatDoorMg18
namespace Go.Proofs.YtbmjablmmlnieaaGreatDoor
set_option maxRecDepth 20000
open Go.RowKit

theorem fit_of {n a : Nat} {r : ByteArray} (h : 8 * a + 8 ≤ n) (hr : r.size = 512) : FitW n ⟨(a : Int), r⟩ := ⟨⟨a, rfl, h⟩, hr⟩
def aB : Blk := ⟨40, 1, false⟩
def aR0 (B : Nat) : ByteArray := supR (idealK B) newV (lawSp 48 0)
def aS1 (B : Nat) : VS := supP (idealK B) newV (lawSp 48 0)
def aP1 (B : Nat) : PS := folP [[⟨1 - 0, fillS 0 512⟩, ⟨2, fillS 0 512⟩], [⟨0, aR0 B⟩]] (newP 784)
def aW : List Wt := wrsL [aB]
def aS2 (B : Nat) : VS := proP (idealK B) (aS1 B) aW (lawSp 48 1)
def aRp (B : Nat) : ByteArray := proR (idealK B) (aS1 B) aW (lawSp 48 1)
def aS3 (B : Nat) : VS := supP (idealK B) (aS2 B) (lawSp 48 1)
def aR1 (B : Nat) : ByteArray := supR (idealK B) (aS2 B) (lawSp 48 1)
def aP2 (B : Nat) : PS := folP [recsL 3 0 aW, [⟨2, aRp B⟩], aW, [⟨1, aR1 B⟩]] (aP1 B)
theorem law_err (ep : Int) (h : ep = 0 ∨ ep = 1) : (lawSp 48 ep).err = 0 ∧ (lawSp 48 ep).hd.err = 0 ∧ (lawSp 48 ep).hdC.err = 0 := by
  have hf : (lawSp 48 ep).root.size = 32 := fillS_size 3 32
  rcases h with rfl | rfl
  all_goals
    refine ⟨?_, by decide, by decide⟩
    unfold Sp.err superE
    rw [if_pos hf]
    decide
theorem aW_eq : aW = [⟨40, aB.wt.raw⟩] := rfl
theorem aW_raw : aB.wt.raw.size = 512 := aB.raw_size
theorem aS_room (B : Nat) : (aS1 B).texts.length + 10 ≤ 100 ∧ (aS1 B).seals.length + 10 ≤ 100 ∧ (aS2 B).texts.length + 5 ≤ 100 ∧ (aS2 B).seals.length + 5 ≤ 100 ∧ (aS3 B).texts.length + 2 ≤ 100 ∧ (aS3 B).seals.length + 2 ≤ 100 := by
  obtain ⟨e0, h0, c0⟩ := law_err 0 (.inl rfl)
  obtain ⟨e1, h1, c1⟩ := law_err 1 (.inr rfl)
  obtain ⟨_, _, x1⟩ := sup_sealed B newV e0 h0
  have l1 := ideal_len newV (lawSp 48 0).hd (lawSp 48 0).txt
  rw [← x1] at l1
  have n0 : newV.texts.length = 0 := rfl
  have n1 : newV.seals.length = 0 := rfl
  have q1 : (aS1 B).texts.length = newV.texts.length := l1.1
  have q2 : (aS1 B).seals.length ≤ newV.seals.length + 1 := l1.2
  have hr : (idealK B).room (aS1 B) 1 := by
    show (aS1 B).texts.length + 1 ≤ 1000000 ∧ (aS1 B).seals.length + 1 ≤ 1000000
    omega
  obtain ⟨_, _, x2⟩ := pro_sealed B (aS1 B) (l := aW) hr (by rw [aW_eq]; decide) e1 c1
  have l2 := ideal_len (hashP (aS1 B) (joinB aW)) (lawSp 48 1).hdC (proT (idealK B) (aS1 B) aW (lawSp 48 1))
  rw [← x2] at l2
  have t2 : (hashP (aS1 B) (joinB aW)).texts.length ≤ (aS1 B).texts.length + 1 := by
    show (addN (aS1 B).texts (joinB aW)).length ≤ _
    exact addN_length (aS1 B).texts (joinB aW)
  have t3 : (hashP (aS1 B) (joinB aW)).seals.length = (aS1 B).seals.length := rfl
  have q3 : (aS2 B).texts.length = (hashP (aS1 B) (joinB aW)).texts.length := l2.1
  have q4 : (aS2 B).seals.length ≤ (hashP (aS1 B) (joinB aW)).seals.length + 1 := l2.2
  obtain ⟨_, _, x3⟩ := sup_sealed B (aS2 B) e1 h1
  have l3 := ideal_len (aS2 B) (lawSp 48 1).hd (lawSp 48 1).txt
  rw [← x3] at l3
  have q5 : (aS3 B).texts.length = (aS2 B).texts.length := l3.1
  have q6 : (aS3 B).seals.length ≤ (aS2 B).seals.length + 1 := l3.2
  omega
theorem aS_sealed (B : Nat) : Sealed (aS3 B) (lawSp 48 0).hd (lawSp 48 0).txt (aR0 B) ∧ Sealed (aS3 B) (lawSp 48 1).hd (lawSp 48 1).txt (aR1 B) ∧ Sealed (aS3 B) (lawSp 48 1).hdC (proT (idealK B) (aS1 B) aW (lawSp 48 1)) (aRp B) := by
  obtain ⟨e0, h0, c0⟩ := law_err 0 (.inl rfl)
  obtain ⟨e1, h1, c1⟩ := law_err 1 (.inr rfl)
  have hro := aS_room B
  have hr : (idealK B).room (aS1 B) 1 := by
    show (aS1 B).texts.length + 1 ≤ 1000000 ∧ (aS1 B).seals.length + 1 ≤ 1000000
    omega
  obtain ⟨_, s1, x1⟩ := sup_sealed B newV e0 h0
  obtain ⟨_, s2, x2⟩ := pro_sealed B (aS1 B) (l := aW) hr (by rw [aW_eq]; decide) e1 c1
  obtain ⟨_, s3, x3⟩ := sup_sealed B (aS2 B) e1 h1
  have y2 : aS2 B = bsealP (hashP (aS1 B) (joinB aW)) (lawSp 48 1).hdC (proT (idealK B) (aS1 B) aW (lawSp 48 1)) := x2
  have y3 : aS3 B = bsealP (aS2 B) (lawSp 48 1).hd (lawSp 48 1).txt := x3
  have z1 : Sealed (aS1 B) (lawSp 48 0).hd (lawSp 48 0).txt (aR0 B) := s1
  have z2 : Sealed (aS2 B) (lawSp 48 1).hdC (proT (idealK B) (aS1 B) aW (lawSp 48 1)) (aRp B) := s2
  refine ⟨?_, s3, ?_⟩
  · rw [y3]
    refine Sealed.add ?_ _ _
    rw [y2]
    exact (z1.hash _).add _ _
  · rw [y3]
    exact z2.add _ _
theorem aP1_fine (B : Nat) : folE [[⟨1 - 0, fillS 0 512⟩, ⟨2, fillS 0 512⟩], [⟨0, aR0 B⟩]] (newP 784) = 0 ∧ Fine (aP1 B) 784 ∧ (aP1 B).wait = [] ∧ Seen (aP1 B) 0 (aR0 B) := by
  obtain ⟨s0, _, _⟩ := aS_sealed B
  have hro := aS_room B
  have hz := s0.size (by omega)
  have hf : Fine (newP 784) 784 := ⟨rfl, rfl, by show (List.replicate 784 (fillS 0 64)).length = 784; rw [List.length_replicate]⟩
  obtain ⟨h1, h2, h3, h4⟩ := fol_fine [[⟨1 - 0, fillS 0 512⟩, ⟨2, fillS 0 512⟩], [⟨0, aR0 B⟩]] hf rfl (by
    intro l hl x hx
    simp only [List.mem_cons, List.not_mem_nil, or_false] at hl
    rcases hl with rfl | rfl
    · simp only [List.mem_cons, List.not_mem_nil, or_false] at hx
      rcases hx with rfl | rfl
      · exact ⟨⟨1, rfl, by decide⟩, fillS_size _ _⟩
      · exact ⟨⟨2, rfl, by decide⟩, fillS_size _ _⟩
    · simp only [List.mem_cons, List.not_mem_nil, or_false] at hx
      subst hx
      exact fit_of (a := 0) (by decide) hz)
  exact ⟨h1, h2, h3, h4 0 _ (by
    show SeenL [⟨1 - 0, fillS 0 512⟩, ⟨2, fillS 0 512⟩, ⟨0, aR0 B⟩] _ _ _
    unfold SeenL
    simp [lastW])⟩
theorem aP2_fine (B : Nat) : folE [recsL 3 0 aW, [⟨2, aRp B⟩], aW, [⟨1, aR1 B⟩]] (aP1 B) = 0 ∧ Fine (aP2 B) 784 ∧ Seen (aP2 B) 0 (aR0 B) ∧ Seen (aP2 B) 1 (aR1 B) ∧ Seen (aP2 B) 2 (aRp B) ∧ Seen (aP2 B) 3 aB.wt.raw := by
  obtain ⟨s0, s1, s2⟩ := aS_sealed B
  have hro := aS_room B
  have z1 := s1.size (by omega)
  have z2 := s2.size (by omega)
  obtain ⟨_, hf, hw, hs⟩ := aP1_fine B
  have er : recsL 3 0 aW = [⟨3, aB.wt.raw⟩] := rfl
  obtain ⟨h1, h2, h3, h4⟩ := fol_fine [recsL 3 0 aW, [⟨2, aRp B⟩], aW, [⟨1, aR1 B⟩]] hf hw (by
    intro l hl x hx
    rw [er, aW_eq] at hl
    simp only [List.mem_cons, List.not_mem_nil, or_false] at hl
    rcases hl with rfl | rfl | rfl | rfl
    · simp only [List.mem_cons, List.not_mem_nil, or_false] at hx
      subst hx
      exact fit_of (a := 3) (by decide) aW_raw
    · simp only [List.mem_cons, List.not_mem_nil, or_false] at hx
      subst hx
      exact fit_of (a := 2) (by decide) z2
    · simp only [List.mem_cons, List.not_mem_nil, or_false] at hx
      subst hx
      exact fit_of (a := 40) (by decide) aW_raw
    · simp only [List.mem_cons, List.not_mem_nil, or_false] at hx
      subst hx
      exact fit_of (a := 1) (by decide) z1)
  have ef : ([recsL 3 0 aW, [⟨2, aRp B⟩], aW, [⟨1, aR1 B⟩]] : List (List Wt)).flatten = [⟨3, aB.wt.raw⟩, ⟨2, aRp B⟩, ⟨40, aB.wt.raw⟩, ⟨1, aR1 B⟩] := by
    rw [er, aW_eq]
    simp
  rw [ef] at h4
  refine ⟨h1, h2, h4 0 _ ?_, h4 1 _ ?_, h4 2 _ ?_, h4 3 _ ?_⟩
  · unfold SeenL
    simp [lastW]
    exact hs
  · unfold SeenL
    simp [lastW]
  · unfold SeenL
    simp [lastW]
  · unfold SeenL
    simp [lastW]
theorem aP2_wait (B : Nat) : (aP2 B).wait = [] := by
  obtain ⟨s0, s1, s2⟩ := aS_sealed B
  have hro := aS_room B
  have z1 := s1.size (by omega)
  have z2 := s2.size (by omega)
  obtain ⟨_, hf, hw, hs⟩ := aP1_fine B
  have er : recsL 3 0 aW = [⟨3, aB.wt.raw⟩] := rfl
  obtain ⟨_, _, h3, _⟩ := fol_fine [recsL 3 0 aW, [⟨2, aRp B⟩], aW, [⟨1, aR1 B⟩]] hf hw (by
    intro l hl x hx
    rw [er, aW_eq] at hl
    simp only [List.mem_cons, List.not_mem_nil, or_false] at hl
    rcases hl with rfl | rfl | rfl | rfl
    · simp only [List.mem_cons, List.not_mem_nil, or_false] at hx
      subst hx
      exact fit_of (a := 3) (by decide) aW_raw
    · simp only [List.mem_cons, List.not_mem_nil, or_false] at hx
      subst hx
      exact fit_of (a := 2) (by decide) z2
    · simp only [List.mem_cons, List.not_mem_nil, or_false] at hx
      subst hx
      exact fit_of (a := 40) (by decide) aW_raw
    · simp only [List.mem_cons, List.not_mem_nil, or_false] at hx
      subst hx
      exact fit_of (a := 1) (by decide) z1)
  exact h3
theorem aP_len (B : Nat) : (aP2 B).kept.length = 784 ∧ (aP2 B).up = true := ⟨(aP2_fine B).2.1.len, (aP2_fine B).2.1.up⟩
/-- What Recover reads. -/
def aRg0 : Rg := ⟨true, (lawSp 48 0).hd, (lawSp 48 0).txt⟩
def aRg1 : Rg := ⟨true, (lawSp 48 1).hd, (lawSp 48 1).txt⟩
theorem aLoad0 (B : Nat) : loadR (idealK B) (aP2 B) (aS3 B) 0 = aRg0 := by
  obtain ⟨_, hf, h0, _, _, _⟩ := aP2_fine B
  obtain ⟨s0, _, _⟩ := aS_sealed B
  have hro := aS_room B
  exact load_seen B (a := 0) hf h0 s0 (by omega) rfl
theorem aCho : chO [aRg0, aRg1] 48 = some (lawSp 48 1) := by
  have h := cho_two (law_err 0 (.inl rfl)).1 (law_err 1 (.inr rfl)).1 rfl rfl rfl
  rw [if_pos (by decide)] at h
  exact h
/-- The device behind Recover's two readings. -/
structure AwR (B : Nat) (P1 P2 : PS) (raws : List ByteArray) (masks : List Int) : Prop where
  e1 : (bget (aP2 B) 0).2 = P1
  e2 : (bget P1 1).2 = P2
  er : rawsTo P2 (P2.kept.length / 8) = raws
  em : masksTo P2 (P2.kept.length / 8) = masks
theorem AwR.a1 {B : Nat} {P1 P2 : PS} {raws : List ByteArray} {masks : List Int} (h : AwR B P1 P2 raws masks) : Alike (aP2 B) P1 := by
  have q := jbget_alike (aP2 B) 0
  rw [h.e1] at q
  exact q
theorem AwR.a2 {B : Nat} {P1 P2 : PS} {raws : List ByteArray} {masks : List Int} (h : AwR B P1 P2 raws masks) : Alike (aP2 B) P2 := by
  have q := jbget_alike P1 1
  rw [h.e2] at q
  exact h.a1.trans q
theorem aLoad1 (B : Nat) {P1 P2 : PS} {raws : List ByteArray} {masks : List Int} (H : AwR B P1 P2 raws masks) : loadR (idealK B) P1 (aS3 B) 1 = aRg1 := by
  obtain ⟨_, hf, _, h1, _, _⟩ := aP2_fine B
  obtain ⟨_, s1, _⟩ := aS_sealed B
  have hro := aS_room B
  exact load_seen B (a := 1) (hf.alike H.a1) (h1.alike H.a1) s1 (by omega) rfl
theorem aLook (B : Nat) {P1 P2 : PS} {raws : List ByteArray} {masks : List Int} (H : AwR B P1 P2 raws masks) : lookR (idealK B) (aS3 B) raws masks 2 = ⟨true, (lawSp 48 1).hdC, proT (idealK B) (aS1 B) aW (lawSp 48 1)⟩ := by
  obtain ⟨_, hf, _, _, h2, _⟩ := aP2_fine B
  obtain ⟨_, _, s2⟩ := aS_sealed B
  have hro := aS_room B
  have q := look_seen B (a := 2) (hf.alike H.a2) (h2.alike H.a2) s2 (by omega) rfl
  rw [H.er, H.em] at q
  exact q
theorem aPi (B : Nat) {P1 P2 : PS} {raws : List ByteArray} {masks : List Int} (H : AwR B P1 P2 raws masks) : piN (lookR (idealK B) (aS3 B) raws masks 2) 48 = 1 ∧ piS (lookR (idealK B) (aS3 B) raws masks 2) 48 = lawSp 48 1 := by
  have hro := aS_room B
  have hr : (idealK B).room (aS1 B) 1 := by
    show (aS1 B).texts.length + 1 ≤ 1000000 ∧ (aS1 B).seals.length + 1 ≤ 1000000
    omega
  obtain ⟨_, h2, h3⟩ := pro_pi (idealOk B) (S := aS1 B) (l := aW) (s := lawSp 48 1) hr (by rw [aW_eq]; decide) (law_err 1 (.inr rfl)).1
  rw [aLook B H]
  exact ⟨h2, h3⟩
theorem aHd : aB.hd.err = 0 := by decide
theorem aTog (B : Nat) {P1 P2 : PS} {raws : List ByteArray} {masks : List Int} (H : AwR B P1 P2 raws masks) : togB 27 48 (fnW (idealK B) (aS3 B) raws masks 48) = true := by
  obtain ⟨_, hf, _, _, _, h3⟩ := aP2_fine B
  obtain ⟨a1, a2⟩ := seen_at (a := 3) (hf.alike H.a2) (h3.alike H.a2) aW_raw
  rw [H.er, H.em] at a1
  have e1 : atS raws masks 3 = aB.wt.raw := a1
  have er : fnW (idealK B) (aS3 B) raws masks 48 = [rcdW raws masks 3 0] := by
    unfold fnW
    rw [(aPi B H).1]
    rfl
  have ew : rcdW raws masks 3 0 = ⟨40, aB.wt.raw⟩ := by
    have e2 : atS raws masks (3 + ((0 : Nat) : Int)) = aB.wt.raw := e1
    unfold rcdW
    rw [e2]
    have e3 : aB.wt.raw.extract 0 48 = aB.hd.txt := by
      have e4 : aB.wt.raw = aB.hd.txt ++ fillS 1 464 := by
        show aB.first ++ fillS 1 464 = _
        rw [show aB.first = aB.hd.txt from if_pos ⟨aHd, rfl⟩]
      rw [e4]
      exact (ba_cut (hd_size aHd)).1
    rw [e3, hd_reads aHd]
    rfl
  rw [er, ew]
  have e3 : aB.wt.raw.extract 0 48 = aB.hd.txt := by
    have e4 : aB.wt.raw = aB.hd.txt ++ fillS 1 464 := by
      show aB.first ++ fillS 1 464 = _
      rw [show aB.first = aB.hd.txt from if_pos ⟨aHd, rfl⟩]
    rw [e4]
    exact (ba_cut (hd_size aHd)).1
  have hd : hdB ⟨40, aB.wt.raw⟩ = true := by
    unfold hdB
    refine decide_eq_true ⟨aW_raw, ?_, ?_⟩
    · show headE (aB.wt.raw.extract 0 48) = 0
      rw [e3]
      exact hd_headE aHd
    · show (hdOf (aB.wt.raw.extract 0 48)).v1 = 40
      rw [e3, hd_reads aHd]
      rfl
  unfold togB
  rw [hd]
  rfl
theorem aTogW : togB 27 48 aW = true := by
  have e3 : aB.wt.raw.extract 0 48 = aB.hd.txt := by
    have e4 : aB.wt.raw = aB.hd.txt ++ fillS 1 464 := by
      show aB.first ++ fillS 1 464 = _
      rw [show aB.first = aB.hd.txt from if_pos ⟨aHd, rfl⟩]
    rw [e4]
    exact (ba_cut (hd_size aHd)).1
  have hd : hdB ⟨40, aB.wt.raw⟩ = true := by
    unfold hdB
    refine decide_eq_true ⟨aW_raw, ?_, ?_⟩
    · show headE (aB.wt.raw.extract 0 48) = 0
      rw [e3]
      exact hd_headE aHd
    · show (hdOf (aB.wt.raw.extract 0 48)).v1 = 40
      rw [e3, hd_reads aHd]
      rfl
  rw [aW_eq]
  unfold togB
  rw [hd]
  rfl
theorem aFn (B : Nat) {P1 P2 : PS} {raws : List ByteArray} {masks : List Int} (H : AwR B P1 P2 raws masks) (h : fnOk (idealK B) (aS3 B) raws masks 48 = true) : (fnS (idealK B) (aS3 B) raws masks 48).ep = 1 := by
  unfold fnS
  rw [if_pos h, (aPi B H).2]
  rfl
theorem a784 : loE 784 = 0 ∧ loN 784 = 48 ∧ loA 784 = layA 48 (layQ 48) (layS 48) (layT 48) := by
  have h : liveO 784 = some 48 := by
    have := liveO_of (n := 48) (by decide) (by decide)
    rw [show totI 48 * 8 = 784 by decide] at this
    exact this
  unfold loE loN loA
  rw [h]
  exact ⟨rfl, rfl, rfl⟩
end Go.Proofs.YtbmjablmmlnieaaGreatDoor

namespace Go.Proofs.YtbmjablmmlnieaaGreatDoor
set_option maxRecDepth 20000
open Go.RowKit

theorem togB_all : ∀ (l : List Wt) (least live : Int), togB least live l = true → ∀ x, x ∈ l → least ≤ x.at_ ∧ x.at_ < live ∧ hdB x = true
  | [], _, _, _, x, hx => by cases hx
  | y :: l, least, live, h, x, hx => by
    unfold togB at h
    simp only [Bool.and_eq_true, decide_eq_true_eq] at h
    obtain ⟨⟨⟨h1, h2⟩, h3⟩, h4⟩ := h
    rcases List.mem_cons.1 hx with rfl | hx
    · exact ⟨h1, h2, h3⟩
    · obtain ⟨q1, q2, q3⟩ := togB_all l _ _ h4 x hx
      exact ⟨by omega, q2, q3⟩
theorem lastW_none : ∀ (l : List Wt) (b : Int), (∀ x, x ∈ l → x.at_ ≠ b) → lastW l b = none
  | [], _, _ => rfl
  | y :: l, b, h => by
    rw [lastW, lastW_none l b fun x hx => h x (List.mem_cons_of_mem _ hx), if_neg (h y (List.mem_cons_self ..))]
    rfl
theorem togB_last : ∀ (l : List Wt) (least live : Int), togB least live l = true → ∀ x, x ∈ l → lastW l x.at_ = some x.raw
  | [], _, _, _, x, hx => by cases hx
  | y :: l, least, live, h, x, hx => by
    unfold togB at h
    simp only [Bool.and_eq_true, decide_eq_true_eq] at h
    obtain ⟨_, h4⟩ := h
    rw [lastW]
    rcases List.mem_cons.1 hx with rfl | hx
    · rw [lastW_none l x.at_ fun z hz => by have := (togB_all l _ _ h4 z hz).1; omega, if_pos rfl]
      rfl
    · rw [togB_last l _ _ h4 x hx]
      rfl
theorem recsL_mem : ∀ (l : List Wt) (i : Nat) (log : Int) (x : Wt), x ∈ recsL log i l → ∃ j y, l[j]? = some y ∧ x = ⟨log + ((i + j : Nat) : Int), y.raw⟩
  | [], _, _, x, h => by cases h
  | y :: l, i, log, x, h => by
    rcases List.mem_cons.1 h with rfl | h
    · exact ⟨0, y, rfl, rfl⟩
    · obtain ⟨j, z, h1, h2⟩ := recsL_mem l (i + 1) log x h
      exact ⟨j + 1, z, h1, by rw [h2, show i + 1 + j = i + (j + 1) by omega]⟩
theorem recsL_last : ∀ (l : List Wt) (i : Nat) (log : Int) (j : Nat) (y : Wt), l[j]? = some y → lastW (recsL log i l) (log + ((i + j : Nat) : Int)) = some y.raw
  | [], _, _, _, _, h => by simp at h
  | z :: l, i, log, 0, y, h => by
    have h : z = y := by simpa using h
    subst h
    rw [recsL, lastW, lastW_none _ _ fun x hx => by
      obtain ⟨j, y, _, e⟩ := recsL_mem l (i + 1) log x hx
      rw [e]
      show ¬ (log + ((i + 1 + j : Nat) : Int) = log + ((i + 0 : Nat) : Int))
      omega]
    exact if_pos rfl
  | z :: l, i, log, j + 1, y, h => by
    rw [recsL, lastW, show i + (j + 1) = i + 1 + j by omega, recsL_last l (i + 1) log j y (by simpa using h)]
    rfl
theorem folP_ok {l : List Wt} {r : List (List Wt)} {S : PS} (h : takeE l S = 0) : folP (l :: r) S = folP r (takeP l S) := if_pos h
theorem folP_no {l : List Wt} {r : List (List Wt)} {S : PS} (h : ¬ takeE l S = 0) : folP (l :: r) S = takeP l S := if_neg h
theorem folE_ok {l : List Wt} {r : List (List Wt)} {S : PS} (h : takeE l S = 0) : folE (l :: r) S = folE r (takeP l S) := if_pos h
theorem folE_no {l : List Wt} {r : List (List Wt)} {S : PS} (h : ¬ takeE l S = 0) : folE (l :: r) S = takeE l S := if_neg h

/-- What the law's two commits are of. -/
structure Cx where
  old : List Wt
  new : List Wt
  r0 : ByteArray
  r1 : ByteArray
  r2 : ByteArray
  p1 : ByteArray
  p2 : ByteArray
  t1 : ByteArray
  t2 : ByteArray
structure CxOk (X : Cx) : Prop where
  tog : togB 27 48 X.new = true
  len : X.new.length ≤ 24
  ats : ∀ x, x ∈ X.old → 27 ≤ x.at_
  o512 : ∀ x, x ∈ X.old → x.raw.size = 512
  pi1 : piS ⟨true, (lawSp 48 1).hdC, X.t1⟩ 48 = lawSp 48 1
  pi2 : piB ⟨true, (lawSp 48 2).hdC, X.t2⟩ 48 = true ∧ piN ⟨true, (lawSp 48 2).hdC, X.t2⟩ 48 = (X.new.length : Int) ∧ piS ⟨true, (lawSp 48 2).hdC, X.t2⟩ 48 = lawSp 48 2
/-- The vault: what was sealed is, and the records' bytes have a number. -/
structure VSt (X : Cx) (T : VS) (k : Nat) : Prop where
  s0 : Sealed T (lawSp 48 0).hd (lawSp 48 0).txt X.r0
  s1 : Sealed T (lawSp 48 1).hd (lawSp 48 1).txt X.r1
  s2 : Sealed T (lawSp 48 2).hd (lawSp 48 2).txt X.r2
  p1 : Sealed T (lawSp 48 1).hdC X.t1 X.p1
  p2 : Sealed T (lawSp 48 2).hdC X.t2 X.p2
  hx : numOf T.texts (joinB X.new) ≠ 0
  hs : hashS T (joinB X.new) = X.t2.extract 2 34
  room : T.texts.length + k ≤ 1000 ∧ T.seals.length + k ≤ 1000
theorem hashS_had {T : VS} {x : ByteArray} (h : numOf T.texts x ≠ 0) : hashS T x = wideS (numOf T.texts x) 32 := by
  unfold hashS
  rw [addN_old h]
theorem VSt.less {X : Cx} {T : VS} {k m : Nat} (h : VSt X T k) (hm : m ≤ k) : VSt X T m := { h with room := by have := h.room; omega }
theorem VSt.hash {X : Cx} {T : VS} {k : Nat} (h : VSt X T (k + 1)) (s : ByteArray) : VSt X (hashP T s) k where
  s0 := h.s0.hash s
  s1 := h.s1.hash s
  s2 := h.s2.hash s
  p1 := h.p1.hash s
  p2 := h.p2.hash s
  hx := by show numOf (addN T.texts s) _ ≠ 0; rw [numOf_add_keeps s h.hx]; exact h.hx
  hs := by
    have q : numOf (hashP T s).texts (joinB X.new) = numOf T.texts (joinB X.new) := numOf_add_keeps s h.hx
    rw [hashS_had (by rw [q]; exact h.hx), q, ← hashS_had h.hx]
    exact h.hs
  room := by
    have q := addN_length T.texts s
    have q2 := h.room
    show (addN T.texts s).length + k ≤ 1000 ∧ T.seals.length + k ≤ 1000
    omega
theorem VSt.seal {X : Cx} {T : VS} {k : Nat} (h : VSt X T (k + 1)) (g : Hd) (t : ByteArray) : VSt X (bsealP T g t) k where
  s0 := h.s0.add g t
  s1 := h.s1.add g t
  s2 := h.s2.add g t
  p1 := h.p1.add g t
  p2 := h.p2.add g t
  hx := by
    have e : (bsealP T g t).texts = T.texts := by unfold bsealP; split <;> rfl
    rw [e]
    exact h.hx
  hs := by
    have e : (bsealP T g t).texts = T.texts := by unfold bsealP; split <;> rfl
    unfold hashS
    rw [e]
    exact h.hs
  room := by
    have q := ideal_len T g t
    have q2 := h.room
    omega

def BlkIn (P : PS) (l : List Wt) : Prop := ∀ x, x ∈ l → Mix P x.at_.toNat [x.raw]
def RecIn (P : PS) (l : List Wt) : Prop := ∀ (i : Nat) x, l[i]? = some x → Mix P (3 + i) [x.raw]
/-- Ahead of the second promise, or while it is written. -/
structure OldD (X : Cx) (P : PS) : Prop where
  m0 : Mix P 0 [X.r0]
  m1 : Mix P 1 [X.r1]
  m2 : Mix P 2 [X.p1, X.p2]
  rcs : Mix P 2 [X.p1] ∨ RecIn P X.new
  blk : BlkIn P X.old
/-- Behind it. -/
structure NewD (X : Cx) (P : PS) : Prop where
  m0 : Mix P 0 [X.r0, X.r2]
  m1 : Mix P 1 [X.r1]
  m2 : Mix P 2 [X.p2]
  rcs : RecIn P X.new
  blk : Mix P 0 [X.r0] ∨ BlkIn P X.new
theorem BlkIn.move {P P' : PS} {l : List Wt} (h : BlkIn P l) (f : ∀ a R, Mix P a R → Mix P' a R) : BlkIn P' l := fun x hx => f _ _ (h x hx)
theorem OldD.move {X : Cx} {P P' : PS} (h : OldD X P) (f : ∀ a R, Mix P a R → Mix P' a R) : OldD X P' := ⟨f _ _ h.m0, f _ _ h.m1, f _ _ h.m2, h.rcs.imp (f _ _) (fun g i x hx => f _ _ (g i x hx)), h.blk.move f⟩
theorem NewD.move {X : Cx} {P P' : PS} (h : NewD X P) (f : ∀ a R, Mix P a R → Mix P' a R) : NewD X P' := ⟨f _ _ h.m0, f _ _ h.m1, f _ _ h.m2, fun i x hx => f _ _ (h.rcs i x hx), h.blk.imp (f _ _) fun g => g.move f⟩
theorem mem_l2 {r q : ByteArray} : ∀ x, x ∈ [r] → x ∈ [r, q] := fun x h => by rw [List.mem_singleton] at h; subst h; exact List.mem_cons_self ..
theorem mem_r2 {r q : ByteArray} : ∀ x, x ∈ [q] → x ∈ [r, q] := fun x h => by rw [List.mem_singleton] at h; subst h; exact List.mem_cons_of_mem _ (List.mem_cons_self ..)
theorem CxOk.far {X : Cx} (HX : CxOk X) {x : Wt} (hx : x ∈ X.new) : 27 ≤ x.at_ := (togB_all X.new 27 48 HX.tog x hx).1
theorem CxOk.at_ {X : Cx} (HX : CxOk X) {x : Wt} (hx : x ∈ X.new) : ((x.at_.toNat : Nat) : Int) = x.at_ := Int.toNat_of_nonneg (by have := HX.far hx; omega)
theorem fol_new {X : Cx} (HX : CxOk X) {P : PS} (h : NewD X P) : NewD X (folP [X.new, [⟨0, X.r2⟩]] P) ∧ (folE [X.new, [⟨0, X.r2⟩]] P = 0 → Mix (folP [X.new, [⟨0, X.r2⟩]] P) 0 [X.r2] ∧ BlkIn (folP [X.new, [⟨0, X.r2⟩]] P) X.new) := by
  have t1 : ∀ a R, a < 27 → Mix P a R → Mix (takeP X.new P) a R := fun a R ha hm => mix_take X.new hm fun x hx e => by have := HX.far hx; omega
  have tb : BlkIn P X.new → BlkIn (takeP X.new P) X.new := fun hb x hx => mix_take X.new (hb x hx) fun y hy e => by
    have q1 := togB_last X.new _ _ HX.tog x hx
    have q2 := togB_last X.new _ _ HX.tog y hy
    rw [e, HX.at_ hx, q1] at q2
    rw [Option.some.inj q2]
    exact List.mem_singleton.2 rfl
  have N1 : NewD X (takeP X.new P) := ⟨t1 0 _ (by decide) h.m0, t1 1 _ (by decide) h.m1, t1 2 _ (by decide) h.m2, fun i x hx => t1 _ _ (by have := (List.getElem?_eq_some_iff.1 hx).1; have := HX.len; omega) (h.rcs i x hx), h.blk.imp (t1 0 _ (by decide)) tb⟩
  by_cases e1 : takeE X.new P = 0
  case neg =>
    rw [folP_no e1, folE_no e1]
    exact ⟨N1, fun q => absurd q e1⟩
  rw [folP_ok e1, folE_ok e1]
  have B1 : BlkIn (takeP X.new P) X.new := fun x hx => take_solid e1 (by rw [HX.at_ hx]; exact togB_last X.new _ _ HX.tog x hx)
  generalize takeP X.new P = Q at *
  have t2 : ∀ a R, a ≠ 0 → Mix Q a R → Mix (takeP [⟨0, X.r2⟩] Q) a R := fun a R ha hm => mix_take _ hm fun x hx e => by
    rw [List.mem_singleton] at hx
    subst hx
    have e : (0 : Int) = (a : Int) := e
    omega
  have B2 : BlkIn (takeP [⟨0, X.r2⟩] Q) X.new := fun x hx => t2 _ _ (by have := HX.far hx; omega) (B1 x hx)
  have N2 : NewD X (takeP [⟨0, X.r2⟩] Q) := ⟨mix_take _ N1.m0 fun x hx _ => by
    rw [List.mem_singleton] at hx
    subst hx
    exact List.mem_cons_of_mem _ (List.mem_cons_self ..), t2 1 _ (by decide) N1.m1, t2 2 _ (by decide) N1.m2, fun i x hx => t2 _ _ (by omega) (N1.rcs i x hx), .inr B2⟩
  by_cases e2 : takeE [⟨0, X.r2⟩] Q = 0
  case neg =>
    rw [folP_no e2, folE_no e2]
    exact ⟨N2, fun q => absurd q e2⟩
  rw [folP_ok e2, folE_ok e2]
  exact ⟨N2, fun _ => ⟨take_solid e2 (a := 0) rfl, B2⟩⟩
theorem fol_com {X : Cx} (HX : CxOk X) {P : PS} (m0 : Mix P 0 [X.r0]) (m1 : Mix P 1 [X.r1]) (m2 : Mix P 2 [X.p1]) (mb : BlkIn P X.old) :
    (OldD X (folP [recsL 3 0 X.new, [⟨2, X.p2⟩], X.new, [⟨0, X.r2⟩]] P) ∨ NewD X (folP [recsL 3 0 X.new, [⟨2, X.p2⟩], X.new, [⟨0, X.r2⟩]] P)) ∧ (folE [recsL 3 0 X.new, [⟨2, X.p2⟩], X.new, [⟨0, X.r2⟩]] P = 0 → NewD X (folP [recsL 3 0 X.new, [⟨2, X.p2⟩], X.new, [⟨0, X.r2⟩]] P)) := by
  have t1 : ∀ a R, (a < 3 ∨ 27 ≤ a) → Mix P a R → Mix (takeP (recsL 3 0 X.new) P) a R := fun a R ha hm => mix_take _ hm fun x hx e => by
    obtain ⟨j, y, h1, h2⟩ := recsL_mem _ _ _ _ hx
    have h3 := (List.getElem?_eq_some_iff.1 h1).1
    have h4 := HX.len
    subst h2
    have e : (3 : Int) + ((0 + j : Nat) : Int) = (a : Int) := e
    omega
  have o27 : ∀ x, x ∈ X.old → 27 ≤ x.at_.toNat := fun x hx => by have := HX.ats x hx; omega
  have O1 : OldD X (takeP (recsL 3 0 X.new) P) := ⟨t1 0 _ (by decide) m0, t1 1 _ (by decide) m1, t1 2 _ (by decide) (m2.more mem_l2), .inl (t1 2 _ (by decide) m2), fun x hx => t1 _ _ (.inr (o27 x hx)) (mb x hx)⟩
  by_cases e1 : takeE (recsL 3 0 X.new) P = 0
  case neg =>
    rw [folP_no e1, folE_no e1]
    exact ⟨.inl O1, fun q => absurd q e1⟩
  rw [folP_ok e1, folE_ok e1]
  have R1 : RecIn (takeP (recsL 3 0 X.new) P) X.new := fun i x hx => take_solid e1 (by
    have q := recsL_last X.new 0 3 i x hx
    rw [show ((3 + i : Nat) : Int) = 3 + ((0 + i : Nat) : Int) by omega]
    exact q)
  generalize takeP (recsL 3 0 X.new) P = Q at *
  have t2 : ∀ a R, a ≠ 2 → Mix Q a R → Mix (takeP [⟨2, X.p2⟩] Q) a R := fun a R ha hm => mix_take _ hm fun x hx e => by
    rw [List.mem_singleton] at hx
    subst hx
    have e : (2 : Int) = (a : Int) := e
    omega
  have R2 : RecIn (takeP [⟨2, X.p2⟩] Q) X.new := fun i x hx => t2 _ _ (by omega) (R1 i x hx)
  have O2 : OldD X (takeP [⟨2, X.p2⟩] Q) := ⟨t2 0 _ (by decide) O1.m0, t2 1 _ (by decide) O1.m1, mix_take _ O1.m2 fun x hx _ => by
    rw [List.mem_singleton] at hx
    subst hx
    exact List.mem_cons_of_mem _ (List.mem_cons_self ..), .inr R2, fun x hx => t2 _ _ (by have := o27 x hx; omega) (O1.blk x hx)⟩
  by_cases e2 : takeE [⟨2, X.p2⟩] Q = 0
  case neg =>
    rw [folP_no e2, folE_no e2]
    exact ⟨.inl O2, fun q => absurd q e2⟩
  rw [folP_ok e2, folE_ok e2]
  have N2 : NewD X (takeP [⟨2, X.p2⟩] Q) := ⟨O2.m0.more mem_l2, O2.m1, take_solid e2 (a := 2) rfl, R2, .inl O2.m0⟩
  obtain ⟨f1, f2⟩ := fol_new HX N2
  exact ⟨.inr f1, fun _ => f1⟩

/-- What is read of a block of which each sector is of one of two that were sealed. -/
theorem told_torn (B : Nat) {T : VS} {h g : Hd} {s t r q z : ByteArray} (Hr : Sealed T h s r) (Hq : Sealed T g t q) (hl : T.seals.length ≤ 1000000) (hz : ∀ i, i < 8 → ∃ x, x ∈ [r, q] ∧ secS z i = secS x i) (a : Int) (h1 : h.v1 = a) (g1 : g.v1 = a) : (z = r ∧ toldR (idealK B) T z a = ⟨true, h, s⟩) ∨ (z = q ∧ toldR (idealK B) T z a = ⟨true, g, t⟩) ∨ toldR (idealK B) T z a = Rg.zero := by
  by_cases ho : bopenE T z = 0
  case neg => exact .inr (.inr (if_neg fun x => ho x.1))
  obtain ⟨h', s', e', hs', hn, rfl⟩ := (bopen_iff T z hl).1 ho
  have hn' := numOf_le (h'.four s') T.seals
  have key : ∀ (f : Hd) (u y : ByteArray), Sealed T f u y → secS (blkS h' s' (numOf T.seals (h'.four s'))) 7 = secS y 7 → blkS h' s' (numOf T.seals (h'.four s')) = y := fun f u y Hy e => by
    obtain ⟨ef, hu, hm, rfl⟩ := Hy
    have hm' := numOf_le (f.four u) T.seals
    have q := tag_tells e' ef hs' hu (by omega) (by omega) e
    obtain ⟨rfl, rfl⟩ := four_inj e' ef (numOf_inj q hn)
    rfl
  obtain ⟨x, hx, e⟩ := hz 7 (by decide)
  rcases List.mem_cons.1 hx with rfl | hx
  · have q := key h s _ Hr e
    exact .inl ⟨q, by rw [q]; exact sealed_told B Hr hl h1⟩
  · rw [List.mem_singleton] at hx
    subst hx
    have q := key g t _ Hq e
    exact .inr (.inl ⟨q, by rw [q]; exact sealed_told B Hq hl g1⟩)
theorem pro_hash {K : VK} (HK : VKOk K) {S : K.σ} {l : List Wt} {s : Sp} (hr : K.room S 1) (hll : l.length ≤ 24) (he : s.err = 0) : (proT K S l s).extract 2 34 = K.hS S (joinB l) := by
  have h1 := pro_list HK hr hll he
  obtain ⟨_, h2, h3, _, h5⟩ := pro_sizes HK hr hll he
  have e1 : (putS (l.length : Int) 2).data.toList.length = 2 := by rw [← h2]; simp
  have e2 : (K.hS S (joinB l)).data.toList.length = 32 := by rw [← h3]; simp
  apply ByteArray.ext
  apply Array.toList_inj.1
  rw [← text_cut, h1, List.append_assoc, List.append_assoc, List.drop_left' e1, List.take_left' e2]
theorem cho_one {s : Sp} (es : s.err = 0) (hs : s.ep.tmod 2 = 1) : chO [Rg.zero, ⟨true, s.hd, s.txt⟩] s.lv = some s := by
  have a2 := sin_yes es s.hd rfl hs
  have a1 : sinB Rg.zero 0 s.lv = false := decide_eq_false fun h => absurd h.1 (by decide)
  have c0 : chN [Rg.zero, ⟨true, s.hd, s.txt⟩] s.lv 1 = none := chN_no (l := [Rg.zero, ⟨true, s.hd, s.txt⟩]) (live := s.lv) (j := 0) (r := Rg.zero) rfl (.inl a1)
  show chN _ _ 2 = _
  have := chN_yes (l := [Rg.zero, ⟨true, s.hd, s.txt⟩]) (live := s.lv) (j := 1) (r := ⟨true, s.hd, s.txt⟩) rfl a2 (.inl (by rw [c0]; rfl))
  rw [this]
  exact congrArg some (sp_reads es).2
theorem law_err2 (ep : Int) (h : ep = 0 ∨ ep = 1 ∨ ep = 2) : (lawSp 48 ep).err = 0 ∧ (lawSp 48 ep).hd.err = 0 ∧ (lawSp 48 ep).hdC.err = 0 := by
  have hf : (lawSp 48 ep).root.size = 32 := fillS_size 3 32
  rcases h with rfl | rfl | rfl
  all_goals
    refine ⟨?_, by decide, by decide⟩
    unfold Sp.err superE
    rw [if_pos hf]
    decide
theorem piB_zero (n : Int) : piB Rg.zero n = false := decide_eq_false fun h => absurd h.1 (by decide)
end Go.Proofs.YtbmjablmmlnieaaGreatDoor
