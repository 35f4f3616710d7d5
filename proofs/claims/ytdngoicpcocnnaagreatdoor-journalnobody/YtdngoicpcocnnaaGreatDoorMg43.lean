/- What the laws' awake comes to: a device of 784 sectors, formatted and committed to once; nothing of the program's calls. -/
import Derived.Test.YtdngoicpcocnnaaGreatDoorMg39
import Derived.Test.YtdngoicpcocnnaaGreatDoorMg42
namespace Go.Proofs.YtdngoicpcocnnaaGreatDoor
set_option maxRecDepth 20000
open Go.RowKit

theorem fit_of {n a : Nat} {r : ByteArray} (h : 8 * a + 8 ≤ n) (hr : r.size = 512) : FitW n ⟨(a : Int), r⟩ := ⟨⟨a, rfl, h⟩, hr⟩
def aB : Blk := ⟨40, 1, false⟩
def aR0 (B : Nat) : ByteArray := supR (idealK B) newV (lawSp 48 0)
def aS1 (B : Nat) : VS := supP (idealK B) newV (lawSp 48 0)
def aP1 (B : Nat) : PS := folP [[⟨1 - 0, fillS 0 512⟩, ⟨2, fillS 0 512⟩], [⟨0, aR0 B⟩]] (newP 784)
def aW : List Wt := wrsL [aB]
def aS2 (B : Nat) : VS := proP (idealK B) (aS1 B) aW (lawSp 48 1)
def aRp (B : Nat) : ByteArray := proR (idealK B) (aS1 B) aW (lawSp 48 1)
def aS3 (B : Nat) : VS := supP (idealK B) (aS2 B) (lawSp 48 1)
def aR1 (B : Nat) : ByteArray := supR (idealK B) (aS2 B) (lawSp 48 1)
def aP2 (B : Nat) : PS := folP [recsL 3 0 aW, [⟨2, aRp B⟩], aW, [⟨1, aR1 B⟩]] (aP1 B)
theorem law_err (ep : Int) (h : ep = 0 ∨ ep = 1) : (lawSp 48 ep).err = 0 ∧ (lawSp 48 ep).hd.err = 0 ∧ (lawSp 48 ep).hdC.err = 0 := by
  have hf : (lawSp 48 ep).root.size = 32 := fillS_size 3 32
  rcases h with rfl | rfl
  all_goals
    refine ⟨?_, by decide, by decide⟩
    unfold Sp.err superE
    rw [if_pos hf]
    decide
theorem aW_eq : aW = [⟨40, aB.wt.raw⟩] := rfl
theorem aW_raw : aB.wt.raw.size = 512 := aB.raw_size
theorem aS_room (B : Nat) : (aS1 B).texts.length + 10 ≤ 100 ∧ (aS1 B).seals.length + 10 ≤ 100 ∧ (aS2 B).texts.length + 5 ≤ 100 ∧ (aS2 B).seals.length + 5 ≤ 100 ∧ (aS3 B).texts.length + 2 ≤ 100 ∧ (aS3 B).seals.length + 2 ≤ 100 := by
  obtain ⟨e0, h0, c0⟩ := law_err 0 (.inl rfl)
  obtain ⟨e1, h1, c1⟩ := law_err 1 (.inr rfl)
  obtain ⟨_, _, x1⟩ := sup_sealed B newV e0 h0
  have l1 := ideal_len newV (lawSp 48 0).hd (lawSp 48 0).txt
  rw [← x1] at l1
  have n0 : newV.texts.length = 0 := rfl
  have n1 : newV.seals.length = 0 := rfl
  have q1 : (aS1 B).texts.length = newV.texts.length := l1.1
  have q2 : (aS1 B).seals.length ≤ newV.seals.length + 1 := l1.2
  have hr : (idealK B).room (aS1 B) 1 := by
    show (aS1 B).texts.length + 1 ≤ 1000000 ∧ (aS1 B).seals.length + 1 ≤ 1000000
    omega
  obtain ⟨_, _, x2⟩ := pro_sealed B (aS1 B) (l := aW) hr (by rw [aW_eq]; decide) e1 c1
  have l2 := ideal_len (hashP (aS1 B) (joinB aW)) (lawSp 48 1).hdC (proT (idealK B) (aS1 B) aW (lawSp 48 1))
  rw [← x2] at l2
  have t2 : (hashP (aS1 B) (joinB aW)).texts.length ≤ (aS1 B).texts.length + 1 := by
    show (addN (aS1 B).texts (joinB aW)).length ≤ _
    exact addN_length (aS1 B).texts (joinB aW)
  have t3 : (hashP (aS1 B) (joinB aW)).seals.length = (aS1 B).seals.length := rfl
  have q3 : (aS2 B).texts.length = (hashP (aS1 B) (joinB aW)).texts.length := l2.1
  have q4 : (aS2 B).seals.length ≤ (hashP (aS1 B) (joinB aW)).seals.length + 1 := l2.2
  obtain ⟨_, _, x3⟩ := sup_sealed B (aS2 B) e1 h1
  have l3 := ideal_len (aS2 B) (lawSp 48 1).hd (lawSp 48 1).txt
  rw [← x3] at l3
  have q5 : (aS3 B).texts.length = (aS2 B).texts.length := l3.1
  have q6 : (aS3 B).seals.length ≤ (aS2 B).seals.length + 1 := l3.2
  omega
theorem aS_sealed (B : Nat) : Sealed (aS3 B) (lawSp 48 0).hd (lawSp 48 0).txt (aR0 B) ∧ Sealed (aS3 B) (lawSp 48 1).hd (lawSp 48 1).txt (aR1 B) ∧ Sealed (aS3 B) (lawSp 48 1).hdC (proT (idealK B) (aS1 B) aW (lawSp 48 1)) (aRp B) := by
  obtain ⟨e0, h0, c0⟩ := law_err 0 (.inl rfl)
  obtain ⟨e1, h1, c1⟩ := law_err 1 (.inr rfl)
  have hro := aS_room B
  have hr : (idealK B).room (aS1 B) 1 := by
    show (aS1 B).texts.length + 1 ≤ 1000000 ∧ (aS1 B).seals.length + 1 ≤ 1000000
    omega
  obtain ⟨_, s1, x1⟩ := sup_sealed B newV e0 h0
  obtain ⟨_, s2, x2⟩ := pro_sealed B (aS1 B) (l := aW) hr (by rw [aW_eq]; decide) e1 c1
  obtain ⟨_, s3, x3⟩ := sup_sealed B (aS2 B) e1 h1
  have y2 : aS2 B = bsealP (hashP (aS1 B) (joinB aW)) (lawSp 48 1).hdC (proT (idealK B) (aS1 B) aW (lawSp 48 1)) := x2
  have y3 : aS3 B = bsealP (aS2 B) (lawSp 48 1).hd (lawSp 48 1).txt := x3
  have z1 : Sealed (aS1 B) (lawSp 48 0).hd (lawSp 48 0).txt (aR0 B) := s1
  have z2 : Sealed (aS2 B) (lawSp 48 1).hdC (proT (idealK B) (aS1 B) aW (lawSp 48 1)) (aRp B) := s2
  refine ⟨?_, s3, ?_⟩
  · rw [y3]
    refine Sealed.add ?_ _ _
    rw [y2]
    exact (z1.hash _).add _ _
  · rw [y3]
    exact z2.add _ _
theorem aP1_fine (B : Nat) : folE [[⟨1 - 0, fillS 0 512⟩, ⟨2, fillS 0 512⟩], [⟨0, aR0 B⟩]] (newP 784) = 0 ∧ Fine (aP1 B) 784 ∧ (aP1 B).wait = [] ∧ Seen (aP1 B) 0 (aR0 B) := by
  obtain ⟨s0, _, _⟩ := aS_sealed B
  have hro := aS_room B
  have hz := s0.size (by omega)
  have hf : Fine (newP 784) 784 := ⟨rfl, rfl, by show (List.replicate 784 (fillS 0 64)).length = 784; rw [List.length_replicate]⟩
  obtain ⟨h1, h2, h3, h4⟩ := fol_fine [[⟨1 - 0, fillS 0 512⟩, ⟨2, fillS 0 512⟩], [⟨0, aR0 B⟩]] hf rfl (by
    intro l hl x hx
    simp only [List.mem_cons, List.not_mem_nil, or_false] at hl
    rcases hl with rfl | rfl
    · simp only [List.mem_cons, List.not_mem_nil, or_false] at hx
      rcases hx with rfl | rfl
      · exact ⟨⟨1, rfl, by decide⟩, fillS_size _ _⟩
      · exact ⟨⟨2, rfl, by decide⟩, fillS_size _ _⟩
    · simp only [List.mem_cons, List.not_mem_nil, or_false] at hx
      subst hx
      exact fit_of (a := 0) (by decide) hz)
  exact ⟨h1, h2, h3, h4 0 _ (by
    show SeenL [⟨1 - 0, fillS 0 512⟩, ⟨2, fillS 0 512⟩, ⟨0, aR0 B⟩] _ _ _
    unfold SeenL
    simp [lastW])⟩
theorem aP2_fine (B : Nat) : folE [recsL 3 0 aW, [⟨2, aRp B⟩], aW, [⟨1, aR1 B⟩]] (aP1 B) = 0 ∧ Fine (aP2 B) 784 ∧ Seen (aP2 B) 0 (aR0 B) ∧ Seen (aP2 B) 1 (aR1 B) ∧ Seen (aP2 B) 2 (aRp B) ∧ Seen (aP2 B) 3 aB.wt.raw := by
  obtain ⟨s0, s1, s2⟩ := aS_sealed B
  have hro := aS_room B
  have z1 := s1.size (by omega)
  have z2 := s2.size (by omega)
  obtain ⟨_, hf, hw, hs⟩ := aP1_fine B
  have er : recsL 3 0 aW = [⟨3, aB.wt.raw⟩] := rfl
  obtain ⟨h1, h2, h3, h4⟩ := fol_fine [recsL 3 0 aW, [⟨2, aRp B⟩], aW, [⟨1, aR1 B⟩]] hf hw (by
    intro l hl x hx
    rw [er, aW_eq] at hl
    simp only [List.mem_cons, List.not_mem_nil, or_false] at hl
    rcases hl with rfl | rfl | rfl | rfl
    · simp only [List.mem_cons, List.not_mem_nil, or_false] at hx
      subst hx
      exact fit_of (a := 3) (by decide) aW_raw
    · simp only [List.mem_cons, List.not_mem_nil, or_false] at hx
      subst hx
      exact fit_of (a := 2) (by decide) z2
    · simp only [List.mem_cons, List.not_mem_nil, or_false] at hx
      subst hx
      exact fit_of (a := 40) (by decide) aW_raw
    · simp only [List.mem_cons, List.not_mem_nil, or_false] at hx
      subst hx
      exact fit_of (a := 1) (by decide) z1)
  have ef : ([recsL 3 0 aW, [⟨2, aRp B⟩], aW, [⟨1, aR1 B⟩]] : List (List Wt)).flatten = [⟨3, aB.wt.raw⟩, ⟨2, aRp B⟩, ⟨40, aB.wt.raw⟩, ⟨1, aR1 B⟩] := by
    rw [er, aW_eq]
    simp
  rw [ef] at h4
  refine ⟨h1, h2, h4 0 _ ?_, h4 1 _ ?_, h4 2 _ ?_, h4 3 _ ?_⟩
  · unfold SeenL
    simp [lastW]
    exact hs
  · unfold SeenL
    simp [lastW]
  · unfold SeenL
    simp [lastW]
  · unfold SeenL
    simp [lastW]
theorem aP2_wait (B : Nat) : (aP2 B).wait = [] := by
  obtain ⟨s0, s1, s2⟩ := aS_sealed B
  have hro := aS_room B
  have z1 := s1.size (by omega)
  have z2 := s2.size (by omega)
  obtain ⟨_, hf, hw, hs⟩ := aP1_fine B
  have er : recsL 3 0 aW = [⟨3, aB.wt.raw⟩] := rfl
  obtain ⟨_, _, h3, _⟩ := fol_fine [recsL 3 0 aW, [⟨2, aRp B⟩], aW, [⟨1, aR1 B⟩]] hf hw (by
    intro l hl x hx
    rw [er, aW_eq] at hl
    simp only [List.mem_cons, List.not_mem_nil, or_false] at hl
    rcases hl with rfl | rfl | rfl | rfl
    · simp only [List.mem_cons, List.not_mem_nil, or_false] at hx
      subst hx
      exact fit_of (a := 3) (by decide) aW_raw
    · simp only [List.mem_cons, List.not_mem_nil, or_false] at hx
      subst hx
      exact fit_of (a := 2) (by decide) z2
    · simp only [List.mem_cons, List.not_mem_nil, or_false] at hx
      subst hx
      exact fit_of (a := 40) (by decide) aW_raw
    · simp only [List.mem_cons, List.not_mem_nil, or_false] at hx
      subst hx
      exact fit_of (a := 1) (by decide) z1)
  exact h3
theorem aP_len (B : Nat) : (aP2 B).kept.length = 784 ∧ (aP2 B).up = true := ⟨(aP2_fine B).2.1.len, (aP2_fine B).2.1.up⟩
/-- What Recover reads. -/
def aRg0 : Rg := ⟨true, (lawSp 48 0).hd, (lawSp 48 0).txt⟩
def aRg1 : Rg := ⟨true, (lawSp 48 1).hd, (lawSp 48 1).txt⟩
theorem aLoad0 (B : Nat) : loadR (idealK B) (aP2 B) (aS3 B) 0 = aRg0 := by
  obtain ⟨_, hf, h0, _, _, _⟩ := aP2_fine B
  obtain ⟨s0, _, _⟩ := aS_sealed B
  have hro := aS_room B
  exact load_seen B (a := 0) hf h0 s0 (by omega) rfl
theorem aCho : chO [aRg0, aRg1] 48 = some (lawSp 48 1) := by
  have h := cho_two (law_err 0 (.inl rfl)).1 (law_err 1 (.inr rfl)).1 rfl rfl rfl
  rw [if_pos (by decide)] at h
  exact h
/-- The device behind Recover's two readings. -/
structure AwR (B : Nat) (P1 P2 : PS) (raws : List ByteArray) (masks : List Int) : Prop where
  e1 : (bget (aP2 B) 0).2 = P1
  e2 : (bget P1 1).2 = P2
  er : rawsTo P2 (P2.kept.length / 8) = raws
  em : masksTo P2 (P2.kept.length / 8) = masks
theorem AwR.a1 {B : Nat} {P1 P2 : PS} {raws : List ByteArray} {masks : List Int} (h : AwR B P1 P2 raws masks) : Alike (aP2 B) P1 := by
  have q := jbget_alike (aP2 B) 0
  rw [h.e1] at q
  exact q
theorem AwR.a2 {B : Nat} {P1 P2 : PS} {raws : List ByteArray} {masks : List Int} (h : AwR B P1 P2 raws masks) : Alike (aP2 B) P2 := by
  have q := jbget_alike P1 1
  rw [h.e2] at q
  exact h.a1.trans q
theorem aLoad1 (B : Nat) {P1 P2 : PS} {raws : List ByteArray} {masks : List Int} (H : AwR B P1 P2 raws masks) : loadR (idealK B) P1 (aS3 B) 1 = aRg1 := by
  obtain ⟨_, hf, _, h1, _, _⟩ := aP2_fine B
  obtain ⟨_, s1, _⟩ := aS_sealed B
  have hro := aS_room B
  exact load_seen B (a := 1) (hf.alike H.a1) (h1.alike H.a1) s1 (by omega) rfl
theorem aLook (B : Nat) {P1 P2 : PS} {raws : List ByteArray} {masks : List Int} (H : AwR B P1 P2 raws masks) : lookR (idealK B) (aS3 B) raws masks 2 = ⟨true, (lawSp 48 1).hdC, proT (idealK B) (aS1 B) aW (lawSp 48 1)⟩ := by
  obtain ⟨_, hf, _, _, h2, _⟩ := aP2_fine B
  obtain ⟨_, _, s2⟩ := aS_sealed B
  have hro := aS_room B
  have q := look_seen B (a := 2) (hf.alike H.a2) (h2.alike H.a2) s2 (by omega) rfl
  rw [H.er, H.em] at q
  exact q
theorem aPi (B : Nat) {P1 P2 : PS} {raws : List ByteArray} {masks : List Int} (H : AwR B P1 P2 raws masks) : piN (lookR (idealK B) (aS3 B) raws masks 2) 48 = 1 ∧ piS (lookR (idealK B) (aS3 B) raws masks 2) 48 = lawSp 48 1 := by
  have hro := aS_room B
  have hr : (idealK B).room (aS1 B) 1 := by
    show (aS1 B).texts.length + 1 ≤ 1000000 ∧ (aS1 B).seals.length + 1 ≤ 1000000
    omega
  obtain ⟨_, h2, h3⟩ := pro_pi (idealOk B) (S := aS1 B) (l := aW) (s := lawSp 48 1) hr (by rw [aW_eq]; decide) (law_err 1 (.inr rfl)).1
  rw [aLook B H]
  exact ⟨h2, h3⟩
theorem aHd : aB.hd.err = 0 := by decide
theorem aTog (B : Nat) {P1 P2 : PS} {raws : List ByteArray} {masks : List Int} (H : AwR B P1 P2 raws masks) : togB 27 48 (fnW (idealK B) (aS3 B) raws masks 48) = true := by
  obtain ⟨_, hf, _, _, _, h3⟩ := aP2_fine B
  obtain ⟨a1, a2⟩ := seen_at (a := 3) (hf.alike H.a2) (h3.alike H.a2) aW_raw
  rw [H.er, H.em] at a1
  have e1 : atS raws masks 3 = aB.wt.raw := a1
  have er : fnW (idealK B) (aS3 B) raws masks 48 = [rcdW raws masks 3 0] := by
    unfold fnW
    rw [(aPi B H).1]
    rfl
  have ew : rcdW raws masks 3 0 = ⟨40, aB.wt.raw⟩ := by
    have e2 : atS raws masks (3 + ((0 : Nat) : Int)) = aB.wt.raw := e1
    unfold rcdW
    rw [e2]
    have e3 : aB.wt.raw.extract 0 48 = aB.hd.txt := by
      have e4 : aB.wt.raw = aB.hd.txt ++ fillS 1 464 := by
        show aB.first ++ fillS 1 464 = _
        rw [show aB.first = aB.hd.txt from if_pos ⟨aHd, rfl⟩]
      rw [e4]
      exact (ba_cut (hd_size aHd)).1
    rw [e3, hd_reads aHd]
    rfl
  rw [er, ew]
  have e3 : aB.wt.raw.extract 0 48 = aB.hd.txt := by
    have e4 : aB.wt.raw = aB.hd.txt ++ fillS 1 464 := by
      show aB.first ++ fillS 1 464 = _
      rw [show aB.first = aB.hd.txt from if_pos ⟨aHd, rfl⟩]
    rw [e4]
    exact (ba_cut (hd_size aHd)).1
  have hd : hdB ⟨40, aB.wt.raw⟩ = true := by
    unfold hdB
    refine decide_eq_true ⟨aW_raw, ?_, ?_⟩
    · show headE (aB.wt.raw.extract 0 48) = 0
      rw [e3]
      exact hd_headE aHd
    · show (hdOf (aB.wt.raw.extract 0 48)).v1 = 40
      rw [e3, hd_reads aHd]
      rfl
  unfold togB
  rw [hd]
  rfl
theorem aTogW : togB 27 48 aW = true := by
  have e3 : aB.wt.raw.extract 0 48 = aB.hd.txt := by
    have e4 : aB.wt.raw = aB.hd.txt ++ fillS 1 464 := by
      show aB.first ++ fillS 1 464 = _
      rw [show aB.first = aB.hd.txt from if_pos ⟨aHd, rfl⟩]
    rw [e4]
    exact (ba_cut (hd_size aHd)).1
  have hd : hdB ⟨40, aB.wt.raw⟩ = true := by
    unfold hdB
    refine decide_eq_true ⟨aW_raw, ?_, ?_⟩
    · show headE (aB.wt.raw.extract 0 48) = 0
      rw [e3]
      exact hd_headE aHd
    · show (hdOf (aB.wt.raw.extract 0 48)).v1 = 40
      rw [e3, hd_reads aHd]
      rfl
  rw [aW_eq]
  unfold togB
  rw [hd]
  rfl
theorem aFn (B : Nat) {P1 P2 : PS} {raws : List ByteArray} {masks : List Int} (H : AwR B P1 P2 raws masks) (h : fnOk (idealK B) (aS3 B) raws masks 48 = true) : (fnS (idealK B) (aS3 B) raws masks 48).ep = 1 := by
  unfold fnS
  rw [if_pos h, (aPi B H).2]
  rfl
theorem a784 : loE 784 = 0 ∧ loN 784 = 48 ∧ loA 784 = layA 48 (layQ 48) (layS 48) (layT 48) := by
  have h : liveO 784 = some 48 := by
    have := liveO_of (n := 48) (by decide) (by decide)
    rw [show totI 48 * 8 = 784 by decide] at this
    exact this
  unfold loE loN loA
  rw [h]
  exact ⟨rfl, rfl, rfl⟩
end Go.Proofs.YtdngoicpcocnnaaGreatDoor
