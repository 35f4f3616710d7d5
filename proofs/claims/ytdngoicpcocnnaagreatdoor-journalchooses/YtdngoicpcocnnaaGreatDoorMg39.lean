/- What is sealed is told again; a superblock and a promise are read as what they were; nothing of the program's calls. -/
import Derived.Test.YtdngoicpcocnnaaGreatDoorMg35
import Derived.Test.YtdngoicpcocnnaaGreatDoorMg36
import Derived.Test.YtdngoicpcocnnaaGreatDoorMg37
import Derived.Test.YtdngoicpcocnnaaGreatDoorMg38
namespace Go.Proofs.YtdngoicpcocnnaaGreatDoor
set_option maxRecDepth 20000
open Go.RowKit

/-- A superblock's bytes are read as it. -/
theorem sp_list {s : Sp} (h : s.err = 0) : s.txt.data.toList = laidL (superPs s.vol s.ep s.nx s.lv) ++ s.root.data.toList ++ List.replicate 394 0 ∧ (laidL (superPs s.vol s.ep s.nx s.lv)).length = 22 ∧ s.root.size = 32 ∧ laidOk (superPs s.vol s.ep s.nx s.lv) = true := by
  unfold Sp.err superE at h
  split at h
  · next hr =>
    have hl := recE_zero h
    refine ⟨?_, laidL_length _ hl, hr, hl⟩
    unfold Sp.txt superS
    rw [if_pos ⟨hr, hl⟩]
    rfl
  · cases h
theorem sp_inj {s t : Sp} (es : s.err = 0) (et : t.err = 0) (e : s.txt = t.txt) : s = t := by
  obtain ⟨a1, a2, a3, a4⟩ := sp_list es
  obtain ⟨b1, b2, b3, b4⟩ := sp_list et
  rw [e, b1] at a1
  have h1 := List.append_cancel_right a1
  obtain ⟨h2, h3⟩ := List.append_inj h1 (by rw [a2, b2])
  have h4 := laidL_inj (superPs t.vol t.ep t.nx t.lv) (superPs s.vol s.ep s.nx s.lv) rfl b4 a4 h2
  have h5 : s.root = t.root := by
    have h3 : t.root.data.toList = s.root.data.toList := h3
    exact (ByteArray.ext (Array.toList_inj.1 h3)).symm
  obtain ⟨s0, s1, s2, s3, s4⟩ := s
  obtain ⟨t0, t1, t2, t3, t4⟩ := t
  simp [superPs] at h4 h5
  obtain ⟨rfl, rfl, rfl, rfl⟩ := h4
  rw [h5]
theorem jsuper_parts {s : ByteArray} (h : superOE s = 0) : s.size = 448 ∧ allZ (s.extract 54 448) = true := by
  unfold superOE at h
  by_cases h1 : 448 < s.size
  · rw [if_pos h1] at h; omega
  rw [if_neg h1] at h
  by_cases h2 : s.size < 448
  · rw [if_pos h2] at h; omega
  rw [if_neg h2] at h
  by_cases h4 : allZ (s.extract 54 448) = true
  case neg => rw [if_neg h4] at h; omega
  exact ⟨by omega, h4⟩
theorem jsuper_back {s : ByteArray} (h : superOE s = 0) : superE (superON s 0 6) (superON s 6 6) (superON s 12 6) (superON s 18 4) (superOR s) = 0 ∧ superS (superON s 0 6) (superON s 6 6) (superON s 12 6) (superON s 18 4) (superOR s) = s := by
  obtain ⟨h448, hz⟩ := jsuper_parts h
  have e : superPs (superON s 0 6) (superON s 6 6) (superON s 12 6) (superON s 18 4) = pairsOf s.data.toList 0 [6, 6, 6, 4] := by
    simp only [superON, if_pos h]
    rfl
  have er : superOR s = s.extract 22 54 := by rw [superOR, if_pos h]
  have hr : (s.extract 22 54).size = 32 := by simp; omega
  have hl := size_of_list s
  obtain ⟨p1, p2⟩ := pairs_laid s.data.toList [6, 6, 6, 4] 0 (by decide) (by rw [hl, h448]; decide)
  rw [er]
  constructor
  · rw [superE, if_pos hr, e, recE_ok p1]
  · rw [superS, e, if_pos ⟨hr, p1⟩, p2]
    unfold padL
    refine ba_of ?_
    have c2 := text_zeros s 54 448 h448 (by decide) hz
    have c3 := list_three s.data.toList 22 32
    have c4 := text_cut s 22 54
    rw [show (s.data.toList.drop 22).take 32 = _ from c4, c2] at c3
    exact c3.symm
theorem sp_reads {s : Sp} (h : s.err = 0) : superOE s.txt = 0 ∧ spOf s.txt = s := by
  obtain ⟨a1, a2, a3, a4⟩ := sp_list h
  have hs := sp_size h
  have ho : superOE s.txt = 0 := by
    unfold superOE
    rw [if_neg (by omega), if_neg (by omega), if_pos]
    have c := text_cut s.txt 54 448
    have hr : s.root.data.toList.length = 32 := by rw [← a3]; simp
    rw [a1, List.drop_left' (by simp [a2, hr])] at c
    unfold allZ
    rw [← c]
    rfl
  refine ⟨ho, ?_⟩
  obtain ⟨b1, b2⟩ := jsuper_back ho
  exact sp_inj (s := spOf s.txt) b1 h b2
/-- A promise's body is read as what it promises. -/
theorem pro_list {K : VK} (HK : VKOk K) {S : K.σ} {l : List Wt} {s : Sp} (hr : K.room S 1) (hll : l.length ≤ 24) (he : s.err = 0) : (proT K S l s).data.toList = (putS (l.length : Int) 2).data.toList ++ (K.hS S (joinB l)).data.toList ++ (laidL (superPs s.vol s.ep s.nx s.lv) ++ s.root.data.toList) ++ List.replicate 360 0 := by
  obtain ⟨_, h2, h3, _, _⟩ := pro_sizes HK hr hll he
  obtain ⟨a1, a2, a3, a4⟩ := sp_list he
  have hr2 : s.root.data.toList.length = 32 := by rw [← a3]; simp
  have h54 : (s.txt.extract 0 54).data.toList = laidL (superPs s.vol s.ep s.nx s.lv) ++ s.root.data.toList := by
    have c := text_cut s.txt 0 54
    rw [a1, List.drop_zero, List.take_left' (by simp [a2, hr2])] at c
    exact c.symm
  have h4 : (putS (l.length : Int) 2 ++ K.hS S (joinB l) ++ s.txt.extract 0 54).size = 88 := by
    rw [ByteArray.size_append, ByteArray.size_append, h2, h3, ByteArray.size_extract, sp_size he]
    rfl
  unfold proT
  have hp := padS_ok (s := putS (l.length : Int) 2 ++ K.hS S (joinB l) ++ s.txt.extract 0 54) (n := 448) (by decide) (by omega)
  rw [show (448 : Int) = ((448 : Nat) : Int) from rfl, hp, h4]
  simp only [ByteArray.data_append, Array.toList_append, h54]
theorem pro_count {K : VK} (HK : VKOk K) {S : K.σ} {l : List Wt} {s : Sp} (hr : K.room S 1) (hll : l.length ≤ 24) (he : s.err = 0) : getN (proT K S l s) 0 2 = (l.length : Int) := by
  have h1 := pro_list HK hr hll he
  obtain ⟨_, h2, _, _, h5⟩ := pro_sizes HK hr hll he
  rw [show (0 : Int) = ((0 : Nat) : Int) from rfl, show (2 : Int) = ((2 : Nat) : Int) from rfl, getN_ok (by decide) (by decide) (by omega), h1, List.drop_zero]
  have hl : (putS (l.length : Int) 2).data.toList.length = 2 := by rw [← h2]; simp
  have h256 : (256 : Int) ^ 2 = 65536 := by decide
  have hp : putS (l.length : Int) ((2 : Nat) : Int) = strOfNums (leI 2 (l.length : Int)) := putS_ok (by decide) (by decide) (by omega) (by omega)
  rw [List.append_assoc, List.append_assoc, List.take_left' hl, show (2 : Int) = ((2 : Nat) : Int) from rfl, hp]
  show leVal ((leI 2 (l.length : Int)).map fun x => UInt8.ofNat x.toNat) = _
  exact leVal_leI 2 _ (by omega) (by omega)
theorem pro_super {K : VK} (HK : VKOk K) {S : K.σ} {l : List Wt} {s : Sp} (hr : K.room S 1) (hll : l.length ≤ 24) (he : s.err = 0) (ok : Bool) (h : Hd) : piT ⟨ok, h, proT K S l s⟩ = s.txt := by
  have h1 := pro_list HK hr hll he
  obtain ⟨_, h2, h3, _, h5⟩ := pro_sizes HK hr hll he
  obtain ⟨a1, a2, a3, a4⟩ := sp_list he
  have e1 : (putS (l.length : Int) 2).data.toList.length = 2 := by rw [← h2]; simp
  have e2 : (K.hS S (joinB l)).data.toList.length = 32 := by rw [← h3]; simp
  have e3 : s.root.data.toList.length = 32 := by rw [← a3]; simp
  have hx : ((proT K S l s).extract 34 448).data.toList = laidL (superPs s.vol s.ep s.nx s.lv) ++ s.root.data.toList ++ List.replicate 360 0 := by
    rw [← text_cut, h1, List.append_assoc, List.drop_left' (by simp [e1, e2])]
    exact List.take_of_length_le (by simp [a2, e3])
  have hz : ((proT K S l s).extract 34 448).size = 414 := by simp [h5]
  unfold piT
  rw [show (448 : Int) = ((448 : Nat) : Int) from rfl, padS_ok (by decide) (by rw [hz]; decide)]
  refine ba_of ?_
  rw [hx, hz, a1, List.append_assoc, List.append_assoc, List.append_assoc]
  rfl
theorem pro_pi {K : VK} (HK : VKOk K) {S : K.σ} {l : List Wt} {s : Sp} (hr : K.room S 1) (hll : l.length ≤ 24) (he : s.err = 0) : piB ⟨true, s.hdC, proT K S l s⟩ s.lv = true ∧ piN ⟨true, s.hdC, proT K S l s⟩ s.lv = (l.length : Int) ∧ piS ⟨true, s.hdC, proT K S l s⟩ s.lv = s := by
  obtain ⟨b1, b2⟩ := sp_reads he
  have hb : piB ⟨true, s.hdC, proT K S l s⟩ s.lv = true := by
    unfold piB
    rw [pro_super HK hr hll he]
    refine decide_eq_true ⟨rfl, rfl, ?_, b1, by rw [b2]⟩
    dsimp only
    rw [pro_count HK hr hll he]
    omega
  refine ⟨hb, ?_, ?_⟩
  · unfold piN
    rw [if_pos hb]
    dsimp only
    exact pro_count HK hr hll he
  · unfold piS
    rw [if_pos hb, pro_super HK hr hll he, b2]

/-- A block that was sealed under the ideal vault. -/
def Sealed (T : VS) (h : Hd) (s r : ByteArray) : Prop := h.err = 0 ∧ s.size = 448 ∧ numOf T.seals (h.four s) ≠ 0 ∧ r = blkS h s (numOf T.seals (h.four s))
theorem Sealed.size {T : VS} {h : Hd} {s r : ByteArray} (hS : Sealed T h s r) (hl : T.seals.length ≤ 1000000) : r.size = 512 := by
  obtain ⟨e, hs, _, rfl⟩ := hS
  have := numOf_le (h.four s) T.seals
  exact blk_size e hs (by omega)
theorem Sealed.add {T : VS} {h : Hd} {s r : ByteArray} (hS : Sealed T h s r) (g : Hd) (t : ByteArray) : Sealed (bsealP T g t) h s r := by
  obtain ⟨e, hs, hn, hr⟩ := hS
  unfold bsealP
  split
  · exact ⟨e, hs, by show numOf (addN _ _) _ ≠ 0; rw [numOf_add_keeps _ hn]; exact hn, by show r = blkS h s (numOf (addN _ _) _); rw [numOf_add_keeps _ hn]; exact hr⟩
  · exact ⟨e, hs, hn, hr⟩
theorem Sealed.hash {T : VS} {h : Hd} {s r : ByteArray} (hS : Sealed T h s r) (t : ByteArray) : Sealed (hashP T t) h s r := hS
theorem sealed_new (T : VS) {h : Hd} {s : ByteArray} (e : h.err = 0) (hs : s.size = 448) : Sealed (bsealP T h s) h s (bsealS T h s) := by
  have hb : bsealB h s = true := decide_eq_true ⟨hs, e⟩
  unfold bsealP bsealS
  rw [if_pos hb, if_pos hb]
  exact ⟨e, hs, numOf_add_pos _ _, rfl⟩
theorem sealed_told (B : Nat) {T : VS} {h : Hd} {s r : ByteArray} (hS : Sealed T h s r) (hl : T.seals.length ≤ 1000000) {a : Int} (ha : h.v1 = a) : toldR (idealK B) T r a = ⟨true, h, s⟩ := by
  obtain ⟨e, hs, hn, rfl⟩ := hS
  obtain ⟨h1, h2, h3⟩ := bopen_blk T h s hl e hs hn
  have e1 : (idealK B).oE T (blkS h s (numOf T.seals (h.four s))) = 0 := h1
  have e2 : (idealK B).oH T (blkS h s (numOf T.seals (h.four s))) = h := h2
  have e3 : (idealK B).oS T (blkS h s (numOf T.seals (h.four s))) = s := h3
  unfold toldR
  rw [e1, e2, e3, if_pos ⟨rfl, ha⟩]
/-- Super and the promise under the ideal vault. -/
theorem sup_sealed (B : Nat) (T : VS) {s : Sp} (he : s.err = 0) (hh : s.hd.err = 0) : supE s = 0 ∧ Sealed (supP (idealK B) T s) s.hd s.txt (supR (idealK B) T s) ∧ supP (idealK B) T s = bsealP T s.hd s.txt := by
  have h0 : supE s = 0 := by
    unfold supE bsealE
    rw [if_pos he, if_pos (sp_size he)]
    exact hh
  have e1 : supP (idealK B) T s = bsealP T s.hd s.txt := if_pos he
  have e2 : supR (idealK B) T s = bsealS T s.hd s.txt := if_pos h0
  refine ⟨h0, ?_, e1⟩
  rw [e1, e2]
  exact sealed_new T hh (sp_size he)
theorem ideal_pro (B : Nat) (S : VS) (t : ByteArray) (h : Hd) (x : ByteArray) {X : VS} (e : X = (idealK B).sP ((idealK B).hP S t) h x) : X = bsealP (hashP S t) h x := e
theorem ideal_proR (B : Nat) (S : VS) (t : ByteArray) (h : Hd) (x : ByteArray) {X : ByteArray} (e : X = (idealK B).sS ((idealK B).hP S t) h x) : X = bsealS (hashP S t) h x := e
theorem proP_yes (K : VK) (S : K.σ) (l : List Wt) (s : Sp) (he : s.err = 0) : proP K S l s = K.sP (K.hP S (joinB l)) s.hdC (proT K S l s) := if_pos he
theorem proR_yes (K : VK) (S : K.σ) (l : List Wt) (s : Sp) (he : proE K S l s = 0) : proR K S l s = K.sS (K.hP S (joinB l)) s.hdC (proT K S l s) := if_pos he
theorem pro_sealed (B : Nat) (T : VS) {l : List Wt} {s : Sp} (hr : (idealK B).room T 1) (hll : l.length ≤ 24) (he : s.err = 0) (hh : s.hdC.err = 0) : proE (idealK B) T l s = 0 ∧ Sealed (proP (idealK B) T l s) s.hdC (proT (idealK B) T l s) (proR (idealK B) T l s) ∧ proP (idealK B) T l s = bsealP (hashP T (joinB l)) s.hdC (proT (idealK B) T l s) := by
  obtain ⟨_, _, _, _, h5⟩ := pro_sizes (idealOk B) hr hll he
  have h0 : proE (idealK B) T l s = 0 := by
    unfold proE bsealE
    rw [if_pos he, if_pos h5]
    exact hh
  have e1 := ideal_pro B T _ _ _ (proP_yes (idealK B) T l s he)
  have e2 := ideal_proR B T _ _ _ (proR_yes (idealK B) T l s h0)
  refine ⟨h0, ?_, e1⟩
  rw [e1, e2]
  exact sealed_new _ hh h5
theorem load_seen (B : Nat) {P : PS} {n a : Nat} {T : VS} {h : Hd} {s r : ByteArray} (hF : Fine P n) (hs : Seen P a r) (hS : Sealed T h s r) (hl : T.seals.length ≤ 1000000) (ha : h.v1 = (a : Int)) : loadR (idealK B) P T (a : Int) = ⟨true, h, s⟩ := by
  have hg := seen_get hF hs (hS.size hl)
  unfold loadR
  rw [hg]
  rw [if_pos ⟨rfl, rfl⟩]
  exact sealed_told B hS hl ha
theorem look_seen (B : Nat) {P : PS} {n a : Nat} {T : VS} {h : Hd} {s r : ByteArray} (hF : Fine P n) (hs : Seen P a r) (hS : Sealed T h s r) (hl : T.seals.length ≤ 1000000) (ha : h.v1 = (a : Int)) : lookR (idealK B) T (rawsTo P (P.kept.length / 8)) (masksTo P (P.kept.length / 8)) (a : Int) = ⟨true, h, s⟩ := by
  obtain ⟨h1, h2⟩ := seen_at hF hs (hS.size hl)
  unfold lookR
  rw [h1, h2, if_pos rfl]
  exact sealed_told B hS hl ha
/-- Two superblocks in their slots: the later one is chosen. -/
theorem sin_yes {s : Sp} (he : s.err = 0) (h : Hd) (h2 : h.v2 = 1) {slot : Int} (h3 : s.ep.tmod 2 = slot) : sinB ⟨true, h, s.txt⟩ slot s.lv = true := by
  obtain ⟨b1, b2⟩ := sp_reads he
  unfold sinB
  exact decide_eq_true ⟨rfl, h2, b1, by show (spOf s.txt).ep.tmod 2 = slot; rw [b2]; exact h3, by show (spOf s.txt).lv = s.lv; rw [b2]⟩
theorem cho_two {s t : Sp} (es : s.err = 0) (et : t.err = 0) (hl : s.lv = t.lv) (hs : s.ep.tmod 2 = 0) (ht : t.ep.tmod 2 = 1) : chO [⟨true, s.hd, s.txt⟩, ⟨true, t.hd, t.txt⟩] t.lv = some (if s.ep < t.ep then t else s) := by
  have a1 := sin_yes es s.hd rfl hs
  have a2 := sin_yes et t.hd rfl ht
  rw [hl] at a1
  have c0 : chN [⟨true, s.hd, s.txt⟩, ⟨true, t.hd, t.txt⟩] t.lv 1 = some s := by
    have := chN_yes (l := [⟨true, s.hd, s.txt⟩, ⟨true, t.hd, t.txt⟩]) (live := t.lv) (j := 0) (r := ⟨true, s.hd, s.txt⟩) rfl a1 (.inl rfl)
    rw [this]
    exact congrArg some (sp_reads es).2
  show chN _ _ 2 = _
  by_cases hlt : s.ep < t.ep
  · rw [if_pos hlt]
    have := chN_yes (l := [⟨true, s.hd, s.txt⟩, ⟨true, t.hd, t.txt⟩]) (live := t.lv) (j := 1) (r := ⟨true, t.hd, t.txt⟩) rfl a2 (.inr (by rw [c0]; show s.ep < (spOf t.txt).ep; rw [(sp_reads et).2]; exact hlt))
    rw [this]
    exact congrArg some (sp_reads et).2
  · rw [if_neg hlt]
    have := chN_no (l := [⟨true, s.hd, s.txt⟩, ⟨true, t.hd, t.txt⟩]) (live := t.lv) (j := 1) (r := ⟨true, t.hd, t.txt⟩) rfl (.inr ⟨by rw [c0]; rfl, by rw [c0]; show ¬ s.ep < (spOf t.txt).ep; rw [(sp_reads et).2]; exact hlt⟩)
    rw [this, c0]
end Go.Proofs.YtdngoicpcocnnaaGreatDoor
