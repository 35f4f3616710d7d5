/- What is sealed is told again; a superblock and a promise are read as what they were; nothing of the program's calls. · A list of blocks, of readings that came in. · The document's Layout. · The laws' text, super and sectors. -/
import Derived.Test.YtldkdoddklfdlaaGreatDoorMg43
import Derived.Test.YtldkdoddklfdlaaGreatDoorMg39
import Derived.Test.YtldkdoddklfdlaaGreatDoorMg44
import Derived.Test.YtldkdoddklfdlaaGreatDoorMg09
import Derived.Test.YtldkdoddklfdlaaGreatDoorMg12
import Derived.Test.YtldkdoddklfdlaaGreatDoorMg10
import Derived.Test.YtldkdoddklfdlaaGreatDoorMg08
namespace Go.Proofs.YtldkdoddklfdlaaGreatDoor
set_option maxRecDepth 20000
open Go.RowKit

/-- A superblock's bytes are read as it. -/
theorem sp_list {s : Sp} (h : s.err = 0) : s.txt.data.toList = laidL (superPs s.vol s.ep s.nx s.lv) ++ s.root.data.toList ++ List.replicate 394 0 ∧ (laidL (superPs s.vol s.ep s.nx s.lv)).length = 22 ∧ s.root.size = 32 ∧ laidOk (superPs s.vol s.ep s.nx s.lv) = true := by
  unfold Sp.err superE at h
  split at h
  · next hr =>
    have hl := recE_zero h
    refine ⟨?_, laidL_length _ hl, hr, hl⟩
    unfold Sp.txt superS
    rw [if_pos ⟨hr, hl⟩]
    rfl
  · cases h
theorem sp_inj {s t : Sp} (es : s.err = 0) (et : t.err = 0) (e : s.txt = t.txt) : s = t := by
  obtain ⟨a1, a2, a3, a4⟩ := sp_list es
  obtain ⟨b1, b2, b3, b4⟩ := sp_list et
  rw [e, b1] at a1
  have h1 := List.append_cancel_right a1
  obtain ⟨h2, h3⟩ := List.append_inj h1 (by rw [a2, b2])
  have h4 := laidL_inj (superPs t.vol t.ep t.nx t.lv) (superPs s.vol s.ep s.nx s.lv) rfl b4 a4 h2
  have h5 : s.root = t.root := by
    have h3 : t.root.data.toList = s.root.data.toList := h3
    exact (ByteArray.ext (Array.toList_inj.1 h3)).symm
  obtain ⟨s0, s1, s2, s3, s4⟩ := s
  obtain ⟨t0, t1, t2, t3, t4⟩ := t
  simp [superPs] at h4 h5
  obtain ⟨rfl, rfl, rfl, rfl⟩ := h4
  rw [h5]
theorem jsuper_parts {s : ByteArray} (h : superOE s = 0) : s.size = 448 ∧ allZ (s.extract 54 448) = true := by
  unfold superOE at h
  by_cases h1 : 448 < s.size
  · rw [if_pos h1] at h; omega
  rw [if_neg h1] at h
  by_cases h2 : s.size < 448
  · rw [if_pos h2] at h; omega
  rw [if_neg h2] at h
  by_cases h4 : allZ (s.extract 54 448) = true
  case neg => rw [if_neg h4] at h; omega
  exact ⟨by omega, h4⟩
theorem jsuper_back {s : ByteArray} (h : superOE s = 0) : superE (superON s 0 6) (superON s 6 6) (superON s 12 6) (superON s 18 4) (superOR s) = 0 ∧ superS (superON s 0 6) (superON s 6 6) (superON s 12 6) (superON s 18 4) (superOR s) = s := by
  obtain ⟨h448, hz⟩ := jsuper_parts h
  have e : superPs (superON s 0 6) (superON s 6 6) (superON s 12 6) (superON s 18 4) = pairsOf s.data.toList 0 [6, 6, 6, 4] := by
    simp only [superON, if_pos h]
    rfl
  have er : superOR s = s.extract 22 54 := by rw [superOR, if_pos h]
  have hr : (s.extract 22 54).size = 32 := by simp; omega
  have hl := size_of_list s
  obtain ⟨p1, p2⟩ := pairs_laid s.data.toList [6, 6, 6, 4] 0 (by decide) (by rw [hl, h448]; decide)
  rw [er]
  constructor
  · rw [superE, if_pos hr, e, recE_ok p1]
  · rw [superS, e, if_pos ⟨hr, p1⟩, p2]
    unfold padL
    refine ba_of ?_
    have c2 := text_zeros s 54 448 h448 (by decide) hz
    have c3 := list_three s.data.toList 22 32
    have c4 := text_cut s 22 54
    rw [show (s.data.toList.drop 22).take 32 = _ from c4, c2] at c3
    exact c3.symm
theorem sp_reads {s : Sp} (h : s.err = 0) : superOE s.txt = 0 ∧ spOf s.txt = s := by
  obtain ⟨a1, a2, a3, a4⟩ := sp_list h
  have hs := sp_size h
  have ho : superOE s.txt = 0 := by
    unfold superOE
    rw [if_neg (by omega), if_neg (by omega), if_pos]
    have c := text_cut s.txt 54 448
    have hr : s.root.data.toList.length = 32 := by rw [← a3]; simp
    rw [a1, List.drop_left' (by simp [a2, hr])] at c
    unfold allZ
    rw [← c]
    rfl
  refine ⟨ho, ?_⟩
  obtain ⟨b1, b2⟩ := jsuper_back ho
  exact sp_inj (s := spOf s.txt) b1 h b2
/-- A promise's body is read as what it promises. -/
theorem pro_list {K : VK} (HK : VKOk K) {S : K.σ} {l : List Wt} {s : Sp} (hr : K.room S 1) (hll : l.length ≤ 24) (he : s.err = 0) : (proT K S l s).data.toList = (putS (l.length : Int) 2).data.toList ++ (K.hS S (joinB l)).data.toList ++ (laidL (superPs s.vol s.ep s.nx s.lv) ++ s.root.data.toList) ++ List.replicate 360 0 := by
  obtain ⟨_, h2, h3, _, _⟩ := pro_sizes HK hr hll he
  obtain ⟨a1, a2, a3, a4⟩ := sp_list he
  have hr2 : s.root.data.toList.length = 32 := by rw [← a3]; simp
  have h54 : (s.txt.extract 0 54).data.toList = laidL (superPs s.vol s.ep s.nx s.lv) ++ s.root.data.toList := by
    have c := text_cut s.txt 0 54
    rw [a1, List.drop_zero, List.take_left' (by simp [a2, hr2])] at c
    exact c.symm
  have h4 : (putS (l.length : Int) 2 ++ K.hS S (joinB l) ++ s.txt.extract 0 54).size = 88 := by
    rw [ByteArray.size_append, ByteArray.size_append, h2, h3, ByteArray.size_extract, sp_size he]
    rfl
  unfold proT
  have hp := padS_ok (s := putS (l.length : Int) 2 ++ K.hS S (joinB l) ++ s.txt.extract 0 54) (n := 448) (by decide) (by omega)
  rw [show (448 : Int) = ((448 : Nat) : Int) from rfl, hp, h4]
  simp only [ByteArray.data_append, Array.toList_append, h54]
theorem pro_count {K : VK} (HK : VKOk K) {S : K.σ} {l : List Wt} {s : Sp} (hr : K.room S 1) (hll : l.length ≤ 24) (he : s.err = 0) : getN (proT K S l s) 0 2 = (l.length : Int) := by
  have h1 := pro_list HK hr hll he
  obtain ⟨_, h2, _, _, h5⟩ := pro_sizes HK hr hll he
  rw [show (0 : Int) = ((0 : Nat) : Int) from rfl, show (2 : Int) = ((2 : Nat) : Int) from rfl, getN_ok (by decide) (by decide) (by omega), h1, List.drop_zero]
  have hl : (putS (l.length : Int) 2).data.toList.length = 2 := by rw [← h2]; simp
  have h256 : (256 : Int) ^ 2 = 65536 := by decide
  have hp : putS (l.length : Int) ((2 : Nat) : Int) = strOfNums (leI 2 (l.length : Int)) := putS_ok (by decide) (by decide) (by omega) (by omega)
  rw [List.append_assoc, List.append_assoc, List.take_left' hl, show (2 : Int) = ((2 : Nat) : Int) from rfl, hp]
  show leVal ((leI 2 (l.length : Int)).map fun x => UInt8.ofNat x.toNat) = _
  exact leVal_leI 2 _ (by omega) (by omega)
theorem pro_super {K : VK} (HK : VKOk K) {S : K.σ} {l : List Wt} {s : Sp} (hr : K.room S 1) (hll : l.length ≤ 24) (he : s.err = 0) (ok : Bool) (h : Hd) : piT ⟨ok, h, proT K S l s⟩ = s.txt := by
  have h1 := pro_list HK hr hll he
  obtain ⟨_, h2, h3, _, h5⟩ := pro_sizes HK hr hll he
  obtain ⟨a1, a2, a3, a4⟩ := sp_list he
  have e1 : (putS (l.length : Int) 2).data.toList.length = 2 := by rw [← h2]; simp
  have e2 : (K.hS S (joinB l)).data.toList.length = 32 := by rw [← h3]; simp
  have e3 : s.root.data.toList.length = 32 := by rw [← a3]; simp
  have hx : ((proT K S l s).extract 34 448).data.toList = laidL (superPs s.vol s.ep s.nx s.lv) ++ s.root.data.toList ++ List.replicate 360 0 := by
    rw [← text_cut, h1, List.append_assoc, List.drop_left' (by simp [e1, e2])]
    exact List.take_of_length_le (by simp [a2, e3])
  have hz : ((proT K S l s).extract 34 448).size = 414 := by simp [h5]
  unfold piT
  rw [show (448 : Int) = ((448 : Nat) : Int) from rfl, padS_ok (by decide) (by rw [hz]; decide)]
  refine ba_of ?_
  rw [hx, hz, a1, List.append_assoc, List.append_assoc, List.append_assoc]
  rfl
theorem pro_pi {K : VK} (HK : VKOk K) {S : K.σ} {l : List Wt} {s : Sp} (hr : K.room S 1) (hll : l.length ≤ 24) (he : s.err = 0) : piB ⟨true, s.hdC, proT K S l s⟩ s.lv = true ∧ piN ⟨true, s.hdC, proT K S l s⟩ s.lv = (l.length : Int) ∧ piS ⟨true, s.hdC, proT K S l s⟩ s.lv = s := by
  obtain ⟨b1, b2⟩ := sp_reads he
  have hb : piB ⟨true, s.hdC, proT K S l s⟩ s.lv = true := by
    unfold piB
    rw [pro_super HK hr hll he]
    refine decide_eq_true ⟨rfl, rfl, ?_, b1, by rw [b2]⟩
    dsimp only
    rw [pro_count HK hr hll he]
    omega
  refine ⟨hb, ?_, ?_⟩
  · unfold piN
    rw [if_pos hb]
    dsimp only
    exact pro_count HK hr hll he
  · unfold piS
    rw [if_pos hb, pro_super HK hr hll he, b2]

/-- A block that was sealed under the ideal vault. -/
def Sealed (T : VS) (h : Hd) (s r : ByteArray) : Prop := h.err = 0 ∧ s.size = 448 ∧ numOf T.seals (h.four s) ≠ 0 ∧ r = blkS h s (numOf T.seals (h.four s))
theorem Sealed.size {T : VS} {h : Hd} {s r : ByteArray} (hS : Sealed T h s r) (hl : T.seals.length ≤ 1000000) : r.size = 512 := by
  obtain ⟨e, hs, _, rfl⟩ := hS
  have := numOf_le (h.four s) T.seals
  exact blk_size e hs (by omega)
theorem Sealed.add {T : VS} {h : Hd} {s r : ByteArray} (hS : Sealed T h s r) (g : Hd) (t : ByteArray) : Sealed (bsealP T g t) h s r := by
  obtain ⟨e, hs, hn, hr⟩ := hS
  unfold bsealP
  split
  · exact ⟨e, hs, by show numOf (addN _ _) _ ≠ 0; rw [numOf_add_keeps _ hn]; exact hn, by show r = blkS h s (numOf (addN _ _) _); rw [numOf_add_keeps _ hn]; exact hr⟩
  · exact ⟨e, hs, hn, hr⟩
theorem Sealed.hash {T : VS} {h : Hd} {s r : ByteArray} (hS : Sealed T h s r) (t : ByteArray) : Sealed (hashP T t) h s r := hS
theorem sealed_new (T : VS) {h : Hd} {s : ByteArray} (e : h.err = 0) (hs : s.size = 448) : Sealed (bsealP T h s) h s (bsealS T h s) := by
  have hb : bsealB h s = true := decide_eq_true ⟨hs, e⟩
  unfold bsealP bsealS
  rw [if_pos hb, if_pos hb]
  exact ⟨e, hs, numOf_add_pos _ _, rfl⟩
theorem sealed_told (B : Nat) {T : VS} {h : Hd} {s r : ByteArray} (hS : Sealed T h s r) (hl : T.seals.length ≤ 1000000) {a : Int} (ha : h.v1 = a) : toldR (idealK B) T r a = ⟨true, h, s⟩ := by
  obtain ⟨e, hs, hn, rfl⟩ := hS
  obtain ⟨h1, h2, h3⟩ := bopen_blk T h s hl e hs hn
  have e1 : (idealK B).oE T (blkS h s (numOf T.seals (h.four s))) = 0 := h1
  have e2 : (idealK B).oH T (blkS h s (numOf T.seals (h.four s))) = h := h2
  have e3 : (idealK B).oS T (blkS h s (numOf T.seals (h.four s))) = s := h3
  unfold toldR
  rw [e1, e2, e3, if_pos ⟨rfl, ha⟩]
/-- Super and the promise under the ideal vault. -/
theorem sup_sealed (B : Nat) (T : VS) {s : Sp} (he : s.err = 0) (hh : s.hd.err = 0) : supE s = 0 ∧ Sealed (supP (idealK B) T s) s.hd s.txt (supR (idealK B) T s) ∧ supP (idealK B) T s = bsealP T s.hd s.txt := by
  have h0 : supE s = 0 := by
    unfold supE bsealE
    rw [if_pos he, if_pos (sp_size he)]
    exact hh
  have e1 : supP (idealK B) T s = bsealP T s.hd s.txt := if_pos he
  have e2 : supR (idealK B) T s = bsealS T s.hd s.txt := if_pos h0
  refine ⟨h0, ?_, e1⟩
  rw [e1, e2]
  exact sealed_new T hh (sp_size he)
theorem ideal_pro (B : Nat) (S : VS) (t : ByteArray) (h : Hd) (x : ByteArray) {X : VS} (e : X = (idealK B).sP ((idealK B).hP S t) h x) : X = bsealP (hashP S t) h x := e
theorem ideal_proR (B : Nat) (S : VS) (t : ByteArray) (h : Hd) (x : ByteArray) {X : ByteArray} (e : X = (idealK B).sS ((idealK B).hP S t) h x) : X = bsealS (hashP S t) h x := e
theorem proP_yes (K : VK) (S : K.σ) (l : List Wt) (s : Sp) (he : s.err = 0) : proP K S l s = K.sP (K.hP S (joinB l)) s.hdC (proT K S l s) := if_pos he
theorem proR_yes (K : VK) (S : K.σ) (l : List Wt) (s : Sp) (he : proE K S l s = 0) : proR K S l s = K.sS (K.hP S (joinB l)) s.hdC (proT K S l s) := if_pos he
theorem pro_sealed (B : Nat) (T : VS) {l : List Wt} {s : Sp} (hr : (idealK B).room T 1) (hll : l.length ≤ 24) (he : s.err = 0) (hh : s.hdC.err = 0) : proE (idealK B) T l s = 0 ∧ Sealed (proP (idealK B) T l s) s.hdC (proT (idealK B) T l s) (proR (idealK B) T l s) ∧ proP (idealK B) T l s = bsealP (hashP T (joinB l)) s.hdC (proT (idealK B) T l s) := by
  obtain ⟨_, _, _, _, h5⟩ := pro_sizes (idealOk B) hr hll he
  have h0 : proE (idealK B) T l s = 0 := by
    unfold proE bsealE
    rw [if_pos he, if_pos h5]
    exact hh
  have e1 := ideal_pro B T _ _ _ (proP_yes (idealK B) T l s he)
  have e2 := ideal_proR B T _ _ _ (proR_yes (idealK B) T l s h0)
  refine ⟨h0, ?_, e1⟩
  rw [e1, e2]
  exact sealed_new _ hh h5
theorem load_seen (B : Nat) {P : PS} {n a : Nat} {T : VS} {h : Hd} {s r : ByteArray} (hF : Fine P n) (hs : Seen P a r) (hS : Sealed T h s r) (hl : T.seals.length ≤ 1000000) (ha : h.v1 = (a : Int)) : loadR (idealK B) P T (a : Int) = ⟨true, h, s⟩ := by
  have hg := seen_get hF hs (hS.size hl)
  unfold loadR
  rw [hg]
  rw [if_pos ⟨rfl, rfl⟩]
  exact sealed_told B hS hl ha
theorem look_seen (B : Nat) {P : PS} {n a : Nat} {T : VS} {h : Hd} {s r : ByteArray} (hF : Fine P n) (hs : Seen P a r) (hS : Sealed T h s r) (hl : T.seals.length ≤ 1000000) (ha : h.v1 = (a : Int)) : lookR (idealK B) T (rawsTo P (P.kept.length / 8)) (masksTo P (P.kept.length / 8)) (a : Int) = ⟨true, h, s⟩ := by
  obtain ⟨h1, h2⟩ := seen_at hF hs (hS.size hl)
  unfold lookR
  rw [h1, h2, if_pos rfl]
  exact sealed_told B hS hl ha
/-- Two superblocks in their slots: the later one is chosen. -/
theorem sin_yes {s : Sp} (he : s.err = 0) (h : Hd) (h2 : h.v2 = 1) {slot : Int} (h3 : s.ep.tmod 2 = slot) : sinB ⟨true, h, s.txt⟩ slot s.lv = true := by
  obtain ⟨b1, b2⟩ := sp_reads he
  unfold sinB
  exact decide_eq_true ⟨rfl, h2, b1, by show (spOf s.txt).ep.tmod 2 = slot; rw [b2]; exact h3, by show (spOf s.txt).lv = s.lv; rw [b2]⟩
theorem cho_two {s t : Sp} (es : s.err = 0) (et : t.err = 0) (hl : s.lv = t.lv) (hs : s.ep.tmod 2 = 0) (ht : t.ep.tmod 2 = 1) : chO [⟨true, s.hd, s.txt⟩, ⟨true, t.hd, t.txt⟩] t.lv = some (if s.ep < t.ep then t else s) := by
  have a1 := sin_yes es s.hd rfl hs
  have a2 := sin_yes et t.hd rfl ht
  rw [hl] at a1
  have c0 : chN [⟨true, s.hd, s.txt⟩, ⟨true, t.hd, t.txt⟩] t.lv 1 = some s := by
    have := chN_yes (l := [⟨true, s.hd, s.txt⟩, ⟨true, t.hd, t.txt⟩]) (live := t.lv) (j := 0) (r := ⟨true, s.hd, s.txt⟩) rfl a1 (.inl rfl)
    rw [this]
    exact congrArg some (sp_reads es).2
  show chN _ _ 2 = _
  by_cases hlt : s.ep < t.ep
  · rw [if_pos hlt]
    have := chN_yes (l := [⟨true, s.hd, s.txt⟩, ⟨true, t.hd, t.txt⟩]) (live := t.lv) (j := 1) (r := ⟨true, t.hd, t.txt⟩) rfl a2 (.inr (by rw [c0]; show s.ep < (spOf t.txt).ep; rw [(sp_reads et).2]; exact hlt))
    rw [this]
    exact congrArg some (sp_reads et).2
  · rw [if_neg hlt]
    have := chN_no (l := [⟨true, s.hd, s.txt⟩, ⟨true, t.hd, t.txt⟩]) (live := t.lv) (j := 1) (r := ⟨true, t.hd, t.txt⟩) rfl (.inr ⟨by rw [c0]; rfl, by rw [c0]; show ¬ s.ep < (spOf t.txt).ep; rw [(sp_reads et).2]; exact hlt⟩)
    rw [this, c0]
end Go.Proofs.YtldkdoddklfdlaaGreatDoor

namespace Go.Proofs.YtldkdoddklfdlaaGreatDoor
set_option maxRecDepth 20000
open Go.ChangeShapes Go.WideShapes Go.RowKit Go.Deep

structure Blk where
  At : Int
  V : Int
  Bad : Bool
instance : Inhabited Blk := ⟨⟨0, 0, false⟩⟩
structure Blk.Ok (x : Blk) : Prop where
  At : (Lit.int .i64 x.At).wf = true
  V : (Lit.int .u8 x.V).wf = true
  Bad : x.Bad = x.Bad
def Blk.cells (x : Blk) : List Value := [.int .i64 x.At, .int .u8 x.V, .bool x.Bad]
structure BlkAt (W : World) (g o : Nat) (x : Blk) : Prop where
  c0 : W.cell? ⟨g, o, none⟩ = some (.int .i64 x.At)
  c1 : W.cell? ⟨g, o + 1, none⟩ = some (.int .u8 x.V)
  c2 : W.cell? ⟨g, o + 2, none⟩ = some (.bool x.Bad)
def Blks (W : World) (v : Value) (l : List Blk) : Prop := (∃ oa cap, v = .slice oa 0 cap ∧ l = []) ∨ ∃ g o cap, v = .slice (some ⟨g, o, none⟩) l.length cap ∧ g < W.heap.size ∧ ∀ i x, l[i]? = some x → BlkAt W g (o + i * 3) x
theorem Blks.form {W : World} {v : Value} {l : List Blk} (h : Blks W v l) : ∃ oa cap, v = .slice oa l.length cap := by
  rcases h with ⟨oa, cap, rfl, rfl⟩ | ⟨g, o, cap, rfl, _⟩
  · exact ⟨oa, cap, rfl⟩
  · exact ⟨_, cap, rfl⟩
theorem Blks.get {W : World} {oa : Option Addr} {cap : Nat} {l : List Blk} (h : Blks W (.slice oa l.length cap) l) {i : Nat} (hi : i < l.length) : ∃ g o, oa = some ⟨g, o, none⟩ ∧ g < W.heap.size ∧ ∀ j x, l[j]? = some x → BlkAt W g (o + j * 3) x := by
  rcases h with ⟨oa', cap', e, rfl⟩ | ⟨g, o, cap', e, hg, hx⟩
  · simp at hi
  · simp only [Value.slice.injEq] at e
    exact ⟨g, o, e.1, hg, hx⟩
theorem BlkAt.keep {W W' : World} {g o : Nat} {x : Blk} (h : BlkAt W g o x) (k : W'.heap[g]? = W.heap[g]?) : BlkAt W' g o x := ⟨(World.cell?_of_block (a := ⟨g, o, none⟩) k).trans h.c0, (World.cell?_of_block (a := ⟨g, o + 1, none⟩) k).trans h.c1, (World.cell?_of_block (a := ⟨g, o + 2, none⟩) k).trans h.c2⟩
section
variable {H : Type} {enc : TypeId × Value → H} {W : World}
theorem blk_add_plain (b o j : Nat) : (⟨b, o, none⟩ : Addr).add j = ⟨b, o + j, none⟩ := by unfold Addr.add; split <;> simp_all
set_option maxRecDepth 100000 in
theorem blk_of_cells {fuel : Nat} {cs : List Value} {x : DataW H × List MemPlace} (h : DataW.trod enc Tryz.prog W 0 (fun _ => true) true fuel 62 cs = some x) : ∃ o : Blk, o.Ok ∧ cs = o.cells := by
  obtain ⟨xs, n, _, rfl, hl, hlen, hf⟩ := DataW.trod_struct Tryz.underlying62 h
  have h6 : Tryz.prog.cellsOf 62 = 3 := by kernel_rfl
  rw [h6] at hl
  match xs, hlen with
  | [y0, y1, y2], _ =>
  match cs, hl with
  | [d0, d1, d2], _ =>
  have g : ∀ (i t o : Nat) (f : Field) (d : Value) (y : DataW H × List MemPlace), (match Tryz.prog.underlying 62 with | some (.struct fs) => fs[i]? | _ => none) = some f → f.type = t → f.offset = o → Tryz.prog.cellsOf t = 1 → (([d0, d1, d2] : List Value).drop o).take 1 = [d] → ([y0, y1, y2] : List (DataW H × List MemPlace))[i]? = some y → DataW.trod enc Tryz.prog W 0 (fun _ => true) true n t [d] = some y := fun i t o f d y h0 h1 h2 h3 h4 h5 => by
    rw [Tryz.underlying62] at h0
    have := hf i f h0
    rw [h1, h2, h3, h4, h5] at this
    exact this
  have f0 := g 0 3 0 _ d0 y0 (by rw [Tryz.underlying62]; rfl) rfl rfl (by kernel_rfl) rfl rfl
  have f1 := g 1 5 1 _ d1 y1 (by rw [Tryz.underlying62]; rfl) rfl rfl (by kernel_rfl) rfl rfl
  have f2 := g 2 4 2 _ d2 y2 (by rw [Tryz.underlying62]; rfl) rfl rfl (by kernel_rfl) rfl rfl
  obtain ⟨a0, h0', _, w0⟩ := DataW.trod_int Tryz.underlying3 f0
  obtain ⟨a1, h1', _, w1⟩ := DataW.trod_int Tryz.underlying5 f1
  obtain ⟨a2, h2', _⟩ := DataW.trod_bool Tryz.underlying4 f2
  simp only [List.cons.injEq, and_true] at h0' h1' h2'
  subst h0' h1' h2' 
  exact ⟨⟨a0, a1, a2⟩, ⟨w0, w1, rfl⟩, rfl⟩
set_option maxRecDepth 100000 in
theorem blks_of_trod {v : Value} {d : DataW H} {p : List MemPlace} {base : Nat} (hok : Value.okWide Tryz.prog W .any base 63 v) (h : DataW.Trod enc Tryz.prog W 0 (fun _ => true) true 63 v d p) : ∃ l, Blks W v l ∧ ∀ x ∈ l, x.Ok := by
  obtain ⟨a0, len, cap, rfl⟩ := okWide_slice Tryz.underlying63 hok
  obtain ⟨fuel, hf⟩ := h
  have hlt := DataW.trod_lt fuel _ _ _ hf
  have h6 : Tryz.prog.cellsOf 62 = 3 := by kernel_rfl
  rcases open_slice Tryz.underlying63 hf with ⟨hcs, hx⟩ | ⟨a, len', cap', m, n, D, Pl, hcs, _, hl, hm, hmm, hx0, hx⟩
  · simp [Value.cells] at hcs
    obtain ⟨rfl, rfl, rfl⟩ := hcs
    exact ⟨[], .inl ⟨none, 0, rfl, rfl⟩, by simp⟩
  · simp [Value.cells] at hcs
    obtain ⟨rfl, rfl, rfl⟩ := hcs
    simp only [if_true] at hmm
    by_cases h0 : len = 0
    · subst h0; exact ⟨[], .inl ⟨_, _, rfl, rfl⟩, by simp⟩
    rw [h6] at hx hx0
    simp only [Prod.mk.injEq] at hx0
    obtain ⟨hd0, hp0⟩ := hx0
    obtain ⟨b, off, spot⟩ := a
    have hsp : spot = none := by
      obtain ⟨cs', h1, h2⟩ := hx 0 (by omega)
      obtain ⟨_, hlen, hc⟩ := World.cells?_some h1
      have := hc 0 (by omega)
      rw [List.getElem?_eq_getElem (by omega)] at this
      simpa [Addr.add] using World.cell?_spot this
    subst hsp
    have hV : ∀ i, i < len → ∃ x : Blk, x.Ok ∧ BlkAt W b (off + i * 3) x := fun i hi => by
      obtain ⟨cs', h1, h2⟩ := hx i (by omega)
      obtain ⟨_, hlen, hc⟩ := World.cells?_some h1
      obtain ⟨x, hox, rfl⟩ := blk_of_cells h2
      have g : ∀ c, c < 3 → W.cell? ⟨b, off + i * 3 + c, none⟩ = x.cells[c]? := fun c hc6 => by
        rw [← hc c hc6, blk_add_plain, blk_add_plain]
      exact ⟨x, hox, g 0 (by omega), g 1 (by omega), g 2 (by omega)⟩
    obtain ⟨f, hf⟩ := choose_lt hV
    have hbW : b < W.heap.size := hlt (.cell b off) (by rw [hp0]; exact List.mem_append_left _ (MemPlace.mem_row.2 ⟨0, by omega, by simp⟩))
    refine ⟨(List.range len).map f, .inr ⟨b, off, cap, by simp, hbW, fun i u hu => ?_⟩, fun x hx => ?_⟩
    · rw [List.getElem?_map] at hu
      have hi : i < len := by
        by_cases hi : i < len
        · exact hi
        · rw [List.getElem?_eq_none (by simp; omega)] at hu; cases hu
      rw [List.getElem?_range hi] at hu
      simp only [Option.map_some, Option.some.injEq] at hu
      rw [← hu]
      exact (hf i hi).2
    · obtain ⟨i, hi, rfl⟩ := List.mem_map.1 hx
      exact (hf i (List.mem_range.1 hi)).1
end
end Go.Proofs.YtldkdoddklfdlaaGreatDoor

namespace Go.Proofs.YtldkdoddklfdlaaGreatDoor
set_option maxRecDepth 20000
open Go.RowKit

theorem rlay_ret (tmps : Array Value) (w w' : World) (y : Int) (cs : Array Value) (h1 : tmps.getD 2 undef = .pointer (some ⟨w.heap.size, 0, none⟩)) (h3 : tmps.getD 3 undef = .int .i64 y) (hg : w'.heap[w.heap.size]? = some (.cells cs 103 (0, 0))) (hs : cs.size = 16) (hb : Below w.heap.size w w') :
    bodyPost Tryz.prog Tryz.f38 (fun e w'' => e = .returned (.tuple #[.agg cs, .int .i64 y]) ∧ Below w.heap.size w w'') .ret { tmps := tmps, defers := [] } w' := by
  have hr := run_loadVar_row (P := Tryz.prog) w' w.heap.size 103 103 cs (0, 0) _ hg Tryz.underlying103 rfl (by rw [hs]; kernel_rfl)
  simp at h1 h3
  exact bodyPost_ret (v := .tuple #[.agg cs, .int .i64 y]) (by simp [results, Tryz.results38, asAddr, hr, h1, h3]) rfl ⟨rfl, hb⟩
theorem rlayout_bad (n : Int) (hn : n < 48 ∨ 1024 < n) (w : World) :
    Calls Tryz.prog 38 #[.int .i64 n] w fun e w' => e = .returned (.tuple #[.agg layZ, .int .i64 1]) ∧ Below w.heap.size w w' := by
  unfold layZ
  rcases hn with h | h
  · go_enter Tryz.func38, Tryz.ntmps38
    go_wp2
    exact rlay_ret _ w _ 1 _ rfl rfl (heap_alloc_new w _) rfl ((Below.refl _ _).alloc (Nat.le_refl _) _)
  · have h0 : ¬ n < 48 := by omega
    go_enter Tryz.func38, Tryz.ntmps38
    go_wp2
    exact rlay_ret _ w _ 1 _ rfl rfl (heap_alloc_new w _) rfl ((Below.refl _ _).alloc (Nat.le_refl _) _)
set_option maxHeartbeats 2000000 in
theorem rlayout_any (n : Nat) (h0 : 48 ≤ n) (h1 : n ≤ 1024) (w : World) :
    Calls Tryz.prog 38 #[.int .i64 (n : Int)] w fun e w' => e = .returned (.tuple #[.agg (layA n (layQ n) (layS n) (layT n)), .int .i64 0]) ∧ Below w.heap.size w w' := by
  have i0 : ¬ (n : Int) < 48 := by omega
  have i1 : ¬ (1024 : Int) < n := by omega
  have r1 := rup_any (n / 8) 16 (by omega) (by decide) (by decide)
  have r2 := rup_any n 64 (by omega) (by decide) (by decide)
  have d1 : (n : Int) / 8 = ((layQ n : Nat) : Int) := rfl
  have b1 : layQ n ≤ 128 := by unfold layQ; omega
  have b2 : layS n ≤ 9 := by unfold layS; omega
  have b3 : layT n ≤ 17 := by unfold layT; omega
  rw [show n / 8 = layQ n from rfl, show (layQ n + 16 - 1) / 16 = layS n from rfl] at r1
  rw [show (n + 64 - 1) / 64 = layT n from rfl] at r2
  generalize layQ n = q at *
  generalize layS n = s at *
  generalize layT n = t at *
  have e1 : (30 : Int) + q + s = 29 + q + s + 1 := by omega
  have e2 : (2 : Int) * n + 1 + t = n + 1 + t + n := by omega
  have HE : Hid ((30 : Int) + q + s = 29 + q + s + 1 ∧ (2 : Int) * n + 1 + t = n + 1 + t + n) := ⟨e1, e2⟩
  clear e1 e2
  go_enter Tryz.func38, Tryz.ntmps38
  go_wp2_with fail
  refine (r1 _).mono ?_
  rintro e w1 ⟨rfl, rfl⟩
  go_wp2_with fail
  refine (r2 _).mono ?_
  rintro e w1 ⟨rfl, rfl⟩
  go_wp2_with fail
  rw [HE.out.1, HE.out.2]
  exact rlay_ret _ w _ 0 (layA n q s t) rfl rfl (heap_alloc_new w _) rfl ((Below.refl _ _).alloc (Nat.le_refl _) _)
theorem rlayout_all (n : Int) (w : World) : Calls Tryz.prog 38 #[.int .i64 n] w fun e w' => e = .returned (.tuple #[.agg (layV n), .int .i64 (clayE n)]) ∧ Below w.heap.size w w' := by
  unfold layV clayE
  by_cases h : 48 ≤ n ∧ n ≤ 1024
  · rw [if_pos h, if_pos h]
    obtain ⟨m, rfl⟩ : ∃ m : Nat, n = m := ⟨n.toNat, by omega⟩
    exact rlayout_any m (by omega) (by omega) w
  · rw [if_neg h, if_neg h]
    exact rlayout_bad n (by omega) w
end Go.Proofs.YtldkdoddklfdlaaGreatDoor

namespace Go.Proofs.YtldkdoddklfdlaaGreatDoor
set_option maxRecDepth 20000
open Go.RowKit

theorem jfillS_num (v n : Nat) : fillS v n = strOfNums ((List.replicate n v).map fun (x : Nat) => (x : Int)) := rfl
set_option maxHeartbeats 1000000 in
theorem jtext_any (v n : Nat) (hn : n ≤ 600) (w : World) :
    Calls Tryz.prog 46 #[.int .u8 (v : Nat), .int .i64 (n : Nat)] w fun e w' => e = .returned (.string (fillS v n)) ∧ Below w.heap.size w w' := by
  have hm := run_make_row' (P := Tryz.prog) 90 5 (.int .u8 0) 1 Tryz.underlying90 info_u8 rfl .i64 .i64 n (by omega) (by omega)
  have hr0 : Row (w.alloc (.cells (madeCells #[.int .u8 0] n) 5)) w.heap.size 5 (rowF n fun k => .int .u8 ((if k < 0 then v else 0 : Nat) : Int)) := by
    have h1 : Row (w.alloc (.cells (madeCells #[.int .u8 0] n) 5)) w.heap.size 5 (List.replicate n (.int .u8 0)) := made_row (heap_alloc_new w _)
    refine h1.congr ?_
    rw [rowF]
    simp only [Nat.not_lt_zero, if_false]
    rw [List.map_const', List.length_range]
    rfl
  have hb0 := (Below.refl w.heap.size w).alloc (Nat.le_refl _) (.cells (madeCells #[.int .u8 0] n) 5)
  obtain ⟨w0, hw0⟩ : ∃ w0, w.alloc (.cells (madeCells #[.int .u8 0] n) 5) = w0 := ⟨_, rfl⟩
  rw [hw0] at hr0 hb0
  go_enter Tryz.func46, Tryz.ntmps46
  go_wp2_with fail
  go_loopw [6] (fun i wr => ∃ j : Nat, j ≤ n ∧ i = .int .i64 j ∧ Row wr w.heap.size 5 (rowF n fun k => .int .u8 ((if k < j then v else 0 : Nat) : Int)) ∧ Below w.heap.size w wr) (fun i _ => n - (intOf i).toNat)
  case atStart => exact ⟨0, Nat.zero_le _, rfl, hr0, hb0⟩
  case round =>
    clear hr0 hb0 hm hw0
    obtain ⟨j, hj, rfl, hr, hb⟩ := hrel
    by_cases hlt : j < n
    · have j1 : (j : Int) < n := by omega
      have c := hr.cellF j hlt
      have fz : wr.frozen? ⟨w.heap.size, j, none⟩ = false := hr.frozen j
      have hr2 : Row (wr.setCell ⟨w.heap.size, j, none⟩ (.int .u8 (v : Nat))) w.heap.size 5 (rowF n fun k => .int .u8 ((if k < j + 1 then v else 0 : Nat) : Int)) := (hr.setF j (.int .u8 (v : Nat))).congr (rowF_congr fun k _ => by
        by_cases e : k = j
        · subst e; simp
        · by_cases e2 : k < j
          · rw [if_neg e, if_pos e2, if_pos (by omega)]
          · rw [if_neg e, if_neg e2, if_neg (by omega)])
      have hb2 : Below w.heap.size w (wr.setCell ⟨w.heap.size, j, none⟩ (.int .u8 (v : Nat))) := hb.setCell (p := ⟨w.heap.size, j, none⟩) (Nat.le_refl _) _
      have HF : Hid (_ ∧ _) := ⟨hr2, hb2⟩
      clear hr hb hr2 hb2
      go_wp2
      go_roundw
      case rel => exact ⟨j + 1, by omega, by go_num, HF.out.1, HF.out.2⟩
      case measure => simp [intOf]; omega
    · obtain rfl : j = n := by omega
      have hcv := run_convert_bytes_arg (P := Tryz.prog) wr 90 5 Tryz.underlying90 Tryz.underlying5 w.heap.size 0 j j ((List.replicate j v).map fun (x : Nat) => (x : Int)) (by simp) (fun i hi => by
        rw [Nat.zero_add, hr.cellF i hi, if_pos hi, List.getD_eq_getElem?_getD, List.getElem?_map, List.getElem?_eq_getElem (by simpa using hi)]
        simp) 9 Tryz.underlying9
      rw [← jfillS_num] at hcv
      have HF : Hid (Below w.heap.size w wr) := hb
      clear hr hb
      obtain ⟨X, hX⟩ : ∃ X, X = fillS v j := ⟨_, rfl⟩
      rw [← hX] at hcv
      have HX : Hid (X = fillS v j) := hX
      clear hX
      go_wp2
      first
        | (rw [hcv]; go_wp2)
        | skip
      go_ret
      exact ⟨by rw [← HX.out]; rfl, HF.out⟩

theorem jlsup_ret (tmps : Array Value) (g : Nat) (w' : World) (cs : Array Value) (R : Ending → World → Prop) (h1 : tmps.getD 4 undef = .pointer (some ⟨g, 0, none⟩)) (hg : w'.heap[g]? = some (.cells cs 23 (0, 0))) (hs : cs.size = 5) (hR : R (.returned (.agg cs)) w') :
    bodyPost Tryz.prog Tryz.f19 R .ret { tmps := tmps, defers := [] } w' :=
  bodyPost_ret (v := .agg cs) (results_cell_row Tryz.results19 tmps w' g 23 cs (0, 0) _ h1 hg Tryz.underlying23 rfl (by rw [hs]; kernel_rfl)) rfl hR
/-- The law's superblock. -/
def lawSp (live ep : Int) : Sp := ⟨7, ep, 5, live, fillS 3 32⟩
set_option maxHeartbeats 2000000 in
theorem jlsup_any (live ep : Int) (w : World) : Calls Tryz.prog 19 #[.int .i64 live, .int .i64 ep] w fun e w' => e = .returned (.agg (lawSp live ep).arr) ∧ Below w.heap.size w w' := by
  have ht := fun w => jtext_any 3 32 (by decide) w
  unfold lawSp Sp.arr
  simp only
  generalize fillS 3 32 = z at *
  go_enter Tryz.func19, Tryz.ntmps19
  go_wp2_with fail
  refine (ht _).mono ?_
  rintro e w1 ⟨rfl, hb1⟩
  have g0 := (hb1.block w.heap.size (by simp)).trans (heap_alloc_new w _)
  have hbw : Below w.heap.size w w1 := (below_new w _).trans (hb1.mono (by simp))
  clear hb1 ht
  go_wp2_with (refine wpList_store_row rfl 23 _ _ rfl w.heap.size #[.int .i64 7, .int .i64 ep, .int .i64 5, .int .i64 live, .string z] rfl rfl 23 _ g0 (by kernel_rfl) rfl (by simp [Value.oneCell']) ?_)
  exact jlsup_ret _ w.heap.size _ #[.int .i64 7, .int .i64 ep, .int .i64 5, .int .i64 live, .string z] _ rfl (setRow_heap _ _ _ _ _ _ g0) rfl ⟨rfl, below_setRow hbw (Nat.le_refl _) _⟩
set_option maxHeartbeats 4000000 in
theorem jsectors_any (w : World) : Calls Tryz.prog 16 #[.int .i64 48] w fun e w' => e = .returned (.int .i64 784) ∧ Below w.heap.size w w' := by
  have hl := fun w => rlayout_any 48 (by decide) (by decide) w
  have hA : layA 48 (layQ 48) (layS 48) (layT 48) = #[.int .i64 48, .int .i64 2, .int .i64 3, .int .i64 27, .int .i64 28, .int .i64 29, .int .i64 (layQ 48 : Nat), .int .i64 (29 + (layQ 48 : Nat)), .int .i64 (layS 48 : Nat), .int .i64 (29 + (layQ 48 : Nat) + (layS 48 : Nat)), .int .i64 (29 + (layQ 48 : Nat) + (layS 48 : Nat) + 1), .int .i64 48, .int .i64 49, .int .i64 1, .int .i64 50, .int .i64 98] := rfl
  rw [hA] at hl
  generalize ((layQ 48 : Nat) : Int) = q at *
  generalize ((layS 48 : Nat) : Int) = s at *
  clear hA
  go_enter Tryz.func16, Tryz.ntmps16
  go_wp2_with fail
  refine (hl _).mono ?_
  rintro e w1 ⟨rfl, hb1⟩
  have HB : Hid (Below w.heap.size w w1) := hb1
  clear hb1 hl
  go_wp2
  go_ret
  exact ⟨rfl, HB.out.alloc HB.out.size _⟩
end Go.Proofs.YtldkdoddklfdlaaGreatDoor
