/- Blocks in plain words: heads, nonces, what is sealed under the ideal vault and what opens; nothing of the program's calls. -/
import Derived.Test.YtdngoicpcocnnaaGreatDoorMg06
import Derived.Test.YtdngoicpcocnnaaGreatDoorMg09
namespace Go.Proofs.YtdngoicpcocnnaaGreatDoor
set_option maxRecDepth 20000
open Go.RowKit Go.Lib

structure Hd where
  v0 : Int
  v1 : Int
  v2 : Int
  v3 : Int
  v4 : Int
  v5 : Int
  v6 : Int
  v7 : Int
deriving DecidableEq
def Hd.arr (h : Hd) : Array Value := #[.int .i64 h.v0, .int .i64 h.v1, .int .i64 h.v2, .int .i64 h.v3, .int .i64 h.v4, .int .i64 h.v5, .int .i64 h.v6, .int .i64 h.v7]
def Hd.zero : Hd := ⟨0, 0, 0, 0, 0, 0, 0, 0⟩
def Hd.ps (h : Hd) : List (Int × Int) := headPs h.v0 h.v1 h.v2 h.v3 h.v4 h.v5 h.v6 h.v7
/-- A head's bytes, and its error. -/
def Hd.txt (h : Hd) : ByteArray := recS [71, 82, 80, 78] h.ps 8
def Hd.err (h : Hd) : Int := recE h.ps
/-- The head that a text is. -/
def hdOf (s : ByteArray) : Hd := ⟨headN s 4 6, headN s 10 4, headN s 14 2, headN s 16 4, headN s 20 4, headN s 24 4, headN s 28 6, headN s 34 6⟩
theorem headC_arr (s : ByteArray) : headC s = (hdOf s).arr := rfl
theorem Hd.arr_inj {g h : Hd} (e : g.arr = h.arr) : g = h := by
  obtain ⟨a0, a1, a2, a3, a4, a5, a6, a7⟩ := g
  obtain ⟨b0, b1, b2, b3, b4, b5, b6, b7⟩ := h
  simp [Hd.arr] at e
  obtain ⟨rfl, rfl, rfl, rfl, rfl, rfl, rfl, rfl⟩ := e
  rfl
theorem hd_back {s : ByteArray} (h : headE s = 0) : (hdOf s).err = 0 ∧ (hdOf s).txt = s := head_back h
theorem hd_err (h : Hd) : h.err = 0 ∨ h.err = 2 := by
  unfold Hd.err recE
  split
  · exact .inl rfl
  · exact .inr rfl
theorem hd_laid {h : Hd} (e : h.err = 0) : laidOk h.ps = true := recE_zero e
theorem hd_list {h : Hd} (e : h.err = 0) : h.txt.data.toList = [71, 82, 80, 78] ++ laidL h.ps ++ List.replicate 8 0 ∧ (laidL h.ps).length = 36 := by
  have hl := laidL_length h.ps (hd_laid e)
  refine ⟨?_, hl⟩
  unfold Hd.txt
  rw [recS_ok (hd_laid e)]
theorem hd_size {h : Hd} (e : h.err = 0) : h.txt.size = 48 := by
  obtain ⟨h1, h2⟩ := hd_list e
  rw [← size_of_list, h1]
  simp [h2]
theorem hd_headE {h : Hd} (e : h.err = 0) : headE h.txt = 0 := by
  obtain ⟨h1, h2⟩ := hd_list e
  have hs := hd_size e
  have c1 := text_cut h.txt 0 4
  have c2 := text_cut h.txt 40 48
  rw [h1] at c1 c2
  have d1 : (h.txt.extract 0 4).toList = [71, 82, 80, 78] := by
    rw [ByteArray.toList_eq, ← c1]
    simp
  have d2 : allZ (h.txt.extract 40 48) = true := by
    unfold allZ
    have e2 : List.take (48 - 40) (List.drop 40 ([71, 82, 80, 78] ++ laidL h.ps ++ List.replicate 8 0)) = List.replicate 8 0 := by
      rw [List.drop_append_of_le_length (by simp [h2]), List.drop_of_length_le (by simp [h2])]
      rfl
    rw [← c2, e2]
    rfl
  unfold headE
  rw [if_neg (by omega), if_neg (by omega), if_pos (by rw [d1]; rfl), if_pos d2]
theorem hd_inj {g h : Hd} (eg : g.err = 0) (eh : h.err = 0) (e : g.txt = h.txt) : g = h := by
  have := (recS_inj (pre := [71, 82, 80, 78]) (pre' := [71, 82, 80, 78]) (ps := g.ps) (qs := h.ps) (z := 8) rfl rfl (hd_laid eg) (hd_laid eh) e).2
  obtain ⟨a0, a1, a2, a3, a4, a5, a6, a7⟩ := g
  obtain ⟨b0, b1, b2, b3, b4, b5, b6, b7⟩ := h
  simp [Hd.ps, headPs] at this
  obtain ⟨rfl, rfl, rfl, rfl, rfl, rfl, rfl, rfl⟩ := this
  rfl
theorem hd_reads {h : Hd} (e : h.err = 0) : hdOf h.txt = h := by
  obtain ⟨h1, h2⟩ := hd_back (hd_headE e)
  exact hd_inj h1 e h2

/-- A head's nonce. -/
def nonceS (a v : Int) : ByteArray := padS (putS a 4 ++ putS v 6) 12
def Hd.nonce (h : Hd) : ByteArray := nonceS h.v1 h.v6
theorem hd_puts {h : Hd} (e : h.err = 0) : putE h.v1 4 = 0 ∧ putE h.v6 6 = 0 ∧ putE h.v7 6 = 0 := by
  have := hd_laid e
  simp only [Hd.ps, headPs, laidOk, Bool.and_eq_true, beq_iff_eq] at this
  exact ⟨this.2.1, this.2.2.2.2.2.2.1, this.2.2.2.2.2.2.2.1⟩
theorem putS_len {n k : Int} (h : putE n k = 0) : (putS n k).size = k.toNat := by
  have := putS_size h
  rw [size_of_list] at this
  exact this
theorem nonce_eq {h : Hd} (e : h.err = 0) : h.nonce = putS h.v1 4 ++ putS h.v6 6 ++ noughtsS 2 ∧ h.nonce.size = 12 := by
  obtain ⟨h1, h2, _⟩ := hd_puts e
  have s1 := putS_len h1
  have s2 := putS_len h2
  have hs : (putS h.v1 4 ++ putS h.v6 6).size = 10 := by rw [ByteArray.size_append, s1, s2]; rfl
  have e1 : h.nonce = putS h.v1 4 ++ putS h.v6 6 ++ noughtsS 2 := by
    unfold Hd.nonce nonceS
    have := padS_ok (s := putS h.v1 4 ++ putS h.v6 6) (n := 12) (by decide) (by omega)
    rw [pad_append, show (12 : Int) = ((12 : Nat) : Int) from rfl, this, hs]
  refine ⟨e1, ?_⟩
  rw [e1, ByteArray.size_append, hs, noughtsS_size]
theorem salt_fits {h : Hd} (e : h.err = 0) : 0 ≤ h.v7 ∧ h.v7 ≤ 281474976710655 := by
  obtain ⟨_, _, h3⟩ := hd_puts e
  unfold putE at h3
  split at h3
  · omega
  split at h3
  · omega
  · rename_i h4
    rw [show (256 : Int) ^ (6 : Int).toNat = 281474976710656 by decide] at h4
    omega
theorem fit_hd {h : Hd} (e : h.err = 0) : fitB h.v7 h.nonce = true := by
  have := salt_fits e
  have := (nonce_eq e).2
  simp [fitB]
  omega
/-- What is sealed. -/
def Hd.four (h : Hd) (s : ByteArray) : Four := ⟨h.v7, h.nonce, h.txt, s⟩
theorem four_inj {g h : Hd} {s t : ByteArray} (eg : g.err = 0) (eh : h.err = 0) (e : g.four s = h.four t) : g = h ∧ s = t := by
  simp only [Hd.four, Four.mk.injEq] at e
  exact ⟨hd_inj eg eh e.2.2.1, e.2.2.2⟩
theorem four_fit {h : Hd} {s : ByteArray} (e : h.err = 0) (hs : s.size ≤ 140737488355328) : fitF (h.four s) := by
  have h1 := salt_fits e
  have h2 := (nonce_eq e).2
  have h3 := hd_size e
  refine ⟨?_, by show h.nonce.size ≤ _; omega, by show h.txt.size ≤ _; omega, hs⟩
  show (decide (IntKind.i64.min ≤ h.v7) && decide (h.v7 ≤ IntKind.i64.max)) = true
  rw [show IntKind.i64.min = -9223372036854775808 from rfl, show IntKind.i64.max = 9223372036854775807 from rfl]
  simp
  omega

/-- The block of a head, a body and a number. -/
def blkS (h : Hd) (s : ByteArray) (n : Nat) : ByteArray := h.txt ++ (s ++ wideS n 16)
theorem ba_cut {a b : ByteArray} {n : Nat} (ha : a.size = n) : (a ++ b).extract 0 n = a ∧ (a ++ b).extract n (n + b.size) = b := by
  subst ha
  constructor
  · exact ByteArray.extract_append_eq_left rfl
  · exact ByteArray.extract_append_eq_right rfl rfl
theorem blk_size {h : Hd} {s : ByteArray} {n : Nat} (e : h.err = 0) (hs : s.size = 448) (hn : n < 281474976710656) : (blkS h s n).size = 512 := by
  unfold blkS
  rw [ByteArray.size_append, ByteArray.size_append, hd_size e, hs, wideS_size hn (by decide)]
theorem blk_parts {h : Hd} {s : ByteArray} {n : Nat} (e : h.err = 0) (hs : s.size = 448) (hn : n < 281474976710656) : (blkS h s n).extract 0 48 = h.txt ∧ (blkS h s n).extract 48 512 = s ++ wideS n 16 ∧ headS (s ++ wideS n 16) = s ∧ tagS16 (s ++ wideS n 16) = wideS n 16 := by
  have hw := wideS_size (k := 16) hn (by decide)
  have h1 := ba_cut (a := h.txt) (b := s ++ wideS n 16) (hd_size e)
  have h2 := ba_cut (a := s) (b := wideS n 16) hs
  have hz : (s ++ wideS n 16).size = 464 := by rw [ByteArray.size_append, hs, hw]
  rw [hz] at h1
  rw [hw] at h2
  refine ⟨h1.1, h1.2, ?_, ?_⟩
  · unfold headS; rw [hz]; exact h2.1
  · unfold tagS16; rw [hz]; exact h2.2
theorem ba_two (r : ByteArray) {n : Nat} (h : n ≤ r.size) : r.extract 0 n ++ r.extract n r.size = r := by
  rw [ByteArray.extract_append_extract]
  simp [Nat.max_eq_right h]

/-- What Seal tells, and what the vault has numbered then. -/
def bsealB (h : Hd) (s : ByteArray) : Bool := decide (s.size = 448 ∧ h.err = 0)
def bsealS (S : VS) (h : Hd) (s : ByteArray) : ByteArray := if bsealB h s then blkS h s (numOf (addN S.seals (h.four s)) (h.four s)) else ⟨#[]⟩
def bsealE (h : Hd) (s : ByteArray) : Int := if s.size = 448 then h.err else 1
def bsealP (S : VS) (h : Hd) (s : ByteArray) : VS := if bsealB h s then { S with seals := addN S.seals (h.four s) } else S
/-- What Open tells. -/
def opensB (S : VS) (r : ByteArray) : Bool := openB S (hdOf (r.extract 0 48)).v7 (hdOf (r.extract 0 48)).nonce (r.extract 0 48) (r.extract 48 512)
def bopenE (S : VS) (r : ByteArray) : Int := if r.size = 512 then (if headE (r.extract 0 48) = 0 then (if opensB S r then 0 else 10) else headE (r.extract 0 48)) else 1
def bopenH (S : VS) (r : ByteArray) : Hd := if bopenE S r = 0 then hdOf (r.extract 0 48) else Hd.zero
def bopenS (S : VS) (r : ByteArray) : ByteArray := if bopenE S r = 0 then headS (r.extract 48 512) else ⟨#[]⟩

theorem bopen_iff (S : VS) (r : ByteArray) (hl : S.seals.length ≤ 1000000) : bopenE S r = 0 ↔ ∃ h s, h.err = 0 ∧ s.size = 448 ∧ numOf S.seals (h.four s) ≠ 0 ∧ r = blkS h s (numOf S.seals (h.four s)) := by
  constructor
  · intro hz
    unfold bopenE at hz
    by_cases h1 : r.size = 512
    case neg => rw [if_neg h1] at hz; omega
    rw [if_pos h1] at hz
    by_cases h2 : headE (r.extract 0 48) = 0
    case neg => rw [if_neg h2] at hz; omega
    rw [if_pos h2] at hz
    by_cases h3 : opensB S r = true
    case neg => rw [if_neg h3] at hz; omega
    obtain ⟨k1, k2⟩ := hd_back h2
    have h4 : numOf S.seals ((hdOf (r.extract 0 48)).four (headS (r.extract 48 512))) ≠ 0 ∧ tagS16 (r.extract 48 512) = wideS (numOf S.seals ((hdOf (r.extract 0 48)).four (headS (r.extract 48 512)))) 16 := by
      simp only [Hd.four, k2]
      simpa [opensB, openB] using h3
    have z1 : (r.extract 48 512).size = 464 := by simp [h1]
    refine ⟨hdOf (r.extract 0 48), headS (r.extract 48 512), k1, ?_, h4.1, ?_⟩
    · simp [headS, z1]
    · unfold blkS
      rw [k2, ← h4.2]
      have e1 : headS (r.extract 48 512) ++ tagS16 (r.extract 48 512) = r.extract 48 512 := by
        unfold headS tagS16
        exact ba_two _ (by omega)
      rw [e1, ← h1]
      exact (ba_two r (by omega)).symm
  · rintro ⟨h, s, e, hs, hn, rfl⟩
    have hlt : numOf S.seals (h.four s) < 281474976710656 := by have := numOf_le (h.four s) S.seals; omega
    obtain ⟨p1, p2, p3, p4⟩ := blk_parts e hs hlt
    unfold bopenE
    rw [if_pos (blk_size e hs hlt), p1, if_pos (hd_headE e), if_pos]
    unfold opensB
    rw [p1, p2, hd_reads e]
    unfold openB
    rw [p3, p4]
    exact decide_eq_true ⟨hn, rfl⟩
theorem bopen_blk (S : VS) (h : Hd) (s : ByteArray) (hl : S.seals.length ≤ 1000000) (e : h.err = 0) (hs : s.size = 448) (hn : numOf S.seals (h.four s) ≠ 0) : bopenE S (blkS h s (numOf S.seals (h.four s))) = 0 ∧ bopenH S (blkS h s (numOf S.seals (h.four s))) = h ∧ bopenS S (blkS h s (numOf S.seals (h.four s))) = s := by
  have hlt : numOf S.seals (h.four s) < 281474976710656 := by have := numOf_le (h.four s) S.seals; omega
  obtain ⟨p1, p2, p3, p4⟩ := blk_parts e hs hlt
  have h0 := (bopen_iff S _ hl).2 ⟨h, s, e, hs, hn, rfl⟩
  refine ⟨h0, ?_, ?_⟩
  · unfold bopenH; rw [if_pos h0, p1, hd_reads e]
  · unfold bopenS; rw [if_pos h0, p2, p3]
theorem blk_inj {g h : Hd} {s t : ByteArray} {m n : Nat} (eg : g.err = 0) (eh : h.err = 0) (hs : s.size = 448) (ht : t.size = 448) (hm : m < 281474976710656) (hn : n < 281474976710656) (e : blkS g s m = blkS h t n) : g = h ∧ s = t ∧ m = n := by
  obtain ⟨p1, p2, p3, p4⟩ := blk_parts eg hs hm
  obtain ⟨q1, q2, q3, q4⟩ := blk_parts eh ht hn
  rw [e] at p1 p2
  have e1 := p1.symm.trans q1
  have e2 := p2.symm.trans q2
  exact ⟨hd_inj eg eh e1, by rw [← p3, ← q3, e2], wideS_inj hm hn (by rw [← p4, ← q4, e2])⟩
end Go.Proofs.YtdngoicpcocnnaaGreatDoor
