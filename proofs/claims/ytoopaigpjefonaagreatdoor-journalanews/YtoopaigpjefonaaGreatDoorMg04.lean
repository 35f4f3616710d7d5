/- Blocks in plain words: heads, nonces, what is sealed under the ideal vault and what opens; nothing of the program's calls. · The writer of package pack: bytes lays a text behind what it has, number lays a number's bytes and keeps the error of one without room, record tells the error or the text filled up; each of whatever state the writer is in, up to 2^40 bytes. · pack.Head, called with any head, tells the bytes and the error of the document's numbers in their widths, and changes nothing that was there. · A cell that is read as an int is a number of type int; one that is read as a string is a text. · A value of type api.Head that is read as data is eight numbers of type int. · block's nonce, whole and Seal: of any vault whose Seal is told. · A head that is loaded whole, and stored number by number. · block's Open: of any vault whose Open is told. · A new ideal vault has numbered nothing; and chapter 5's example. -/
import Derived.Test.YtoopaigpjefonaaGreatDoorMg02
import Derived.Test.YtoopaigpjefonaaGreatDoorMg03
import Derived.Test.YtoopaigpjefonaaGreatDoorMg00
import Derived.Test.YtoopaigpjefonaaGreatDoorRows
import Derived.ProofKit
import Derived.OpenShut
namespace Go.Proofs.YtoopaigpjefonaaGreatDoor
set_option maxRecDepth 20000
open Go.RowKit Go.Lib

structure Hd where
  v0 : Int
  v1 : Int
  v2 : Int
  v3 : Int
  v4 : Int
  v5 : Int
  v6 : Int
  v7 : Int
deriving DecidableEq
def Hd.arr (h : Hd) : Array Value := #[.int .i64 h.v0, .int .i64 h.v1, .int .i64 h.v2, .int .i64 h.v3, .int .i64 h.v4, .int .i64 h.v5, .int .i64 h.v6, .int .i64 h.v7]
def Hd.zero : Hd := ⟨0, 0, 0, 0, 0, 0, 0, 0⟩
def Hd.ps (h : Hd) : List (Int × Int) := headPs h.v0 h.v1 h.v2 h.v3 h.v4 h.v5 h.v6 h.v7
/-- A head's bytes, and its error. -/
def Hd.txt (h : Hd) : ByteArray := recS [71, 82, 80, 78] h.ps 8
def Hd.err (h : Hd) : Int := recE h.ps
/-- The head that a text is. -/
def hdOf (s : ByteArray) : Hd := ⟨headN s 4 6, headN s 10 4, headN s 14 2, headN s 16 4, headN s 20 4, headN s 24 4, headN s 28 6, headN s 34 6⟩
theorem headC_arr (s : ByteArray) : headC s = (hdOf s).arr := rfl
theorem Hd.arr_inj {g h : Hd} (e : g.arr = h.arr) : g = h := by
  obtain ⟨a0, a1, a2, a3, a4, a5, a6, a7⟩ := g
  obtain ⟨b0, b1, b2, b3, b4, b5, b6, b7⟩ := h
  simp [Hd.arr] at e
  obtain ⟨rfl, rfl, rfl, rfl, rfl, rfl, rfl, rfl⟩ := e
  rfl
theorem hd_back {s : ByteArray} (h : headE s = 0) : (hdOf s).err = 0 ∧ (hdOf s).txt = s := head_back h
theorem hd_err (h : Hd) : h.err = 0 ∨ h.err = 2 := by
  unfold Hd.err recE
  split
  · exact .inl rfl
  · exact .inr rfl
theorem hd_laid {h : Hd} (e : h.err = 0) : laidOk h.ps = true := recE_zero e
theorem hd_list {h : Hd} (e : h.err = 0) : h.txt.data.toList = [71, 82, 80, 78] ++ laidL h.ps ++ List.replicate 8 0 ∧ (laidL h.ps).length = 36 := by
  have hl := laidL_length h.ps (hd_laid e)
  refine ⟨?_, hl⟩
  unfold Hd.txt
  rw [recS_ok (hd_laid e)]
theorem hd_size {h : Hd} (e : h.err = 0) : h.txt.size = 48 := by
  obtain ⟨h1, h2⟩ := hd_list e
  rw [← size_of_list, h1]
  simp [h2]
theorem hd_headE {h : Hd} (e : h.err = 0) : headE h.txt = 0 := by
  obtain ⟨h1, h2⟩ := hd_list e
  have hs := hd_size e
  have c1 := text_cut h.txt 0 4
  have c2 := text_cut h.txt 40 48
  rw [h1] at c1 c2
  have d1 : (h.txt.extract 0 4).toList = [71, 82, 80, 78] := by
    rw [ByteArray.toList_eq, ← c1]
    simp
  have d2 : allZ (h.txt.extract 40 48) = true := by
    unfold allZ
    have e2 : List.take (48 - 40) (List.drop 40 ([71, 82, 80, 78] ++ laidL h.ps ++ List.replicate 8 0)) = List.replicate 8 0 := by
      rw [List.drop_append_of_le_length (by simp [h2]), List.drop_of_length_le (by simp [h2])]
      rfl
    rw [← c2, e2]
    rfl
  unfold headE
  rw [if_neg (by omega), if_neg (by omega), if_pos (by rw [d1]; rfl), if_pos d2]
theorem hd_inj {g h : Hd} (eg : g.err = 0) (eh : h.err = 0) (e : g.txt = h.txt) : g = h := by
  have := (recS_inj (pre := [71, 82, 80, 78]) (pre' := [71, 82, 80, 78]) (ps := g.ps) (qs := h.ps) (z := 8) rfl rfl (hd_laid eg) (hd_laid eh) e).2
  obtain ⟨a0, a1, a2, a3, a4, a5, a6, a7⟩ := g
  obtain ⟨b0, b1, b2, b3, b4, b5, b6, b7⟩ := h
  simp [Hd.ps, headPs] at this
  obtain ⟨rfl, rfl, rfl, rfl, rfl, rfl, rfl, rfl⟩ := this
  rfl
theorem hd_reads {h : Hd} (e : h.err = 0) : hdOf h.txt = h := by
  obtain ⟨h1, h2⟩ := hd_back (hd_headE e)
  exact hd_inj h1 e h2

/-- A head's nonce. -/
def nonceS (a v : Int) : ByteArray := padS (putS a 4 ++ putS v 6) 12
def Hd.nonce (h : Hd) : ByteArray := nonceS h.v1 h.v6
theorem hd_puts {h : Hd} (e : h.err = 0) : putE h.v1 4 = 0 ∧ putE h.v6 6 = 0 ∧ putE h.v7 6 = 0 := by
  have := hd_laid e
  simp only [Hd.ps, headPs, laidOk, Bool.and_eq_true, beq_iff_eq] at this
  exact ⟨this.2.1, this.2.2.2.2.2.2.1, this.2.2.2.2.2.2.2.1⟩
theorem putS_len {n k : Int} (h : putE n k = 0) : (putS n k).size = k.toNat := by
  have := putS_size h
  rw [size_of_list] at this
  exact this
theorem nonce_eq {h : Hd} (e : h.err = 0) : h.nonce = putS h.v1 4 ++ putS h.v6 6 ++ noughtsS 2 ∧ h.nonce.size = 12 := by
  obtain ⟨h1, h2, _⟩ := hd_puts e
  have s1 := putS_len h1
  have s2 := putS_len h2
  have hs : (putS h.v1 4 ++ putS h.v6 6).size = 10 := by rw [ByteArray.size_append, s1, s2]; rfl
  have e1 : h.nonce = putS h.v1 4 ++ putS h.v6 6 ++ noughtsS 2 := by
    unfold Hd.nonce nonceS
    have := padS_ok (s := putS h.v1 4 ++ putS h.v6 6) (n := 12) (by decide) (by omega)
    rw [pad_append, show (12 : Int) = ((12 : Nat) : Int) from rfl, this, hs]
  refine ⟨e1, ?_⟩
  rw [e1, ByteArray.size_append, hs, noughtsS_size]
theorem salt_fits {h : Hd} (e : h.err = 0) : 0 ≤ h.v7 ∧ h.v7 ≤ 281474976710655 := by
  obtain ⟨_, _, h3⟩ := hd_puts e
  unfold putE at h3
  split at h3
  · omega
  split at h3
  · omega
  · rename_i h4
    rw [show (256 : Int) ^ (6 : Int).toNat = 281474976710656 by decide] at h4
    omega
theorem fit_hd {h : Hd} (e : h.err = 0) : fitB h.v7 h.nonce = true := by
  have := salt_fits e
  have := (nonce_eq e).2
  simp [fitB]
  omega
/-- What is sealed. -/
def Hd.four (h : Hd) (s : ByteArray) : Four := ⟨h.v7, h.nonce, h.txt, s⟩
theorem four_inj {g h : Hd} {s t : ByteArray} (eg : g.err = 0) (eh : h.err = 0) (e : g.four s = h.four t) : g = h ∧ s = t := by
  simp only [Hd.four, Four.mk.injEq] at e
  exact ⟨hd_inj eg eh e.2.2.1, e.2.2.2⟩
theorem four_fit {h : Hd} {s : ByteArray} (e : h.err = 0) (hs : s.size ≤ 140737488355328) : fitF (h.four s) := by
  have h1 := salt_fits e
  have h2 := (nonce_eq e).2
  have h3 := hd_size e
  refine ⟨?_, by show h.nonce.size ≤ _; omega, by show h.txt.size ≤ _; omega, hs⟩
  show (decide (IntKind.i64.min ≤ h.v7) && decide (h.v7 ≤ IntKind.i64.max)) = true
  rw [show IntKind.i64.min = -9223372036854775808 from rfl, show IntKind.i64.max = 9223372036854775807 from rfl]
  simp
  omega

/-- The block of a head, a body and a number. -/
def blkS (h : Hd) (s : ByteArray) (n : Nat) : ByteArray := h.txt ++ (s ++ wideS n 16)
theorem ba_cut {a b : ByteArray} {n : Nat} (ha : a.size = n) : (a ++ b).extract 0 n = a ∧ (a ++ b).extract n (n + b.size) = b := by
  subst ha
  constructor
  · exact ByteArray.extract_append_eq_left rfl
  · exact ByteArray.extract_append_eq_right rfl rfl
theorem blk_size {h : Hd} {s : ByteArray} {n : Nat} (e : h.err = 0) (hs : s.size = 448) (hn : n < 281474976710656) : (blkS h s n).size = 512 := by
  unfold blkS
  rw [ByteArray.size_append, ByteArray.size_append, hd_size e, hs, wideS_size hn (by decide)]
theorem blk_parts {h : Hd} {s : ByteArray} {n : Nat} (e : h.err = 0) (hs : s.size = 448) (hn : n < 281474976710656) : (blkS h s n).extract 0 48 = h.txt ∧ (blkS h s n).extract 48 512 = s ++ wideS n 16 ∧ headS (s ++ wideS n 16) = s ∧ tagS16 (s ++ wideS n 16) = wideS n 16 := by
  have hw := wideS_size (k := 16) hn (by decide)
  have h1 := ba_cut (a := h.txt) (b := s ++ wideS n 16) (hd_size e)
  have h2 := ba_cut (a := s) (b := wideS n 16) hs
  have hz : (s ++ wideS n 16).size = 464 := by rw [ByteArray.size_append, hs, hw]
  rw [hz] at h1
  rw [hw] at h2
  refine ⟨h1.1, h1.2, ?_, ?_⟩
  · unfold headS; rw [hz]; exact h2.1
  · unfold tagS16; rw [hz]; exact h2.2
theorem ba_two (r : ByteArray) {n : Nat} (h : n ≤ r.size) : r.extract 0 n ++ r.extract n r.size = r := by
  rw [ByteArray.extract_append_extract]
  simp [Nat.max_eq_right h]

/-- What Seal tells, and what the vault has numbered then. -/
def bsealB (h : Hd) (s : ByteArray) : Bool := decide (s.size = 448 ∧ h.err = 0)
def bsealS (S : VS) (h : Hd) (s : ByteArray) : ByteArray := if bsealB h s then blkS h s (numOf (addN S.seals (h.four s)) (h.four s)) else ⟨#[]⟩
def bsealE (h : Hd) (s : ByteArray) : Int := if s.size = 448 then h.err else 1
def bsealP (S : VS) (h : Hd) (s : ByteArray) : VS := if bsealB h s then { S with seals := addN S.seals (h.four s) } else S
/-- What Open tells. -/
def opensB (S : VS) (r : ByteArray) : Bool := openB S (hdOf (r.extract 0 48)).v7 (hdOf (r.extract 0 48)).nonce (r.extract 0 48) (r.extract 48 512)
def bopenE (S : VS) (r : ByteArray) : Int := if r.size = 512 then (if headE (r.extract 0 48) = 0 then (if opensB S r then 0 else 10) else headE (r.extract 0 48)) else 1
def bopenH (S : VS) (r : ByteArray) : Hd := if bopenE S r = 0 then hdOf (r.extract 0 48) else Hd.zero
def bopenS (S : VS) (r : ByteArray) : ByteArray := if bopenE S r = 0 then headS (r.extract 48 512) else ⟨#[]⟩

theorem bopen_iff (S : VS) (r : ByteArray) (hl : S.seals.length ≤ 1000000) : bopenE S r = 0 ↔ ∃ h s, h.err = 0 ∧ s.size = 448 ∧ numOf S.seals (h.four s) ≠ 0 ∧ r = blkS h s (numOf S.seals (h.four s)) := by
  constructor
  · intro hz
    unfold bopenE at hz
    by_cases h1 : r.size = 512
    case neg => rw [if_neg h1] at hz; omega
    rw [if_pos h1] at hz
    by_cases h2 : headE (r.extract 0 48) = 0
    case neg => rw [if_neg h2] at hz; omega
    rw [if_pos h2] at hz
    by_cases h3 : opensB S r = true
    case neg => rw [if_neg h3] at hz; omega
    obtain ⟨k1, k2⟩ := hd_back h2
    have h4 : numOf S.seals ((hdOf (r.extract 0 48)).four (headS (r.extract 48 512))) ≠ 0 ∧ tagS16 (r.extract 48 512) = wideS (numOf S.seals ((hdOf (r.extract 0 48)).four (headS (r.extract 48 512)))) 16 := by
      simp only [Hd.four, k2]
      simpa [opensB, openB] using h3
    have z1 : (r.extract 48 512).size = 464 := by simp [h1]
    refine ⟨hdOf (r.extract 0 48), headS (r.extract 48 512), k1, ?_, h4.1, ?_⟩
    · simp [headS, z1]
    · unfold blkS
      rw [k2, ← h4.2]
      have e1 : headS (r.extract 48 512) ++ tagS16 (r.extract 48 512) = r.extract 48 512 := by
        unfold headS tagS16
        exact ba_two _ (by omega)
      rw [e1, ← h1]
      exact (ba_two r (by omega)).symm
  · rintro ⟨h, s, e, hs, hn, rfl⟩
    have hlt : numOf S.seals (h.four s) < 281474976710656 := by have := numOf_le (h.four s) S.seals; omega
    obtain ⟨p1, p2, p3, p4⟩ := blk_parts e hs hlt
    unfold bopenE
    rw [if_pos (blk_size e hs hlt), p1, if_pos (hd_headE e), if_pos]
    unfold opensB
    rw [p1, p2, hd_reads e]
    unfold openB
    rw [p3, p4]
    exact decide_eq_true ⟨hn, rfl⟩
theorem bopen_blk (S : VS) (h : Hd) (s : ByteArray) (hl : S.seals.length ≤ 1000000) (e : h.err = 0) (hs : s.size = 448) (hn : numOf S.seals (h.four s) ≠ 0) : bopenE S (blkS h s (numOf S.seals (h.four s))) = 0 ∧ bopenH S (blkS h s (numOf S.seals (h.four s))) = h ∧ bopenS S (blkS h s (numOf S.seals (h.four s))) = s := by
  have hlt : numOf S.seals (h.four s) < 281474976710656 := by have := numOf_le (h.four s) S.seals; omega
  obtain ⟨p1, p2, p3, p4⟩ := blk_parts e hs hlt
  have h0 := (bopen_iff S _ hl).2 ⟨h, s, e, hs, hn, rfl⟩
  refine ⟨h0, ?_, ?_⟩
  · unfold bopenH; rw [if_pos h0, p1, hd_reads e]
  · unfold bopenS; rw [if_pos h0, p2, p3]
theorem blk_inj {g h : Hd} {s t : ByteArray} {m n : Nat} (eg : g.err = 0) (eh : h.err = 0) (hs : s.size = 448) (ht : t.size = 448) (hm : m < 281474976710656) (hn : n < 281474976710656) (e : blkS g s m = blkS h t n) : g = h ∧ s = t ∧ m = n := by
  obtain ⟨p1, p2, p3, p4⟩ := blk_parts eg hs hm
  obtain ⟨q1, q2, q3, q4⟩ := blk_parts eh ht hn
  rw [e] at p1 p2
  have e1 := p1.symm.trans q1
  have e2 := p2.symm.trans q2
  exact ⟨hd_inj eg eh e1, by rw [← p3, ← q3, e2], wideS_inj hm hn (by rw [← p4, ← q4, e2])⟩
end Go.Proofs.YtoopaigpjefonaaGreatDoor

namespace Go.Proofs.YtoopaigpjefonaaGreatDoor
set_option maxRecDepth 20000
open Go.RowKit Go.Lib

set_option maxHeartbeats 400000 in
theorem wbytes_any (b : Nat) (l : List UInt8) (e : Int) (s : ByteArray) (w : World) (h : Wr w 202 5 b l e) (hs : l.length + s.size ≤ 1099511627776) :
    Calls Tryz.prog 108 #[.pointer (some ⟨b, 0, none⟩), .string s] w fun en w' => en = .returned (.tuple #[]) ∧ Wr w' 202 5 b (l ++ s.data.toList) e ∧ Below b w w' := by
  obtain ⟨v, hblk, hown⟩ := h
  have hlt := lt_of_block hblk
  have hc0 := two_cell0 hblk
  obtain ⟨i0, hi, hz0, hz1, hz2⟩ := info_parts info5
  go_enter Tryz.func108, Tryz.ntmps108
  go_wp2_with (at_builtin; refine wpList_append_own_string _ rfl _ _ 143 9 rfl (b + 1) 5 i0 Tryz.underlying143 Tryz.underlying9 hi hz0 hz1 hz2 _ _ _ rfl hown s rfl ?c1 ?c2 ?c3 ?_)
  case c1 => unfold maxLen; omega
  case c2 => omega
  case c3 => omega
  intro v' w1 hown' hgrow _
  have hb1 : Below (b + 1) w w1 := (Below.refl _ _).grown hgrow (by omega) (fun k hk => by
    rcases hown.2 with ⟨rfl, _⟩ | ⟨g', cap, cur, rfl, hg', _⟩
    · simp [Value.ownBlock] at hk
    · simp [Value.ownBlock] at hk; omega)
  have hblk1 : w1.heap[b]? = some (.cells #[v, .int .i64 e] 202 (0, 0)) := by rw [hb1.block b (by omega)]; exact hblk
  clear hown hblk hgrow hc0
  have hex : ∃ a n c, v' = .slice a n c := by
    rcases hown'.2 with ⟨h, _⟩ | ⟨g, cap, cur, h, _⟩
    · exact ⟨_, _, _, h⟩
    · exact ⟨_, _, _, h⟩
  obtain ⟨a, n, c, hv⟩ := hex
  rw [hv] at hown' ⊢
  clear hv
  have hf0 := two_free 0 hblk1
  have hc0 := two_cell0 hblk1
  have HB : Hid (w1.heap[b]? = some (.cells #[v, .int .i64 e] 202 (0, 0))) := hblk1
  clear hblk1
  go_wp2
  go_end0
  refine ⟨rfl, ⟨.slice a n c, two_set0 HB.out, ?_⟩, (hb1.mono (show b ≤ b + 1 by omega)).setCell (Nat.le_refl _) _⟩
  rw [List.length_append, show s.data.toList.length = s.size by simp, ← byteCells_append, ← byteCells_str]
  exact ownsRow_setCell_below hown' (by show b < b + 1; omega) _

theorem Wr.setE {w : World} {T E : TypeId} {b : Nat} {l : List UInt8} {e : Int} (h : Wr w T E b l e) (x : Int) : Wr (w.setCell ⟨b, 1, none⟩ (.int .i64 x)) T E b l x := by
  obtain ⟨v, h1, h2⟩ := h
  exact ⟨v, two_set1 h1, ownsRow_setCell_below h2 (by show b < b + 1; omega) _⟩

set_option maxHeartbeats 400000 in
theorem wnumber_any (b : Nat) (l : List UInt8) (e n k : Int) (w : World) (h : Wr w 202 5 b l e) (hs : l.length ≤ 1099511627000) :
    Calls Tryz.prog 107 #[.pointer (some ⟨b, 0, none⟩), .int .i64 n, .int .i64 k] w fun en w' => en = .returned (.tuple #[]) ∧ Wr w' 202 5 b (l ++ (putS n k).data.toList) (stepE e n k) ∧ Below b w w' := by
  have hsz : (putS n k).size ≤ 6 := by have := putS_le n k; simpa using this
  have hlt := h.lt
  by_cases hz : putE n k = 0
  · have hzb : (putE n k != 0) = false := by rw [hz]; rfl
    have HE : Hid (stepE e n k = e) := by show _ = _; unfold stepE; rw [if_pos hz]
    clear hz
    go_enter Tryz.func107, Tryz.ntmps107
    go_wp2_with fail
    refine (put_any n k _).mono ?_
    rintro en w1 ⟨rfl, hb1⟩
    have h1 := h.below hb1
    clear h
    go_wp2_with fail
    refine (wbytes_any b l e (putS n k) _ h1 (by omega)).mono ?_
    rintro en w2 ⟨rfl, h2, hb2⟩
    go_wp2
    go_end0
    exact ⟨rfl, by rw [HE.out]; exact h2, (hb1.mono (show b ≤ w.heap.size by omega)).trans hb2⟩
  · have hzb : (putE n k != 0) = true := by simpa using hz
    have HE : Hid (stepE e n k = putE n k) := by show _ = _; unfold stepE; rw [if_neg hz]
    clear hz
    go_enter Tryz.func107, Tryz.ntmps107
    go_wp2_with fail
    refine (put_any n k _).mono ?_
    rintro en w1 ⟨rfl, hb1⟩
    have h1 := h.below hb1
    clear h
    obtain ⟨v, hblk, hown⟩ := id h1
    have hf1 := two_free 1 hblk
    have hc1 := two_cell1 hblk
    clear hblk hown
    go_wp2_with fail
    refine (wbytes_any b l (putE n k) (putS n k) _ (h1.setE _) (by omega)).mono ?_
    rintro en w2 ⟨rfl, h2, hb2⟩
    go_wp2
    go_end0
    exact ⟨rfl, by rw [HE.out]; exact h2, ((hb1.mono (show b ≤ w.heap.size by omega)).setCell (Nat.le_refl _) _).trans hb2⟩

theorem run_convert_owned {w : World} {base : Nat} {v : Value} {l : List UInt8} (h : w.ownsRow base 5 1 v l.length (byteCells l)) : (convert 143 9 v).run Tryz.prog w = .ok (.string ⟨l.toArray⟩) w := by
  rcases h.2 with ⟨rfl, h0⟩ | ⟨g, cap, cur, rfl, _⟩
  · rw [run_convert_bytes_nil (P := Tryz.prog) w 143 5 Tryz.underlying143 Tryz.underlying5 0 0 9 Tryz.underlying9]
    rw [List.eq_nil_of_length_eq_zero h0]
    rfl
  · rw [run_convert_bytes_arg (P := Tryz.prog) w 143 5 Tryz.underlying143 Tryz.underlying5 g 0 l.length cap (l.map fun x => (x.toNat : Int)) (by simp) (fun i hi => by
      rw [Nat.zero_add, h.cellAt i (by omega)]
      simp [byteCells, hi, List.getD]) 9 Tryz.underlying9]
    rw [str_map_nums]

set_option maxHeartbeats 400000 in
theorem wrecord_no (b : Nat) (l : List UInt8) (e n : Int) (w : World) (h : Wr w 202 5 b l e) (he : (e != 0) = true) :
    Calls Tryz.prog 109 #[.pointer (some ⟨b, 0, none⟩), .int .i64 n] w fun en w' => en = .returned (.tuple #[.string ByteArray.empty, .int .i64 e]) ∧ Below w.heap.size w w' := by
  obtain ⟨v, hblk, hown⟩ := h
  have hc1 := two_cell1 hblk
  clear hblk hown
  go_enter Tryz.func109, Tryz.ntmps109
  go_wp2
  go_region
  all_goals go_wp2
  all_goals go_ret2
  all_goals exact ⟨rfl, by repeat (first | exact Below.refl _ _ | apply Below.drew)⟩

set_option maxHeartbeats 400000 in
theorem wrecord_ok (b : Nat) (l : List UInt8) (n : Int) (w : World) (h : Wr w 202 5 b l 0) :
    Calls Tryz.prog 109 #[.pointer (some ⟨b, 0, none⟩), .int .i64 n] w fun en w' => en = .returned (.tuple #[.string (padS ⟨l.toArray⟩ n), .int .i64 (padE ⟨l.toArray⟩ n)]) ∧ Below w.heap.size w w' := by
  obtain ⟨v, hblk, hown⟩ := h
  have hc0 := two_cell0 hblk
  have hc1 := two_cell1 hblk
  have hcv := run_convert_owned hown
  have hex : ∃ a n c, v = .slice a n c := by
    rcases hown.2 with ⟨h, _⟩ | ⟨g, cap, cur, h, _⟩
    · exact ⟨_, _, _, h⟩
    · exact ⟨_, _, _, h⟩
  clear hblk hown
  obtain ⟨a, m, c, rfl⟩ := hex
  go_enter Tryz.func109, Tryz.ntmps109
  go_wp2_with fail
  refine (pad_any ⟨l.toArray⟩ n _).mono ?_
  rintro en w1 ⟨rfl, hb1⟩
  go_wp2
  go_ret2
  exact ⟨rfl, hb1⟩

/-- A number that is laid behind others. -/
theorem wnumberP (b : Nat) (pre : List UInt8) (ps ps' : List (Int × Int)) (n k : Int) (hp : ps ++ [(n, k)] = ps') (w : World) (h : Wr w 202 5 b (pre ++ laidL ps) (errL 0 ps)) (hs : pre.length + 6 * ps.length ≤ 1000000) :
    Calls Tryz.prog 107 #[.pointer (some ⟨b, 0, none⟩), .int .i64 n, .int .i64 k] w fun en w' => en = .returned (.tuple #[]) ∧ Wr w' 202 5 b (pre ++ laidL ps') (errL 0 ps') ∧ Below b w w' := by
  have hl := laidL_le ps
  refine (wnumber_any b _ _ n k w h (by rw [List.length_append]; omega)).mono fun en w' ⟨he, hw, hb⟩ => ⟨he, ?_, hb⟩
  rw [← hp, laidL_append, errL_append, ← List.append_assoc]
  simpa [laidL, errL] using hw
/-- What record tells of numbers behind some bytes. -/
theorem wrecordP (b : Nat) (pre : List UInt8) (ps : List (Int × Int)) (n z : Nat) (hn : n ≤ 4096) (hw : widths ps = true) (hz : pre.length + widthSum ps + z = n) (w : World) (h : Wr w 202 5 b (pre ++ laidL ps) (errL 0 ps)) :
    Calls Tryz.prog 109 #[.pointer (some ⟨b, 0, none⟩), .int .i64 n] w fun en w' => en = .returned (.tuple #[.string (recS pre ps z), .int .i64 (recE ps)]) ∧ Below w.heap.size w w' := by
  rw [errL_ok ps hw] at h
  by_cases ho : laidOk ps = true
  · rw [if_pos ho] at h
    have hl : (pre ++ laidL ps).length + z = n := by rw [List.length_append, laidL_length ps ho]; omega
    refine (wrecord_ok b _ n w h).mono fun en w' ⟨he, hb⟩ => ⟨?_, hb⟩
    rw [he, padS_rec hn hl, padE_rec hn hl, recS_ok ho, recE_ok ho]
  · rw [if_neg ho] at h
    have hf : laidOk ps = false := by simpa using ho
    refine (wrecord_no b _ 2 n w h rfl).mono fun en w' ⟨he, hb⟩ => ⟨?_, hb⟩
    rw [he, recS_no hf, recE_no hf]
/-- What record tells of a text that z bytes lack to. -/
theorem wrecord_fit (b : Nat) (l : List UInt8) (n z : Nat) (hn : n ≤ 4096) (hl : l.length + z = n) (w : World) (h : Wr w 202 5 b l 0) :
    Calls Tryz.prog 109 #[.pointer (some ⟨b, 0, none⟩), .int .i64 n] w fun en w' => en = .returned (.tuple #[.string (padL l z), .int .i64 0]) ∧ Below w.heap.size w w' := by
  unfold padL
  refine (wrecord_ok b l n w h).mono fun en w' ⟨he, hb⟩ => ⟨?_, hb⟩
  rw [he, padS_rec hn hl, padE_rec hn hl]
/-- A new writer. -/
theorem wr_new (w : World) (b : Nat) (hb : b = w.heap.size) : Wr (w.alloc (.cells #[.slice none 0 0, .int .i64 0] 202)) 202 5 b [] 0 := by
  subst hb
  exact ⟨.slice none 0 0, heap_alloc_new w _, World.ownsRow_nil _ _ _ _⟩
end Go.Proofs.YtoopaigpjefonaaGreatDoor

namespace Go.Proofs.YtoopaigpjefonaaGreatDoor
set_option maxRecDepth 20000
open Go.RowKit Go.Lib

set_option maxHeartbeats 1000000 in
theorem head_any (a0 a1 a2 a3 a4 a5 a6 a7 : Int) (w : World) :
    Calls Tryz.prog 134 #[.agg #[.int .i64 a0, .int .i64 a1, .int .i64 a2, .int .i64 a3, .int .i64 a4, .int .i64 a5, .int .i64 a6, .int .i64 a7]] w fun e w' =>
      e = .returned (.tuple #[.string (recS [71, 82, 80, 78] (headPs a0 a1 a2 a3 a4 a5 a6 a7) 8), .int .i64 (recE (headPs a0 a1 a2 a3 a4 a5 a6 a7))]) ∧ Below w.heap.size w w' := by
  go_enter Tryz.func134, Tryz.ntmps134
  go_wp2_with fail
  have hwr := wr_new (w.alloc (.cells #[.int .i64 a0, .int .i64 a1, .int .i64 a2, .int .i64 a3, .int .i64 a4, .int .i64 a5, .int .i64 a6, .int .i64 a7] 121)) (w.heap.size + 1) (by simp)
  have HC : Hid (∀ i (v : Value), (#[.int .i64 a0, .int .i64 a1, .int .i64 a2, .int .i64 a3, .int .i64 a4, .int .i64 a5, .int .i64 a6, .int .i64 a7] : Array Value)[i]? = some v → ((w.alloc (.cells #[.int .i64 a0, .int .i64 a1, .int .i64 a2, .int .i64 a3, .int .i64 a4, .int .i64 a5, .int .i64 a6, .int .i64 a7] 121)).alloc (.cells #[.slice none 0 0, .int .i64 0] 202)).cell? ⟨w.heap.size, i, none⟩ = some v) := cells_boxed w _ _ _
  have hb0 : Below w.heap.size w ((w.alloc (.cells #[.int .i64 a0, .int .i64 a1, .int .i64 a2, .int .i64 a3, .int .i64 a4, .int .i64 a5, .int .i64 a6, .int .i64 a7] 121)).alloc (.cells #[.slice none 0 0, .int .i64 0] 202)) := ((Below.refl _ _).alloc (Nat.le_refl _) _).alloc (by simp) _
  generalize (w.alloc (.cells #[.int .i64 a0, .int .i64 a1, .int .i64 a2, .int .i64 a3, .int .i64 a4, .int .i64 a5, .int .i64 a6, .int .i64 a7] 121)).alloc (.cells #[.slice none 0 0, .int .i64 0] 202) = W0 at *
  refine (wbytes_any (w.heap.size + 1) [] 0 ⟨#[71, 82, 80, 78]⟩ _ hwr (by decide)).mono ?_
  rintro en w1 ⟨rfl, hw1, hb1⟩
  replace hw1 : Wr w1 202 5 (w.heap.size + 1) ([71, 82, 80, 78] ++ laidL []) (errL 0 []) := hw1
  clear hwr
  have c1 := (hb1.cell (p := ⟨w.heap.size, 0, none⟩) (by show w.heap.size < w.heap.size + 1; omega)).trans (HC.out 0 (.int .i64 a0) rfl)
  go_wp2_with fail
  refine (wnumberP (w.heap.size + 1) [71, 82, 80, 78] [] [(a0, 6)] a0 6 rfl _ hw1 (by simp)).mono ?_
  rintro en w2 ⟨rfl, hw2, hbn⟩
  have hb2 := hb1.trans hbn
  clear hw1 hb1 hbn c1
  have c2 := (hb2.cell (p := ⟨w.heap.size, 1, none⟩) (by show w.heap.size < w.heap.size + 1; omega)).trans (HC.out 1 (.int .i64 a1) rfl)
  go_wp2_with fail
  refine (wnumberP (w.heap.size + 1) [71, 82, 80, 78] [(a0, 6)] [(a0, 6), (a1, 4)] a1 4 rfl _ hw2 (by simp)).mono ?_
  rintro en w3 ⟨rfl, hw3, hbn⟩
  have hb3 := hb2.trans hbn
  clear hw2 hb2 hbn c2
  have c3 := (hb3.cell (p := ⟨w.heap.size, 2, none⟩) (by show w.heap.size < w.heap.size + 1; omega)).trans (HC.out 2 (.int .i64 a2) rfl)
  go_wp2_with fail
  refine (wnumberP (w.heap.size + 1) [71, 82, 80, 78] [(a0, 6), (a1, 4)] [(a0, 6), (a1, 4), (a2, 2)] a2 2 rfl _ hw3 (by simp)).mono ?_
  rintro en w4 ⟨rfl, hw4, hbn⟩
  have hb4 := hb3.trans hbn
  clear hw3 hb3 hbn c3
  have c4 := (hb4.cell (p := ⟨w.heap.size, 3, none⟩) (by show w.heap.size < w.heap.size + 1; omega)).trans (HC.out 3 (.int .i64 a3) rfl)
  go_wp2_with fail
  refine (wnumberP (w.heap.size + 1) [71, 82, 80, 78] [(a0, 6), (a1, 4), (a2, 2)] [(a0, 6), (a1, 4), (a2, 2), (a3, 4)] a3 4 rfl _ hw4 (by simp)).mono ?_
  rintro en w5 ⟨rfl, hw5, hbn⟩
  have hb5 := hb4.trans hbn
  clear hw4 hb4 hbn c4
  have c5 := (hb5.cell (p := ⟨w.heap.size, 4, none⟩) (by show w.heap.size < w.heap.size + 1; omega)).trans (HC.out 4 (.int .i64 a4) rfl)
  go_wp2_with fail
  refine (wnumberP (w.heap.size + 1) [71, 82, 80, 78] [(a0, 6), (a1, 4), (a2, 2), (a3, 4)] [(a0, 6), (a1, 4), (a2, 2), (a3, 4), (a4, 4)] a4 4 rfl _ hw5 (by simp)).mono ?_
  rintro en w6 ⟨rfl, hw6, hbn⟩
  have hb6 := hb5.trans hbn
  clear hw5 hb5 hbn c5
  have c6 := (hb6.cell (p := ⟨w.heap.size, 5, none⟩) (by show w.heap.size < w.heap.size + 1; omega)).trans (HC.out 5 (.int .i64 a5) rfl)
  go_wp2_with fail
  refine (wnumberP (w.heap.size + 1) [71, 82, 80, 78] [(a0, 6), (a1, 4), (a2, 2), (a3, 4), (a4, 4)] [(a0, 6), (a1, 4), (a2, 2), (a3, 4), (a4, 4), (a5, 4)] a5 4 rfl _ hw6 (by simp)).mono ?_
  rintro en w7 ⟨rfl, hw7, hbn⟩
  have hb7 := hb6.trans hbn
  clear hw6 hb6 hbn c6
  have c7 := (hb7.cell (p := ⟨w.heap.size, 6, none⟩) (by show w.heap.size < w.heap.size + 1; omega)).trans (HC.out 6 (.int .i64 a6) rfl)
  go_wp2_with fail
  refine (wnumberP (w.heap.size + 1) [71, 82, 80, 78] [(a0, 6), (a1, 4), (a2, 2), (a3, 4), (a4, 4), (a5, 4)] [(a0, 6), (a1, 4), (a2, 2), (a3, 4), (a4, 4), (a5, 4), (a6, 6)] a6 6 rfl _ hw7 (by simp)).mono ?_
  rintro en w8 ⟨rfl, hw8, hbn⟩
  have hb8 := hb7.trans hbn
  clear hw7 hb7 hbn c7
  have c8 := (hb8.cell (p := ⟨w.heap.size, 7, none⟩) (by show w.heap.size < w.heap.size + 1; omega)).trans (HC.out 7 (.int .i64 a7) rfl)
  go_wp2_with fail
  refine (wnumberP (w.heap.size + 1) [71, 82, 80, 78] [(a0, 6), (a1, 4), (a2, 2), (a3, 4), (a4, 4), (a5, 4), (a6, 6)] [(a0, 6), (a1, 4), (a2, 2), (a3, 4), (a4, 4), (a5, 4), (a6, 6), (a7, 6)] a7 6 rfl _ hw8 (by simp)).mono ?_
  rintro en w9 ⟨rfl, hw9, hbn⟩
  have hb9 := hb8.trans hbn
  clear hw8 hb8 hbn c8
  go_wp2_with fail
  refine (wrecordP (w.heap.size + 1) [71, 82, 80, 78] (headPs a0 a1 a2 a3 a4 a5 a6 a7) 48 8 (by decide) rfl rfl _ hw9).mono ?_
  rintro en w10 ⟨rfl, hb10⟩
  go_wp2
  go_ret2
  exact ⟨rfl, hb0.trans ((hb9.mono (show w.heap.size ≤ w.heap.size + 1 by omega)).trans (hb10.mono (Nat.le_trans hb0.size hb9.size)))⟩
end Go.Proofs.YtoopaigpjefonaaGreatDoor

namespace Go.Proofs.YtoopaigpjefonaaGreatDoor
set_option maxRecDepth 20000
open Go.ChangeShapes Go.WideShapes Go.ChangeAt Go.RowKit

theorem cells_int : Tryz.prog.cellsOf 3 = 1 := by kernel_rfl
theorem cells_string : Tryz.prog.cellsOf 9 = 1 := by kernel_rfl
theorem fld_int {H : Type} {enc : TypeId × Value → H} {w : World} {base : Nat} {spare : Nat → Bool} {held : Bool} {n i : Nat} {c : Value} {xs : List (DataW H × List MemPlace)}
    (h : DataW.trod enc Tryz.prog w base spare held n 3 [c] = xs[i]?) (hi : i < xs.length) : ∃ a, c = .int .i64 a ∧ (Lit.int .i64 a).wf = true := by
  rw [List.getElem?_eq_getElem hi] at h
  obtain ⟨a, e0, _, wa⟩ := DataW.trod_int Tryz.underlying3 h
  simp at e0
  exact ⟨a, e0, wa⟩
theorem fld_string {H : Type} {enc : TypeId × Value → H} {w : World} {base : Nat} {spare : Nat → Bool} {held : Bool} {n i : Nat} {c : Value} {xs : List (DataW H × List MemPlace)}
    (h : DataW.trod enc Tryz.prog w base spare held n 9 [c] = xs[i]?) (hi : i < xs.length) : ∃ s, c = .string s ∧ s.size ≤ maxLen := by
  rw [List.getElem?_eq_getElem hi] at h
  obtain ⟨s, e0, _, ws⟩ := DataW.trod_string Tryz.underlying9 h
  simp at e0
  exact ⟨s, e0, ws⟩
/-- A number of type int. -/
def IsInt (a : Int) : Prop := (Lit.int .i64 a).wf = true
theorem int_le8 {x : Int} (h : IsInt x) : x ≤ 9223372036854775807 := by
  simp [IsInt, Lit.wf, IntKind.min, IntKind.max, IntKind.signed, IntKind.bits] at h
  omega
end Go.Proofs.YtoopaigpjefonaaGreatDoor

namespace Go.Proofs.YtoopaigpjefonaaGreatDoor
set_option maxRecDepth 20000
open Go.ChangeShapes Go.WideShapes Go.ChangeAt Go.RowKit

theorem array8 {α : Type} {cs : Array α} (h : cs.size = 8) : ∃ c0 c1 c2 c3 c4 c5 c6 c7, cs = #[c0, c1, c2, c3, c4, c5, c6, c7] := by
  obtain ⟨l⟩ := cs
  match l, h with
  | [c0, c1, c2, c3, c4, c5, c6, c7], _ => exact ⟨c0, c1, c2, c3, c4, c5, c6, c7, rfl⟩
theorem cells_head : Tryz.prog.cellsOf 121 = 8 := by kernel_rfl
theorem open_head {H : Type} {enc : TypeId × Value → H} {w : World} {base b0 : Nat} {spare : Nat → Bool} {held : Bool} {r : Reach} {v : Value} {d : DataW H} {p : List MemPlace}
    (hv : Value.okWide Tryz.prog w r b0 121 v) (h : DataW.Trod enc Tryz.prog w base spare held 121 v d p) :
    ∃ a0 a1 a2 a3 a4 a5 a6 a7 : Int, v = .agg #[.int .i64 a0, .int .i64 a1, .int .i64 a2, .int .i64 a3, .int .i64 a4, .int .i64 a5, .int .i64 a6, .int .i64 a7] ∧ (IsInt a0 ∧ IsInt a1 ∧ IsInt a2 ∧ IsInt a3 ∧ IsInt a4 ∧ IsInt a5 ∧ IsInt a6 ∧ IsInt a7) := by
  obtain ⟨cs, rfl, hsz⟩ := okWide_struct Tryz.underlying121 hv
  obtain ⟨c0, c1, c2, c3, c4, c5, c6, c7, rfl⟩ := array8 (hsz.trans cells_head)
  obtain ⟨fuel, hf⟩ := h
  obtain ⟨xs, n, _, _, _, hlen, hf⟩ := DataW.trod_struct Tryz.underlying121 hf
  have hl : xs.length = 8 := hlen
  obtain ⟨a0, rfl, w0⟩ := fld_int (c := c0) (i := 0) (xs := xs) (by simpa [Value.cells, cells_int] using hf 0 _ rfl) (by omega)
  obtain ⟨a1, rfl, w1⟩ := fld_int (c := c1) (i := 1) (xs := xs) (by simpa [Value.cells, cells_int] using hf 1 _ rfl) (by omega)
  obtain ⟨a2, rfl, w2⟩ := fld_int (c := c2) (i := 2) (xs := xs) (by simpa [Value.cells, cells_int] using hf 2 _ rfl) (by omega)
  obtain ⟨a3, rfl, w3⟩ := fld_int (c := c3) (i := 3) (xs := xs) (by simpa [Value.cells, cells_int] using hf 3 _ rfl) (by omega)
  obtain ⟨a4, rfl, w4⟩ := fld_int (c := c4) (i := 4) (xs := xs) (by simpa [Value.cells, cells_int] using hf 4 _ rfl) (by omega)
  obtain ⟨a5, rfl, w5⟩ := fld_int (c := c5) (i := 5) (xs := xs) (by simpa [Value.cells, cells_int] using hf 5 _ rfl) (by omega)
  obtain ⟨a6, rfl, w6⟩ := fld_int (c := c6) (i := 6) (xs := xs) (by simpa [Value.cells, cells_int] using hf 6 _ rfl) (by omega)
  obtain ⟨a7, rfl, w7⟩ := fld_int (c := c7) (i := 7) (xs := xs) (by simpa [Value.cells, cells_int] using hf 7 _ rfl) (by omega)
  exact ⟨a0, a1, a2, a3, a4, a5, a6, a7, rfl, w0, w1, w2, w3, w4, w5, w6, w7⟩
end Go.Proofs.YtoopaigpjefonaaGreatDoor

namespace Go.Proofs.YtoopaigpjefonaaGreatDoor
set_option maxRecDepth 20000
open Go.RowKit Go.Lib

theorem whole_any (s : ByteArray) (w : World) : Calls Tryz.prog 145 #[.string s] w fun e w' => e = .returned (.bool (decide (s.size = 512))) ∧ w' = w := by
  by_cases h : s.size = 512
  · have h' : (s.size : Int) = 512 := by omega
    rw [decide_eq_true h]
    go_enter Tryz.func145, Tryz.ntmps145
    go_wp2
    go_ret
    exact ⟨rfl, rfl⟩
  · have h' : ((s.size : Int) == 512) = false := beq_false_of_ne (by omega)
    rw [decide_eq_false h]
    go_enter Tryz.func145, Tryz.ntmps145
    go_wp2
    go_ret
    exact ⟨rfl, rfl⟩
set_option maxHeartbeats 1000000 in
theorem nonce_any (h : Hd) (w : World) : Calls Tryz.prog 136 #[.agg h.arr] w fun e w' => e = .returned (.string h.nonce) ∧ Below w.heap.size w w' := by
  obtain ⟨a0, a1, a2, a3, a4, a5, a6, a7⟩ := h
  simp only [Hd.arr, Hd.nonce, nonceS]
  have s1 : (putS a1 4).size ≤ 6 := by have := putS_le a1 4; simpa using this
  have s2 : (putS a6 6).size ≤ 6 := by have := putS_le a6 6; simpa using this
  have p1 := fun w => put_any a1 4 w
  have p2 := fun w => put_any a6 6 w
  generalize putS a1 4 = p at *
  generalize putS a6 6 = q at *
  have hadd : (p ++ q).size ≤ maxLen := by rw [ByteArray.size_append]; unfold maxLen; omega
  go_enter Tryz.func136, Tryz.ntmps136
  go_wp2_with fail
  refine (p1 _).mono ?_
  rintro e w1 ⟨rfl, hb1⟩
  have c6 := cells_kept hb1 6 _ rfl
  have hb1' : Below w.heap.size w w1 := ((Below.refl _ _).alloc (Nat.le_refl _) _).trans (hb1.mono (by simp))
  clear hb1
  go_wp2_with fail
  refine (p2 _).mono ?_
  rintro e w2 ⟨rfl, hb2⟩
  have hb3 : Below w.heap.size w w2 := hb1'.trans (hb2.mono hb1'.size)
  clear hb2 c6 hb1'
  go_wp2_with fail
  refine (pad_any (p ++ q) 12 _).mono ?_
  rintro e w3 ⟨rfl, hb4⟩
  have HB : Hid (Below w.heap.size w w3) := hb3.trans (hb4.mono hb3.size)
  clear hb3 hb4
  go_wp2
  go_ret
  exact ⟨rfl, HB.out⟩

theorem bhead_any (h : Hd) (w : World) : Calls Tryz.prog 134 #[.agg #[.int .i64 h.v0, .int .i64 h.v1, .int .i64 h.v2, .int .i64 h.v3, .int .i64 h.v4, .int .i64 h.v5, .int .i64 h.v6, .int .i64 h.v7]] w fun e w' => e = .returned (.tuple #[.string h.txt, .int .i64 h.err]) ∧ Below w.heap.size w w' := head_any h.v0 h.v1 h.v2 h.v3 h.v4 h.v5 h.v6 h.v7 w

set_option maxHeartbeats 1000000 in
theorem bseal_short (v : Value) (h : Hd) (s : ByteArray) (hs : ¬ s.size = 448) (w : World) : Calls Tryz.prog 96 #[v, .agg h.arr, .string s] w fun e w' => e = .returned (.tuple #[.string ⟨#[]⟩, .int .i64 1]) ∧ Below w.heap.size w w' := by
  have hs' : ((s.size : Int) != 448) = true := bne_iff_ne.2 (by omega)
  have HB : Hid (Below w.heap.size w (w.alloc (.cells h.arr 121))) := (Below.refl _ _).alloc (Nat.le_refl _) _
  simp only [Hd.arr] at HB ⊢
  go_enter Tryz.func96, Tryz.ntmps96
  go_wp2
  go_ret2
  exact ⟨rfl, HB.out⟩
set_option maxHeartbeats 1000000 in
theorem bseal_head (v : Value) (h : Hd) (s : ByteArray) (hs : s.size = 448) (he : ¬ h.err = 0) (w : World) : Calls Tryz.prog 96 #[v, .agg h.arr, .string s] w fun e w' => e = .returned (.tuple #[.string ⟨#[]⟩, .int .i64 h.err]) ∧ Below w.heap.size w w' := by
  have hs' : (s.size : Int) = 448 := by omega
  have he' : (h.err != 0) = true := bne_iff_ne.2 he
  have hh := fun w => bhead_any h w
  have HB : Hid (Below w.heap.size w (w.alloc (.cells h.arr 121))) := (Below.refl _ _).alloc (Nat.le_refl _) _
  simp only [Hd.arr] at HB ⊢
  generalize h.txt = t at *
  generalize h.err = E at *
  go_enter Tryz.func96, Tryz.ntmps96
  go_wp2_with fail
  refine (hh _).mono ?_
  rintro e w1 ⟨rfl, hb1⟩
  have HB2 : Hid (Below w.heap.size w w1) := HB.out.trans (hb1.mono (by simp))
  clear hb1 HB hh
  go_wp2
  go_ret2
  exact ⟨rfl, HB2.out⟩
set_option maxHeartbeats 2000000 in
theorem bseal_gen (v : Value) (h : Hd) (s T : ByteArray) (E : Int) (P : World → Prop) (w : World) (hs : s.size = 448) (he : h.err = 0) (hT : T.size ≤ 1000000)
    (hv : ∀ w', Below w.heap.size w w' → Calls Tryz.prog 135 #[v, .int .i64 h.v7, .string h.nonce, .string h.txt, .string s] w' fun e w'' => e = .returned (.tuple #[.string T, .int .i64 E]) ∧ P w'' ∧ ∀ k, w.heap.size ≤ k → k < w'.heap.size → w''.heap[k]? = w'.heap[k]?) :
    Calls Tryz.prog 96 #[v, .agg h.arr, .string s] w fun e w' => e = .returned (.tuple #[.string (if E = 0 then h.txt ++ T else ⟨#[]⟩), .int .i64 E]) ∧ P w' := by
  have hs' : (s.size : Int) = 448 := by omega
  have hh := fun w => bhead_any h w
  have hn := fun w => nonce_any h w
  have ht := hd_size he
  have HB : Hid (Below w.heap.size w (w.alloc (.cells h.arr 121))) := (Below.refl _ _).alloc (Nat.le_refl _) _
  rw [he] at hh
  simp only [Hd.arr] at HB hn ⊢
  clear he
  generalize h.txt = t at *
  generalize h.nonce = n at *
  have hadd : (t ++ T).size ≤ maxLen := by rw [ByteArray.size_append]; unfold maxLen; omega
  by_cases hE : E = 0
  case' pos => subst hE; simp only [if_true]
  case' neg => have hE' : (E != 0) = true := bne_iff_ne.2 hE; simp only [hE, if_false]
  all_goals
    go_enter Tryz.func96, Tryz.ntmps96
    go_wp2_with fail
    refine (hh _).mono ?_
    rintro e w1 ⟨rfl, hb1⟩
    have c0 := cells_kept hb1 0 _ rfl
    have c1 := cells_kept hb1 1 _ rfl
    have c2 := cells_kept hb1 2 _ rfl
    have c3 := cells_kept hb1 3 _ rfl
    have c4 := cells_kept hb1 4 _ rfl
    have c5 := cells_kept hb1 5 _ rfl
    have c6 := cells_kept hb1 6 _ rfl
    have c7 := cells_kept hb1 7 _ rfl
    have HB2 : Hid (Below w.heap.size w w1) := HB.out.trans (hb1.mono (by simp))
    have hlt : w.heap.size < w1.heap.size := by have := hb1.size; simp at this; omega
    clear hb1 HB hh
    go_wp2_with fail
    go_region_held3 (fun w' => w'.cell? ⟨w.heap.size, 0, none⟩ = some (.int .i64 h.v0) ∧ w'.cell? ⟨w.heap.size, 1, none⟩ = some (.int .i64 h.v1) ∧ w'.cell? ⟨w.heap.size, 2, none⟩ = some (.int .i64 h.v2) ∧ w'.cell? ⟨w.heap.size, 3, none⟩ = some (.int .i64 h.v3) ∧ w'.cell? ⟨w.heap.size, 4, none⟩ = some (.int .i64 h.v4) ∧ w'.cell? ⟨w.heap.size, 5, none⟩ = some (.int .i64 h.v5) ∧ w'.cell? ⟨w.heap.size, 6, none⟩ = some (.int .i64 h.v6) ∧ w'.cell? ⟨w.heap.size, 7, none⟩ = some (.int .i64 h.v7)) (simp [go_sem, *])
      (first | (go_at_call 136; refine (hn _).mono ?_; rintro e wA ⟨rfl, hbA⟩; have HA : Hid (Below w.heap.size w wA) := HB2.out.drew.trans (hbA.mono HB2.out.size); have hk : ∀ i, wA.cell? ⟨w.heap.size, i, none⟩ = w1.cell? ⟨w.heap.size, i, none⟩ := fun i => hbA.cell (p := ⟨w.heap.size, i, none⟩) hlt) | (go_at_call 135; refine (hv _ HA.out).mono ?_; rintro e wB ⟨rfl, hP, hK⟩; have hk2 : ∀ i, wB.cell? ⟨w.heap.size, i, none⟩ = w1.cell? ⟨w.heap.size, i, none⟩ := fun i => (World.cell?_of_block (a := ⟨w.heap.size, i, none⟩) (hK w.heap.size (Nat.le_refl _) (Nat.lt_of_lt_of_le hlt hbA.size))).trans (hk i)))
    all_goals
      have HP : Hid (P wB) := hP
      clear hP hK hk hk2 hbA HA c0 c1 c2 c3 c4 c5 c6 c7
      go_wp2
      go_ret2
      exact ⟨rfl, HP.out⟩
end Go.Proofs.YtoopaigpjefonaaGreatDoor

namespace Go.Proofs.YtoopaigpjefonaaGreatDoor
set_option maxRecDepth 20000
open Go.RowKit Go.Lib

theorem load_head (w : World) (g : Nat) (cs : Array Value) (hg : w.heap[g]? = some (.cells cs 121 (0, 0))) (hs : cs.size = 8) :
    (loadVar 121 ⟨g, 0, none⟩).run Tryz.prog w = .ok (.agg cs) w :=
  run_loadVar_row (P := Tryz.prog) w g 121 121 cs (0, 0) _ hg Tryz.underlying121 rfl (by rw [hs]; kernel_rfl)

theorem set8 (w : World) (g : Nat) (t : TypeId) (v0 v1 v2 v3 v4 v5 v6 v7 : Value) (h : w.heap[g]? = some (.cells #[.int .i64 0, .int .i64 0, .int .i64 0, .int .i64 0, .int .i64 0, .int .i64 0, .int .i64 0, .int .i64 0] t (0, 0))) :
    ((((((((w.setCell ⟨g, 0, none⟩ v0).setCell ⟨g, 1, none⟩ v1).setCell ⟨g, 2, none⟩ v2).setCell ⟨g, 3, none⟩ v3).setCell ⟨g, 4, none⟩ v4).setCell ⟨g, 5, none⟩ v5).setCell ⟨g, 6, none⟩ v6).setCell ⟨g, 7, none⟩ v7).heap[g]? = some (.cells #[v0, v1, v2, v3, v4, v5, v6, v7] t (0, 0)) := by
  have e0 := heap_setCell_same w g 0 _ t v0 h
  have e1 := heap_setCell_same _ g 1 _ t v1 e0
  have e2 := heap_setCell_same _ g 2 _ t v2 e1
  have e3 := heap_setCell_same _ g 3 _ t v3 e2
  have e4 := heap_setCell_same _ g 4 _ t v4 e3
  have e5 := heap_setCell_same _ g 5 _ t v5 e4
  have e6 := heap_setCell_same _ g 6 _ t v6 e5
  have e7 := heap_setCell_same _ g 7 _ t v7 e6
  exact e7.trans (by simp)
theorem below8 {w w0 : World} {g : Nat} (h : Below g w0 w) (v0 v1 v2 v3 v4 v5 v6 v7 : Value) : Below g w0 ((((((((w.setCell ⟨g, 0, none⟩ v0).setCell ⟨g, 1, none⟩ v1).setCell ⟨g, 2, none⟩ v2).setCell ⟨g, 3, none⟩ v3).setCell ⟨g, 4, none⟩ v4).setCell ⟨g, 5, none⟩ v5).setCell ⟨g, 6, none⟩ v6).setCell ⟨g, 7, none⟩ v7) :=
  (((((((h.setCell (p := ⟨g, 0, none⟩) (Nat.le_refl _) v0).setCell (p := ⟨g, 1, none⟩) (Nat.le_refl _) v1).setCell (p := ⟨g, 2, none⟩) (Nat.le_refl _) v2).setCell (p := ⟨g, 3, none⟩) (Nat.le_refl _) v3).setCell (p := ⟨g, 4, none⟩) (Nat.le_refl _) v4).setCell (p := ⟨g, 5, none⟩) (Nat.le_refl _) v5).setCell (p := ⟨g, 6, none⟩) (Nat.le_refl _) v6).setCell (p := ⟨g, 7, none⟩) (Nat.le_refl _) v7
end Go.Proofs.YtoopaigpjefonaaGreatDoor

namespace Go.Proofs.YtoopaigpjefonaaGreatDoor
set_option maxRecDepth 20000
open Go.RowKit Go.Lib

theorem bheadOf_any (s : ByteArray) (w : World) : Calls Tryz.prog 131 #[.string s] w fun e w' => e = .returned (.tuple #[.agg #[.int .i64 (hdOf s).v0, .int .i64 (hdOf s).v1, .int .i64 (hdOf s).v2, .int .i64 (hdOf s).v3, .int .i64 (hdOf s).v4, .int .i64 (hdOf s).v5, .int .i64 (hdOf s).v6, .int .i64 (hdOf s).v7], .int .i64 (headE s)]) ∧ Below w.heap.size w w' := headOf_any s w
/-- Open's answer. -/
theorem open_ret (tmps : Array Value) (w w' : World) (t : ByteArray) (y : Int) (cs : Array Value) (h1 : tmps.getD 4 undef = .pointer (some ⟨w.heap.size, 0, none⟩)) (h2 : tmps.getD 5 undef = .string t) (h3 : tmps.getD 6 undef = .int .i64 y) (hg : w'.heap[w.heap.size]? = some (.cells cs 121 (0, 0))) (hs : cs.size = 8) (hb : Below w.heap.size w w') :
    bodyPost Tryz.prog Tryz.f142 (fun e w'' => e = .returned (.tuple #[.agg cs, .string t, .int .i64 y]) ∧ Below w.heap.size w w'') .ret { tmps := tmps, defers := [] } w' := by
  have hr := load_head w' w.heap.size cs hg hs
  simp at h1 h2 h3
  exact bodyPost_ret (v := .tuple #[.agg cs, .string t, .int .i64 y]) (by simp [results, Tryz.results142, asAddr, hr, h1, h2, h3]) rfl ⟨rfl, hb⟩

set_option maxHeartbeats 1000000 in
theorem bopen_short (v : Value) (r : ByteArray) (hr : ¬ r.size = 512) (w : World) : Calls Tryz.prog 142 #[v, .string r] w fun e w' => e = .returned (.tuple #[.agg Hd.zero.arr, .string ⟨#[]⟩, .int .i64 1]) ∧ Below w.heap.size w w' := by
  have hw := fun w => whole_any r w
  rw [decide_eq_false hr] at hw
  simp only [Hd.arr, Hd.zero]
  have hb := (Below.refl w.heap.size w).alloc (Nat.le_refl _) (.cells #[.int .i64 0, .int .i64 0, .int .i64 0, .int .i64 0, .int .i64 0, .int .i64 0, .int .i64 0, .int .i64 0] 121)
  have g0 := heap_alloc_new w (.cells #[.int .i64 0, .int .i64 0, .int .i64 0, .int .i64 0, .int .i64 0, .int .i64 0, .int .i64 0, .int .i64 0] 121)
  have HG : Hid _ := g0
  have HB : Hid _ := hb
  clear hb g0
  go_enter Tryz.func142, Tryz.ntmps142
  go_wp2_with fail
  refine (hw _).mono ?_
  rintro e w1 ⟨rfl, rfl⟩
  clear hw
  go_wp2_with fail
  exact open_ret _ w _ ⟨#[]⟩ 1 _ rfl rfl rfl HG.out rfl HB.out
set_option maxHeartbeats 2000000 in
theorem bopen_gen (v : Value) (r T : ByteArray) (E : Int) (w : World) (hr : r.size = 512) (he : headE (r.extract 0 48) = 0)
    (hv : ∀ w', Below w.heap.size w w' → Calls Tryz.prog 65 #[v, .int .i64 (hdOf (r.extract 0 48)).v7, .string (hdOf (r.extract 0 48)).nonce, .string (r.extract 0 48), .string (r.extract 48 512)] w' fun e w'' => e = .returned (.tuple #[.string T, .int .i64 E]) ∧ Below w'.heap.size w' w'') :
    Calls Tryz.prog 142 #[v, .string r] w fun e w' => e = .returned (.tuple #[.agg (if E = 0 then (hdOf (r.extract 0 48)).arr else Hd.zero.arr), .string (if E = 0 then T else ⟨#[]⟩), .int .i64 E]) ∧ Below w.heap.size w w' := by
  have hw := fun w => whole_any r w
  rw [decide_eq_true hr] at hw
  have hh := fun w => bheadOf_any (r.extract 0 48) w
  rw [he] at hh
  have hn := fun w => nonce_any (hdOf (r.extract 0 48)) w
  generalize hdOf (r.extract 0 48) = h at *
  generalize h.nonce = n at *
  generalize hx : r.extract 0 48 = x at *
  generalize hy : r.extract 48 512 = y at *
  simp only [Hd.arr, Hd.zero] at hn ⊢
  have hr1 : (48 : Int) ≤ r.size := by omega
  by_cases hE : E = 0
  case' pos => subst hE; simp only [if_true]
  case' neg => have hE' : (E != 0) = true := bne_iff_ne.2 hE; simp only [hE, if_false]
  all_goals
    go_enter Tryz.func142, Tryz.ntmps142
    go_wp2_with fail
    refine (hw _).mono ?_
    rintro e w1 ⟨rfl, rfl⟩
    clear hw
    go_wp2_with fail
    go_quiet (fail)
    try rw [hx, hy]
    go_wp2_with fail
    refine (hh _).mono ?_
    rintro e w2 ⟨rfl, hb2⟩
    have gz : w2.heap[w.heap.size]? = some (.cells #[.int .i64 0, .int .i64 0, .int .i64 0, .int .i64 0, .int .i64 0, .int .i64 0, .int .i64 0, .int .i64 0] 121 (0, 0)) := (hb2.block w.heap.size (by simp)).trans (heap_alloc_new w _)
    have hlt : w.heap.size < w2.heap.size := lt_of_block gz
    have hbw : Below w.heap.size w w2 := (below_drewN ((Below.refl _ _).alloc (Nat.le_refl _) _) nq).trans (hb2.mono (by simp))
    clear hb2 hh
    obtain ⟨w3, hw3⟩ : ∃ w3, w2.alloc (.cells #[.int .i64 h.v0, .int .i64 h.v1, .int .i64 h.v2, .int .i64 h.v3, .int .i64 h.v4, .int .i64 h.v5, .int .i64 h.v6, .int .i64 h.v7] 121) = w3 := ⟨_, rfl⟩
    have g3 : w3.heap[w2.heap.size]? = some (.cells #[.int .i64 h.v0, .int .i64 h.v1, .int .i64 h.v2, .int .i64 h.v3, .int .i64 h.v4, .int .i64 h.v5, .int .i64 h.v6, .int .i64 h.v7] 121 (0, 0)) := by rw [← hw3]; exact heap_alloc_new w2 _
    have gz3 : w3.heap[w.heap.size]? = some (.cells #[.int .i64 0, .int .i64 0, .int .i64 0, .int .i64 0, .int .i64 0, .int .i64 0, .int .i64 0, .int .i64 0] 121 (0, 0)) := by rw [← hw3]; exact (Below.heap_alloc _ _ _ hlt).trans gz
    have hlt3 : w2.heap.size < w3.heap.size := lt_of_block g3
    have HB3 : Hid (Below w.heap.size w w3) := by rw [← hw3]; exact hbw.alloc (Nat.le_of_lt hlt) _
    clear hbw gz
    have c0 : w3.cell? ⟨w2.heap.size, 0, none⟩ = some (.int .i64 h.v0) := cell_of_row _ _ _ _ _ _ g3
    have c1 : w3.cell? ⟨w2.heap.size, 1, none⟩ = some (.int .i64 h.v1) := cell_of_row _ _ _ _ _ _ g3
    have c2 : w3.cell? ⟨w2.heap.size, 2, none⟩ = some (.int .i64 h.v2) := cell_of_row _ _ _ _ _ _ g3
    have c3 : w3.cell? ⟨w2.heap.size, 3, none⟩ = some (.int .i64 h.v3) := cell_of_row _ _ _ _ _ _ g3
    have c4 : w3.cell? ⟨w2.heap.size, 4, none⟩ = some (.int .i64 h.v4) := cell_of_row _ _ _ _ _ _ g3
    have c5 : w3.cell? ⟨w2.heap.size, 5, none⟩ = some (.int .i64 h.v5) := cell_of_row _ _ _ _ _ _ g3
    have c6 : w3.cell? ⟨w2.heap.size, 6, none⟩ = some (.int .i64 h.v6) := cell_of_row _ _ _ _ _ _ g3
    have c7 : w3.cell? ⟨w2.heap.size, 7, none⟩ = some (.int .i64 h.v7) := cell_of_row _ _ _ _ _ _ g3
    clear g3
    go_wp2_with fail
    try rw [hw3]
    clear hw3
    go_region_held3 (fun w' => w'.cell? ⟨w2.heap.size, 0, none⟩ = some (.int .i64 h.v0) ∧ w'.cell? ⟨w2.heap.size, 1, none⟩ = some (.int .i64 h.v1) ∧ w'.cell? ⟨w2.heap.size, 2, none⟩ = some (.int .i64 h.v2) ∧ w'.cell? ⟨w2.heap.size, 3, none⟩ = some (.int .i64 h.v3) ∧ w'.cell? ⟨w2.heap.size, 4, none⟩ = some (.int .i64 h.v4) ∧ w'.cell? ⟨w2.heap.size, 5, none⟩ = some (.int .i64 h.v5) ∧ w'.cell? ⟨w2.heap.size, 6, none⟩ = some (.int .i64 h.v6) ∧ w'.cell? ⟨w2.heap.size, 7, none⟩ = some (.int .i64 h.v7)) (simp [go_sem, *])
      (first | (go_at_call 136; refine (hn _).mono ?_; rintro e wA ⟨rfl, hbA⟩; have HA : Hid (Below w.heap.size w wA) := HB3.out.drew.trans (hbA.mono HB3.out.size); have hk : ∀ i, wA.cell? ⟨w2.heap.size, i, none⟩ = w3.cell? ⟨w2.heap.size, i, none⟩ := fun i => hbA.cell (p := ⟨w2.heap.size, i, none⟩) hlt3) | (go_at_call 65; refine (hv _ HA.out).mono ?_; rintro e wB ⟨rfl, hbB⟩; have hk2 : ∀ i, wB.cell? ⟨w2.heap.size, i, none⟩ = w3.cell? ⟨w2.heap.size, i, none⟩ := fun i => (hbB.cell (p := ⟨w2.heap.size, i, none⟩) (Nat.lt_of_lt_of_le hlt3 hbA.size)).trans (hk i)))
    have gB : wB.heap[w.heap.size]? = some (.cells #[.int .i64 0, .int .i64 0, .int .i64 0, .int .i64 0, .int .i64 0, .int .i64 0, .int .i64 0, .int .i64 0] 121 (0, 0)) := ((hbB.block _ (Nat.lt_of_lt_of_le (Nat.lt_trans hlt hlt3) hbA.size)).trans (hbA.block _ (Nat.lt_trans hlt hlt3))).trans gz3
    have HBB : Hid (Below w.heap.size w wB) := HA.out.trans (hbB.mono HA.out.size)
    have hrow : ∀ cs, Below w.heap.size w (wB.setRow w.heap.size cs) := fun cs => HBB.out.trans ⟨rfl, rfl, rfl, by simp [World.setRow], fun k hk => setRow_other _ _ _ _ (by omega)⟩
    clear hbA hbB HA HBB hk gz3 hv hn
  · go_wp2_with (refine wpList_store_row rfl 121 _ _ rfl w.heap.size #[.int .i64 0, .int .i64 0, .int .i64 0, .int .i64 0, .int .i64 0, .int .i64 0, .int .i64 0, .int .i64 0] rfl rfl 121 _ gB (by kernel_rfl) rfl (by simp [Value.oneCell']) ?_)
    exact open_ret _ w _ ⟨#[]⟩ E #[.int .i64 0, .int .i64 0, .int .i64 0, .int .i64 0, .int .i64 0, .int .i64 0, .int .i64 0, .int .i64 0] rfl rfl rfl (setRow_heap _ _ _ _ _ _ gB) rfl (hrow _)
  · go_wp2_with (refine wpList_store_row rfl 121 _ _ rfl w.heap.size #[.int .i64 h.v0, .int .i64 h.v1, .int .i64 h.v2, .int .i64 h.v3, .int .i64 h.v4, .int .i64 h.v5, .int .i64 h.v6, .int .i64 h.v7] rfl rfl 121 _ gB (by kernel_rfl) rfl (by simp [Value.oneCell']) ?_)
    exact open_ret _ w _ T 0 #[.int .i64 h.v0, .int .i64 h.v1, .int .i64 h.v2, .int .i64 h.v3, .int .i64 h.v4, .int .i64 h.v5, .int .i64 h.v6, .int .i64 h.v7] rfl rfl rfl (setRow_heap _ _ _ _ _ _ gB) rfl (hrow _)
end Go.Proofs.YtoopaigpjefonaaGreatDoor

namespace Go.Proofs.YtoopaigpjefonaaGreatDoor
set_option maxRecDepth 20000
open Go.RowKit Go.Maps

def newV : VS := ⟨[], [], []⟩
theorem heap_map_new (w : World) (o : Obj) : (w.alloc o).heap[w.heap.size]? = some o := (MapKept.heap_alloc w o).1
set_option maxHeartbeats 1000000 in
theorem newN_any (w : World) : Calls Tryz.prog 51 #[] w fun e w' => e = .returned (.pointer (some ⟨w.heap.size + 3, 0, none⟩)) ∧ w' = (((w.alloc (.map #[] 0)).alloc (.map #[] 0)).alloc (.map #[] 0)).alloc (.cells #[.map (some w.heap.size), .map (some (w.heap.size + 1)), .map (some (w.heap.size + 2))] 180) := by
  have hmm := @run_makeMap Tryz.prog
  go_enter Tryz.func51, Tryz.ntmps51
  go_wp2
  go_ret
  exact ⟨rfl, rfl⟩

theorem nums_alloc {α : Type} [DecidableEq α] {key : α → Value} {K : TypeId} {w : World} {b : Nat} {l : List α} (h : Nums key K w b l) (o : Obj) : Nums key K (w.alloc o) b l := h.keep (Below.heap_alloc w o b h.lt)
theorem ideal_lies (w : World) : Ideal (((((w.alloc (.map #[] 0)).alloc (.map #[] 0)).alloc (.map #[] 0)).alloc (.cells #[.map (some w.heap.size), .map (some (w.heap.size + 1)), .map (some (w.heap.size + 2))] 180)).alloc (.cells #[.iface 111 (.pointer (some ⟨w.heap.size + 3, 0, none⟩))] 105)) (fun k => w.heap.size ≤ k ∧ k < w.heap.size + 5) (w.heap.size + 4) newV := by
  have s1 : (w.alloc (.map #[] 0)).heap.size = w.heap.size + 1 := by simp
  have s2 : ((w.alloc (.map #[] 0)).alloc (.map #[] 0)).heap.size = w.heap.size + 2 := by simp
  have s3 : (((w.alloc (.map #[] 0)).alloc (.map #[] 0)).alloc (.map #[] 0)).heap.size = w.heap.size + 3 := by simp
  have s4 : ((((w.alloc (.map #[] 0)).alloc (.map #[] 0)).alloc (.map #[] 0)).alloc (.cells #[.map (some w.heap.size), .map (some (w.heap.size + 1)), .map (some (w.heap.size + 2))] 180)).heap.size = w.heap.size + 4 := by simp
  have n1 := Nums.made keyT 376 w
  have n2 := Nums.made keyM 385 (w.alloc (.map #[] 0))
  have n3 := Nums.made keyS 379 ((w.alloc (.map #[] 0)).alloc (.map #[] 0))
  rw [s1] at n2
  rw [s2] at n3
  refine ⟨w.heap.size + 3, w.heap.size, w.heap.size + 1, w.heap.size + 2, ?_, ?_, nums_alloc (nums_alloc (nums_alloc (nums_alloc n1 _) _) _) _, nums_alloc (nums_alloc (nums_alloc n2 _) _) _, nums_alloc (nums_alloc n3 _) _, by omega, by omega, by omega, by omega, by omega, by omega, by omega, by omega⟩
  · have := heap_map_new ((((w.alloc (.map #[] 0)).alloc (.map #[] 0)).alloc (.map #[] 0)).alloc (.cells #[.map (some w.heap.size), .map (some (w.heap.size + 1)), .map (some (w.heap.size + 2))] 180)) (.cells #[.iface 111 (.pointer (some ⟨w.heap.size + 3, 0, none⟩))] 105)
    rw [s4] at this
    exact this
  · have := heap_map_new (((w.alloc (.map #[] 0)).alloc (.map #[] 0)).alloc (.map #[] 0)) (.cells #[.map (some w.heap.size), .map (some (w.heap.size + 1)), .map (some (w.heap.size + 2))] 180)
    rw [s3] at this
    exact (Below.heap_alloc _ _ _ (by omega)).trans this
theorem ideal_any (w : World) : Calls Tryz.prog 20 #[] w fun e w' => ∃ B, e = .returned (.pointer (some ⟨B, 0, none⟩)) ∧ Ideal w' (fun k => w.heap.size ≤ k ∧ k < w'.heap.size) B newV ∧ Below w.heap.size w w' := by
  have HI : Hid _ := ideal_lies w
  have HB : Hid (Below w.heap.size w (((((w.alloc (.map #[] 0)).alloc (.map #[] 0)).alloc (.map #[] 0)).alloc (.cells #[.map (some w.heap.size), .map (some (w.heap.size + 1)), .map (some (w.heap.size + 2))] 180)).alloc (.cells #[.iface 111 (.pointer (some ⟨w.heap.size + 3, 0, none⟩))] 105))) :=
    (((((Below.refl w.heap.size w).alloc (Nat.le_refl _) _).alloc (by simp) _).alloc (by simp; omega) _).alloc (by simp; omega) _).alloc (by simp; omega) _
  go_enter Tryz.func20, Tryz.ntmps20
  go_wp2_with fail
  refine (newN_any w).mono ?_
  rintro e w1 ⟨rfl, rfl⟩
  go_wp2
  go_ret
  refine ⟨w.heap.size + 4, rfl, ?_, HB.out⟩
  refine Ideal.mono HI.out fun k _ h => ⟨h.1, ?_⟩
  have := h.2
  simp
  omega
theorem awake_1 : hashS newV ⟨#[120]⟩ = ⟨#[1, 0, 0, 0, 0, 0, 0, 0, 0, 0, 0, 0, 0, 0, 0, 0, 0, 0, 0, 0, 0, 0, 0, 0, 0, 0, 0, 0, 0, 0, 0, 0]⟩ := by decide
theorem awake_2 : hashS (hashP newV ⟨#[120]⟩) ⟨#[121]⟩ = ⟨#[2, 0, 0, 0, 0, 0, 0, 0, 0, 0, 0, 0, 0, 0, 0, 0, 0, 0, 0, 0, 0, 0, 0, 0, 0, 0, 0, 0, 0, 0, 0, 0]⟩ := by decide
theorem awake_3 : hashS (hashP (hashP newV ⟨#[120]⟩) ⟨#[121]⟩) ⟨#[120]⟩ = ⟨#[1, 0, 0, 0, 0, 0, 0, 0, 0, 0, 0, 0, 0, 0, 0, 0, 0, 0, 0, 0, 0, 0, 0, 0, 0, 0, 0, 0, 0, 0, 0, 0]⟩ := by decide
theorem awake_l : (hashP newV ⟨#[120]⟩).texts.length ≤ 1000000 ∧ (hashP (hashP newV ⟨#[120]⟩) ⟨#[121]⟩).texts.length ≤ 1000000 := by decide
end Go.Proofs.YtoopaigpjefonaaGreatDoor
