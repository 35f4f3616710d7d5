/- A block that is put, loaded, flushed, spoilt and loaded again: arithmetic; nothing of the program's calls. -/
import Derived.Test.YtdcooepeehamnaaGreatDoorMg39
import Derived.Test.YtdcooepeehamnaaGreatDoorBkLoad
import Derived.Test.YtdcooepeehamnaaGreatDoorPlNew
namespace Go.Proofs.YtdcooepeehamnaaGreatDoor
set_option maxRecDepth 20000
open Go.RowKit

theorem bget_alike (S : PS) (at_ : Int) : Alike S (bget S at_).2 := by
  unfold bget
  split
  · exact getGo_alike _ _ _ _ _ _
  · exact ⟨rfl, rfl, rfl, rfl⟩
theorem load_other (S : PS) (h : Hd) (s : ByteArray) (e : h.err = 0) (hs : s.size = 448) (b : Int) (hb : h.v1 ≠ b) : loadA S ⟨[], [], [h.four s]⟩ b = noneA := by
  unfold loadA
  rw [if_neg]
  rintro ⟨_, _, h3, h4⟩
  obtain ⟨h', s', e', hs', hn, he⟩ := (bopen_iff ⟨[], [], [h.four s]⟩ _ (by show (1 : Nat) ≤ _; omega)).1 h3
  have hn' : numOf [h.four s] (h'.four s') ≠ 0 := hn
  have e1 : h.four s = h'.four s' := by
    by_cases e : h.four s = h'.four s'
    · exact e
    · exact absurd (by simp [numOf, e]) hn'
  obtain ⟨rfl, rfl⟩ := four_inj e e' e1
  have h1 : numOf (VS.mk [] [] [h.four s]).seals (h.four s) = 1 := by simp [numOf]
  rw [h1] at he
  rw [he, (new_opens h s e hs).2.1] at h4
  exact hb h4
theorem load_whole (S : PS) (h : Hd) (s : ByteArray) (a : Nat) (e : h.err = 0) (hs : s.size = 448) (h1 : h.v1 = a) (hk : 8 * a + 8 ≤ S.kept.length) (hr : ∀ i, i < 8 → readE S ((8 * a + i : Nat) : Int) = 0 ∧ readS S ((8 * a + i : Nat) : Int) = secS (blkS h s 1) i) : loadA S ⟨[], [], [h.four s]⟩ a = readA true h s := by
  have hsz := blk_size (n := 1) e hs (by decide)
  have hB : bhasB S a = true := by simp [bhasB]; omega
  have hg : (bget S a).1 = (blkS h s 1, 0, 0) := by
    unfold bget
    rw [if_pos hB, Int.toNat_natCast, getGo_all a (blkS h s 1) 8 0 S ⟨#[]⟩ 0 fun i _ hi => hr i (by omega)]
    show ((⟨#[]⟩ : ByteArray) ++ (blkS h s 1).extract 0 512, _, _) = _
    rw [← hsz, ByteArray.extract_zero_size]
    exact congrArg (fun x => (x, 0, 0)) ByteArray.empty_append
  obtain ⟨o1, o2, o3⟩ := new_opens h s e hs
  unfold loadA
  rw [hg, if_pos ⟨rfl, rfl, o1, by rw [o2, h1]⟩, o2, o3]
theorem load_spoilt (S : PS) (V : VS) (a : Nat) (hk : 8 * a + 8 ≤ S.kept.length) (hr : ∀ i, i < 8 → readE S ((8 * a + i : Nat) : Int) = 0 ∨ readE S ((8 * a + i : Nat) : Int) = 21) (j : Nat) (hj : j < 8) (hE : readE S ((8 * a + j : Nat) : Int) = 21) : loadA S V a = noneA := by
  have hB : bhasB S a = true := by simp [bhasB]; omega
  have hg : (bget S a).1 = (getGo a 8 0 S ⟨#[]⟩ 0).1 := by
    unfold bget
    rw [if_pos hB, Int.toNat_natCast]
  have hm := (getGo_mask a 8 0 S ⟨#[]⟩ 0 fun i _ hi => hr i (by omega)).2.2 ⟨j, by omega, by omega, hE⟩
  unfold loadA
  rw [if_neg]
  rintro ⟨_, h2, _⟩
  rw [hg] at h2
  omega
theorem fill64 : (fillS 0 64).size = 64 := fillS_size 0 64
theorem put_new (r : ByteArray) (a : Nat) (ha : a < 10) (hr : r.size = 512) : bputE (newP 80) a r = 0 ∧ ∃ w', bputP (newP 80) a r = { newP 80 with writes := w', wait := secsW r a 0 8 } := by
  have hl : (newP 80).kept.length = 80 := by simp [newP]
  have hB : bhasB (newP 80) a = true := by simp [bhasB, hl]; omega
  obtain ⟨w', h'⟩ := putGo_all r a hr 8 0 (newP 80) (by omega) rfl rfl (by omega)
  refine ⟨?_, w', ?_⟩
  · unfold bputE
    rw [if_pos hr, if_pos hB, Int.toNat_natCast, h']
  · unfold bputP
    rw [if_pos hr, if_pos hB, Int.toNat_natCast, h']
    rfl
/-- The device behind Put. -/
def Was (r : ByteArray) (a : Nat) (S : PS) : Prop := S.up = true ∧ S.kept = (newP 80).kept ∧ S.wait = secsW r a 0 8
theorem Was.alike {r : ByteArray} {a : Nat} {S S' : PS} (h : Was r a S) (k : Alike S S') : Was r a S' := ⟨k.1.trans h.1, k.2.1.trans h.2.1, k.2.2.1.trans h.2.2⟩
theorem Was.reads {r : ByteArray} {a : Nat} {S : PS} (h : Was r a S) (ha : a < 10) (i : Nat) (hi : i < 8) : readE S ((8 * a + i : Nat) : Int) = 0 ∧ readS S ((8 * a + i : Nat) : Int) = secS r i := by
  have hl : S.kept.length = 80 := by rw [h.2.1]; simp [newP]
  have hh : hasB S ((8 * a + i : Nat) : Int) = true := by simp [hasB]; omega
  have ht : textOf S.wait (8 * a + i) = some (secS r i) := by rw [h.2.2, textOf_secs, if_pos (by omega)]
  unfold readE readS
  rw [if_pos h.1, if_pos hh, if_pos h.1, if_pos hh]
  simp only [Int.toNat_natCast, ht]
  exact ⟨rfl, rfl⟩
theorem secsW_length (r : ByteArray) (a : Nat) : ∀ n j, (secsW r a j n).length = n
  | 0, _ => rfl
  | n + 1, j => by simp [secsW, secsW_length r a n (j + 1)]
theorem back_spoilt (h : Hd) (s : ByteArray) (a sp : Nat) (ha : a < 10) (hsp : sp < 80) (e : h.err = 0) (hs : s.size = 448) (h1 : h.v1 = a) (S : PS) (hS : Was (blkS h s 1) a S) : loadA (spoilP (flushP S) (sp : Nat)) ⟨[], [], [h.four s]⟩ a = if sp / 8 = a then noneA else readA true h s := by
  have hsz := blk_size (n := 1) e hs (by decide)
  have hl : S.kept.length = 80 := by rw [hS.2.1]; simp [newP]
  have hf := fun i (hi : i < 80) => flush_kept S hS.1 i (by omega)
  have hfl := (hf 0 (by omega)).2.2.2
  have hq := fun i => spoil_kept (flushP S) sp (by omega) i
  have hup : (spoilP (flushP S) (sp : Nat)).up = true := (hq 0).2.1.trans (hf 0 (by omega)).2.1
  have hwt : (spoilP (flushP S) (sp : Nat)).wait = [] := (hq 0).2.2.trans (hf 0 (by omega)).2.2.1
  have hk : ∀ i, i < 80 → (spoilP (flushP S) (sp : Nat)).kept[i]? = some (if i = sp then ByteArray.empty else (textOf S.wait i).getD (fillS 0 64)) := fun i hi => by
    rw [(hq i).1, (hf i hi).1]
    have : S.kept[i]'(by omega) = fillS 0 64 := by
      have : S.kept[i]? = some (fillS 0 64) := by rw [hS.2.1]; exact List.getElem?_replicate_of_lt hi
      rw [List.getElem?_eq_getElem (by omega)] at this
      exact Option.some.inj this
    rw [this]
    split <;> rfl
  have hkl : 80 ≤ (spoilP (flushP S) (sp : Nat)).kept.length := by
    have := (List.getElem?_eq_some_iff.1 (hk 79 (by omega))).1
    omega
  have hrd := fun i (hi : i < 80) => kept_reads _ hup hwt i _ (hk i hi)
  have hsec : ∀ i, i < 8 → (secS (blkS h s 1) i).size = 64 := fun i hi => by simp [secS, hsz]; omega
  have hte : ∀ i, i < 8 → (textOf S.wait (8 * a + i)).getD (fillS 0 64) = secS (blkS h s 1) i := fun i hi => by
    rw [hS.2.2, textOf_secs, if_pos (by omega)]
    rfl
  by_cases hc : sp / 8 = a
  · rw [if_pos hc]
    refine load_spoilt _ _ a (by omega) (fun i hi => ?_) (sp % 8) (Nat.mod_lt _ (by decide)) ?_
    · have := (hrd (8 * a + i) (by omega)).1
      rw [this]
      generalize (if 8 * a + i = sp then ByteArray.empty else (textOf S.wait (8 * a + i)).getD (fillS 0 64)).size = z
      by_cases h0 : z = 0
      · exact .inr (if_pos h0)
      · exact .inl (if_neg h0)
    · have := (hrd (8 * a + sp % 8) (by omega)).1
      rw [this, if_pos (show 8 * a + sp % 8 = sp by omega)]
      rfl
  · rw [if_neg hc]
    refine load_whole _ h s a e hs h1 (by omega) fun i hi => ?_
    obtain ⟨r1, r2⟩ := hrd (8 * a + i) (by omega)
    rw [if_neg (show ¬ 8 * a + i = sp by omega), hte i hi] at r1 r2
    rw [if_neg (by rw [hsec i hi]; decide)] at r1
    exact ⟨r1, r2⟩
end Go.Proofs.YtdcooepeehamnaaGreatDoor
