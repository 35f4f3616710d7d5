/- Numbers in the same widths, and entries, that are laid as the same bytes are the same. -/
import Derived.Test.YtlcadhojfnanfaaDoorWrMath
import Derived.Test.YtlcadhojfnanfaaDoorLeVal
namespace Go.Proofs.YtlcadhojfnanfaaDoor
set_option maxRecDepth 20000
open Go.RowKit Go.Lib

theorem putS_val {n k : Int} (h : putE n k = 0) : leVal (putS n k).data.toList = n := by
  unfold putE at h
  split at h
  · omega
  split at h
  · omega
  unfold putS
  rw [if_pos (by omega)]
  exact leVal_leI k.toNat n (by omega) (by omega)
theorem putS_inj {a b k : Int} (ha : putE a k = 0) (hb : putE b k = 0) (h : (putS a k).data.toList = (putS b k).data.toList) : a = b := by
  rw [← putS_val ha, ← putS_val hb, h]
theorem laidL_inj : ∀ (ps qs : List (Int × Int)), ps.map (·.2) = qs.map (·.2) → laidOk ps = true → laidOk qs = true → laidL ps = laidL qs → ps = qs
  | [], [], _, _, _, _ => rfl
  | [], q :: r, h, _, _, _ => by simp at h
  | p :: r, [], h, _, _, _ => by simp at h
  | p :: r, q :: t, h, hp, hq, hl => by
    simp only [List.map_cons, List.cons.injEq] at h
    simp only [laidOk, Bool.and_eq_true, beq_iff_eq] at hp hq
    rw [laidL, laidL] at hl
    have hk : (putS p.1 p.2).data.toList.length = (putS q.1 q.2).data.toList.length := by rw [putS_size hp.1, putS_size hq.1, h.1]
    obtain ⟨h1, h2⟩ := List.append_inj hl hk
    have e1 : p.1 = q.1 := putS_inj (k := q.2) (by rw [← h.1]; exact hp.1) hq.1 (by rw [← h1, h.1])
    rw [laidL_inj r t h.2 hp.2 hq.2 h2, show p = q from Prod.ext e1 h.1]
theorem recE_zero {ps : List (Int × Int)} (h : recE ps = 0) : laidOk ps = true := by
  unfold recE at h
  split at h
  · assumption
  · omega
theorem ba_inj {l m : List UInt8} (h : (⟨l.toArray⟩ : ByteArray) = ⟨m.toArray⟩) : l = m := by
  have := congrArg (fun b : ByteArray => b.data.toList) h
  simpa using this
theorem recS_inj {pre pre' : List UInt8} {ps qs : List (Int × Int)} {z : Nat} (hw : ps.map (·.2) = qs.map (·.2)) (hpre : pre.length = pre'.length) (hp : laidOk ps = true) (hq : laidOk qs = true) (h : recS pre ps z = recS pre' qs z) : pre = pre' ∧ ps = qs := by
  rw [recS_ok hp, recS_ok hq] at h
  have h1 := ba_inj h
  have h2 := List.append_cancel_right h1
  obtain ⟨h3, h4⟩ := List.append_inj h2 hpre
  exact ⟨h3, laidL_inj ps qs hw hp hq h4⟩
theorem entE_zero {s : ByteArray} {a1 a2 : Int} (h : entE s a1 a2 = 0) : s.size ≤ 19 ∧ entFree s a1 a2 = true ∧ laidOk (entPs a1 a2) = true := by
  unfold entE at h
  split at h
  · split at h
    · exact ⟨by assumption, by assumption, recE_zero h⟩
    · omega
  · omega
theorem entPre_length {s : ByteArray} (h : s.size ≤ 19) : (entPre s).length = 20 := by
  unfold entPre
  rw [List.length_append, List.length_append, (entLen h).2, List.length_replicate, show s.data.toList.length = s.size by simp]
  omega
theorem entS_inj {s t : ByteArray} {a1 a2 b1 b2 : Int} (hs : entE s a1 a2 = 0) (ht : entE t b1 b2 = 0) (h : entS s a1 a2 = entS t b1 b2) : s = t ∧ a1 = b1 ∧ a2 = b2 := by
  obtain ⟨s1, s2, s3⟩ := entE_zero hs
  obtain ⟨t1, t2, t3⟩ := entE_zero ht
  unfold entS at h
  rw [if_pos ⟨s1, s2⟩, if_pos ⟨t1, t2⟩] at h
  obtain ⟨h1, h2⟩ := recS_inj (pre := entPre s) (pre' := entPre t) (ps := entPs a1 a2) (qs := entPs b1 b2) (z := 0) rfl (by rw [entPre_length s1, entPre_length t1]) s3 t3 h
  have h3 : s = t := by
    unfold entPre at h1
    rw [List.append_assoc, List.append_assoc] at h1
    obtain ⟨e1, e2⟩ := List.append_inj h1 (by rw [(entLen s1).2, (entLen t1).2])
    have e3 : (s.size : Int) = t.size := putS_inj (k := 1) (entLen s1).1 (entLen t1).1 e1
    obtain ⟨e4, _⟩ := List.append_inj e2 (by simp; omega)
    apply ByteArray.ext
    exact Array.toList_inj.1 e4
  unfold entPs at h2
  simp only [List.cons.injEq, Prod.mk.injEq, and_true] at h2
  exact ⟨h3, h2.1, h2.2⟩
end Go.Proofs.YtlcadhojfnanfaaDoor
