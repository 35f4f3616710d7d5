/- What is opened was sealed: one seal more, and what is asked. -/
import Derived.Test.YtfmaajfohieneaaVtCut
namespace Go.Proofs.Ytfmaajfohieneaa
open Go.RowKit

theorem ext_app_left (a b : ByteArray) : (a ++ b).extract 0 a.size = a := by
  apply ByteArray.ext
  simp [ByteArray.data_append, ByteArray.data_extract]
theorem ext_app_right (a b : ByteArray) : (a ++ b).extract a.size (a ++ b).size = b := by
  apply ByteArray.ext
  simp [ByteArray.data_append, ByteArray.data_extract]
  have h1 : a.data.extract a.size (a.size + b.size) = #[] := Array.extract_empty_of_size_le_start (Nat.le_refl a.data.size)
  have h2 : b.data.extract 0 b.size = b.data := Array.extract_size
  rw [h1, h2]
  simp
theorem head_app {a b : ByteArray} (h : b.size = 16) : headS (a ++ b) = a := by
  unfold headS
  have : (a ++ b).size - 16 = a.size := by rw [ByteArray.size_append]; omega
  rw [this]
  exact ext_app_left a b
theorem tag_app {a b : ByteArray} (h : b.size = 16) : tagS16 (a ++ b) = b := by
  unfold tagS16
  have : (a ++ b).size - 16 = a.size := by rw [ByteArray.size_append]; omega
  rw [this]
  exact ext_app_right a b
theorem head_tag {s : ByteArray} : headS s ++ tagS16 s = s := by
  unfold headS tagS16
  apply ByteArray.ext
  have h2 : s.data.size = s.size := rfl
  simp only [ByteArray.data_append, ByteArray.data_extract]
  rw [Array.extract_append_extract]
  simp [h2]
/-- What a question at what was sealed finds. -/
def askO (L : List Four) (z : Int) (n a q : ByteArray) : Bool := fitB z n && (decide (16 ≤ q.size) && openB ⟨[], [], L⟩ z n a q)
theorem openE_iff (L : List Four) (z : Int) (n a q : ByteArray) : (openE ⟨[], [], L⟩ z n a q == 0) = askO L z n a q := by
  unfold openE askO
  cases fitB z n
  · rfl
  · by_cases h : q.size < 16
    · have : ¬ 16 ≤ q.size := by omega
      simp [h, this]
    · have : 16 ≤ q.size := by omega
      simp only [if_true, h, if_false, this, decide_true, Bool.true_and]
      cases openB ⟨[], [], L⟩ z n a q <;> rfl
/-- The sealed text. -/
def sealT (L : List Four) (x : Four) : ByteArray := x.text ++ wideS (numOf (addN L x) x) 16
theorem sealT_tag (L : List Four) (x : Four) (hL : L.length ≤ 1000000) : (wideS (numOf (addN L x) x) 16).size = 16 := by
  have := numOf_le x (addN L x)
  have := addN_length L x
  exact wideS_size (by omega) (by decide)
theorem askO_step (L : List Four) (hL : L.length ≤ 1000000) (z : Int) (n a s : ByteArray) (hf : fitB z n = true) (qz : Int) (qn qa q : ByteArray) :
    askO (addN L ⟨z, n, a, s⟩) qz qn qa q = (askO L qz qn qa q || (decide (z = qz) && (decide (n = qn) && (decide (a = qa) && decide (sealT L ⟨z, n, a, s⟩ = q))))) := by
  have ht := sealT_tag L ⟨z, n, a, s⟩ hL
  have hts : 16 ≤ (sealT L ⟨z, n, a, s⟩).size := by unfold sealT; rw [ByteArray.size_append]; omega
  by_cases hq : fitB qz qn = true
  case neg =>
    have hne : ¬ (z = qz ∧ n = qn) := fun h => hq (by rw [← h.1, ← h.2]; exact hf)
    have hq' : fitB qz qn = false := by simpa using hq
    unfold askO
    rw [hq']
    by_cases h1 : z = qz
    · have h2 : ¬ n = qn := fun h => hne ⟨h1, h⟩
      simp [h2]
    · simp [h1]
  by_cases h16 : 16 ≤ q.size
  case neg =>
    have hne : ¬ sealT L ⟨z, n, a, s⟩ = q := fun h => h16 (by rw [← h]; exact hts)
    unfold askO
    simp [h16, hne]
  have hL' : (addN L ⟨z, n, a, s⟩).length ≤ 1000001 := Nat.le_trans (addN_length _ _) (by omega)
  unfold askO openB
  simp only [hq, h16, decide_true, Bool.true_and]
  by_cases e : (⟨z, n, a, s⟩ : Four) = ⟨qz, qn, qa, headS q⟩
  · obtain ⟨rfl, rfl, rfl, hs⟩ := Four.mk.inj e
    subst hs
    have hp := numOf_add_pos L ⟨z, n, a, headS q⟩
    have hT : (sealT L ⟨z, n, a, headS q⟩ = q) = (tagS16 q = wideS (numOf (addN L ⟨z, n, a, headS q⟩) ⟨z, n, a, headS q⟩) 16) := by
      apply propext
      constructor
      · intro h
        have h2 := congrArg tagS16 h
        rw [sealT, tag_app ht] at h2
        exact h2.symm
      · intro h
        rw [sealT, ← h]
        exact head_tag
    by_cases h0 : numOf L ⟨z, n, a, headS q⟩ = 0
    · simp [h0, hp, hT]
    · simp only [numOf_add_keeps _ h0] at hT hp ⊢
      simp [h0, hT]
  · rw [numOf_add_other e]
    have hne : ¬ (z = qz ∧ n = qn ∧ a = qa ∧ sealT L ⟨z, n, a, s⟩ = q) := fun h => e (by
      obtain ⟨rfl, rfl, rfl, rfl⟩ := h
      rw [sealT, head_app ht])
    by_cases h1 : z = qz
    · by_cases h2 : n = qn
      · by_cases h3 : a = qa
        · have h4 : ¬ sealT L ⟨z, n, a, s⟩ = q := fun h => hne ⟨h1, h2, h3, h⟩
          simp [h4]
        · simp [h3]
      · simp [h2]
    · simp [h1]
/-- What was sealed is opened. -/
theorem open_sealed (L : List Four) (hL : L.length ≤ 1000000) (z : Int) (n a s : ByteArray) (hf : fitB z n = true) :
    openS ⟨[], [], addN L ⟨z, n, a, s⟩⟩ z n a (sealT L ⟨z, n, a, s⟩) = s ∧ openE ⟨[], [], addN L ⟨z, n, a, s⟩⟩ z n a (sealT L ⟨z, n, a, s⟩) = 0 := by
  have ht := sealT_tag L ⟨z, n, a, s⟩ hL
  have hp := numOf_add_pos L ⟨z, n, a, s⟩
  have hts : ¬ (sealT L ⟨z, n, a, s⟩).size < 16 := by unfold sealT; rw [ByteArray.size_append]; omega
  have hh : headS (sealT L ⟨z, n, a, s⟩) = s := head_app ht
  have hg : tagS16 (sealT L ⟨z, n, a, s⟩) = wideS (numOf (addN L ⟨z, n, a, s⟩) ⟨z, n, a, s⟩) 16 := tag_app ht
  have ho : openB ⟨[], [], addN L ⟨z, n, a, s⟩⟩ z n a (sealT L ⟨z, n, a, s⟩) = true := by
    unfold openB
    rw [hh, hg]
    simp [hp]
  unfold openS openE
  rw [hf, ho, hh]
  simp [hts]
end Go.Proofs.Ytfmaajfohieneaa
