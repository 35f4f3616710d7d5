/- Names and paths as lists of bytes: which errors, which names, which path. -/
import Derived.Test.YtlcadhojfnanfaaDoorProg
import Derived.Lib.SplitLaws
namespace Go.Proofs.YtlcadhojfnanfaaDoor
set_option maxRecDepth 20000

/-- A byte that may stand in a name. -/
def okC (c : UInt8) : Bool := decide (33 ≤ c.toNat ∧ c.toNat ≤ 126 ∧ c.toNat ≠ 47)
/-- Name's answer. -/
def nmL (l : List UInt8) : Int := if 19 < l.length then 4 else if l = [] ∨ l = [46] ∨ l = [46, 46] then 40 else if l.all okC then 0 else 40
theorem nm_parts {l : List UInt8} (h : nmL l = 0) : l.length ≤ 19 ∧ l ≠ [] ∧ l.all okC = true := by
  unfold nmL at h
  split at h
  · cases h
  · split at h
    · cases h
    · rename_i h1 h2
      split at h
      · rename_i h3
        exact ⟨by omega, fun e => h2 (.inl e), h3⟩
      · cases h
theorem nm_slash {l : List UInt8} (h : nmL l = 0) : (47 : UInt8) ∉ l := fun hm => by
  have := List.all_eq_true.1 (nm_parts h).2.2 47 hm
  exact absurd this (by decide)
/-- A byte ahead of the first piece. -/
def consH (c : UInt8) : List (List UInt8) → List (List UInt8)
  | [] => [[c]]
  | p :: ps => (c :: p) :: ps
/-- What stands between slashes. -/
def cutL : List UInt8 → List (List UInt8)
  | [] => [[]]
  | c :: l => if c = 47 then [] :: cutL l else consH c (cutL l)
theorem cutL_ne : ∀ l, cutL l ≠ []
  | [] => by simp [cutL]
  | c :: l => by
    unfold cutL
    split
    · simp
    · cases h : cutL l <;> simp [consH]
theorem cutL_slash (l : List UInt8) : cutL (47 :: l) = [] :: cutL l := by rw [cutL, if_pos rfl]
theorem cutL_cons {c : UInt8} (h : c ≠ 47) (l : List UInt8) : cutL (c :: l) = consH c (cutL l) := by rw [cutL, if_neg h]
open Go.Lib in
theorem splitK_cut : ∀ l : List UInt8, splitK [47] 0 (count l [47]) l = cutL l
  | [] => by
    have : index ([] : List UInt8) [47] = -1 := by simp [index]
    rw [count_miss this]
    rfl
  | c :: l => by
    have ih := splitK_cut l
    by_cases h : c = 47
    · subst h
      rw [count_cons_eq, cutL_slash, Nat.add_comm, splitK]
      have hix : index (47 :: l) [47] = 0 := by rw [index]; simp [List.isPrefixOf]
      rw [hix, if_neg (by decide)]
      simpa using ih
    · have hp : ([47] : List UInt8).isPrefixOf (c :: l) = false := by simp [List.isPrefixOf, Ne.symm h]
      have hix : index (c :: l) [47] = if index l [47] == -1 then -1 else index l [47] + 1 := by rw [index, hp]; simp
      rw [count_cons_ne c 47 l h, cutL_cons h, ← ih]
      by_cases hm : index l [47] = -1
      · rw [count_miss hm]
        rfl
      · have hge := index_ge l [47]
        obtain ⟨j, hj⟩ : ∃ j : Nat, index l [47] = j := ⟨(index l [47]).toNat, by omega⟩
        obtain ⟨k, hk⟩ : ∃ k, count l [47] = k + 1 := ⟨_, by rw [count_hit (by simp) hj, Nat.add_comm]⟩
        have hc : ¬ (index l [47] == -1) = true := fun e => hm (beq_iff_eq.1 e)
        rw [hk, splitK, splitK, hix, if_neg hc, if_neg hc, if_neg (by rw [beq_iff_eq]; omega), hj]
        have e1 : ((j : Int) + 1).toNat = j + 1 := by omega
        have e2 : ((j : Nat) : Int).toNat = j := by omega
        rw [e1, e2]
        rfl
theorem consH_append (c : UInt8) (a b : List (List UInt8)) (h : a ≠ []) : consH c (a ++ b) = consH c a ++ b := by
  cases a with
  | nil => exact absurd rfl h
  | cons p ps => rfl
theorem cutL_append : ∀ x y : List UInt8, cutL (x ++ 47 :: y) = cutL x ++ cutL y
  | [], y => by rw [List.nil_append, cutL_slash]; rfl
  | c :: x, y => by
    by_cases h : c = 47
    · subst h
      rw [List.cons_append, cutL_slash, cutL_slash, cutL_append x y, List.cons_append]
    · rw [List.cons_append, cutL_cons h, cutL_cons h, cutL_append x y, consH_append _ _ _ (cutL_ne x)]
theorem cutL_name : ∀ p : List UInt8, (47 : UInt8) ∉ p → cutL p = [p]
  | [], _ => rfl
  | c :: p, h => by
    have h1 : c ≠ 47 := fun e => h (by rw [e]; exact List.mem_cons_self)
    rw [cutL_cons h1, cutL_name p fun hm => h (List.mem_cons_of_mem _ hm)]
    rfl
/-- A beginning ahead of the first piece. -/
def prep (p : List UInt8) : List (List UInt8) → List (List UInt8)
  | [] => [p]
  | q :: qs => (p ++ q) :: qs
theorem prep_nil {l : List (List UInt8)} (h : l ≠ []) : prep [] l = l := by
  cases l with
  | nil => exact absurd rfl h
  | cons q qs => rfl
theorem prep_cons (p : List UInt8) (c : UInt8) {l : List (List UInt8)} (h : l ≠ []) : prep p (consH c l) = prep (p ++ [c]) l := by
  cases l with
  | nil => exact absurd rfl h
  | cons q qs => simp [prep, consH]
/-- The first error of these, from the left. -/
def fstE : List (List UInt8) → Int
  | [] => 0
  | p :: ps => if nmL p = 0 then fstE ps else nmL p
theorem fstE_ok : ∀ {l : List (List UInt8)}, (∀ p ∈ l, nmL p = 0) → fstE l = 0
  | [], _ => rfl
  | p :: ps, h => by
    rw [fstE, if_pos (h p List.mem_cons_self)]
    exact fstE_ok fun q hq => h q (List.mem_cons_of_mem _ hq)
theorem fstE_zero : ∀ {l : List (List UInt8)}, fstE l = 0 → ∀ p ∈ l, nmL p = 0
  | [], _, p, hp => by cases hp
  | q :: qs, h, p, hp => by
    rw [fstE] at h
    split at h
    · rename_i h0
      rcases List.mem_cons.1 hp with rfl | hp
      · exact h0
      · exact fstE_zero h p hp
    · exact absurd h (by assumption)
theorem fstE_bad {a : List (List UInt8)} {p : List UInt8} {b : List (List UInt8)} (ha : ∀ q ∈ a, nmL q = 0) (hp : nmL p ≠ 0) : fstE (a ++ p :: b) = nmL p := by
  induction a with
  | nil => rw [List.nil_append, fstE, if_neg hp]
  | cons q qs ih =>
    rw [List.cons_append, fstE, if_pos (ha q List.mem_cons_self)]
    exact ih fun r hr => ha r (List.mem_cons_of_mem _ hr)
/-- Split's error, and its names. -/
def spE (l : List UInt8) : Int := if 255 < l.length then 4 else if l.head? = some 47 then (if l.length = 1 then 0 else fstE (cutL l.tail)) else 40
def spL (l : List UInt8) : List (List UInt8) := if spE l = 0 ∧ l.length ≠ 1 then cutL l.tail else []
theorem sp_long {l : List UInt8} (h : 255 < l.length) : spE l = 4 ∧ spL l = [] := by
  have e : spE l = 4 := by unfold spE; rw [if_pos h]
  exact ⟨e, by unfold spL; rw [if_neg (by rw [e]; simp)]⟩
theorem sp_bare {l : List UInt8} (h : ¬ 255 < l.length) (h2 : ¬ l.head? = some 47) : spE l = 40 ∧ spL l = [] := by
  have e : spE l = 40 := by unfold spE; rw [if_neg h, if_neg h2]
  exact ⟨e, by unfold spL; rw [if_neg (by rw [e]; simp)]⟩
theorem sp_root : spE [47] = 0 ∧ spL [47] = [] := ⟨by decide, by decide⟩
theorem sp_else {x : List UInt8} (h : ¬ 255 < (47 :: x).length) (h2 : x ≠ []) : spE (47 :: x) = fstE (cutL x) ∧ spL (47 :: x) = if fstE (cutL x) = 0 then cutL x else [] := by
  have h3 : ¬ (47 :: x).length = 1 := fun e => h2 (List.eq_nil_of_length_eq_zero (by simpa using e))
  have e : spE (47 :: x) = fstE (cutL x) := by unfold spE; rw [if_neg h, if_pos (show (47 :: x).head? = some 47 from rfl), if_neg h3]; rfl
  refine ⟨e, ?_⟩
  unfold spL
  rw [e]
  by_cases h4 : fstE (cutL x) = 0
  · rw [if_pos ⟨h4, h3⟩, if_pos h4]; rfl
  · rw [if_neg fun k => h4 k.1, if_neg h4]
/-- What a path that is taken looks like. -/
theorem sp_form {l : List UInt8} (h : spE l = 0) : l.length ≤ 255 ∧ ∃ x, l = 47 :: x ∧ (x = [] ∧ spL l = [] ∨ x ≠ [] ∧ spL l = cutL x ∧ ∀ p ∈ cutL x, nmL p = 0) := by
  by_cases h1 : 255 < l.length
  · rw [(sp_long h1).1] at h; cases h
  · by_cases h2 : l.head? = some 47
    · refine ⟨by omega, ?_⟩
      cases l with
      | nil => cases h2
      | cons c x =>
        obtain rfl : c = 47 := by simpa using h2
        refine ⟨x, rfl, ?_⟩
        by_cases h3 : x = []
        · subst h3; exact .inl ⟨rfl, sp_root.2⟩
        · have k := sp_else h1 h3
          rw [k.1] at h
          exact .inr ⟨h3, by rw [k.2, if_pos h], fstE_zero h⟩
    · rw [(sp_bare h1 h2).1] at h; cases h
/-- The path of names. -/
def jnL (l : List (List UInt8)) : List UInt8 := l.flatMap (47 :: ·)
theorem jnL_cons (p : List UInt8) (l : List (List UInt8)) : jnL (p :: l) = 47 :: (p ++ jnL l) := by simp [jnL]
theorem jnL_consH (c : UInt8) {l : List (List UInt8)} (h : l ≠ []) : jnL (consH c l) = 47 :: c :: (jnL l).tail := by
  cases l with
  | nil => exact absurd rfl h
  | cons p ps => simp [consH, jnL_cons]
theorem jnL_cut : ∀ x : List UInt8, jnL (cutL x) = 47 :: x
  | [] => rfl
  | c :: x => by
    by_cases h : c = 47
    · subst h; rw [cutL_slash, jnL_cons, jnL_cut x]; rfl
    · rw [cutL_cons h, jnL_consH c (cutL_ne x), jnL_cut x]; rfl
theorem cut_jnL : ∀ (l : List (List UInt8)), l ≠ [] → (∀ p ∈ l, (47 : UInt8) ∉ p) → cutL (jnL l).tail = l
  | [], h, _ => absurd rfl h
  | [p], _, h => by
    rw [jnL_cons]
    simp only [List.tail_cons]
    rw [show jnL [] = [] from rfl, List.append_nil]
    exact cutL_name p (h p (by simp))
  | p :: q :: l, _, h => by
    have ih := cut_jnL (q :: l) (by simp) fun r hr => h r (List.mem_cons_of_mem _ hr)
    rw [jnL_cons, jnL_cons]
    rw [jnL_cons] at ih
    simp only [List.tail_cons] at ih ⊢
    rw [cutL_append, ih, cutL_name p (h p List.mem_cons_self)]
    rfl
/-- Join: from what has been joined on. -/
def jnGo (a : List UInt8) : List (List UInt8) → List UInt8 × Int
  | [] => (a, 0)
  | p :: ps => if nmL p = 0 then (if 255 < (a ++ 47 :: p).length then ([], 4) else jnGo (a ++ 47 :: p) ps) else ([], nmL p)
def jn (l : List (List UInt8)) : List UInt8 × Int := if l = [] then ([47], 0) else jnGo [] l
theorem jnGo_all : ∀ (l : List (List UInt8)) (a : List UInt8), (∀ p ∈ l, nmL p = 0) → (a ++ jnL l).length ≤ 255 → jnGo a l = (a ++ jnL l, 0)
  | [], a, _, _ => by simp [jnGo, jnL]
  | p :: ps, a, h, hl => by
    rw [jnL_cons] at hl ⊢
    have e : a ++ 47 :: (p ++ jnL ps) = (a ++ 47 :: p) ++ jnL ps := by simp
    rw [e] at hl ⊢
    have hs : (a ++ 47 :: p).length ≤ 255 := by rw [List.length_append] at hl; omega
    rw [jnGo, if_pos (h p List.mem_cons_self), if_neg (by omega)]
    exact jnGo_all ps _ (fun q hq => h q (List.mem_cons_of_mem _ hq)) hl
theorem jnGo_ok : ∀ (l : List (List UInt8)) (a : List UInt8), (jnGo a l).2 = 0 → a.length ≤ 255 → (∀ p ∈ l, nmL p = 0) ∧ (jnGo a l).1 = a ++ jnL l ∧ (a ++ jnL l).length ≤ 255
  | [], a, _, ha => by
    refine ⟨fun p hp => ?_, by simp [jnGo, jnL], by simpa [jnL] using ha⟩
    cases hp
  | p :: ps, a, h, _ => by
    rw [jnGo] at h ⊢
    split at h
    · rename_i hp
      rw [if_pos hp]
      split at h
      · cases h
      · rename_i hl
        rw [if_neg hl]
        have ih := jnGo_ok ps _ h (by omega)
        refine ⟨fun q hq => ?_, ?_, ?_⟩
        · rcases List.mem_cons.1 hq with rfl | hq
          · exact hp
          · exact ih.1 q hq
        · rw [ih.2.1, jnL_cons]; simp
        · have := ih.2.2; rw [jnL_cons]; simpa using this
    · rename_i hp; exact absurd h hp
/-- What is split is joined to the same path. -/
theorem jn_sp {l : List UInt8} (h : spE l = 0) : jn (spL l) = (l, 0) := by
  obtain ⟨h1, x, rfl, ⟨rfl, h3⟩ | ⟨h2, h3, h4⟩⟩ := sp_form h
  · rw [h3]; rfl
  · rw [h3, jn, if_neg (cutL_ne x), jnGo_all _ _ h4 (by rw [List.nil_append, jnL_cut]; exact h1), List.nil_append, jnL_cut]
/-- What is joined is split to the same names. -/
theorem sp_jn {l : List (List UInt8)} (h : (jn l).2 = 0) : spE (jn l).1 = 0 ∧ spL (jn l).1 = l := by
  by_cases h0 : l = []
  · subst h0; exact sp_root
  · unfold jn at h ⊢
    rw [if_neg h0] at h ⊢
    obtain ⟨h1, h2, h3⟩ := jnGo_ok l [] h (by simp)
    rw [h2, List.nil_append]
    rw [List.nil_append] at h3
    have hc := cut_jnL l h0 fun p hp => nm_slash (h1 p hp)
    cases l with
    | nil => exact absurd rfl h0
    | cons p ps =>
      rw [jnL_cons] at h3 hc ⊢
      simp only [List.tail_cons] at hc
      have hne : p ++ jnL ps ≠ [] := by
        have := (nm_parts (h1 p List.mem_cons_self)).2.1
        simp [this]
      have k := sp_else (by omega) hne
      rw [hc, fstE_ok h1, if_pos rfl] at k
      exact k
/-- A name behind a path. -/
theorem sp_below {x y : List UInt8} (hx : x ≠ []) (h : spE (47 :: x) = 0) (h2 : spE (47 :: (x ++ 47 :: y)) = 0) : ∃ r, r ≠ [] ∧ spL (47 :: (x ++ 47 :: y)) = spL (47 :: x) ++ r := by
  obtain ⟨_, x', e, ⟨rfl, h3⟩ | ⟨_, h3, _⟩⟩ := sp_form h
  · exact absurd (List.cons.inj e).2 hx
  · obtain rfl := (List.cons.inj e).2
    obtain ⟨_, z, e2, ⟨rfl, h5⟩ | ⟨_, h5, _⟩⟩ := sp_form h2
    · have := (List.cons.inj e2).2
      simp at this
    · obtain rfl := (List.cons.inj e2).2
      exact ⟨cutL y, cutL_ne y, by rw [h5, h3, cutL_append]⟩
/-- A text of one byte, so many times. -/
theorem nm_rep (c : UInt8) (hc : okC c = true) (n : Nat) (hn : n ≤ 19) : nmL (List.replicate n c) = if n = 0 ∨ List.replicate n c = [46] ∨ List.replicate n c = [46, 46] then 40 else 0 := by
  unfold nmL
  rw [if_neg (by rw [List.length_replicate]; omega)]
  have ha : (List.replicate n c).all okC = true := List.all_eq_true.2 fun x hx => by rw [List.eq_of_mem_replicate hx]; exact hc
  rw [ha, if_pos rfl]
  have e : (List.replicate n c = []) = (n = 0) := by simp
  simp only [e]
/-- Bytes as texts. -/
def mkB (l : List UInt8) : ByteArray := ⟨l.toArray⟩
theorem mkB_list (s : ByteArray) : mkB s.data.toList = s := rfl
theorem list_mkB (l : List UInt8) : (mkB l).data.toList = l := rfl
def lsts (l : List ByteArray) : List (List UInt8) := l.map (·.data.toList)
theorem lsts_mkB (l : List (List UInt8)) : lsts (l.map mkB) = l := by
  unfold lsts
  rw [List.map_map]
  exact List.map_id' _
theorem mkB_lsts (l : List ByteArray) : (lsts l).map mkB = l := by
  unfold lsts
  rw [List.map_map]
  exact List.map_id' _
theorem mkB_inj {a b : List UInt8} (h : mkB a = mkB b) : a = b := by rw [← list_mkB a, h, list_mkB]
theorem split_pieces (s : ByteArray) : Lib.splitB ⟨#[47]⟩ 0 (Lib.countB s ⟨#[47]⟩) s = (cutL s.data.toList).map mkB := by
  rw [← mkB_lsts (Lib.splitB _ _ _ _)]
  congr 1
  unfold lsts
  rw [Lib.splitB_data]
  exact splitK_cut _
end Go.Proofs.YtlcadhojfnanfaaDoor
