/- tree's Set, over the real vault: a tree whose leaf is changed is the tree over the changed texts. · The document's Root. · The law TreeShown, called with any list of texts and any place, returns true, and changes nothing that was there. · The law TreeKept, called with any list of texts and any place, returns true, and changes nothing that was there. · The law TreeSets, called with any list of texts and any changes where sum's two tables lie, returns true, and changes nothing that was there: the walk. -/
import Derived.Test.YtgokehbdappcdaaDoorMg48
import Derived.Test.YtgokehbdappcdaaDoorMg15
import Derived.Deep.RegionHeld3
import Derived.Test.YtgokehbdappcdaaDoorMg18
import Derived.Test.YtgokehbdappcdaaDoorMg19
import Derived.Test.YtgokehbdappcdaaDoorMg17
namespace Go.Proofs.YtgokehbdappcdaaDoor
set_option maxRecDepth 20000
open Go.RowKit

theorem grp_same {r r' : List ByteArray} {a j : Nat} (h : ∀ m, m ≠ a → r'[m]? = r[m]?) (hj : j ≠ a / 4) : grp r' j = grp r j := by
  apply List.ext_getElem?
  intro m
  by_cases hm : m < 4
  · rw [grp_get _ _ _ hm, grp_get _ _ _ hm, h _ (by omega)]
  · rw [List.getElem?_eq_none (by rw [grp_length]; omega), List.getElem?_eq_none (by rw [grp_length]; omega)]
theorem row_set_other (h : ByteArray → ByteArray) (l : List ByteArray) (i : Nat) (s : ByteArray) : ∀ k j, j ≠ iK i k → (rowAt h (l.set i s) k)[j]? = (rowAt h l k)[j]?
  | 0, j, hj => by
    rw [rowAt_get0, rowAt_get0, List.getElem?_set]
    rw [if_neg (fun e => hj e.symm)]
  | k + 1, j, hj => by
    have ih := row_set_other h l i s k
    have hl : (rowAt h (l.set i s) k).length = (rowAt h l k).length := by rw [rowAt_length, rowAt_length, List.length_set]
    show (upRow h (rowAt h (l.set i s) k))[j]? = (upRow h (rowAt h l k))[j]?
    by_cases hj2 : j < upN (rowAt h l k).length
    · rw [upRow_get _ _ _ (by rw [hl]; exact hj2), upRow_get _ _ _ hj2, grp_same ih hj]
    · rw [List.getElem?_eq_none (by rw [upRow_length, hl]; omega), List.getElem?_eq_none (by rw [upRow_length]; omega)]
theorem row_set0 (h : ByteArray → ByteArray) (l : List ByteArray) (i : Nat) (s : ByteArray) : (rowAt h l 0).set i (h (leafT s)) = rowAt h (l.set i s) 0 := by
  show (l.map fun s => h (leafT s)).set i (h (leafT s)) = (l.set i s).map fun s => h (leafT s)
  rw [List.map_set]
theorem row_set (h : ByteArray → ByteArray) (l : List ByteArray) (i : Nat) (s : ByteArray) (hi : i < l.length) (k : Nat) : (rowAt h l (k + 1)).set (iK i (k + 1)) (h (nodeT (grp (rowAt h (l.set i s) k) (iK i (k + 1))))) = rowAt h (l.set i s) (k + 1) := by
  have hlt : iK i (k + 1) < upK l.length (k + 1) := iK_lt hi (k + 1)
  apply List.ext_getElem?
  intro j
  rw [List.getElem?_set]
  by_cases e : iK i (k + 1) = j
  · subst e
    rw [if_pos rfl, if_pos (by rw [rowAt_length]; exact hlt)]
    show _ = (upRow h (rowAt h (l.set i s) k))[iK i (k + 1)]?
    rw [upRow_get _ _ _ (by rw [rowAt_length, List.length_set]; exact hlt)]
  · rw [if_neg e, row_set_other h l i s (k + 1) j (fun e2 => e e2.symm)]
/-- The rows up to k are those of the changed texts. -/
def mixR (h : ByteArray → ByteArray) (l l' : List ByteArray) (K k : Nat) : List (List ByteArray) := (List.range (K + 1)).map fun j => if j ≤ k then rowAt h l' j else rowAt h l j
theorem mixR_length (h : ByteArray → ByteArray) (l l' : List ByteArray) (K k : Nat) : (mixR h l l' K k).length = K + 1 := by simp [mixR]
theorem mixR_get (h : ByteArray → ByteArray) (l l' : List ByteArray) {K k j : Nat} (hj : j ≤ K) : (mixR h l l' K k)[j]? = some (if j ≤ k then rowAt h l' j else rowAt h l j) := by
  simp [mixR, List.getElem?_range (show j < K + 1 by omega)]
theorem mixR_all (h : ByteArray → ByteArray) (l l' : List ByteArray) (K : Nat) : mixR h l l' K K = rowsUp h l' K := by
  unfold mixR rowsUp
  refine List.map_congr_left fun j hj => ?_
  rw [if_pos (by have := List.mem_range.1 hj; omega)]
theorem mixR_first (h : ByteArray → ByteArray) (l l' : List ByteArray) (K : Nat) : (rowsUp h l K).set 0 (rowAt h l' 0) = mixR h l l' K 0 := by
  apply List.ext_getElem?
  intro j
  rw [List.getElem?_set]
  by_cases hj : j ≤ K
  · rw [mixR_get h l l' hj, rowsUp_length]
    by_cases e : 0 = j
    · subst e; simp
    · rw [if_neg e, rowsUp_get _ _ _ _ hj, if_neg (by omega)]
  · rw [List.getElem?_eq_none (l := mixR h l l' K 0) (by rw [mixR_length]; omega), if_neg (by omega), List.getElem?_eq_none (by rw [rowsUp_length]; omega)]
theorem mixR_step (h : ByteArray → ByteArray) (l l' : List ByteArray) (K k : Nat) : (mixR h l l' K k).set (k + 1) (rowAt h l' (k + 1)) = mixR h l l' K (k + 1) := by
  apply List.ext_getElem?
  intro j
  rw [List.getElem?_set]
  by_cases hj : j ≤ K
  · rw [mixR_get h l l' hj, mixR_get h l l' hj, mixR_length]
    by_cases e : k + 1 = j
    · subst e; rw [if_pos rfl, if_pos (by omega), if_pos (Nat.le_refl _)]
    · rw [if_neg e]
      by_cases h1 : j ≤ k
      · rw [if_pos h1, if_pos (by omega)]
      · rw [if_neg h1, if_neg (by omega)]
  · rw [List.getElem?_eq_none (l := mixR h l l' K (k + 1)) (by rw [mixR_length]; omega), List.getElem?_eq_none (l := mixR h l l' K k) (by rw [mixR_length]; omega), mixR_length]
    split
    · rw [if_neg (by omega)]
    · rfl
theorem rowsC_set (gs : List Nat) (rows : List (List ByteArray)) (k : Nat) (r r' : List ByteArray) (hr : rows[k]? = some r) (hl : r'.length = r.length) : rowsC gs (rows.set k r') = rowsC gs rows := by
  unfold rowsC
  apply List.ext_getElem?
  intro j
  rw [List.getElem?_zipWith, List.getElem?_zipWith, List.getElem?_set]
  by_cases e : k = j
  · subst e
    rw [if_pos rfl, if_pos (List.getElem?_eq_some_iff.1 hr).1, hr]
    cases gs[k]? with
    | none => rfl
    | some g => simp [rowC, hl]
  · rw [if_neg e]
theorem TrAt.set {w : World} {H : Nat → Prop} {T B : Nat} {rv : Value} {gs : List Nat} {rows : List (List ByteArray)} (t : TrAt w H T B rv gs rows) {k g : Nat} {r : List ByteArray} (hg : gs[k]? = some g) (hr : rows[k]? = some r) (j : Nat) (x : ByteArray) : TrAt (w.setCell ⟨g, j, none⟩ (.string x)) H T B rv gs (rows.set k (r.set j x)) := by
  have hm := List.mem_of_getElem? hg
  refine ⟨Row.off t.obj (fun e => t.nT g hm e.symm) j _, ?_, by rw [List.length_set]; exact t.len, fun k' g' r' h1 h2 => ?_, t.hT, t.hR, t.hG, t.nT, t.nR, t.nTR, t.inj⟩
  · rw [List.length_set, rowsC_set gs rows k r _ hr (List.length_set ..)]
    exact owns_off t.owns (t.nR g hm) j _
  · rw [List.getElem?_set] at h2
    by_cases e : k = k'
    · subst e
      rw [if_pos rfl, if_pos (List.getElem?_eq_some_iff.1 hr).1] at h2
      cases h2
      rw [hg] at h1
      cases h1
      exact (t.row k g r hg hr).set j x
    · rw [if_neg e] at h2
      exact (t.row k' g' r' h1 h2).off (fun e2 => e (t.inj k k' g hg (by rw [← e2]; exact h1))) j _
/-- A tree under change, over the real vault. -/
structure SetAt (w wr : World) (F H : Nat → Prop) (B T : Nat) (rv : Value) (gs : List Nat) (rows : List (List ByteArray)) : Prop where
  v : ∃ S, realK.V wr F (fun _ => False) B S
  tree : TrAt wr H T B rv gs rows
  touch : Touch H w wr
theorem SetAt.below {w wr w' : World} {F H : Nat → Prop} {B T : Nat} {rv : Value} {gs : List Nat} {rows : List (List ByteArray)} (t : SetAt w wr F H B T rv gs rows) {S' : ByteArray} (hv : realK.V w' F (fun _ => False) B S') (hb : Touch (fun _ => False) wr w') : SetAt w w' F H B T rv gs rows :=
  ⟨⟨S', hv⟩, t.tree.keep fun k hk _ => hb.2 k hk fun h => h, t.touch.trans (hb.mono fun _ h => h.elim)⟩
theorem SetAt.store {w wr : World} {F H : Nat → Prop} {B T : Nat} {rv : Value} {gs : List Nat} {rows : List (List ByteArray)} (t : SetAt w wr F H B T rv gs rows) (hFH : ∀ k, F k → ¬ H k) {k g : Nat} {r : List ByteArray} (hg : gs[k]? = some g) (hr : rows[k]? = some r) (j : Nat) (x : ByteArray) : SetAt w (wr.setCell ⟨g, j, none⟩ (.string x)) F H B T rv gs (rows.set k (r.set j x)) := by
  have hH := t.tree.hG g (List.mem_of_getElem? hg)
  obtain ⟨S, hv⟩ := t.v
  exact ⟨⟨S, realOk.keep hv fun q _ hq => Below.heap_setCell wr ⟨g, j, none⟩ _ q (fun e => hFH q hq (by rw [e]; exact hH))⟩, t.tree.set hg hr j x, t.touch.setCell _ _ _ (.inl hH)⟩
theorem SetAt.drew {w wr : World} {F H : Nat → Prop} {B T : Nat} {rv : Value} {gs : List Nat} {rows : List (List ByteArray)} (t : SetAt w wr F H B T rv gs rows) : SetAt w wr.drew F H B T rv gs rows := by
  obtain ⟨S, hv⟩ := t.v
  exact ⟨⟨S, realOk.keep hv fun _ _ _ => rfl⟩, t.tree.keep fun _ _ _ => rfl, t.touch.drew⟩
set_option maxHeartbeats 4000000 in
theorem set_on {w0 w : World} {F H : Nat → Prop} {B T : Nat} {S : ByteArray} {l : List ByteArray} (t : TrOn realK w0 w F (fun _ => False) H B T S l) (i : Nat) (hi : i < l.length) (s : ByteArray) (hs : s.size ≤ 1000) (hl : l.length ≤ 200) :
    Calls Tryd.prog 8 #[.pointer (some ⟨T, 0, none⟩), .int .i64 (i : Int), .string s] w fun e w' => ∃ S', e = .returned (.int .i64 0) ∧ TrOn realK w0 w' F (fun _ => False) H B T S' (l.set i s) ∧ Touch H w w' := by
  have hha := has_on t (i : Int)
  rw [decide_eq_true (show 0 ≤ (i : Int) ∧ (i : Int) < (l.length : Nat) by omega)] at hha
  obtain ⟨rv, gs, htr⟩ := t.tree
  obtain ⟨K, hK⟩ : ∃ K, K = hgt l.length := ⟨_, rfl⟩
  rw [← hK] at htr
  have htr : TrAt w H T B rv gs (rowsUp realH l K) := htr
  have hKl : K ≤ 200 := by have := hgt_le l.length; omega
  have hlen : gs.length = K + 1 := by rw [htr.len, rowsUp_length]
  obtain ⟨ra, cap, rfl, hcap, _⟩ := htr.form (by rw [rowsUp_length]; omega)
  rw [rowsUp_length] at hcap
  obtain ⟨M, hM⟩ : ∃ M, M = K + 1 := ⟨_, rfl⟩
  have HG : Hid (∀ k, k ≤ K → ∃ g, gs[k]? = some g) := fun k hk => ⟨_, List.getElem?_eq_getElem (by omega)⟩
  have HFH : Hid (∀ k, F k → ¬ H k) := fun k hk => (t.fH k hk).1
  have S0 : SetAt w w F H B T (.slice (some ⟨ra, 0, none⟩) M cap) gs (rowsUp realH l K) := ⟨⟨S, t.v⟩, by have := htr; rw [rowsUp_length, ← hM] at this; exact this, Touch.refl _ _⟩
  have HS0 : Hid (SetAt w w F H B T (.slice (some ⟨ra, 0, none⟩) M cap) gs (rowsUp realH l K)) := S0
  have HCell : Hid (∀ (wr : World) (rows : List (List ByteArray)) (k g : Nat) (r : List ByteArray), SetAt w wr F H B T (.slice (some ⟨ra, 0, none⟩) M cap) gs rows → rows.length = K + 1 → gs[k]? = some g → rows[k]? = some r → wr.cell? ⟨ra, k, none⟩ = some (.slice (some ⟨g, 0, none⟩) r.length r.length)) := fun wr rows k g r h1 h0 h2 h3 => by
    obtain ⟨ra', cap', e, _, hc⟩ := h1.tree.form (by omega)
    have e1 := congrArg Addr.block (Option.some.inj (Value.slice.inj e).1)
    simp at e1
    rw [e1]
    exact hc k g r h2 h3
  obtain ⟨g0, hg0⟩ := HG.out 0 (Nat.zero_le _)
  have hr0 := rowsUp_get realH l K 0 (Nat.zero_le _)
  have hl0 : (rowAt realH l 0).length = l.length := tr_len0 _ _
  obtain ⟨n, hn⟩ : ∃ n, n = l.length := ⟨_, rfl⟩
  have HN : Hid (n = l.length ∧ K = hgt l.length) := ⟨hn, hK⟩
  have HX : Hid (∀ wr, SetAt w wr F H B T (.slice (some ⟨ra, 0, none⟩) M cap) gs (rowsUp realH l K) → wr.cell? ⟨T, 0, none⟩ = some (.pointer (some ⟨B, 0, none⟩)) ∧ wr.cell? ⟨T, 1, none⟩ = some (.slice (some ⟨ra, 0, none⟩) M cap) ∧ wr.cell? ⟨ra, 0, none⟩ = some (.slice (some ⟨g0, 0, none⟩) n n)) := fun wr h1 => ⟨h1.tree.c0, h1.tree.c1, by have := HCell.out wr _ 0 g0 _ h1 (rowsUp_length ..) hg0 hr0; rwa [hl0, ← hn] at this⟩
  have HX2 : Hid (∀ (wr : World) (x : ByteArray), SetAt w wr F H B T (.slice (some ⟨ra, 0, none⟩) M cap) gs (rowsUp realH l K) → (wr.setCell ⟨g0, i, none⟩ (.string x)).cell? ⟨T, 0, none⟩ = some (.pointer (some ⟨B, 0, none⟩)) ∧ (wr.setCell ⟨g0, i, none⟩ (.string x)).cell? ⟨T, 1, none⟩ = some (.slice (some ⟨ra, 0, none⟩) M cap) ∧ (wr.setCell ⟨g0, i, none⟩ (.string x)).cell? ⟨ra, 0, none⟩ = some (.slice (some ⟨g0, 0, none⟩) n n)) := fun wr x h1 => by
    have h2 := h1.store HFH.out hg0 hr0 i x
    refine ⟨h2.tree.c0, h2.tree.c1, ?_⟩
    have := HCell.out _ _ 0 g0 _ h2 (by rw [List.length_set, rowsUp_length]) hg0 (by rw [List.getElem?_set, if_pos rfl, if_pos (by rw [rowsUp_length]; omega)])
    rwa [List.length_set, hl0, ← hn] at this
  obtain ⟨c0, c1, c2⟩ := HX.out w S0
  have i1 : (i : Int) < (n : Nat) := by omega
  have m1 : (0 : Int) < (M : Nat) := by omega
  have m2 : 0 < M := by omega
  have HMM : Hid (M = K + 1) := hM
  have HD : Hid (SetAt w w.drew F H B T (.slice (some ⟨ra, 0, none⟩) M cap) gs (rowsUp realH l K)) := S0.drew
  have HVd : Hid (∃ S', realK.V w.drew F (fun _ => False) B S') := S0.drew.v
  have HT : Hid (TrOn realK w0 w F (fun _ => False) H B T S l) := t
  clear t htr S0 hlen hn hK hr0 hl0 hM hcap
  obtain ⟨S1, hV1⟩ := HVd.out
  have hlh := leafHash_any realOk w.drew F (fun _ => False) B S1 s (by omega) (Nat.zero_le _) hV1
  have HG0 : Hid (gs[0]? = some g0) := hg0
  clear hg0 hV1 HVd
  go_enter Tryd.func8, Tryd.ntmps8
  go_wp2_with fail
  refine hha.mono ?_
  rintro e w1 ⟨rfl, rfl⟩
  clear hha
  go_wp2_with fail
  go_region_held3 (fun w' => w'.cell? ⟨T, 0, none⟩ = some (.pointer (some ⟨B, 0, none⟩)) ∧ w'.cell? ⟨T, 1, none⟩ = some (.slice (some ⟨ra, 0, none⟩) M cap) ∧ w'.cell? ⟨ra, 0, none⟩ = some (.slice (some ⟨g0, 0, none⟩) n n)) (first | exact HX2.out _ _ SA | exact HX.out _ SA | exact ⟨c0, c1, c2⟩ | simp [go_sem, *]) (first | (go_at_call 16; refine hlh.mono ?_; rintro e wA ⟨S2, rfl, hvA, htA, _, _, _⟩; have SA := HD.out.below hvA htA; have rA := SA.tree.row 0 g0 _ HG0.out (rowsUp_get realH l K 0 (Nat.zero_le _)); obtain ⟨y, hy⟩ : ∃ y, (rowAt realH l 0)[i]? = some y := (by exact rowAt_place realH l i hi 0); have cA := rA.cell hy; have fA := rA.frozen i))
  have S1' : SetAt w1 (wA.setCell ⟨g0, i, none⟩ (.string (realK.h S2 (leafT s)))) F H B T (.slice (some ⟨ra, 0, none⟩) M cap) gs (mixR realH l (l.set i s) K 0) := by
    have h1 := SA.store HFH.out HG0.out (rowsUp_get realH l K 0 (Nat.zero_le _)) i (realK.h S2 (leafT s))
    rw [show realK.h S2 (leafT s) = realH (leafT s) from rfl, row_set0 realH l i s, mixR_first] at h1
    exact h1
  obtain ⟨w2, hw2⟩ : ∃ w2, wA.setCell ⟨g0, i, none⟩ (.string (realK.h S2 (leafT s))) = w2 := ⟨_, rfl⟩
  rw [hw2] at S1' ⊢
  have HS1 : Hid (SetAt w1 w2 F H B T (.slice (some ⟨ra, 0, none⟩) M cap) gs (mixR realH l (l.set i s) K 0)) := S1'
  generalize realK.h S2 (leafT s) = lh at *
  have d1 := S1'.tree.c1
  clear hw2 S1' SA rA hy cA fA hvA htA hlh HX HX2 HD c0 c1 c2 HS0
  obtain ⟨l', hl'⟩ : ∃ l', l' = l.set i s := ⟨_, rfl⟩
  have HL : Hid (l' = l.set i s) := hl'
  rw [← hl'] at HS1
  clear hl'
  have k1 : IntKind.i64.wrap ((M : Int) - 1) = (K : Int) := by have := HMM.out; rw [IntKind.wrap_i64]; omega
  go_wp2_with fail
  go_loopw [1, 32] (fun iv kv wr => ∃ k : Nat, k ≤ K ∧ kv = .int .i64 (k : Int) ∧ iv = .int .i64 ((iK i k : Nat) : Int) ∧ SetAt w1 wr F H B T (.slice (some ⟨ra, 0, none⟩) M cap) gs (mixR realH l l' K k)) (fun _ kv _ => K - (intOf kv).toNat)
  case atStart => exact ⟨0, Nat.zero_le _, rfl, rfl, HS1.out⟩
  case round =>
    clear HS1 d1
    obtain ⟨k, hk, rfl, rfl, hS⟩ := hrel
    by_cases hlt : k < K
    · have kk : (k : Int) < (K : Nat) := by omega
      obtain ⟨gk, hgk⟩ := HG.out k (by omega)
      obtain ⟨gk1, hgk1⟩ := HG.out (k + 1) (by omega)
      have hll : l'.length = l.length := by rw [HL.out, List.length_set]
      have hrk : (mixR realH l l' K k)[k]? = some (rowAt realH l' k) := by rw [mixR_get realH l l' hk, if_pos (Nat.le_refl _)]
      have hrk1 : (mixR realH l l' K k)[k + 1]? = some (rowAt realH l (k + 1)) := by rw [mixR_get realH l l' (by omega), if_neg (by omega)]
      obtain ⟨a, ha⟩ : ∃ a, a = iK i k := ⟨_, rfl⟩
      obtain ⟨b, hb⟩ : ∃ b, b = iK i (k + 1) := ⟨_, rfl⟩
      have hab : (a : Int) / 4 = (b : Int) := by
        have : b = a / 4 := by rw [ha, hb]; rfl
        omega
      obtain ⟨nk, hnk⟩ : ∃ nk, nk = (rowAt realH l' k).length := ⟨_, rfl⟩
      obtain ⟨nk1, hnk1⟩ : ∃ nk1, nk1 = (rowAt realH l (k + 1)).length := ⟨_, rfl⟩
      have hbl : b < nk1 := by rw [hb, hnk1, rowAt_length]; exact iK_lt hi (k + 1)
      have hnk2 : nk ≤ 200 := by rw [hnk, rowAt_length, hll]; have := upK_le l.length k; omega
      have hnk3 : nk1 ≤ 200 := by rw [hnk1, rowAt_length]; have := upK_le l.length (k + 1); omega
      have hup : upN nk = nk1 := by rw [hnk, hnk1, rowAt_length, rowAt_length, hll]; rfl
      have HX : Hid (∀ (wq : World) (rows : List (List ByteArray)) (r1 : List ByteArray), SetAt w1 wq F H B T (.slice (some ⟨ra, 0, none⟩) M cap) gs rows → rows.length = K + 1 → rows[k]? = some (rowAt realH l' k) → rows[k + 1]? = some r1 → r1.length = nk1 → wq.cell? ⟨T, 0, none⟩ = some (.pointer (some ⟨B, 0, none⟩)) ∧ wq.cell? ⟨T, 1, none⟩ = some (.slice (some ⟨ra, 0, none⟩) M cap) ∧ wq.cell? ⟨ra, k, none⟩ = some (.slice (some ⟨gk, 0, none⟩) nk nk) ∧ wq.cell? ⟨ra, k + 1, none⟩ = some (.slice (some ⟨gk1, 0, none⟩) nk1 nk1)) := fun wq rows r1 h1 h2 h3 h4 h5 => ⟨h1.tree.c0, h1.tree.c1, by have := HCell.out wq rows k gk _ h1 h2 hgk h3; rwa [← hnk] at this, by have := HCell.out wq rows (k + 1) gk1 _ h1 h2 hgk1 h4; rwa [h5] at this⟩
      obtain ⟨c0, c1, c2, c3⟩ := HX.out wr _ _ hS (mixR_length ..) hrk hrk1 hnk1.symm
      have hsz : ∀ x, x ∈ rowAt realH l' k → x.size ≤ 1000 := fun x hx => by
        have := TreeInK.sizes (D := fun _ => True) (h := realH) (l := l') (K := K) ⟨fun _ _ => trivial, fun _ _ _ _ => trivial⟩ (fun y _ => realH_size y) k hk x hx
        omega
      have hSd := hS.drew
      obtain ⟨Sk, hVk⟩ := hSd.v
      have hnd := node_any realOk wr.drew F (fun _ => False) B Sk gk b (rowAt realH l' k) (hSd.tree.row k gk _ hgk hrk) (by rw [← hnk]; omega) (by rw [← hnk, hup]; exact hbl) hsz (Nat.zero_le _) hVk
      rw [← hnk] at hnd
      have HR : Hid ((rowAt realH l (k + 1)).set b (realH (nodeT (grp (rowAt realH l' k) b))) = rowAt realH l' (k + 1)) := by rw [hb, HL.out]; exact row_set realH l i s hi k
      have HM : Hid (SetAt w1 wr.drew F H B T (.slice (some ⟨ra, 0, none⟩) M cap) gs (mixR realH l l' K k) ∧ (mixR realH l l' K k)[k]? = some (rowAt realH l' k) ∧ (mixR realH l l' K k)[k + 1]? = some (rowAt realH l (k + 1)) ∧ gs[k]? = some gk ∧ gs[k + 1]? = some gk1 ∧ nk1 = (rowAt realH l (k + 1)).length) := ⟨hSd, hrk, hrk1, hgk, hgk1, hnk1⟩
      have HB : Hid (b = iK i (k + 1)) := hb
      have HX1 : Hid (∀ wq : World, SetAt w1 wq F H B T (.slice (some ⟨ra, 0, none⟩) M cap) gs (mixR realH l l' K k) → wq.cell? ⟨T, 0, none⟩ = some (.pointer (some ⟨B, 0, none⟩)) ∧ wq.cell? ⟨T, 1, none⟩ = some (.slice (some ⟨ra, 0, none⟩) M cap) ∧ wq.cell? ⟨ra, k, none⟩ = some (.slice (some ⟨gk, 0, none⟩) nk nk) ∧ wq.cell? ⟨ra, k + 1, none⟩ = some (.slice (some ⟨gk1, 0, none⟩) nk1 nk1)) := fun wq h => HX.out wq _ _ h (mixR_length ..) HM.out.2.1 HM.out.2.2.1 HM.out.2.2.2.2.2.symm
      have HX2 : Hid (∀ (wq : World) (x : ByteArray), SetAt w1 wq F H B T (.slice (some ⟨ra, 0, none⟩) M cap) gs (mixR realH l l' K k) → (wq.setCell ⟨gk1, b, none⟩ (.string x)).cell? ⟨T, 0, none⟩ = some (.pointer (some ⟨B, 0, none⟩)) ∧ (wq.setCell ⟨gk1, b, none⟩ (.string x)).cell? ⟨T, 1, none⟩ = some (.slice (some ⟨ra, 0, none⟩) M cap) ∧ (wq.setCell ⟨gk1, b, none⟩ (.string x)).cell? ⟨ra, k, none⟩ = some (.slice (some ⟨gk, 0, none⟩) nk nk) ∧ (wq.setCell ⟨gk1, b, none⟩ (.string x)).cell? ⟨ra, k + 1, none⟩ = some (.slice (some ⟨gk1, 0, none⟩) nk1 nk1)) := fun wq x h => by
        have h2 := h.store HFH.out HM.out.2.2.2.2.1 HM.out.2.2.1 b x
        exact HX.out _ _ _ h2 (by rw [List.length_set, mixR_length]) (by rw [List.getElem?_set, if_neg (by omega)]; exact HM.out.2.1) (by rw [List.getElem?_set, if_pos rfl, if_pos (by rw [mixR_length]; omega)]) (by rw [List.length_set]; exact HM.out.2.2.2.2.2.symm)
      have b1 : (b : Int) < (nk1 : Nat) := by omega
      have kk1 : (k : Int) + 1 < (M : Nat) := by have := HMM.out; omega
      have kk2 : (k : Int) < (M : Nat) := by have := HMM.out; omega
      have kk3 : k + 1 < M := by have := HMM.out; omega
      have kk4 : k < M := by omega
      have kk5 : (0 : Int) ≤ (k : Int) + 1 := by omega
      have kk6 : IntKind.i64.wrap ((k : Int) + 1) = (k : Int) + 1 := by rw [IntKind.wrap_i64]; omega
      have hby : ∃ y, (rowAt realH l (k + 1))[b]? = some y := ⟨_, List.getElem?_eq_getElem (by rw [← hnk1]; exact hbl)⟩
      have HBY : Hid (∃ y, (rowAt realH l (k + 1))[b]? = some y) := hby
      rw [← ha]
      clear hS hSd hVk hgk hgk1 hrk hrk1 hnk hnk1 hup ha hb hsz hll hby htr
      go_wp2_with fail
      go_region_held3 (fun w' => w'.cell? ⟨T, 0, none⟩ = some (.pointer (some ⟨B, 0, none⟩)) ∧ w'.cell? ⟨T, 1, none⟩ = some (.slice (some ⟨ra, 0, none⟩) M cap) ∧ w'.cell? ⟨ra, k, none⟩ = some (.slice (some ⟨gk, 0, none⟩) nk nk) ∧ w'.cell? ⟨ra, k + 1, none⟩ = some (.slice (some ⟨gk1, 0, none⟩) nk1 nk1)) (first | exact HX2.out _ _ SA | exact HX1.out _ SA | exact ⟨c0, c1, c2, c3⟩ | simp [go_sem, *]) (first | (go_at_call 20; refine hnd.mono ?_; rintro e wA ⟨S3, rfl, hvA, htA, _, _, _⟩; have SA := HM.out.1.below hvA htA; have rA := SA.tree.row (k + 1) gk1 _ HM.out.2.2.2.2.1 HM.out.2.2.1; obtain ⟨y, hy⟩ := HBY.out; have cA := rA.cell hy; have fA := rA.frozen b))
      have S4 : SetAt w1 (wA.setCell ⟨gk1, b, none⟩ (.string (realK.h S3 (nodeT (grp (rowAt realH l' k) b))))) F H B T (.slice (some ⟨ra, 0, none⟩) M cap) gs (mixR realH l l' K (k + 1)) := by
        have h1 := SA.store HFH.out HM.out.2.2.2.2.1 HM.out.2.2.1 b (realK.h S3 (nodeT (grp (rowAt realH l' k) b)))
        rw [show realK.h S3 (nodeT (grp (rowAt realH l' k) b)) = realH (nodeT (grp (rowAt realH l' k) b)) from rfl, HR.out, mixR_step] at h1
        exact h1
      obtain ⟨w4, hw4⟩ : ∃ w4, wA.setCell ⟨gk1, b, none⟩ (.string (realK.h S3 (nodeT (grp (rowAt realH l' k) b)))) = w4 := ⟨_, rfl⟩
      rw [hw4] at S4 ⊢
      have HF : Hid (SetAt w1 w4 F H B T (.slice (some ⟨ra, 0, none⟩) M cap) gs (mixR realH l l' K (k + 1))) := S4
      generalize realK.h S3 (nodeT (grp (rowAt realH l' k) b)) = nh at *
      clear hw4 S4 SA rA hy cA fA hvA htA hnd HX HX1 HX2 c0 c1 c2 c3 HBY HR HM
      go_wp2
      go_roundw
      case rel => exact ⟨k + 1, by omega, by go_num, by rw [HB.out], HF.out⟩
      case measure => simp [intOf]; omega
    · obtain rfl : k = K := by omega
      have kk : ¬ (k : Int) < k := by omega
      have HF : Hid (∃ S', TrOn realK w0 wr F (fun _ => False) H B T S' (l.set i s) ∧ Touch H w1 wr) := by
        obtain ⟨S', hv⟩ := hS.v
        have ht := hS.tree
        rw [mixR_all, HN.out.2, HL.out] at ht
        refine ⟨S', ⟨hv, ⟨_, gs, by rw [List.length_set]; exact ht⟩, ⟨fun _ _ => trivial, fun _ _ _ _ => trivial⟩, fun _ h => h.elim, fun _ h => h.elim, fun q hq => ⟨(HT.out.hLow q hq).1, Nat.lt_of_lt_of_le (HT.out.hLow q hq).2 hS.touch.size⟩, fun q hq => ⟨(HT.out.fH q hq).1, Nat.lt_of_lt_of_le (HT.out.fH q hq).2 hS.touch.size⟩, HT.out.below.trans (hS.touch.below HT.out.below.size fun q hq => (HT.out.hLow q hq).1)⟩, hS.touch⟩
      clear hS htr
      generalize ((iK i k : Nat) : Int) = ik at *
      go_wp2
      go_ret
      obtain ⟨S', h1, h2⟩ := HF.out
      exact ⟨rfl, ⟨S', h1⟩, h2⟩
end Go.Proofs.YtgokehbdappcdaaDoor

namespace Go.Proofs.YtgokehbdappcdaaDoor
set_option maxRecDepth 20000
open Go.RowKit

section
variable {R : World → Prop} {h : ByteArray → ByteArray} {B : Nat}
set_option maxHeartbeats 1000000 in
theorem rroot_any (Q : RV R h B) (hh : ∀ x, (h x).size = 32) (w : World) (oa : Option Addr) (c : Nat) (l : List ByteArray) (hlv : Lv w (fun _ => False) oa l) (hlen : l.length ≤ 200) (hs : ∀ x, x ∈ l → x.size ≤ 1000) (hr : R w) :
    Calls Tryd.prog 10 #[.pointer (some ⟨B, 0, none⟩), .slice oa l.length c] w fun e w' => e = .returned (.string (h (rootT l.length (topS h l)))) ∧ Below w.heap.size w w' := by
  have hrw := rrows_any Q hh w oa c l hlv hlen hs hr
  have HR : Hid (∀ w', Below w.heap.size w w' → R w') := fun w' hb => Q.keep hr hb
  obtain ⟨M, hM⟩ : ∃ M, M = hgt l.length := ⟨_, rfl⟩
  have HMM : Hid (M = hgt l.length) := hM
  have hM2 : M ≤ 200 := by have := hgt_le l.length; omega
  obtain ⟨m, hm⟩ : ∃ m, m = l.length := ⟨_, rfl⟩
  have HM : Hid (m = l.length) := hm
  rw [← hM] at hrw
  rw [← hm] at hrw hlen ⊢
  have htp := fun w' hr' => rtopped_any Q w' m (topS h l) (by omega) (by
    have : (topS h l).size ≤ 32 := by
      unfold topS
      rw [← hM]
      cases e : rowAt h l M with
      | nil => decide
      | cons a t => have := rowAt_size hh l M a (by rw [e]; exact List.mem_cons_self); show a.size ≤ 32; omega
    omega) hr'
  generalize h (rootT m (topS h l)) = y at *
  have m1 : IntKind.i64.wrap (((M + 1 : Nat) : Int) - 1) = (M : Int) := by rw [IntKind.wrap_i64]; omega
  have m2 : ((M + 1 : Nat) : Int) - 1 = (M : Int) := by omega
  have m3 : IntKind.i64.wrap ((M : Int) + 1 - 1) = (M : Int) := by rw [IntKind.wrap_i64]; omega
  have m4 : (M : Int) < ((M + 1 : Nat) : Int) := by omega
  have m5 : (M : Int) < (M : Int) + 1 := by omega
  clear hr hlv hs hm hM
  go_enter Tryd.func10, Tryd.ntmps10
  go_wp2_with fail
  refine hrw.mono ?_
  rintro e w1 ⟨⟨v, vs, rfl, hra⟩, hb1⟩
  have hown := hra.owns
  rw [rowsUp_length] at hown
  obtain ⟨g, cap, rfl, hcap, hg, hcell⟩ := owns_formG hown (by omega)
  have hvl : vs.length = M + 1 := by rw [hra.len, rowsUp_length]
  obtain ⟨u, hu⟩ : ∃ u, vs[M]? = some u := ⟨_, List.getElem?_eq_getElem (by omega)⟩
  have cM := hcell M u hu
  have hrow := hra.row M u _ hu (rowsUp_get h l M M (Nat.le_refl _))
  obtain ⟨ou, cu, rfl⟩ := OwnL.form hrow
  have htop : topS h l = (rowAt h l M).headD ⟨#[]⟩ := by unfold topS; rw [← HMM.out]
  have htp1 := htp w1 (HR.out w1 hb1)
  have HB1 : Hid (Below w.heap.size w w1) := hb1
  clear hrw htp hown hcell hvl hu hra hb1
  rcases hrw2 : rowAt h l M with _ | ⟨a, t⟩
  · rw [hrw2] at cM htop
    have e1 : topS h l = ⟨#[]⟩ := htop
    rw [e1] at htp1
    have e2 : ([] : List ByteArray).length = 0 := rfl
    rw [e2] at cM
    clear hrow htop hrw2 e1 e2
    go_wp2_with fail
    refine htp1.mono ?_
    rintro e w2 ⟨rfl, hb2⟩
    have HF : Hid (Below w.heap.size w w2) := HB1.out.trans (hb2.mono HB1.out.size)
    clear hb2 htp1
    go_wp2
    go_ret
    exact ⟨rfl, HF.out⟩
  · rw [hrw2] at cM htop hrow
    have e1 : topS h l = a := htop
    rw [e1] at htp1
    obtain ⟨ga, rfl, _, hga, hca, _⟩ := OwnL.cell hrow (i := 0) (x := a) rfl
    obtain ⟨tl, htl⟩ : ∃ tl, (a :: t).length = tl := ⟨_, rfl⟩
    have htl0 : 0 < tl := by rw [← htl]; simp
    have htl1 : (0 : Int) < tl := by omega
    rw [htl] at cM
    clear hrow htop hrw2 e1 htl
    go_wp2_with fail
    refine htp1.mono ?_
    rintro e w2 ⟨rfl, hb2⟩
    have HF : Hid (Below w.heap.size w w2) := HB1.out.trans (hb2.mono HB1.out.size)
    clear hb2 htp1
    go_wp2
    go_ret
    exact ⟨rfl, HF.out⟩
end
end Go.Proofs.YtgokehbdappcdaaDoor

namespace Go.Proofs.YtgokehbdappcdaaDoor
set_option maxRecDepth 20000
open Go.RowKit

theorem pathOf_same {D : ByteArray → Prop} {h h' : ByteArray → ByteArray} {l : List ByteArray} {i : Nat} (hT : TreeInK D h l (hgt l.length)) (e : ∀ x, D x → h' x = h x) : pathOf h' l i = pathOf h l i :=
  List.map_congr_left fun k hk => by rw [rowAt_sameK hT e k (by have := List.mem_range.1 hk; omega)]
theorem shown_chk {σ : Type} {K : HK σ} (o : HKOk K) {S S6 S7 : σ} {l : List ByteArray} {i : Nat} (hi : i < l.length) (hl : l.length ≤ 200) (tin : TreeInK (K.D S) (K.h S) l (hgt l.length)) (x6 : K.ext S S6) (d6 : K.D S6 (rootT l.length (topS (K.h S6) l))) (x7 : K.ext S6 S7) (n6 : K.n S6 ≤ 2000000) (n7 : K.n S7 ≤ 2000000) :
    chkB (K.h S7) (K.h S6 (rootT l.length (topS (K.h S6) l))) (l.length : Nat) (i : Nat) l[i] (pathOf (K.h S) l i) = true := by
  have x57 := HK.ext_trans x6 x7
  have tin7 := tin.mono x57
  have e1 : pathOf (K.h S7) l i = pathOf (K.h S) l i := pathOf_same tin fun x hx => (x57 x hx).2
  have e2 : topS (K.h S7) l = topS (K.h S6) l := by
    have t6 : TreeIn (K.D S6) (K.h S6) l := tin.mono x6
    exact top_same t6 fun x hx => (x7 x hx).2
  have h32 := o.size S6 _ d6 n6
  have hd : leadB l.length i (pathOf (K.h S7) l i) = true := leadB_iff.2 (path_leads tin7 (fun x hx => o.size S7 x hx n7) i hi)
  unfold chkB okB
  rw [← e1, Int.toNat_natCast, Int.toNat_natCast, hd, path_top, h32, e2, (x7 _ d6).2]
  simp
  omega
theorem sides_len (h : ByteArray → ByteArray) (l : List ByteArray) (i : Nat) : ∀ s, s ∈ pathOf h l i → s.sides.length ≤ 1000000 := fun s hs => by
  obtain ⟨k, _, rfl⟩ := List.mem_map.1 hs
  show ((grp (rowAt h l k) (iK i k / 4)).eraseIdx (iK i k % 4)).length ≤ _
  have h1 := List.length_eraseIdx_le (grp (rowAt h l k) (iK i k / 4)) (iK i k % 4)
  have h2 := grp_length (rowAt h l k) (iK i k / 4)
  omega
end Go.Proofs.YtgokehbdappcdaaDoor

namespace Go.Proofs.YtgokehbdappcdaaDoor
set_option maxRecDepth 20000
open Go.RowKit

/-- How a path looks whose texts may have been bent. -/
def PSh (w : World) (base : Nat) (oa : Option Addr) (ns : List Nat) (bs : Nat → Nat) (ok : Bool) : Prop :=
  ∀ (k n : Nat), ns[k]? = some n → ∃ b, oa = some ⟨b, 0, none⟩ ∧ base ≤ b ∧ b < w.heap.size ∧ w.cell? ⟨b, k * 2 + 1, none⟩ = some (.slice (some ⟨bs k, 0, none⟩) n n) ∧ base ≤ bs k ∧ bs k ≠ b ∧ ∃ r, RowS w (bs k) r ∧ r.length = n ∧ (ok = true → ∀ x, x ∈ r → x.size = 32)
theorem PSh.keep {w w' : World} {base : Nat} {oa : Option Addr} {ns : List Nat} {bs : Nat → Nat} {ok : Bool} (h : PSh w base oa ns bs ok) (hz : w.heap.size ≤ w'.heap.size) (hk : ∀ k, base ≤ k → k < w.heap.size → w'.heap[k]? = w.heap[k]?) : PSh w' base oa ns bs ok := fun k n hn => by
  obtain ⟨b, h1, h2, h3, h4, h5, h6, r, h7, h8, h9⟩ := h k n hn
  exact ⟨b, h1, h2, Nat.lt_of_lt_of_le h3 hz, (cell_kept_1 (hk b h2 h3) _).trans h4, h5, h6, r, h7.keep (hk _ h5 h7.lt), h8, h9⟩
theorem PSh.bend {w : World} {base : Nat} {oa : Option Addr} {ns : List Nat} {bs : Nat → Nat} (h : PSh w base oa ns bs false) {k n : Nat} (hn : ns[k]? = some n) (j : Nat) (y : ByteArray) : PSh (w.setCell ⟨bs k, j, none⟩ (.string y)) base oa ns bs false := fun k' n' hn' => by
  obtain ⟨b0, e1, e2, e3, e4, e5, e6, r0, e7, e8, _⟩ := h k n hn
  obtain ⟨b, h1, h2, h3, h4, h5, h6, r, h7, h8, _⟩ := h k' n' hn'
  obtain rfl : b0 = b := by rw [e1] at h1; exact congrArg Addr.block (Option.some.inj h1)
  refine ⟨b0, e1, e2, by rw [size_setCell]; exact e3, (cell_kept_1 (Below.heap_setCell w ⟨bs k, j, none⟩ _ b0 (fun e => e6 e.symm)) _).trans h4, h5, h6, ?_⟩
  by_cases e : bs k' = bs k
  · rw [e] at h7 ⊢
    exact ⟨_, h7.set j y, by rw [List.length_set]; exact h8, fun hh => by cases hh⟩
  · exact ⟨r, h7.off e j _, h8, fun hh => by cases hh⟩
theorem OwnL.set {w : World} {base g i : Nat} {cap : Nat} {l : List ByteArray} (h : OwnL w base (.slice (some ⟨g, 0, none⟩) l.length cap) l) (y : ByteArray) : OwnL (w.setCell ⟨g, i, none⟩ (.string y)) base (.slice (some ⟨g, 0, none⟩) l.length cap) (l.set i y) := by
  unfold OwnL
  rw [List.length_set]
  refine ⟨by simp, ?_⟩
  rcases h.2 with ⟨e, h0⟩ | ⟨g', cap', cur, e, h0, hg, h1, h2, h3, h4⟩
  · cases e
  · obtain ⟨e1, e2, e3⟩ := Value.slice.inj e
    have e4 := congrArg Addr.block (Option.some.inj e1)
    simp at e4
    subst e4 e3
    refine .inr ⟨g, cap, cur.setIfInBounds i (.string y), rfl, h0, heap_setCell_same w g i cur 9 (.string y) hg, h1, h2, by simp [h3], ?_⟩
    rw [Array.toList_setIfInBounds, List.take_set, h4, List.map_set]
section
variable {σ : Type} {K : HK σ}
def pathF (l : List ByteArray) (i : Int) : Int := if 0 ≤ i ∧ i < (l.length : Nat) then 0 else 2
theorem TrOn.apart (o : HKOk K) {w0 w w' : World} {F G H : Nat → Prop} {B T : Nat} {S : σ} {l : List ByteArray} (t : TrOn K w0 w F G H B T S l) (hz : w.heap.size ≤ w'.heap.size) (hk : ∀ k, k < w.heap.size → F k ∨ H k → w'.heap[k]? = w.heap[k]?) (hb : Below w0.heap.size w0 w') : TrOn K w0 w' F G H B T S l := by
  obtain ⟨rv, gs, htr⟩ := t.tree
  exact ⟨o.keep t.v fun k h1 h2 => hk k h1 (.inl h2), ⟨rv, gs, htr.keep fun k h1 h2 => hk k h1 (.inr h2)⟩, t.tin, t.gH, fun k h => ⟨(t.gLow k h).1, Nat.lt_of_lt_of_le (t.gLow k h).2 hz⟩, fun k h => ⟨(t.hLow k h).1, Nat.lt_of_lt_of_le (t.hLow k h).2 hz⟩, fun k h => ⟨(t.fH k h).1, Nat.lt_of_lt_of_le (t.fH k h).2 hz⟩, hb⟩
end
def bentT : ByteArray := ⟨#[98, 101, 110, 116]⟩
theorem bent_list : bentT.toList = [98, 101, 110, 116] := by rw [ByteArray.toList_eq]; rfl
theorem not_bent {x : ByteArray} (h : x.size = 32) : (x.toList == [98, 101, 110, 116]) = false := by
  rw [← bent_list, cmp_is]
  refine decide_eq_false fun e => ?_
  rw [e] at h
  exact absurd h (by decide)
end Go.Proofs.YtgokehbdappcdaaDoor

namespace Go.Proofs.YtgokehbdappcdaaDoor
set_option maxRecDepth 20000
open Go.ChangeShapes Go.WideShapes Go.RowKit Go.Deep

structure Chg where
  at_ : Int
  s : ByteArray
instance : Inhabited Chg := ⟨⟨0, ⟨#[]⟩⟩⟩
structure Chg.Ok (x : Chg) : Prop where
  at_ : (Lit.int .i64 x.at_).wf = true
  s : x.s.size ≤ 140737488355328
def Chg.cells (x : Chg) : List Value := [.int .i64 x.at_, .string x.s]
structure ChgAt (W : World) (g o : Nat) (x : Chg) : Prop where
  c0 : W.cell? ⟨g, o, none⟩ = some (.int .i64 x.at_)
  c1 : W.cell? ⟨g, o + 1, none⟩ = some (.string x.s)
def Chgs (W : World) (v : Value) (l : List Chg) : Prop := (∃ oa cap, v = .slice oa 0 cap ∧ l = []) ∨ ∃ g o cap, v = .slice (some ⟨g, o, none⟩) l.length cap ∧ g < W.heap.size ∧ ∀ i x, l[i]? = some x → ChgAt W g (o + i * 2) x
theorem Chgs.form {W : World} {v : Value} {l : List Chg} (h : Chgs W v l) : ∃ oa cap, v = .slice oa l.length cap := by
  rcases h with ⟨oa, cap, rfl, rfl⟩ | ⟨g, o, cap, rfl, _⟩
  · exact ⟨oa, cap, rfl⟩
  · exact ⟨_, cap, rfl⟩
theorem Chgs.get {W : World} {oa : Option Addr} {cap : Nat} {l : List Chg} (h : Chgs W (.slice oa l.length cap) l) {i : Nat} (hi : i < l.length) : ∃ g o, oa = some ⟨g, o, none⟩ ∧ g < W.heap.size ∧ ∀ j x, l[j]? = some x → ChgAt W g (o + j * 2) x := by
  rcases h with ⟨oa', cap', e, rfl⟩ | ⟨g, o, cap', e, hg, hx⟩
  · simp at hi
  · simp only [Value.slice.injEq] at e
    exact ⟨g, o, e.1, hg, hx⟩
theorem ChgAt.keep {W W' : World} {g o : Nat} {x : Chg} (h : ChgAt W g o x) (k : W'.heap[g]? = W.heap[g]?) : ChgAt W' g o x := ⟨(World.cell?_of_block (a := ⟨g, o, none⟩) k).trans h.c0, (World.cell?_of_block (a := ⟨g, o + 1, none⟩) k).trans h.c1⟩
section
variable {H : Type} {enc : TypeId × Value → H} {W : World}
theorem chg_add_plain (b o j : Nat) : (⟨b, o, none⟩ : Addr).add j = ⟨b, o + j, none⟩ := by unfold Addr.add; split <;> simp_all
set_option maxRecDepth 100000 in
theorem chg_of_cells {fuel : Nat} {cs : List Value} {x : DataW H × List MemPlace} (h : DataW.trod enc Tryd.prog W 0 (fun _ => true) true fuel 32 cs = some x) (hw : ∀ n ∈ x.1.weights Tryd.prog 32, n ≤ reachBytes) : ∃ o : Chg, o.Ok ∧ cs = o.cells := by
  obtain ⟨xs, n, _, rfl, hl, hlen, hf⟩ := DataW.trod_struct Tryd.underlying32 h
  have h6 : Tryd.prog.cellsOf 32 = 2 := by kernel_rfl
  rw [h6] at hl
  match xs, hlen with
  | [y0, y1], _ =>
  match cs, hl with
  | [d0, d1], _ =>
  have g : ∀ (i t o : Nat) (f : Field) (d : Value) (y : DataW H × List MemPlace), (match Tryd.prog.underlying 32 with | some (.struct fs) => fs[i]? | _ => none) = some f → f.type = t → f.offset = o → Tryd.prog.cellsOf t = 1 → (([d0, d1] : List Value).drop o).take 1 = [d] → ([y0, y1] : List (DataW H × List MemPlace))[i]? = some y → DataW.trod enc Tryd.prog W 0 (fun _ => true) true n t [d] = some y := fun i t o f d y h0 h1 h2 h3 h4 h5 => by
    rw [Tryd.underlying32] at h0
    have := hf i f h0
    rw [h1, h2, h3, h4, h5] at this
    exact this
  have f0 := g 0 3 0 _ d0 y0 (by rw [Tryd.underlying32]; rfl) rfl rfl (by kernel_rfl) rfl rfl
  have f1 := g 1 9 1 _ d1 y1 (by rw [Tryd.underlying32]; rfl) rfl rfl (by kernel_rfl) rfl rfl
  obtain ⟨a0, h0', _, w0⟩ := DataW.trod_int Tryd.underlying3 f0
  obtain ⟨a1, h1', e1, _⟩ := DataW.trod_string Tryd.underlying9 f1
  simp only [List.cons.injEq, and_true] at h0' h1'
  subst h0' h1' e1
  have w1 := hw _ (weights_field (ft := 9) (s := a1.data.toList) (i := 1) Tryd.underlying32 rfl rfl)
  have l1 : a1.data.toList.length = a1.size := by simp
  rw [l1] at w1
  exact ⟨⟨a0, a1⟩, ⟨w0, reach_le w1⟩, rfl⟩
set_option maxRecDepth 100000 in
theorem chgs_of_trod {v : Value} {d : DataW H} {p : List MemPlace} {base : Nat} (hok : Value.okWide Tryd.prog W .any base 23 v) (h : DataW.Trod enc Tryd.prog W 0 (fun _ => true) true 23 v d p) (hw : ∀ n ∈ d.weights Tryd.prog 23, n ≤ reachBytes) : ∃ l, Chgs W v l ∧ ∀ x ∈ l, x.Ok := by
  obtain ⟨a0, len, cap, rfl⟩ := okWide_slice Tryd.underlying23 hok
  obtain ⟨fuel, hf⟩ := h
  have hlt := DataW.trod_lt fuel _ _ _ hf
  have h6 : Tryd.prog.cellsOf 32 = 2 := by kernel_rfl
  rcases open_slice Tryd.underlying23 hf with ⟨hcs, hx⟩ | ⟨a, len', cap', m, n, D, Pl, hcs, _, hl, hm, hmm, hx0, hx⟩
  · simp [Value.cells] at hcs
    obtain ⟨rfl, rfl, rfl⟩ := hcs
    exact ⟨[], .inl ⟨none, 0, rfl, rfl⟩, by simp⟩
  · simp [Value.cells] at hcs
    obtain ⟨rfl, rfl, rfl⟩ := hcs
    simp only [if_true] at hmm
    by_cases h0 : len = 0
    · subst h0; exact ⟨[], .inl ⟨_, _, rfl, rfl⟩, by simp⟩
    rw [h6] at hx hx0
    simp only [Prod.mk.injEq] at hx0
    obtain ⟨hd0, hp0⟩ := hx0
    obtain ⟨b, off, spot⟩ := a
    have hsp : spot = none := by
      obtain ⟨cs', h1, h2⟩ := hx 0 (by omega)
      obtain ⟨_, hlen, hc⟩ := World.cells?_some h1
      have := hc 0 (by omega)
      rw [List.getElem?_eq_getElem (by omega)] at this
      simpa [Addr.add] using World.cell?_spot this
    subst hsp
    have hV : ∀ i, i < len → ∃ x : Chg, x.Ok ∧ ChgAt W b (off + i * 2) x := fun i hi => by
      obtain ⟨cs', h1, h2⟩ := hx i (by omega)
      obtain ⟨_, hlen, hc⟩ := World.cells?_some h1
      obtain ⟨x, hox, rfl⟩ := chg_of_cells h2 (fun k hk => hw k (by rw [hd0]; exact weights_slice (m := m) Tryd.underlying23 hi hk rfl))
      have g : ∀ c, c < 2 → W.cell? ⟨b, off + i * 2 + c, none⟩ = x.cells[c]? := fun c hc6 => by
        rw [← hc c hc6, chg_add_plain, chg_add_plain]
      exact ⟨x, hox, g 0 (by omega), g 1 (by omega)⟩
    obtain ⟨f, hf⟩ := choose_lt hV
    have hbW : b < W.heap.size := hlt (.cell b off) (by rw [hp0]; exact List.mem_append_left _ (MemPlace.mem_row.2 ⟨0, by omega, by simp⟩))
    refine ⟨(List.range len).map f, .inr ⟨b, off, cap, by simp, hbW, fun i u hu => ?_⟩, fun x hx => ?_⟩
    · rw [List.getElem?_map] at hu
      have hi : i < len := by
        by_cases hi : i < len
        · exact hi
        · rw [List.getElem?_eq_none (by simp; omega)] at hu; cases hu
      rw [List.getElem?_range hi] at hu
      simp only [Option.map_some, Option.some.injEq] at hu
      rw [← hu]
      exact (hf i hi).2
    · obtain ⟨i, hi, rfl⟩ := List.mem_map.1 hx
      exact (hf i (List.mem_range.1 hi)).1
end
theorem set_no {w0 w : World} {F H : Nat → Prop} {B T : Nat} {S : ByteArray} {l : List ByteArray} (t : TrOn realK w0 w F (fun _ => False) H B T S l) (i : Int) (hi : ¬ (0 ≤ i ∧ i < (l.length : Nat))) (s : ByteArray) :
    Calls Tryd.prog 8 #[.pointer (some ⟨T, 0, none⟩), .int .i64 i, .string s] w fun e w' => e = .returned (.int .i64 2) ∧ w' = w := by
  have hha := has_on t i
  rw [decide_eq_false hi] at hha
  clear t hi
  go_enter Tryd.func8, Tryd.ntmps8
  go_wp2_with fail
  refine hha.mono ?_
  rintro e w1 ⟨rfl, rfl⟩
  go_wp2
  go_ret
  exact ⟨rfl, rfl⟩
/-- How things stand between two changes. -/
structure SetsAt (w wr : World) (F H : Nat → Prop) (B1 B2 T n ca : Nat) (oa : Option Addr) (key : ByteArray) (ll : List ByteArray) : Prop where
  on : ∃ S, TrOn realK w wr F (fun _ => False) H B1 T S ll
  ref : RefR wr B2 key
  own : OwnL wr w.heap.size (.slice oa n ca) ll
  len : ll.length = n
  sz : ∀ x, x ∈ ll → x.size ≤ 1000
theorem SetsAt.beneath {w wr w' : World} {F H : Nat → Prop} {B1 B2 T n ca : Nat} {oa : Option Addr} {key : ByteArray} {ll : List ByteArray} (h : SetsAt w wr F H B1 B2 T n ca oa key ll) (hb : Below wr.heap.size wr w') : SetsAt w w' F H B1 B2 T n ca oa key ll := by
  obtain ⟨S, on⟩ := h.on
  exact ⟨⟨S, on.beneath realOk hb⟩, h.ref.keep hb, h.own.keep fun k _ hk _ => hb.block k hk, h.len, h.sz⟩
theorem SetsAt.below {w wr : World} {F H : Nat → Prop} {B1 B2 T n ca : Nat} {oa : Option Addr} {key : ByteArray} {ll : List ByteArray} (h : SetsAt w wr F H B1 B2 T n ca oa key ll) : Below w.heap.size w wr := by
  obtain ⟨S, on⟩ := h.on
  exact on.below
theorem own_block {w : World} {base g cap n : Nat} {l : List ByteArray} (h : OwnL w base (.slice (some ⟨g, 0, none⟩) n cap) l) : ∃ cur, w.heap[g]? = some (.cells cur 9 (0, 0)) := by
  rcases h.2 with ⟨e, _⟩ | ⟨g', cap', cur, e, _, hg, _⟩
  · cases e
  · have e1 := congrArg Addr.block (Option.some.inj (Value.slice.inj e).1)
    simp at e1
    exact ⟨cur, by rw [e1]; exact hg⟩
theorem row_apart {w : World} {B g t : Nat} {r : List Value} {cur : Array Value} {t' : TypeId} (h1 : Row w B t r) (h2 : w.heap[g]? = some (.cells cur t' (0, 0))) (ht : t ≠ t') : B ≠ g := fun e => by
  subst e
  rw [show w.heap[B]? = _ from h1] at h2
  injection h2 with h3
  injection h3 with _ h4
  exact ht h4
/-- A text of the list written anew, behind the tree's change. -/
theorem SetsAt.change {w wr w' : World} {F H : Nat → Prop} {B1 B2 T n ca g k : Nat} {key : ByteArray} {ll : List ByteArray} (h : SetsAt w wr F H B1 B2 T n ca (some ⟨g, 0, none⟩) key ll) {S' : ByteArray} {s : ByteArray} (on : TrOn realK w w' F (fun _ => False) H B1 T S' (ll.set k s)) (ht : Touch H wr w') (hs : s.size ≤ 1000) (hg : w.heap.size ≤ g ∧ ¬ H g ∧ ¬ F g) (hB : ¬ H B2) : SetsAt w (w'.setCell ⟨g, k, none⟩ (.string s)) F H B1 B2 T n ca (some ⟨g, 0, none⟩) key (ll.set k s) := by
  have hr : RefR w' B2 key := (ht.2 _ (Row.lt h.ref) hB).trans h.ref
  have ho : OwnL w' w.heap.size (.slice (some ⟨g, 0, none⟩) n ca) ll := h.own.keep fun q _ hq e => ht.2 q hq (by cases e; exact hg.2.1)
  obtain ⟨cur, hcur⟩ := own_block ho
  have hne : B2 ≠ g := row_apart hr hcur (by decide)
  refine ⟨⟨S', on.apart realOk (by rw [size_setCell]; exact Nat.le_refl _) (fun q _ hq => Below.heap_setCell w' ⟨g, k, none⟩ _ q (fun e => by subst e; rcases hq with h1 | h1; exact hg.2.2 h1; exact hg.2.1 h1)) (on.below.setCell (p := ⟨g, k, none⟩) hg.1 _)⟩, Row.off hr hne k _, ?_, by rw [List.length_set]; exact h.len, fun x hx => ?_⟩
  · have := h.len
    subst this
    exact OwnL.set ho s
  · rcases List.mem_or_eq_of_mem_set hx with h1 | h1
    · exact h.sz x h1
    · rw [h1]; exact hs
set_option maxHeartbeats 8000000 in
theorem walk_treeSets (v : Value) (l0 : List ByteArray) (vc : Value) (cs : List Chg) (w : World) (hf : Sm.First w) (hq : Sm.Cubes w) (hv : StrsV w v l0) (hc : Chgs w vc cs ∧ ∀ x ∈ cs, x.Ok) :
    Calls Tryd.prog 3 #[v, vc] w fun e w' => e = .returned (.bool true) ∧ Below w.heap.size w w' := by
  have hs1 := some_any v l0 40 (by decide) w hv
  obtain ⟨l, hA⟩ : ∃ l, l = someL l0 40 := ⟨_, rfl⟩
  have hal : l.length ≤ 40 := by rw [hA, someL_length]; omega
  have haz : ∀ x, x ∈ l → x.size ≤ 1000 := fun x hx => by rw [hA] at hx; have := someL_size l0 40 x hx; omega
  have HAZ : Hid (∀ x, x ∈ l → x.size ≤ 1000) := haz
  have HT : Hid (TabT w) := ⟨hf, hq⟩
  have HC : Hid (Chgs w vc cs ∧ ∀ x ∈ cs, x.Ok) := hc
  obtain ⟨oc, cc, rfl⟩ := hc.1.form
  obtain ⟨cl, hcl⟩ : ∃ cl, cl = cs.length := ⟨_, rfl⟩
  have HCL : Hid (cl = cs.length) := hcl
  rw [← hcl]
  rw [← hA] at hs1
  clear hv hA hf hq haz hc hcl
  go_enter Tryd.func3, Tryd.ntmps3
  go_wp2_with fail
  refine hs1.mono ?_
  rintro e w1 ⟨⟨va1, rfl, ho1⟩, hb1⟩
  obtain ⟨oa, ca, rfl⟩ := OwnL.form ho1
  have hrl := treal_any w1 (HT.out.below hb1)
  clear hs1
  go_wp2_with fail
  refine hrl.mono ?_
  rintro e w2 ⟨⟨B1, B2, key, rfl, hv1, hv2⟩, hb2⟩
  have hB2 : Below w.heap.size w w2 := hb1.trans (hb2.mono hb1.size)
  have oA : OwnL w2 w.heap.size (.slice oa l.length ca) l := OwnL.keep ho1 fun k _ hk _ => hb2.block k hk
  have hBt : ∀ k, (Value.slice oa l.length ca).ownBlock = some k → B1 ≠ k ∧ (∀ N, Row w2 N 73 [.string key] → N ≠ k) ∧ k ≠ 0 ∧ k ≠ 1 ∧ w.heap.size ≤ k ∧ k < w2.heap.size := fun k hk => by
    obtain ⟨_, g1⟩ : ∃ c, w2.heap[k]? = some (.cells c 9 (0, 0)) := by
      rcases oA.2 with ⟨e, _⟩ | ⟨g', cap', cur, e, _, hg, _⟩
      · rw [e] at hk; cases hk
      · rw [e] at hk; cases hk; exact ⟨cur, hg⟩
    obtain ⟨N, r1, r2⟩ := hv1
    have hlk := OwnL.lt oA hk
    have ht0 : 1 < w.heap.size := HT.out.2.1
    exact ⟨row_apart r1 g1 (by decide), fun N hN => row_apart hN g1 (by decide), by omega, by omega, hlk.1, hlk.2⟩
  have hk2 : realK.V w2 (fun k => k < w2.heap.size ∧ (Value.slice oa l.length ca).ownBlock ≠ some k) (fun _ => False) B1 key := by
    obtain ⟨N, r1, r2⟩ := hv1
    have ht2 := HT.out.below hB2
    exact ⟨⟨N, r1, r2, ⟨Row.lt r1, fun e => (hBt _ e).1 rfl⟩, ⟨Row.lt r2, fun e => (hBt _ e).2.1 N r2 rfl⟩⟩, ht2, ⟨ht2.1.1, fun e => (hBt _ e).2.2.1 rfl⟩, ⟨ht2.2.1, fun e => (hBt _ e).2.2.2.1 rfl⟩⟩
  have hnw := new_on realOk (w0 := w) (w := w2) (F := fun k => k < w2.heap.size ∧ (Value.slice oa l.length ca).ownBlock ≠ some k) (G := fun _ => False) (B := B1) (S := key) oa ca l (oA.lv fun k hk hg => hg) (by omega) HAZ.out (Nat.zero_le _) (fun k hk => hk.1) (fun k hk => hk.elim) hk2 hB2
  have HR2 : Hid (RefR w2 B2 key ∧ OwnL w2 w.heap.size (.slice oa l.length ca) l) := ⟨hv2, oA⟩
  have HGO : Hid (∀ k, (Value.slice oa l.length ca).ownBlock = some k → w.heap.size ≤ k ∧ k < w2.heap.size) := fun k hk => (hBt k hk).2.2.2.2
  clear hrl hv1 hv2 hb1 hb2 ho1 oA hk2 hB2 hBt
  obtain ⟨n, hn⟩ : ∃ n, n = l.length := ⟨_, rfl⟩
  have HN : Hid (n = l.length) := hn
  rw [← hn] at hal hnw HGO ⊢
  clear hn
  go_wp2_with fail
  refine hnw.mono ?_
  rintro e w3 ⟨S3, T, rfl, on3, t3, _, _⟩
  have hb3 : Below w2.heap.size w2 w3 := t3.below (Nat.le_refl _) fun k hk => hk.elim
  have HGG : Hid ((∀ k, (Value.slice oa n ca).ownBlock = some k → w.heap.size ≤ k ∧ ¬ (fun k => w2.heap.size ≤ k ∧ k < w3.heap.size) k ∧ ¬ (fun k => k < w2.heap.size ∧ (Value.slice oa n ca).ownBlock ≠ some k) k) ∧ ¬ (fun k => w2.heap.size ≤ k ∧ k < w3.heap.size) B2 ∧ ∀ k, (fun k => w2.heap.size ≤ k ∧ k < w3.heap.size) k → k < w3.heap.size) :=
    ⟨fun k hk => ⟨(HGO.out k hk).1, fun h => by have := (HGO.out k hk).2; omega, fun h => h.2 hk⟩, fun h => by have := Row.lt HR2.out.1; omega, fun k hk => hk.2⟩
  have HSt : Hid (SetsAt w w3 (fun k => k < w2.heap.size ∧ (Value.slice oa n ca).ownBlock ≠ some k) (fun k => w2.heap.size ≤ k ∧ k < w3.heap.size) B1 B2 T n ca oa key l) :=
    ⟨⟨S3, on3⟩, HR2.out.1.keep hb3, by have := OwnL.keep HR2.out.2 fun k _ hk _ => hb3.block k hk; rwa [← HN.out] at this, HN.out.symm, HAZ.out⟩
  clear hnw t3 on3 HR2 HGO
  generalize (fun k => w2.heap.size ≤ k ∧ k < w3.heap.size) = H at *
  generalize (fun k => k < w2.heap.size ∧ (Value.slice oa n ca).ownBlock ≠ some k) = F at *
  clear hb3
  go_wp2_with fail
  go_loopw [8] (fun iv wr => ∃ (j : Nat) (ll : List ByteArray), j ≤ cl ∧ iv = .int .i64 (j : Int) ∧ w3.heap.size ≤ wr.heap.size ∧ SetsAt w wr F H B1 B2 T n ca oa key ll) (fun iv _ => cl - (intOf iv).toNat)
  case atStart => exact ⟨0, l, Nat.zero_le _, rfl, Nat.le_refl _, HSt.out⟩
  case round =>
    clear HSt
    obtain ⟨j, ll, hj, rfl, hzr, hst⟩ := hrel
    have HSt : Hid (SetsAt w wr F H B1 B2 T n ca oa key ll) := hst
    by_cases hlt : j < cl ∧ j < 20
    · have j1 : (j : Int) < (cl : Nat) := by omega
      have j2 : (j : Int) < 20 := by omega
      obtain ⟨g, o, e, hg, hx⟩ := HC.out.1.get (i := j) (by rw [← HCL.out]; exact hlt.1)
      subst e
      obtain ⟨x, hxj⟩ : ∃ x, cs[j]? = some x := ⟨_, List.getElem?_eq_getElem (by rw [← HCL.out]; exact hlt.1)⟩
      obtain ⟨c0, c1⟩ := (hx j x hxj).keep (hst.below.block g hg)
      have hok := HC.out.2 x (List.mem_of_getElem? hxj)
      obtain ⟨at_, s⟩ := x
      simp only at c0 c1
      obtain ⟨z, hz⟩ : ∃ z, z = wr.heap.size := ⟨_, rfl⟩
      have HZ : Hid (wr.heap.size = z) := hz.symm
      have hcut : (64 < s.size ∧ s.extract 0 64 = cut64 s) ∨ (¬ 64 < s.size ∧ s = cut64 s) := by
        by_cases h : 64 < s.size
        · exact .inl ⟨h, by simp [cut64, h]⟩
        · exact .inr ⟨h, by simp [cut64, h]⟩
      have hcz := cut64_size s
      have HRA : Hid (∀ s', Row (wr.alloc (.cells #[.int .i64 at_, .string s'] 32)) z 32 [.int .i64 at_, .string s'] ∧ Below wr.heap.size wr (wr.alloc (.cells #[.int .i64 at_, .string s'] 32))) := fun s' => by rw [hz]; exact ⟨heap_alloc_new wr _, (Below.refl _ _).alloc (Nat.le_refl _) _⟩
      clear hst hx hxj hok hlt hz
      obtain ⟨s', hs'⟩ : ∃ s', s' = cut64 s := ⟨_, rfl⟩
      have HS' : Hid (s'.size ≤ 64) := by rw [hs']; exact hcz
      rw [← hs'] at hcut
      clear hs' hcz
      rcases hcut with ⟨hc64, he⟩ | ⟨hc64, he⟩
      case' inl =>
        have l1 : (64 : Int) < (s.size : Int) := by omega
        have l2 : (64 : Int) ≤ (s.size : Int) := by omega
        go_wp2_with fail
        rw [HZ.out]
        have hrow := (HRA.out s').1
        have hbc := (HRA.out s').2
        clear HRA he hc64 l1 l2 c0 c1
        generalize wr.alloc (.cells #[.int .i64 at_, .string s'] 32) = wc at *
      case' inr =>
        have l1 : ¬ (64 : Int) < (s.size : Int) := by omega
        have he := he.symm
        subst he
        go_wp2_with fail
        rw [HZ.out]
        have hrow := (HRA.out s').1
        have hbc := (HRA.out s').2
        clear HRA he hc64 l1 c0 c1
        generalize wr.alloc (.cells #[.int .i64 at_, .string s'] 32) = wc at *
      all_goals
        have hstc := HSt.out.beneath hbc
        have hzc : z < wc.heap.size := Row.lt hrow
        have hzH : ¬ H z := fun h => by have := HGG.out.2.2 z h; have := HZ.out; omega
        have hsc := hbc.size
        by_cases hin : 0 ≤ at_ ∧ at_ < (n : Int)
        · obtain ⟨k, rfl⟩ : ∃ k : Nat, at_ = k := ⟨at_.toNat, by omega⟩
          have hk : k < ll.length := by rw [hstc.len]; omega
          obtain ⟨S5, on5⟩ := hstc.on
          have hset := set_on on5 k hk s' (by have := HS'.out; omega) (by rw [hstc.len]; omega)
          have HST : Hid (SetsAt w wc F H B1 B2 T n ca oa key ll ∧ Row wc z 32 [.int .i64 (k : Int), .string s']) := ⟨hstc, hrow⟩
          have k1 : (k : Int) < (n : Nat) := hin.2
          have k2 : decide (n ≤ k) = false := decide_eq_false (by omega)
          have HKL : Hid (k < ll.length) := hk
          clear hstc hrow hbc on5 hin hk
          refine hset.mono ?_
          rintro e w5 ⟨S6, rfl, on6, t6⟩
          have hrow5 : Row w5 z 32 [.int .i64 (k : Int), .string s'] := (t6.2 z hzc hzH).trans HST.out.2
          have d0 : w5.cell? ⟨z, 0, none⟩ = some (.int .i64 (k : Int)) := Row.cell hrow5 0
          have d1 : w5.cell? ⟨z, 1, none⟩ = some (.string s') := Row.cell hrow5 1
          obtain ⟨x, hx⟩ : ∃ x, ll[k]? = some x := ⟨_, List.getElem?_eq_getElem HKL.out⟩
          have own5 : OwnL w5 w.heap.size (.slice oa n ca) ll := HST.out.1.own.keep fun q _ hq e => t6.2 q hq (HGG.out.1 q e).2.1
          obtain ⟨gl, rfl, hg1, hg2, hcx, hfx⟩ := (show OwnL w5 w.heap.size (.slice oa ll.length ca) ll by rw [HST.out.1.len]; exact own5).cell hx
          have HN6 : Hid (SetsAt w (w5.setCell ⟨gl, k, none⟩ (.string s')) F H B1 B2 T n ca (some ⟨gl, 0, none⟩) key (ll.set k s')) := HST.out.1.change on6 t6 (by have := HS'.out; omega) (HGG.out.1 gl rfl) HGG.out.2.1
          have hz6 : wr.heap.size ≤ w5.heap.size := Nat.le_trans hsc t6.size
          clear hset on6 t6 hrow5 own5 hx HST
          obtain ⟨w6, hw6⟩ : ∃ w6, w5.setCell ⟨gl, k, none⟩ (.string s') = w6 := ⟨_, rfl⟩
          have hz66 : wr.heap.size ≤ w6.heap.size := by rw [← hw6, size_setCell]; exact hz6
          rw [hw6] at HN6
          generalize hll : ll.set k s' = l6 at HN6
          have h6 := HN6.out
          obtain ⟨S7, on7⟩ := h6.on
          have hrt := root_on realOk on7 (by rw [h6.len]; omega) (Nat.zero_le _)
          clear hll h6 on7
          have HW6 : Hid (w5.setCell ⟨gl, k, none⟩ (.string s') = w6) := hw6
          clear hw6
          go_wp2_with fail
          try rw [HW6.out]
          refine hrt.mono ?_
          rintro e w7 ⟨S8, rfl, on8, t8, _, _, _⟩
          have hb8 : Below w6.heap.size w6 w7 := t8.below (Nat.le_refl _) fun k hk => hk.elim
          have h7 := HN6.out.beneath hb8
          have hrr := rroot_any (realRV B2 key) realH_size w7 (some ⟨gl, 0, none⟩) ca l6 (by have := h7.own; rw [← h7.len] at this; exact this.lv fun k hk hg => hg) (by rw [h7.len]; omega) h7.sz h7.ref
          have ht8 : realK.h S8 (rootT l6.length (topS (realK.h S8) l6)) = realH (rootT l6.length (topS realH l6)) := rfl
          rw [ht8]
          have hcm := cmp_is (realH (rootT l6.length (topS realH l6))) (realH (rootT l6.length (topS realH l6)))
          rw [decide_eq_true rfl] at hcm
          generalize realH (rootT l6.length (topS realH l6)) = Y at *
          rw [h7.len] at hrr
          have H7 : Hid (SetsAt w w7 F H B1 B2 T n ca (some ⟨gl, 0, none⟩) key l6 ∧ w3.heap.size ≤ w7.heap.size) := ⟨h7, by have := hb8.size; omega⟩
          clear hrt on8 t8 hb8 h7 ht8 HN6 hcx hfx d0 d1
          go_wp2_with fail
          refine hrr.mono ?_
          rintro e w8 ⟨rfl, hb9⟩
          have HF : Hid (SetsAt w w8 F H B1 B2 T n ca (some ⟨gl, 0, none⟩) key l6 ∧ w3.heap.size ≤ w8.heap.size) := ⟨H7.out.1.beneath hb9, by have := hb9.size; have := H7.out.2; omega⟩
          clear hrr hb9 H7
          go_wp2
          go_roundw
          case rel => exact ⟨j + 1, l6, by omega, by go_num, HF.out.2, HF.out.1⟩
          case measure => simp [intOf]; omega
        · obtain ⟨S5, on5⟩ := hstc.on
          have hset := set_no on5 at_ (by rw [hstc.len]; exact hin) s'
          have d0 : wc.cell? ⟨z, 0, none⟩ = some (.int .i64 at_) := Row.cell hrow 0
          have HF : Hid (SetsAt w wc F H B1 B2 T n ca oa key ll ∧ w3.heap.size ≤ wc.heap.size) := ⟨hstc, by omega⟩
          clear hstc on5 hrow hbc
          refine hset.mono ?_
          rintro e w5 ⟨rfl, rfl⟩
          clear hset
          by_cases h0 : at_ < 0
          · clear hin
            go_wp2
            go_roundw
            case rel => exact ⟨j + 1, ll, by omega, by go_num, HF.out.2, HF.out.1⟩
            case measure => simp [intOf]; omega
          · have h1 : decide (at_ < 0) = false := decide_eq_false h0
            have h2 : (n : Int) ≤ at_ := by omega
            clear hin
            go_wp2
            go_roundw
            case rel => exact ⟨j + 1, ll, by omega, by go_num, HF.out.2, HF.out.1⟩
            case measure => simp [intOf]; omega
    · obtain ⟨S7, on7⟩ := hst.on
      have hrt := root_on realOk on7 (by rw [hst.len]; omega) (Nat.zero_le _)
      clear hst on7
      have hj2 : (¬ (j : Int) < (cl : Nat)) ∨ ((j : Int) < (cl : Nat) ∧ decide ((j : Int) < 20) = false) := by
        by_cases h : j < cl
        · exact .inr ⟨by omega, decide_eq_false (by omega)⟩
        · exact .inl (by omega)
      clear hlt
      rcases hj2 with j1 | ⟨j1, j2⟩
      all_goals
        go_wp2_with fail
        refine hrt.mono ?_
        rintro e w7 ⟨S8, rfl, on8, t8, _, _, _⟩
        have hb8 : Below wr.heap.size wr w7 := t8.below (Nat.le_refl _) fun k hk => hk.elim
        have h7 := HSt.out.beneath hb8
        have hrr := rroot_any (realRV B2 key) realH_size w7 oa ca ll (by have := h7.own; rw [← h7.len] at this; exact this.lv fun k hk hg => hg) (by rw [h7.len]; omega) h7.sz h7.ref
        have ht8 : realK.h S8 (rootT ll.length (topS (realK.h S8) ll)) = realH (rootT ll.length (topS realH ll)) := rfl
        rw [ht8]
        have hcm := cmp_is (realH (rootT ll.length (topS realH ll))) (realH (rootT ll.length (topS realH ll)))
        rw [decide_eq_true rfl] at hcm
        generalize realH (rootT ll.length (topS realH ll)) = Y at *
        rw [h7.len] at hrr
        have HB7 : Hid (Below w.heap.size w w7) := h7.below
        clear hrt on8 t8 hb8 h7 ht8
        go_wp2_with fail
        refine hrr.mono ?_
        rintro e w8 ⟨rfl, hb9⟩
        have HB8 : Hid (Below w.heap.size w w8) := HB7.out.trans (hb9.mono HB7.out.size)
        clear hrr hb9 HB7
        go_wp2_with fail
        refine (tawake_any _).mono ?_
        rintro e w9 ⟨rfl, hb9⟩
        have HF : Hid (Below w.heap.size w w9) := HB8.out.trans (hb9.mono HB8.out.size)
        clear hb9
        go_wp2
        go_ret
        exact ⟨rfl, HF.out⟩
end Go.Proofs.YtgokehbdappcdaaDoor
