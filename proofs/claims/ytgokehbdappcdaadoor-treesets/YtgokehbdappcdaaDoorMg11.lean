/- A tree in memory, and New, over any vault whose Hash is told. -/
import Derived.Test.YtgokehbdappcdaaDoorMg09
import Derived.Maps.AppendAt
namespace Go.Proofs.YtgokehbdappcdaaDoor
set_option maxRecDepth 20000
open Go.RowKit

def rowC (g : Nat) (r : List ByteArray) : Value := .slice (some ⟨g, 0, none⟩) r.length r.length
def rowsC (gs : List Nat) (rows : List (List ByteArray)) : List Value := List.zipWith rowC gs rows
theorem rowsC_get {gs : List Nat} {rows : List (List ByteArray)} {k g : Nat} {r : List ByteArray} (hg : gs[k]? = some g) (hr : rows[k]? = some r) : (rowsC gs rows)[k]? = some (rowC g r) := by
  unfold rowsC
  rw [List.getElem?_zipWith, hg, hr]
theorem rowsC_snoc {gs : List Nat} {rows : List (List ByteArray)} (h : gs.length = rows.length) (g : Nat) (r : List ByteArray) : rowsC gs rows ++ [rowC g r] = rowsC (gs ++ [g]) (rows ++ [r]) := by
  unfold rowsC
  rw [List.zipWith_append h]
  rfl
/-- A tree in block T, over the vault in block B: rv the slice of its rows, gs their blocks; H: all its blocks. -/
structure TrAt (w : World) (H : Nat → Prop) (T B : Nat) (rv : Value) (gs : List Nat) (rows : List (List ByteArray)) : Prop where
  obj : Row w T 52 [.pointer (some ⟨B, 0, none⟩), rv]
  owns : w.ownsRow 0 22 1 rv rows.length (rowsC gs rows)
  len : gs.length = rows.length
  row : ∀ (k g : Nat) (r : List ByteArray), gs[k]? = some g → rows[k]? = some r → RowS w g r
  hT : H T
  hR : ∀ g, rv.ownBlock = some g → H g
  hG : ∀ g, g ∈ gs → H g
  nT : ∀ g, g ∈ gs → g ≠ T
  nR : ∀ g, g ∈ gs → rv.ownBlock ≠ some g
  nTR : rv.ownBlock ≠ some T
  inj : ∀ (i j g : Nat), gs[i]? = some g → gs[j]? = some g → i = j
theorem TrAt.keep {w w' : World} {H : Nat → Prop} {T B : Nat} {rv : Value} {gs : List Nat} {rows : List (List ByteArray)} (t : TrAt w H T B rv gs rows) (hk : ∀ k, k < w.heap.size → H k → w'.heap[k]? = w.heap[k]?) : TrAt w' H T B rv gs rows :=
  ⟨(hk T (lt_of_block t.obj) t.hT).trans t.obj, owns_keep t.owns fun g hg => hk g (owns_lt t.owns g hg) (t.hR g hg), t.len, fun k g r h1 h2 => (t.row k g r h1 h2).keep (hk g (t.row k g r h1 h2).lt (t.hG g (List.mem_of_getElem? h1))), t.hT, t.hR, t.hG, t.nT, t.nR, t.nTR, t.inj⟩
theorem TrAt.mono {w : World} {H H' : Nat → Prop} {T B : Nat} {rv : Value} {gs : List Nat} {rows : List (List ByteArray)} (t : TrAt w H T B rv gs rows) (hk : ∀ k, H k → H' k) : TrAt w H' T B rv gs rows :=
  ⟨t.obj, t.owns, t.len, t.row, hk _ t.hT, fun g hg => hk _ (t.hR g hg), fun g hg => hk _ (t.hG g hg), t.nT, t.nR, t.nTR, t.inj⟩
theorem TrAt.below {w w' : World} {H : Nat → Prop} {T B : Nat} {rv : Value} {gs : List Nat} {rows : List (List ByteArray)} (t : TrAt w H T B rv gs rows) (hb : Below w.heap.size w w') : TrAt w' H T B rv gs rows := t.keep fun k hk _ => hb.block k hk
/-- How the slice of the rows looks. -/
theorem TrAt.form {w : World} {H : Nat → Prop} {T B : Nat} {rv : Value} {gs : List Nat} {rows : List (List ByteArray)} (t : TrAt w H T B rv gs rows) (hn : 0 < rows.length) : ∃ ra cap, rv = .slice (some ⟨ra, 0, none⟩) rows.length cap ∧ rows.length ≤ cap ∧ ∀ (k g : Nat) (r : List ByteArray), gs[k]? = some g → rows[k]? = some r → w.cell? ⟨ra, k, none⟩ = some (.slice (some ⟨g, 0, none⟩) r.length r.length) := by
  obtain ⟨ra, cap, e, hc, hcell⟩ := owns_form t.owns hn
  exact ⟨ra, cap, e, hc, fun k g r h1 h2 => hcell k _ (rowsC_get h1 h2)⟩
theorem TrAt.c0 {w : World} {H : Nat → Prop} {T B : Nat} {rv : Value} {gs : List Nat} {rows : List (List ByteArray)} (t : TrAt w H T B rv gs rows) : w.cell? ⟨T, 0, none⟩ = some (.pointer (some ⟨B, 0, none⟩)) := Row.cell t.obj 0
theorem TrAt.c1 {w : World} {H : Nat → Prop} {T B : Nat} {rv : Value} {gs : List Nat} {rows : List (List ByteArray)} (t : TrAt w H T B rv gs rows) : w.cell? ⟨T, 1, none⟩ = some rv := Row.cell t.obj 1
theorem RowS.off {w : World} {g b : Nat} {r : List ByteArray} (h : RowS w g r) (hb : g ≠ b) (i : Nat) (v : Value) : RowS (w.setCell ⟨b, i, none⟩ v) g r := Row.off h hb i v
theorem size_setCell (w : World) (a : Addr) (v : Value) : (w.setCell a v).heap.size = w.heap.size := by simp [World.setCell]
/-- A row more. -/
theorem TrAt.append {w w' : World} {N T B g : Nat} {rv rv' : Value} {gs : List Nat} {rows : List (List ByteArray)} {r : List ByteArray} {x : Obj} (t : TrAt w (fun k => N ≤ k ∧ k < w.heap.size) T B rv gs rows) (hg : RowS w g r) (hgN : N ≤ g) (hgs : g ∉ gs) (hgT : g ≠ T) (hgR : rv.ownBlock ≠ some g)
    (hown : w'.ownsRow 0 22 1 rv' (rows.length + 1) (rowsC gs rows ++ [rowC g r])) (hgr : (w.alloc x).grownBy w' rv.ownBlock) (hat : rv'.ownBlock = rv.ownBlock ∨ rv'.ownBlock = some (w.alloc x).heap.size) :
    TrAt (w'.setCell ⟨T, 1, none⟩ rv') (fun k => N ≤ k ∧ k < (w'.setCell ⟨T, 1, none⟩ rv').heap.size) T B rv' (gs ++ [g]) (rows ++ [r]) ∧ Below N w (w'.setCell ⟨T, 1, none⟩ rv') := by
  have hz : (w.alloc x).heap.size = w.heap.size + 1 := by simp
  have hz2 := hgr.size
  have kp : ∀ k, k < w.heap.size → rv.ownBlock ≠ some k → w'.heap[k]? = w.heap[k]? := fun k hk hn => (hgr.block k (by omega) fun e => hn e.symm).trans (Below.heap_alloc w x k hk)
  have lT : T < w.heap.size := t.hT.2
  have ho' : ∀ k, k < w.heap.size → rv.ownBlock ≠ some k → rv'.ownBlock ≠ some k := fun k hk hn => by
    rcases hat with e | e
    · rw [e]; exact hn
    · rw [e]; intro e2; have := Option.some.inj e2; omega
  have lR : ∀ k, rv'.ownBlock = some k → N ≤ k ∧ k < w'.heap.size := fun k hk => ⟨by
    rcases hat with e | e
    · exact (t.hR k (e.symm.trans hk)).1
    · rw [e] at hk; have := Option.some.inj hk; have := t.hT.1; omega, owns_lt hown k hk⟩
  have lw : w.heap.size ≤ w'.heap.size := by omega
  refine ⟨⟨?_, ?_, by simp [t.len], ?_, ⟨t.hT.1, by rw [size_setCell]; omega⟩, fun k hk => by rw [size_setCell]; exact lR k hk, ?_, ?_, ?_, ho' T lT t.nTR, ?_⟩, ?_⟩
  · exact Row.setL (l := [.pointer (some ⟨B, 0, none⟩), rv]) ((kp T lT t.nTR).trans t.obj) 1 rv'
  · rw [← rowsC_snoc t.len, List.length_append]
    exact owns_off hown (ho' T lT t.nTR) 1 rv'
  · intro k g' r' h1 h2
    by_cases hk : k < gs.length
    · rw [List.getElem?_append_left hk] at h1
      rw [List.getElem?_append_left (by rw [← t.len]; exact hk)] at h2
      have hm := List.mem_of_getElem? h1
      exact ((t.row k g' r' h1 h2).keep (kp g' (t.hG g' hm).2 (t.nR g' hm))).off (t.nT g' hm) 1 rv'
    · have hk2 : k = gs.length := by
        have := (List.getElem?_eq_some_iff.1 h1).1
        simp at this
        omega
      subst hk2
      rw [List.getElem?_append_right (Nat.le_refl _), Nat.sub_self] at h1
      rw [t.len, List.getElem?_append_right (Nat.le_refl _), Nat.sub_self] at h2
      obtain rfl : g = g' := Option.some.inj h1
      obtain rfl : r = r' := Option.some.inj h2
      exact (hg.keep (kp g hg.lt hgR)).off hgT 1 rv'
  · intro k hk
    rw [size_setCell]
    rcases List.mem_append.1 hk with h | h
    · exact ⟨(t.hG k h).1, Nat.lt_of_lt_of_le (t.hG k h).2 lw⟩
    · obtain rfl := List.mem_singleton.1 h
      exact ⟨hgN, Nat.lt_of_lt_of_le hg.lt lw⟩
  · intro k hk
    rcases List.mem_append.1 hk with h | h
    · exact t.nT k h
    · obtain rfl := List.mem_singleton.1 h
      exact hgT
  · intro k hk
    rcases List.mem_append.1 hk with h | h
    · exact ho' k (t.hG k h).2 (t.nR k h)
    · obtain rfl := List.mem_singleton.1 h
      exact ho' k hg.lt hgR
  · intro i j k h1 h2
    have li := (List.getElem?_eq_some_iff.1 h1).1
    have lj := (List.getElem?_eq_some_iff.1 h2).1
    simp at li lj
    by_cases hi : i < gs.length
    · rw [List.getElem?_append_left hi] at h1
      by_cases hj : j < gs.length
      · rw [List.getElem?_append_left hj] at h2
        exact t.inj i j k h1 h2
      · have : j = gs.length := by omega
        subst this
        rw [List.getElem?_append_right (Nat.le_refl _), Nat.sub_self] at h2
        obtain rfl : g = k := Option.some.inj h2
        exact absurd (List.mem_of_getElem? h1) hgs
    · have : i = gs.length := by omega
      subst this
      rw [List.getElem?_append_right (Nat.le_refl _), Nat.sub_self] at h1
      obtain rfl : g = k := Option.some.inj h1
      by_cases hj : j < gs.length
      · rw [List.getElem?_append_left hj] at h2
        exact absurd (List.mem_of_getElem? h2) hgs
      · omega
  · refine Below.setCell (p := ⟨T, 1, none⟩) ?_ (t.hT.1 : N ≤ T) _
    exact ⟨hgr.os, hgr.tape, hgr.output, lw, fun k hk => kp k (by have := t.hT.1; omega) fun e => absurd (t.hR k e).1 (by omega)⟩
/-- A slice of texts, in blocks that G leaves alone. -/
def Lv (w : World) (G : Nat → Prop) (oa : Option Addr) (l : List ByteArray) : Prop := ∀ i x, l[i]? = some x → ∃ bk o, oa = some ⟨bk, o, none⟩ ∧ bk < w.heap.size ∧ ¬ G bk ∧ w.cell? ⟨bk, o + i, none⟩ = some (.string x)
theorem Lv.touch {w w' : World} {G : Nat → Prop} {oa : Option Addr} {l : List ByteArray} (h : Lv w G oa l) (t : Touch G w w') : Lv w' G oa l := fun i x hx => by
  obtain ⟨bk, o, h1, h2, h3, h4⟩ := h i x hx
  exact ⟨bk, o, h1, Nat.lt_of_lt_of_le h2 t.size, h3, (World.cell?_of_block (a := ⟨bk, o + i, none⟩) (t.2 bk h2 h3)).trans h4⟩
section
variable {σ : Type} {K : HK σ}
theorem new_first (w : World) (B g : Nat) (r : List ByteArray) (hg : RowS w g r) (N : Nat) (hN : N ≤ g) :
    TrAt ((w.alloc (.cells #[.slice (some ⟨g, 0, none⟩) r.length r.length] 22)).alloc (.cells #[.pointer (some ⟨B, 0, none⟩), .slice (some ⟨w.heap.size, 0, none⟩) 1 1] 52)) (fun k => N ≤ k ∧ k < w.heap.size + 2) (w.heap.size + 1) B (.slice (some ⟨w.heap.size, 0, none⟩) 1 1) [g] [r] := by
  have lg := hg.lt
  have z1 : (w.alloc (.cells #[.slice (some ⟨g, 0, none⟩) r.length r.length] 22)).heap.size = w.heap.size + 1 := by simp
  have h1 : ((w.alloc (.cells #[.slice (some ⟨g, 0, none⟩) r.length r.length] 22)).alloc (.cells #[.pointer (some ⟨B, 0, none⟩), .slice (some ⟨w.heap.size, 0, none⟩) 1 1] 52)).heap[w.heap.size + 1]? = some (.cells #[.pointer (some ⟨B, 0, none⟩), .slice (some ⟨w.heap.size, 0, none⟩) 1 1] 52 (0, 0)) := by
    rw [← z1]
    exact heap_alloc_new _ _
  have h2 : ((w.alloc (.cells #[.slice (some ⟨g, 0, none⟩) r.length r.length] 22)).alloc (.cells #[.pointer (some ⟨B, 0, none⟩), .slice (some ⟨w.heap.size, 0, none⟩) 1 1] 52)).heap[w.heap.size]? = some (.cells #[.slice (some ⟨g, 0, none⟩) r.length r.length] 22 (0, 0)) := by
    rw [Below.heap_alloc _ _ _ (by omega)]
    exact heap_alloc_new _ _
  have h3 : ((w.alloc (.cells #[.slice (some ⟨g, 0, none⟩) r.length r.length] 22)).alloc (.cells #[.pointer (some ⟨B, 0, none⟩), .slice (some ⟨w.heap.size, 0, none⟩) 1 1] 52)).heap[g]? = w.heap[g]? := by
    rw [Below.heap_alloc _ _ _ (by omega), Below.heap_alloc _ _ _ lg]
  refine ⟨h1, ?_, rfl, ?_, ⟨by omega, by omega⟩, ?_, ?_, ?_, ?_, ?_, ?_⟩
  · exact ⟨rfl, .inr ⟨w.heap.size, 1, #[.slice (some ⟨g, 0, none⟩) r.length r.length], rfl, Nat.zero_le _, h2, Nat.le_refl _, by decide, rfl, rfl⟩⟩
  · intro k g' r' e1 e2
    cases k with
    | zero =>
      obtain rfl : g = g' := Option.some.inj e1
      obtain rfl : r = r' := Option.some.inj e2
      exact hg.keep h3
    | succ k => simp at e1
  · intro k hk
    have : k = w.heap.size := by simpa [Value.ownBlock] using hk.symm
    omega
  · intro k hk
    obtain rfl := List.mem_singleton.1 hk
    exact ⟨hN, by omega⟩
  · intro k hk
    obtain rfl := List.mem_singleton.1 hk
    omega
  · intro k hk
    obtain rfl := List.mem_singleton.1 hk
    simp [Value.ownBlock]
    omega
  · simp [Value.ownBlock]
  · intro i j k e1 e2
    cases i with
    | zero => cases j with
      | zero => rfl
      | succ j => simp at e2
    | succ i => simp at e1
theorem tr_info_row : (Tryd.prog.info? 22).map (fun i => (i.zero, i.size, i.bytes)) = some (some (.slice none 0 0), 1, 24) := by kernel_rfl
theorem leaf_row (h : ByteArray → ByteArray) (l : List ByteArray) : (List.range l.length).map (fun i => h (leafT (l.getD i ⟨#[]⟩))) = rowAt h l 0 := by
  apply List.ext_getElem?
  intro i
  rw [rowAt_get0, List.getElem?_map]
  by_cases hi : i < l.length
  · rw [List.getElem?_range hi, List.getElem?_eq_getElem hi]
    simp [List.getD, hi]
  · rw [List.getElem?_eq_none (by simpa using hi), List.getElem?_eq_none (by omega)]
    rfl
def NewPost (K : HK σ) (w : World) (F G : Nat → Prop) (B : Nat) (S : σ) (l : List ByteArray) (e : Ending) (w' : World) : Prop :=
  ∃ S' T rv gs, e = .returned (.pointer (some ⟨T, 0, none⟩)) ∧ K.V w' F G B S' ∧ TrAt w' (fun k => w.heap.size ≤ k ∧ k < w'.heap.size) T B rv gs (rowsUp (K.h S') l (hgt l.length)) ∧ TreeInK (K.D S') (K.h S') l (hgt l.length) ∧ Touch G w w' ∧ K.ext S S' ∧ K.n S' ≤ K.n S + (hgt l.length + 1) * l.length
set_option maxHeartbeats 2000000 in
theorem treeNew_any (o : HKOk K) (w : World) (F G : Nat → Prop) (B : Nat) (S : σ) (oa : Option Addr) (c : Nat) (l : List ByteArray) (hlv : Lv w G oa l) (hlen : l.length ≤ 200) (hs : ∀ x, x ∈ l → x.size ≤ 1000) (hn : K.n S ≤ 500000) (hF : ∀ k, F k → k < w.heap.size) (hG : ∀ k, G k → k < w.heap.size) (v : K.V w F G B S) :
    Calls Tryd.prog 7 #[.pointer (some ⟨B, 0, none⟩), .slice oa l.length c] w (NewPost K w F G B S l) := by
  obtain ⟨m, hm⟩ : ∃ m, m = l.length := ⟨_, rfl⟩
  have hmk := run_make_strs m (by omega) w
  obtain ⟨w1, hw1⟩ : ∃ w1, w.alloc (.cells (madeCells #[.string ⟨#[]⟩] m) 9) = w1 := ⟨_, rfl⟩
  have hr1 : RowS w1 w.heap.size (partR (fun i => K.h S (leafT (l.getD i ⟨#[]⟩))) m 0) := by rw [← hw1]; exact made_strs w _ m
  have hb1 : Below w.heap.size w w1 := by rw [← hw1]; exact (Below.refl _ _).alloc (Nat.le_refl _) _
  rw [hw1] at hmk
  have HI : Hid (K.V w1 F G B S ∧ RowS w1 w.heap.size (partR (fun i => K.h S (leafT (l.getD i ⟨#[]⟩))) m 0) ∧ Touch G w w1) := ⟨o.below v hb1, hr1, Touch.of_below hb1⟩
  have HM : Hid (m = l.length) := hm
  rw [← hm] at hlen ⊢
  clear v hr1 hb1 hw1 hm
  go_enter Tryd.func7, Tryd.ntmps7
  go_wp2_with fail
  go_loopw [13] (fun v wr => ∃ (j : Nat) (Sj : σ), j ≤ m ∧ v = .int .i64 (j : Int) ∧ K.V wr F G B Sj ∧ RowS wr w.heap.size (partR (fun i => K.h Sj (leafT (l.getD i ⟨#[]⟩))) m j) ∧ (∀ i, i < j → K.D Sj (leafT (l.getD i ⟨#[]⟩))) ∧ Touch G w wr ∧ K.ext S Sj ∧ K.n Sj ≤ K.n S + j) (fun v _ => m - (intOf v).toNat)
  case atStart => exact ⟨0, S, Nat.zero_le _, rfl, HI.out.1, HI.out.2.1, fun i hi => absurd hi (Nat.not_lt_zero i), HI.out.2.2, K.ext_refl S, Nat.le_refl _⟩
  case round =>
    clear HI hmk
    obtain ⟨j, Sj, hj, rfl, hv, hrow, hD, ht, hx, hnj⟩ := hrel
    by_cases hlt : j < m
    · have j1 : (j : Int) < m := by omega
      have hlj : j < l.length := by rw [← HM.out]; exact hlt
      obtain ⟨bk, of, rfl, hbk, hbg, hcell⟩ := hlv.touch ht j (l[j]) (List.getElem?_eq_getElem hlj)
      have hxs : l[j].size ≤ 1000 := hs _ (List.getElem_mem hlj)
      have hgd : l.getD j ⟨#[]⟩ = l[j] := by simp [List.getD, hlj]
      have hnd := leafHash_any o wr F G B Sj l[j] (by omega) (by omega) hv
      rw [← hgd] at hnd hcell
      have HJ : Hid (RowS wr w.heap.size (partR (fun i => K.h Sj (leafT (l.getD i ⟨#[]⟩))) m j) ∧ (∀ i, i < j → K.D Sj (leafT (l.getD i ⟨#[]⟩))) ∧ Touch G w wr ∧ K.ext S Sj ∧ K.n Sj ≤ K.n S + j) := ⟨hrow, hD, ht, hx, hnj⟩
      have HS : Hid (∀ x, x ∈ l → x.size ≤ 1000) := hs
      have HLV : Hid (Lv w G (some ⟨bk, of, none⟩) l) := hlv
      clear hv hrow hD ht hx hnj hlv hgd hs hxs
      generalize hy : l.getD j ⟨#[]⟩ = y at *
      have HY : Hid (l.getD j ⟨#[]⟩ = y) := hy
      clear hy
      go_wp2_with fail
      refine hnd.mono ?_
      rintro e w3 ⟨S3, rfl, h1, h2, h3, h4, h5⟩
      have hrow3 : RowS w3 w.heap.size (partR (fun i => K.h S3 (leafT (l.getD i ⟨#[]⟩))) m j) := by
        rw [partR_same fun i hi => (h3 _ (HJ.out.2.1 i hi)).2]
        exact HJ.out.1.keep (h2.2 _ HJ.out.1.lt fun hg => absurd (hG _ hg) (Nat.lt_irrefl _))
      obtain ⟨old, hold⟩ : ∃ old, (partR (fun i => K.h S3 (leafT (l.getD i ⟨#[]⟩))) m j)[j]? = some old := ⟨_, List.getElem?_eq_getElem (by rw [partR_length]; exact hlt)⟩
      have c3 := hrow3.cell hold
      have f3 := hrow3.frozen j
      obtain ⟨w4, hw4⟩ : ∃ w4, w3.setCell ⟨w.heap.size, j, none⟩ (.string (K.h S3 (leafT y))) = w4 := ⟨_, rfl⟩
      have HF : Hid (K.V w4 F G B S3 ∧ RowS w4 w.heap.size (partR (fun i => K.h S3 (leafT (l.getD i ⟨#[]⟩))) m (j + 1)) ∧ (∀ i, i < j + 1 → K.D S3 (leafT (l.getD i ⟨#[]⟩))) ∧ Touch G w w4 ∧ K.ext S S3 ∧ K.n S3 ≤ K.n S + (j + 1)) := by
        have hs4 := hrow3.set j (K.h S3 (leafT (l.getD j ⟨#[]⟩)))
        rw [partR_set (fun i => K.h S3 (leafT (l.getD i ⟨#[]⟩)))] at hs4
        have ht3 : Touch G w w3 := HJ.out.2.2.1.trans (h2.mono fun _ h => .inl h)
        rw [← hw4, ← HY.out]
        refine ⟨o.keep h1 fun k _ hf => Below.heap_setCell w3 ⟨w.heap.size, j, none⟩ _ k (fun e => absurd (hF k hf) (by rw [e]; exact Nat.lt_irrefl _)), hs4, fun i hi => ?_, ht3.setCell _ _ _ (.inr (Nat.le_refl _)), HK.ext_trans HJ.out.2.2.2.1 h3, by have := HJ.out.2.2.2.2; omega⟩
        by_cases e : i = j
        · rw [e, HY.out]; exact h4
        · exact (h3 _ (HJ.out.2.1 i (by omega))).1
      clear hnd h1 h2 h3 h4 h5 hrow3 hold HJ hcell
      go_wp2
      go_roundw
      case rel => exact ⟨j + 1, S3, by omega, by go_num, HF.out⟩
      case measure => simp [intOf]; omega
    · obtain rfl : j = m := by omega
      have j1 : ¬ (j : Int) < j := by omega
      rw [partR_all, HM.out, leaf_row] at hrow
      have hD0 : ∀ x, x ∈ l → K.D Sj (leafT x) := fun x hx => by
        obtain ⟨i, hi, rfl⟩ := List.mem_iff_getElem.1 hx
        have := hD i (by rw [HM.out]; exact hi)
        simpa [List.getD, hi] using this
      have hrl : (rowAt (K.h Sj) l 0).length = j := by rw [rowAt_length]; exact HM.out.symm
      have hzs := ht.size
      have lw : w.heap.size < wr.heap.size := hrow.lt
      obtain ⟨w5, hw5⟩ : ∃ w5, (wr.alloc (.cells #[.slice (some ⟨w.heap.size, 0, none⟩) j j] 22)).alloc (.cells #[.pointer (some ⟨B, 0, none⟩), .slice (some ⟨wr.heap.size, 0, none⟩) 1 1] 52) = w5 := ⟨_, rfl⟩
      have hb5 : Below wr.heap.size wr w5 := by rw [← hw5]; exact ((Below.refl _ _).alloc (Nat.le_refl _) _).alloc (by simp) _
      have z5 : w5.heap.size = wr.heap.size + 2 := by rw [← hw5]; simp
      have tr5 : TrAt w5 (fun k => w.heap.size ≤ k ∧ k < w5.heap.size) (wr.heap.size + 1) B (.slice (some ⟨wr.heap.size, 0, none⟩) 1 1) [w.heap.size] (rowsUp (K.h Sj) l 0) := by
        have := new_first wr B w.heap.size (rowAt (K.h Sj) l 0) hrow w.heap.size (Nat.le_refl _)
        rw [hrl, hw5] at this
        exact this.mono fun k hk => by omega
      have hh := fun w => height_any j (by omega) w
      have hHj : hgt j ≤ j := hgt_le j
      have HI2 : Hid (K.V w5 F G B Sj ∧ TrAt w5 (fun k => w.heap.size ≤ k ∧ k < w5.heap.size) (wr.heap.size + 1) B (.slice (some ⟨wr.heap.size, 0, none⟩) 1 1) [w.heap.size] (rowsUp (K.h Sj) l 0) ∧ TreeInK (K.D Sj) (K.h Sj) l 0 ∧ Touch G w w5 ∧ K.ext S Sj ∧ K.n Sj ≤ K.n S + (0 + 1) * j) := ⟨o.below hv hb5, tr5, ⟨hD0, fun k hk => absurd hk (Nat.not_lt_zero k)⟩, ht.post hb5, hx, by omega⟩
      obtain ⟨T, hTT⟩ : ∃ T, T = wr.heap.size + 1 := ⟨_, rfl⟩
      have HHM : Hid (hgt j = hgt l.length) := congrArg hgt HM.out
      obtain ⟨M, hMM⟩ : ∃ M, M = hgt j := ⟨_, rfl⟩
      rw [← hMM] at hh hHj HHM
      clear hv hrow hD ht hx hnj hD0 hrl hb5 tr5 hMM hlv hs
      go_wp2_with fail
      try rw [hw5]
      clear hw5
      refine (hh _).mono ?_
      rintro e w6 ⟨rfl, rfl⟩
      clear hh
      rw [← hTT] at HI2 ⊢
      clear hTT
      go_wp2_with fail
      generalize wr = wo at *
      go_loopw [5, 34] (fun rw34 v wx => ∃ (i : Nat) (Si : σ) (g : Nat) (rv : Value) (gs : List Nat), i ≤ M ∧ v = .int .i64 (i : Int) ∧ rw34 = .slice (some ⟨g, 0, none⟩) (upK j i) (upK j i) ∧ gs[i]? = some g ∧ K.V wx F G B Si ∧ TrAt wx (fun k => w.heap.size ≤ k ∧ k < wx.heap.size) T B rv gs (rowsUp (K.h Si) l i) ∧ TreeInK (K.D Si) (K.h Si) l i ∧ Touch G w wx ∧ K.ext S Si ∧ K.n Si ≤ K.n S + (i + 1) * j) (fun _ v _ => M - (intOf v).toNat)
      case atStart => exact ⟨0, Sj, w.heap.size, _, _, Nat.zero_le _, rfl, rfl, rfl, HI2.out⟩
      case round =>
        clear HI2
        obtain ⟨i, Si, g, rv, gs, hi, rfl, rfl, hgi, hv, htr, hin, ht, hx, hni⟩ := hrel
        by_cases hlt2 : i < M
        · have i1 : (i : Int) < M := by omega
          have hrow := htr.row i g _ hgi (rowsUp_get (K.h Si) l i i (Nat.le_refl _))
          have hrl : (rowAt (K.h Si) l i).length = upK j i := by rw [rowAt_length, HM.out]
          have hul := upK_le j i
          have hmul : (i + 1) * j ≤ 200 * 200 := Nat.mul_le_mul (by omega) (by omega)
          have hgN := (htr.hG g (List.mem_of_getElem? hgi)).1
          have hnd := nodes_any o wr F G B Si g (rowAt (K.h Si) l i) hrow (by omega) (fun x hx => by
            rw [hin.sizes (fun x hx => o.size Si x hx (by omega)) i (Nat.le_refl _) x hx]
            decide) (by omega) (fun hg => absurd (hG _ hg) (by omega)) (fun k hk => Nat.lt_of_lt_of_le (hF k hk) ht.size) (fun k hk => Nat.lt_of_lt_of_le (hG k hk) ht.size) hv
          unfold NodesPost at hnd
          rw [hrl] at hnd
          have HJ : Hid (gs[i]? = some g ∧ TrAt wr (fun k => w.heap.size ≤ k ∧ k < wr.heap.size) T B rv gs (rowsUp (K.h Si) l i) ∧ TreeInK (K.D Si) (K.h Si) l i ∧ Touch G w wr ∧ K.ext S Si ∧ K.n Si ≤ K.n S + (i + 1) * j) := ⟨hgi, htr, hin, ht, hx, hni⟩
          have hzr := ht.size
          obtain ⟨q, hq⟩ : ∃ q, q = upK j i := ⟨_, rfl⟩
          have HQ : Hid (q = upK j i) := hq
          rw [← hq] at hnd hul ⊢
          clear hgi hv htr hin ht hx hni hrow hrl hq
          go_wp2_with fail
          refine hnd.mono ?_
          rintro e w2 ⟨S2, rfl, h1, h2, h3, h4, h5, h6⟩
          clear hnd
          obtain ⟨hgi, htr, hin, ht, hx, hni⟩ := HJ.out
          have htr2 : TrAt w2 (fun k => w.heap.size ≤ k ∧ k < w2.heap.size) T B rv gs (rowsUp (K.h S2) l i) := by
            rw [rowsUp_same hin fun x hx => (h5 x hx).2]
            exact (htr.keep fun k hk hH => h4.2 k hk fun hg => absurd (hG k hg) (Nat.not_lt_of_le hH.1)).mono fun k hk => ⟨hk.1, Nat.lt_of_lt_of_le hk.2 h4.size⟩
          have hrow2 : RowS w2 wr.heap.size (rowAt (K.h S2) l (i + 1)) := by
            have e1 : rowAt (K.h S2) l (i + 1) = upRow (K.h S2) (rowAt (K.h Si) l i) := by
              show upRow (K.h S2) (rowAt (K.h S2) l i) = _
              rw [rowAt_sameK hin (fun x hx => (h5 x hx).2) i (Nat.le_refl _)]
            rw [e1]
            exact h2
          have hrl2 : (rowAt (K.h S2) l (i + 1)).length = upN q := by rw [rowAt_length, HQ.out, HM.out]; rfl
          have hin2 : TreeInK (K.D S2) (K.h S2) l (i + 1) := by
            have hm := hin.mono h5
            refine ⟨hm.1, fun k hk jj hjj => ?_⟩
            by_cases e : k = i
            · subst e
              rw [rowAt_sameK hin (fun x hx => (h5 x hx).2) k (Nat.le_refl _)]
              exact h3 jj (by rw [HQ.out, HM.out]; exact hjj)
            · exact hm.2 k (by omega) jj hjj
          have hnew : ∀ k, k < wr.heap.size → True := fun _ _ => trivial
          have hgs2 : ∀ k, k ∈ gs → k < wr.heap.size := fun k hk => (htr.hG k hk).2
          have hRlt : ∀ k, rv.ownBlock = some k → k < wr.heap.size := fun k hk => (htr.hR k hk).2
          have hTlt : T < wr.heap.size := htr.hT.2
          have HX : Hid (K.V w2 F G B S2 ∧ Touch G w w2 ∧ K.ext S S2 ∧ K.n S2 ≤ K.n S + (i + 1 + 1) * j) := by
            refine ⟨h1, ht.trans (h4.mono fun _ h => .inl h), HK.ext_trans hx h5, ?_⟩
            have : upN q ≤ j := by unfold upN; omega
            rw [Nat.add_mul (i + 1) 1 j]
            omega
          clear h1 h2 h3 h4 h5 h6 htr hin ht hx hni HJ hnew
          obtain ⟨t0, hi0, hz⟩ := Option.map_eq_some_iff.1 tr_info_row
          simp only [Prod.mk.injEq] at hz
          obtain ⟨hz0, hz1, hz2⟩ := hz
          have c1 := htr2.c1
          obtain ⟨w3, hw3⟩ : ∃ w3, w2.alloc (.cells #[.slice (some ⟨wr.heap.size, 0, none⟩) (upN q) (upN q)] 22) = w3 := ⟨_, rfl⟩
          have hown : w3.ownsRow 0 22 1 rv (rowsUp (K.h S2) l i).length (rowsC gs (rowsUp (K.h S2) l i)) := by rw [← hw3]; exact htr2.owns.alloc _
          have hone3 : w3.heap[w2.heap.size]? = some (.cells #[.slice (some ⟨wr.heap.size, 0, none⟩) (upN q) (upN q)] 22 (0, 0)) := by rw [← hw3]; exact heap_alloc_new w2 _
          have hone : ∀ u ∈ ([.slice (some ⟨wr.heap.size, 0, none⟩) (upN q) (upN q)] : List Value), u.oneCell' = true := by intro u hu; simp at hu; rw [hu]; rfl
          have hll := rowsUp_length (K.h S2) l i
          have HTR : Hid (TrAt w2 (fun k => w.heap.size ≤ k ∧ k < w2.heap.size) T B rv gs (rowsUp (K.h S2) l i)) := htr2
          clear htr2
          go_wp2_with (at_builtin; refine wpList_append_own_at _ rfl _ _ 50 rfl 0 22 t0 (.slice none 0 0) 1 24 Tryd.underlying50 hi0 hz0 hz1 hz2 rfl (by decide) rv (rowsUp (K.h S2) l i).length (rowsC gs (rowsUp (K.h S2) l i)) rfl hown ⟨w2.heap.size, 0, none⟩ 1 1 [.slice (some ⟨wr.heap.size, 0, none⟩) (upN q) (upN q)] rfl rfl ?cA hone ?cB ?cC (Nat.zero_le _) ?_)
          case cA =>
            intro x u hu
            cases x with
            | zero =>
              have hu2 := Option.some.inj hu
              subst hu2
              exact cell_of_row _ _ _ _ _ _ hone3
            | succ x => simp at hu
          case cB => unfold maxLen; omega
          case cC => omega
          intro v1 w4 hown1 hgrow1 _ hat1
          rw [← hll] at hown1
          have erow : Value.slice (some ⟨wr.heap.size, 0, none⟩) (upN q) (upN q) = rowC wr.heap.size (rowAt (K.h S2) l (i + 1)) := by unfold rowC; rw [hrl2]
          rw [erow] at hown1
          obtain ⟨ob, cb, hv1⟩ := owns_slice hown1
          subst hv1
          have l2 := hrow2.lt
          have l3 : w2.heap.size ≤ w3.heap.size := by rw [← hw3]; simp
          have h4T : w4.heap[T]? = w2.heap[T]? := (hgrow1.block T (by omega) fun e => HTR.out.nTR e.symm).trans (by rw [← hw3]; exact Below.heap_alloc _ _ _ (by omega))
          have c4 : w4.cell? ⟨T, 1, none⟩ = some rv := (World.cell?_of_block (a := ⟨T, 1, none⟩) h4T).trans c1
          have f4 : w4.frozen? ⟨T, 1, none⟩ = false := Row.frozen (h4T.trans HTR.out.obj) 1
          rw [← hw3] at hgrow1 hat1
          obtain ⟨htr5, hb5⟩ := HTR.out.append hrow2 hzr (fun hm => absurd (hgs2 _ hm) (Nat.lt_irrefl _)) (by omega) (fun e => absurd (hRlt _ e) (Nat.lt_irrefl _)) hown1 hgrow1 hat1
          rw [← rowsUp_succ] at htr5
          obtain ⟨w5, hw5⟩ : ∃ w5, w4.setCell ⟨T, 1, none⟩ (.slice ob ((rowsUp (K.h S2) l i).length + 1) cb) = w5 := ⟨_, rfl⟩
          rw [hw5] at htr5 hb5
          have HF : Hid ((gs ++ [wr.heap.size])[i + 1]? = some wr.heap.size ∧ K.V w5 F G B S2 ∧ TrAt w5 (fun k => w.heap.size ≤ k ∧ k < w5.heap.size) T B (.slice ob ((rowsUp (K.h S2) l i).length + 1) cb) (gs ++ [wr.heap.size]) (rowsUp (K.h S2) l (i + 1)) ∧ TreeInK (K.D S2) (K.h S2) l (i + 1) ∧ Touch G w w5 ∧ K.ext S S2 ∧ K.n S2 ≤ K.n S + (i + 1 + 1) * j) := by
            refine ⟨?_, o.keep HX.out.1 fun k _ hf => hb5.block k (hF k hf), htr5, hin2, ⟨HX.out.2.1.1.trans (hb5.mono (Nat.zero_le _)), fun k hk hn => (hb5.block k hk).trans (HX.out.2.1.2 k hk hn)⟩, HX.out.2.2⟩
            have hl : gs.length = i + 1 := HTR.out.len.trans hll
            rw [← hl, List.getElem?_append_right (Nat.le_refl _), Nat.sub_self]
            rfl
          have HU : Hid (upN q = upK j (i + 1)) := by rw [HQ.out]; rfl
          clear hown hown1 hgrow1 hat1 htr5 hb5 HTR HX hin2 hrow2 hrl2 h4T hone3 hone erow hw3 hgi hll
          go_wp2
          go_roundw
          case rel => exact ⟨i + 1, S2, wr.heap.size, _, gs ++ [wr.heap.size], by omega, by go_num, by rw [← HU.out], HF.out⟩
          case measure => simp [intOf]; omega
        · obtain rfl : i = M := by omega
          have i1 : ¬ (i : Int) < i := by omega
          have HF : Hid (K.V wr F G B Si ∧ TrAt wr (fun k => w.heap.size ≤ k ∧ k < wr.heap.size) T B rv gs (rowsUp (K.h Si) l (hgt l.length)) ∧ TreeInK (K.D Si) (K.h Si) l (hgt l.length) ∧ Touch G w wr ∧ K.ext S Si ∧ K.n Si ≤ K.n S + (hgt l.length + 1) * l.length) := by
            rw [← HHM.out, ← HM.out]
            exact ⟨hv, htr, hin, ht, hx, hni⟩
          clear hgi hv htr hin ht hx hni
          go_wp2
          go_ret
          exact ⟨Si, T, rv, gs, rfl, HF.out⟩
end
end Go.Proofs.YtgokehbdappcdaaDoor
