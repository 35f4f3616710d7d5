/- tree's given, Count, has, top and Root, over any vault whose Hash is told. · A tree and its vault in a law: the calls on them, over any vault whose Hash is told. · A new ideal vault has numbered nothing; and chapter 5's example. -/
import Derived.Test.YtgokehbdappcdaaDoorMg11
import Derived.Deep.RegionHeld3
import Derived.Test.YtgokehbdappcdaaDoorMg14
import Derived.Test.YtgokehbdappcdaaDoorMg08
namespace Go.Proofs.YtgokehbdappcdaaDoor
set_option maxRecDepth 20000
open Go.RowKit

theorem cell_kept_1 {w w' : World} {b : Nat} (h : w'.heap[b]? = w.heap[b]?) (i : Nat) : w'.cell? ⟨b, i, none⟩ = w.cell? ⟨b, i, none⟩ := World.cell?_of_block (a := ⟨b, i, none⟩) h
theorem given_none (w : World) : Calls Tryd.prog 21 #[.pointer none] w fun e w' => e = .returned (.bool false) ∧ w' = w := by
  go_enter Tryd.func21, Tryd.ntmps21
  go_wp2
  go_ret
  exact ⟨rfl, rfl⟩
theorem count_none (w : World) : Calls Tryd.prog 23 #[.pointer none] w fun e w' => e = .returned (.int .i64 0) ∧ w' = w := by
  go_enter Tryd.func23, Tryd.ntmps23
  go_wp2_with fail
  refine (given_none _).mono ?_
  rintro e w1 ⟨rfl, rfl⟩
  go_wp2
  go_ret
  exact ⟨rfl, rfl⟩
theorem root_none (w : World) : Calls Tryd.prog 9 #[.pointer none] w fun e w' => e = .returned (.string ⟨#[]⟩) ∧ w' = w := by
  go_enter Tryd.func9, Tryd.ntmps9
  go_wp2_with fail
  refine (given_none _).mono ?_
  rintro e w1 ⟨rfl, rfl⟩
  go_wp2
  go_ret
  exact ⟨rfl, rfl⟩
theorem has_none (i : Int) (w : World) : Calls Tryd.prog 19 #[.pointer none, .int .i64 i] w fun e w' => e = .returned (.bool false) ∧ w' = w := by
  by_cases hi : 0 ≤ i
  · have h1 : decide (i < 0) = false := decide_eq_false (by omega)
    go_enter Tryd.func19, Tryd.ntmps19
    go_wp2_with fail
    refine (count_none _).mono ?_
    rintro e w1 ⟨rfl, rfl⟩
    go_wp2
    go_ret
    exact ⟨rfl, rfl⟩
  · go_enter Tryd.func19, Tryd.ntmps19
    go_wp2
    go_ret
    exact ⟨rfl, rfl⟩
section
variable {w : World} {H : Nat → Prop} {T B : Nat} {rv : Value} {gs : List Nat} {rows : List (List ByteArray)}
theorem given_some (t : TrAt w H T B rv gs rows) (hn : 0 < rows.length) : Calls Tryd.prog 21 #[.pointer (some ⟨T, 0, none⟩)] w fun e w' => e = .returned (.bool true) ∧ w' = w := by
  have c1 := t.c1
  obtain ⟨ra, cap, rfl, _, _⟩ := t.form hn
  have h1 : (0 : Int) < (rows.length : Nat) := by omega
  generalize rows.length = n at *
  clear t
  go_enter Tryd.func21, Tryd.ntmps21
  go_wp2
  go_ret
  exact ⟨rfl, rfl⟩
theorem TrAt.gs0 (t : TrAt w H T B rv gs rows) {k : Nat} {r : List ByteArray} (hr : rows[k]? = some r) : ∃ g, gs[k]? = some g := by
  have := (List.getElem?_eq_some_iff.1 hr).1
  exact ⟨_, List.getElem?_eq_getElem (by rw [t.len]; exact this)⟩
theorem count_some (t : TrAt w H T B rv gs rows) {r : List ByteArray} (hr : rows[0]? = some r) : Calls Tryd.prog 23 #[.pointer (some ⟨T, 0, none⟩)] w fun e w' => e = .returned (.int .i64 (r.length : Nat)) ∧ w' = w := by
  have hn : 0 < rows.length := (List.getElem?_eq_some_iff.1 hr).1
  have hg := given_some t hn
  have c1 := t.c1
  obtain ⟨g, hg0⟩ := t.gs0 hr
  obtain ⟨ra, cap, rfl, _, hc⟩ := t.form hn
  have c2 := hc 0 g r hg0 hr
  have h1 : (0 : Int) < (rows.length : Nat) := by omega
  generalize rows.length = n at *
  clear t hc
  go_enter Tryd.func23, Tryd.ntmps23
  go_wp2_with fail
  refine hg.mono ?_
  rintro e w1 ⟨rfl, rfl⟩
  clear hg
  go_wp2
  go_ret
  exact ⟨rfl, rfl⟩
theorem has_some (t : TrAt w H T B rv gs rows) {r : List ByteArray} (hr : rows[0]? = some r) (i : Int) : Calls Tryd.prog 19 #[.pointer (some ⟨T, 0, none⟩), .int .i64 i] w fun e w' => e = .returned (.bool (decide (0 ≤ i ∧ i < (r.length : Nat)))) ∧ w' = w := by
  have hc := count_some t hr
  obtain ⟨n, hn⟩ : ∃ n : Int, n = ((r.length : Nat) : Int) := ⟨_, rfl⟩
  rw [← hn] at hc ⊢
  clear t hn
  by_cases hi : 0 ≤ i
  · have h1 : ¬ i < 0 := by omega
    by_cases h2 : i < n
    · rw [decide_eq_true ⟨hi, h2⟩]
      go_enter Tryd.func19, Tryd.ntmps19
      go_wp2_with fail
      refine hc.mono ?_
      rintro e w1 ⟨rfl, rfl⟩
      go_wp2
      go_ret
      exact ⟨rfl, rfl⟩
    · rw [decide_eq_false fun h => h2 h.2]
      have h3 : decide (i < n) = false := decide_eq_false h2
      clear h2
      go_enter Tryd.func19, Tryd.ntmps19
      go_wp2_with fail
      refine hc.mono ?_
      rintro e w1 ⟨rfl, rfl⟩
      go_wp2
      go_ret
      exact ⟨rfl, rfl⟩
  · rw [decide_eq_false fun h => hi h.1]
    go_enter Tryd.func19, Tryd.ntmps19
    go_wp2
    go_ret
    exact ⟨rfl, rfl⟩
set_option maxHeartbeats 1000000 in
theorem top_some (t : TrAt w H T B rv gs rows) {k : Nat} {r : List ByteArray} (hk : rows.length = k + 1) (hkl : k ≤ 1000000) (hr : rows[k]? = some r) : Calls Tryd.prog 24 #[.pointer (some ⟨T, 0, none⟩)] w fun e w' => e = .returned (.string (r.headD ⟨#[]⟩)) ∧ Below w.heap.size w w' := by
  have c1 := t.c1
  obtain ⟨g, hg0⟩ := t.gs0 hr
  have hrow := t.row k g r hg0 hr
  obtain ⟨ra, cap, rfl, _, hc⟩ := t.form (by omega)
  have c2 := hc k g r hg0 hr
  rw [hk] at c1
  clear t hc
  have m1 : IntKind.i64.wrap (((k + 1 : Nat) : Int) - 1) = (k : Int) := by rw [IntKind.wrap_i64]; omega
  have m2 : (((k + 1 : Nat) : Int) - 1) = (k : Int) := by omega
  have m3 : (k : Int) < ((k + 1 : Nat) : Int) := by omega
  cases r with
  | nil =>
    clear hrow
    go_enter Tryd.func24, Tryd.ntmps24
    go_wp2_with fail
    go_region
    go_wp2
    go_ret
    exact ⟨rfl, (Below.refl _ _).drew⟩
  | cons x r =>
    have c3 := hrow.cell (i := 0) (x := x) rfl
    have n1 : (0 : Int) < ((x :: r).length : Nat) := by simp
    have n2 : (((x :: r).length : Nat) : Int) ≠ 0 := by simp; omega
    have HX : Hid ((x :: r).headD ⟨#[]⟩ = x) := rfl
    generalize (x :: r).headD ⟨#[]⟩ = y at *
    generalize (x :: r).length = n at *
    have n3 : ((n : Int) == 0) = false := beq_false_of_ne n2
    clear hrow
    go_enter Tryd.func24, Tryd.ntmps24
    go_wp2_with fail
    go_region
    go_wp2
    go_ret
    exact ⟨by rw [HX.out]; rfl, (Below.refl _ _).drew⟩
end
section
variable {σ : Type} {K : HK σ}
set_option maxHeartbeats 1000000 in
theorem root_some (o : HKOk K) (w : World) (F G H : Nat → Prop) (T B : Nat) (S : σ) (rv : Value) (gs : List Nat) (rows : List (List ByteArray)) (t : TrAt w H T B rv gs rows) {k : Nat} {r0 r : List ByteArray} (hk : rows.length = k + 1) (hkl : k ≤ 1000000) (h0 : rows[0]? = some r0) (hr : rows[k]? = some r) (hl : r0.length ≤ 1000000) (hz : (r.headD ⟨#[]⟩).size ≤ 1048000) (hn : K.n S ≤ 1000000) (hGT : ¬ G T) (v : K.V w F G B S) :
    Calls Tryd.prog 9 #[.pointer (some ⟨T, 0, none⟩)] w (HPost K w F G B S (rootT r0.length (r.headD ⟨#[]⟩))) := by
  have hgv := given_some t (by omega)
  have hct := fun w' (hb : Below w.heap.size w w') => count_some (t.below hb) h0
  have htp := fun w' (hb : Below w.heap.size w w') => top_some (t.below hb) hk hkl hr
  have hrt := fun w' (hb : Below w.heap.size w w') => rootHash_any o w' F G B S r0.length (r.headD ⟨#[]⟩) (by omega) hz hn (o.below v hb)
  have c0 := t.c0
  have lT := lt_of_block t.obj
  generalize rootT r0.length (r.headD ⟨#[]⟩) = x at *
  generalize r.headD ⟨#[]⟩ = y at *
  generalize r0.length = n at *
  clear t v hz
  go_enter Tryd.func9, Tryd.ntmps9
  go_wp2_with fail
  refine hgv.mono ?_
  rintro e w1 ⟨rfl, rfl⟩
  clear hgv
  go_wp2_with fail
  go_region_held3 (fun w' => w'.cell? ⟨T, 0, none⟩ = some (.pointer (some ⟨B, 0, none⟩))) (simp [go_sem, *])
    (first | (go_at_call 23; refine (hct _ (Below.refl _ _).drew).mono ?_; rintro e wA ⟨rfl, rfl⟩) | (go_at_call 24; refine (htp _ (Below.refl _ _).drew).mono ?_; rintro e wB ⟨rfl, hbB⟩; have hBB : Below w1.heap.size w1 wB := (Below.refl _ _).drew.trans hbB; have hcB := (cell_kept_1 (hBB.block T lT) 0).trans c0) | (go_at_call 22; refine (hrt _ hBB).mono ?_; rintro e wC ⟨S', rfl, p1, p2, p3⟩; have hcC := (cell_kept_1 (p2.2 T (Nat.lt_of_lt_of_le lT hBB.size) hGT) 0).trans hcB))
  have HF : Hid (K.V wC F G B S' ∧ Touch G w1 wC ∧ K.ext S S' ∧ K.D S' x ∧ K.n S' ≤ K.n S + 1) := ⟨p1, p2.pre hBB, p3⟩
  clear p1 p2 p3 hcC hcB hBB hbB hrt htp hct
  go_wp2
  go_ret
  exact ⟨S', rfl, HF.out⟩
end
end Go.Proofs.YtgokehbdappcdaaDoor

namespace Go.Proofs.YtgokehbdappcdaaDoor
set_option maxRecDepth 20000
open Go.RowKit

structure TrOn {σ : Type} (K : HK σ) (w0 w : World) (F G H : Nat → Prop) (B T : Nat) (S : σ) (l : List ByteArray) : Prop where
  v : K.V w F G B S
  tree : ∃ rv gs, TrAt w H T B rv gs (rowsUp (K.h S) l (hgt l.length))
  tin : TreeInK (K.D S) (K.h S) l (hgt l.length)
  gH : ∀ k, G k → ¬ H k
  gLow : ∀ k, G k → w0.heap.size ≤ k ∧ k < w.heap.size
  hLow : ∀ k, H k → w0.heap.size ≤ k ∧ k < w.heap.size
  fH : ∀ k, F k → ¬ H k ∧ k < w.heap.size
  below : Below w0.heap.size w0 w
section
variable {σ : Type} {K : HK σ}
theorem TrOn.call {w0 w w' : World} {F G H : Nat → Prop} {B T : Nat} {S S' : σ} {l : List ByteArray} (t : TrOn K w0 w F G H B T S l) (ht : Touch G w w') (hv : K.V w' F G B S') (hx : K.ext S S') : TrOn K w0 w' F G H B T S' l := by
  obtain ⟨rv, gs, htr⟩ := t.tree
  refine ⟨hv, ⟨rv, gs, ?_⟩, t.tin.mono hx, t.gH, fun k hk => ⟨(t.gLow k hk).1, Nat.lt_of_lt_of_le (t.gLow k hk).2 ht.size⟩, fun k hk => ⟨(t.hLow k hk).1, Nat.lt_of_lt_of_le (t.hLow k hk).2 ht.size⟩, fun k hk => ⟨(t.fH k hk).1, Nat.lt_of_lt_of_le (t.fH k hk).2 ht.size⟩, t.below.trans (ht.below t.below.size fun k hk => (t.gLow k hk).1)⟩
  rw [rowsUp_same t.tin fun x hx' => (hx x hx').2]
  exact htr.keep fun k hk hH => ht.2 k hk fun hg => t.gH k hg hH
theorem TrOn.beneath (o : HKOk K) {w0 w w' : World} {F G H : Nat → Prop} {B T : Nat} {S : σ} {l : List ByteArray} (t : TrOn K w0 w F G H B T S l) (hb : Below w.heap.size w w') : TrOn K w0 w' F G H B T S l := t.call (Touch.of_below hb) (o.below t.v hb) (K.ext_refl S)
theorem TrOn.rows0 (h : ByteArray → ByteArray) (l : List ByteArray) : (rowsUp h l (hgt l.length))[0]? = some (rowAt h l 0) := rowsUp_get h l _ 0 (Nat.zero_le _)
theorem tr_len0 (h : ByteArray → ByteArray) (l : List ByteArray) : (rowAt h l 0).length = l.length := by rw [rowAt_length]; rfl
theorem count_on {w0 w : World} {F G H : Nat → Prop} {B T : Nat} {S : σ} {l : List ByteArray} (t : TrOn K w0 w F G H B T S l) :
    Calls Tryd.prog 23 #[.pointer (some ⟨T, 0, none⟩)] w fun e w' => e = .returned (.int .i64 (l.length : Nat)) ∧ w' = w := by
  obtain ⟨rv, gs, htr⟩ := t.tree
  have := count_some htr (TrOn.rows0 _ l)
  rw [tr_len0] at this
  exact this
theorem has_on {w0 w : World} {F G H : Nat → Prop} {B T : Nat} {S : σ} {l : List ByteArray} (t : TrOn K w0 w F G H B T S l) (i : Int) :
    Calls Tryd.prog 19 #[.pointer (some ⟨T, 0, none⟩), .int .i64 i] w fun e w' => e = .returned (.bool (decide (0 ≤ i ∧ i < (l.length : Nat)))) ∧ w' = w := by
  obtain ⟨rv, gs, htr⟩ := t.tree
  have := has_some htr (TrOn.rows0 _ l) i
  rw [tr_len0] at this
  exact this
theorem top_size (o : HKOk K) {S : σ} {l : List ByteArray} (tin : TreeInK (K.D S) (K.h S) l (hgt l.length)) (hn : K.n S ≤ 2000000) : (topS (K.h S) l).size ≤ 32 := by
  unfold topS
  cases hr : rowAt (K.h S) l (hgt l.length) with
  | nil => exact Nat.zero_le _
  | cons a r =>
    have := tin.sizes (fun x hx => o.size S x hx hn) _ (Nat.le_refl _) a (by rw [hr]; exact List.mem_cons_self)
    show a.size ≤ 32
    omega
def RootPost (K : HK σ) (w0 w : World) (F G H : Nat → Prop) (B T : Nat) (S : σ) (l : List ByteArray) (e : Ending) (w' : World) : Prop :=
  ∃ S', e = .returned (.string (K.h S' (rootT l.length (topS (K.h S') l)))) ∧ TrOn K w0 w' F G H B T S' l ∧ Touch G w w' ∧ K.ext S S' ∧ K.D S' (rootT l.length (topS (K.h S') l)) ∧ K.n S' ≤ K.n S + 1
theorem root_on (o : HKOk K) {w0 w : World} {F G H : Nat → Prop} {B T : Nat} {S : σ} {l : List ByteArray} (t : TrOn K w0 w F G H B T S l) (hl : l.length ≤ 200) (hn : K.n S ≤ 1000000) :
    Calls Tryd.prog 9 #[.pointer (some ⟨T, 0, none⟩)] w (RootPost K w0 w F G H B T S l) := by
  obtain ⟨rv, gs, htr⟩ := t.tree
  have hh := hgt_le l.length
  have := root_some o w F G H T B S rv gs _ htr (k := hgt l.length) (rowsUp_length _ _ _) (by omega) (TrOn.rows0 _ l) (rowsUp_get _ _ _ _ (Nat.le_refl _)) (by rw [tr_len0]; omega) (by have := top_size o t.tin (by omega); show (topS (K.h S) l).size ≤ _; omega) hn (fun hg => t.gH _ hg htr.hT) t.v
  rw [tr_len0] at this
  refine this.mono fun e w' ⟨S', he, h1, h2, h3, h4, h5⟩ => ?_
  have e1 : topS (K.h S') l = topS (K.h S) l := by
    unfold topS
    rw [rowAt_sameK t.tin (fun x hx => (h3 x hx).2) _ (Nat.le_refl _)]
  refine ⟨S', ?_, t.call h2 h1 h3, h2, h3, ?_, h5⟩
  · rw [he, e1]; rfl
  · rw [e1]; exact h4
def CheckPost (K : HK σ) (w0 w : World) (F G H : Nat → Prop) (B T : Nat) (S : σ) (l : List ByteArray) (top : ByteArray) (n i : Int) (s : ByteArray) (p : List Stp) (e : Ending) (w' : World) : Prop :=
  ∃ S', e = .returned (.bool (chkB (K.h S') top n i s p)) ∧ TrOn K w0 w' F G H B T S' l ∧ Touch G w w' ∧ K.ext S S' ∧ K.n S' ≤ K.n S + 32770 ∧ (okB top n i p = true → ClimbIn (K.D S') (K.h S') s p ∧ K.D S' (rootT n.toNat (climb (K.h S') (K.h S' (leafT s)) p)))
theorem check_on (o : HKOk K) {w0 w : World} {F G H : Nat → Prop} {B T : Nat} {S : σ} {l : List ByteArray} (t : TrOn K w0 w F G H B T S l) (top : ByteArray) (n i : Int) (s : ByteArray) (oa : Option Addr) (c : Nat) (p : List Stp) (hp : p.length ≤ 1000000) (hP : PathIn w G oa p) (hs : s.size ≤ 1000) (hn : K.n S ≤ 500000) :
    Calls Tryd.prog 12 #[.pointer (some ⟨B, 0, none⟩), .string top, .int .i64 n, .int .i64 i, .string s, .slice oa p.length c] w (CheckPost K w0 w F G H B T S l top n i s p) :=
  (check_any o w F G B S top n i s oa c p hp hP hs hn t.v).mono fun _ _ ⟨S', he, h1, h2, h3, h4, h5⟩ => ⟨S', he, t.call h2 h1 h3, h2, h3, h4, h5⟩
/-- A new tree. -/
theorem new_on (o : HKOk K) {w0 w : World} {F G : Nat → Prop} {B : Nat} {S : σ} (oa : Option Addr) (c : Nat) (l : List ByteArray) (hlv : Lv w G oa l) (hlen : l.length ≤ 200) (hs : ∀ x, x ∈ l → x.size ≤ 1000) (hn : K.n S ≤ 500000) (hF : ∀ k, F k → k < w.heap.size) (hG : ∀ k, G k → w0.heap.size ≤ k ∧ k < w.heap.size) (v : K.V w F G B S) (hb : Below w0.heap.size w0 w) :
    Calls Tryd.prog 7 #[.pointer (some ⟨B, 0, none⟩), .slice oa l.length c] w fun e w' => ∃ S' T, e = .returned (.pointer (some ⟨T, 0, none⟩)) ∧ TrOn K w0 w' F G (fun k => w.heap.size ≤ k ∧ k < w'.heap.size) B T S' l ∧ Touch G w w' ∧ K.ext S S' ∧ K.n S' ≤ K.n S + 40200 :=
  (treeNew_any o w F G B S oa c l hlv hlen hs hn hF (fun k hk => (hG k hk).2) v).mono fun e w' ⟨S', T, rv, gs, he, h1, h2, h3, h4, h5, h6⟩ => by
    refine ⟨S', T, he, ⟨h1, ⟨rv, gs, h2⟩, h3, fun k hk hH => absurd (hG k hk).2 (Nat.not_lt_of_le hH.1), fun k hk => ⟨(hG k hk).1, Nat.lt_of_lt_of_le (hG k hk).2 h4.size⟩, fun k hk => ⟨Nat.le_trans hb.size hk.1, hk.2⟩, fun k hk => ⟨fun hH => absurd (hF k hk) (Nat.not_lt_of_le hH.1), Nat.lt_of_lt_of_le (hF k hk) h4.size⟩, hb.trans (h4.below hb.size fun k hk => (hG k hk).1)⟩, h4, h5, ?_⟩
    have h7 := hgt_le l.length
    have h8 : (hgt l.length + 1) * l.length ≤ 201 * 200 := Nat.mul_le_mul (by omega) hlen
    omega
end
end Go.Proofs.YtgokehbdappcdaaDoor

namespace Go.Proofs.YtgokehbdappcdaaDoor
set_option maxRecDepth 20000
open Go.RowKit Go.Maps

def newV : VS := ⟨[], [], []⟩
theorem heap_map_new (w : World) (o : Obj) : (w.alloc o).heap[w.heap.size]? = some o := (MapKept.heap_alloc w o).1
set_option maxHeartbeats 1000000 in
theorem newN_any (w : World) : Calls Tryd.prog 41 #[] w fun e w' => e = .returned (.pointer (some ⟨w.heap.size + 3, 0, none⟩)) ∧ w' = (((w.alloc (.map #[] 0)).alloc (.map #[] 0)).alloc (.map #[] 0)).alloc (.cells #[.map (some w.heap.size), .map (some (w.heap.size + 1)), .map (some (w.heap.size + 2))] 113) := by
  have hmm := @run_makeMap Tryd.prog
  go_enter Tryd.func41, Tryd.ntmps41
  go_wp2
  go_ret
  exact ⟨rfl, rfl⟩

theorem nums_alloc {α : Type} [DecidableEq α] {key : α → Value} {K : TypeId} {w : World} {b : Nat} {l : List α} (h : Nums key K w b l) (o : Obj) : Nums key K (w.alloc o) b l := h.keep (Below.heap_alloc w o b h.lt)
theorem ideal_lies (w : World) : Ideal (((((w.alloc (.map #[] 0)).alloc (.map #[] 0)).alloc (.map #[] 0)).alloc (.cells #[.map (some w.heap.size), .map (some (w.heap.size + 1)), .map (some (w.heap.size + 2))] 113)).alloc (.cells #[.iface 85 (.pointer (some ⟨w.heap.size + 3, 0, none⟩))] 77)) (fun k => w.heap.size ≤ k ∧ k < w.heap.size + 5) (w.heap.size + 4) newV := by
  have s1 : (w.alloc (.map #[] 0)).heap.size = w.heap.size + 1 := by simp
  have s2 : ((w.alloc (.map #[] 0)).alloc (.map #[] 0)).heap.size = w.heap.size + 2 := by simp
  have s3 : (((w.alloc (.map #[] 0)).alloc (.map #[] 0)).alloc (.map #[] 0)).heap.size = w.heap.size + 3 := by simp
  have s4 : ((((w.alloc (.map #[] 0)).alloc (.map #[] 0)).alloc (.map #[] 0)).alloc (.cells #[.map (some w.heap.size), .map (some (w.heap.size + 1)), .map (some (w.heap.size + 2))] 113)).heap.size = w.heap.size + 4 := by simp
  have n1 := Nums.made keyT 170 w
  have n2 := Nums.made keyM 175 (w.alloc (.map #[] 0))
  have n3 := Nums.made keyS 177 ((w.alloc (.map #[] 0)).alloc (.map #[] 0))
  rw [s1] at n2
  rw [s2] at n3
  refine ⟨w.heap.size + 3, w.heap.size, w.heap.size + 1, w.heap.size + 2, ?_, ?_, nums_alloc (nums_alloc (nums_alloc (nums_alloc n1 _) _) _) _, nums_alloc (nums_alloc (nums_alloc n2 _) _) _, nums_alloc (nums_alloc n3 _) _, by omega, by omega, by omega, by omega, by omega, by omega, by omega, by omega⟩
  · have := heap_map_new ((((w.alloc (.map #[] 0)).alloc (.map #[] 0)).alloc (.map #[] 0)).alloc (.cells #[.map (some w.heap.size), .map (some (w.heap.size + 1)), .map (some (w.heap.size + 2))] 113)) (.cells #[.iface 85 (.pointer (some ⟨w.heap.size + 3, 0, none⟩))] 77)
    rw [s4] at this
    exact this
  · have := heap_map_new (((w.alloc (.map #[] 0)).alloc (.map #[] 0)).alloc (.map #[] 0)) (.cells #[.map (some w.heap.size), .map (some (w.heap.size + 1)), .map (some (w.heap.size + 2))] 113)
    rw [s3] at this
    exact (Below.heap_alloc _ _ _ (by omega)).trans this
theorem ideal_any (w : World) : Calls Tryd.prog 27 #[] w fun e w' => ∃ B, e = .returned (.pointer (some ⟨B, 0, none⟩)) ∧ Ideal w' (fun k => w.heap.size ≤ k ∧ k < w'.heap.size) B newV ∧ Below w.heap.size w w' := by
  have HI : Hid _ := ideal_lies w
  have HB : Hid (Below w.heap.size w (((((w.alloc (.map #[] 0)).alloc (.map #[] 0)).alloc (.map #[] 0)).alloc (.cells #[.map (some w.heap.size), .map (some (w.heap.size + 1)), .map (some (w.heap.size + 2))] 113)).alloc (.cells #[.iface 85 (.pointer (some ⟨w.heap.size + 3, 0, none⟩))] 77))) :=
    (((((Below.refl w.heap.size w).alloc (Nat.le_refl _) _).alloc (by simp) _).alloc (by simp; omega) _).alloc (by simp; omega) _).alloc (by simp; omega) _
  go_enter Tryd.func27, Tryd.ntmps27
  go_wp2_with fail
  refine (newN_any w).mono ?_
  rintro e w1 ⟨rfl, rfl⟩
  go_wp2
  go_ret
  refine ⟨w.heap.size + 4, rfl, ?_, HB.out⟩
  refine Ideal.mono HI.out fun k _ h => ⟨h.1, ?_⟩
  have := h.2
  simp
  omega
theorem awake_1 : hashS newV ⟨#[120]⟩ = ⟨#[1, 0, 0, 0, 0, 0, 0, 0, 0, 0, 0, 0, 0, 0, 0, 0, 0, 0, 0, 0, 0, 0, 0, 0, 0, 0, 0, 0, 0, 0, 0, 0]⟩ := by decide
theorem awake_2 : hashS (hashP newV ⟨#[120]⟩) ⟨#[121]⟩ = ⟨#[2, 0, 0, 0, 0, 0, 0, 0, 0, 0, 0, 0, 0, 0, 0, 0, 0, 0, 0, 0, 0, 0, 0, 0, 0, 0, 0, 0, 0, 0, 0, 0]⟩ := by decide
theorem awake_3 : hashS (hashP (hashP newV ⟨#[120]⟩) ⟨#[121]⟩) ⟨#[120]⟩ = ⟨#[1, 0, 0, 0, 0, 0, 0, 0, 0, 0, 0, 0, 0, 0, 0, 0, 0, 0, 0, 0, 0, 0, 0, 0, 0, 0, 0, 0, 0, 0, 0, 0]⟩ := by decide
theorem awake_l : (hashP newV ⟨#[120]⟩).texts.length ≤ 1000000 ∧ (hashP (hashP newV ⟨#[120]⟩) ⟨#[121]⟩).texts.length ≤ 1000000 := by decide
end Go.Proofs.YtgokehbdappcdaaDoor
