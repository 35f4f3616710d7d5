/- A tree and its vault in a law: the calls on them, over any vault whose Hash is told. -/
import Derived.Test.YtmmgpidmeeabeaaTrChk
import Derived.Test.YtmmgpidmeeabeaaTrRoot
namespace Go.Proofs.Ytmmgpidmeeabeaa
set_option maxRecDepth 20000
open Go.RowKit

structure TrOn {σ : Type} (K : HK σ) (w0 w : World) (F G H : Nat → Prop) (B T : Nat) (S : σ) (l : List ByteArray) : Prop where
  v : K.V w F G B S
  tree : ∃ rv gs, TrAt w H T B rv gs (rowsUp (K.h S) l (hgt l.length))
  tin : TreeInK (K.D S) (K.h S) l (hgt l.length)
  gH : ∀ k, G k → ¬ H k
  gLow : ∀ k, G k → w0.heap.size ≤ k ∧ k < w.heap.size
  hLow : ∀ k, H k → w0.heap.size ≤ k ∧ k < w.heap.size
  fH : ∀ k, F k → ¬ H k ∧ k < w.heap.size
  below : Below w0.heap.size w0 w
section
variable {σ : Type} {K : HK σ}
theorem TrOn.call {w0 w w' : World} {F G H : Nat → Prop} {B T : Nat} {S S' : σ} {l : List ByteArray} (t : TrOn K w0 w F G H B T S l) (ht : Touch G w w') (hv : K.V w' F G B S') (hx : K.ext S S') : TrOn K w0 w' F G H B T S' l := by
  obtain ⟨rv, gs, htr⟩ := t.tree
  refine ⟨hv, ⟨rv, gs, ?_⟩, t.tin.mono hx, t.gH, fun k hk => ⟨(t.gLow k hk).1, Nat.lt_of_lt_of_le (t.gLow k hk).2 ht.size⟩, fun k hk => ⟨(t.hLow k hk).1, Nat.lt_of_lt_of_le (t.hLow k hk).2 ht.size⟩, fun k hk => ⟨(t.fH k hk).1, Nat.lt_of_lt_of_le (t.fH k hk).2 ht.size⟩, t.below.trans (ht.below t.below.size fun k hk => (t.gLow k hk).1)⟩
  rw [rowsUp_same t.tin fun x hx' => (hx x hx').2]
  exact htr.keep fun k hk hH => ht.2 k hk fun hg => t.gH k hg hH
theorem TrOn.beneath (o : HKOk K) {w0 w w' : World} {F G H : Nat → Prop} {B T : Nat} {S : σ} {l : List ByteArray} (t : TrOn K w0 w F G H B T S l) (hb : Below w.heap.size w w') : TrOn K w0 w' F G H B T S l := t.call (Touch.of_below hb) (o.below t.v hb) (K.ext_refl S)
theorem TrOn.rows0 (h : ByteArray → ByteArray) (l : List ByteArray) : (rowsUp h l (hgt l.length))[0]? = some (rowAt h l 0) := rowsUp_get h l _ 0 (Nat.zero_le _)
theorem tr_len0 (h : ByteArray → ByteArray) (l : List ByteArray) : (rowAt h l 0).length = l.length := by rw [rowAt_length]; rfl
theorem count_on {w0 w : World} {F G H : Nat → Prop} {B T : Nat} {S : σ} {l : List ByteArray} (t : TrOn K w0 w F G H B T S l) :
    Calls Try.prog 15 #[.pointer (some ⟨T, 0, none⟩)] w fun e w' => e = .returned (.int .i64 (l.length : Nat)) ∧ w' = w := by
  obtain ⟨rv, gs, htr⟩ := t.tree
  have := count_some htr (TrOn.rows0 _ l)
  rw [tr_len0] at this
  exact this
theorem has_on {w0 w : World} {F G H : Nat → Prop} {B T : Nat} {S : σ} {l : List ByteArray} (t : TrOn K w0 w F G H B T S l) (i : Int) :
    Calls Try.prog 21 #[.pointer (some ⟨T, 0, none⟩), .int .i64 i] w fun e w' => e = .returned (.bool (decide (0 ≤ i ∧ i < (l.length : Nat)))) ∧ w' = w := by
  obtain ⟨rv, gs, htr⟩ := t.tree
  have := has_some htr (TrOn.rows0 _ l) i
  rw [tr_len0] at this
  exact this
theorem top_size (o : HKOk K) {S : σ} {l : List ByteArray} (tin : TreeInK (K.D S) (K.h S) l (hgt l.length)) (hn : K.n S ≤ 2000000) : (topS (K.h S) l).size ≤ 32 := by
  unfold topS
  cases hr : rowAt (K.h S) l (hgt l.length) with
  | nil => exact Nat.zero_le _
  | cons a r =>
    have := tin.sizes (fun x hx => o.size S x hx hn) _ (Nat.le_refl _) a (by rw [hr]; exact List.mem_cons_self)
    show a.size ≤ 32
    omega
def RootPost (K : HK σ) (w0 w : World) (F G H : Nat → Prop) (B T : Nat) (S : σ) (l : List ByteArray) (e : Ending) (w' : World) : Prop :=
  ∃ S', e = .returned (.string (K.h S' (rootT l.length (topS (K.h S') l)))) ∧ TrOn K w0 w' F G H B T S' l ∧ Touch G w w' ∧ K.ext S S' ∧ K.D S' (rootT l.length (topS (K.h S') l)) ∧ K.n S' ≤ K.n S + 1
theorem root_on (o : HKOk K) {w0 w : World} {F G H : Nat → Prop} {B T : Nat} {S : σ} {l : List ByteArray} (t : TrOn K w0 w F G H B T S l) (hl : l.length ≤ 200) (hn : K.n S ≤ 1000000) :
    Calls Try.prog 14 #[.pointer (some ⟨T, 0, none⟩)] w (RootPost K w0 w F G H B T S l) := by
  obtain ⟨rv, gs, htr⟩ := t.tree
  have hh := hgt_le l.length
  have := root_some o w F G H T B S rv gs _ htr (k := hgt l.length) (rowsUp_length _ _ _) (by omega) (TrOn.rows0 _ l) (rowsUp_get _ _ _ _ (Nat.le_refl _)) (by rw [tr_len0]; omega) (by have := top_size o t.tin (by omega); show (topS (K.h S) l).size ≤ _; omega) hn (fun hg => t.gH _ hg htr.hT) t.v
  rw [tr_len0] at this
  refine this.mono fun e w' ⟨S', he, h1, h2, h3, h4, h5⟩ => ?_
  have e1 : topS (K.h S') l = topS (K.h S) l := by
    unfold topS
    rw [rowAt_sameK t.tin (fun x hx => (h3 x hx).2) _ (Nat.le_refl _)]
  refine ⟨S', ?_, t.call h2 h1 h3, h2, h3, ?_, h5⟩
  · rw [he, e1]; rfl
  · rw [e1]; exact h4
def CheckPost (K : HK σ) (w0 w : World) (F G H : Nat → Prop) (B T : Nat) (S : σ) (l : List ByteArray) (top : ByteArray) (n i : Int) (s : ByteArray) (p : List Stp) (e : Ending) (w' : World) : Prop :=
  ∃ S', e = .returned (.bool (chkB (K.h S') top n i s p)) ∧ TrOn K w0 w' F G H B T S' l ∧ Touch G w w' ∧ K.ext S S' ∧ K.n S' ≤ K.n S + 32770 ∧ (okB top n i p = true → ClimbIn (K.D S') (K.h S') s p ∧ K.D S' (rootT n.toNat (climb (K.h S') (K.h S' (leafT s)) p)))
theorem check_on (o : HKOk K) {w0 w : World} {F G H : Nat → Prop} {B T : Nat} {S : σ} {l : List ByteArray} (t : TrOn K w0 w F G H B T S l) (top : ByteArray) (n i : Int) (s : ByteArray) (oa : Option Addr) (c : Nat) (p : List Stp) (hp : p.length ≤ 1000000) (hP : PathIn w G oa p) (hs : s.size ≤ 1000) (hn : K.n S ≤ 500000) :
    Calls Try.prog 13 #[.pointer (some ⟨B, 0, none⟩), .string top, .int .i64 n, .int .i64 i, .string s, .slice oa p.length c] w (CheckPost K w0 w F G H B T S l top n i s p) :=
  (check_any o w F G B S top n i s oa c p hp hP hs hn t.v).mono fun _ _ ⟨S', he, h1, h2, h3, h4, h5⟩ => ⟨S', he, t.call h2 h1 h3, h2, h3, h4, h5⟩
/-- A new tree. -/
theorem new_on (o : HKOk K) {w0 w : World} {F G : Nat → Prop} {B : Nat} {S : σ} (oa : Option Addr) (c : Nat) (l : List ByteArray) (hlv : Lv w G oa l) (hlen : l.length ≤ 200) (hs : ∀ x, x ∈ l → x.size ≤ 1000) (hn : K.n S ≤ 500000) (hF : ∀ k, F k → k < w.heap.size) (hG : ∀ k, G k → w0.heap.size ≤ k ∧ k < w.heap.size) (v : K.V w F G B S) (hb : Below w0.heap.size w0 w) :
    Calls Try.prog 10 #[.pointer (some ⟨B, 0, none⟩), .slice oa l.length c] w fun e w' => ∃ S' T, e = .returned (.pointer (some ⟨T, 0, none⟩)) ∧ TrOn K w0 w' F G (fun k => w.heap.size ≤ k ∧ k < w'.heap.size) B T S' l ∧ Touch G w w' ∧ K.ext S S' ∧ K.n S' ≤ K.n S + 40200 :=
  (treeNew_any o w F G B S oa c l hlv hlen hs hn hF (fun k hk => (hG k hk).2) v).mono fun e w' ⟨S', T, rv, gs, he, h1, h2, h3, h4, h5, h6⟩ => by
    refine ⟨S', T, he, ⟨h1, ⟨rv, gs, h2⟩, h3, fun k hk hH => absurd (hG k hk).2 (Nat.not_lt_of_le hH.1), fun k hk => ⟨(hG k hk).1, Nat.lt_of_lt_of_le (hG k hk).2 h4.size⟩, fun k hk => ⟨Nat.le_trans hb.size hk.1, hk.2⟩, fun k hk => ⟨fun hH => absurd (hF k hk) (Nat.not_lt_of_le hH.1), Nat.lt_of_lt_of_le (hF k hk) h4.size⟩, hb.trans (h4.below hb.size fun k hk => (hG k hk).1)⟩, h4, h5, ?_⟩
    have h7 := hgt_le l.length
    have h8 : (hgt l.length + 1) * l.length ≤ 201 * 200 := Nat.mul_le_mul (by omega) hlen
    omega
end
end Go.Proofs.Ytmmgpidmeeabeaa
