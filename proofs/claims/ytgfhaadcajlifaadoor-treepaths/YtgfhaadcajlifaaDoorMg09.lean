/- tree's small functions: above, height, four; and the hashes of a leaf, a node and a root, over ANY vault whose Hash is told. -/
import Derived.Test.YtgfhaadcajlifaaDoorMg04
import Derived.Test.YtgfhaadcajlifaaDoorMg08
import Derived.Test.YtgfhaadcajlifaaDoorMg05
namespace Go.Proofs.YtgfhaadcajlifaaDoor
set_option maxRecDepth 20000
open Go.RowKit

/-- A vault that hashes: how it lies in memory (F: on which blocks that hangs; G: which of them a call may change), what it tells of a text, which texts it was handed, and how many. -/
structure HK (σ : Type) where
  V : World → (Nat → Prop) → (Nat → Prop) → Nat → σ → Prop
  h : σ → ByteArray → ByteArray
  D : σ → ByteArray → Prop
  n : σ → Nat
/-- One state behind another. -/
def HK.ext {σ : Type} (K : HK σ) (S S' : σ) : Prop := ∀ x, K.D S x → K.D S' x ∧ K.h S' x = K.h S x
theorem HK.ext_refl {σ : Type} (K : HK σ) (S : σ) : K.ext S S := fun _ h => ⟨h, rfl⟩
theorem HK.ext_trans {σ : Type} {K : HK σ} {S S1 S2 : σ} (a : K.ext S S1) (b : K.ext S1 S2) : K.ext S S2 := fun x h => ⟨(b x (a x h).1).1, (b x (a x h).1).2.trans (a x h).2⟩
def HPost {σ : Type} (K : HK σ) (w : World) (F G : Nat → Prop) (B : Nat) (S : σ) (x : ByteArray) (e : Ending) (w' : World) : Prop :=
  ∃ S', e = .returned (.string (K.h S' x)) ∧ K.V w' F G B S' ∧ Touch G w w' ∧ K.ext S S' ∧ K.D S' x ∧ K.n S' ≤ K.n S + 1
structure HKOk {σ : Type} (K : HK σ) : Prop where
  keep : ∀ {w w' : World} {F G : Nat → Prop} {B : Nat} {S : σ}, K.V w F G B S → (∀ k, k < w.heap.size → F k → w'.heap[k]? = w.heap[k]?) → K.V w' F G B S
  call : ∀ (w : World) (F G : Nat → Prop) (B : Nat) (S : σ) (x : ByteArray), x.size ≤ 1048576 → K.n S ≤ 1000000 → K.V w F G B S → Calls Tryd.prog 42 #[.pointer (some ⟨B, 0, none⟩), .string x] w (HPost K w F G B S x)
  size : ∀ (S : σ) (x : ByteArray), K.D S x → K.n S ≤ 2000000 → (K.h S x).size = 32
theorem HKOk.below {σ : Type} {K : HK σ} (o : HKOk K) {w w' : World} {F G : Nat → Prop} {B : Nat} {S : σ} (v : K.V w F G B S) (hb : Below w.heap.size w w') : K.V w' F G B S := o.keep v fun k hk _ => hb.block k hk
theorem Touch.pre {G : Nat → Prop} {w w1 w2 : World} (hb : Below w.heap.size w w1) (t : Touch G w1 w2) : Touch G w w2 := (Touch.of_below hb).trans (t.mono fun _ h => .inl h)
theorem Touch.post {G : Nat → Prop} {w w1 w2 : World} (t : Touch G w w1) (hb : Below w1.heap.size w1 w2) : Touch G w w2 := t.trans (Touch.of_below hb)

theorem above_any (n : Nat) (hn : n ≤ 1000000000) (w : World) : Calls Tryd.prog 43 #[.int .i64 (n : Int)] w fun e w' => e = .returned (.int .i64 (upN n : Nat)) ∧ w' = w := by
  obtain ⟨q, hq⟩ : ∃ q : Int, q = ((upN n : Nat) : Int) := ⟨_, rfl⟩
  rw [← hq]
  have m1 : IntKind.i64.wrap ((n : Int) + 4) = (n : Int) + 4 := by rw [IntKind.wrap_i64]; omega
  have m2 : IntKind.i64.wrap ((n : Int) + 4 - 1) = (n : Int) + 4 - 1 := by rw [IntKind.wrap_i64]; omega
  have m3 : ((n : Int) + 4 - 1).tdiv 4 = q := by rw [Int.tdiv_eq_ediv_of_nonneg (by omega), hq, upN]; omega
  have m4 : ((n : Int) + 4 - 1) / 4 = q := by rw [hq, upN]; omega
  have m5 : IntKind.i64.wrap q = q := by rw [IntKind.wrap_i64, hq, upN]; omega
  clear hq
  go_enter Tryd.func43, Tryd.ntmps43
  go_wp2
  go_ret
  exact ⟨rfl, rfl⟩
set_option maxHeartbeats 400000 in
theorem height_any (n : Nat) (hn : n ≤ 1000000000) (w : World) : Calls Tryd.prog 23 #[.int .i64 (n : Int)] w fun e w' => e = .returned (.int .i64 (hgt n : Nat)) ∧ w' = w := by
  obtain ⟨q, hq⟩ : ∃ q : Nat, q = hgt n := ⟨_, rfl⟩
  have hql := hgt_le n
  rw [← hq] at hql ⊢
  have HQ : Hid (0 + hgt n = q) := by show _ = _; omega
  clear hq
  go_enter Tryd.func23, Tryd.ntmps23
  go_wp2_with fail
  go_loopw [0, 3] (fun v u wr => ∃ (m r : Nat), m ≤ n ∧ v = .int .i64 (m : Int) ∧ u = .int .i64 (r : Int) ∧ r + hgt m = q ∧ wr = w) (fun v _ _ => (intOf v).toNat)
  case atStart => exact ⟨n, 0, Nat.le_refl _, rfl, rfl, HQ.out, rfl⟩
  case round =>
    clear HQ
    obtain ⟨m, r, hm, rfl, rfl, he, rfl⟩ := hrel
    by_cases h1 : 1 < m
    · have h2 : (1 : Int) < m := by omega
      have ha := fun w => above_any m (by omega) w
      have hu : upN m < m := by unfold upN; omega
      have he2 : r + 1 + hgt (upN m) = q := by rw [hgt_step h1] at he; omega
      have HE : Hid (r + 1 + hgt (upN m) = q) := he2
      have m2 : IntKind.i64.wrap ((r : Int) + 1) = (r : Int) + 1 := by rw [IntKind.wrap_i64]; omega
      clear he he2
      generalize upN m = k at *
      go_wp2_with fail
      refine (ha _).mono ?_
      rintro e w2 ⟨rfl, rfl⟩
      go_wp2
      go_roundw
      case rel => exact ⟨k, r + 1, by omega, rfl, by go_num, HE.out, trivial⟩
      case measure => simp [intOf]; omega
    · have h2 : ¬ (1 : Int) < m := by omega
      rw [hgt_end h1] at he
      obtain rfl : r = q := by omega
      go_wp2
      go_ret
      exact ⟨rfl, rfl⟩
theorem four_any (n i : Nat) (hi : i ≤ 1000000000) (w : World) : Calls Tryd.prog 47 #[.int .i64 (n : Int), .int .i64 (i : Int)] w fun e w' => e = .returned (.tuple #[.int .i64 (4 * (i / 4) : Nat), .int .i64 (min (4 * (i / 4) + 4) n : Nat)]) ∧ w' = w := by
  obtain ⟨r, hr⟩ : ∃ r : Nat, r = i % 4 := ⟨_, rfl⟩
  obtain ⟨f, hf⟩ : ∃ f : Nat, f = 4 * (i / 4) := ⟨_, rfl⟩
  obtain ⟨t, ht⟩ : ∃ t : Nat, t = min (4 * (i / 4) + 4) n := ⟨_, rfl⟩
  rw [← ht, ← hf]
  have m1 : ((i : Int).tmod 4) = r := by rw [Int.tmod_eq_emod_of_nonneg (by omega)]; omega
  have m1' : ((i : Int) % 4) = r := by omega
  have m2 : IntKind.i64.wrap (r : Int) = r := by rw [IntKind.wrap_i64]; omega
  have m3 : IntKind.i64.wrap ((i : Int) - r) = f := by rw [IntKind.wrap_i64]; omega
  have m4 : IntKind.i64.wrap ((f : Int) + 4) = (f : Int) + 4 := by rw [IntKind.wrap_i64]; omega
  rw [← hf] at ht
  have mn : min ((f : Int) + 4) (n : Int) = (t : Int) := by omega
  clear hr hf ht
  go_enter Tryd.func47, Tryd.ntmps47
  go_wp2
  go_ret2
  exact ⟨rfl, rfl⟩

section
variable {σ : Type} {K : HK σ}
set_option maxHeartbeats 400000 in
theorem leafHash_any (o : HKOk K) (w : World) (F G : Nat → Prop) (B : Nat) (S : σ) (s : ByteArray) (hs : s.size ≤ 1048000) (hn : K.n S ≤ 1000000) (v : K.V w F G B S) :
    Calls Tryd.prog 22 #[.pointer (some ⟨B, 0, none⟩), .string s] w (HPost K w F G B S (leafT s)) := by
  have hadd : ∀ w', (Op.stringOp .add ⟨#[0]⟩ s).run Tryd.prog w' = .ok (.string (leafT s)) w' := fun w' => run_string_add_sum (P := Tryd.prog) (w := w') ⟨#[0]⟩ s (by show 1 + s.size ≤ _; omega)
  have hc := o.call w F G B S (leafT s) (by unfold leafT; rw [ByteArray.size_append]; show 1 + s.size ≤ _; omega) hn v
  generalize leafT s = x at *
  clear v
  go_enter Tryd.func22, Tryd.ntmps22
  go_wp2_with fail
  refine hc.mono ?_
  rintro e w1 ⟨S', rfl, h1⟩
  have HF : Hid _ := h1
  clear hc h1
  go_wp2
  go_ret
  exact ⟨S', rfl, HF.out⟩
set_option maxHeartbeats 400000 in
theorem nodeHash_any (o : HKOk K) (w : World) (F G : Nat → Prop) (B : Nat) (S : σ) (bk of c : Nat) (xs : List ByteArray) (hcells : ∀ (j : Nat) x, xs[j]? = some x → w.cell? ⟨bk, of + j, none⟩ = some (.string x)) (hbk : bk < w.heap.size) (hcap : xs.length ≤ c) (hx : xs.length ≤ 1000000) (hs : (catB xs).size ≤ 1048000) (hn : K.n S ≤ 1000000) (v : K.V w F G B S) :
    Calls Tryd.prog 36 #[.pointer (some ⟨B, 0, none⟩), .slice (some ⟨bk, of, none⟩) xs.length c] w (HPost K w F G B S (nodeT xs)) := by
  have hadd : ∀ w', (Op.stringOp .add ⟨#[1]⟩ (catB xs)).run Tryd.prog w' = .ok (.string (nodeT xs)) w' := fun w' => run_string_add_sum (P := Tryd.prog) (w := w') ⟨#[1]⟩ (catB xs) (by show 1 + (catB xs).size ≤ _; omega)
  have hj := join_any bk of c xs w hcells hbk (by omega) hcap (by omega)
  have hc := fun w' hv => o.call w' F G B S (nodeT xs) (by unfold nodeT; rw [ByteArray.size_append]; show 1 + (catB xs).size ≤ _; omega) hn hv
  have HV : Hid (K.V w F G B S) := v
  generalize nodeT xs = x at *
  generalize catB xs = y at *
  generalize xs.length = len at *
  clear v hcells
  go_enter Tryd.func36, Tryd.ntmps36
  go_wp2_with fail
  refine hj.mono ?_
  rintro e w1 ⟨rfl, hb⟩
  clear hj
  go_wp2_with fail
  refine (hc w1 (o.below HV.out hb)).mono ?_
  rintro e w2 ⟨S', rfl, h1, h2, h3⟩
  have HF : Hid (K.V w2 F G B S' ∧ Touch G w w2 ∧ K.ext S S' ∧ K.D S' x ∧ K.n S' ≤ K.n S + 1) := ⟨h1, h2.pre hb, h3⟩
  clear hc h1 h2 h3 hb HV
  go_wp2
  go_ret
  exact ⟨S', rfl, HF.out⟩
set_option maxHeartbeats 400000 in
theorem rootHash_any (o : HKOk K) (w : World) (F G : Nat → Prop) (B : Nat) (S : σ) (n : Nat) (t : ByteArray) (hm : n < 281474976710656) (hs : t.size ≤ 1048000) (hn : K.n S ≤ 1000000) (v : K.V w F G B S) :
    Calls Tryd.prog 26 #[.pointer (some ⟨B, 0, none⟩), .int .i64 (n : Int), .string t] w (HPost K w F G B S (rootT n t)) := by
  have hz := put6_size hm
  have hp := fun w => put_any (n : Int) 6 w
  have ha1 : ∀ w', (Op.stringOp .add ⟨#[2]⟩ (putS n 6)).run Tryd.prog w' = .ok (.string (⟨#[2]⟩ ++ putS n 6)) w' := fun w' => run_string_add_sum (P := Tryd.prog) (w := w') ⟨#[2]⟩ (putS n 6) (by show 1 + (putS n 6).size ≤ _; omega)
  have hz2 : ((⟨#[2]⟩ : ByteArray) ++ putS n 6).size = 7 := by rw [ByteArray.size_append, hz]; rfl
  have ha2 : ∀ w', (Op.stringOp .add (⟨#[2]⟩ ++ putS n 6) t).run Tryd.prog w' = .ok (.string (rootT n t)) w' := fun w' => run_string_add_sum (P := Tryd.prog) (w := w') (⟨#[2]⟩ ++ putS n 6) t (by omega)
  have hc := fun w' hv => o.call w' F G B S (rootT n t) (by unfold rootT; rw [ByteArray.size_append, hz2]; omega) hn hv
  have HV : Hid (K.V w F G B S) := v
  generalize rootT n t = x at *
  generalize (⟨#[2]⟩ : ByteArray) ++ putS n 6 = y at *
  generalize putS n 6 = z at *
  generalize putE n 6 = E at *
  clear v hz hz2
  go_enter Tryd.func26, Tryd.ntmps26
  go_wp2_with fail
  refine (hp _).mono ?_
  rintro e w1 ⟨rfl, hb⟩
  clear hp
  go_wp2_with fail
  refine (hc w1 (o.below HV.out hb)).mono ?_
  rintro e w2 ⟨S', rfl, h1, h2, h3⟩
  have HF : Hid (K.V w2 F G B S' ∧ Touch G w w2 ∧ K.ext S S' ∧ K.D S' x ∧ K.n S' ≤ K.n S + 1) := ⟨h1, h2.pre hb, h3⟩
  clear hc h1 h2 h3 hb HV
  go_wp2
  go_ret
  exact ⟨S', rfl, HF.out⟩
end
end Go.Proofs.YtgfhaadcajlifaaDoor
