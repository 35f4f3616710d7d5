/- The document's quarter of four of sixteen words. -/
import Derived.Test.YtoopaigpjefonaaGreatDoorMg46
import Derived.Test.YtoopaigpjefonaaGreatDoorMg43
import Derived.Deep.RegionWith
namespace Go.Proofs.YtoopaigpjefonaaGreatDoor.Bx
set_option maxRecDepth 20000
open Go.RowKit

/-- Sixteen ints that stand in a block, from its beginning on. -/
structure IntsAt (w : World) (g : Nat) (L : List Nat) : Prop where
  lt : g < w.heap.size
  cells : ∀ i, i < 16 → w.cell? ⟨g, i, none⟩ = some (.int .i64 (L.getD i 0 : Nat))
  free : ∀ i, i < 16 → w.frozen? ⟨g, i, none⟩ = false
theorem IntsAt.below {w w' : World} {g B : Nat} {L : List Nat} (h : IntsAt w g L) (hb : Below B w w') (hg : g < B) : IntsAt w' g L :=
  ⟨Nat.lt_of_lt_of_le h.lt hb.size, fun i hi => (hb.cell (p := ⟨g, i, none⟩) hg).trans (h.cells i hi), fun i hi => (hb.frozen (p := ⟨g, i, none⟩) hg).trans (h.free i hi)⟩
theorem getD_set (L : List Nat) (i j v : Nat) (h : i < L.length) : (L.set i v).getD j 0 = if j = i then v else L.getD j 0 := by
  rw [List.getD_eq_getElem?_getD, List.getElem?_set]
  by_cases e : i = j
  · subst e
    rw [if_pos rfl, if_pos h, if_pos rfl]; rfl
  · rw [if_neg e, if_neg (Ne.symm e), List.getD_eq_getElem?_getD]
theorem IntsAt.set {w : World} {g : Nat} {L : List Nat} (h : IntsAt w g L) (hl : L.length = 16) (i v : Nat) (hi : i < 16) : IntsAt (w.setCell ⟨g, i, none⟩ (.int .i64 v)) g (L.set i v) := by
  refine ⟨by have := h.lt; simp [World.setCell]; exact this, fun j hj => ?_, fun j hj => ?_⟩
  · rw [getD_set L i j v (by omega)]
    by_cases e : j = i
    · subst e
      rw [if_pos rfl, World.cell?_setCell_same _ _ _ (h.cells j hj)]
    · rw [if_neg e, World.cell?_setCell_other _ _ _ _ (by intro hh; injection hh with _ h2; exact e h2.symm)]
      exact h.cells j hj
  · rw [World.frozen?_setCell]; exact h.free j hj
theorem IntsAt.drew {w : World} {g : Nat} {L : List Nat} (h : IntsAt w g L) : IntsAt w.drew g L := ⟨h.lt, h.cells, h.free⟩
/-- A quarter of four of the words, step by step. -/
def rq1 (L : List Nat) (a b : Nat) : List Nat := L.set a ((L.getD a 0 + L.getD b 0) % 4294967296)
def rq2 (n : Nat) (L : List Nat) (d a : Nat) : List Nat := L.set d (rotl (L.getD d 0 ^^^ L.getD a 0) n)
def rq (L : List Nat) (a b c d : Nat) : List Nat := rq2 7 (rq1 (rq2 8 (rq1 (rq2 12 (rq1 (rq2 16 (rq1 L a b) d a) c d) b c) a b) d a) c d) b c
theorem rq1_length (L : List Nat) (a b : Nat) : (rq1 L a b).length = L.length := by simp [rq1]
theorem rq2_length (n : Nat) (L : List Nat) (a b : Nat) : (rq2 n L a b).length = L.length := by simp [rq2]
theorem rq_length (L : List Nat) (a b c d : Nat) : (rq L a b c d).length = L.length := by simp [rq, rq1_length, rq2_length]
def Words (L : List Nat) : Prop := ∀ x ∈ L, x < 4294967296
theorem Words.get {L : List Nat} (h : Words L) (i : Nat) : L.getD i 0 < 4294967296 := getD_lt (by decide) h i
theorem Words.set {L : List Nat} (h : Words L) (i v : Nat) (hv : v < 4294967296) : Words (L.set i v) := fun x hx => by
  rcases List.mem_or_eq_of_mem_set hx with h1 | h1
  · exact h x h1
  · omega
theorem Words.rq1 {L : List Nat} (h : Words L) (a b : Nat) : Words (rq1 L a b) := h.set _ _ (Nat.mod_lt _ (by decide))
theorem Words.rq2 {L : List Nat} (h : Words L) (n a b : Nat) : Words (rq2 n L a b) := h.set _ _ (rotl_lt _ _)

/-- A region's one end. -/
def ended (A : Act) (W : World) : Exit → Act → World → Prop
  | .normal, a, w => a = A ∧ w = W
  | _, _, _ => False
theorem ended_out {A : Act} {W : World} {e : Exit} {a : Act} {w : World} (h : ended A W e a w) : e = .normal ∧ a = A ∧ w = W := by
  cases e <;> first | exact ⟨rfl, h⟩ | exact (h : False).elim

set_option maxRecDepth 10000 in
set_option maxHeartbeats 4000000 in
theorem rquarter_any (L : List Nat) (hl : L.length = 16) (hw : Words L) (a b c d : Nat) (ha : a < 16) (hb : b < 16) (hc : c < 16) (hd : d < 16) (gx capx : Nat) (w : World) (hx : IntsAt w gx L) :
    Calls Tryz.prog 198 #[.slice (some ⟨gx, 0, none⟩) 16 capx, .int .i64 a, .int .i64 b, .int .i64 c, .int .i64 d] w fun e w' => ∃ g cap, e = .returned (.slice (some ⟨g, 0, none⟩) 16 cap) ∧ IntsAt w' g (rq L a b c d) ∧ w.heap.size ≤ g ∧ Below w.heap.size w w' := by
  obtain ⟨i0, hi, hz0, hz1, hz2⟩ := info_parts info_int
  have hE : OwnC (w.alloc (.cells #[] 3)) w.heap.size w.heap.size 0 0 [] := ⟨rfl, Nat.le_refl _, by simp, Nat.le_refl _, by decide, fun i hi => absurd hi (Nat.not_lt_zero _), fun i hi => absurd hi (Nat.not_lt_zero _), fun i u h => by simp at h⟩
  have hb0 : Below w.heap.size w (w.alloc (.cells #[] 3)) := (Below.refl _ _).alloc (Nat.le_refl _) _
  have hx0 := hx.below hb0 hx.lt
  have hnews : ∀ j u, (L.map fun (x : Nat) => Value.int .i64 (x : Int))[j]? = some u → (w.alloc (.cells #[] 3)).cell? ((⟨gx, 0, none⟩ : Addr).add j) = some u := fun j u hj => by
    have hlt := (List.getElem?_eq_some_iff.1 hj).1
    rw [List.length_map] at hlt
    have hadd : (⟨gx, 0, none⟩ : Addr).add j = ⟨gx, j, none⟩ := by unfold Addr.add; split <;> simp_all
    rw [hadd, hx0.cells j (by omega), ← hj, List.getElem?_map, List.getElem?_eq_getElem hlt, getD_at _ _ hlt]
    rfl
  clear hx hx0
  go_enter Tryz.func198, Tryz.ntmps198
  go_wp2_with (at_builtin; refine wpList_appendC _ rfl _ _ 92 rfl w.heap.size 3 i0 (.int .i64 0) 8 Tryz.underlying92 hi hz0 hz1 hz2 rfl w.heap.size 0 0 [] rfl hE ⟨gx, 0, none⟩ 16 capx (L.map fun (x : Nat) => Value.int .i64 (x : Int)) rfl (by simp [hl]) hnews ?c2 ?c3 ?c4 ?c5 ?_)
  case c2 =>
    intro u hu
    obtain ⟨x, _, rfl⟩ := List.mem_map.1 hu
    rfl
  case c3 => unfold maxLen; omega
  case c4 => omega
  case c5 => simp
  intro g cap w0 hown hgrow _
  have hbw0 : Below w.heap.size w w0 := hb0.grown hgrow (by simp) (fun k hk => by obtain rfl : w.heap.size = k := (by simpa using hk); exact Nat.le_refl _)
  have hgl := hown.low
  have h0 : IntsAt w0 g L := ⟨hown.lt, fun i hi => hown.cells i _ (by rw [List.getElem?_map, List.getElem?_eq_getElem (by omega), getD_at _ _ (by omega)]; rfl), fun i hi => hown.free i (by have := hown.room; omega)⟩
  clear hown hgrow hE hb0 hnews
  have ia : (a : Int) < 16 := by omega
  have ib : (b : Int) < 16 := by omega
  have ic : (c : Int) < 16 := by omega
  have id_ : (d : Int) < 16 := by omega
  obtain ⟨L0, hL0⟩ : ∃ L0, L0 = L := ⟨_, rfl⟩
  rw [← hL0] at h0
  have hl0 : L0.length = 16 := by rw [hL0]; exact hl
  have hw0 : Words L0 := by rw [hL0]; exact hw
  have H0 : Hid (L0 = L) := hL0
  clear hL0 hw hl
  go_wp2_with fail
  have cx := h0.cells a ha
  have cy := h0.cells b hb
  have fx := h0.free a ha
  have lx := hw0.get a
  have ly := hw0.get b
  obtain ⟨v0, hv⟩ : ∃ v, v = (L0.getD a 0 + L0.getD b 0) % 4294967296 := ⟨_, rfl⟩
  have hx_ : IntKind.i64.wrap ((L0.getD a 0 : Nat) + (L0.getD b 0 : Nat) : Int) = ((L0.getD a 0 + L0.getD b 0 : Nat) : Int) := by rw [IntKind.wrap_i64]; omega
  have hc_ := fun w => rlow_z ((L0.getD a 0 + L0.getD b 0 : Nat) : Int) (L0.getD a 0 + L0.getD b 0) rfl (by omega) v0 hv w
  have h1 : IntsAt ((w0.setCell ⟨g, a, none⟩ (.int .i64 v0)).drew) g (rq1 L0 a b) := by
    have := h0.set hl0 a v0 ha
    rw [hv] at this ⊢
    exact ⟨this.lt, this.cells, this.free⟩
  have hbw1 : Below w.heap.size w ((w0.setCell ⟨g, a, none⟩ (.int .i64 v0)).drew) := (hbw0.setCell (p := ⟨g, a, none⟩) hgl (.int .i64 v0)).drew
  obtain ⟨L1, hL1⟩ : ∃ L', L' = rq1 L0 a b := ⟨_, rfl⟩
  rw [← hL1] at h1
  have hl1 : L1.length = 16 := by rw [hL1, rq1_length]; exact hl0
  have hw1 : Words L1 := by rw [hL1]; exact hw0.rq1 _ _
  have H1 : Hid (L1 = rq1 L0 a b) := hL1
  have G1 : Hid (IntsAt ((w0.setCell ⟨g, a, none⟩ (.int .i64 v0)).drew) g L1 ∧ Below w.heap.size w ((w0.setCell ⟨g, a, none⟩ (.int .i64 v0)).drew)) := ⟨h1, hbw1⟩
  clear hv hL1 h1 hbw1 h0 hbw0 hl0 hw0
  generalize L0.getD a 0 + L0.getD b 0 = z0 at *
  generalize L0.getD a 0 = X0 at *
  generalize L0.getD b 0 = Z0 at *
  refine Code.wp_mono (Q := ended { tmps := #[.slice (some ⟨gx, 0, none⟩) 16 capx, .int .i64 a, .int .i64 b, .int .i64 c, .int .i64 d, undef, undef, undef, undef, undef, .slice none 0 0, .slice (some ⟨g, 0, none⟩) 16 cap, .slice (some ⟨w.heap.size, 0, none⟩) 0 0, .slice (some ⟨gx, 0, none⟩) 16 capx, .slice (some ⟨g, 0, none⟩) 16 cap, .slice (some ⟨g, 0, none⟩) 16 cap, .int .i64 a, .slice (some ⟨g, 0, none⟩) 16 cap, .int .i64 a, .pointer (some ⟨g, a, none⟩), .int .i64 X0, .slice (some ⟨g, 0, none⟩) 16 cap, .int .i64 b, .pointer (some ⟨g, b, none⟩), .int .i64 Z0, .int .i64 (z0 : Nat), .int .i64 v0, .pointer (some ⟨g, a, none⟩), undef, undef, undef, undef, undef, undef, undef, undef, undef, undef, undef, undef, undef, undef, undef, undef, undef, undef, undef, undef, undef, undef, undef, undef, undef, undef, undef, undef, undef, undef, undef, undef, undef, undef, undef, undef, undef, undef, undef, undef, undef, undef, undef, undef, undef, undef, undef, undef, undef, undef, undef, undef, undef, undef, undef, undef, undef, undef, undef, undef, undef, undef, undef, undef, undef, undef, undef, undef, undef, undef, undef, undef, undef, undef, undef, undef, undef, undef, undef, undef, undef, undef, undef, undef, undef, undef, undef, undef, undef, undef, undef, undef], defers := [] } ((w0.setCell ⟨g, a, none⟩ (.int .i64 v0)).drew)) (fun e a' w' hh => ?_) ?_
  rotate_left
  · go_region_with (first | (go_at_call 199; refine (hc_ _).mono ?_; rintro e w1 ⟨rfl, rfl⟩))
    all_goals exact ⟨rfl, rfl⟩
  obtain ⟨rfl, rfl, rfl⟩ := ended_out hh
  obtain ⟨h1, hbw1⟩ := G1.out
  clear cx cy fx lx ly hc_ hx_ G1
  generalize (w0.setCell ⟨g, a, none⟩ (.int .i64 v0)).drew = w1 at *
  go_wp2_with fail
  have cx := h1.cells d hd
  have cy := h1.cells a ha
  have fx := h1.free d hd
  have lx := hw1.get d
  have ly := hw1.get a
  obtain ⟨v1, hv⟩ : ∃ v, v = rotl (L1.getD d 0 ^^^ L1.getD a 0) 16 := ⟨_, rfl⟩
  have hx_ := i64_xor_nat (L1.getD d 0) (L1.getD a 0) (by omega) (by omega)
  have hc_ : ∀ w, Calls Tryz.prog 211 #[.int .i64 (L1.getD d 0 ^^^ L1.getD a 0 : Nat), .int .i64 16] w fun e w' => e = .returned (.int .i64 v1) ∧ w' = w.drew := fun w => by rw [hv]; exact rleft_any (L1.getD d 0 ^^^ L1.getD a 0) 16 (xor_lt lx ly) (by decide) (by decide) w
  have h2 : IntsAt ((w1.setCell ⟨g, d, none⟩ (.int .i64 v1)).drew.drew) g (rq2 16 L1 d a) := by
    have := h1.set hl1 d v1 hd
    rw [hv] at this ⊢
    exact ⟨this.lt, this.cells, this.free⟩
  have hbw2 : Below w.heap.size w ((w1.setCell ⟨g, d, none⟩ (.int .i64 v1)).drew.drew) := (hbw1.setCell (p := ⟨g, d, none⟩) hgl (.int .i64 v1)).drew.drew
  obtain ⟨L2, hL2⟩ : ∃ L', L' = rq2 16 L1 d a := ⟨_, rfl⟩
  rw [← hL2] at h2
  have hl2 : L2.length = 16 := by rw [hL2, rq2_length]; exact hl1
  have hw2 : Words L2 := by rw [hL2]; exact hw1.rq2 _ _ _
  have H2 : Hid (L2 = rq2 16 L1 d a) := hL2
  have G2 : Hid (IntsAt ((w1.setCell ⟨g, d, none⟩ (.int .i64 v1)).drew.drew) g L2 ∧ Below w.heap.size w ((w1.setCell ⟨g, d, none⟩ (.int .i64 v1)).drew.drew)) := ⟨h2, hbw2⟩
  clear hv hL2 h2 hbw2 h1 hbw1 hl1 hw1
  generalize L1.getD d 0 ^^^ L1.getD a 0 = z1 at *
  generalize L1.getD d 0 = X1 at *
  generalize L1.getD a 0 = Z1 at *
  refine Code.wp_mono (Q := ended { tmps := #[.slice (some ⟨gx, 0, none⟩) 16 capx, .int .i64 a, .int .i64 b, .int .i64 c, .int .i64 d, undef, undef, undef, undef, undef, .slice none 0 0, .slice (some ⟨g, 0, none⟩) 16 cap, .slice (some ⟨w.heap.size, 0, none⟩) 0 0, .slice (some ⟨gx, 0, none⟩) 16 capx, .slice (some ⟨g, 0, none⟩) 16 cap, .slice (some ⟨g, 0, none⟩) 16 cap, .int .i64 a, .slice (some ⟨g, 0, none⟩) 16 cap, .int .i64 a, .pointer (some ⟨g, a, none⟩), .int .i64 X0, .slice (some ⟨g, 0, none⟩) 16 cap, .int .i64 b, .pointer (some ⟨g, b, none⟩), .int .i64 Z0, .int .i64 (z0 : Nat), .int .i64 v0, .pointer (some ⟨g, a, none⟩), .slice (some ⟨g, 0, none⟩) 16 cap, .int .i64 d, .slice (some ⟨g, 0, none⟩) 16 cap, .int .i64 d, .pointer (some ⟨g, d, none⟩), .int .i64 X1, .slice (some ⟨g, 0, none⟩) 16 cap, .int .i64 a, .pointer (some ⟨g, a, none⟩), .int .i64 Z1, .int .i64 (z1 : Nat), .int .i64 v1, .pointer (some ⟨g, d, none⟩), undef, undef, undef, undef, undef, undef, undef, undef, undef, undef, undef, undef, undef, undef, undef, undef, undef, undef, undef, undef, undef, undef, undef, undef, undef, undef, undef, undef, undef, undef, undef, undef, undef, undef, undef, undef, undef, undef, undef, undef, undef, undef, undef, undef, undef, undef, undef, undef, undef, undef, undef, undef, undef, undef, undef, undef, undef, undef, undef, undef, undef, undef, undef, undef, undef, undef, undef, undef, undef, undef, undef, undef, undef, undef, undef, undef, undef, undef, undef], defers := [] } ((w1.setCell ⟨g, d, none⟩ (.int .i64 v1)).drew.drew)) (fun e a' w' hh => ?_) ?_
  rotate_left
  · go_region_with (first | (go_at_call 211; refine (hc_ _).mono ?_; rintro e w1 ⟨rfl, rfl⟩))
    all_goals exact ⟨rfl, rfl⟩
  obtain ⟨rfl, rfl, rfl⟩ := ended_out hh
  obtain ⟨h2, hbw2⟩ := G2.out
  clear cx cy fx lx ly hc_ hx_ G2
  generalize (w1.setCell ⟨g, d, none⟩ (.int .i64 v1)).drew.drew = w2 at *
  go_wp2_with fail
  have cx := h2.cells c hc
  have cy := h2.cells d hd
  have fx := h2.free c hc
  have lx := hw2.get c
  have ly := hw2.get d
  obtain ⟨v2, hv⟩ : ∃ v, v = (L2.getD c 0 + L2.getD d 0) % 4294967296 := ⟨_, rfl⟩
  have hx_ : IntKind.i64.wrap ((L2.getD c 0 : Nat) + (L2.getD d 0 : Nat) : Int) = ((L2.getD c 0 + L2.getD d 0 : Nat) : Int) := by rw [IntKind.wrap_i64]; omega
  have hc_ := fun w => rlow_z ((L2.getD c 0 + L2.getD d 0 : Nat) : Int) (L2.getD c 0 + L2.getD d 0) rfl (by omega) v2 hv w
  have h3 : IntsAt ((w2.setCell ⟨g, c, none⟩ (.int .i64 v2)).drew) g (rq1 L2 c d) := by
    have := h2.set hl2 c v2 hc
    rw [hv] at this ⊢
    exact ⟨this.lt, this.cells, this.free⟩
  have hbw3 : Below w.heap.size w ((w2.setCell ⟨g, c, none⟩ (.int .i64 v2)).drew) := (hbw2.setCell (p := ⟨g, c, none⟩) hgl (.int .i64 v2)).drew
  obtain ⟨L3, hL3⟩ : ∃ L', L' = rq1 L2 c d := ⟨_, rfl⟩
  rw [← hL3] at h3
  have hl3 : L3.length = 16 := by rw [hL3, rq1_length]; exact hl2
  have hw3 : Words L3 := by rw [hL3]; exact hw2.rq1 _ _
  have H3 : Hid (L3 = rq1 L2 c d) := hL3
  have G3 : Hid (IntsAt ((w2.setCell ⟨g, c, none⟩ (.int .i64 v2)).drew) g L3 ∧ Below w.heap.size w ((w2.setCell ⟨g, c, none⟩ (.int .i64 v2)).drew)) := ⟨h3, hbw3⟩
  clear hv hL3 h3 hbw3 h2 hbw2 hl2 hw2
  generalize L2.getD c 0 + L2.getD d 0 = z2 at *
  generalize L2.getD c 0 = X2 at *
  generalize L2.getD d 0 = Z2 at *
  refine Code.wp_mono (Q := ended { tmps := #[.slice (some ⟨gx, 0, none⟩) 16 capx, .int .i64 a, .int .i64 b, .int .i64 c, .int .i64 d, undef, undef, undef, undef, undef, .slice none 0 0, .slice (some ⟨g, 0, none⟩) 16 cap, .slice (some ⟨w.heap.size, 0, none⟩) 0 0, .slice (some ⟨gx, 0, none⟩) 16 capx, .slice (some ⟨g, 0, none⟩) 16 cap, .slice (some ⟨g, 0, none⟩) 16 cap, .int .i64 a, .slice (some ⟨g, 0, none⟩) 16 cap, .int .i64 a, .pointer (some ⟨g, a, none⟩), .int .i64 X0, .slice (some ⟨g, 0, none⟩) 16 cap, .int .i64 b, .pointer (some ⟨g, b, none⟩), .int .i64 Z0, .int .i64 (z0 : Nat), .int .i64 v0, .pointer (some ⟨g, a, none⟩), .slice (some ⟨g, 0, none⟩) 16 cap, .int .i64 d, .slice (some ⟨g, 0, none⟩) 16 cap, .int .i64 d, .pointer (some ⟨g, d, none⟩), .int .i64 X1, .slice (some ⟨g, 0, none⟩) 16 cap, .int .i64 a, .pointer (some ⟨g, a, none⟩), .int .i64 Z1, .int .i64 (z1 : Nat), .int .i64 v1, .pointer (some ⟨g, d, none⟩), .slice (some ⟨g, 0, none⟩) 16 cap, .int .i64 c, .slice (some ⟨g, 0, none⟩) 16 cap, .int .i64 c, .pointer (some ⟨g, c, none⟩), .int .i64 X2, .slice (some ⟨g, 0, none⟩) 16 cap, .int .i64 d, .pointer (some ⟨g, d, none⟩), .int .i64 Z2, .int .i64 (z2 : Nat), .int .i64 v2, .pointer (some ⟨g, c, none⟩), undef, undef, undef, undef, undef, undef, undef, undef, undef, undef, undef, undef, undef, undef, undef, undef, undef, undef, undef, undef, undef, undef, undef, undef, undef, undef, undef, undef, undef, undef, undef, undef, undef, undef, undef, undef, undef, undef, undef, undef, undef, undef, undef, undef, undef, undef, undef, undef, undef, undef, undef, undef, undef, undef, undef, undef, undef, undef, undef, undef, undef, undef, undef, undef, undef, undef], defers := [] } ((w2.setCell ⟨g, c, none⟩ (.int .i64 v2)).drew)) (fun e a' w' hh => ?_) ?_
  rotate_left
  · go_region_with (first | (go_at_call 199; refine (hc_ _).mono ?_; rintro e w1 ⟨rfl, rfl⟩))
    all_goals exact ⟨rfl, rfl⟩
  obtain ⟨rfl, rfl, rfl⟩ := ended_out hh
  obtain ⟨h3, hbw3⟩ := G3.out
  clear cx cy fx lx ly hc_ hx_ G3
  generalize (w2.setCell ⟨g, c, none⟩ (.int .i64 v2)).drew = w3 at *
  go_wp2_with fail
  have cx := h3.cells b hb
  have cy := h3.cells c hc
  have fx := h3.free b hb
  have lx := hw3.get b
  have ly := hw3.get c
  obtain ⟨v3, hv⟩ : ∃ v, v = rotl (L3.getD b 0 ^^^ L3.getD c 0) 12 := ⟨_, rfl⟩
  have hx_ := i64_xor_nat (L3.getD b 0) (L3.getD c 0) (by omega) (by omega)
  have hc_ : ∀ w, Calls Tryz.prog 211 #[.int .i64 (L3.getD b 0 ^^^ L3.getD c 0 : Nat), .int .i64 12] w fun e w' => e = .returned (.int .i64 v3) ∧ w' = w.drew := fun w => by rw [hv]; exact rleft_any (L3.getD b 0 ^^^ L3.getD c 0) 12 (xor_lt lx ly) (by decide) (by decide) w
  have h4 : IntsAt ((w3.setCell ⟨g, b, none⟩ (.int .i64 v3)).drew.drew) g (rq2 12 L3 b c) := by
    have := h3.set hl3 b v3 hb
    rw [hv] at this ⊢
    exact ⟨this.lt, this.cells, this.free⟩
  have hbw4 : Below w.heap.size w ((w3.setCell ⟨g, b, none⟩ (.int .i64 v3)).drew.drew) := (hbw3.setCell (p := ⟨g, b, none⟩) hgl (.int .i64 v3)).drew.drew
  obtain ⟨L4, hL4⟩ : ∃ L', L' = rq2 12 L3 b c := ⟨_, rfl⟩
  rw [← hL4] at h4
  have hl4 : L4.length = 16 := by rw [hL4, rq2_length]; exact hl3
  have hw4 : Words L4 := by rw [hL4]; exact hw3.rq2 _ _ _
  have H4 : Hid (L4 = rq2 12 L3 b c) := hL4
  have G4 : Hid (IntsAt ((w3.setCell ⟨g, b, none⟩ (.int .i64 v3)).drew.drew) g L4 ∧ Below w.heap.size w ((w3.setCell ⟨g, b, none⟩ (.int .i64 v3)).drew.drew)) := ⟨h4, hbw4⟩
  clear hv hL4 h4 hbw4 h3 hbw3 hl3 hw3
  generalize L3.getD b 0 ^^^ L3.getD c 0 = z3 at *
  generalize L3.getD b 0 = X3 at *
  generalize L3.getD c 0 = Z3 at *
  refine Code.wp_mono (Q := ended { tmps := #[.slice (some ⟨gx, 0, none⟩) 16 capx, .int .i64 a, .int .i64 b, .int .i64 c, .int .i64 d, undef, undef, undef, undef, undef, .slice none 0 0, .slice (some ⟨g, 0, none⟩) 16 cap, .slice (some ⟨w.heap.size, 0, none⟩) 0 0, .slice (some ⟨gx, 0, none⟩) 16 capx, .slice (some ⟨g, 0, none⟩) 16 cap, .slice (some ⟨g, 0, none⟩) 16 cap, .int .i64 a, .slice (some ⟨g, 0, none⟩) 16 cap, .int .i64 a, .pointer (some ⟨g, a, none⟩), .int .i64 X0, .slice (some ⟨g, 0, none⟩) 16 cap, .int .i64 b, .pointer (some ⟨g, b, none⟩), .int .i64 Z0, .int .i64 (z0 : Nat), .int .i64 v0, .pointer (some ⟨g, a, none⟩), .slice (some ⟨g, 0, none⟩) 16 cap, .int .i64 d, .slice (some ⟨g, 0, none⟩) 16 cap, .int .i64 d, .pointer (some ⟨g, d, none⟩), .int .i64 X1, .slice (some ⟨g, 0, none⟩) 16 cap, .int .i64 a, .pointer (some ⟨g, a, none⟩), .int .i64 Z1, .int .i64 (z1 : Nat), .int .i64 v1, .pointer (some ⟨g, d, none⟩), .slice (some ⟨g, 0, none⟩) 16 cap, .int .i64 c, .slice (some ⟨g, 0, none⟩) 16 cap, .int .i64 c, .pointer (some ⟨g, c, none⟩), .int .i64 X2, .slice (some ⟨g, 0, none⟩) 16 cap, .int .i64 d, .pointer (some ⟨g, d, none⟩), .int .i64 Z2, .int .i64 (z2 : Nat), .int .i64 v2, .pointer (some ⟨g, c, none⟩), .slice (some ⟨g, 0, none⟩) 16 cap, .int .i64 b, .slice (some ⟨g, 0, none⟩) 16 cap, .int .i64 b, .pointer (some ⟨g, b, none⟩), .int .i64 X3, .slice (some ⟨g, 0, none⟩) 16 cap, .int .i64 c, .pointer (some ⟨g, c, none⟩), .int .i64 Z3, .int .i64 (z3 : Nat), .int .i64 v3, .pointer (some ⟨g, b, none⟩), undef, undef, undef, undef, undef, undef, undef, undef, undef, undef, undef, undef, undef, undef, undef, undef, undef, undef, undef, undef, undef, undef, undef, undef, undef, undef, undef, undef, undef, undef, undef, undef, undef, undef, undef, undef, undef, undef, undef, undef, undef, undef, undef, undef, undef, undef, undef, undef, undef, undef, undef, undef, undef], defers := [] } ((w3.setCell ⟨g, b, none⟩ (.int .i64 v3)).drew.drew)) (fun e a' w' hh => ?_) ?_
  rotate_left
  · go_region_with (first | (go_at_call 211; refine (hc_ _).mono ?_; rintro e w1 ⟨rfl, rfl⟩))
    all_goals exact ⟨rfl, rfl⟩
  obtain ⟨rfl, rfl, rfl⟩ := ended_out hh
  obtain ⟨h4, hbw4⟩ := G4.out
  clear cx cy fx lx ly hc_ hx_ G4
  generalize (w3.setCell ⟨g, b, none⟩ (.int .i64 v3)).drew.drew = w4 at *
  go_wp2_with fail
  have cx := h4.cells a ha
  have cy := h4.cells b hb
  have fx := h4.free a ha
  have lx := hw4.get a
  have ly := hw4.get b
  obtain ⟨v4, hv⟩ : ∃ v, v = (L4.getD a 0 + L4.getD b 0) % 4294967296 := ⟨_, rfl⟩
  have hx_ : IntKind.i64.wrap ((L4.getD a 0 : Nat) + (L4.getD b 0 : Nat) : Int) = ((L4.getD a 0 + L4.getD b 0 : Nat) : Int) := by rw [IntKind.wrap_i64]; omega
  have hc_ := fun w => rlow_z ((L4.getD a 0 + L4.getD b 0 : Nat) : Int) (L4.getD a 0 + L4.getD b 0) rfl (by omega) v4 hv w
  have h5 : IntsAt ((w4.setCell ⟨g, a, none⟩ (.int .i64 v4)).drew) g (rq1 L4 a b) := by
    have := h4.set hl4 a v4 ha
    rw [hv] at this ⊢
    exact ⟨this.lt, this.cells, this.free⟩
  have hbw5 : Below w.heap.size w ((w4.setCell ⟨g, a, none⟩ (.int .i64 v4)).drew) := (hbw4.setCell (p := ⟨g, a, none⟩) hgl (.int .i64 v4)).drew
  obtain ⟨L5, hL5⟩ : ∃ L', L' = rq1 L4 a b := ⟨_, rfl⟩
  rw [← hL5] at h5
  have hl5 : L5.length = 16 := by rw [hL5, rq1_length]; exact hl4
  have hw5 : Words L5 := by rw [hL5]; exact hw4.rq1 _ _
  have H5 : Hid (L5 = rq1 L4 a b) := hL5
  have G5 : Hid (IntsAt ((w4.setCell ⟨g, a, none⟩ (.int .i64 v4)).drew) g L5 ∧ Below w.heap.size w ((w4.setCell ⟨g, a, none⟩ (.int .i64 v4)).drew)) := ⟨h5, hbw5⟩
  clear hv hL5 h5 hbw5 h4 hbw4 hl4 hw4
  generalize L4.getD a 0 + L4.getD b 0 = z4 at *
  generalize L4.getD a 0 = X4 at *
  generalize L4.getD b 0 = Z4 at *
  refine Code.wp_mono (Q := ended { tmps := #[.slice (some ⟨gx, 0, none⟩) 16 capx, .int .i64 a, .int .i64 b, .int .i64 c, .int .i64 d, undef, undef, undef, undef, undef, .slice none 0 0, .slice (some ⟨g, 0, none⟩) 16 cap, .slice (some ⟨w.heap.size, 0, none⟩) 0 0, .slice (some ⟨gx, 0, none⟩) 16 capx, .slice (some ⟨g, 0, none⟩) 16 cap, .slice (some ⟨g, 0, none⟩) 16 cap, .int .i64 a, .slice (some ⟨g, 0, none⟩) 16 cap, .int .i64 a, .pointer (some ⟨g, a, none⟩), .int .i64 X0, .slice (some ⟨g, 0, none⟩) 16 cap, .int .i64 b, .pointer (some ⟨g, b, none⟩), .int .i64 Z0, .int .i64 (z0 : Nat), .int .i64 v0, .pointer (some ⟨g, a, none⟩), .slice (some ⟨g, 0, none⟩) 16 cap, .int .i64 d, .slice (some ⟨g, 0, none⟩) 16 cap, .int .i64 d, .pointer (some ⟨g, d, none⟩), .int .i64 X1, .slice (some ⟨g, 0, none⟩) 16 cap, .int .i64 a, .pointer (some ⟨g, a, none⟩), .int .i64 Z1, .int .i64 (z1 : Nat), .int .i64 v1, .pointer (some ⟨g, d, none⟩), .slice (some ⟨g, 0, none⟩) 16 cap, .int .i64 c, .slice (some ⟨g, 0, none⟩) 16 cap, .int .i64 c, .pointer (some ⟨g, c, none⟩), .int .i64 X2, .slice (some ⟨g, 0, none⟩) 16 cap, .int .i64 d, .pointer (some ⟨g, d, none⟩), .int .i64 Z2, .int .i64 (z2 : Nat), .int .i64 v2, .pointer (some ⟨g, c, none⟩), .slice (some ⟨g, 0, none⟩) 16 cap, .int .i64 b, .slice (some ⟨g, 0, none⟩) 16 cap, .int .i64 b, .pointer (some ⟨g, b, none⟩), .int .i64 X3, .slice (some ⟨g, 0, none⟩) 16 cap, .int .i64 c, .pointer (some ⟨g, c, none⟩), .int .i64 Z3, .int .i64 (z3 : Nat), .int .i64 v3, .pointer (some ⟨g, b, none⟩), .slice (some ⟨g, 0, none⟩) 16 cap, .int .i64 a, .slice (some ⟨g, 0, none⟩) 16 cap, .int .i64 a, .pointer (some ⟨g, a, none⟩), .int .i64 X4, .slice (some ⟨g, 0, none⟩) 16 cap, .int .i64 b, .pointer (some ⟨g, b, none⟩), .int .i64 Z4, .int .i64 (z4 : Nat), .int .i64 v4, .pointer (some ⟨g, a, none⟩), undef, undef, undef, undef, undef, undef, undef, undef, undef, undef, undef, undef, undef, undef, undef, undef, undef, undef, undef, undef, undef, undef, undef, undef, undef, undef, undef, undef, undef, undef, undef, undef, undef, undef, undef, undef, undef, undef, undef, undef], defers := [] } ((w4.setCell ⟨g, a, none⟩ (.int .i64 v4)).drew)) (fun e a' w' hh => ?_) ?_
  rotate_left
  · go_region_with (first | (go_at_call 199; refine (hc_ _).mono ?_; rintro e w1 ⟨rfl, rfl⟩))
    all_goals exact ⟨rfl, rfl⟩
  obtain ⟨rfl, rfl, rfl⟩ := ended_out hh
  obtain ⟨h5, hbw5⟩ := G5.out
  clear cx cy fx lx ly hc_ hx_ G5
  generalize (w4.setCell ⟨g, a, none⟩ (.int .i64 v4)).drew = w5 at *
  go_wp2_with fail
  have cx := h5.cells d hd
  have cy := h5.cells a ha
  have fx := h5.free d hd
  have lx := hw5.get d
  have ly := hw5.get a
  obtain ⟨v5, hv⟩ : ∃ v, v = rotl (L5.getD d 0 ^^^ L5.getD a 0) 8 := ⟨_, rfl⟩
  have hx_ := i64_xor_nat (L5.getD d 0) (L5.getD a 0) (by omega) (by omega)
  have hc_ : ∀ w, Calls Tryz.prog 211 #[.int .i64 (L5.getD d 0 ^^^ L5.getD a 0 : Nat), .int .i64 8] w fun e w' => e = .returned (.int .i64 v5) ∧ w' = w.drew := fun w => by rw [hv]; exact rleft_any (L5.getD d 0 ^^^ L5.getD a 0) 8 (xor_lt lx ly) (by decide) (by decide) w
  have h6 : IntsAt ((w5.setCell ⟨g, d, none⟩ (.int .i64 v5)).drew.drew) g (rq2 8 L5 d a) := by
    have := h5.set hl5 d v5 hd
    rw [hv] at this ⊢
    exact ⟨this.lt, this.cells, this.free⟩
  have hbw6 : Below w.heap.size w ((w5.setCell ⟨g, d, none⟩ (.int .i64 v5)).drew.drew) := (hbw5.setCell (p := ⟨g, d, none⟩) hgl (.int .i64 v5)).drew.drew
  obtain ⟨L6, hL6⟩ : ∃ L', L' = rq2 8 L5 d a := ⟨_, rfl⟩
  rw [← hL6] at h6
  have hl6 : L6.length = 16 := by rw [hL6, rq2_length]; exact hl5
  have hw6 : Words L6 := by rw [hL6]; exact hw5.rq2 _ _ _
  have H6 : Hid (L6 = rq2 8 L5 d a) := hL6
  have G6 : Hid (IntsAt ((w5.setCell ⟨g, d, none⟩ (.int .i64 v5)).drew.drew) g L6 ∧ Below w.heap.size w ((w5.setCell ⟨g, d, none⟩ (.int .i64 v5)).drew.drew)) := ⟨h6, hbw6⟩
  clear hv hL6 h6 hbw6 h5 hbw5 hl5 hw5
  generalize L5.getD d 0 ^^^ L5.getD a 0 = z5 at *
  generalize L5.getD d 0 = X5 at *
  generalize L5.getD a 0 = Z5 at *
  refine Code.wp_mono (Q := ended { tmps := #[.slice (some ⟨gx, 0, none⟩) 16 capx, .int .i64 a, .int .i64 b, .int .i64 c, .int .i64 d, undef, undef, undef, undef, undef, .slice none 0 0, .slice (some ⟨g, 0, none⟩) 16 cap, .slice (some ⟨w.heap.size, 0, none⟩) 0 0, .slice (some ⟨gx, 0, none⟩) 16 capx, .slice (some ⟨g, 0, none⟩) 16 cap, .slice (some ⟨g, 0, none⟩) 16 cap, .int .i64 a, .slice (some ⟨g, 0, none⟩) 16 cap, .int .i64 a, .pointer (some ⟨g, a, none⟩), .int .i64 X0, .slice (some ⟨g, 0, none⟩) 16 cap, .int .i64 b, .pointer (some ⟨g, b, none⟩), .int .i64 Z0, .int .i64 (z0 : Nat), .int .i64 v0, .pointer (some ⟨g, a, none⟩), .slice (some ⟨g, 0, none⟩) 16 cap, .int .i64 d, .slice (some ⟨g, 0, none⟩) 16 cap, .int .i64 d, .pointer (some ⟨g, d, none⟩), .int .i64 X1, .slice (some ⟨g, 0, none⟩) 16 cap, .int .i64 a, .pointer (some ⟨g, a, none⟩), .int .i64 Z1, .int .i64 (z1 : Nat), .int .i64 v1, .pointer (some ⟨g, d, none⟩), .slice (some ⟨g, 0, none⟩) 16 cap, .int .i64 c, .slice (some ⟨g, 0, none⟩) 16 cap, .int .i64 c, .pointer (some ⟨g, c, none⟩), .int .i64 X2, .slice (some ⟨g, 0, none⟩) 16 cap, .int .i64 d, .pointer (some ⟨g, d, none⟩), .int .i64 Z2, .int .i64 (z2 : Nat), .int .i64 v2, .pointer (some ⟨g, c, none⟩), .slice (some ⟨g, 0, none⟩) 16 cap, .int .i64 b, .slice (some ⟨g, 0, none⟩) 16 cap, .int .i64 b, .pointer (some ⟨g, b, none⟩), .int .i64 X3, .slice (some ⟨g, 0, none⟩) 16 cap, .int .i64 c, .pointer (some ⟨g, c, none⟩), .int .i64 Z3, .int .i64 (z3 : Nat), .int .i64 v3, .pointer (some ⟨g, b, none⟩), .slice (some ⟨g, 0, none⟩) 16 cap, .int .i64 a, .slice (some ⟨g, 0, none⟩) 16 cap, .int .i64 a, .pointer (some ⟨g, a, none⟩), .int .i64 X4, .slice (some ⟨g, 0, none⟩) 16 cap, .int .i64 b, .pointer (some ⟨g, b, none⟩), .int .i64 Z4, .int .i64 (z4 : Nat), .int .i64 v4, .pointer (some ⟨g, a, none⟩), .slice (some ⟨g, 0, none⟩) 16 cap, .int .i64 d, .slice (some ⟨g, 0, none⟩) 16 cap, .int .i64 d, .pointer (some ⟨g, d, none⟩), .int .i64 X5, .slice (some ⟨g, 0, none⟩) 16 cap, .int .i64 a, .pointer (some ⟨g, a, none⟩), .int .i64 Z5, .int .i64 (z5 : Nat), .int .i64 v5, .pointer (some ⟨g, d, none⟩), undef, undef, undef, undef, undef, undef, undef, undef, undef, undef, undef, undef, undef, undef, undef, undef, undef, undef, undef, undef, undef, undef, undef, undef, undef, undef, undef], defers := [] } ((w5.setCell ⟨g, d, none⟩ (.int .i64 v5)).drew.drew)) (fun e a' w' hh => ?_) ?_
  rotate_left
  · go_region_with (first | (go_at_call 211; refine (hc_ _).mono ?_; rintro e w1 ⟨rfl, rfl⟩))
    all_goals exact ⟨rfl, rfl⟩
  obtain ⟨rfl, rfl, rfl⟩ := ended_out hh
  obtain ⟨h6, hbw6⟩ := G6.out
  clear cx cy fx lx ly hc_ hx_ G6
  generalize (w5.setCell ⟨g, d, none⟩ (.int .i64 v5)).drew.drew = w6 at *
  go_wp2_with fail
  have cx := h6.cells c hc
  have cy := h6.cells d hd
  have fx := h6.free c hc
  have lx := hw6.get c
  have ly := hw6.get d
  obtain ⟨v6, hv⟩ : ∃ v, v = (L6.getD c 0 + L6.getD d 0) % 4294967296 := ⟨_, rfl⟩
  have hx_ : IntKind.i64.wrap ((L6.getD c 0 : Nat) + (L6.getD d 0 : Nat) : Int) = ((L6.getD c 0 + L6.getD d 0 : Nat) : Int) := by rw [IntKind.wrap_i64]; omega
  have hc_ := fun w => rlow_z ((L6.getD c 0 + L6.getD d 0 : Nat) : Int) (L6.getD c 0 + L6.getD d 0) rfl (by omega) v6 hv w
  have h7 : IntsAt ((w6.setCell ⟨g, c, none⟩ (.int .i64 v6)).drew) g (rq1 L6 c d) := by
    have := h6.set hl6 c v6 hc
    rw [hv] at this ⊢
    exact ⟨this.lt, this.cells, this.free⟩
  have hbw7 : Below w.heap.size w ((w6.setCell ⟨g, c, none⟩ (.int .i64 v6)).drew) := (hbw6.setCell (p := ⟨g, c, none⟩) hgl (.int .i64 v6)).drew
  obtain ⟨L7, hL7⟩ : ∃ L', L' = rq1 L6 c d := ⟨_, rfl⟩
  rw [← hL7] at h7
  have hl7 : L7.length = 16 := by rw [hL7, rq1_length]; exact hl6
  have hw7 : Words L7 := by rw [hL7]; exact hw6.rq1 _ _
  have H7 : Hid (L7 = rq1 L6 c d) := hL7
  have G7 : Hid (IntsAt ((w6.setCell ⟨g, c, none⟩ (.int .i64 v6)).drew) g L7 ∧ Below w.heap.size w ((w6.setCell ⟨g, c, none⟩ (.int .i64 v6)).drew)) := ⟨h7, hbw7⟩
  clear hv hL7 h7 hbw7 h6 hbw6 hl6 hw6
  generalize L6.getD c 0 + L6.getD d 0 = z6 at *
  generalize L6.getD c 0 = X6 at *
  generalize L6.getD d 0 = Z6 at *
  refine Code.wp_mono (Q := ended { tmps := #[.slice (some ⟨gx, 0, none⟩) 16 capx, .int .i64 a, .int .i64 b, .int .i64 c, .int .i64 d, undef, undef, undef, undef, undef, .slice none 0 0, .slice (some ⟨g, 0, none⟩) 16 cap, .slice (some ⟨w.heap.size, 0, none⟩) 0 0, .slice (some ⟨gx, 0, none⟩) 16 capx, .slice (some ⟨g, 0, none⟩) 16 cap, .slice (some ⟨g, 0, none⟩) 16 cap, .int .i64 a, .slice (some ⟨g, 0, none⟩) 16 cap, .int .i64 a, .pointer (some ⟨g, a, none⟩), .int .i64 X0, .slice (some ⟨g, 0, none⟩) 16 cap, .int .i64 b, .pointer (some ⟨g, b, none⟩), .int .i64 Z0, .int .i64 (z0 : Nat), .int .i64 v0, .pointer (some ⟨g, a, none⟩), .slice (some ⟨g, 0, none⟩) 16 cap, .int .i64 d, .slice (some ⟨g, 0, none⟩) 16 cap, .int .i64 d, .pointer (some ⟨g, d, none⟩), .int .i64 X1, .slice (some ⟨g, 0, none⟩) 16 cap, .int .i64 a, .pointer (some ⟨g, a, none⟩), .int .i64 Z1, .int .i64 (z1 : Nat), .int .i64 v1, .pointer (some ⟨g, d, none⟩), .slice (some ⟨g, 0, none⟩) 16 cap, .int .i64 c, .slice (some ⟨g, 0, none⟩) 16 cap, .int .i64 c, .pointer (some ⟨g, c, none⟩), .int .i64 X2, .slice (some ⟨g, 0, none⟩) 16 cap, .int .i64 d, .pointer (some ⟨g, d, none⟩), .int .i64 Z2, .int .i64 (z2 : Nat), .int .i64 v2, .pointer (some ⟨g, c, none⟩), .slice (some ⟨g, 0, none⟩) 16 cap, .int .i64 b, .slice (some ⟨g, 0, none⟩) 16 cap, .int .i64 b, .pointer (some ⟨g, b, none⟩), .int .i64 X3, .slice (some ⟨g, 0, none⟩) 16 cap, .int .i64 c, .pointer (some ⟨g, c, none⟩), .int .i64 Z3, .int .i64 (z3 : Nat), .int .i64 v3, .pointer (some ⟨g, b, none⟩), .slice (some ⟨g, 0, none⟩) 16 cap, .int .i64 a, .slice (some ⟨g, 0, none⟩) 16 cap, .int .i64 a, .pointer (some ⟨g, a, none⟩), .int .i64 X4, .slice (some ⟨g, 0, none⟩) 16 cap, .int .i64 b, .pointer (some ⟨g, b, none⟩), .int .i64 Z4, .int .i64 (z4 : Nat), .int .i64 v4, .pointer (some ⟨g, a, none⟩), .slice (some ⟨g, 0, none⟩) 16 cap, .int .i64 d, .slice (some ⟨g, 0, none⟩) 16 cap, .int .i64 d, .pointer (some ⟨g, d, none⟩), .int .i64 X5, .slice (some ⟨g, 0, none⟩) 16 cap, .int .i64 a, .pointer (some ⟨g, a, none⟩), .int .i64 Z5, .int .i64 (z5 : Nat), .int .i64 v5, .pointer (some ⟨g, d, none⟩), .slice (some ⟨g, 0, none⟩) 16 cap, .int .i64 c, .slice (some ⟨g, 0, none⟩) 16 cap, .int .i64 c, .pointer (some ⟨g, c, none⟩), .int .i64 X6, .slice (some ⟨g, 0, none⟩) 16 cap, .int .i64 d, .pointer (some ⟨g, d, none⟩), .int .i64 Z6, .int .i64 (z6 : Nat), .int .i64 v6, .pointer (some ⟨g, c, none⟩), undef, undef, undef, undef, undef, undef, undef, undef, undef, undef, undef, undef, undef, undef], defers := [] } ((w6.setCell ⟨g, c, none⟩ (.int .i64 v6)).drew)) (fun e a' w' hh => ?_) ?_
  rotate_left
  · go_region_with (first | (go_at_call 199; refine (hc_ _).mono ?_; rintro e w1 ⟨rfl, rfl⟩))
    all_goals exact ⟨rfl, rfl⟩
  obtain ⟨rfl, rfl, rfl⟩ := ended_out hh
  obtain ⟨h7, hbw7⟩ := G7.out
  clear cx cy fx lx ly hc_ hx_ G7
  generalize (w6.setCell ⟨g, c, none⟩ (.int .i64 v6)).drew = w7 at *
  go_wp2_with fail
  have cx := h7.cells b hb
  have cy := h7.cells c hc
  have fx := h7.free b hb
  have lx := hw7.get b
  have ly := hw7.get c
  obtain ⟨v7, hv⟩ : ∃ v, v = rotl (L7.getD b 0 ^^^ L7.getD c 0) 7 := ⟨_, rfl⟩
  have hx_ := i64_xor_nat (L7.getD b 0) (L7.getD c 0) (by omega) (by omega)
  have hc_ : ∀ w, Calls Tryz.prog 211 #[.int .i64 (L7.getD b 0 ^^^ L7.getD c 0 : Nat), .int .i64 7] w fun e w' => e = .returned (.int .i64 v7) ∧ w' = w.drew := fun w => by rw [hv]; exact rleft_any (L7.getD b 0 ^^^ L7.getD c 0) 7 (xor_lt lx ly) (by decide) (by decide) w
  have h8 : IntsAt ((w7.setCell ⟨g, b, none⟩ (.int .i64 v7)).drew.drew) g (rq2 7 L7 b c) := by
    have := h7.set hl7 b v7 hb
    rw [hv] at this ⊢
    exact ⟨this.lt, this.cells, this.free⟩
  have hbw8 : Below w.heap.size w ((w7.setCell ⟨g, b, none⟩ (.int .i64 v7)).drew.drew) := (hbw7.setCell (p := ⟨g, b, none⟩) hgl (.int .i64 v7)).drew.drew
  obtain ⟨L8, hL8⟩ : ∃ L', L' = rq2 7 L7 b c := ⟨_, rfl⟩
  rw [← hL8] at h8
  have hl8 : L8.length = 16 := by rw [hL8, rq2_length]; exact hl7
  have hw8 : Words L8 := by rw [hL8]; exact hw7.rq2 _ _ _
  have H8 : Hid (L8 = rq2 7 L7 b c) := hL8
  have G8 : Hid (IntsAt ((w7.setCell ⟨g, b, none⟩ (.int .i64 v7)).drew.drew) g L8 ∧ Below w.heap.size w ((w7.setCell ⟨g, b, none⟩ (.int .i64 v7)).drew.drew)) := ⟨h8, hbw8⟩
  clear hv hL8 h8 hbw8 h7 hbw7 hl7 hw7
  generalize L7.getD b 0 ^^^ L7.getD c 0 = z7 at *
  generalize L7.getD b 0 = X7 at *
  generalize L7.getD c 0 = Z7 at *
  refine Code.wp_mono (Q := ended { tmps := #[.slice (some ⟨gx, 0, none⟩) 16 capx, .int .i64 a, .int .i64 b, .int .i64 c, .int .i64 d, undef, undef, undef, undef, undef, .slice none 0 0, .slice (some ⟨g, 0, none⟩) 16 cap, .slice (some ⟨w.heap.size, 0, none⟩) 0 0, .slice (some ⟨gx, 0, none⟩) 16 capx, .slice (some ⟨g, 0, none⟩) 16 cap, .slice (some ⟨g, 0, none⟩) 16 cap, .int .i64 a, .slice (some ⟨g, 0, none⟩) 16 cap, .int .i64 a, .pointer (some ⟨g, a, none⟩), .int .i64 X0, .slice (some ⟨g, 0, none⟩) 16 cap, .int .i64 b, .pointer (some ⟨g, b, none⟩), .int .i64 Z0, .int .i64 (z0 : Nat), .int .i64 v0, .pointer (some ⟨g, a, none⟩), .slice (some ⟨g, 0, none⟩) 16 cap, .int .i64 d, .slice (some ⟨g, 0, none⟩) 16 cap, .int .i64 d, .pointer (some ⟨g, d, none⟩), .int .i64 X1, .slice (some ⟨g, 0, none⟩) 16 cap, .int .i64 a, .pointer (some ⟨g, a, none⟩), .int .i64 Z1, .int .i64 (z1 : Nat), .int .i64 v1, .pointer (some ⟨g, d, none⟩), .slice (some ⟨g, 0, none⟩) 16 cap, .int .i64 c, .slice (some ⟨g, 0, none⟩) 16 cap, .int .i64 c, .pointer (some ⟨g, c, none⟩), .int .i64 X2, .slice (some ⟨g, 0, none⟩) 16 cap, .int .i64 d, .pointer (some ⟨g, d, none⟩), .int .i64 Z2, .int .i64 (z2 : Nat), .int .i64 v2, .pointer (some ⟨g, c, none⟩), .slice (some ⟨g, 0, none⟩) 16 cap, .int .i64 b, .slice (some ⟨g, 0, none⟩) 16 cap, .int .i64 b, .pointer (some ⟨g, b, none⟩), .int .i64 X3, .slice (some ⟨g, 0, none⟩) 16 cap, .int .i64 c, .pointer (some ⟨g, c, none⟩), .int .i64 Z3, .int .i64 (z3 : Nat), .int .i64 v3, .pointer (some ⟨g, b, none⟩), .slice (some ⟨g, 0, none⟩) 16 cap, .int .i64 a, .slice (some ⟨g, 0, none⟩) 16 cap, .int .i64 a, .pointer (some ⟨g, a, none⟩), .int .i64 X4, .slice (some ⟨g, 0, none⟩) 16 cap, .int .i64 b, .pointer (some ⟨g, b, none⟩), .int .i64 Z4, .int .i64 (z4 : Nat), .int .i64 v4, .pointer (some ⟨g, a, none⟩), .slice (some ⟨g, 0, none⟩) 16 cap, .int .i64 d, .slice (some ⟨g, 0, none⟩) 16 cap, .int .i64 d, .pointer (some ⟨g, d, none⟩), .int .i64 X5, .slice (some ⟨g, 0, none⟩) 16 cap, .int .i64 a, .pointer (some ⟨g, a, none⟩), .int .i64 Z5, .int .i64 (z5 : Nat), .int .i64 v5, .pointer (some ⟨g, d, none⟩), .slice (some ⟨g, 0, none⟩) 16 cap, .int .i64 c, .slice (some ⟨g, 0, none⟩) 16 cap, .int .i64 c, .pointer (some ⟨g, c, none⟩), .int .i64 X6, .slice (some ⟨g, 0, none⟩) 16 cap, .int .i64 d, .pointer (some ⟨g, d, none⟩), .int .i64 Z6, .int .i64 (z6 : Nat), .int .i64 v6, .pointer (some ⟨g, c, none⟩), .slice (some ⟨g, 0, none⟩) 16 cap, .int .i64 b, .slice (some ⟨g, 0, none⟩) 16 cap, .int .i64 b, .pointer (some ⟨g, b, none⟩), .int .i64 X7, .slice (some ⟨g, 0, none⟩) 16 cap, .int .i64 c, .pointer (some ⟨g, c, none⟩), .int .i64 Z7, .int .i64 (z7 : Nat), .int .i64 v7, .pointer (some ⟨g, b, none⟩), undef], defers := [] } ((w7.setCell ⟨g, b, none⟩ (.int .i64 v7)).drew.drew)) (fun e a' w' hh => ?_) ?_
  rotate_left
  · go_region_with (first | (go_at_call 211; refine (hc_ _).mono ?_; rintro e w1 ⟨rfl, rfl⟩))
    all_goals exact ⟨rfl, rfl⟩
  obtain ⟨rfl, rfl, rfl⟩ := ended_out hh
  obtain ⟨h8, hbw8⟩ := G8.out
  clear cx cy fx lx ly hc_ hx_ G8
  generalize (w7.setCell ⟨g, b, none⟩ (.int .i64 v7)).drew.drew = w8 at *
  have HF : Hid (IntsAt w8 g (rq L a b c d) ∧ Below w.heap.size w w8) := by
    refine ⟨?_, hbw8⟩
    rw [rq, ← H0.out, ← H1.out, ← H2.out, ← H3.out, ← H4.out, ← H5.out, ← H6.out, ← H7.out, ← H8.out]
    exact h8
  clear h8 hbw8
  go_wp2
  exact bodyPost_ret (v := .slice (some ⟨g, 0, none⟩) 16 cap) (by simp [results, Tryz.results198]) rfl (by first | exact ⟨g, cap, rfl, HF.out.1, hgl, HF.out.2⟩ | exact ⟨g, ⟨cap, rfl⟩, HF.out.1, hgl, HF.out.2⟩)
end Go.Proofs.YtoopaigpjefonaaGreatDoor.Bx
