/- tree's given, Count, has, top and Root, over any vault whose Hash is told. -/
import Derived.Test.YtgfhaadcajlifaaDoorMg12
import Derived.Deep.RegionHeld3
namespace Go.Proofs.YtgfhaadcajlifaaDoor
set_option maxRecDepth 20000
open Go.RowKit

theorem cell_kept_1 {w w' : World} {b : Nat} (h : w'.heap[b]? = w.heap[b]?) (i : Nat) : w'.cell? ⟨b, i, none⟩ = w.cell? ⟨b, i, none⟩ := World.cell?_of_block (a := ⟨b, i, none⟩) h
theorem given_none (w : World) : Calls Tryd.prog 25 #[.pointer none] w fun e w' => e = .returned (.bool false) ∧ w' = w := by
  go_enter Tryd.func25, Tryd.ntmps25
  go_wp2
  go_ret
  exact ⟨rfl, rfl⟩
theorem count_none (w : World) : Calls Tryd.prog 12 #[.pointer none] w fun e w' => e = .returned (.int .i64 0) ∧ w' = w := by
  go_enter Tryd.func12, Tryd.ntmps12
  go_wp2_with fail
  refine (given_none _).mono ?_
  rintro e w1 ⟨rfl, rfl⟩
  go_wp2
  go_ret
  exact ⟨rfl, rfl⟩
theorem root_none (w : World) : Calls Tryd.prog 10 #[.pointer none] w fun e w' => e = .returned (.string ⟨#[]⟩) ∧ w' = w := by
  go_enter Tryd.func10, Tryd.ntmps10
  go_wp2_with fail
  refine (given_none _).mono ?_
  rintro e w1 ⟨rfl, rfl⟩
  go_wp2
  go_ret
  exact ⟨rfl, rfl⟩
theorem has_none (i : Int) (w : World) : Calls Tryd.prog 31 #[.pointer none, .int .i64 i] w fun e w' => e = .returned (.bool false) ∧ w' = w := by
  by_cases hi : 0 ≤ i
  · have h1 : decide (i < 0) = false := decide_eq_false (by omega)
    go_enter Tryd.func31, Tryd.ntmps31
    go_wp2_with fail
    refine (count_none _).mono ?_
    rintro e w1 ⟨rfl, rfl⟩
    go_wp2
    go_ret
    exact ⟨rfl, rfl⟩
  · go_enter Tryd.func31, Tryd.ntmps31
    go_wp2
    go_ret
    exact ⟨rfl, rfl⟩
section
variable {w : World} {H : Nat → Prop} {T B : Nat} {rv : Value} {gs : List Nat} {rows : List (List ByteArray)}
theorem given_some (t : TrAt w H T B rv gs rows) (hn : 0 < rows.length) : Calls Tryd.prog 25 #[.pointer (some ⟨T, 0, none⟩)] w fun e w' => e = .returned (.bool true) ∧ w' = w := by
  have c1 := t.c1
  obtain ⟨ra, cap, rfl, _, _⟩ := t.form hn
  have h1 : (0 : Int) < (rows.length : Nat) := by omega
  generalize rows.length = n at *
  clear t
  go_enter Tryd.func25, Tryd.ntmps25
  go_wp2
  go_ret
  exact ⟨rfl, rfl⟩
theorem TrAt.gs0 (t : TrAt w H T B rv gs rows) {k : Nat} {r : List ByteArray} (hr : rows[k]? = some r) : ∃ g, gs[k]? = some g := by
  have := (List.getElem?_eq_some_iff.1 hr).1
  exact ⟨_, List.getElem?_eq_getElem (by rw [t.len]; exact this)⟩
theorem count_some (t : TrAt w H T B rv gs rows) {r : List ByteArray} (hr : rows[0]? = some r) : Calls Tryd.prog 12 #[.pointer (some ⟨T, 0, none⟩)] w fun e w' => e = .returned (.int .i64 (r.length : Nat)) ∧ w' = w := by
  have hn : 0 < rows.length := (List.getElem?_eq_some_iff.1 hr).1
  have hg := given_some t hn
  have c1 := t.c1
  obtain ⟨g, hg0⟩ := t.gs0 hr
  obtain ⟨ra, cap, rfl, _, hc⟩ := t.form hn
  have c2 := hc 0 g r hg0 hr
  have h1 : (0 : Int) < (rows.length : Nat) := by omega
  generalize rows.length = n at *
  clear t hc
  go_enter Tryd.func12, Tryd.ntmps12
  go_wp2_with fail
  refine hg.mono ?_
  rintro e w1 ⟨rfl, rfl⟩
  clear hg
  go_wp2
  go_ret
  exact ⟨rfl, rfl⟩
theorem has_some (t : TrAt w H T B rv gs rows) {r : List ByteArray} (hr : rows[0]? = some r) (i : Int) : Calls Tryd.prog 31 #[.pointer (some ⟨T, 0, none⟩), .int .i64 i] w fun e w' => e = .returned (.bool (decide (0 ≤ i ∧ i < (r.length : Nat)))) ∧ w' = w := by
  have hc := count_some t hr
  obtain ⟨n, hn⟩ : ∃ n : Int, n = ((r.length : Nat) : Int) := ⟨_, rfl⟩
  rw [← hn] at hc ⊢
  clear t hn
  by_cases hi : 0 ≤ i
  · have h1 : ¬ i < 0 := by omega
    by_cases h2 : i < n
    · rw [decide_eq_true ⟨hi, h2⟩]
      go_enter Tryd.func31, Tryd.ntmps31
      go_wp2_with fail
      refine hc.mono ?_
      rintro e w1 ⟨rfl, rfl⟩
      go_wp2
      go_ret
      exact ⟨rfl, rfl⟩
    · rw [decide_eq_false fun h => h2 h.2]
      have h3 : decide (i < n) = false := decide_eq_false h2
      clear h2
      go_enter Tryd.func31, Tryd.ntmps31
      go_wp2_with fail
      refine hc.mono ?_
      rintro e w1 ⟨rfl, rfl⟩
      go_wp2
      go_ret
      exact ⟨rfl, rfl⟩
  · rw [decide_eq_false fun h => hi h.1]
    go_enter Tryd.func31, Tryd.ntmps31
    go_wp2
    go_ret
    exact ⟨rfl, rfl⟩
set_option maxHeartbeats 1000000 in
theorem top_some (t : TrAt w H T B rv gs rows) {k : Nat} {r : List ByteArray} (hk : rows.length = k + 1) (hkl : k ≤ 1000000) (hr : rows[k]? = some r) : Calls Tryd.prog 27 #[.pointer (some ⟨T, 0, none⟩)] w fun e w' => e = .returned (.string (r.headD ⟨#[]⟩)) ∧ Below w.heap.size w w' := by
  have c1 := t.c1
  obtain ⟨g, hg0⟩ := t.gs0 hr
  have hrow := t.row k g r hg0 hr
  obtain ⟨ra, cap, rfl, _, hc⟩ := t.form (by omega)
  have c2 := hc k g r hg0 hr
  rw [hk] at c1
  clear t hc
  have m1 : IntKind.i64.wrap (((k + 1 : Nat) : Int) - 1) = (k : Int) := by rw [IntKind.wrap_i64]; omega
  have m2 : (((k + 1 : Nat) : Int) - 1) = (k : Int) := by omega
  have m3 : (k : Int) < ((k + 1 : Nat) : Int) := by omega
  cases r with
  | nil =>
    clear hrow
    go_enter Tryd.func27, Tryd.ntmps27
    go_wp2_with fail
    go_region
    go_wp2
    go_ret
    exact ⟨rfl, (Below.refl _ _).drew⟩
  | cons x r =>
    have c3 := hrow.cell (i := 0) (x := x) rfl
    have n1 : (0 : Int) < ((x :: r).length : Nat) := by simp
    have n2 : (((x :: r).length : Nat) : Int) ≠ 0 := by simp; omega
    have HX : Hid ((x :: r).headD ⟨#[]⟩ = x) := rfl
    generalize (x :: r).headD ⟨#[]⟩ = y at *
    generalize (x :: r).length = n at *
    have n3 : ((n : Int) == 0) = false := beq_false_of_ne n2
    clear hrow
    go_enter Tryd.func27, Tryd.ntmps27
    go_wp2_with fail
    go_region
    go_wp2
    go_ret
    exact ⟨by rw [HX.out]; rfl, (Below.refl _ _).drew⟩
end
section
variable {σ : Type} {K : HK σ}
set_option maxHeartbeats 1000000 in
theorem root_some (o : HKOk K) (w : World) (F G H : Nat → Prop) (T B : Nat) (S : σ) (rv : Value) (gs : List Nat) (rows : List (List ByteArray)) (t : TrAt w H T B rv gs rows) {k : Nat} {r0 r : List ByteArray} (hk : rows.length = k + 1) (hkl : k ≤ 1000000) (h0 : rows[0]? = some r0) (hr : rows[k]? = some r) (hl : r0.length ≤ 1000000) (hz : (r.headD ⟨#[]⟩).size ≤ 1048000) (hn : K.n S ≤ 1000000) (hGT : ¬ G T) (v : K.V w F G B S) :
    Calls Tryd.prog 10 #[.pointer (some ⟨T, 0, none⟩)] w (HPost K w F G B S (rootT r0.length (r.headD ⟨#[]⟩))) := by
  have hgv := given_some t (by omega)
  have hct := fun w' (hb : Below w.heap.size w w') => count_some (t.below hb) h0
  have htp := fun w' (hb : Below w.heap.size w w') => top_some (t.below hb) hk hkl hr
  have hrt := fun w' (hb : Below w.heap.size w w') => rootHash_any o w' F G B S r0.length (r.headD ⟨#[]⟩) (by omega) hz hn (o.below v hb)
  have c0 := t.c0
  have lT := lt_of_block t.obj
  generalize rootT r0.length (r.headD ⟨#[]⟩) = x at *
  generalize r.headD ⟨#[]⟩ = y at *
  generalize r0.length = n at *
  clear t v hz
  go_enter Tryd.func10, Tryd.ntmps10
  go_wp2_with fail
  refine hgv.mono ?_
  rintro e w1 ⟨rfl, rfl⟩
  clear hgv
  go_wp2_with fail
  go_region_held3 (fun w' => w'.cell? ⟨T, 0, none⟩ = some (.pointer (some ⟨B, 0, none⟩))) (simp [go_sem, *])
    (first | (go_at_call 12; refine (hct _ (Below.refl _ _).drew).mono ?_; rintro e wA ⟨rfl, rfl⟩) | (go_at_call 27; refine (htp _ (Below.refl _ _).drew).mono ?_; rintro e wB ⟨rfl, hbB⟩; have hBB : Below w1.heap.size w1 wB := (Below.refl _ _).drew.trans hbB; have hcB := (cell_kept_1 (hBB.block T lT) 0).trans c0) | (go_at_call 26; refine (hrt _ hBB).mono ?_; rintro e wC ⟨S', rfl, p1, p2, p3⟩; have hcC := (cell_kept_1 (p2.2 T (Nat.lt_of_lt_of_le lT hBB.size) hGT) 0).trans hcB))
  have HF : Hid (K.V wC F G B S' ∧ Touch G w1 wC ∧ K.ext S S' ∧ K.D S' x ∧ K.n S' ≤ K.n S + 1) := ⟨p1, p2.pre hBB, p3⟩
  clear p1 p2 p3 hcC hcB hBB hbB hrt htp hct
  go_wp2
  go_ret
  exact ⟨S', rfl, HF.out⟩
end
end Go.Proofs.YtgfhaadcajlifaaDoor
