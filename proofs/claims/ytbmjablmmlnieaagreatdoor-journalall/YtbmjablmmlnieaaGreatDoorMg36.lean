/- errors.Is at journal's stop and the power's error, by Go's own text; journal's answer. · journal's Format and Anew at a device and a vault that lie apart. · journal's Format: refused; and followed. -/
import Derived.Test.YtbmjablmmlnieaaGreatDoorMg17
import Derived.LaidEql
import Derived.Stop.Asserts
import Derived.RowKitTokens
import Derived.Lib.IfaceEq
import Derived.Test.YtbmjablmmlnieaaGreatDoorMg29
import Derived.Test.YtbmjablmmlnieaaGreatDoorMg25
import Derived.Deep.RegionHeld3
namespace Go.Proofs.YtbmjablmmlnieaaGreatDoor
set_option maxRecDepth 20000
open Go.RowKit Go.Extern.Stop Go.Stop Go.Extern

theorem is_typeOf (v : Value) (w : World) : (ReflectliteType.typeOf #[.iface 23 v]).run Tryz.prog w = .ok (.iface 206 (.agg #[.pointer (some ⟨4, 23, none⟩)])) w := by kernel_rfl
theorem is_comparable (w : World) : ((ReflectliteType.method fun t => do Rtype.noPackHeld "Comparable" t; pure (.bool (← typeInfo t).comparable)) #[.agg #[.pointer (some ⟨4, 23, none⟩)]]).run Tryz.prog w = .ok (.bool true) w := by kernel_rfl
theorem is_callComparable (w : World) : (callFunc 191 #[.agg #[.pointer (some ⟨4, 23, none⟩)]]).run Tryz.prog w = .ok (.value (.bool true)) w := by
  rw [@run_callFunc_extern Tryz.prog 191 _ (ReflectliteType.method fun t => do Rtype.noPackHeld "Comparable" t; pure (.bool (← typeInfo t).comparable)) Tryz.func191 (by kernel_rfl) (by kernel_rfl) (by kernel_rfl) (by kernel_rfl), is_comparable]
  rfl
theorem is_method (v : Value) (w : World) : (Go.method 397 206 v "Comparable").run Tryz.prog w = .ok (191, v) w := by kernel_rfl
theorem is_comp : (Tryz.prog.info? 23).map (·.comparable) = some true := by kernel_rfl
theorem is_noIsS (v : Value) (xT : TypeId) (w : World) : (Instr.typeAssert (.iface 146 v) xT 208 true).run Tryz.prog w = .ok (.tuple #[.nilIface, .bool false]) w := run_typeAssert_lacksB Tryz.underlying208 (by kernel_rfl) (by kernel_rfl) v xT w
theorem is_hasS (v : Value) (xT : TypeId) (w : World) : (Instr.typeAssert (.iface 146 v) xT 211 true).run Tryz.prog w = .ok (.tuple #[.iface 146 v, .bool true]) w := run_typeAssert_hasB Tryz.underlying211 (by kernel_rfl) v xT w
theorem is_noIsE (v : Value) (xT : TypeId) (w : World) : (Instr.typeAssert (.iface 23 v) xT 208 true).run Tryz.prog w = .ok (.tuple #[.nilIface, .bool false]) w := run_typeAssert_lacksB Tryz.underlying208 (by kernel_rfl) (by kernel_rfl) v xT w
theorem is_noUnE (v : Value) (xT : TypeId) (w : World) : (Instr.typeAssert (.iface 23 v) xT 211 true).run Tryz.prog w = .ok (.tuple #[.nilIface, .bool false]) w := run_typeAssert_lacksB Tryz.underlying211 (by kernel_rfl) (by kernel_rfl) v xT w
theorem is_noUnsE (v : Value) (xT : TypeId) (w : World) : (Instr.typeAssert (.iface 23 v) xT 213 true).run Tryz.prog w = .ok (.tuple #[.nilIface, .bool false]) w := run_typeAssert_lacksB Tryz.underlying213 (by kernel_rfl) (by kernel_rfl) v xT w
theorem is_methodUnwrap (x y : Int) (w : World) : (Go.method 397 146 (.agg #[.int .i64 x, .int .i64 y]) "Unwrap").run Tryz.prog w = .ok (188, .agg #[.int .i64 x, .int .i64 y]) w := by kernel_rfl
theorem junwrap_any (x y : Int) (w : World) : Calls Tryz.prog 188 #[.agg #[.int .i64 x, .int .i64 y]] w fun e w' => e = .returned (.iface 23 (.int .i64 y)) ∧ w' = w.alloc (.cells #[.int .i64 x, .int .i64 y] 146) := by
  go_enter Tryz.func188, Tryz.ntmps188
  go_wp2
  go_ret
  exact ⟨rfl, rfl⟩
set_option maxHeartbeats 4000000 in
theorem is_in (x y : Int) (w : World) :
    Calls Tryz.prog 103 #[.iface 146 (.agg #[.int .i64 x, .int .i64 y]), .iface 23 (.int .i64 20), .bool true] w fun e w' => e = .returned (.bool (y == 20)) ∧ w' = w.alloc (.cells #[.int .i64 x, .int .i64 y] 146) := by
  have f1 := is_noIsS
  have f2 := is_hasS
  have f3 := is_noIsE
  have f4 := is_noUnE
  have f5 := is_noUnsE
  have f6 := is_methodUnwrap
  have hty := run_eql_iface_types (P := Tryz.prog) 146 23 (.agg #[.int .i64 x, .int .i64 y]) (.int .i64 20) Tryz.underlying99 (by decide)
  have heq := fun W : World => Go.Lib.run_eql_iface_int (P := Tryz.prog) W (k := .i64) y 20 Tryz.underlying99 is_comp Tryz.underlying23
  go_enter Tryz.func103, Tryz.ntmps103
  go_wp2_with fail
  refine wp_loop_rounds 2 ?_
  rw [rounds_succ]
  go_wp2_with fail
  refine (junwrap_any x y _).mono ?_
  rintro e w1 ⟨rfl, rfl⟩
  cases hy : (y == 20) with
  | true =>
    go_wp2_with fail
    rw [rounds_succ]
    go_wp2
    go_ret
    exact ⟨by rw [hy]; rfl, rfl⟩
  | false =>
    go_wp2_with fail
    rw [rounds_succ]
    go_wp2
    go_ret
    exact ⟨by rw [hy]; rfl, rfl⟩
set_option maxHeartbeats 4000000 in
theorem is_any (x y : Int) (w : World) :
    Calls Tryz.prog 71 #[.iface 146 (.agg #[.int .i64 x, .int .i64 y]), .iface 23 (.int .i64 20)] w fun e w' => e = .returned (.bool (y == 20)) ∧ w' = w.alloc (.cells #[.int .i64 x, .int .i64 y] 146) := by
  have h8 := @run_callFunc_extern Tryz.prog 102 _ ReflectliteType.typeOf Tryz.func102 (by kernel_rfl) (by kernel_rfl) (by kernel_rfl) (by kernel_rfl)
  have h9 := is_callComparable
  have tT := is_typeOf
  have mR := is_method
  have hin := is_in x y
  generalize (y == 20) = q at *
  go_enter Tryz.func71, Tryz.ntmps71
  go_wp2_with fail
  refine (hin _).mono ?_
  rintro e w1 ⟨rfl, rfl⟩
  go_wp2
  go_ret
  exact ⟨rfl, rfl⟩
/-- What a call of journal tells whose steps ended so. -/
def ansE (y : Int) : Int := if y = 0 then 0 else if y = 20 then 20 else 1
theorem answer_any (X : Int) (v : Value) (hv : RetV X v) (w : World) :
    Calls Tryz.prog 36 #[v] w fun e w' => e = .returned (.int .i64 (ansE X)) ∧ Below w.heap.size w w' := by
  unfold ansE
  rcases hv with ⟨rfl, rfl⟩ | ⟨k, hX, rfl⟩
  · rw [if_pos rfl]
    go_enter Tryz.func36, Tryz.ntmps36
    go_wp2
    go_ret
    exact ⟨rfl, Below.refl _ _⟩
  · rw [if_neg hX]
    have his := is_any k X
    unfold stopV
    by_cases h20 : X = 20
    · rw [if_pos h20]
      rw [show (X == 20) = true by simp [h20]] at his
      clear hX h20
      go_enter Tryz.func36, Tryz.ntmps36
      go_wp2_with fail
      refine (his _).mono ?_
      rintro e w1 ⟨rfl, rfl⟩
      go_wp2
      go_ret
      exact ⟨rfl, (Below.refl _ _).alloc (Nat.le_refl _) _⟩
    · rw [if_neg h20]
      rw [show (X == 20) = false by simp [h20]] at his
      clear hX h20
      go_enter Tryz.func36, Tryz.ntmps36
      go_wp2_with fail
      refine (his _).mono ?_
      rintro e w1 ⟨rfl, rfl⟩
      go_wp2
      go_ret
      exact ⟨rfl, (Below.refl _ _).alloc (Nat.le_refl _) _⟩
end Go.Proofs.YtbmjablmmlnieaaGreatDoor

namespace Go.Proofs.YtbmjablmmlnieaaGreatDoor
set_option maxRecDepth 20000
open Go.RowKit

theorem bel_alloc (w : World) (o : Obj) : Below w.heap.size w (w.alloc o) := (Below.refl _ _).alloc (Nat.le_refl _) _
theorem wts_new1 (w : World) (g : Nat) (a : Int) (r : ByteArray) (t cap : Nat) (hg : g = w.heap.size) : Wts (w.alloc (.cells #[.int .i64 a, .string r] t)) (.slice (some ⟨g, 0, none⟩) 1 cap) [⟨a, r⟩] := by
  subst hg
  refine .inr ⟨w.heap.size, 0, cap, rfl, by simp, fun i x hx => ?_⟩
  have hi : i = 0 := by have := (List.getElem?_eq_some_iff.1 hx).1; simp at this; omega
  subst hi
  cases hx
  have g := heap_alloc_new w (.cells #[.int .i64 a, .string r] t)
  exact ⟨cell_of_row _ _ 0 _ _ _ g, cell_of_row _ _ 1 _ _ _ g⟩
theorem wts_new2 (w : World) (g : Nat) (a b : Int) (r s : ByteArray) (t cap : Nat) (hg : g = w.heap.size) : Wts (w.alloc (.cells #[.int .i64 a, .string r, .int .i64 b, .string s] t)) (.slice (some ⟨g, 0, none⟩) 2 cap) [⟨a, r⟩, ⟨b, s⟩] := by
  subst hg
  refine .inr ⟨w.heap.size, 0, cap, rfl, by simp, fun i x hx => ?_⟩
  have hi : i = 0 ∨ i = 1 := by have := (List.getElem?_eq_some_iff.1 hx).1; simp at this; omega
  have g := heap_alloc_new w (.cells #[.int .i64 a, .string r, .int .i64 b, .string s] t)
  rcases hi with rfl | rfl
  · cases hx
    exact ⟨cell_of_row _ _ 0 _ _ _ g, cell_of_row _ _ 1 _ _ _ g⟩
  · cases hx
    exact ⟨cell_of_row _ _ 2 _ _ _ g, cell_of_row _ _ 3 _ _ _ g⟩
/-- A list of writes that lies outside of a footprint. -/
def WtO (F : Nat → Prop) (w : World) (v : Value) (l : List Wt) : Prop := Wts w v l ∧ (l ≠ [] → Wts.Out v F)
theorem WtO.below {F : Nat → Prop} {w w' : World} {v : Value} {l : List Wt} (h : WtO F w v l) (hb : Below w.heap.size w w') : WtO F w' v l := ⟨h.1.below hb, h.2⟩
theorem out_of {F : Nat → Prop} {g o len cap : Nat} (h : ¬ F g) : Wts.Out (.slice (some ⟨g, o, none⟩) len cap) F := fun g' _ _ _ e => by
  simp only [Value.slice.injEq, Option.some.injEq, Addr.mk.injEq] at e
  obtain ⟨⟨rfl, _⟩, _⟩ := e
  exact h
theorem ba {a w : World} {o : Obj} (h : Below a.heap.size a w) : Below a.heap.size a (w.alloc o) := h.alloc h.size o
theorem bd {a w : World} {B : Nat} (h : Below B a w) : Below B a w.drew := h.drew
theorem Wts.drew {w : World} {v : Value} {l : List Wt} (h : Wts w v l) : Wts w.drew v l := by
  rcases h with h | ⟨g, o, cap, e, hg, hx⟩
  · exact .inl h
  · exact .inr ⟨g, o, cap, e, hg, fun i x hi => ⟨(hx i x hi).c0, (hx i x hi).c1⟩⟩
theorem Wts.al {w : World} {o : Obj} {v : Value} {l : List Wt} (h : Wts w v l) : Wts (w.alloc o) v l := h.below (bel_alloc w o)
theorem ErrT.bel {w w' : World} (h : ErrT w) (hb : Below w.heap.size w w') : ErrT w' := h.below hb (lt_of_cell_ h)
theorem duo_fin {K : VK} {F : Nat → Prop} {B : Nat} {P : PS} {S : K.σ} {w w3 Wc wF : World} (hT : Touch F w w3) (hlt : ∀ k, F k → k < w.heap.size) (hb : Below w3.heap.size w3 Wc) (hd : Duo K wF (grow F Wc wF) B P S) (ht : Touch F Wc wF) : Duo K wF (grow F w wF) B P S ∧ Touch F w wF := by
  have h1 : Touch F w Wc := hT.trans (Touch.of_below hb)
  have h2 : Touch F w wF := h1.trans (ht.mono fun _ h => .inl h)
  refine ⟨hd.mono (fun k hk => ?_) (fun k hk => ?_), h2⟩
  · rcases hk with hk | hk
    · exact .inl hk
    · exact .inr ⟨Nat.le_trans h1.size hk.1, hk.2⟩
  · rcases hk with hk | hk
    · exact Nat.lt_of_lt_of_le (hlt k hk) h2.size
    · exact hk.2
theorem duo_step {K : VK} (HK : VKOk K) {F : Nat → Prop} {B : Nat} {P : PS} {S : K.σ} {w wF wG : World} (h : Duo K wF (grow F w wF) B P S ∧ Touch F w wF) (hb : Below wF.heap.size wF wG) : Duo K wG (grow F w wG) B P S ∧ Touch F w wG := by
  have ht : Touch F w wG := h.2.trans (Touch.of_below hb)
  refine ⟨(h.1.below HK hb).mono (fun k hk => ?_) (fun k hk => ?_), ht⟩
  · rcases hk with hk | hk
    · exact .inl hk
    · exact .inr ⟨hk.1, Nat.lt_of_lt_of_le hk.2 hb.size⟩
  · rcases hk with hk | hk
    · have := h.1.lt k (.inl hk); have := hb.size; omega
    · exact hk.2
theorem keep_block {W3 Wc wF : World} {F : Nat → Prop} {g : Nat} (hb : Below W3.heap.size W3 Wc) (ht : Touch F Wc wF) (hg : g < W3.heap.size) (hF : ¬ F g) : wF.heap[g]? = W3.heap[g]? := (ht.2 g (Nat.lt_of_lt_of_le hg hb.size) hF).trans (hb.block g hg)
theorem keep_cells {W3 Wc wF : World} {F : Nat → Prop} {g : Nat} (hb : Below W3.heap.size W3 Wc) (ht : Touch F Wc wF) (hg : g < W3.heap.size) (hF : ¬ F g) (i : Nat) (v : Value) (h : Wc.cell? ⟨g, i, none⟩ = some v) : wF.cell? ⟨g, i, none⟩ = some v :=
  (World.cell?_of_block (a := ⟨g, i, none⟩) (ht.2 g (Nat.lt_of_lt_of_le hg hb.size) hF)).trans h
/-- follow at one step and at more, the steps' slices just laid. -/
theorem follow_1 (K : VK) (HK : VKOk K) (F : Nat → Prop) (B : Nat) (P : PS) (S : K.σ) (W : World) (v1 : Value) (l1 : List Wt) (g : Nat) (t cap : Nat) (hgW : g = W.heap.size) (h : Duo K W F B P S) (hw : P.wait.length + 8 * total [l1] ≤ 900000) (hg : ErrT W) (hF : ¬ F 0) (h1 : WtO F W v1 l1) :
    Calls Tryz.prog 37 #[.pointer (some ⟨B, 0, none⟩), .slice (some ⟨g, 0, none⟩) 1 cap] (W.alloc (.cells #[v1] t)) fun e w' => (∃ v, e = .returned v ∧ RetV (folE [l1] P) v) ∧ Duo K w' (grow F (W.alloc (.cells #[v1] t)) w') B (folP [l1] P) S ∧ Touch F (W.alloc (.cells #[v1] t)) w' := by
  subst hgW
  have hb := bel_alloc W (.cells #[v1] t)
  refine (h.below HK hb).plateC HK (E := fun e => ∃ v, e = .returned v ∧ RetV (folE [l1] P) v) fun F1 hp hin => ?_
  refine follow_any W.heap.size 0 cap [l1] B F1 P _ ⟨by simp, fun hk => by have := h.lt _ (hin _ hk); omega, fun i l hl => ?_⟩ (by simp) hp hw (hg.touch (Touch.of_below hb (F := F)) hF) (fun hk => hF (hin _ hk))
  have hi : i = 0 := by have := (List.getElem?_eq_some_iff.1 hl).1; simp at this; omega
  subst hi
  cases hl
  exact ⟨v1, cell_of_row _ _ 0 _ _ _ (heap_alloc_new W _), (h1.below hb).1, fun hn g o len cap e hk => h1.2 hn g o len cap e (hin g hk)⟩
theorem follow_2 (K : VK) (HK : VKOk K) (F : Nat → Prop) (B : Nat) (P : PS) (S : K.σ) (W : World) (v1 v2 : Value) (l1 l2 : List Wt) (g : Nat) (t cap : Nat) (hgW : g = W.heap.size) (h : Duo K W F B P S) (hw : P.wait.length + 8 * total [l1, l2] ≤ 900000) (hg : ErrT W) (hF : ¬ F 0) (h1 : WtO F W v1 l1) (h2 : WtO F W v2 l2) :
    Calls Tryz.prog 37 #[.pointer (some ⟨B, 0, none⟩), .slice (some ⟨g, 0, none⟩) 2 cap] (W.alloc (.cells #[v1, v2] t)) fun e w' => (∃ v, e = .returned v ∧ RetV (folE [l1, l2] P) v) ∧ Duo K w' (grow F (W.alloc (.cells #[v1, v2] t)) w') B (folP [l1, l2] P) S ∧ Touch F (W.alloc (.cells #[v1, v2] t)) w' := by
  subst hgW
  have hb := bel_alloc W (.cells #[v1, v2] t)
  refine (h.below HK hb).plateC HK (E := fun e => ∃ v, e = .returned v ∧ RetV (folE [l1, l2] P) v) fun F1 hp hin => ?_
  refine follow_any W.heap.size 0 cap [l1, l2] B F1 P _ ⟨by simp, fun hk => by have := h.lt _ (hin _ hk); omega, fun i l hl => ?_⟩ (by simp) hp hw (hg.touch (Touch.of_below hb (F := F)) hF) (fun hk => hF (hin _ hk))
  have hi : i = 0 ∨ i = 1 := by have := (List.getElem?_eq_some_iff.1 hl).1; simp at this; omega
  rcases hi with rfl | rfl
  · cases hl
    exact ⟨v1, cell_of_row _ _ 0 _ _ _ (heap_alloc_new W _), (h1.below hb).1, fun hn g o len cap e hk => h1.2 hn g o len cap e (hin g hk)⟩
  · cases hl
    exact ⟨v2, cell_of_row _ _ 1 _ _ _ (heap_alloc_new W _), (h2.below hb).1, fun hn g o len cap e hk => h2.2 hn g o len cap e (hin g hk)⟩
theorem follow_4 (K : VK) (HK : VKOk K) (F : Nat → Prop) (B : Nat) (P : PS) (S : K.σ) (W : World) (v1 v2 v3 v4 : Value) (l1 l2 l3 l4 : List Wt) (g : Nat) (t cap : Nat) (hgW : g = W.heap.size) (h : Duo K W F B P S) (hw : P.wait.length + 8 * total [l1, l2, l3, l4] ≤ 900000) (hg : ErrT W) (hF : ¬ F 0) (h1 : WtO F W v1 l1) (h2 : WtO F W v2 l2) (h3 : WtO F W v3 l3) (h4 : WtO F W v4 l4) :
    Calls Tryz.prog 37 #[.pointer (some ⟨B, 0, none⟩), .slice (some ⟨g, 0, none⟩) 4 cap] (W.alloc (.cells #[v1, v2, v3, v4] t)) fun e w' => (∃ v, e = .returned v ∧ RetV (folE [l1, l2, l3, l4] P) v) ∧ Duo K w' (grow F (W.alloc (.cells #[v1, v2, v3, v4] t)) w') B (folP [l1, l2, l3, l4] P) S ∧ Touch F (W.alloc (.cells #[v1, v2, v3, v4] t)) w' := by
  subst hgW
  have hb := bel_alloc W (.cells #[v1, v2, v3, v4] t)
  refine (h.below HK hb).plateC HK (E := fun e => ∃ v, e = .returned v ∧ RetV (folE [l1, l2, l3, l4] P) v) fun F1 hp hin => ?_
  refine follow_any W.heap.size 0 cap [l1, l2, l3, l4] B F1 P _ ⟨by simp, fun hk => by have := h.lt _ (hin _ hk); omega, fun i l hl => ?_⟩ (by simp) hp hw (hg.touch (Touch.of_below hb (F := F)) hF) (fun hk => hF (hin _ hk))
  have hi : i = 0 ∨ i = 1 ∨ i = 2 ∨ i = 3 := by have := (List.getElem?_eq_some_iff.1 hl).1; simp at this; omega
  rcases hi with rfl | rfl | rfl | rfl
  · cases hl
    exact ⟨v1, cell_of_row _ _ 0 _ _ _ (heap_alloc_new W _), (h1.below hb).1, fun hn g o len cap e hk => h1.2 hn g o len cap e (hin g hk)⟩
  · cases hl
    exact ⟨v2, cell_of_row _ _ 1 _ _ _ (heap_alloc_new W _), (h2.below hb).1, fun hn g o len cap e hk => h2.2 hn g o len cap e (hin g hk)⟩
  · cases hl
    exact ⟨v3, cell_of_row _ _ 2 _ _ _ (heap_alloc_new W _), (h3.below hb).1, fun hn g o len cap e hk => h3.2 hn g o len cap e (hin g hk)⟩
  · cases hl
    exact ⟨v4, cell_of_row _ _ 3 _ _ _ (heap_alloc_new W _), (h4.below hb).1, fun hn g o len cap e hk => h4.2 hn g o len cap e (hin g hk)⟩
end Go.Proofs.YtbmjablmmlnieaaGreatDoor

namespace Go.Proofs.YtbmjablmmlnieaaGreatDoor
set_option maxRecDepth 20000
open Go.RowKit

set_option maxHeartbeats 2000000 in
theorem format_bad (p v : Value) (a0 a1 a2 a3 : Int) (r : ByteArray) (w : World) (hI : ∀ W, Below w.heap.size w W → Calls Tryz.prog 33 #[p, .agg #[.int .i64 a0, .int .i64 a1, .int .i64 a2, .int .i64 a3, .string r]] W fun e W' => e = .returned (.bool false) ∧ Below W.heap.size W W') :
    Calls Tryz.prog 17 #[p, v, .agg #[.int .i64 a0, .int .i64 a1, .int .i64 a2, .int .i64 a3, .string r]] w fun e w' => e = .returned (.int .i64 1) ∧ Below w.heap.size w w' := by
  have hb0 := bel_alloc w (.cells #[.int .i64 a0, .int .i64 a1, .int .i64 a2, .int .i64 a3, .string r] 33)
  have h1 := hI _ hb0
  have HB : Hid _ := hb0
  clear hI hb0
  go_enter Tryz.func17, Tryz.ntmps17
  go_wp2_with fail
  refine h1.mono ?_
  rintro e w1 ⟨rfl, hb1⟩
  have HB1 : Hid (Below w.heap.size w w1) := HB.out.trans (hb1.mono HB.out.size)
  clear h1 hb1 HB
  go_wp2
  go_ret
  exact ⟨rfl, HB1.out⟩
set_option maxHeartbeats 4000000 in
theorem format_in (K : VK) (HK : VKOk K) (F : Nat → Prop) (B : Nat) (P : PS) (S : K.σ) (s : Sp) (w : World) (A : Int) (R : ByteArray) (h : Duo K w F B P S) (hr : K.room S 1) (hw : P.wait.length ≤ 100000) (hg : ErrT w) (hF : ¬ F 0) (hlv : loE (P.kept.length : Nat) = 0 ∧ loN (P.kept.length : Nat) = s.lv) (he : s.err = 0) (hs : sonE P s = 0) (hA : sonA P s = A) (hA1 : 0 ≤ A ∧ A ≤ 1) (hR : sonR K P S s = R) :
    Calls Tryz.prog 17 #[.pointer (some ⟨B, 0, none⟩), K.v, .agg s.arr] w fun e w' => e = .returned (.int .i64 (ansE (folE [[⟨1 - A, fillS 0 512⟩, ⟨2, fillS 0 512⟩], [⟨A, R⟩]] P))) ∧ Duo K w' (grow F w w') B (folP [[⟨1 - A, fillS 0 512⟩, ⟨2, fillS 0 512⟩], [⟨A, R⟩]] P) (sonS K P S s) ∧ Touch F w w' := by
  obtain ⟨w0, hw0⟩ : ∃ w0, w.alloc (.cells s.arr 33) = w0 := ⟨_, rfl⟩
  have hb0 : Below w.heap.size w w0 := by rw [← hw0]; exact bel_alloc w _
  have g0 : w0.heap[w.heap.size]? = some (.cells s.arr 33 (0, 0)) := by rw [← hw0]; exact heap_alloc_new w _
  have hI := isOf_duo K HK F B P S s w0 (h.below HK hb0)
  rw [decide_eq_true hlv] at hI
  have hU := fun W (hW : Below w0.heap.size w0 W) => unseal_duo K HK F B P S s W ((h.below HK hb0).below HK hW) (HK.less hr (by omega))
  rw [he] at hU
  have hO := fun W (hW : Below w0.heap.size w0 W) => superOn_any K HK F B P S s W ((h.below HK hb0).below HK hW) hr
  rw [hs, hA, hR] at hO
  have hbl := fun (a : Int) (W : World) => jblank_any a W
  have hans := answer_any (folE [[⟨1 - A, fillS 0 512⟩, ⟨2, fillS 0 512⟩], [⟨A, R⟩]] P)
  have hwr : IntKind.i64.wrap (1 - A) = 1 - A := by
    rcases (show A = 0 ∨ A = 1 by omega) with rfl | rfl <;> rfl
  rw [← hwr] at hans ⊢
  clear hwr
  have HW3 : Hid (P.wait.length + 8 * total [[(⟨IntKind.i64.wrap (1 - A), fillS 0 512⟩ : Wt), ⟨2, fillS 0 512⟩], [⟨A, R⟩]] ≤ 900000) := by show P.wait.length + 8 * 3 ≤ 900000; omega
  have HH : Hid (Below w.heap.size w w0 ∧ ErrT w ∧ ¬ F 0 ∧ (∀ k, F k → k < w.heap.size) ∧ P.wait.length ≤ 100000) := ⟨hb0, hg, hF, h.lt, hw⟩
  have hsz0 : w.heap.size < w0.heap.size := lt_of_block g0
  obtain ⟨a0, a1, a2, a3, r⟩ := s
  unfold Sp.arr at *
  simp only at g0 hI hU hO hw0
  generalize fillS 0 512 = z at *
  have c0 : w0.cell? ⟨w.heap.size, 0, none⟩ = some (.int .i64 a0) := cell_of_row _ _ 0 _ _ _ g0
  have c1 : w0.cell? ⟨w.heap.size, 1, none⟩ = some (.int .i64 a1) := cell_of_row _ _ 1 _ _ _ g0
  have c2 : w0.cell? ⟨w.heap.size, 2, none⟩ = some (.int .i64 a2) := cell_of_row _ _ 2 _ _ _ g0
  have c3 : w0.cell? ⟨w.heap.size, 3, none⟩ = some (.int .i64 a3) := cell_of_row _ _ 3 _ _ _ g0
  have c4 : w0.cell? ⟨w.heap.size, 4, none⟩ = some (.string r) := cell_of_row _ _ 4 _ _ _ g0
  clear h hr hw hg hF hlv he hs hA hR hb0
  go_enter Tryz.func17, Tryz.ntmps17
  go_wp2_with fail
  try rw [hw0]
  refine hI.mono ?_
  rintro e w1 ⟨rfl, hb1⟩
  have d0 := (hb1.cell (p := ⟨w.heap.size, 0, none⟩) hsz0).trans c0
  have d1 := (hb1.cell (p := ⟨w.heap.size, 1, none⟩) hsz0).trans c1
  have d2 := (hb1.cell (p := ⟨w.heap.size, 2, none⟩) hsz0).trans c2
  have d3 := (hb1.cell (p := ⟨w.heap.size, 3, none⟩) hsz0).trans c3
  have d4 := (hb1.cell (p := ⟨w.heap.size, 4, none⟩) hsz0).trans c4
  have HB1 : Hid (Below w0.heap.size w0 w1) := hb1
  clear hI c0 c1 c2 c3 c4
  go_wp2_with fail
  refine (hU _ hb1).mono ?_
  rintro e w2 ⟨rfl, hb2⟩
  have hsz1 := Nat.lt_of_lt_of_le hsz0 hb1.size
  have e0 := (hb2.cell (p := ⟨w.heap.size, 0, none⟩) hsz1).trans d0
  have e1 := (hb2.cell (p := ⟨w.heap.size, 1, none⟩) hsz1).trans d1
  have e2 := (hb2.cell (p := ⟨w.heap.size, 2, none⟩) hsz1).trans d2
  have e3 := (hb2.cell (p := ⟨w.heap.size, 3, none⟩) hsz1).trans d3
  have e4 := (hb2.cell (p := ⟨w.heap.size, 4, none⟩) hsz1).trans d4
  have hb02 : Below w0.heap.size w0 w2 := hb1.trans (hb2.mono hb1.size)
  have HB2 : Hid (Below w0.heap.size w0 w2) := hb02
  clear hU d0 d1 d2 d3 d4 hb1 hb2 HB1
  go_wp2_with fail
  refine (hO _ hb02).mono ?_
  rintro e w3 ⟨rfl, hd3, ht3⟩
  have HB3 : Hid (Duo K w3 F B P (sonS K P S ⟨a0, a1, a2, a3, r⟩) ∧ Touch F w2 w3) := ⟨hd3, ht3⟩
  clear hO hd3 ht3 e0 e1 e2 e3 e4 hb02
  go_wp2_with fail
  have HKS : Hid (∀ W, Below (w3.alloc (.cells #[.int .i64 A, .string R] 48)).heap.size (w3.alloc (.cells #[.int .i64 A, .string R] 48)) W → W.cell? ⟨w3.heap.size, 0, none⟩ = some (.int .i64 A) ∧ W.cell? ⟨w3.heap.size, 1, none⟩ = some (.string R)) := fun W hW => by
    have g := (hW.block w3.heap.size (by simp)).trans (heap_alloc_new w3 (.cells #[.int .i64 A, .string R] 48))
    exact ⟨cell_of_row _ _ 0 _ _ _ g, cell_of_row _ _ 1 _ _ _ g⟩
  have HBX : Hid (True ∧ Below (w3.alloc (.cells #[.int .i64 A, .string R] 48)).heap.size (w3.alloc (.cells #[.int .i64 A, .string R] 48)) (w3.alloc (.cells #[.int .i64 A, .string R] 48))) := ⟨trivial, Below.refl _ _⟩
  have HT3 : Hid (Touch F w (w3.alloc (.cells #[.int .i64 A, .string R] 48))) := ((Touch.of_below HH.out.1).trans ((Touch.of_below (HB2.out)).trans ((HB3.out.2.mono fun _ h => .inl (.inl h))))).trans (Touch.of_below (bel_alloc _ _))
  have HD3 : Hid (Duo K (w3.alloc (.cells #[.int .i64 A, .string R] 48)) F B P (sonS K P S ⟨a0, a1, a2, a3, r⟩)) := HB3.out.1.below HK (bel_alloc _ _)
  have HE3 : Hid (ErrT (w3.alloc (.cells #[.int .i64 A, .string R] 48))) := HH.out.2.1.touch HT3.out HH.out.2.2.1
  have hz3 : w.heap.size ≤ w3.heap.size := by have := HT3.out.size; have q1 := HH.out.1.size; have q2 := HB2.out.size; have q3 := HB3.out.2.size; omega
  clear hw0 g0 hsz0 hsz1 HB2 HB3
  go_region_held3 (fun w' => w'.cell? ⟨w3.heap.size, 0, none⟩ = some (.int .i64 A) ∧ w'.cell? ⟨w3.heap.size, 1, none⟩ = some (.string R)) (first | exact hsG | exact hsF | exact HKS.out _ (by (repeat (first | exact HBX.out.2 | refine bd ?_ | refine ba ?_)))) (first
    | (go_at_call 38; refine (hbl _ _).mono ?_; rintro e wN ⟨rfl, hsN⟩; have HBY : Hid (Below (w3.alloc (.cells #[.int .i64 A, .string R] 48)).heap.size (w3.alloc (.cells #[.int .i64 A, .string R] 48)) wN) := (show Below (w3.alloc (.cells #[.int .i64 A, .string R] 48)).heap.size (w3.alloc (.cells #[.int .i64 A, .string R] 48)) _ from (by (repeat (first | exact HBX.out.2 | refine bd ?_ | refine ba ?_)))).trans (hsN.mono (show (w3.alloc (.cells #[.int .i64 A, .string R] 48)).heap.size ≤ _ from (show Below (w3.alloc (.cells #[.int .i64 A, .string R] 48)).heap.size (w3.alloc (.cells #[.int .i64 A, .string R] 48)) _ from (by (repeat (first | exact HBX.out.2 | refine bd ?_ | refine ba ?_)))).size)); have hzN : w3.heap.size + 1 ≤ wN.heap.size := (by have q := HBY.out.size; simpa using q); have HBX : Hid (True ∧ Below (w3.alloc (.cells #[.int .i64 A, .string R] 48)).heap.size (w3.alloc (.cells #[.int .i64 A, .string R] 48)) wN) := ⟨trivial, HBY.out⟩; clear HBY)
    | (go_at_call 37; refine (follow_2 K HK F B P (sonS K P S ⟨a0, a1, a2, a3, r⟩) _ _ _ [⟨IntKind.i64.wrap (1 - A), z⟩, ⟨2, z⟩] [⟨A, R⟩] _ _ 2 ?_ ?_ HW3.out ?_ HH.out.2.2.1 ⟨?_, fun _ => ?_⟩ ⟨?_, fun _ => ?_⟩).mono ?_; (focus (simp; done)); (focus (exact HD3.out.below HK (by (repeat (first | exact HBX.out.2 | refine bd ?_ | refine ba ?_))); done)); (focus (exact HE3.out.bel (by (repeat (first | exact HBX.out.2 | refine bd ?_ | refine ba ?_))); done)); (focus ((repeat (first | exact wts_new2 _ _ _ _ _ _ _ _ (by simp) | refine Wts.drew ?_ | refine Wts.al ?_ | refine Wts.below ?_ (by assumption))); done)); (focus ((exact out_of (fun hk => by have q := HH.out.2.2.2.1 _ hk; omega)); done)); (focus ((repeat (first | exact wts_new1 _ _ _ _ _ _ (by simp) | refine Wts.drew ?_ | refine Wts.al ?_ | refine Wts.below ?_ (by assumption))); done)); (focus ((exact out_of (fun hk => by have q := HH.out.2.2.2.1 _ hk; omega)); done)); rintro e wF ⟨⟨fv, rfl, hrv⟩, hdF, htF⟩;  have HFin : Hid _ := duo_fin HT3.out HH.out.2.2.2.1 (by (repeat (first | exact HBX.out.2 | refine bd ?_ | refine ba ?_))) hdF htF; have hsF : wF.cell? ⟨w3.heap.size, 0, none⟩ = some (.int .i64 A) ∧ wF.cell? ⟨w3.heap.size, 1, none⟩ = some (.string R) := ⟨keep_cells (W3 := w3.alloc (.cells #[.int .i64 A, .string R] 48)) (by (repeat (first | exact HBX.out.2 | refine bd ?_ | refine ba ?_))) htF (by simp) (fun hk => by have q := HH.out.2.2.2.1 _ hk; omega) 0 _ (HKS.out _ (by (repeat (first | exact HBX.out.2 | refine bd ?_ | refine ba ?_)))).1, keep_cells (W3 := w3.alloc (.cells #[.int .i64 A, .string R] 48)) (by (repeat (first | exact HBX.out.2 | refine bd ?_ | refine ba ?_))) htF (by simp) (fun hk => by have q := HH.out.2.2.2.1 _ hk; omega) 1 _ (HKS.out _ (by (repeat (first | exact HBX.out.2 | refine bd ?_ | refine ba ?_)))).2⟩; clear hdF htF)
    | (go_at_call 36; refine (hans _ hrv _).mono ?_; rintro e wG ⟨rfl, hG⟩; have HGin : Hid _ := duo_step HK HFin.out hG; have hsG : wG.cell? ⟨w3.heap.size, 0, none⟩ = some (.int .i64 A) ∧ wG.cell? ⟨w3.heap.size, 1, none⟩ = some (.string R) := ⟨(hG.cell (p := ⟨w3.heap.size, 0, none⟩) (World.block_lt_of_cell? _ _ hsF.1)).trans hsF.1, (hG.cell (p := ⟨w3.heap.size, 1, none⟩) (World.block_lt_of_cell? _ _ hsF.2)).trans hsF.2⟩; clear hG))
  all_goals
    have HZ : Hid _ := HGin.out
    clear HGin HFin hsF hsG hrv hans hbl
    go_wp2
    go_ret
    exact ⟨rfl, HZ.out⟩
end Go.Proofs.YtbmjablmmlnieaaGreatDoor
