/- journal's Recover where nothing is left to be done. · block's Load, at a device and any vault that is told. · journal's Recover at a device and a vault that lie apart, where nothing is left to be done. · journal's Format on every way. -/
import Derived.Test.YtoopaigpjefonaaGreatDoorMg18
import Derived.Test.YtoopaigpjefonaaGreatDoorMg17
import Derived.Test.YtoopaigpjefonaaGreatDoorMg15
import Derived.Deep.RegionHeld3
import Derived.Deep.Cut
import Derived.Test.YtoopaigpjefonaaGreatDoorMg08
import Derived.Test.YtoopaigpjefonaaGreatDoorMg05
import Derived.Test.YtoopaigpjefonaaGreatDoorMg13
import Derived.Test.YtoopaigpjefonaaGreatDoorMg09
import Derived.Test.YtoopaigpjefonaaGreatDoorMg04
namespace Go.Proofs.YtoopaigpjefonaaGreatDoor
set_option maxRecDepth 20000
open Go.RowKit

theorem cell_of_row_ {t : Nat} {cs : Array Value} {W : World} {g : Nat} (h : W.heap[g]? = some (.cells cs t (0, 0))) (i : Nat) (v : Value) (hv : cs[i]? = some v) : W.cell? ⟨g, i, none⟩ = some v := by
  simp [World.cell?, h, hv]
theorem rgs_two (w : World) (g : Nat) (ok0 ok1 : Bool) (h0 h1 : Hd) (b0 b1 : ByteArray) (t cap : Nat) (hg : g = w.heap.size) : Rgs (w.alloc (.cells #[.bool ok0, .int .i64 h0.v0, .int .i64 h0.v1, .int .i64 h0.v2, .int .i64 h0.v3, .int .i64 h0.v4, .int .i64 h0.v5, .int .i64 h0.v6, .int .i64 h0.v7, .string b0, .bool ok1, .int .i64 h1.v0, .int .i64 h1.v1, .int .i64 h1.v2, .int .i64 h1.v3, .int .i64 h1.v4, .int .i64 h1.v5, .int .i64 h1.v6, .int .i64 h1.v7, .string b1] t)) (.slice (some ⟨g, 0, none⟩) 2 cap) [⟨ok0, h0, b0⟩, ⟨ok1, h1, b1⟩] := by
  subst hg
  have g := heap_alloc_new w (.cells #[.bool ok0, .int .i64 h0.v0, .int .i64 h0.v1, .int .i64 h0.v2, .int .i64 h0.v3, .int .i64 h0.v4, .int .i64 h0.v5, .int .i64 h0.v6, .int .i64 h0.v7, .string b0, .bool ok1, .int .i64 h1.v0, .int .i64 h1.v1, .int .i64 h1.v2, .int .i64 h1.v3, .int .i64 h1.v4, .int .i64 h1.v5, .int .i64 h1.v6, .int .i64 h1.v7, .string b1] t)
  have c := fun i v (h : (#[.bool ok0, .int .i64 h0.v0, .int .i64 h0.v1, .int .i64 h0.v2, .int .i64 h0.v3, .int .i64 h0.v4, .int .i64 h0.v5, .int .i64 h0.v6, .int .i64 h0.v7, .string b0, .bool ok1, .int .i64 h1.v0, .int .i64 h1.v1, .int .i64 h1.v2, .int .i64 h1.v3, .int .i64 h1.v4, .int .i64 h1.v5, .int .i64 h1.v6, .int .i64 h1.v7, .string b1] : Array Value)[i]? = some v) => cell_of_row_ g i v h
  refine .inr ⟨w.heap.size, 0, cap, rfl, by simp, fun i r hr => ?_⟩
  have hi : i = 0 ∨ i = 1 := by have := (List.getElem?_eq_some_iff.1 hr).1; simp at this; omega
  rcases hi with rfl | rfl
  · cases hr
    exact ⟨c 0 _ rfl, c 1 _ rfl, c 2 _ rfl, c 3 _ rfl, c 4 _ rfl, c 5 _ rfl, c 6 _ rfl, c 7 _ rfl, c 8 _ rfl, c 9 _ rfl⟩
  · cases hr
    exact ⟨c 10 _ rfl, c 11 _ rfl, c 12 _ rfl, c 13 _ rfl, c 14 _ rfl, c 15 _ rfl, c 16 _ rfl, c 17 _ rfl, c 18 _ rfl, c 19 _ rfl⟩
theorem row_lt {W : World} {g : Nat} {o : Obj} (h : W.heap[g]? = some o) : g < W.heap.size := by
  by_cases hg : g < W.heap.size
  · exact hg
  · rw [Array.getElem?_eq_none (by omega)] at h; cases h
theorem keep_row {base g : Nat} {W W' : World} {o : Obj} (hk : Kept base W W') (hb : base ≤ g) (h : W.heap[g]? = some o) : W'.heap[g]? = some o := (hk g hb (row_lt h)).trans h
theorem below_row {g : Nat} {W W' : World} {o : Obj} (hk : Below W.heap.size W W') (h : W.heap[g]? = some o) : W'.heap[g]? = some o := (hk.block g (row_lt h)).trans h
theorem row_al {g : Nat} {W : World} {o x : Obj} (h : W.heap[g]? = some o) : (W.alloc x).heap[g]? = some o := (Below.heap_alloc W x g (row_lt h)).trans h
theorem row_dr {g : Nat} {W : World} {o : Obj} (h : W.heap[g]? = some o) : W.drew.heap[g]? = some o := h
theorem heap_alloc_new_ (w : World) (o : Obj) : (w.alloc o).heap[w.heap.size]? = some o := (MapKept.heap_alloc w o).1
theorem row_new_dr (w : World) (o : Obj) : (w.drew.alloc o).heap[w.heap.size]? = some o := heap_alloc_new_ w.drew o
theorem row_new2 (w : World) (x o : Obj) : ((w.alloc x).alloc o).heap[w.heap.size + 1]? = some o := by
  have h := heap_alloc_new_ (w.alloc x) o
  simpa using h
theorem rle_al {n : Nat} {w : World} {o : Obj} (h : n ≤ w.heap.size) : n ≤ (w.alloc o).heap.size := by simp; omega
theorem stb_two {B : Nat} {Q : World → Prop} {a W c : World} (h : Stb B Q) (hq : Q a) (h1 : Below B a W) (hle : B ≤ W.heap.size) (h2 : Below W.heap.size W c) : Q c := h _ _ hq (h1.trans (h2.mono hle))
theorem cell_al {w : World} {a : Addr} {v : Value} {o : Obj} (h : w.cell? a = some v) : (w.alloc o).cell? a = some v := (World.cell?_alloc_lt _ _ _ (World.block_lt_of_cell? w a h)).trans h
theorem set5_cell {w : World} {g b i : Nat} {v : Value} (h : w.cell? ⟨b, i, none⟩ = some v) (hne : b ≠ g) (v0 v1 v2 v3 v4 : Value) : (((((w.setCell ⟨g, 0, none⟩ v0).setCell ⟨g, 1, none⟩ v1).setCell ⟨g, 2, none⟩ v2).setCell ⟨g, 3, none⟩ v3).setCell ⟨g, 4, none⟩ v4).cell? ⟨b, i, none⟩ = some v := (World.cell?_of_block (a := ⟨b, i, none⟩) (set5_far w g b hne v0 v1 v2 v3 v4)).trans h
theorem cell_dr {w : World} {a : Addr} {v : Value} (h : w.cell? a = some v) : w.drew.cell? a = some v := h
theorem rle_dr {n : Nat} {w : World} (h : n ≤ w.heap.size) : n ≤ w.drew.heap.size := h
theorem row5 {w : World} {g b : Nat} {o : Obj} (h : w.heap[b]? = some o) (hne : b ≠ g) (v0 v1 v2 v3 v4 : Value) : (((((w.setCell ⟨g, 0, none⟩ v0).setCell ⟨g, 1, none⟩ v1).setCell ⟨g, 2, none⟩ v2).setCell ⟨g, 3, none⟩ v3).setCell ⟨g, 4, none⟩ v4).heap[b]? = some o := (set5_far w g b hne v0 v1 v2 v3 v4).trans h
theorem bal {B : Nat} {a w : World} {o : Obj} (h : Below B a w) (hB : B ≤ a.heap.size) : Below B a (w.alloc o) := h.alloc (Nat.le_trans hB h.size) o
theorem rgs_al {W : World} {v : Value} {l : List Rg} {o : Obj} (h : Rgs W v l) : Rgs (W.alloc o) v l := by
  rcases h with h | ⟨g, o', cap, e, hg, hx⟩
  · exact .inl h
  · exact .inr ⟨g, o', cap, e, by simp; omega, fun i r hr => (hx i r hr).keep (Below.heap_alloc W _ g hg)⟩
theorem ex_letter {K : Act → World → Prop} {Q : Exit → Act → World → Prop} {x : Exit} {a : Act} {E : World} (G : Nat) (Facts : Nat → World → Prop) (hf : Facts G E) (h : ∀ X, Facts G X → Exit.then K Q x a X) : Exit.then K Q x a E := h _ hf
/-- What is kept behind Recover's two drawn regions: the result, the layout, the superblock that was chosen. -/
structure RcF (b l : Nat) (ZZ LL CC : Array Value) (Q : World → Prop) (G : Nat) (X : World) : Prop where
  res : X.heap[b]? = some (.cells ZZ 23 (0, 0))
  lay : X.heap[l]? = some (.cells LL 51 (0, 0))
  cho : X.heap[G]? = some (.cells CC 23 (0, 0))
  q : Q X
  lt : l < G
theorem rcf_set {b l G : Nat} {z0 z1 z2 z3 z4 : Value} {LL : Array Value} {Q : World → Prop} {W : World} (hb : b < l) (hS : Stb b Q) (h1 : W.heap[b]? = some (.cells #[z0, z1, z2, z3, z4] 23 (0, 0))) (h2 : W.heap[l]? = some (.cells LL 51 (0, 0))) (h3 : Q W) (h4 : W.heap[G]? = some (.cells #[z0, z1, z2, z3, z4] 23 (0, 0))) (h5 : l < G) (v0 v1 v2 v3 v4 : Value) : RcF b l #[z0, z1, z2, z3, z4] LL #[v0, v1, v2, v3, v4] Q G (((((W.setCell ⟨G, 0, none⟩ v0).setCell ⟨G, 1, none⟩ v1).setCell ⟨G, 2, none⟩ v2).setCell ⟨G, 3, none⟩ v3).setCell ⟨G, 4, none⟩ v4) :=
  ⟨(set5_far _ _ _ (by omega) _ _ _ _ _).trans h1, (set5_far _ _ _ (by omega) _ _ _ _ _).trans h2, set5 h4 _ _ _ _ _, hS _ _ h3 (((((((Below.refl b W).setCell (p := ⟨G, 0, none⟩) (by show b ≤ G; omega) _).setCell (p := ⟨G, 1, none⟩) (by show b ≤ G; omega) _).setCell (p := ⟨G, 2, none⟩) (by show b ≤ G; omega) _).setCell (p := ⟨G, 3, none⟩) (by show b ≤ G; omega) _).setCell (p := ⟨G, 4, none⟩) (by show b ≤ G; omega) _)), h5⟩
theorem rcf_new {b l : Nat} {ZZ LL CC : Array Value} {Q : World → Prop} {W : World} (hS : Stb b Q) (h1 : W.heap[b]? = some (.cells ZZ 23 (0, 0))) (h2 : W.heap[l]? = some (.cells LL 51 (0, 0))) (h3 : Q W) : RcF b l ZZ LL CC Q W.heap.size (W.alloc (.cells CC 23)) :=
  ⟨row_al h1, row_al h2, heap_alloc_new_ W _, hS _ _ h3 ((Below.refl b W).alloc (by have := row_lt h1; omega) _), row_lt h2⟩
structure RcG (b G : Nat) (ZZ CC FF : Array Value) (Q : World → Prop) (H : Nat) (X : World) : Prop where
  res : X.heap[b]? = some (.cells ZZ 23 (0, 0))
  cho : X.heap[G]? = some (.cells CC 23 (0, 0))
  fnd : X.heap[H]? = some (.cells FF 23 (0, 0))
  q : Q X
  lt : b < G
theorem rcg_set {b G H : Nat} {z0 z1 z2 z3 z4 : Value} {CC ZZ : Array Value} {Q : World → Prop} {W : World} (hb : b < G) (hH : G < H) (hS : Stb b Q) (h1 : W.heap[b]? = some (.cells ZZ 23 (0, 0))) (h2 : W.heap[G]? = some (.cells CC 23 (0, 0))) (h3 : Q W) (h4 : W.heap[H]? = some (.cells #[z0, z1, z2, z3, z4] 23 (0, 0))) (v0 v1 v2 v3 v4 : Value) : RcG b G ZZ CC #[v0, v1, v2, v3, v4] Q H (((((W.setCell ⟨H, 0, none⟩ v0).setCell ⟨H, 1, none⟩ v1).setCell ⟨H, 2, none⟩ v2).setCell ⟨H, 3, none⟩ v3).setCell ⟨H, 4, none⟩ v4) :=
  ⟨(set5_far _ _ _ (by omega) _ _ _ _ _).trans h1, (set5_far _ _ _ (by omega) _ _ _ _ _).trans h2, set5 h4 _ _ _ _ _, hS _ _ h3 (((((((Below.refl b W).setCell (p := ⟨H, 0, none⟩) (by show b ≤ H; omega) _).setCell (p := ⟨H, 1, none⟩) (by show b ≤ H; omega) _).setCell (p := ⟨H, 2, none⟩) (by show b ≤ H; omega) _).setCell (p := ⟨H, 3, none⟩) (by show b ≤ H; omega) _).setCell (p := ⟨H, 4, none⟩) (by show b ≤ H; omega) _)), hb⟩
theorem rcg_new {b G : Nat} {ZZ CC FF : Array Value} {Q : World → Prop} {W : World} (hb : b < G) (hS : Stb b Q) (h1 : W.heap[b]? = some (.cells ZZ 23 (0, 0))) (h2 : W.heap[G]? = some (.cells CC 23 (0, 0))) (h3 : Q W) : RcG b G ZZ CC FF Q W.heap.size (W.alloc (.cells FF 23)) :=
  ⟨row_al h1, row_al h2, heap_alloc_new_ W _, hS _ _ h3 ((Below.refl b W).alloc (by have := row_lt h1; omega) _), hb⟩
set_option maxHeartbeats 4000000 in
theorem recover_kept (p v : Value) (n q s2 t : Nat) (r0 r1 : Rg) (c f : Sp) (fo : Bool) (raws : List ByteArray) (masks : List Int) (w : World) (Q1 Q2 Q3 Q4 : World → Prop) (h1s : Stb w.heap.size Q1) (h2s : Stb w.heap.size Q2) (h3s : Stb w.heap.size Q3) (h4s : Stb w.heap.size Q4)
    (hup : ∀ W, Below w.heap.size w W → Calls Tryz.prog 39 #[p] W fun e W' => e = .returned (.bool true) ∧ W' = W)
    (hlay : ∀ W, Below w.heap.size w W → Calls Tryz.prog 53 #[p] W fun e W' => e = .returned (.tuple #[.agg (layA n q s2 t), .int .i64 0]) ∧ Below W.heap.size W W')
    (hl0 : ∀ W, Below w.heap.size w W → Calls Tryz.prog 60 #[p, v, .int .i64 0] W fun e W' => e = .returned (.agg r0.arr) ∧ Q1 W' ∧ Kept w.heap.size W W' ∧ W.heap.size ≤ W'.heap.size)
    (hl1 : ∀ W, Q1 W → w.heap.size ≤ W.heap.size → Calls Tryz.prog 60 #[p, v, .int .i64 1] W fun e W' => e = .returned (.agg r1.arr) ∧ Q2 W' ∧ Kept w.heap.size W W' ∧ W.heap.size ≤ W'.heap.size)
    (hcho : ∀ v' W, Rgs W v' [r0, r1] → Calls Tryz.prog 59 #[v', .int .i64 (n : Int)] W fun e W' => e = .returned (.tuple #[.agg c.arr, .bool true]) ∧ Below W.heap.size W W')
    (hall : ∀ W, Q2 W → w.heap.size ≤ W.heap.size → Calls Tryz.prog 62 #[p] W fun e W' => ∃ oa ca ob cb, e = .returned (.agg #[.slice oa raws.length ca, .slice ob masks.length cb]) ∧ List1 Value.string W' (.slice oa raws.length ca) raws ∧ List1 (Value.int .i64) W' (.slice ob masks.length cb) masks ∧ Q3 W' ∧ Kept w.heap.size W W' ∧ W.heap.size ≤ W'.heap.size)
    (hfnd : ∀ oa ca ob cb W, Q3 W → w.heap.size ≤ W.heap.size → List1 Value.string W (.slice oa raws.length ca) raws → List1 (Value.int .i64) W (.slice ob masks.length cb) masks → Calls Tryz.prog 61 #[v, .agg (layA n q s2 t), .agg #[.slice oa raws.length ca, .slice ob masks.length cb]] W fun e W' => ∃ v', e = .returned (.tuple #[v', .agg f.arr, .bool fo]) ∧ Q4 W' ∧ Kept w.heap.size W W' ∧ W.heap.size ≤ W'.heap.size)
    (hno : fo = true → ¬ f.ep = wrap64 (c.ep + 1)) :
    Calls Tryz.prog 24 #[p, v] w fun e w' => e = .returned (.tuple #[.agg c.arr, .int .i64 0, .int .i64 0]) ∧ Q4 w' := by
  have hb0 := bel_alloc w (.cells #[.int .i64 0, .int .i64 0, .int .i64 0, .int .i64 0, .string ⟨#[]⟩] 23)
  have g0 := heap_alloc_new w (.cells #[.int .i64 0, .int .i64 0, .int .i64 0, .int .i64 0, .string ⟨#[]⟩] 23)
  have hu := hup _ hb0
  have hlo := hlay _ hb0
  unfold layA at hlo hfnd
  clear hup hlay
  go_enter Tryz.func24, Tryz.ntmps24
  go_wp2_with fail
  refine hu.mono ?_
  rintro e w1 ⟨rfl, rfl⟩
  clear hu
  go_wp2_with fail
  refine hlo.mono ?_
  rintro e w2 ⟨rfl, hb2⟩
  clear hlo
  have gL0 := heap_alloc_new w2 (.cells #[.int .i64 (n : Int), .int .i64 2, .int .i64 3, .int .i64 27, .int .i64 28, .int .i64 29, .int .i64 (q : Int), .int .i64 (29 + (q : Int)), .int .i64 (s2 : Int), .int .i64 (29 + (q : Int) + (s2 : Int)), .int .i64 (29 + (q : Int) + (s2 : Int) + 1), .int .i64 (n : Int), .int .i64 ((n : Int) + 1), .int .i64 (t : Int), .int .i64 ((n : Int) + 1 + (t : Int)), .int .i64 ((n : Int) + 1 + (t : Int) + (n : Int))] 51)
  have gZ0 : (w2.alloc (.cells #[.int .i64 (n : Int), .int .i64 2, .int .i64 3, .int .i64 27, .int .i64 28, .int .i64 29, .int .i64 (q : Int), .int .i64 (29 + (q : Int)), .int .i64 (s2 : Int), .int .i64 (29 + (q : Int) + (s2 : Int)), .int .i64 (29 + (q : Int) + (s2 : Int) + 1), .int .i64 (n : Int), .int .i64 ((n : Int) + 1), .int .i64 (t : Int), .int .i64 ((n : Int) + 1 + (t : Int)), .int .i64 ((n : Int) + 1 + (t : Int) + (n : Int))] 51)).heap[w.heap.size]? = some (.cells #[.int .i64 0, .int .i64 0, .int .i64 0, .int .i64 0, .string ⟨#[]⟩] 23 (0, 0)) := (Below.heap_alloc _ _ _ (by have q := hb2.size; simp at q; omega)).trans ((hb2.block w.heap.size (by simp)).trans g0)
  have hz2 : w.heap.size < w2.heap.size := by have q := hb2.size; simp at q; omega
  have hbW : Below w.heap.size w (w2.alloc (.cells #[.int .i64 (n : Int), .int .i64 2, .int .i64 3, .int .i64 27, .int .i64 28, .int .i64 29, .int .i64 (q : Int), .int .i64 (29 + (q : Int)), .int .i64 (s2 : Int), .int .i64 (29 + (q : Int) + (s2 : Int)), .int .i64 (29 + (q : Int) + (s2 : Int) + 1), .int .i64 (n : Int), .int .i64 ((n : Int) + 1), .int .i64 (t : Int), .int .i64 ((n : Int) + 1 + (t : Int)), .int .i64 ((n : Int) + 1 + (t : Int) + (n : Int))] 51)) := (hb0.trans (hb2.mono (by simp))).alloc (by omega) _
  obtain ⟨ok0, h0, b0⟩ := r0
  obtain ⟨ok1, h1, b1⟩ := r1
  obtain ⟨c0, c1, c2, c3, cr⟩ := c
  obtain ⟨f0, f1, f2, f3, fr⟩ := f
  simp only [Rg.arr, readA, Sp.arr] at hl0 hl1 hcho hfnd hno ⊢
  have HALL : Hid _ := hall
  have HFND : Hid _ := hfnd
  have HNO : Hid _ := hno
  have HMS : Hid (∀ W : World, W.heap[w2.heap.size]? = some (.cells #[.int .i64 (n : Int), .int .i64 2, .int .i64 3, .int .i64 27, .int .i64 28, .int .i64 29, .int .i64 (q : Int), .int .i64 (29 + (q : Int)), .int .i64 (s2 : Int), .int .i64 (29 + (q : Int) + (s2 : Int)), .int .i64 (29 + (q : Int) + (s2 : Int) + 1), .int .i64 (n : Int), .int .i64 ((n : Int) + 1), .int .i64 (t : Int), .int .i64 ((n : Int) + 1 + (t : Int)), .int .i64 ((n : Int) + 1 + (t : Int) + (n : Int))] 51 (0, 0)) → W.cell? ⟨w2.heap.size, 0, none⟩ = some (.int .i64 (n : Int))) := fun W hW => cell_of_row _ _ 0 _ _ _ hW
  have HST : Hid (Stb w.heap.size Q1 ∧ Stb w.heap.size Q2 ∧ Stb w.heap.size Q3 ∧ Stb w.heap.size Q4) := ⟨h1s, h2s, h3s, h4s⟩
  have gX : (w2.alloc (.cells #[.int .i64 (n : Int), .int .i64 2, .int .i64 3, .int .i64 27, .int .i64 28, .int .i64 29, .int .i64 (q : Int), .int .i64 (29 + (q : Int)), .int .i64 (s2 : Int), .int .i64 (29 + (q : Int) + (s2 : Int)), .int .i64 (29 + (q : Int) + (s2 : Int) + 1), .int .i64 (n : Int), .int .i64 ((n : Int) + 1), .int .i64 (t : Int), .int .i64 ((n : Int) + 1 + (t : Int)), .int .i64 ((n : Int) + 1 + (t : Int) + (n : Int))] 51)).heap.size = w2.heap.size + 1 := by simp
  clear h1s h2s h3s h4s hb0 g0 hb2 hall hfnd hno
  go_wp2_with fail
  generalize (w2.alloc (.cells #[.int .i64 (n : Int), .int .i64 2, .int .i64 3, .int .i64 27, .int .i64 28, .int .i64 29, .int .i64 (q : Int), .int .i64 (29 + (q : Int)), .int .i64 (s2 : Int), .int .i64 (29 + (q : Int) + (s2 : Int)), .int .i64 (29 + (q : Int) + (s2 : Int) + 1), .int .i64 (n : Int), .int .i64 ((n : Int) + 1), .int .i64 (t : Int), .int .i64 ((n : Int) + 1 + (t : Int)), .int .i64 ((n : Int) + 1 + (t : Int) + (n : Int))] 51)) = X0 at *
  have HW0 : Hid (Below w.heap.size w X0 ∧ X0.heap[w.heap.size]? = some (.cells #[.int .i64 0, .int .i64 0, .int .i64 0, .int .i64 0, .string ⟨#[]⟩] 23 (0, 0)) ∧ X0.heap[w2.heap.size]? = some (.cells #[.int .i64 (n : Int), .int .i64 2, .int .i64 3, .int .i64 27, .int .i64 28, .int .i64 29, .int .i64 (q : Int), .int .i64 (29 + (q : Int)), .int .i64 (s2 : Int), .int .i64 (29 + (q : Int) + (s2 : Int)), .int .i64 (29 + (q : Int) + (s2 : Int) + 1), .int .i64 (n : Int), .int .i64 ((n : Int) + 1), .int .i64 (t : Int), .int .i64 ((n : Int) + 1 + (t : Int)), .int .i64 ((n : Int) + 1 + (t : Int) + (n : Int))] 51 (0, 0))) := ⟨hbW, gZ0, gL0⟩
  have hS00 : X0.cell? ⟨w2.heap.size, 0, none⟩ = some (.int .i64 (n : Int)) := HMS.out _ gL0
  have hS0 : X0.drew.cell? ⟨w2.heap.size, 0, none⟩ = some (.int .i64 (n : Int)) := HMS.out _ gL0
  have hzx0 : w.heap.size ≤ X0.heap.size := by omega
  have hsy0 : w2.heap.size < X0.heap.size := by omega
  clear gL0 gZ0 hbW gX
  go_cut [9, 10] from 15 (fun s o wc => ∃ G, s = .pointer (some ⟨G, 0, none⟩) ∧ o = .bool true ∧ Hid (RcF w.heap.size w2.heap.size #[.int .i64 0, .int .i64 0, .int .i64 0, .int .i64 0, .string ⟨#[]⟩] #[.int .i64 (n : Int), .int .i64 2, .int .i64 3, .int .i64 27, .int .i64 28, .int .i64 29, .int .i64 (q : Int), .int .i64 (29 + (q : Int)), .int .i64 (s2 : Int), .int .i64 (29 + (q : Int) + (s2 : Int)), .int .i64 (29 + (q : Int) + (s2 : Int) + 1), .int .i64 (n : Int), .int .i64 ((n : Int) + 1), .int .i64 (t : Int), .int .i64 ((n : Int) + 1 + (t : Int)), .int .i64 ((n : Int) + 1 + (t : Int) + (n : Int))] #[.int .i64 c0, .int .i64 c1, .int .i64 c2, .int .i64 c3, .string cr] Q2 G wc))
  case first =>
    go_region_held3 (fun w' => w'.cell? ⟨w2.heap.size, 0, none⟩ = some (.int .i64 (n : Int))) (first | with_reducible exact hSC | with_reducible exact hSB | with_reducible exact hSA | with_reducible exact hS0 | with_reducible exact cell_al hSC | with_reducible exact cell_al hSB | with_reducible exact cell_al hSA | with_reducible exact cell_al hS0 | with_reducible exact cell_al (cell_al hSB) | with_reducible exact cell_dr (cell_al hS00) | with_reducible exact cell_al hS00 | (with_reducible refine set5_cell hSC ?_ _ _ _ _ _; omega)) (first
      | (go_at_call 60; (with_reducible refine (hl0 _ ?_).mono ?_); (focus ((repeat (first | with_reducible exact HW0.out.1 | with_reducible refine bd ?_ | with_reducible refine ba ?_)); done)); rintro e wA ⟨rfl, hqA, hkA, hzA⟩; have RA : Hid (wA.heap[w.heap.size]? = some (.cells #[.int .i64 0, .int .i64 0, .int .i64 0, .int .i64 0, .string ⟨#[]⟩] 23 (0, 0)) ∧ wA.heap[w2.heap.size]? = some (.cells #[.int .i64 (n : Int), .int .i64 2, .int .i64 3, .int .i64 27, .int .i64 28, .int .i64 29, .int .i64 (q : Int), .int .i64 (29 + (q : Int)), .int .i64 (s2 : Int), .int .i64 (29 + (q : Int) + (s2 : Int)), .int .i64 (29 + (q : Int) + (s2 : Int) + 1), .int .i64 (n : Int), .int .i64 ((n : Int) + 1), .int .i64 (t : Int), .int .i64 ((n : Int) + 1 + (t : Int)), .int .i64 ((n : Int) + 1 + (t : Int) + (n : Int))] 51 (0, 0))) := ⟨keep_row hkA (Nat.le_refl _) (by (repeat (first | with_reducible exact HW0.out.2.1 | with_reducible refine row_dr ?_ | with_reducible refine row_al ?_))), keep_row hkA (Nat.le_of_lt hz2) (by (repeat (first | with_reducible exact HW0.out.2.2 | with_reducible refine row_dr ?_ | with_reducible refine row_al ?_)))⟩; (try have gT : wA.heap[X0.heap.size]? = some (.cells #[.int .i64 0, .int .i64 0, .int .i64 0, .int .i64 0, .string ⟨#[]⟩] 23 (0, 0)) := keep_row hkA hzx0 (by first | with_reducible exact row_new_dr X0 _ | with_reducible exact row_dr (heap_alloc_new_ X0 _) | with_reducible exact heap_alloc_new_ X0 _)); have hSA := HMS.out _ RA.out.2; have HQA : Hid (Q1 wA) := hqA; have hszA : w.heap.size < wA.heap.size := row_lt RA.out.1; have hsyA : w2.heap.size < wA.heap.size := row_lt RA.out.2; clear hqA hkA hzA)
      | (go_at_call 60; (with_reducible refine (hl1 _ ?_ ?_).mono ?_); (focus (refine HST.out.1 _ _ HQA.out ?_; (repeat (first | with_reducible exact Below.refl _ _ | with_reducible refine bd ?_ | with_reducible refine bal ?_ (Nat.le_of_lt hszA))); done)); (focus ((first | with_reducible exact Nat.le_of_lt hszA | with_reducible exact rle_al (Nat.le_of_lt hszA)); done)); rintro e wB ⟨rfl, hqB, hkB, hzB⟩; have RB : Hid (wB.heap[w.heap.size]? = some (.cells #[.int .i64 0, .int .i64 0, .int .i64 0, .int .i64 0, .string ⟨#[]⟩] 23 (0, 0)) ∧ wB.heap[w2.heap.size]? = some (.cells #[.int .i64 (n : Int), .int .i64 2, .int .i64 3, .int .i64 27, .int .i64 28, .int .i64 29, .int .i64 (q : Int), .int .i64 (29 + (q : Int)), .int .i64 (s2 : Int), .int .i64 (29 + (q : Int) + (s2 : Int)), .int .i64 (29 + (q : Int) + (s2 : Int) + 1), .int .i64 (n : Int), .int .i64 ((n : Int) + 1), .int .i64 (t : Int), .int .i64 ((n : Int) + 1 + (t : Int)), .int .i64 ((n : Int) + 1 + (t : Int) + (n : Int))] 51 (0, 0))) := ⟨keep_row hkB (Nat.le_refl _) (by (repeat (first | with_reducible exact RA.out.1 | with_reducible refine row_dr ?_ | with_reducible refine row_al ?_))), keep_row hkB (Nat.le_of_lt hz2) (by (repeat (first | with_reducible exact RA.out.2 | with_reducible refine row_dr ?_ | with_reducible refine row_al ?_)))⟩; (first | (have gT := keep_row hkB hzx0 gT) | (have gT : wB.heap[wA.heap.size]? = some (.cells #[.int .i64 0, .int .i64 0, .int .i64 0, .int .i64 0, .string ⟨#[]⟩] 23 (0, 0)) := keep_row hkB (Nat.le_of_lt hszA) (by with_reducible exact heap_alloc_new wA _)) | skip); have hSB := HMS.out _ RB.out.2; have HQB : Hid (Q2 wB) := hqB; have hszB : w.heap.size < wB.heap.size := row_lt RB.out.1; have hsyB : w2.heap.size < wB.heap.size := row_lt RB.out.2; clear hqB hkB hzB)
      | (go_at_call 59; (with_reducible refine (hcho _ _ ?_).mono ?_); (focus ((repeat (first | exact rgs_two _ _ _ _ _ _ _ _ _ _ (by simp) | refine rgs_al ?_)); done)); rintro e wC ⟨rfl, hbC⟩; have RC : Hid (wC.heap[w.heap.size]? = some (.cells #[.int .i64 0, .int .i64 0, .int .i64 0, .int .i64 0, .string ⟨#[]⟩] 23 (0, 0)) ∧ wC.heap[w2.heap.size]? = some (.cells #[.int .i64 (n : Int), .int .i64 2, .int .i64 3, .int .i64 27, .int .i64 28, .int .i64 29, .int .i64 (q : Int), .int .i64 (29 + (q : Int)), .int .i64 (s2 : Int), .int .i64 (29 + (q : Int) + (s2 : Int)), .int .i64 (29 + (q : Int) + (s2 : Int) + 1), .int .i64 (n : Int), .int .i64 ((n : Int) + 1), .int .i64 (t : Int), .int .i64 ((n : Int) + 1 + (t : Int)), .int .i64 ((n : Int) + 1 + (t : Int) + (n : Int))] 51 (0, 0))) := ⟨below_row hbC (by (repeat (first | with_reducible exact RB.out.1 | with_reducible refine row_dr ?_ | with_reducible refine row_al ?_))), below_row hbC (by (repeat (first | with_reducible exact RB.out.2 | with_reducible refine row_dr ?_ | with_reducible refine row_al ?_)))⟩; (first | (have gT := below_row hbC (row_al gT)) | (have gT : wC.heap[wB.heap.size]? = some (.cells #[.int .i64 0, .int .i64 0, .int .i64 0, .int .i64 0, .string ⟨#[]⟩] 23 (0, 0)) := below_row hbC (by with_reducible exact row_al (heap_alloc_new wB _))) | (have gT : wC.heap[wB.heap.size + 1]? = some (.cells #[.int .i64 0, .int .i64 0, .int .i64 0, .int .i64 0, .string ⟨#[]⟩] 23 (0, 0)) := below_row hbC (by with_reducible exact row_new2 wB _ _)) | skip); (try (have q0 := cell_of_row_ gT 0 _ rfl; have fz0 := frozen_of_row wC _ 0 _ _ gT; have q1 := cell_of_row_ gT 1 _ rfl; have fz1 := frozen_of_row wC _ 1 _ _ gT; have q2 := cell_of_row_ gT 2 _ rfl; have fz2 := frozen_of_row wC _ 2 _ _ gT; have q3 := cell_of_row_ gT 3 _ rfl; have fz3 := frozen_of_row wC _ 3 _ _ gT; have q4 := cell_of_row_ gT 4 _ rfl; have fz4 := frozen_of_row wC _ 4 _ _ gT)); have hSC := HMS.out _ RC.out.2; have HQC : Hid (Q2 wC) := stb_two HST.out.2.1 HQB.out (by (repeat (first | with_reducible exact Below.refl _ _ | with_reducible refine bd ?_ | with_reducible refine bal ?_ (Nat.le_of_lt hszB)))) (by repeat (first | with_reducible exact Nat.le_of_lt hszB | with_reducible refine rle_al ?_)) hbC; have hszC : w.heap.size < wC.heap.size := row_lt RC.out.1; have hsyC : w2.heap.size < wC.heap.size := row_lt RC.out.2; clear hbC))
    all_goals
      go_wp2_with fail
      go_meet
      exact ⟨_, rfl, rfl, by first | exact rcf_set hz2 HST.out.2.1 RC.out.1 RC.out.2 HQC.out gT (by omega) _ _ _ _ _ | exact rcf_new HST.out.2.1 RC.out.1 RC.out.2 HQC.out⟩
  case rest =>
    obtain ⟨G, rfl, rfl, HF6⟩ := hcut
    clear hl0 hl1 hcho HMS HW0 hS0 hS00
    generalize wc = X6 at *
    go_wp2_with fail
    have HM2 : Hid (∀ W : World, W.heap[w2.heap.size]? = some (.cells #[.int .i64 (n : Int), .int .i64 2, .int .i64 3, .int .i64 27, .int .i64 28, .int .i64 29, .int .i64 (q : Int), .int .i64 (29 + (q : Int)), .int .i64 (s2 : Int), .int .i64 (29 + (q : Int) + (s2 : Int)), .int .i64 (29 + (q : Int) + (s2 : Int) + 1), .int .i64 (n : Int), .int .i64 ((n : Int) + 1), .int .i64 (t : Int), .int .i64 ((n : Int) + 1 + (t : Int)), .int .i64 ((n : Int) + 1 + (t : Int) + (n : Int))] 51 (0, 0)) → (W.cell? ⟨w2.heap.size, 0, none⟩ = some (.int .i64 (n : Int)) ∧ W.cell? ⟨w2.heap.size, 1, none⟩ = some (.int .i64 2) ∧ W.cell? ⟨w2.heap.size, 2, none⟩ = some (.int .i64 3) ∧ W.cell? ⟨w2.heap.size, 3, none⟩ = some (.int .i64 27) ∧ W.cell? ⟨w2.heap.size, 4, none⟩ = some (.int .i64 28) ∧ W.cell? ⟨w2.heap.size, 5, none⟩ = some (.int .i64 29) ∧ W.cell? ⟨w2.heap.size, 6, none⟩ = some (.int .i64 (q : Int)) ∧ W.cell? ⟨w2.heap.size, 7, none⟩ = some (.int .i64 (29 + (q : Int))) ∧ W.cell? ⟨w2.heap.size, 8, none⟩ = some (.int .i64 (s2 : Int)) ∧ W.cell? ⟨w2.heap.size, 9, none⟩ = some (.int .i64 (29 + (q : Int) + (s2 : Int))) ∧ W.cell? ⟨w2.heap.size, 10, none⟩ = some (.int .i64 (29 + (q : Int) + (s2 : Int) + 1)) ∧ W.cell? ⟨w2.heap.size, 11, none⟩ = some (.int .i64 (n : Int)) ∧ W.cell? ⟨w2.heap.size, 12, none⟩ = some (.int .i64 ((n : Int) + 1)) ∧ W.cell? ⟨w2.heap.size, 13, none⟩ = some (.int .i64 (t : Int)) ∧ W.cell? ⟨w2.heap.size, 14, none⟩ = some (.int .i64 ((n : Int) + 1 + (t : Int))) ∧ W.cell? ⟨w2.heap.size, 15, none⟩ = some (.int .i64 ((n : Int) + 1 + (t : Int) + (n : Int))))) := fun W hW => ⟨cell_of_row _ _ 0 _ _ _ hW, cell_of_row _ _ 1 _ _ _ hW, cell_of_row _ _ 2 _ _ _ hW, cell_of_row _ _ 3 _ _ _ hW, cell_of_row _ _ 4 _ _ _ hW, cell_of_row _ _ 5 _ _ _ hW, cell_of_row _ _ 6 _ _ _ hW, cell_of_row _ _ 7 _ _ _ hW, cell_of_row _ _ 8 _ _ _ hW, cell_of_row _ _ 9 _ _ _ hW, cell_of_row _ _ 10 _ _ _ hW, cell_of_row _ _ 11 _ _ _ hW, cell_of_row _ _ 12 _ _ _ hW, cell_of_row _ _ 13 _ _ _ hW, cell_of_row _ _ 14 _ _ _ hW, cell_of_row _ _ 15 _ _ _ hW⟩
    have hT0 := HM2.out X6.drew HF6.out.lay
    have hx6 : w.heap.size < X6.heap.size := row_lt HF6.out.res
    have hy6 := row_lt HF6.out.cho
    have hwl := HF6.out.lt
    go_cut [10, 11, 12] from 15 (fun o vs s wc => ∃ H, s = .pointer (some ⟨H, 0, none⟩) ∧ o = .bool fo ∧ Hid (RcG w.heap.size G #[.int .i64 0, .int .i64 0, .int .i64 0, .int .i64 0, .string ⟨#[]⟩] #[.int .i64 c0, .int .i64 c1, .int .i64 c2, .int .i64 c3, .string cr] #[.int .i64 f0, .int .i64 f1, .int .i64 f2, .int .i64 f3, .string fr] Q4 H wc))
    case first =>
      go_region_held3 (fun w' => w'.cell? ⟨w2.heap.size, 0, none⟩ = some (.int .i64 (n : Int)) ∧ w'.cell? ⟨w2.heap.size, 1, none⟩ = some (.int .i64 2) ∧ w'.cell? ⟨w2.heap.size, 2, none⟩ = some (.int .i64 3) ∧ w'.cell? ⟨w2.heap.size, 3, none⟩ = some (.int .i64 27) ∧ w'.cell? ⟨w2.heap.size, 4, none⟩ = some (.int .i64 28) ∧ w'.cell? ⟨w2.heap.size, 5, none⟩ = some (.int .i64 29) ∧ w'.cell? ⟨w2.heap.size, 6, none⟩ = some (.int .i64 (q : Int)) ∧ w'.cell? ⟨w2.heap.size, 7, none⟩ = some (.int .i64 (29 + (q : Int))) ∧ w'.cell? ⟨w2.heap.size, 8, none⟩ = some (.int .i64 (s2 : Int)) ∧ w'.cell? ⟨w2.heap.size, 9, none⟩ = some (.int .i64 (29 + (q : Int) + (s2 : Int))) ∧ w'.cell? ⟨w2.heap.size, 10, none⟩ = some (.int .i64 (29 + (q : Int) + (s2 : Int) + 1)) ∧ w'.cell? ⟨w2.heap.size, 11, none⟩ = some (.int .i64 (n : Int)) ∧ w'.cell? ⟨w2.heap.size, 12, none⟩ = some (.int .i64 ((n : Int) + 1)) ∧ w'.cell? ⟨w2.heap.size, 13, none⟩ = some (.int .i64 (t : Int)) ∧ w'.cell? ⟨w2.heap.size, 14, none⟩ = some (.int .i64 ((n : Int) + 1 + (t : Int))) ∧ w'.cell? ⟨w2.heap.size, 15, none⟩ = some (.int .i64 ((n : Int) + 1 + (t : Int) + (n : Int)))) (first | with_reducible exact hTE | with_reducible exact hTD | with_reducible exact hT0 | (with_reducible refine HM2.out _ ?_; (repeat (first | with_reducible exact RE.out.2.1 | with_reducible exact RD.out.2.1 | with_reducible exact HF6.out.lay | with_reducible refine row_dr ?_ | with_reducible refine row_al ?_ | with_reducible exact row5 RE.out.2.1 (by omega) _ _ _ _ _)); done)) (first
        | (go_at_call 62; (with_reducible refine (HALL.out _ ?_ ?_).mono ?_); (focus (refine HST.out.2.1 _ _ HF6.out.q ?_; (repeat (first | with_reducible exact Below.refl _ _ | with_reducible refine bd ?_ | with_reducible refine bal ?_ (Nat.le_of_lt hx6))); done)); (focus ((repeat (first | with_reducible exact Nat.le_of_lt hx6 | with_reducible refine rle_dr ?_ | with_reducible refine rle_al ?_)); done)); rintro e wD ⟨oa, ca, ob, cb, rfl, hLA, hLB, hqD, hkD, hzD⟩; have RD : Hid (wD.heap[w.heap.size]? = some (.cells #[.int .i64 0, .int .i64 0, .int .i64 0, .int .i64 0, .string ⟨#[]⟩] 23 (0, 0)) ∧ wD.heap[w2.heap.size]? = some (.cells #[.int .i64 (n : Int), .int .i64 2, .int .i64 3, .int .i64 27, .int .i64 28, .int .i64 29, .int .i64 (q : Int), .int .i64 (29 + (q : Int)), .int .i64 (s2 : Int), .int .i64 (29 + (q : Int) + (s2 : Int)), .int .i64 (29 + (q : Int) + (s2 : Int) + 1), .int .i64 (n : Int), .int .i64 ((n : Int) + 1), .int .i64 (t : Int), .int .i64 ((n : Int) + 1 + (t : Int)), .int .i64 ((n : Int) + 1 + (t : Int) + (n : Int))] 51 (0, 0)) ∧ wD.heap[(_ : Nat)]? = some (.cells #[.int .i64 c0, .int .i64 c1, .int .i64 c2, .int .i64 c3, .string cr] 23 (0, 0))) := ⟨keep_row hkD (Nat.le_refl _) (by (repeat (first | with_reducible exact HF6.out.res | with_reducible refine row_dr ?_ | with_reducible refine row_al ?_))), keep_row hkD (Nat.le_of_lt hz2) (by (repeat (first | with_reducible exact HF6.out.lay | with_reducible refine row_dr ?_ | with_reducible refine row_al ?_))), keep_row hkD (Nat.le_of_lt (Nat.lt_trans hz2 hwl)) (by (repeat (first | with_reducible exact HF6.out.cho | with_reducible refine row_dr ?_ | with_reducible refine row_al ?_)))⟩; (try have gU : wD.heap[X6.heap.size]? = some (.cells #[.int .i64 0, .int .i64 0, .int .i64 0, .int .i64 0, .string ⟨#[]⟩] 23 (0, 0)) := keep_row hkD (Nat.le_of_lt hx6) (by first | with_reducible exact row_new_dr X6 _ | with_reducible exact row_dr (heap_alloc_new_ X6 _) | with_reducible exact heap_alloc_new_ X6 _)); have hTD := HM2.out _ RD.out.2.1; have HQD : Hid (Q3 wD) := hqD; have HLD : Hid (List1 Value.string wD (.slice oa raws.length ca) raws ∧ List1 (Value.int .i64) wD (.slice ob masks.length cb) masks) := ⟨hLA, hLB⟩; have hszD : w.heap.size < wD.heap.size := row_lt RD.out.1; have hyD := row_lt RD.out.2.2; clear hqD hkD hzD hLA hLB)
        | (go_at_call 61; (with_reducible refine (HFND.out oa ca ob cb _ ?_ ?_ ?_ ?_).mono ?_); (focus (refine HST.out.2.2.1 _ _ HQD.out ?_; (repeat (first | with_reducible exact Below.refl _ _ | with_reducible refine bd ?_ | with_reducible refine bal ?_ (Nat.le_of_lt hszD))); done)); (focus ((repeat (first | with_reducible exact Nat.le_of_lt hszD | with_reducible refine rle_al ?_)); done)); (focus (refine List1.below HLD.out.1 ?_; (repeat (first | with_reducible exact Below.refl _ _ | with_reducible refine bd ?_ | with_reducible refine ba ?_)); done)); (focus (refine List1.below HLD.out.2 ?_; (repeat (first | with_reducible exact Below.refl _ _ | with_reducible refine bd ?_ | with_reducible refine ba ?_)); done)); rintro e wE ⟨vv, rfl, hqE, hkE, hzE⟩; have RE : Hid (wE.heap[w.heap.size]? = some (.cells #[.int .i64 0, .int .i64 0, .int .i64 0, .int .i64 0, .string ⟨#[]⟩] 23 (0, 0)) ∧ wE.heap[w2.heap.size]? = some (.cells #[.int .i64 (n : Int), .int .i64 2, .int .i64 3, .int .i64 27, .int .i64 28, .int .i64 29, .int .i64 (q : Int), .int .i64 (29 + (q : Int)), .int .i64 (s2 : Int), .int .i64 (29 + (q : Int) + (s2 : Int)), .int .i64 (29 + (q : Int) + (s2 : Int) + 1), .int .i64 (n : Int), .int .i64 ((n : Int) + 1), .int .i64 (t : Int), .int .i64 ((n : Int) + 1 + (t : Int)), .int .i64 ((n : Int) + 1 + (t : Int) + (n : Int))] 51 (0, 0)) ∧ wE.heap[(_ : Nat)]? = some (.cells #[.int .i64 c0, .int .i64 c1, .int .i64 c2, .int .i64 c3, .string cr] 23 (0, 0))) := ⟨keep_row hkE (Nat.le_refl _) (by (repeat (first | with_reducible exact RD.out.1 | with_reducible refine row_dr ?_ | with_reducible refine row_al ?_))), keep_row hkE (Nat.le_of_lt hz2) (by (repeat (first | with_reducible exact RD.out.2.1 | with_reducible refine row_dr ?_ | with_reducible refine row_al ?_))), keep_row hkE (Nat.le_of_lt (Nat.lt_trans hz2 hwl)) (by (repeat (first | with_reducible exact RD.out.2.2 | with_reducible refine row_dr ?_ | with_reducible refine row_al ?_)))⟩; (first | (have gU := keep_row hkE (Nat.le_of_lt hx6) gU; have hGE := hy6) | (have gU : wE.heap[wD.heap.size]? = some (.cells #[.int .i64 0, .int .i64 0, .int .i64 0, .int .i64 0, .string ⟨#[]⟩] 23 (0, 0)) := keep_row hkE (Nat.le_of_lt hszD) (by with_reducible exact heap_alloc_new_ wD _); have hGE := hyD) | skip); (try (have q0 := cell_of_row_ gU 0 _ rfl; have fz0 := frozen_of_row wE _ 0 _ _ gU; have q1 := cell_of_row_ gU 1 _ rfl; have fz1 := frozen_of_row wE _ 1 _ _ gU; have q2 := cell_of_row_ gU 2 _ rfl; have fz2 := frozen_of_row wE _ 2 _ _ gU; have q3 := cell_of_row_ gU 3 _ rfl; have fz3 := frozen_of_row wE _ 3 _ _ gU; have q4 := cell_of_row_ gU 4 _ rfl; have fz4 := frozen_of_row wE _ 4 _ _ gU)); have hTE := HM2.out _ RE.out.2.1; have HQE : Hid (Q4 wE) := hqE; clear hqE hkE hzE))
      all_goals
        go_wp2_with fail
        go_meet
        exact ⟨_, rfl, rfl, by first | exact rcg_set (Nat.lt_trans hz2 hwl) hGE HST.out.2.2.2 RE.out.1 RE.out.2.2 HQE.out gU _ _ _ _ _ | exact rcg_new (Nat.lt_trans hz2 hwl) HST.out.2.2.2 RE.out.1 RE.out.2.2 HQE.out⟩
    case rest =>
      obtain ⟨H, rfl, rfl, HF9⟩ := hcut
      generalize wc = X9 at *
      have p1 : X9.cell? ⟨H, 1, none⟩ = some (.int .i64 f1) := cell_of_row_ HF9.out.fnd 1 _ rfl
      have p2 : X9.cell? ⟨G, 1, none⟩ = some (.int .i64 c1) := cell_of_row_ HF9.out.cho 1 _ rfl
      have p3 : fo = true → (f1 != wrap64 (c1 + 1)) = true := fun h => bne_iff_ne.2 (HNO.out h)
      have gR := HF9.out.res
      have gC := HF9.out.cho
      have HQ : Hid (Q4 X9 ∧ Stb w.heap.size Q4) := ⟨HF9.out.q, HST.out.2.2.2⟩
      clear HALL HFND HNO HST HF6 HF9 HM2 hT0
      cases fo
      case' true => have p4 := p3 rfl
      all_goals
        clear p3
        go_wp2_with (first | refine wpList_load_row rfl 23 _ rfl G rfl 23 _ (0, 0) _ gC Tryz.underlying23 rfl (by kernel_rfl) ?_ | refine wpList_store_row rfl 23 _ _ rfl w.heap.size #[.int .i64 c0, .int .i64 c1, .int .i64 c2, .int .i64 c3, .string cr] rfl rfl 23 _ gR (by kernel_rfl) rfl (by simp [Value.oneCell']) ?_)
        exact jrcv_ret _ w.heap.size _ #[.int .i64 c0, .int .i64 c1, .int .i64 c2, .int .i64 c3, .string cr] 0 0 _ rfl rfl rfl (setRow_heap _ _ _ _ _ _ gR) rfl ⟨rfl, HQ.out.2 _ _ HQ.out.1 (below_setRow (Below.refl _ _) (Nat.le_refl _) _)⟩
end Go.Proofs.YtoopaigpjefonaaGreatDoor

namespace Go.Proofs.YtoopaigpjefonaaGreatDoor
set_option maxRecDepth 20000
open Go.RowKit

/-- What Load tells. -/
def loadK (K : VK) (S : PS) (T : K.σ) (at_ : Int) : Array Value :=
  if (bget S at_).1.2.2 = 0 ∧ (bget S at_).1.2.1 = 0 ∧ K.oE T (bget S at_).1.1 = 0 ∧ (K.oH T (bget S at_).1.1).v1 = at_ then readA true (K.oH T (bget S at_).1.1) (K.oS T (bget S at_).1.1) else noneA
theorem kload_ret (tmps : Array Value) (w w' : World) (cs : Array Value) (R : Ending → World → Prop) (h1 : tmps.getD 6 undef = .pointer (some ⟨w.heap.size, 0, none⟩)) (hg : w'.heap[w.heap.size]? = some (.cells cs 125 (0, 0))) (hs : cs.size = 10) (hR : R (.returned (.agg cs)) w') :
    bodyPost Tryz.prog Tryz.f60 R .ret { tmps := tmps, defers := [] } w' :=
  bodyPost_ret (v := .agg cs) (results_cell_row Tryz.results60 tmps w' w.heap.size 125 cs (0, 0) _ h1 hg Tryz.underlying125 rfl (by rw [hs]; kernel_rfl)) rfl hR
theorem kreadA_one (ok : Bool) (h : Hd) (s : ByteArray) : (readA ok h s).all (·.oneCell') = true := by simp [readA, Value.oneCell']
set_option maxHeartbeats 4000000 in
theorem kload_any (K : VK) (HK : VKOk K) (B : Nat) (F F' : Nat → Prop) (S : PS) (T : K.σ) (at_ : Int) (w : World) (hp : Plate w F B S) (hw : S.wait.length ≤ 1000000) (hg : ErrT w) (hF : ¬ F 3) (hv : K.lies w F' T) (hl : K.room T 0) (hd : ∀ k, F' k → ¬ F k) (hb : ∀ k, F k → k < w.heap.size) :
    Calls Tryz.prog 60 #[.pointer (some ⟨B, 0, none⟩), K.v, .int .i64 at_] w fun e w' => e = .returned (.agg (loadK K S T at_)) ∧ Plate w' F B (bget S at_).2 ∧ Touch F w w' := by
  obtain ⟨w0, hw0⟩ : ∃ w0, w.alloc (.cells #[.bool false, .int .i64 0, .int .i64 0, .int .i64 0, .int .i64 0, .int .i64 0, .int .i64 0, .int .i64 0, .int .i64 0, .string ⟨#[]⟩] 125) = w0 := ⟨_, rfl⟩
  have g0 : w0.heap[w.heap.size]? = some (.cells #[.bool false, .int .i64 0, .int .i64 0, .int .i64 0, .int .i64 0, .int .i64 0, .int .i64 0, .int .i64 0, .int .i64 0, .string ⟨#[]⟩] 125 (0, 0)) := by rw [← hw0]; exact heap_alloc_new w _
  have hb0 : Below w.heap.size w w0 := by rw [← hw0]; exact (Below.refl _ _).alloc (Nat.le_refl _) _
  have hget := bget_any B F S at_ w0 (hp.below hb0) hw (hg.below hb0 (lt_of_cell_ hg)) hF
  have HKK : Hid (∀ w', Touch F w0 w' → w'.heap[w.heap.size]? = some (.cells #[.bool false, .int .i64 0, .int .i64 0, .int .i64 0, .int .i64 0, .int .i64 0, .int .i64 0, .int .i64 0, .int .i64 0, .string ⟨#[]⟩] 125 (0, 0)) ∧ K.lies w' F' T ∧ Touch F w w') := fun w' h => ⟨(h.2 _ (lt_of_block g0) (fun hf => absurd (hb _ hf) (Nat.lt_irrefl _))).trans g0, HK.keep (HK.below hv hb0) fun k hk hf => h.2 k hk (hd k hf), ⟨(hb0.mono (Nat.zero_le _)).trans h.1, fun k hk hn => (h.2 k (Nat.lt_of_lt_of_le hk hb0.size) hn).trans (hb0.block k hk)⟩⟩
  have HR : Hid (∀ w' cs, Touch F w w' → Plate w' F B (bget S at_).2 → w'.heap[w.heap.size]? ≠ none → Plate (w'.setRow w.heap.size cs) F B (bget S at_).2 ∧ Touch F w (w'.setRow w.heap.size cs)) := fun w' cs h hp' _ => ⟨hp'.keep fun k _ hk => setRow_other _ _ _ _ (Nat.ne_of_lt (hb k hk)), ⟨h.1.trans ⟨rfl, rfl, rfl, by simp [World.setRow], fun k hk => absurd hk (Nat.not_lt_zero k)⟩, fun k hk hn => (setRow_other _ _ _ _ (Nat.ne_of_lt hk)).trans (h.2 k hk hn)⟩⟩
  have HL : Hid (loadK K S T at_ = if (bget S at_).1.2.2 = 0 ∧ (bget S at_).1.2.1 = 0 ∧ K.oE T (bget S at_).1.1 = 0 ∧ (K.oH T (bget S at_).1.1).v1 = at_ then readA true (K.oH T (bget S at_).1.1) (K.oS T (bget S at_).1.1) else noneA) := rfl
  have htold := fun w h => HK.told F' T (bget S at_).1.1 at_ w hl h
  simp only [toldK] at htold
  generalize hr : (bget S at_).1.1 = r at *
  generalize hm : (bget S at_).1.2.1 = m at *
  generalize hy : (bget S at_).1.2.2 = y at *
  generalize (bget S at_).2 = S' at *
  generalize loadK K S T at_ = A at *
  clear hp hg hv hb0 g0 hr hm hy
  by_cases hc : y = 0 ∧ m = 0
  · obtain ⟨rfl, rfl⟩ := hc
    simp only [true_and] at HL
    rw [← HL.out] at htold
    have hA : A.size = 10 := by rw [HL.out]; split <;> rfl
    have hA1 : A.all (·.oneCell') = true := by rw [HL.out]; split; exact kreadA_one _ _ _; exact kreadA_one _ _ _
    clear HL
    go_enter Tryz.func60, Tryz.ntmps60
    go_wp2_with fail
    try rw [hw0]
    refine hget.mono ?_
    rintro e w1 ⟨rfl, hp1, ht1⟩
    obtain ⟨g1, hi1, ht2⟩ := HKK.out w1 ht1
    clear hget ht1 HKK hw0
    go_wp2_with fail
    refine (htold _ hi1).mono ?_
    rintro e w2 ⟨rfl, hb2⟩
    have g2 := (hb2.block _ (lt_of_block g1)).trans g1
    have HF : Hid _ := HR.out w2 A (ht2.trans (Touch.of_below hb2)) (hp1.below hb2) (by rw [g2]; simp)
    clear htold hi1 hb2 g1 hp1 ht2 HR
    go_wp2_with (refine wpList_store_row rfl 125 _ _ rfl w.heap.size A rfl rfl 125 _ g2 (by rw [hA]; kernel_rfl) (by rw [hA]; rfl) hA1 ?_)
    exact kload_ret _ w _ A _ rfl (setRow_heap _ _ _ _ _ _ g2) hA ⟨rfl, HF.out⟩
  · have hn : A = noneA := by rw [HL.out, if_neg]; exact fun h => hc ⟨h.1, h.2.1⟩
    subst hn
    simp only [noneA, readA, Hd.zero]
    clear HL htold
    have hway : (y != 0) = true ∨ (y = 0 ∧ ((m : Nat) : Int) ≠ 0) := by
      by_cases h0 : y = 0
      · exact .inr ⟨h0, fun h => hc ⟨h0, by omega⟩⟩
      · exact .inl (bne_iff_ne.2 h0)
    rcases hway with h0 | ⟨rfl, h0⟩
    case' inr => have h1 : (((m : Nat) : Int) != 0) = true := bne_iff_ne.2 h0
    all_goals
      go_enter Tryz.func60, Tryz.ntmps60
      go_wp2_with fail
      try rw [hw0]
      refine hget.mono ?_
      rintro e w1 ⟨rfl, hp1, ht1⟩
      obtain ⟨g1, _, ht2⟩ := HKK.out w1 ht1
      have HF : Hid _ := HR.out w1 #[.bool false, .int .i64 0, .int .i64 0, .int .i64 0, .int .i64 0, .int .i64 0, .int .i64 0, .int .i64 0, .int .i64 0, .string ⟨#[]⟩] ht2 hp1 (by rw [g1]; simp)
      clear hget ht1 HKK hw0 hp1 ht2 HR
      go_wp2_with (refine wpList_store_row rfl 125 _ _ rfl w.heap.size #[.bool false, .int .i64 0, .int .i64 0, .int .i64 0, .int .i64 0, .int .i64 0, .int .i64 0, .int .i64 0, .int .i64 0, .string ⟨#[]⟩] rfl rfl 125 _ g1 (by kernel_rfl) rfl (by simp [Value.oneCell']) ?_)
      exact kload_ret _ w _ _ _ rfl (setRow_heap _ _ _ _ _ _ g1) rfl ⟨rfl, HF.out⟩
end Go.Proofs.YtoopaigpjefonaaGreatDoor

namespace Go.Proofs.YtoopaigpjefonaaGreatDoor
set_option maxRecDepth 20000
open Go.RowKit

theorem jviews {base : Nat} {w : World} {M n : Nat} {oa ob : Option Addr} {ca cb : Nat} {raws : List ByteArray} {masks : List Int} (h : ImgMid base w M (.slice oa n ca) (.slice ob n cb) raws masks) : List1 Value.string w (.slice oa n ca) raws ∧ List1 (Value.int .i64) w (.slice ob n cb) masks := ⟨list1_of_owns h.raws, list1_of_owns h.masks⟩
theorem touch_kept {F : Nat → Prop} {b : Nat} {W W' : World} (ht : Touch F W W') (hF : ∀ k, F k → k < b) : Kept b W W' := fun k h1 h2 => ht.2 k h2 fun h => by have := hF k h; omega
theorem duo_stb {K : VK} (HK : VKOk K) {F : Nat → Prop} {B : Nat} {P : PS} {S : K.σ} {w : World} (hF : ∀ k, F k → k < w.heap.size) : Stb w.heap.size (fun W => Duo K W F B P S ∧ Touch F w W) := fun _ _ h hb => ⟨h.1.keep HK hb.size fun k _ hk => hb.block k (hF k hk), ⟨h.2.1.trans (hb.mono (Nat.zero_le _)), fun k hk hn => (hb.block k hk).trans (h.2.2 k hk hn)⟩⟩
/-- Recover of any device and vault that lie apart, where nothing is left to be done. -/
theorem recover_duo (K : VK) (HK : VKOk K) (F : Nat → Prop) (B : Nat) (P : PS) (T : K.σ) (r0 r1 : Rg) (c : Sp) (P1 P2 : PS) (n : Nat) (raws : List ByteArray) (masks : List Int) (w : World) (h : Duo K w F B P T) (hg : ErrT w) (hF : ¬ F 3) (hw : P.wait.length ≤ 1000000) (hr : K.room T 1) (hO : ∀ r, K.oE T r = 0 → (K.oS T r).size = 448) (hn : n ≤ 1024)
    (hup : P.up = true) (hlo : loE (P.kept.length : Nat) = 0 ∧ loA (P.kept.length : Nat) = layA n (layQ n) (layS n) (layT n)) (e1 : (bget P 0).2 = P1) (e2 : (bget P1 1).2 = P2) (er0 : loadR K P T 0 = r0) (er1 : loadR K P1 T 1 = r1) (hc : chO [r0, r1] (n : Int) = some c) (era : rawsTo P2 (P2.kept.length / 8) = raws) (erm : masksTo P2 (P2.kept.length / 8) = masks)
    (hway : piB (lookR K T raws masks 2) (n : Int) = true → rcdB raws masks 3 (piN (lookR K T raws masks 2) (n : Int)).toNat = true → togB 27 (n : Int) (fnW K T raws masks (n : Int)) = true)
    (hno : fnOk K T raws masks (n : Int) = true → ¬ (fnS K T raws masks (n : Int)).ep = wrap64 (c.ep + 1)) :
    Calls Tryz.prog 24 #[.pointer (some ⟨B, 0, none⟩), K.v] w fun e w' => e = .returned (.tuple #[.agg c.arr, .int .i64 0, .int .i64 0]) ∧ Duo K w' F B (stA P2 (P2.kept.length / 8)) (fnP K T raws masks (n : Int)) ∧ Touch F w w' := by
  have hlt := h.lt
  have k1 : Alike P P1 := by rw [← e1]; exact jbget_alike P 0
  have k2 : Alike P1 P2 := by rw [← e2]; exact jbget_alike P1 1
  have hw1 : P1.wait.length ≤ 1000000 := by rw [k1.2.2.1]; exact hw
  have hw2 : P2.wait.length ≤ 1000000 := by rw [k2.2.2.1]; exact hw1
  have hl : raws.length = P2.kept.length / 8 ∧ masks.length = P2.kept.length / 8 := ⟨by rw [← era]; exact rawsTo_length _ _, by rw [← erm]; exact masksTo_length _ _⟩
  have hlays : ∀ W, Below w.heap.size w W → Calls Tryz.prog 53 #[.pointer (some ⟨B, 0, none⟩)] W fun e W' => e = .returned (.tuple #[.agg (layA n (layQ n) (layS n) (layT n)), .int .i64 0]) ∧ Below W.heap.size W W' := fun W hW => by
    have q := layoutOf_any (.pointer (some ⟨B, 0, none⟩)) (P.kept.length : Nat) W fun W2 h2 => ((h.below HK hW).below HK h2).sectors
    rw [hlo.1, hlo.2] at q
    exact q
  have hload : ∀ (Pa : PS) (a : Int) W, Pa.wait.length ≤ 1000000 → Duo K W F B Pa T → ErrT W → Calls Tryz.prog 60 #[.pointer (some ⟨B, 0, none⟩), K.v, .int .i64 a] W fun e W' => e = .returned (.agg (loadR K Pa T a).arr) ∧ Duo K W' F B (bget Pa a).2 T ∧ Touch F W W' := fun Pa a W hwa hd hgW => by
    obtain ⟨F1, F2, hd⟩ := hd
    have q := kload_any K HK B F1 F2 Pa T a W hd.plate hwa hgW (fun hk => hF (hd.in1 _ hk)) hd.vault (HK.less hr (Nat.zero_le _)) (fun k h2 h1 => hd.apart k h1 h2) (fun k hk => hd.lt k (hd.in1 k hk))
    refine q.mono fun e W' ⟨he, hp, ht⟩ => ⟨?_, ⟨F1, F2, hp, HK.keep hd.vault fun k hk hF2 => ht.2 k hk fun h1 => hd.apart k h1 hF2, hd.apart, hd.in1, hd.in2, fun k hk => Nat.lt_of_lt_of_le (hd.lt k hk) ht.size⟩, ht.mono hd.in1⟩
    rw [he]
    unfold loadK loadR Rg.arr
    by_cases q1 : (bget Pa a).1.2.2 = 0 ∧ (bget Pa a).1.2.1 = 0
    · rw [if_pos q1]
      unfold toldR
      by_cases q2 : K.oE T (bget Pa a).1.1 = 0 ∧ (K.oH T (bget Pa a).1.1).v1 = a
      · rw [if_pos q2, if_pos ⟨q1.1, q1.2, q2.1, q2.2⟩]
      · rw [if_neg q2, if_neg fun q => q2 ⟨q.2.2.1, q.2.2.2⟩]
        rfl
    · rw [if_neg q1, if_neg fun q => q1 ⟨q.1, q.2.1⟩]
      rfl
  have hgt : ∀ W, Touch F w W → ErrT W := fun W ht => hg.touch ht hF
  refine (recover_kept (.pointer (some ⟨B, 0, none⟩)) K.v n (layQ n) (layS n) (layT n) r0 r1 c (fnS K T raws masks (n : Int)) (fnOk K T raws masks (n : Int)) raws masks w (fun W => Duo K W F B P1 T ∧ Touch F w W) (fun W => Duo K W F B P2 T ∧ Touch F w W) (fun W => Duo K W F B (stA P2 (P2.kept.length / 8)) T ∧ Touch F w W) (fun W => Duo K W F B (stA P2 (P2.kept.length / 8)) (fnP K T raws masks (n : Int)) ∧ Touch F w W) (duo_stb HK hlt) (duo_stb HK hlt) (duo_stb HK hlt) (duo_stb HK hlt) (fun W hW => by have q := (h.below HK hW).up; rw [hup] at q; exact q) hlays ?_ ?_ ?_ ?_ ?_ hno).mono fun e w' ⟨he, hq⟩ => ⟨he, hq⟩
  · intro W hW
    have ht := Touch.of_below (F := F) hW
    have q := hload P 0 W hw (h.below HK hW) (hgt W ht)
    rw [er0, e1] at q
    exact q.mono fun e W' ⟨a1, a2, a3⟩ => ⟨a1, ⟨a2, ht.trans (a3.mono fun _ h => .inl h)⟩, touch_kept a3 hlt, a3.size⟩
  · intro W hW _
    have q := hload P1 1 W hw1 hW.1 (hgt W hW.2)
    rw [er1, e2] at q
    exact q.mono fun e W' ⟨a1, a2, a3⟩ => ⟨a1, ⟨a2, hW.2.trans (a3.mono fun _ h => .inl h)⟩, touch_kept a3 hlt, a3.size⟩
  · intro v' W hv
    have q := jcho_any v' [r0, r1] (n : Int) W hv
    rw [hc] at q
    exact q
  · intro W hW _
    obtain ⟨F1, F2, hd⟩ := hW.1
    refine (all_any B F1 P2 W hd.plate hw2 (hgt W hW.2) (fun hk => hF (hd.in1 _ hk)) (fun k hk => hd.lt k (hd.in1 k hk))).mono fun e W' ⟨oa, ca, ob, cb, he, ⟨M, hm⟩, hp, ht⟩ => ⟨oa, ca, ob, cb, ?_, ?_, ?_, ⟨⟨F1, F2, hp, HK.keep hd.vault fun k hk hF2 => ht.2 k hk fun h1 => hd.apart k h1 hF2, hd.apart, hd.in1, hd.in2, fun k hk => Nat.lt_of_lt_of_le (hd.lt k hk) ht.size⟩, hW.2.trans (ht.mono fun k hk => .inl (hd.in1 k hk))⟩, touch_kept (ht.mono hd.in1) hlt, ht.size⟩
    · rw [he, hl.1, hl.2]
    · rw [era, erm] at hm
      rw [hl.1]
      exact (jviews hm).1
    · rw [era, erm] at hm
      rw [hl.2]
      exact (jviews hm).2
  · intro oa ca ob cb W hW _ h1 h2
    refine (found_duo K HK F B _ T hr hO n (layQ n) (layS n) (layT n) hn oa ob ca cb raws masks W hW.1 h1 h2 hway).mono fun e W' ⟨⟨v', he, _⟩, hd, ht⟩ => ⟨v', he, ⟨hd, hW.2.trans (ht.mono fun _ h => .inl h)⟩, touch_kept ht hlt, ht.size⟩
end Go.Proofs.YtoopaigpjefonaaGreatDoor

namespace Go.Proofs.YtoopaigpjefonaaGreatDoor
set_option maxRecDepth 20000
open Go.RowKit

set_option maxHeartbeats 2000000 in
theorem format_err (p v : Value) (a0 a1 a2 a3 : Int) (r : ByteArray) (E : Int) (hE : ¬ E = 0) (w : World) (hI : ∀ W, Below w.heap.size w W → Calls Tryz.prog 27 #[p, .agg #[.int .i64 a0, .int .i64 a1, .int .i64 a2, .int .i64 a3, .string r]] W fun e W' => e = .returned (.bool true) ∧ Below W.heap.size W W')
    (hU : ∀ W, Below w.heap.size w W → Calls Tryz.prog 28 #[v, .agg #[.int .i64 a0, .int .i64 a1, .int .i64 a2, .int .i64 a3, .string r]] W fun e W' => e = .returned (.int .i64 E) ∧ Below W.heap.size W W') :
    Calls Tryz.prog 9 #[p, v, .agg #[.int .i64 a0, .int .i64 a1, .int .i64 a2, .int .i64 a3, .string r]] w fun e w' => e = .returned (.int .i64 E) ∧ Below w.heap.size w w' := by
  have hb0 := bel_alloc w (.cells #[.int .i64 a0, .int .i64 a1, .int .i64 a2, .int .i64 a3, .string r] 23)
  have g0 := heap_alloc_new w (.cells #[.int .i64 a0, .int .i64 a1, .int .i64 a2, .int .i64 a3, .string r] 23)
  have h1 := hI _ hb0
  have hE1 : (E != 0) = true := by simpa using hE
  have HB : Hid _ := hb0
  clear hI hb0 hE
  go_enter Tryz.func9, Tryz.ntmps9
  go_wp2_with fail
  refine h1.mono ?_
  rintro e w1 ⟨rfl, hb1⟩
  have gw := (hb1.block w.heap.size (by simp)).trans g0
  have HB1 : Hid (Below w.heap.size w w1) := HB.out.trans (hb1.mono HB.out.size)
  have h2 := hU w1 HB1.out
  have c0 : w1.cell? ⟨w.heap.size, 0, none⟩ = some (.int .i64 a0) := cell_of_row _ _ 0 _ _ _ gw
  have c1 : w1.cell? ⟨w.heap.size, 1, none⟩ = some (.int .i64 a1) := cell_of_row _ _ 1 _ _ _ gw
  have c2 : w1.cell? ⟨w.heap.size, 2, none⟩ = some (.int .i64 a2) := cell_of_row _ _ 2 _ _ _ gw
  have c3 : w1.cell? ⟨w.heap.size, 3, none⟩ = some (.int .i64 a3) := cell_of_row _ _ 3 _ _ _ gw
  have c4 : w1.cell? ⟨w.heap.size, 4, none⟩ = some (.string r) := cell_of_row _ _ 4 _ _ _ gw
  clear h1 hb1 HB g0 gw hU
  go_wp2_with fail
  refine h2.mono ?_
  rintro e w2 ⟨rfl, hb2⟩
  have HB2 : Hid (Below w.heap.size w w2) := HB1.out.trans (hb2.mono HB1.out.size)
  clear h2 hb2 HB1 c0 c1 c2 c3 c4
  go_wp2
  go_ret
  exact ⟨rfl, HB2.out⟩
set_option maxHeartbeats 4000000 in
theorem format_son (p v : Value) (a0 a1 a2 a3 : Int) (r : ByteArray) (A E : Int) (R : ByteArray) (hE : ¬ E = 0) (Q : World → Prop) (w : World) (hQ : Stb w.heap.size Q) (hI : ∀ W, Below w.heap.size w W → Calls Tryz.prog 27 #[p, .agg #[.int .i64 a0, .int .i64 a1, .int .i64 a2, .int .i64 a3, .string r]] W fun e W' => e = .returned (.bool true) ∧ Below W.heap.size W W')
    (hU : ∀ W, Below w.heap.size w W → Calls Tryz.prog 28 #[v, .agg #[.int .i64 a0, .int .i64 a1, .int .i64 a2, .int .i64 a3, .string r]] W fun e W' => e = .returned (.int .i64 0) ∧ Below W.heap.size W W')
    (hO : ∀ W, Below w.heap.size w W → Calls Tryz.prog 29 #[p, v, .agg #[.int .i64 a0, .int .i64 a1, .int .i64 a2, .int .i64 a3, .string r]] W fun e W' => e = .returned (.tuple #[.agg #[.int .i64 A, .string R], .int .i64 E]) ∧ Q W' ∧ w.heap.size ≤ W'.heap.size) :
    Calls Tryz.prog 9 #[p, v, .agg #[.int .i64 a0, .int .i64 a1, .int .i64 a2, .int .i64 a3, .string r]] w fun e w' => e = .returned (.int .i64 E) ∧ Q w' := by
  have hb0 := bel_alloc w (.cells #[.int .i64 a0, .int .i64 a1, .int .i64 a2, .int .i64 a3, .string r] 23)
  have g0 := heap_alloc_new w (.cells #[.int .i64 a0, .int .i64 a1, .int .i64 a2, .int .i64 a3, .string r] 23)
  have h1 := hI _ hb0
  have hE1 : (E != 0) = true := by simpa using hE
  have HB : Hid _ := hb0
  clear hI hb0 hE
  go_enter Tryz.func9, Tryz.ntmps9
  go_wp2_with fail
  refine h1.mono ?_
  rintro e w1 ⟨rfl, hb1⟩
  have gw := (hb1.block w.heap.size (by simp)).trans g0
  have HB1 : Hid (Below w.heap.size w w1) := HB.out.trans (hb1.mono HB.out.size)
  have h2 := hU w1 HB1.out
  have c0 : w1.cell? ⟨w.heap.size, 0, none⟩ = some (.int .i64 a0) := cell_of_row _ _ 0 _ _ _ gw
  have c1 : w1.cell? ⟨w.heap.size, 1, none⟩ = some (.int .i64 a1) := cell_of_row _ _ 1 _ _ _ gw
  have c2 : w1.cell? ⟨w.heap.size, 2, none⟩ = some (.int .i64 a2) := cell_of_row _ _ 2 _ _ _ gw
  have c3 : w1.cell? ⟨w.heap.size, 3, none⟩ = some (.int .i64 a3) := cell_of_row _ _ 3 _ _ _ gw
  have c4 : w1.cell? ⟨w.heap.size, 4, none⟩ = some (.string r) := cell_of_row _ _ 4 _ _ _ gw
  have hlt := lt_of_block gw
  have HG : Hid _ := gw
  clear h1 hb1 HB g0 gw hU
  go_wp2_with fail
  refine h2.mono ?_
  rintro e w2 ⟨rfl, hb2⟩
  have g2 := (hb2.block w.heap.size hlt).trans HG.out
  have HB2 : Hid (Below w.heap.size w w2) := HB1.out.trans (hb2.mono HB1.out.size)
  have h3 := hO w2 HB2.out
  clear h2 hb2 HB1 c0 c1 c2 c3 c4 hO HG hlt
  have c0 : w2.cell? ⟨w.heap.size, 0, none⟩ = some (.int .i64 a0) := cell_of_row _ _ 0 _ _ _ g2
  have c1 : w2.cell? ⟨w.heap.size, 1, none⟩ = some (.int .i64 a1) := cell_of_row _ _ 1 _ _ _ g2
  have c2 : w2.cell? ⟨w.heap.size, 2, none⟩ = some (.int .i64 a2) := cell_of_row _ _ 2 _ _ _ g2
  have c3 : w2.cell? ⟨w.heap.size, 3, none⟩ = some (.int .i64 a3) := cell_of_row _ _ 3 _ _ _ g2
  have c4 : w2.cell? ⟨w.heap.size, 4, none⟩ = some (.string r) := cell_of_row _ _ 4 _ _ _ g2
  clear g2
  go_wp2_with fail
  refine h3.mono ?_
  rintro e w3 ⟨rfl, hq3, hz3⟩
  have HF : Hid (Q (w3.alloc (.cells #[.int .i64 A, .string R] 68))) := hQ _ _ hq3 ((Below.refl _ _).alloc hz3 _)
  clear h3 hq3 hz3 c0 c1 c2 c3 c4 HB2 hQ
  go_wp2
  go_ret
  exact ⟨rfl, HF.out⟩
/-- What Format ends with, and what it leaves. -/
def fmOk (P : PS) (s : Sp) : Bool := decide (loE (P.kept.length : Nat) = 0 ∧ loN (P.kept.length : Nat) = s.lv)
def fmL (K : VK) (S : K.σ) (s : Sp) : List (List Wt) := [[⟨1 - supA s, fillS 0 512⟩, ⟨2, fillS 0 512⟩], [⟨supA s, supR K S s⟩]]
def fmE (K : VK) (P : PS) (S : K.σ) (s : Sp) : Int := if fmOk P s then if s.err = 0 then if supE s = 0 then ansE (folE (fmL K S s) P) else supE s else s.err else 1
def fmP (K : VK) (P : PS) (S : K.σ) (s : Sp) : PS := if fmOk P s then if s.err = 0 then if supE s = 0 then folP (fmL K S s) P else P else P else P
def fmS (K : VK) (P : PS) (S : K.σ) (s : Sp) : K.σ := if fmOk P s then if s.err = 0 then supP K S s else S else S
theorem putE_pos {n k : Int} (h : putE n k = 0) : 0 ≤ n := by
  unfold putE at h
  split at h
  · omega
  split at h
  · omega
  · omega
theorem supA_01 (s : Sp) (h : supE s = 0) (he : s.err = 0) : 0 ≤ supA s ∧ supA s ≤ 1 := by
  have h1 := (sp_list he).2.2.2
  simp [laidOk, superPs] at h1
  unfold supA
  rw [if_pos h]
  have h2 := Int.tmod_lt_of_pos s.ep (show (0 : Int) < 2 by decide)
  have h3 : 0 ≤ s.ep.tmod 2 := Int.tmod_nonneg 2 (putE_pos h1.2.1)
  omega
theorem format_all (K : VK) (HK : VKOk K) (F : Nat → Prop) (B : Nat) (P : PS) (S : K.σ) (s : Sp) (w : World) (h : Duo K w F B P S) (hr : K.room S 1) (hup : P.up = true) (hw : P.wait.length ≤ 100000) (hg : ErrT w) (hF : ¬ F 3) :
    Calls Tryz.prog 9 #[.pointer (some ⟨B, 0, none⟩), K.v, .agg s.arr] w fun e w' => e = .returned (.int .i64 (fmE K P S s)) ∧ Duo K w' (grow F w w') B (fmP K P S s) (fmS K P S s) ∧ Touch F w w' := by
  have hlt := h.lt
  have hI := fun W (hW : Below w.heap.size w W) => isOf_duo K HK F B P S s W (h.below HK hW)
  have hU := fun W (hW : Below w.heap.size w W) => unseal_duo K HK F B P S s W (h.below HK hW) (HK.less hr (by omega))
  have same : ∀ {w' : World}, Below w.heap.size w w' → Duo K w' (grow F w w') B P S ∧ Touch F w w' := fun hb => ⟨(h.below HK hb).mono (fun _ h => .inl h) fun k hk => by
    rcases hk with hk | hk
    · exact Nat.lt_of_lt_of_le (hlt k hk) hb.size
    · exact hk.2, Touch.of_below hb⟩
  unfold fmE fmP fmS
  cases hf : fmOk P s with
  | false =>
    have hf2 := hf
    unfold fmOk at hf2
    rw [hf2] at hI
    exact (format_bad (.pointer (some ⟨B, 0, none⟩)) K.v s.vol s.ep s.nx s.lv s.root w hI).mono fun e w' ⟨he, hb⟩ => ⟨he, (same hb).1, (same hb).2⟩
  | true =>
    have hf2 := hf
    unfold fmOk at hf2
    rw [hf2] at hI
    rw [if_pos rfl, if_pos rfl, if_pos rfl]
    by_cases he : s.err = 0
    case neg =>
      rw [if_neg he, if_neg he, if_neg he]
      exact (format_err (.pointer (some ⟨B, 0, none⟩)) K.v s.vol s.ep s.nx s.lv s.root s.err he w hI hU).mono fun e w' ⟨he, hb⟩ => ⟨he, (same hb).1, (same hb).2⟩
    rw [if_pos he, if_pos he, if_pos he]
    by_cases hs : supE s = 0
    case neg =>
      rw [if_neg hs, if_neg hs]
      rw [he] at hU
      have eE : sonE P s = supE s := by unfold sonE; rw [if_pos hup]
      have eS : sonS K P S s = supP K S s := by unfold sonS; rw [if_pos hup]
      refine (format_son (.pointer (some ⟨B, 0, none⟩)) K.v s.vol s.ep s.nx s.lv s.root (sonA P s) (supE s) (sonR K P S s) hs (fun W => Duo K W F B P (supP K S s) ∧ Touch F w W) w (duo_stb HK hlt) hI hU fun W hW => ?_).mono fun e w' ⟨a, b, c⟩ => ⟨a, b.mono (fun _ h => .inl h) fun k hk => by
        rcases hk with hk | hk
        · exact b.lt k hk
        · exact hk.2, c⟩
      have q := superOn_any K HK F B P S s W (h.below HK hW) hr
      rw [eE, eS] at q
      exact q.mono fun e W' ⟨a, b, c⟩ => ⟨a, ⟨b, (Touch.of_below hW).trans (c.mono fun _ h => .inl h)⟩, Nat.le_trans hW.size c.size⟩
    rw [if_pos hs, if_pos hs]
    have eE : sonE P s = 0 := by unfold sonE; rw [if_pos hup]; exact hs
    have eS : sonS K P S s = supP K S s := by unfold sonS; rw [if_pos hup]
    have q := format_in K HK F B P S s w (supA s) (supR K S s) h hr hw hg hF (of_decide_eq_true hf2) he eE (by unfold sonA; rw [if_pos hup]) (supA_01 s hs he) (by unfold sonR; rw [if_pos hup])
    rw [eS] at q
    exact q
end Go.Proofs.YtoopaigpjefonaaGreatDoor
