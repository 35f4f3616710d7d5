/- Blocks of cells: a part of one written anew; copy of a text's first bytes into one. · sum.finish, called with a mix of bytes, tells their sum, and changes nothing that was there. · sum's Mix.Feed: what was fed stands behind what the mix has; nothing else is changed. -/
import Derived.Test.YtdhiopbomnfmnaaGreatDoorMg15
import Derived.Lib.LazyBuf
import Derived.Lib.SliceRun
namespace Go.Proofs.YtdhiopbomnfmnaaGreatDoor.Sm
set_option maxRecDepth 20000
open Go.RowKit

theorem Row.lt {w : World} {g : Nat} {t : TypeId} {l : List Value} (h : Row w g t l) : g < w.heap.size := lt_of_block h
theorem Row.cell {w : World} {g : Nat} {t : TypeId} {l : List Value} (h : Row w g t l) (i : Nat) : w.cell? ⟨g, i, none⟩ = l[i]? := (cell_of_row _ _ _ _ _ _ h).trans (by simp)
theorem Row.frozen {w : World} {g : Nat} {t : TypeId} {l : List Value} (h : Row w g t l) (i : Nat) : w.frozen? ⟨g, i, none⟩ = false := by simp [World.frozen?, show w.heap[g]? = _ from h]
theorem Row.below {w w' : World} {g : Nat} {t : TypeId} {l : List Value} (h : Row w g t l) {B : Nat} (hb : Below B w w') (hg : g < B) : Row w' g t l := (hb.block _ hg).trans h
theorem Row.only {w w' : World} {g b : Nat} {t : TypeId} {l : List Value} (h : Row w g t l) (ho : Only b w w') (hg : g ≠ b) : Row w' g t l := (ho.2 _ h.lt hg).trans h
theorem Row.set {w : World} {g n : Nat} {t : TypeId} {A C : List Value} {q : Value} (h : Row w g t (A ++ [q] ++ C)) (v : Value) (hn : n = A.length) : Row (w.setCell ⟨g, n, none⟩ v) g t (A ++ [v] ++ C) := by
  have h1 := heap_setCell_same w g n _ t v h
  have h2 := set_mid A [] [] C v q n (by simpa using hn)
  simp only [List.append_nil, List.nil_append] at h2
  rw [h2] at h1
  exact h1
theorem Row.setCells {g : Nat} {t : TypeId} {C : List Value} : ∀ (vs B A : List Value) (w : World) (n : Nat), vs.length = B.length → n = A.length → Row w g t (A ++ B ++ C) → Row (w.setCells g n vs) g t (A ++ vs ++ C)
  | [], [], A, w, n, _, _, h => h
  | v :: vs, q :: B, A, w, n, hl, hn, h => by
    have h1 : Row w g t (A ++ [q] ++ (B ++ C)) := by simpa using h
    have h2 := h1.set v hn
    have h3 : Row (w.setCell ⟨g, n, none⟩ v) g t ((A ++ [v]) ++ B ++ C) := by simpa using h2
    have h4 := Row.setCells vs B (A ++ [v]) _ (n + 1) (by simpa using hl) (by simp [hn]) h3
    show Row ((w.setCell ⟨g, n, none⟩ v).setCells g (n + 1) vs) g t (A ++ (v :: vs) ++ C)
    rw [show A ++ (v :: vs) ++ C = (A ++ [v]) ++ vs ++ C by simp]
    exact h4
  | v :: vs, [], A, w, n, hl, _, _ => by simp at hl
  | [], q :: B, A, w, n, hl, _, _ => by simp at hl
theorem Only.setCells {b : Nat} {w : World} : ∀ (vs : List Value) (n : Nat) (w' : World), Only b w w' → Only b w (w'.setCells b n vs)
  | [], _, _, h => h
  | v :: vs, n, _, h => Only.setCells vs (n + 1) _ (h.setCell n v)

/-- copy of a text that is longer than there is room. -/
theorem run_copy_part {P : Program} (w : World) (dT sT ty elem : TypeId) (b o dLen dCap : Nat) (t : ByteArray)
    (hu : P.underlying dT = some (.slice elem)) (hz : ∀ w, (Go.sizeOf elem).run P w = .ok 1 w) (hle : dLen ≤ t.size)
    (hc : ∀ j, j < dLen → (w.cell? ⟨b, o + j, none⟩).isSome = true) (hf : ∀ j, j < dLen → w.frozen? ⟨b, o + j, none⟩ = false) :
    (Builtin.copy_ #[dT, sT] ty #[.slice (some ⟨b, o, none⟩) dLen dCap, .string t]).run P w = .ok (goInt dLen) (w.setCells b o ((t.data.toList.take dLen).map fun x => Value.int .u8 (x.toNat : Int))) := by
  have hmin : Nat.min t.size dLen = dLen := Nat.min_eq_right hle
  have hl : ((t.data.toList.take dLen).map fun x => Value.int .u8 (x.toNat : Int)).length = dLen := by
    rw [List.length_map, List.length_take, ← Lib.size_eq]; omega
  have hst := run_storeCells_cells (P := P) b o ((t.data.toList.take dLen).map fun x => Value.int .u8 (x.toNat : Int)) 0 w (by rw [hl]; simpa using hc) (by rw [hl]; simpa using hf) (by
    intro v hv
    obtain ⟨x, _, rfl⟩ := List.mem_map.1 hv
    rfl)
  simp [Builtin.copy_, run_underlying hu, Builtin.lenOf, Builtin.firstCells, hz, hmin]
  rw [← List.map_take, hst]
  rfl
end Go.Proofs.YtdhiopbomnfmnaaGreatDoor.Sm

namespace Go.Proofs.YtdhiopbomnfmnaaGreatDoor.Sm
set_option maxRecDepth 20000
open Go.RowKit

/-- A mix's cells. -/
def mixA (st : St) : List Value := [Value.bool true, .int .u32 (st.a : Nat), .int .u32 (st.b : Nat), .int .u32 (st.c : Nat), .int .u32 (st.d : Nat), .int .u32 (st.e : Nat), .int .u32 (st.f : Nat), .int .u32 (st.g : Nat), .int .u32 (st.h : Nat)]
def mixT (have_ size : Nat) : List Value := [Value.int .i64 (have_ : Nat), Value.int .i64 (size : Nat)]
def mixV (st : St) (rest : List Value) (have_ size : Nat) : List Value := mixA st ++ rest ++ mixT have_ size

theorem Cubes.below {w w' : World} (h : Cubes w) {B : Nat} (hb : Below B w w') (hB : 1 < B) : Cubes w' := ⟨Nat.lt_of_lt_of_le h.1 hb.size, fun i hi => (hb.cell (p := ⟨1, i, none⟩) hB).trans (h.2 i hi)⟩
theorem zero_u8 (w : World) : (zeroValue 5).run Tryz.prog w = .ok (.int .u8 0) w := (zero_of_info (n := 1) (by kernel_rfl)).1 w
theorem putHigh_z (g t o : Nat) (A B C : List Value) (ho : o = A.length) (L cap n : Nat) (z : Int) (hz : z = (n : Int)) (hL : L ≤ 8) (hB : B.length = L) (w : World) (hr : Row w g t (A ++ B ++ C)) :
    Calls Tryz.prog 51 #[.slice (some ⟨g, o, none⟩) L cap, .int .u64 z] w fun e w' => e = .returned (.tuple #[]) ∧ Row w' g t (A ++ beV L n ++ C) ∧ Only g w w' := by
  subst hz
  exact putHigh_at g t o A B C ho L cap n hL hB w hr
theorem size_cell (w : World) (g t : Nat) (A : List Value) (m h_ n : Nat) (hl : A.length = 65) (hr : Row w g t (A ++ beV 8 m ++ mixT h_ n)) : w.cell? ⟨g, 74, none⟩ = some (.int .i64 (n : Nat)) := by
  have h8 : (beV 8 m).length = 8 := by simp [beV]
  rw [hr.cell, List.getElem?_append_right (by rw [List.length_append, hl, h8]; decide), List.length_append, hl, h8]
  rfl
theorem beV8 (n : Nat) : beV 8 n = byV (be8 n) := by
  have h : ∀ a b, n / a / b = n / (a * b) := fun a b => Nat.div_div_eq_div_mul n a b
  simp [beV, byV, be8, be4, List.range, List.range.loop, h]
theorem byV_append (a b : List Nat) : byV (a ++ b) = byV a ++ byV b := by simp [byV]
theorem byV_zeros (n : Nat) : byV (List.replicate n 0) = List.replicate n (Value.int .u8 0) := by simp [byV]
theorem byV_get (b : List Nat) (i : Nat) (h : i < b.length) : (byV b)[i]? = some (.int .u8 (b.getD i 0 : Nat)) := by
  rw [byV, List.getElem?_map, List.getElem?_eq_getElem h, getD_at _ _ h]
  rfl

set_option maxRecDepth 10000 in
set_option maxHeartbeats 1000000 in
theorem finish_small (st : St) (hok : st.ok) (d : List Nat) (hb : Bytes d) (h_ n : Nat) (hl : d.length = h_) (hh : h_ < 56) (r0 : Value) (R : List Value) (hR : R.length = 63 - h_) (hs : n < 1099511627776) (w : World) (hq : Cubes w) :
    Calls Tryz.prog 66 #[.agg (mixV st (byV d ++ r0 :: R) h_ n).toArray] w fun e w' => e = .returned (.agg (byV (outL (comp st (d ++ 128 :: (List.replicate (55 - h_) 0 ++ be8 (8 * n)))))).toArray) ∧ Below w.heap.size w w' := by
  have hbl : (byV d).length = h_ := by simp [byV, hl]
  obtain ⟨cs, hcs⟩ : ∃ cs, cs = mixV st (byV d ++ r0 :: R) h_ n := ⟨_, rfl⟩
  have hr0 : Row ((w.alloc (.cells cs.toArray 69)).alloc (.cells #[.int .u8 0, .int .u8 0, .int .u8 0, .int .u8 0, .int .u8 0, .int .u8 0, .int .u8 0, .int .u8 0, .int .u8 0, .int .u8 0, .int .u8 0, .int .u8 0, .int .u8 0, .int .u8 0, .int .u8 0, .int .u8 0, .int .u8 0, .int .u8 0, .int .u8 0, .int .u8 0, .int .u8 0, .int .u8 0, .int .u8 0, .int .u8 0, .int .u8 0, .int .u8 0, .int .u8 0, .int .u8 0, .int .u8 0, .int .u8 0, .int .u8 0, .int .u8 0] 75)) w.heap.size 69 (mixA st ++ byV d ++ [r0] ++ (R ++ mixT h_ n)) := by
    have := heap_alloc2_old w (.cells cs.toArray 69) (.cells #[.int .u8 0, .int .u8 0, .int .u8 0, .int .u8 0, .int .u8 0, .int .u8 0, .int .u8 0, .int .u8 0, .int .u8 0, .int .u8 0, .int .u8 0, .int .u8 0, .int .u8 0, .int .u8 0, .int .u8 0, .int .u8 0, .int .u8 0, .int .u8 0, .int .u8 0, .int .u8 0, .int .u8 0, .int .u8 0, .int .u8 0, .int .u8 0, .int .u8 0, .int .u8 0, .int .u8 0, .int .u8 0, .int .u8 0, .int .u8 0, .int .u8 0, .int .u8 0] 75)
    rw [Row, this, hcs]
    simp [mixV]
  have hz0 : Row ((w.alloc (.cells cs.toArray 69)).alloc (.cells #[.int .u8 0, .int .u8 0, .int .u8 0, .int .u8 0, .int .u8 0, .int .u8 0, .int .u8 0, .int .u8 0, .int .u8 0, .int .u8 0, .int .u8 0, .int .u8 0, .int .u8 0, .int .u8 0, .int .u8 0, .int .u8 0, .int .u8 0, .int .u8 0, .int .u8 0, .int .u8 0, .int .u8 0, .int .u8 0, .int .u8 0, .int .u8 0, .int .u8 0, .int .u8 0, .int .u8 0, .int .u8 0, .int .u8 0, .int .u8 0, .int .u8 0, .int .u8 0] 75)) (w.heap.size + 1) 75 (digV []) := heap_alloc2_new w _ _
  have hb0 : Below w.heap.size w ((w.alloc (.cells cs.toArray 69)).alloc (.cells #[.int .u8 0, .int .u8 0, .int .u8 0, .int .u8 0, .int .u8 0, .int .u8 0, .int .u8 0, .int .u8 0, .int .u8 0, .int .u8 0, .int .u8 0, .int .u8 0, .int .u8 0, .int .u8 0, .int .u8 0, .int .u8 0, .int .u8 0, .int .u8 0, .int .u8 0, .int .u8 0, .int .u8 0, .int .u8 0, .int .u8 0, .int .u8 0, .int .u8 0, .int .u8 0, .int .u8 0, .int .u8 0, .int .u8 0, .int .u8 0, .int .u8 0, .int .u8 0] 75)) := ((Below.refl _ _).alloc (Nat.le_refl _) _).alloc (by simp) _
  obtain ⟨w0, hw0⟩ : ∃ w0, (w.alloc (.cells cs.toArray 69)).alloc (.cells #[.int .u8 0, .int .u8 0, .int .u8 0, .int .u8 0, .int .u8 0, .int .u8 0, .int .u8 0, .int .u8 0, .int .u8 0, .int .u8 0, .int .u8 0, .int .u8 0, .int .u8 0, .int .u8 0, .int .u8 0, .int .u8 0, .int .u8 0, .int .u8 0, .int .u8 0, .int .u8 0, .int .u8 0, .int .u8 0, .int .u8 0, .int .u8 0, .int .u8 0, .int .u8 0, .int .u8 0, .int .u8 0, .int .u8 0, .int .u8 0, .int .u8 0, .int .u8 0] 75) = w0 := ⟨_, rfl⟩
  rw [hw0] at hr0 hz0 hb0
  have c1 : w0.cell? ⟨w.heap.size, 73, none⟩ = some (.int .i64 (h_ : Nat)) := by
    rw [hr0.cell]
    have : (mixA st ++ byV d ++ [r0] ++ R).length = 73 := by simp [mixA, hbl]; omega
    rw [← List.append_assoc, List.getElem?_append_right (by omega), this]
    rfl
  have c2 : w0.cell? ⟨w.heap.size, 9 + h_, none⟩ = some r0 := by
    rw [hr0.cell]
    have : (mixA st ++ byV d).length = 9 + h_ := by simp [mixA, hbl]; omega
    rw [List.append_assoc _ [r0], List.getElem?_append_right (by omega), this, Nat.sub_self]
    rfl
  have c3 : ∀ i, w0.frozen? ⟨w.heap.size, i, none⟩ = false := fun i => hr0.frozen i
  have hr1 : Row (w0.setCell ⟨w.heap.size, 9 + h_, none⟩ (.int .u8 128)) w.heap.size 69 (mixA st ++ byV d ++ [.int .u8 128] ++ (R ++ mixT h_ n)) := hr0.set _ (by simp [mixA, hbl]; omega)
  have hz1 : Row (w0.setCell ⟨w.heap.size, 9 + h_, none⟩ (.int .u8 128)) (w.heap.size + 1) 75 (digV []) := (Below.heap_setCell _ _ _ _ (by simp)).trans hz0
  have hb1 := hb0.setCell (p := ⟨w.heap.size, 9 + h_, none⟩) (Nat.le_refl _) (.int .u8 128)
  obtain ⟨w1, hw1⟩ : ∃ w1, w0.setCell ⟨w.heap.size, 9 + h_, none⟩ (.int .u8 128) = w1 := ⟨_, rfl⟩
  rw [hw1] at hr1 hz1 hb1
  have c4 : w1.cell? ⟨w.heap.size, 73, none⟩ = some (.int .i64 (h_ : Nat)) := by
    rw [hr1.cell]
    have : (mixA st ++ byV d ++ [Value.int .u8 128] ++ R).length = 73 := by simp [mixA, hbl]; omega
    rw [← List.append_assoc, List.getElem?_append_right (by omega), this]
    rfl
  clear hr0 hz0 hb0
  have i1 : (h_ : Int) < 64 := by omega
  have i2 : IntKind.i64.wrap ((h_ : Int) + 1) = h_ + 1 := by rw [IntKind.wrap_i64]; omega
  have i3 : (0 : Int) ≤ (h_ : Int) + 1 := by omega
  have i4 : (h_ : Int) + 1 ≤ 64 := by omega
  have i5 : ((h_ : Int) + 1).toNat = h_ + 1 := by omega
  have i6 : ¬ 64 = h_ + 1 := by omega
  have hclr := Lib.run_clear_slice (P := Tryz.prog) w1 55 5 0 (.int .u8 0) Tryz.underlying55 zero_u8 rfl rfl w.heap.size (9 + (h_ + 1)) (63 - h_) (63 - h_) (by omega) (fun j hj => by
    rw [hr1.cell, List.getElem?_eq_getElem (by simp [mixA, mixT, hbl]; omega)]; rfl) (fun j _ => hr1.frozen _)
  have hr2 : Row (w1.setCells w.heap.size (9 + (h_ + 1)) (List.replicate (63 - h_) (.int .u8 0))) w.heap.size 69 ((mixA st ++ byV d ++ [.int .u8 128]) ++ List.replicate (63 - h_) (.int .u8 0) ++ mixT h_ n) := Row.setCells _ R _ _ _ (by simp [hR]) (by simp [mixA, hbl]; omega) (by simpa using hr1)
  have ho2 : Only w.heap.size w1 (w1.setCells w.heap.size (9 + (h_ + 1)) (List.replicate (63 - h_) (.int .u8 0))) := Only.setCells _ _ _ (Only.refl _ _)
  obtain ⟨w2, hw2⟩ : ∃ w2, w1.setCells w.heap.size (9 + (h_ + 1)) (List.replicate (63 - h_) (.int .u8 0)) = w2 := ⟨_, rfl⟩
  rw [hw2] at hclr hr2 ho2
  have hz2 := hz1.only ho2 (by omega)
  have hlt1 := hr1.lt
  have hb2 := hb1.trans ((ho2.below (by omega)))
  clear hw2 hr1 hz1 hb1 ho2
  have hr2' : Row w2 w.heap.size 69 ((mixA st ++ byV d ++ [.int .u8 128] ++ List.replicate (55 - h_) (.int .u8 0)) ++ List.replicate 8 (.int .u8 0) ++ mixT h_ n) := by
    have e : List.replicate (63 - h_) (Value.int .u8 0) = List.replicate (55 - h_) (Value.int .u8 0) ++ List.replicate 8 (Value.int .u8 0) := by
      rw [List.replicate_append_replicate]; congr 1; omega
    rw [e] at hr2
    simpa using hr2
  have hl65 : (mixA st ++ byV d ++ [Value.int .u8 128] ++ List.replicate (55 - h_) (Value.int .u8 0)).length = 65 := by simp [mixA, hbl]; omega
  have c5 : w2.cell? ⟨w.heap.size, 73, none⟩ = some (.int .i64 (h_ : Nat)) := by
    rw [hr2'.cell, List.getElem?_append_right (by rw [List.length_append, hl65]; simp), List.length_append, hl65]
    rfl
  have c6 : w2.cell? ⟨w.heap.size, 74, none⟩ = some (.int .i64 (n : Nat)) := by
    rw [hr2'.cell, List.getElem?_append_right (by rw [List.length_append, hl65]; simp), List.length_append, hl65]
    rfl
  have ib : decide ((56 : Int) ≤ (h_ : Int)) = false := decide_eq_false (by omega)
  have j1 : IntKind.u64.wrap (n : Int) = n := by rw [IntKind.wrap_u64]; omega
  have j2 : IntKind.u64.wrap (8 * (n : Int)) = 8 * n := by rw [IntKind.wrap_u64]; omega
  have HR : Hid (Row w2 w.heap.size 69 ((mixA st ++ byV d ++ [.int .u8 128] ++ List.replicate (55 - h_) (.int .u8 0)) ++ List.replicate 8 (.int .u8 0) ++ mixT h_ n)) := hr2'
  have HZ : Hid (Row w2 (w.heap.size + 1) 75 (digV []) ∧ Below w.heap.size w w2) := ⟨hz2, hb2⟩
  rw [← hcs]
  clear hcs hr2 hr2' hz2 hb2
  go_enter Tryz.func66, Tryz.ntmps66
  go_wp2_with fail
  go_region_held3 (fun w' => w'.cell? ⟨w.heap.size, 74, none⟩ = some (.int .i64 (n : Nat))) (simp [go_sem, *]) (first | (go_at_call 51; refine (putHigh_z w.heap.size 69 65 _ _ _ hl65.symm 8 8 (8 * n) (8 * (n : Int)) (by omega) (by decide) List.length_replicate w2.drew HR.out).mono ?_; rintro e w3 ⟨rfl, hr3, ho3⟩; have c7 := size_cell w3 _ _ _ _ h_ n hl65 hr3))
  obtain ⟨b, hbd⟩ : ∃ b, b = d ++ 128 :: (List.replicate (55 - h_) 0 ++ be8 (8 * n)) := ⟨_, rfl⟩
  have hr3' : Row w3 w.heap.size 69 (mixA st ++ byV b ++ mixT h_ n) := by
    have e : byV b = byV d ++ [Value.int .u8 128] ++ List.replicate (55 - h_) (Value.int .u8 0) ++ beV 8 (8 * n) := by
      rw [hbd, byV_append, beV8, ← byV_zeros]
      simp [byV]
    rw [e]
    simpa using hr3
  have hbb : Bytes b := by rw [hbd]; exact hb.append (Bytes.cons (by decide) ((Bytes.zeros _).append (be8_bytes _)))
  have hbl64 : b.length = 64 := by rw [hbd]; simp [be8_length, hl]; omega
  have HBD : Hid (b = d ++ 128 :: (List.replicate (55 - h_) 0 ++ be8 (8 * n))) := hbd
  have e1 : w3.cell? ⟨w.heap.size, 1, none⟩ = some (.int .u32 (st.a : Nat)) := hr3'.cell 1
  have e2 : w3.cell? ⟨w.heap.size, 2, none⟩ = some (.int .u32 (st.b : Nat)) := hr3'.cell 2
  have e3 : w3.cell? ⟨w.heap.size, 3, none⟩ = some (.int .u32 (st.c : Nat)) := hr3'.cell 3
  have e4 : w3.cell? ⟨w.heap.size, 4, none⟩ = some (.int .u32 (st.d : Nat)) := hr3'.cell 4
  have e5 : w3.cell? ⟨w.heap.size, 5, none⟩ = some (.int .u32 (st.e : Nat)) := hr3'.cell 5
  have e6 : w3.cell? ⟨w.heap.size, 6, none⟩ = some (.int .u32 (st.f : Nat)) := hr3'.cell 6
  have e7 : w3.cell? ⟨w.heap.size, 7, none⟩ = some (.int .u32 (st.g : Nat)) := hr3'.cell 7
  have e8 : w3.cell? ⟨w.heap.size, 8, none⟩ = some (.int .u32 (st.h : Nat)) := hr3'.cell 8
  have HC : Hid (∀ i, i < 64 → w3.cell? ⟨w.heap.size, 9 + i, none⟩ = some (.int .u8 (b.getD i 0 : Nat))) := fun i hi => by
    rw [hr3'.cell, List.append_assoc, List.getElem?_append_right (by simp [mixA]), show 9 + i - (mixA st).length = i by simp [mixA], List.getElem?_append_left (by simp [byV, hbl64]; omega), byV_get b i (by omega)]
  have hz3 : Row w3 (w.heap.size + 1) 75 (digV []) := Row.only (w := w2.drew) HZ.out.1 ho3 (by omega)
  have hb3 : Below w.heap.size w w3 := HZ.out.2.drew.trans (ho3.below (Nat.le_of_lt HR.out.lt))
  have hq3 := hq.below hb3 hq.1
  have hlt3 := hr3'.lt
  have HS3 : Hid (Cubes w3 ∧ w.heap.size < w3.heap.size) := ⟨hq3, hlt3⟩
  clear hr3 ho3 hr3' hbd c7 hq3 hlt3 hl65 HR HZ
  go_wp2_with fail
  refine (with_any st hok b hbb w.heap.size 9 w3 HS3.out.1 HS3.out.2 HC.out).mono ?_
  rintro e w4 ⟨rfl, hb4⟩
  have hz4 := hz3.below hb4 hz3.lt
  have hb4' := hb3.trans (hb4.mono hb3.size)
  clear hz3 hb3 hb4 e1 e2 e3 e4 e5 e6 e7 e8 HC
  go_wp2_with fail
  refine (bytes_any (comp st b) (comp_ok _ _) w4).mono ?_
  rintro e w5 ⟨rfl, hb5⟩
  have hz5 : w5.heap[w.heap.size + 1]? = some (.cells (digV []).toArray 75 (0, 0)) := hz4.below hb5 hz4.lt
  have hb5' := hb4'.trans (hb5.mono hb4'.size)
  clear hz4 hb4' hb5
  obtain ⟨ds, hds⟩ : ∃ ds, ds = (byV (outL (comp st b))).toArray := ⟨_, rfl⟩
  have hsz : ds.size = 32 := by rw [hds]; simp [byV, outL_length]
  have hone : ds.all (·.oneCell') = true := by rw [hds]; simp [byV, Value.oneCell']
  have HDS : Hid (ds = (byV (outL (comp st b))).toArray) := hds
  rw [← hds]
  clear hds
  have hs0 : (digV []).toArray.size = ds.size := by rw [hsz]; rfl
  have hinfo : (Tryz.prog.info? 75).map (·.size) = some ds.size := by rw [hsz]; kernel_rfl
  have hba := below_rowH hb5' (show w.heap.size ≤ w.heap.size + 1 by omega) ds
  have hl0 := run_loadVar_row (P := Tryz.prog) (w5.setRow (w.heap.size + 1) ds) (w.heap.size + 1) 75 75 ds (0, 0) _ (setRow_heap _ _ _ _ _ _ hz5) Tryz.underlying75 rfl hinfo
  go_wp2_with (refine wpList_store_row rfl 75 _ _ rfl (w.heap.size + 1) ds rfl rfl 75 _ hz5 hinfo hs0 hone ?_)
  exact bodyPost_ret (v := .agg ds) (by simp [results, Tryz.results66, asAddr, Act.put, hl0]) rfl ⟨by rw [HDS.out, HBD.out], hba⟩
end Go.Proofs.YtdhiopbomnfmnaaGreatDoor.Sm

namespace Go.Proofs.YtdhiopbomnfmnaaGreatDoor.Sm
set_option maxRecDepth 20000
open Go.RowKit

/-- A text's bytes as numbers. -/
def numsOf (s : ByteArray) : List Nat := s.data.toList.map (·.toNat)
theorem numsOf_length (s : ByteArray) : (numsOf s).length = s.size := by simp [numsOf]
theorem numsOf_bytes (s : ByteArray) : Bytes (numsOf s) := fun x hx => by
  obtain ⟨y, _, rfl⟩ := List.mem_map.1 hx
  exact y.toNat_lt
def strSize : Value → Nat
  | .string t => t.size
  | _ => 0
/-- The mix in block B has the bytes l; its count says n. -/
def MixAt (w : World) (B : Nat) (l : List Nat) (n : Nat) : Prop := ∃ R : List Value, R.length = 64 - l.length % 64 ∧ Row w B 69 (mixV (absorb l (l.length / 64)) (byV (l.drop (64 * (l.length / 64))) ++ R) (l.length % 64) n)

theorem size_u8 (w : World) : (Go.sizeOf 5).run Tryz.prog w = .ok 1 w := by
  obtain ⟨i0, hi, hz0, hz1, hz2⟩ := info_parts (show (Tryz.prog.info? 5).map (fun i => (i.zero, i.size, i.bytes)) = some (some (.int .u8 0), 1, 1) by kernel_rfl)
  simp [Go.sizeOf, typeInfo, hi, hz1]
theorem numsOf_extract (s : ByteArray) (p q : Nat) : numsOf (s.extract p q) = ((numsOf s).drop p).take (q - p) := by
  rw [numsOf, Lib.extract_data, List.map_take, List.map_drop]
  rfl
theorem mix_len (l : List Nat) (R : List Value) (hR : R.length = 64 - l.length % 64) : (mixA (absorb l (l.length / 64)) ++ (byV (l.drop (64 * (l.length / 64))) ++ R)).length = 73 := by
  simp [mixA, byV, hR]; omega

theorem mixAt_part (w : World) (B : Nat) (l1 un : List Nat) (R : List Value) (h_ k N : Nat) (z : Int) (hz : z = ((h_ + k : Nat) : Int)) (hh : h_ = l1.length % 64) (hk : un.length = k) (hlt : h_ + k < 64) (hR : R.length = 64 - (h_ + k))
    (hr : Row w B 69 ((mixA (absorb l1 (l1.length / 64)) ++ byV (l1.drop (64 * (l1.length / 64))) ++ byV un ++ R) ++ [.int .i64 z] ++ [.int .i64 (N : Nat)])) : MixAt w B (l1 ++ un) N := by
  have e1 : (l1 ++ un).length / 64 = l1.length / 64 := by rw [List.length_append]; omega
  have e2 : (l1 ++ un).length % 64 = h_ + k := by rw [List.length_append]; omega
  refine ⟨R, by rw [e2]; exact hR, ?_⟩
  rw [e1, e2, absorb_append _ _ _ (by omega), List.drop_append_of_le_length (by omega), byV_append, mixV, mixT, ← hz]
  simpa using hr
set_option maxRecDepth 10000 in
set_option maxHeartbeats 1000000 in
theorem feed_short (B : Nat) (l : List Nat) (s : ByteArray) (hf : l.length % 64 + s.size < 64) (hs : l.length + s.size < 1099511627776) (w : World) (hm : MixAt w B l l.length) :
    Calls Tryz.prog 50 #[.pointer (some ⟨B, 0, none⟩), .string s] w fun e w' => e = .returned (.tuple #[]) ∧ MixAt w' B (l ++ numsOf s) (l ++ numsOf s).length ∧ Only B w w' := by
  have HF0 : Hid (l.length % 64 + s.size < 64) := hf
  clear hf
  obtain ⟨R, hR, hr⟩ := hm
  have hlm : (mixA (absorb l (l.length / 64)) ++ (byV (l.drop (64 * (l.length / 64))) ++ R)).length = 73 := by simp [mixA, byV, hR]; omega
  have c0 : w.cell? ⟨B, 0, none⟩ = some (.bool true) := hr.cell 0
  have c1 : w.cell? ⟨B, 74, none⟩ = some (.int .i64 (l.length : Nat)) := by
    rw [hr.cell, mixV, List.getElem?_append_right (by rw [hlm]; decide), hlm]; rfl
  have c2 : ∀ i, w.frozen? ⟨B, i, none⟩ = false := fun i => hr.frozen i
  have j1 : IntKind.i64.wrap ((l.length : Int) + (s.size : Int)) = l.length + s.size := by rw [IntKind.wrap_i64]; omega
  go_enter Tryz.func50, Tryz.ntmps50
  go_wp2_with fail
  obtain ⟨W1, hW1⟩ : ∃ W1, w.setCell ⟨B, 74, none⟩ (.int .i64 ((l.length : Int) + (s.size : Int))) = W1 := ⟨_, rfl⟩
  have hm1 : MixAt W1 B l (l ++ numsOf s).length := by
    refine ⟨R, hR, ?_⟩
    rw [← hW1]
    have h1 : Row w B 69 ((mixA (absorb l (l.length / 64)) ++ (byV (l.drop (64 * (l.length / 64))) ++ R) ++ [.int .i64 ((l.length % 64 : Nat) : Int)]) ++ [.int .i64 (l.length : Nat)] ++ []) := by simpa [mixV, mixT] using hr
    have h2 := h1.set (n := 74) (.int .i64 ((l.length : Int) + (s.size : Int))) (by rw [List.length_append, hlm]; rfl)
    have h3 : ((l ++ numsOf s).length : Int) = (l.length : Int) + (s.size : Int) := by rw [List.length_append, numsOf_length]; omega
    rw [mixV, mixT, h3]
    simpa using h2
  have ho1 : Only B w W1 := by rw [← hW1]; exact (Only.refl _ _).setCell _ _
  rw [hW1]
  clear c0 c1 c2 hlm hR hr hW1
  go_loopw [1] (fun v wr => ∃ p : Nat, p ≤ s.size ∧ v = .string (s.extract p s.size) ∧ MixAt wr B (l ++ (numsOf s).take p) (l ++ numsOf s).length ∧ Only B w wr) (fun v _ => strSize v)
  case atStart => exact ⟨0, Nat.zero_le _, by simp, by simpa using hm1, ho1⟩
  case round =>
    clear hm1 ho1
    obtain ⟨p, hp, rfl, hm1, ho1⟩ := hrel
    by_cases hlt : p < s.size
    case neg =>
      obtain rfl : p = s.size := by omega
      have hx : (s.extract s.size s.size).size = 0 := by simp
      obtain ⟨u, hu⟩ : ∃ u, u = s.extract s.size s.size := ⟨_, rfl⟩
      rw [← hu] at hx
      rw [← hu]
      clear hu
      go_wp2
      go_end0
      rw [List.take_of_length_le (by rw [numsOf_length]; exact Nat.le_refl _)] at hm1
      exact ⟨rfl, hm1, ho1⟩
    obtain ⟨l1, hl1⟩ : ∃ l1, l1 = l ++ (numsOf s).take p := ⟨_, rfl⟩
    obtain ⟨N, hN⟩ : ∃ N, N = (l ++ numsOf s).length := ⟨_, rfl⟩
    rw [← hl1, ← hN] at hm1
    obtain ⟨R, hR, hr⟩ := hm1
    obtain ⟨h_, hh⟩ : ∃ h_, h_ = l1.length % 64 := ⟨_, rfl⟩
    have hh64 : h_ < 64 := by omega
    have hlm := mix_len l1 R hR
    have hdl : (byV (l1.drop (64 * (l1.length / 64)))).length = h_ := by simp [byV]; omega
    rw [← hh] at hr hR
    obtain ⟨u, hu⟩ : ∃ u, u = s.extract p s.size := ⟨_, rfl⟩
    have hus : u.size = s.size - p := by rw [hu]; simp
    have hun : numsOf u = (numsOf s).drop p := by
      rw [hu, numsOf_extract, List.take_of_length_le (by rw [List.length_drop, numsOf_length]; omega)]
    have c1 : wr.cell? ⟨B, 73, none⟩ = some (.int .i64 (h_ : Nat)) := by
      rw [hr.cell, mixV, List.getElem?_append_right (by rw [hlm]; decide), hlm]; rfl
    have i0 : (0 : Int) < (u.size : Int) := by omega
    have i1 : (0 : Int) ≤ (h_ : Int) := by omega
    have i2 : (h_ : Int) ≤ 64 := by omega
    have i3 : ¬ 64 = h_ := by omega
    obtain ⟨D, hD⟩ : ∃ D, D = l1.drop (64 * (l1.length / 64)) := ⟨_, rfl⟩
    obtain ⟨st, hst⟩ : ∃ st, st = absorb l1 (l1.length / 64) := ⟨_, rfl⟩
    rw [← hD, ← hst] at hr
    rw [← hD] at hdl
    have hul : (byV (numsOf u)).length = u.size := by simp [byV, numsOf_length]
    rw [← hu]
    have HH : Hid (l1 = l ++ (numsOf s).take p ∧ N = (l ++ numsOf s).length ∧ h_ = l1.length % 64 ∧ u = s.extract p s.size ∧ u.size = s.size - p ∧ numsOf u = (numsOf s).drop p ∧ D = l1.drop (64 * (l1.length / 64)) ∧ st = absorb l1 (l1.length / 64)) := ⟨hl1, hN, hh, hu, hus, hun, hD, hst⟩
    clear hlm hl1 hN hh hu hus hun hD hst hp hs
    by_cases hroom : u.size < 64 - h_
    · have hcells : ∀ j, j < u.size → (wr.drew.cell? ⟨B, 9 + h_ + j, none⟩).isSome = true := fun j hj => by
        show (wr.cell? ⟨B, 9 + h_ + j, none⟩).isSome = true
        rw [hr.cell, List.getElem?_eq_getElem (by simp [mixV, mixA, mixT, hdl, hR]; omega)]; rfl
      have hcp := run_copy_string (P := Tryz.prog) wr.drew 55 9 3 5 B (9 + h_) (64 - h_) (64 - h_) u Tryz.underlying55 size_u8 (by omega) hcells (fun j _ => hr.frozen _)
      have hv : (u.data.toList.map fun x => Value.int .u8 (x.toNat : Int)) = byV (numsOf u) := by simp [byV, numsOf]
      rw [hv] at hcp
      have hr2 : Row (wr.drew.setCells B (9 + h_) (byV (numsOf u))) B 69 ((mixA st ++ byV D) ++ byV (numsOf u) ++ (R.drop u.size ++ mixT h_ N)) := Row.setCells _ (R.take u.size) _ _ _ (by rw [hul, List.length_take, hR]; omega) (by simp [mixA, hdl]; omega) (by
        have e : mixV st (byV D ++ (R.take u.size ++ R.drop u.size)) h_ N = (mixA st ++ byV D) ++ R.take u.size ++ (R.drop u.size ++ mixT h_ N) := by simp only [mixV, List.append_assoc]
        rw [← e, List.take_append_drop]
        exact hr)
      have ho2 : Only B w (wr.drew.setCells B (9 + h_) (byV (numsOf u))) := Only.setCells _ _ _ ho1.drew
      obtain ⟨w2, hw2⟩ : ∃ w2, wr.drew.setCells B (9 + h_) (byV (numsOf u)) = w2 := ⟨_, rfl⟩
      rw [hw2] at hcp hr2 ho2
      have hl73 : (mixA st ++ byV D ++ byV (numsOf u) ++ R.drop u.size).length = 73 := by simp [mixA, hdl, hul, hR]; omega
      have c2 : w2.cell? ⟨B, 73, none⟩ = some (.int .i64 (h_ : Nat)) := by
        rw [hr2.cell, ← List.append_assoc, List.getElem?_append_right (by rw [hl73]; decide), hl73]; rfl
      have c3 : ∀ i, w2.frozen? ⟨B, i, none⟩ = false := fun i => hr2.frozen i
      have j2 : IntKind.i64.wrap ((h_ : Int) + (u.size : Int)) = h_ + u.size := by rw [IntKind.wrap_i64]; omega
      have hr3 : Row (w2.setCell ⟨B, 73, none⟩ (.int .i64 ((h_ : Int) + (u.size : Int)))) B 69 ((mixA st ++ byV D ++ byV (numsOf u) ++ R.drop u.size) ++ [.int .i64 ((h_ : Int) + (u.size : Int))] ++ [.int .i64 (N : Nat)]) := Row.set (q := .int .i64 (h_ : Nat)) (by simpa [mixT] using hr2) _ hl73.symm
      have ho3 := ho2.setCell 73 (.int .i64 ((h_ : Int) + (u.size : Int)))
      obtain ⟨w3, hw3⟩ : ∃ w3, w2.setCell ⟨B, 73, none⟩ (.int .i64 ((h_ : Int) + (u.size : Int))) = w3 := ⟨_, rfl⟩
      rw [hw3] at hr3 ho3
      have c4 : w3.cell? ⟨B, 73, none⟩ = some (.int .i64 ((h_ : Int) + (u.size : Int))) := by
        rw [hr3.cell, List.append_assoc, List.getElem?_append_right (by rw [hl73]; decide), hl73]; rfl
      have ib : (((h_ : Int) + (u.size : Int)) == 64) = false := by simp; omega
      have k1 : (u.size : Int) ≤ u.size := by omega
      have HF : Hid (MixAt w3 B (l ++ (numsOf s).take s.size) N ∧ Only B w w3) := by
        obtain ⟨hl1, hN, hh, hu, hus, hun, hD, hst⟩ := HH.out
        have e : l ++ (numsOf s).take s.size = l1 ++ numsOf u := by
          rw [hl1, hun, List.append_assoc, List.take_append_drop, List.take_of_length_le (by rw [numsOf_length]; exact Nat.le_refl _)]
        rw [e]
        refine ⟨mixAt_part w3 B l1 (numsOf u) (R.drop u.size) h_ u.size N _ ?_ hh (numsOf_length u) (by omega) (by rw [List.length_drop, hR]; omega) (by rw [← hst, ← hD]; exact hr3), ho3⟩
        omega
      clear hr hr2 hr3 ho1 ho2 ho3 hcells hv
      go_wp2_with fail
      go_region_held3 (fun w' => w'.cell? ⟨B, 73, none⟩ = some (.int .i64 (h_ : Nat))) (simp [go_sem, *]) (fail)
      go_wp2_with fail
      refine ⟨⟨s.size, Nat.le_refl _, by simp, ?_, HF.out.2⟩, by simp [strSize]; omega⟩
      have := HF.out.1
      rw [HH.out.2.1] at this
      exact this
    · exfalso
      obtain ⟨hl1, hN, hh, hu, hus, hun, hD, hst⟩ := HH.out
      have h1 : l1.length = l.length + p := by rw [hl1, List.length_append, List.length_take, numsOf_length]; omega
      have h2 := HF0.out
      omega
end Go.Proofs.YtdhiopbomnfmnaaGreatDoor.Sm
