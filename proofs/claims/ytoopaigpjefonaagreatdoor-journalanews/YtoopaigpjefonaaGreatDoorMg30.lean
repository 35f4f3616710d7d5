/- sum.finish, where the last block has no room for the count: two more blocks. · sum.finish, where the mix has 63 bytes of a block. -/
import Derived.Test.YtoopaigpjefonaaGreatDoorMg29
namespace Go.Proofs.YtoopaigpjefonaaGreatDoor.Sm
set_option maxRecDepth 20000
open Go.RowKit

theorem store_mid (w : World) (g t n : Nat) (A M C vs : List Value) (hr : Row w g t (A ++ M ++ C)) (hn : n = A.length) (hl : vs.length = M.length) (h1 : ∀ v ∈ vs, v.oneCell' = true) :
    ((storeCells ⟨g, n, none⟩ vs).run Tryz.prog w = .ok () (w.setCells g n vs)) ∧ Row (w.setCells g n vs) g t (A ++ vs ++ C) ∧ Only g w (w.setCells g n vs) := by
  refine ⟨run_storeCells_cells (P := Tryz.prog) g n vs 0 w (fun j hj => ?_) (fun j _ => hr.frozen _) h1, Row.setCells vs M A w n hl hn hr, Only.setCells _ _ _ (Only.refl _ _)⟩
  rw [hr.cell, List.getElem?_eq_getElem (by simp; omega)]; rfl

set_option maxRecDepth 10000 in
set_option maxHeartbeats 1000000 in
theorem finish_large (st : St) (hok : st.ok) (d : List Nat) (hb : Bytes d) (h_ n : Nat) (hl : d.length = h_) (hh1 : 56 ≤ h_) (hh : h_ < 63) (r0 : Value) (R : List Value) (hR : R.length = 63 - h_) (hs : n < 1099511627776) (w : World) (hq : Cubes w) :
    Calls Tryz.prog 157 #[.agg (mixV st (byV d ++ r0 :: R) h_ n).toArray] w fun e w' => e = .returned (.agg (byV (outL (comp (comp st (d ++ 128 :: List.replicate (63 - h_) 0)) (List.replicate 56 0 ++ be8 (8 * n))))).toArray) ∧ Below w.heap.size w w' := by
  have hbl : (byV d).length = h_ := by simp [byV, hl]
  obtain ⟨cs, hcs⟩ : ∃ cs, cs = mixV st (byV d ++ r0 :: R) h_ n := ⟨_, rfl⟩
  have hr0 : Row ((w.alloc (.cells cs.toArray 166)).alloc (.cells #[.int .u8 0, .int .u8 0, .int .u8 0, .int .u8 0, .int .u8 0, .int .u8 0, .int .u8 0, .int .u8 0, .int .u8 0, .int .u8 0, .int .u8 0, .int .u8 0, .int .u8 0, .int .u8 0, .int .u8 0, .int .u8 0, .int .u8 0, .int .u8 0, .int .u8 0, .int .u8 0, .int .u8 0, .int .u8 0, .int .u8 0, .int .u8 0, .int .u8 0, .int .u8 0, .int .u8 0, .int .u8 0, .int .u8 0, .int .u8 0, .int .u8 0, .int .u8 0] 172)) w.heap.size 166 (mixA st ++ byV d ++ [r0] ++ (R ++ mixT h_ n)) := by
    have := heap_alloc2_old w (.cells cs.toArray 166) (.cells #[.int .u8 0, .int .u8 0, .int .u8 0, .int .u8 0, .int .u8 0, .int .u8 0, .int .u8 0, .int .u8 0, .int .u8 0, .int .u8 0, .int .u8 0, .int .u8 0, .int .u8 0, .int .u8 0, .int .u8 0, .int .u8 0, .int .u8 0, .int .u8 0, .int .u8 0, .int .u8 0, .int .u8 0, .int .u8 0, .int .u8 0, .int .u8 0, .int .u8 0, .int .u8 0, .int .u8 0, .int .u8 0, .int .u8 0, .int .u8 0, .int .u8 0, .int .u8 0] 172)
    rw [Row, this, hcs]
    simp [mixV]
  have hz0 : Row ((w.alloc (.cells cs.toArray 166)).alloc (.cells #[.int .u8 0, .int .u8 0, .int .u8 0, .int .u8 0, .int .u8 0, .int .u8 0, .int .u8 0, .int .u8 0, .int .u8 0, .int .u8 0, .int .u8 0, .int .u8 0, .int .u8 0, .int .u8 0, .int .u8 0, .int .u8 0, .int .u8 0, .int .u8 0, .int .u8 0, .int .u8 0, .int .u8 0, .int .u8 0, .int .u8 0, .int .u8 0, .int .u8 0, .int .u8 0, .int .u8 0, .int .u8 0, .int .u8 0, .int .u8 0, .int .u8 0, .int .u8 0] 172)) (w.heap.size + 1) 172 (digV []) := heap_alloc2_new w _ _
  have hb0 : Below w.heap.size w ((w.alloc (.cells cs.toArray 166)).alloc (.cells #[.int .u8 0, .int .u8 0, .int .u8 0, .int .u8 0, .int .u8 0, .int .u8 0, .int .u8 0, .int .u8 0, .int .u8 0, .int .u8 0, .int .u8 0, .int .u8 0, .int .u8 0, .int .u8 0, .int .u8 0, .int .u8 0, .int .u8 0, .int .u8 0, .int .u8 0, .int .u8 0, .int .u8 0, .int .u8 0, .int .u8 0, .int .u8 0, .int .u8 0, .int .u8 0, .int .u8 0, .int .u8 0, .int .u8 0, .int .u8 0, .int .u8 0, .int .u8 0] 172)) := ((Below.refl _ _).alloc (Nat.le_refl _) _).alloc (by simp) _
  obtain ⟨w0, hw0⟩ : ∃ w0, (w.alloc (.cells cs.toArray 166)).alloc (.cells #[.int .u8 0, .int .u8 0, .int .u8 0, .int .u8 0, .int .u8 0, .int .u8 0, .int .u8 0, .int .u8 0, .int .u8 0, .int .u8 0, .int .u8 0, .int .u8 0, .int .u8 0, .int .u8 0, .int .u8 0, .int .u8 0, .int .u8 0, .int .u8 0, .int .u8 0, .int .u8 0, .int .u8 0, .int .u8 0, .int .u8 0, .int .u8 0, .int .u8 0, .int .u8 0, .int .u8 0, .int .u8 0, .int .u8 0, .int .u8 0, .int .u8 0, .int .u8 0] 172) = w0 := ⟨_, rfl⟩
  rw [hw0] at hr0 hz0 hb0
  have c1 : w0.cell? ⟨w.heap.size, 73, none⟩ = some (.int .i64 (h_ : Nat)) := by
    rw [hr0.cell]
    have : (mixA st ++ byV d ++ [r0] ++ R).length = 73 := by simp [mixA, hbl]; omega
    rw [← List.append_assoc, List.getElem?_append_right (by omega), this]
    rfl
  have c2 : w0.cell? ⟨w.heap.size, 9 + h_, none⟩ = some r0 := by
    rw [hr0.cell]
    have : (mixA st ++ byV d).length = 9 + h_ := by simp [mixA, hbl]; omega
    rw [List.append_assoc _ [r0], List.getElem?_append_right (by omega), this, Nat.sub_self]
    rfl
  have c3 : ∀ i, w0.frozen? ⟨w.heap.size, i, none⟩ = false := fun i => hr0.frozen i
  have hr1 : Row (w0.setCell ⟨w.heap.size, 9 + h_, none⟩ (.int .u8 128)) w.heap.size 166 (mixA st ++ byV d ++ [.int .u8 128] ++ (R ++ mixT h_ n)) := hr0.set _ (by simp [mixA, hbl]; omega)
  have hz1 : Row (w0.setCell ⟨w.heap.size, 9 + h_, none⟩ (.int .u8 128)) (w.heap.size + 1) 172 (digV []) := (Below.heap_setCell _ _ _ _ (by simp)).trans hz0
  have hb1 := hb0.setCell (p := ⟨w.heap.size, 9 + h_, none⟩) (Nat.le_refl _) (.int .u8 128)
  obtain ⟨w1, hw1⟩ : ∃ w1, w0.setCell ⟨w.heap.size, 9 + h_, none⟩ (.int .u8 128) = w1 := ⟨_, rfl⟩
  rw [hw1] at hr1 hz1 hb1
  have c4 : w1.cell? ⟨w.heap.size, 73, none⟩ = some (.int .i64 (h_ : Nat)) := by
    rw [hr1.cell]
    have : (mixA st ++ byV d ++ [Value.int .u8 128] ++ R).length = 73 := by simp [mixA, hbl]; omega
    rw [← List.append_assoc, List.getElem?_append_right (by omega), this]
    rfl
  clear hr0 hz0 hb0
  have i1 : (h_ : Int) < 64 := by omega
  have i2 : IntKind.i64.wrap ((h_ : Int) + 1) = h_ + 1 := by rw [IntKind.wrap_i64]; omega
  have i3 : (0 : Int) ≤ (h_ : Int) + 1 := by omega
  have i4 : (h_ : Int) + 1 ≤ 64 := by omega
  have i5 : ((h_ : Int) + 1).toNat = h_ + 1 := by omega
  have i6 : ¬ 64 = h_ + 1 := by omega
  have hclr := Lib.run_clear_slice (P := Tryz.prog) w1 143 5 0 (.int .u8 0) Tryz.underlying143 zero_u8 rfl rfl w.heap.size (9 + (h_ + 1)) (63 - h_) (63 - h_) (by omega) (fun j hj => by
    rw [hr1.cell, List.getElem?_eq_getElem (by simp [mixA, mixT, hbl]; omega)]; rfl) (fun j _ => hr1.frozen _)
  have hr2 : Row (w1.setCells w.heap.size (9 + (h_ + 1)) (List.replicate (63 - h_) (.int .u8 0))) w.heap.size 166 ((mixA st ++ byV d ++ [.int .u8 128]) ++ List.replicate (63 - h_) (.int .u8 0) ++ mixT h_ n) := Row.setCells _ R _ _ _ (by simp [hR]) (by simp [mixA, hbl]; omega) (by simpa using hr1)
  have ho2 : Only w.heap.size w1 (w1.setCells w.heap.size (9 + (h_ + 1)) (List.replicate (63 - h_) (.int .u8 0))) := Only.setCells _ _ _ (Only.refl _ _)
  obtain ⟨w2, hw2⟩ : ∃ w2, w1.setCells w.heap.size (9 + (h_ + 1)) (List.replicate (63 - h_) (.int .u8 0)) = w2 := ⟨_, rfl⟩
  rw [hw2] at hclr hr2 ho2
  have hz2 := hz1.only ho2 (by omega)
  have hlt1 := hr1.lt
  have hb2 := hb1.trans ((ho2.below (by omega)))
  clear hw2 hr1 hz1 hb1 ho2
  obtain ⟨b, hbd⟩ : ∃ b, b = d ++ 128 :: List.replicate (63 - h_) 0 := ⟨_, rfl⟩
  have hbb : Bytes b := by rw [hbd]; exact hb.append (Bytes.cons (by decide) (Bytes.zeros _))
  have hbl64 : b.length = 64 := by rw [hbd]; simp [hl]; omega
  have hr2' : Row w2 w.heap.size 166 (mixA st ++ byV b ++ mixT h_ n) := by
    have e : byV b = byV d ++ [Value.int .u8 128] ++ List.replicate (63 - h_) (Value.int .u8 0) := by
      rw [hbd, byV_append, ← byV_zeros]; simp [byV]
    rw [e]
    simpa using hr2
  have hl73 : (mixA st ++ byV b).length = 73 := by simp [mixA, byV, hbl64]
  have c5 : w2.cell? ⟨w.heap.size, 73, none⟩ = some (.int .i64 (h_ : Nat)) := by
    rw [hr2'.cell, List.getElem?_append_right (by rw [hl73]; decide), hl73]
    rfl
  have e1 : w2.cell? ⟨w.heap.size, 1, none⟩ = some (.int .u32 (st.a : Nat)) := hr2'.cell 1
  have e2 : w2.cell? ⟨w.heap.size, 2, none⟩ = some (.int .u32 (st.b : Nat)) := hr2'.cell 2
  have e3 : w2.cell? ⟨w.heap.size, 3, none⟩ = some (.int .u32 (st.c : Nat)) := hr2'.cell 3
  have e4 : w2.cell? ⟨w.heap.size, 4, none⟩ = some (.int .u32 (st.d : Nat)) := hr2'.cell 4
  have e5 : w2.cell? ⟨w.heap.size, 5, none⟩ = some (.int .u32 (st.e : Nat)) := hr2'.cell 5
  have e6 : w2.cell? ⟨w.heap.size, 6, none⟩ = some (.int .u32 (st.f : Nat)) := hr2'.cell 6
  have e7 : w2.cell? ⟨w.heap.size, 7, none⟩ = some (.int .u32 (st.g : Nat)) := hr2'.cell 7
  have e8 : w2.cell? ⟨w.heap.size, 8, none⟩ = some (.int .u32 (st.h : Nat)) := hr2'.cell 8
  have HC : Hid (∀ i, i < 64 → w2.cell? ⟨w.heap.size, 9 + i, none⟩ = some (.int .u8 (b.getD i 0 : Nat))) := fun i hi => by
    rw [hr2'.cell, List.append_assoc, List.getElem?_append_right (by simp [mixA]), show 9 + i - (mixA st).length = i by simp [mixA], List.getElem?_append_left (by simp [byV, hbl64]; omega), byV_get b i (by omega)]
  have ib : decide ((56 : Int) ≤ (h_ : Int)) = true := decide_eq_true (by omega)
  have HR : Hid (Row w2 w.heap.size 166 (mixA st ++ (byV b ++ mixT h_ n))) := by
    show Row _ _ _ _
    simpa using hr2'
  have HZ : Hid (Row w2 (w.heap.size + 1) 172 (digV []) ∧ Below w.heap.size w w2 ∧ Cubes w2 ∧ b = d ++ 128 :: List.replicate (63 - h_) 0) := ⟨hz2, hb2, hq.below hb2 hq.1, hbd⟩
  obtain ⟨zb, hzb⟩ : ∃ zb : Array Value, zb = (List.replicate 64 (Value.int .u8 0)).toArray := ⟨_, rfl⟩
  have hzv : ∀ w, (zeroValue 164).run Tryz.prog w = .ok (.agg zb) w := by rw [hzb]; exact (zero_of_info (n := 64) (by kernel_rfl)).1
  have hzn : zb.size = 64 := by rw [hzb]; rfl
  have HZB : Hid (zb = (List.replicate 64 (Value.int .u8 0)).toArray) := hzb
  rw [← hcs]
  clear hcs hr2 hr2' hz2 hb2 hbd hl73 hzb
  go_enter Tryz.func157, Tryz.ntmps157
  go_wp2_with fail
  refine (with_any st hok b hbb w.heap.size 9 w2 HZ.out.2.2.1 HR.out.lt HC.out).mono ?_
  rintro e w3 ⟨rfl, hb3⟩
  have HS := store_state w3 w.heap.size st (comp st b) _ (HR.out.below hb3 HR.out.lt)
  obtain ⟨w4, hw4⟩ : ∃ w4, w3.setCells w.heap.size 1 (stC (comp st b)).toList = w4 := ⟨_, rfl⟩
  rw [hw4] at HS
  have hs4 := HS.1
  have H4 : Hid _ := HS.2
  clear HS hw4 e1 e2 e3 e4 e5 e6 e7 e8 HC
  obtain ⟨X, hX⟩ : ∃ X, X = comp st b := ⟨_, rfl⟩
  have HX : Hid (X = comp st b ∧ X.ok) := ⟨hX, by rw [hX]; exact comp_ok _ _⟩
  rw [← hX] at hs4 H4
  rw [← hX]
  clear hX
  have hbv : (byV b).length = 64 := by simp [byV, hbl64]
  have HM := store_mid w4 w.heap.size 166 9 (mixA X) (byV b) (mixT h_ n) zb.toList (by have := H4.out.1; rw [List.append_assoc]; exact this) rfl (by rw [hbv]; simpa using hzn) (by rw [HZB.out]; intro v hv; rw [List.eq_of_mem_replicate hv]; rfl)
  obtain ⟨w5, hw5⟩ : ∃ w5, w4.setCells w.heap.size 9 zb.toList = w5 := ⟨_, rfl⟩
  rw [hw5] at HM
  have hs5 := HM.1
  have hl65 : (mixA X ++ List.replicate 56 (Value.int .u8 0)).length = 65 := by simp [mixA]
  have HR5 : Hid (Row w5 w.heap.size 166 ((mixA X ++ List.replicate 56 (Value.int .u8 0)) ++ List.replicate 8 (.int .u8 0) ++ mixT h_ n)) := by
    have h1 := HM.2.1
    rw [HZB.out] at h1
    have e : List.replicate 64 (Value.int .u8 0) = List.replicate 56 (Value.int .u8 0) ++ List.replicate 8 (Value.int .u8 0) := by rw [List.replicate_append_replicate]
    rw [show (List.replicate 64 (Value.int .u8 0)).toArray.toList = List.replicate 64 (Value.int .u8 0) from rfl, e] at h1
    show Row _ _ _ _
    simpa only [List.append_assoc] using h1
  have hlt3 : w.heap.size < w3.heap.size := Nat.lt_of_lt_of_le HR.out.lt hb3.size
  have hb30 : Below w.heap.size w w3 := HZ.out.2.1.trans (hb3.mono HZ.out.2.1.size)
  have hz3 : Row w3 (w.heap.size + 1) 172 (digV []) := HZ.out.1.below hb3 HZ.out.1.lt
  have HZ5 : Hid (Row w5 (w.heap.size + 1) 172 (digV []) ∧ Below w.heap.size w w5) := by
    have hlt4 : w.heap.size < w4.heap.size := Nat.lt_of_lt_of_le hlt3 H4.out.2.size
    exact ⟨(hz3.only H4.out.2 (by omega)).only HM.2.2 (by omega), (hb30.trans (H4.out.2.below (Nat.le_of_lt hlt3))).trans (HM.2.2.below (Nat.le_of_lt hlt4))⟩
  clear HM hw5 H4 hb30 hz3 hb3 hlt3
  have c6 : w5.cell? ⟨w.heap.size, 74, none⟩ = some (.int .i64 (n : Nat)) := by
    rw [HR5.out.cell, List.getElem?_append_right (by rw [List.length_append, hl65]; simp), List.length_append, hl65]
    rfl
  have j1 : IntKind.u64.wrap (n : Int) = n := by rw [IntKind.wrap_u64]; omega
  have j2 : IntKind.u64.wrap (8 * (n : Int)) = 8 * n := by rw [IntKind.wrap_u64]; omega
  go_wp2_with fail
  go_region_held3 (fun w' => w'.cell? ⟨w.heap.size, 74, none⟩ = some (.int .i64 (n : Nat))) (simp [go_sem, *]) (first | (go_at_call 127; refine (putHigh_z w.heap.size 166 65 _ _ _ hl65.symm 8 8 (8 * n) (8 * (n : Int)) (by omega) (by decide) List.length_replicate w5.drew HR5.out).mono ?_; rintro e w6 ⟨rfl, hr3, ho3⟩; have c7 := size_cell w6 _ _ _ _ h_ n hl65 hr3))
  obtain ⟨b2, hbd⟩ : ∃ b2, b2 = List.replicate 56 0 ++ be8 (8 * n) := ⟨_, rfl⟩
  have hr3' : Row w6 w.heap.size 166 (mixA X ++ byV b2 ++ mixT h_ n) := by
    have e : byV b2 = List.replicate 56 (Value.int .u8 0) ++ beV 8 (8 * n) := by
      rw [hbd, byV_append, beV8, byV_zeros]
    rw [e, ← List.append_assoc]
    exact hr3
  have hbb2 : Bytes b2 := by rw [hbd]; exact (Bytes.zeros _).append (be8_bytes _)
  have hbl2 : b2.length = 64 := by rw [hbd]; simp [be8_length]
  have HBD : Hid (b2 = List.replicate 56 0 ++ be8 (8 * n)) := hbd
  have e1 : w6.cell? ⟨w.heap.size, 1, none⟩ = some (.int .u32 (X.a : Nat)) := hr3'.cell 1
  have e2 : w6.cell? ⟨w.heap.size, 2, none⟩ = some (.int .u32 (X.b : Nat)) := hr3'.cell 2
  have e3 : w6.cell? ⟨w.heap.size, 3, none⟩ = some (.int .u32 (X.c : Nat)) := hr3'.cell 3
  have e4 : w6.cell? ⟨w.heap.size, 4, none⟩ = some (.int .u32 (X.d : Nat)) := hr3'.cell 4
  have e5 : w6.cell? ⟨w.heap.size, 5, none⟩ = some (.int .u32 (X.e : Nat)) := hr3'.cell 5
  have e6 : w6.cell? ⟨w.heap.size, 6, none⟩ = some (.int .u32 (X.f : Nat)) := hr3'.cell 6
  have e7 : w6.cell? ⟨w.heap.size, 7, none⟩ = some (.int .u32 (X.g : Nat)) := hr3'.cell 7
  have e8 : w6.cell? ⟨w.heap.size, 8, none⟩ = some (.int .u32 (X.h : Nat)) := hr3'.cell 8
  have HC : Hid (∀ i, i < 64 → w6.cell? ⟨w.heap.size, 9 + i, none⟩ = some (.int .u8 (b2.getD i 0 : Nat))) := fun i hi => by
    rw [hr3'.cell, List.append_assoc, List.getElem?_append_right (by simp [mixA]), show 9 + i - (mixA X).length = i by simp [mixA], List.getElem?_append_left (by simp [byV, hbl2]; omega), byV_get b2 i (by omega)]
  have hz3 : Row w6 (w.heap.size + 1) 172 (digV []) := Row.only (w := w5.drew) HZ5.out.1 ho3 (by omega)
  have hb6 : Below w.heap.size w w6 := HZ5.out.2.drew.trans (ho3.below (Nat.le_of_lt HR5.out.lt))
  have hq3 := hq.below hb6 hq.1
  have hlt3 := hr3'.lt
  have HS3 : Hid (Cubes w6 ∧ w.heap.size < w6.heap.size) := ⟨hq3, hlt3⟩
  clear hr3 ho3 hr3' hbd c7 hq3 hlt3 hl65 HR5 HZ5
  go_wp2_with fail
  refine (with_any X HX.out.2 b2 hbb2 w.heap.size 9 w6 HS3.out.1 HS3.out.2 HC.out).mono ?_
  rintro e w7 ⟨rfl, hb7⟩
  have hz4 := hz3.below hb7 hz3.lt
  have hb7' := hb6.trans (hb7.mono hb6.size)
  clear hz3 hb6 hb7 e1 e2 e3 e4 e5 e6 e7 e8 HC
  go_wp2_with fail
  refine (bytes_any (comp X b2) (comp_ok _ _) w7).mono ?_
  rintro e w8 ⟨rfl, hb8⟩
  have hz5 : w8.heap[w.heap.size + 1]? = some (.cells (digV []).toArray 172 (0, 0)) := hz4.below hb8 hz4.lt
  have hb8' := hb7'.trans (hb8.mono hb7'.size)
  clear hz4 hb7' hb8
  obtain ⟨ds, hds⟩ : ∃ ds, ds = (byV (outL (comp X b2))).toArray := ⟨_, rfl⟩
  have hsz : ds.size = 32 := by rw [hds]; simp [byV, outL_length]
  have hone : ds.all (·.oneCell') = true := by rw [hds]; simp [byV, Value.oneCell']
  have HDS : Hid (ds = (byV (outL (comp X b2))).toArray) := hds
  rw [← hds]
  clear hds
  have hs0 : (digV []).toArray.size = ds.size := by rw [hsz]; rfl
  have hinfo : (Tryz.prog.info? 172).map (·.size) = some ds.size := by rw [hsz]; kernel_rfl
  have hba := below_rowH hb8' (show w.heap.size ≤ w.heap.size + 1 by omega) ds
  have hl0 := run_loadVar_row (P := Tryz.prog) (w8.setRow (w.heap.size + 1) ds) (w.heap.size + 1) 172 172 ds (0, 0) _ (setRow_heap _ _ _ _ _ _ hz5) Tryz.underlying172 rfl hinfo
  go_wp2_with (refine wpList_store_row rfl 172 _ _ rfl (w.heap.size + 1) ds rfl rfl 172 _ hz5 hinfo hs0 hone ?_)
  exact bodyPost_ret (v := .agg ds) (by simp [results, Tryz.results157, asAddr, Act.put, hl0]) rfl ⟨by rw [← HZ.out.2.2.2, ← HX.out.1, ← HBD.out, ← HDS.out], hba⟩
end Go.Proofs.YtoopaigpjefonaaGreatDoor.Sm

namespace Go.Proofs.YtoopaigpjefonaaGreatDoor.Sm
set_option maxRecDepth 20000
open Go.RowKit

set_option maxRecDepth 10000 in
set_option maxHeartbeats 1000000 in
theorem finish_full (st : St) (hok : st.ok) (d : List Nat) (hb : Bytes d) (n : Nat) (hl : d.length = 63) (r0 : Value) (hs : n < 1099511627776) (w : World) (hq : Cubes w) :
    Calls Tryz.prog 157 #[.agg (mixV st (byV d ++ [r0]) 63 n).toArray] w fun e w' => e = .returned (.agg (byV (outL (comp (comp st (d ++ [128])) (List.replicate 56 0 ++ be8 (8 * n))))).toArray) ∧ Below w.heap.size w w' := by
  have hbl : (byV d).length = 63 := by simp [byV, hl]
  obtain ⟨cs, hcs⟩ : ∃ cs, cs = mixV st (byV d ++ [r0]) 63 n := ⟨_, rfl⟩
  have hr0 : Row ((w.alloc (.cells cs.toArray 166)).alloc (.cells #[.int .u8 0, .int .u8 0, .int .u8 0, .int .u8 0, .int .u8 0, .int .u8 0, .int .u8 0, .int .u8 0, .int .u8 0, .int .u8 0, .int .u8 0, .int .u8 0, .int .u8 0, .int .u8 0, .int .u8 0, .int .u8 0, .int .u8 0, .int .u8 0, .int .u8 0, .int .u8 0, .int .u8 0, .int .u8 0, .int .u8 0, .int .u8 0, .int .u8 0, .int .u8 0, .int .u8 0, .int .u8 0, .int .u8 0, .int .u8 0, .int .u8 0, .int .u8 0] 172)) w.heap.size 166 (mixA st ++ byV d ++ [r0] ++ mixT 63 n) := by
    have := heap_alloc2_old w (.cells cs.toArray 166) (.cells #[.int .u8 0, .int .u8 0, .int .u8 0, .int .u8 0, .int .u8 0, .int .u8 0, .int .u8 0, .int .u8 0, .int .u8 0, .int .u8 0, .int .u8 0, .int .u8 0, .int .u8 0, .int .u8 0, .int .u8 0, .int .u8 0, .int .u8 0, .int .u8 0, .int .u8 0, .int .u8 0, .int .u8 0, .int .u8 0, .int .u8 0, .int .u8 0, .int .u8 0, .int .u8 0, .int .u8 0, .int .u8 0, .int .u8 0, .int .u8 0, .int .u8 0, .int .u8 0] 172)
    rw [Row, this, hcs]
    simp [mixV]
  have hz0 : Row ((w.alloc (.cells cs.toArray 166)).alloc (.cells #[.int .u8 0, .int .u8 0, .int .u8 0, .int .u8 0, .int .u8 0, .int .u8 0, .int .u8 0, .int .u8 0, .int .u8 0, .int .u8 0, .int .u8 0, .int .u8 0, .int .u8 0, .int .u8 0, .int .u8 0, .int .u8 0, .int .u8 0, .int .u8 0, .int .u8 0, .int .u8 0, .int .u8 0, .int .u8 0, .int .u8 0, .int .u8 0, .int .u8 0, .int .u8 0, .int .u8 0, .int .u8 0, .int .u8 0, .int .u8 0, .int .u8 0, .int .u8 0] 172)) (w.heap.size + 1) 172 (digV []) := heap_alloc2_new w _ _
  have hb0 : Below w.heap.size w ((w.alloc (.cells cs.toArray 166)).alloc (.cells #[.int .u8 0, .int .u8 0, .int .u8 0, .int .u8 0, .int .u8 0, .int .u8 0, .int .u8 0, .int .u8 0, .int .u8 0, .int .u8 0, .int .u8 0, .int .u8 0, .int .u8 0, .int .u8 0, .int .u8 0, .int .u8 0, .int .u8 0, .int .u8 0, .int .u8 0, .int .u8 0, .int .u8 0, .int .u8 0, .int .u8 0, .int .u8 0, .int .u8 0, .int .u8 0, .int .u8 0, .int .u8 0, .int .u8 0, .int .u8 0, .int .u8 0, .int .u8 0] 172)) := ((Below.refl _ _).alloc (Nat.le_refl _) _).alloc (by simp) _
  obtain ⟨w0, hw0⟩ : ∃ w0, (w.alloc (.cells cs.toArray 166)).alloc (.cells #[.int .u8 0, .int .u8 0, .int .u8 0, .int .u8 0, .int .u8 0, .int .u8 0, .int .u8 0, .int .u8 0, .int .u8 0, .int .u8 0, .int .u8 0, .int .u8 0, .int .u8 0, .int .u8 0, .int .u8 0, .int .u8 0, .int .u8 0, .int .u8 0, .int .u8 0, .int .u8 0, .int .u8 0, .int .u8 0, .int .u8 0, .int .u8 0, .int .u8 0, .int .u8 0, .int .u8 0, .int .u8 0, .int .u8 0, .int .u8 0, .int .u8 0, .int .u8 0] 172) = w0 := ⟨_, rfl⟩
  rw [hw0] at hr0 hz0 hb0
  have c1 : w0.cell? ⟨w.heap.size, 73, none⟩ = some (.int .i64 63) := by
    rw [hr0.cell]
    have : (mixA st ++ byV d ++ [r0]).length = 73 := by simp [mixA, hbl]
    rw [List.getElem?_append_right (by omega), this]
    rfl
  have c2 : w0.cell? ⟨w.heap.size, 72, none⟩ = some r0 := by
    rw [hr0.cell]
    have : (mixA st ++ byV d).length = 72 := by simp [mixA, hbl]
    rw [List.append_assoc _ [r0], List.getElem?_append_right (by omega), this, Nat.sub_self]
    rfl
  have c3 : ∀ i, w0.frozen? ⟨w.heap.size, i, none⟩ = false := fun i => hr0.frozen i
  have hr1 : Row (w0.setCell ⟨w.heap.size, 72, none⟩ (.int .u8 128)) w.heap.size 166 (mixA st ++ byV d ++ [.int .u8 128] ++ mixT 63 n) := hr0.set _ (by simp [mixA, hbl])
  have hz1 : Row (w0.setCell ⟨w.heap.size, 72, none⟩ (.int .u8 128)) (w.heap.size + 1) 172 (digV []) := (Below.heap_setCell _ _ _ _ (by simp)).trans hz0
  have hb1 := hb0.setCell (p := ⟨w.heap.size, 72, none⟩) (Nat.le_refl _) (.int .u8 128)
  obtain ⟨w1, hw1⟩ : ∃ w1, w0.setCell ⟨w.heap.size, 72, none⟩ (.int .u8 128) = w1 := ⟨_, rfl⟩
  rw [hw1] at hr1 hz1 hb1
  have c4 : w1.cell? ⟨w.heap.size, 73, none⟩ = some (.int .i64 63) := by
    rw [hr1.cell]
    have : (mixA st ++ byV d ++ [Value.int .u8 128]).length = 73 := by simp [mixA, hbl]
    rw [List.getElem?_append_right (by omega), this]
    rfl
  clear hr0 hz0 hb0
  have wr1 : IntKind.i64.wrap 64 = 64 := by decide
  have hclr : (Builtin.clear_ #[143] 0 #[.slice (some ⟨w.heap.size, 9, none⟩) 0 0]).run Tryz.prog w1 = .ok (.tuple #[]) w1 := by
    simp [Builtin.clear_, run_underlying Tryz.underlying143]
  obtain ⟨w2, hw2⟩ : ∃ w2, w1 = w2 := ⟨_, rfl⟩
  have hr2 : Row w2 w.heap.size 166 (mixA st ++ byV d ++ [.int .u8 128] ++ mixT 63 n) := by rw [← hw2]; exact hr1
  have hz2 : Row w2 (w.heap.size + 1) 172 (digV []) := by rw [← hw2]; exact hz1
  have hb2 : Below w.heap.size w w2 := by rw [← hw2]; exact hb1
  rw [hw2] at hclr c4 hw1
  clear hr1 hz1 hb1
  obtain ⟨b, hbd⟩ : ∃ b, b = d ++ [128] := ⟨_, rfl⟩
  have hbb : Bytes b := by rw [hbd]; exact hb.append (Bytes.cons (by decide) (fun x hx => by simp at hx))
  have hbl64 : b.length = 64 := by rw [hbd]; simp [hl]
  have hr2' : Row w2 w.heap.size 166 (mixA st ++ byV b ++ mixT 63 n) := by
    have e : byV b = byV d ++ [Value.int .u8 128] := by rw [hbd, byV_append]; rfl
    rw [e, ← List.append_assoc]
    exact hr2
  have hl73 : (mixA st ++ byV b).length = 73 := by simp [mixA, byV, hbl64]
  have c5 : w2.cell? ⟨w.heap.size, 73, none⟩ = some (.int .i64 63) := by
    rw [hr2'.cell, List.getElem?_append_right (by rw [hl73]; decide), hl73]
    rfl
  have e1 : w2.cell? ⟨w.heap.size, 1, none⟩ = some (.int .u32 (st.a : Nat)) := hr2'.cell 1
  have e2 : w2.cell? ⟨w.heap.size, 2, none⟩ = some (.int .u32 (st.b : Nat)) := hr2'.cell 2
  have e3 : w2.cell? ⟨w.heap.size, 3, none⟩ = some (.int .u32 (st.c : Nat)) := hr2'.cell 3
  have e4 : w2.cell? ⟨w.heap.size, 4, none⟩ = some (.int .u32 (st.d : Nat)) := hr2'.cell 4
  have e5 : w2.cell? ⟨w.heap.size, 5, none⟩ = some (.int .u32 (st.e : Nat)) := hr2'.cell 5
  have e6 : w2.cell? ⟨w.heap.size, 6, none⟩ = some (.int .u32 (st.f : Nat)) := hr2'.cell 6
  have e7 : w2.cell? ⟨w.heap.size, 7, none⟩ = some (.int .u32 (st.g : Nat)) := hr2'.cell 7
  have e8 : w2.cell? ⟨w.heap.size, 8, none⟩ = some (.int .u32 (st.h : Nat)) := hr2'.cell 8
  have HC : Hid (∀ i, i < 64 → w2.cell? ⟨w.heap.size, 9 + i, none⟩ = some (.int .u8 (b.getD i 0 : Nat))) := fun i hi => by
    rw [hr2'.cell, List.append_assoc, List.getElem?_append_right (by simp [mixA]), show 9 + i - (mixA st).length = i by simp [mixA], List.getElem?_append_left (by simp [byV, hbl64]; omega), byV_get b i (by omega)]
  have HR : Hid (Row w2 w.heap.size 166 (mixA st ++ (byV b ++ mixT 63 n))) := by
    show Row _ _ _ _
    simpa using hr2'
  have HZ : Hid (Row w2 (w.heap.size + 1) 172 (digV []) ∧ Below w.heap.size w w2 ∧ Cubes w2 ∧ b = d ++ [128]) := ⟨hz2, hb2, hq.below hb2 hq.1, hbd⟩
  obtain ⟨zb, hzb⟩ : ∃ zb : Array Value, zb = (List.replicate 64 (Value.int .u8 0)).toArray := ⟨_, rfl⟩
  have hzv : ∀ w, (zeroValue 164).run Tryz.prog w = .ok (.agg zb) w := by rw [hzb]; exact (zero_of_info (n := 64) (by kernel_rfl)).1
  have hzn : zb.size = 64 := by rw [hzb]; rfl
  have HZB : Hid (zb = (List.replicate 64 (Value.int .u8 0)).toArray) := hzb
  rw [← hcs]
  clear hcs hr2 hr2' hz2 hb2 hbd hl73 hzb
  go_enter Tryz.func157, Tryz.ntmps157
  go_wp2_with fail
  refine (with_any st hok b hbb w.heap.size 9 w2 HZ.out.2.2.1 HR.out.lt HC.out).mono ?_
  rintro e w3 ⟨rfl, hb3⟩
  have HS := store_state w3 w.heap.size st (comp st b) _ (HR.out.below hb3 HR.out.lt)
  obtain ⟨w4, hw4⟩ : ∃ w4, w3.setCells w.heap.size 1 (stC (comp st b)).toList = w4 := ⟨_, rfl⟩
  rw [hw4] at HS
  have hs4 := HS.1
  have H4 : Hid _ := HS.2
  clear HS hw4 e1 e2 e3 e4 e5 e6 e7 e8 HC
  obtain ⟨X, hX⟩ : ∃ X, X = comp st b := ⟨_, rfl⟩
  have HX : Hid (X = comp st b ∧ X.ok) := ⟨hX, by rw [hX]; exact comp_ok _ _⟩
  rw [← hX] at hs4 H4
  rw [← hX]
  clear hX
  have hbv : (byV b).length = 64 := by simp [byV, hbl64]
  have HM := store_mid w4 w.heap.size 166 9 (mixA X) (byV b) (mixT 63 n) zb.toList (by have := H4.out.1; rw [List.append_assoc]; exact this) rfl (by rw [hbv]; simpa using hzn) (by rw [HZB.out]; intro v hv; rw [List.eq_of_mem_replicate hv]; rfl)
  obtain ⟨w5, hw5⟩ : ∃ w5, w4.setCells w.heap.size 9 zb.toList = w5 := ⟨_, rfl⟩
  rw [hw5] at HM
  have hs5 := HM.1
  have hl65 : (mixA X ++ List.replicate 56 (Value.int .u8 0)).length = 65 := by simp [mixA]
  have HR5 : Hid (Row w5 w.heap.size 166 ((mixA X ++ List.replicate 56 (Value.int .u8 0)) ++ List.replicate 8 (.int .u8 0) ++ mixT 63 n)) := by
    have h1 := HM.2.1
    rw [HZB.out] at h1
    have e : List.replicate 64 (Value.int .u8 0) = List.replicate 56 (Value.int .u8 0) ++ List.replicate 8 (Value.int .u8 0) := by rw [List.replicate_append_replicate]
    rw [show (List.replicate 64 (Value.int .u8 0)).toArray.toList = List.replicate 64 (Value.int .u8 0) from rfl, e] at h1
    show Row _ _ _ _
    simpa only [List.append_assoc] using h1
  have hlt3 : w.heap.size < w3.heap.size := Nat.lt_of_lt_of_le HR.out.lt hb3.size
  have hb30 : Below w.heap.size w w3 := HZ.out.2.1.trans (hb3.mono HZ.out.2.1.size)
  have hz3 : Row w3 (w.heap.size + 1) 172 (digV []) := HZ.out.1.below hb3 HZ.out.1.lt
  have HZ5 : Hid (Row w5 (w.heap.size + 1) 172 (digV []) ∧ Below w.heap.size w w5) := by
    have hlt4 : w.heap.size < w4.heap.size := Nat.lt_of_lt_of_le hlt3 H4.out.2.size
    exact ⟨(hz3.only H4.out.2 (by omega)).only HM.2.2 (by omega), (hb30.trans (H4.out.2.below (Nat.le_of_lt hlt3))).trans (HM.2.2.below (Nat.le_of_lt hlt4))⟩
  clear HM hw5 H4 hb30 hz3 hb3 hlt3
  have c6 : w5.cell? ⟨w.heap.size, 74, none⟩ = some (.int .i64 (n : Nat)) := by
    rw [HR5.out.cell, List.getElem?_append_right (by rw [List.length_append, hl65]; simp), List.length_append, hl65]
    rfl
  have j1 : IntKind.u64.wrap (n : Int) = n := by rw [IntKind.wrap_u64]; omega
  have j2 : IntKind.u64.wrap (8 * (n : Int)) = 8 * n := by rw [IntKind.wrap_u64]; omega
  go_wp2_with fail
  go_region_held3 (fun w' => w'.cell? ⟨w.heap.size, 74, none⟩ = some (.int .i64 (n : Nat))) (simp [go_sem, *]) (first | (go_at_call 127; refine (putHigh_z w.heap.size 166 65 _ _ _ hl65.symm 8 8 (8 * n) (8 * (n : Int)) (by omega) (by decide) List.length_replicate w5.drew HR5.out).mono ?_; rintro e w6 ⟨rfl, hr3, ho3⟩; have c7 := size_cell w6 _ _ _ _ 63 n hl65 hr3))
  obtain ⟨b2, hbd⟩ : ∃ b2, b2 = List.replicate 56 0 ++ be8 (8 * n) := ⟨_, rfl⟩
  have hr3' : Row w6 w.heap.size 166 (mixA X ++ byV b2 ++ mixT 63 n) := by
    have e : byV b2 = List.replicate 56 (Value.int .u8 0) ++ beV 8 (8 * n) := by
      rw [hbd, byV_append, beV8, byV_zeros]
    rw [e, ← List.append_assoc]
    exact hr3
  have hbb2 : Bytes b2 := by rw [hbd]; exact (Bytes.zeros _).append (be8_bytes _)
  have hbl2 : b2.length = 64 := by rw [hbd]; simp [be8_length]
  have HBD : Hid (b2 = List.replicate 56 0 ++ be8 (8 * n)) := hbd
  have e1 : w6.cell? ⟨w.heap.size, 1, none⟩ = some (.int .u32 (X.a : Nat)) := hr3'.cell 1
  have e2 : w6.cell? ⟨w.heap.size, 2, none⟩ = some (.int .u32 (X.b : Nat)) := hr3'.cell 2
  have e3 : w6.cell? ⟨w.heap.size, 3, none⟩ = some (.int .u32 (X.c : Nat)) := hr3'.cell 3
  have e4 : w6.cell? ⟨w.heap.size, 4, none⟩ = some (.int .u32 (X.d : Nat)) := hr3'.cell 4
  have e5 : w6.cell? ⟨w.heap.size, 5, none⟩ = some (.int .u32 (X.e : Nat)) := hr3'.cell 5
  have e6 : w6.cell? ⟨w.heap.size, 6, none⟩ = some (.int .u32 (X.f : Nat)) := hr3'.cell 6
  have e7 : w6.cell? ⟨w.heap.size, 7, none⟩ = some (.int .u32 (X.g : Nat)) := hr3'.cell 7
  have e8 : w6.cell? ⟨w.heap.size, 8, none⟩ = some (.int .u32 (X.h : Nat)) := hr3'.cell 8
  have HC : Hid (∀ i, i < 64 → w6.cell? ⟨w.heap.size, 9 + i, none⟩ = some (.int .u8 (b2.getD i 0 : Nat))) := fun i hi => by
    rw [hr3'.cell, List.append_assoc, List.getElem?_append_right (by simp [mixA]), show 9 + i - (mixA X).length = i by simp [mixA], List.getElem?_append_left (by simp [byV, hbl2]; omega), byV_get b2 i (by omega)]
  have hz3 : Row w6 (w.heap.size + 1) 172 (digV []) := Row.only (w := w5.drew) HZ5.out.1 ho3 (by omega)
  have hb6 : Below w.heap.size w w6 := HZ5.out.2.drew.trans (ho3.below (Nat.le_of_lt HR5.out.lt))
  have hq3 := hq.below hb6 hq.1
  have hlt3 := hr3'.lt
  have HS3 : Hid (Cubes w6 ∧ w.heap.size < w6.heap.size) := ⟨hq3, hlt3⟩
  clear hr3 ho3 hr3' hbd c7 hq3 hlt3 hl65 HR5 HZ5
  go_wp2_with fail
  refine (with_any X HX.out.2 b2 hbb2 w.heap.size 9 w6 HS3.out.1 HS3.out.2 HC.out).mono ?_
  rintro e w7 ⟨rfl, hb7⟩
  have hz4 := hz3.below hb7 hz3.lt
  have hb7' := hb6.trans (hb7.mono hb6.size)
  clear hz3 hb6 hb7 e1 e2 e3 e4 e5 e6 e7 e8 HC
  go_wp2_with fail
  refine (bytes_any (comp X b2) (comp_ok _ _) w7).mono ?_
  rintro e w8 ⟨rfl, hb8⟩
  have hz5 : w8.heap[w.heap.size + 1]? = some (.cells (digV []).toArray 172 (0, 0)) := hz4.below hb8 hz4.lt
  have hb8' := hb7'.trans (hb8.mono hb7'.size)
  clear hz4 hb7' hb8
  obtain ⟨ds, hds⟩ : ∃ ds, ds = (byV (outL (comp X b2))).toArray := ⟨_, rfl⟩
  have hsz : ds.size = 32 := by rw [hds]; simp [byV, outL_length]
  have hone : ds.all (·.oneCell') = true := by rw [hds]; simp [byV, Value.oneCell']
  have HDS : Hid (ds = (byV (outL (comp X b2))).toArray) := hds
  rw [← hds]
  clear hds
  have hs0 : (digV []).toArray.size = ds.size := by rw [hsz]; rfl
  have hinfo : (Tryz.prog.info? 172).map (·.size) = some ds.size := by rw [hsz]; kernel_rfl
  have hba := below_rowH hb8' (show w.heap.size ≤ w.heap.size + 1 by omega) ds
  have hl0 := run_loadVar_row (P := Tryz.prog) (w8.setRow (w.heap.size + 1) ds) (w.heap.size + 1) 172 172 ds (0, 0) _ (setRow_heap _ _ _ _ _ _ hz5) Tryz.underlying172 rfl hinfo
  go_wp2_with (refine wpList_store_row rfl 172 _ _ rfl (w.heap.size + 1) ds rfl rfl 172 _ hz5 hinfo hs0 hone ?_)
  exact bodyPost_ret (v := .agg ds) (by simp [results, Tryz.results157, asAddr, Act.put, hl0]) rfl ⟨by rw [← HZ.out.2.2.2, ← HX.out.1, ← HBD.out, ← HDS.out], hba⟩
end Go.Proofs.YtoopaigpjefonaaGreatDoor.Sm
