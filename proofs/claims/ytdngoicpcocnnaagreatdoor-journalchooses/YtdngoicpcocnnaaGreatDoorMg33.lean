/- journal's Found where a promise reads well, and its records do not. -/
import Derived.Test.YtdngoicpcocnnaaGreatDoorMg32
namespace Go.Proofs.YtdngoicpcocnnaaGreatDoor
set_option maxRecDepth 20000
open Go.RowKit

set_option maxHeartbeats 4000000 in
theorem found_rno (v : Value) (n q s2 t : Nat) (oa ob : Option Addr) (ca cb : Nat) (raws : List ByteArray) (masks : List Int) (ok : Bool) (h : Hd) (body : ByteArray) (m : Nat) (s0 s1 s3 s4 : Int) (r : ByteArray) (w : World)
    (hlook : ∀ W, Below w.heap.size w W → Calls Tryz.prog 80 #[v, .agg #[.slice oa raws.length ca, .slice ob masks.length cb], .int .i64 2] W fun e W' => e = .returned (.agg #[.bool ok, .int .i64 h.v0, .int .i64 h.v1, .int .i64 h.v2, .int .i64 h.v3, .int .i64 h.v4, .int .i64 h.v5, .int .i64 h.v6, .int .i64 h.v7, .string body]) ∧ Below W.heap.size W W')
    (hpi : ∀ W, Calls Tryz.prog 81 #[.agg #[.bool ok, .int .i64 h.v0, .int .i64 h.v1, .int .i64 h.v2, .int .i64 h.v3, .int .i64 h.v4, .int .i64 h.v5, .int .i64 h.v6, .int .i64 h.v7, .string body], .int .i64 (n : Int)] W fun e W' => e = .returned (.tuple #[.int .i64 (m : Int), .agg #[.int .i64 s0, .int .i64 s1, .int .i64 s3, .int .i64 s4, .string r], .bool true]) ∧ Below W.heap.size W W')
    (hrcd : ∀ W, Below w.heap.size w W → Calls Tryz.prog 82 #[.agg (layA n q s2 t), .agg #[.slice oa raws.length ca, .slice ob masks.length cb], .int .i64 (m : Int)] W fun e W' => e = .returned (.tuple #[.slice none 0 0, .bool false]) ∧ Below W.heap.size W W') :
    Calls Tryz.prog 47 #[v, .agg (layA n q s2 t), .agg #[.slice oa raws.length ca, .slice ob masks.length cb]] w fun e w' => e = .returned (.tuple #[.slice none 0 0, .agg Sp.zero.arr, .bool false]) ∧ Below w.heap.size w w' := by
  have hb0 : Below w.heap.size w (((w.alloc (.cells (layA n q s2 t) 71)).alloc (.cells #[.slice oa raws.length ca, .slice ob masks.length cb] 60)).alloc (.cells #[.int .i64 0, .int .i64 0, .int .i64 0, .int .i64 0, .string ⟨#[]⟩] 33)) := (((Below.refl _ _).alloc (Nat.le_refl _) _).alloc (by simp) _).alloc (by simp; omega) _
  have h1 := hlook _ hb0
  have gL : (((w.alloc (.cells (layA n q s2 t) 71)).alloc (.cells #[.slice oa raws.length ca, .slice ob masks.length cb] 60)).alloc (.cells #[.int .i64 0, .int .i64 0, .int .i64 0, .int .i64 0, .string ⟨#[]⟩] 33)).heap[w.heap.size]? = some (.cells (layA n q s2 t) 71 (0, 0)) := (Below.heap_alloc _ _ _ (by simp; omega)).trans (heap_alloc2_old w _ _)
  have gI : (((w.alloc (.cells (layA n q s2 t) 71)).alloc (.cells #[.slice oa raws.length ca, .slice ob masks.length cb] 60)).alloc (.cells #[.int .i64 0, .int .i64 0, .int .i64 0, .int .i64 0, .string ⟨#[]⟩] 33)).heap[w.heap.size + 1]? = some (.cells #[.slice oa raws.length ca, .slice ob masks.length cb] 60 (0, 0)) := (Below.heap_alloc _ _ _ (by simp)).trans (heap_alloc2_new w _ _)
  have gR : (((w.alloc (.cells (layA n q s2 t) 71)).alloc (.cells #[.slice oa raws.length ca, .slice ob masks.length cb] 60)).alloc (.cells #[.int .i64 0, .int .i64 0, .int .i64 0, .int .i64 0, .string ⟨#[]⟩] 33)).heap[w.heap.size + 1 + 1]? = some (.cells #[.int .i64 0, .int .i64 0, .int .i64 0, .int .i64 0, .string ⟨#[]⟩] 33 (0, 0)) := by
    have := heap_alloc_new ((w.alloc (.cells (layA n q s2 t) 71)).alloc (.cells #[.slice oa raws.length ca, .slice ob masks.length cb] 60)) (.cells #[.int .i64 0, .int .i64 0, .int .i64 0, .int .i64 0, .string ⟨#[]⟩] 33)
    simpa using this
  unfold layA at h1 gL gI gR hb0 hrcd ⊢
  clear hlook
  go_enter Tryz.func47, Tryz.ntmps47
  go_wp2_with fail
  refine h1.mono ?_
  rintro e w1 ⟨rfl, hb1⟩
  have gL1 := (hb1.block _ (lt_of_block gL)).trans gL
  have gI1 := (hb1.block _ (lt_of_block gI)).trans gI
  have gR1 := (hb1.block _ (lt_of_block gR)).trans gR
  have hlt1 := lt_of_block gR1
  have hba : Below w1.heap.size w1 (w1.alloc (.cells #[.bool ok, .int .i64 h.v0, .int .i64 h.v1, .int .i64 h.v2, .int .i64 h.v3, .int .i64 h.v4, .int .i64 h.v5, .int .i64 h.v6, .int .i64 h.v7, .string body] 81)) := (Below.refl _ _).alloc (Nat.le_refl _) _
  have n1 : (w1.alloc (.cells #[.bool ok, .int .i64 h.v0, .int .i64 h.v1, .int .i64 h.v2, .int .i64 h.v3, .int .i64 h.v4, .int .i64 h.v5, .int .i64 h.v6, .int .i64 h.v7, .string body] 81)).cell? ⟨w.heap.size, 0, none⟩ = some (.int .i64 (n : Int)) := cell_of_row _ _ 0 _ _ _ ((hba.block _ (by omega)).trans gL1)
  have HB1 : Hid (Below w.heap.size w (w1.alloc (.cells #[.bool ok, .int .i64 h.v0, .int .i64 h.v1, .int .i64 h.v2, .int .i64 h.v3, .int .i64 h.v4, .int .i64 h.v5, .int .i64 h.v6, .int .i64 h.v7, .string body] 81)) ∧ (w1.alloc (.cells #[.bool ok, .int .i64 h.v0, .int .i64 h.v1, .int .i64 h.v2, .int .i64 h.v3, .int .i64 h.v4, .int .i64 h.v5, .int .i64 h.v6, .int .i64 h.v7, .string body] 81)).heap[w.heap.size]? = some (.cells #[.int .i64 (n : Int), .int .i64 2, .int .i64 3, .int .i64 27, .int .i64 28, .int .i64 29, .int .i64 (q : Int), .int .i64 (29 + (q : Int)), .int .i64 (s2 : Int), .int .i64 (29 + (q : Int) + (s2 : Int)), .int .i64 (29 + (q : Int) + (s2 : Int) + 1), .int .i64 (n : Int), .int .i64 ((n : Int) + 1), .int .i64 (t : Int), .int .i64 ((n : Int) + 1 + (t : Int)), .int .i64 ((n : Int) + 1 + (t : Int) + (n : Int))] 71 (0, 0)) ∧ (w1.alloc (.cells #[.bool ok, .int .i64 h.v0, .int .i64 h.v1, .int .i64 h.v2, .int .i64 h.v3, .int .i64 h.v4, .int .i64 h.v5, .int .i64 h.v6, .int .i64 h.v7, .string body] 81)).heap[w.heap.size + 1]? = some (.cells #[.slice oa raws.length ca, .slice ob masks.length cb] 60 (0, 0)) ∧ (w1.alloc (.cells #[.bool ok, .int .i64 h.v0, .int .i64 h.v1, .int .i64 h.v2, .int .i64 h.v3, .int .i64 h.v4, .int .i64 h.v5, .int .i64 h.v6, .int .i64 h.v7, .string body] 81)).heap[w.heap.size + 1 + 1]? = some (.cells #[.int .i64 0, .int .i64 0, .int .i64 0, .int .i64 0, .string ⟨#[]⟩] 33 (0, 0)) ∧ (w1.alloc (.cells #[.bool ok, .int .i64 h.v0, .int .i64 h.v1, .int .i64 h.v2, .int .i64 h.v3, .int .i64 h.v4, .int .i64 h.v5, .int .i64 h.v6, .int .i64 h.v7, .string body] 81)).heap[w1.heap.size]? = some (.cells #[.bool ok, .int .i64 h.v0, .int .i64 h.v1, .int .i64 h.v2, .int .i64 h.v3, .int .i64 h.v4, .int .i64 h.v5, .int .i64 h.v6, .int .i64 h.v7, .string body] 81 (0, 0)) ∧ w.heap.size + 1 + 1 < w1.heap.size) := ⟨(hb0.trans (hb1.mono hb0.size)).trans (hba.mono (by omega)), (hba.block _ (by omega)).trans gL1, (hba.block _ (by omega)).trans gI1, (hba.block _ (by omega)).trans gR1, heap_alloc_new w1 _, hlt1⟩
  clear h1 hb0 gL gI gR hb1 gL1 gI1 gR1 hba
  go_wp2_with fail
  refine (hpi _).mono ?_
  rintro e w2 ⟨rfl, hb2⟩
  have hz2 : w1.heap.size < w2.heap.size := by have := hb2.size; simp at this; omega
  have hba : Below w2.heap.size w2 (w2.alloc (.cells #[.int .i64 s0, .int .i64 s1, .int .i64 s3, .int .i64 s4, .string r] 33)) := (Below.refl _ _).alloc (Nat.le_refl _) _
  have hbc : Below (w1.alloc (.cells #[.bool ok, .int .i64 h.v0, .int .i64 h.v1, .int .i64 h.v2, .int .i64 h.v3, .int .i64 h.v4, .int .i64 h.v5, .int .i64 h.v6, .int .i64 h.v7, .string body] 81)).heap.size (w1.alloc (.cells #[.bool ok, .int .i64 h.v0, .int .i64 h.v1, .int .i64 h.v2, .int .i64 h.v3, .int .i64 h.v4, .int .i64 h.v5, .int .i64 h.v6, .int .i64 h.v7, .string body] 81)) (w2.alloc (.cells #[.int .i64 s0, .int .i64 s1, .int .i64 s3, .int .i64 s4, .string r] 33)) := hb2.trans (hba.mono hb2.size)
  have HB2 : Hid (Below w.heap.size w (w2.alloc (.cells #[.int .i64 s0, .int .i64 s1, .int .i64 s3, .int .i64 s4, .string r] 33)) ∧ (w2.alloc (.cells #[.int .i64 s0, .int .i64 s1, .int .i64 s3, .int .i64 s4, .string r] 33)).heap[w.heap.size]? = some (.cells #[.int .i64 (n : Int), .int .i64 2, .int .i64 3, .int .i64 27, .int .i64 28, .int .i64 29, .int .i64 (q : Int), .int .i64 (29 + (q : Int)), .int .i64 (s2 : Int), .int .i64 (29 + (q : Int) + (s2 : Int)), .int .i64 (29 + (q : Int) + (s2 : Int) + 1), .int .i64 (n : Int), .int .i64 ((n : Int) + 1), .int .i64 (t : Int), .int .i64 ((n : Int) + 1 + (t : Int)), .int .i64 ((n : Int) + 1 + (t : Int) + (n : Int))] 71 (0, 0)) ∧ (w2.alloc (.cells #[.int .i64 s0, .int .i64 s1, .int .i64 s3, .int .i64 s4, .string r] 33)).heap[w.heap.size + 1]? = some (.cells #[.slice oa raws.length ca, .slice ob masks.length cb] 60 (0, 0)) ∧ (w2.alloc (.cells #[.int .i64 s0, .int .i64 s1, .int .i64 s3, .int .i64 s4, .string r] 33)).heap[w.heap.size + 1 + 1]? = some (.cells #[.int .i64 0, .int .i64 0, .int .i64 0, .int .i64 0, .string ⟨#[]⟩] 33 (0, 0)) ∧ (w2.alloc (.cells #[.int .i64 s0, .int .i64 s1, .int .i64 s3, .int .i64 s4, .string r] 33)).heap[w1.heap.size]? = some (.cells #[.bool ok, .int .i64 h.v0, .int .i64 h.v1, .int .i64 h.v2, .int .i64 h.v3, .int .i64 h.v4, .int .i64 h.v5, .int .i64 h.v6, .int .i64 h.v7, .string body] 81 (0, 0)) ∧ (w2.alloc (.cells #[.int .i64 s0, .int .i64 s1, .int .i64 s3, .int .i64 s4, .string r] 33)).heap[w2.heap.size]? = some (.cells #[.int .i64 s0, .int .i64 s1, .int .i64 s3, .int .i64 s4, .string r] 33 (0, 0)) ∧ w.heap.size + 1 + 1 < w1.heap.size) := ⟨HB1.out.1.trans (hbc.mono HB1.out.1.size), (hbc.block _ (lt_of_block HB1.out.2.1)).trans HB1.out.2.1, (hbc.block _ (lt_of_block HB1.out.2.2.1)).trans HB1.out.2.2.1, (hbc.block _ (lt_of_block HB1.out.2.2.2.1)).trans HB1.out.2.2.2.1, (hbc.block _ (lt_of_block HB1.out.2.2.2.2.1)).trans HB1.out.2.2.2.2.1, heap_alloc_new w2 _, HB1.out.2.2.2.2.2⟩
  have h3 := hrcd _ HB2.out.1
  have i0 : (w2.alloc (.cells #[.int .i64 s0, .int .i64 s1, .int .i64 s3, .int .i64 s4, .string r] 33)).cell? ⟨w.heap.size + 1, 0, none⟩ = some (.slice oa raws.length ca) := cell_of_row _ _ 0 _ _ _ HB2.out.2.2.1
  have i1 : (w2.alloc (.cells #[.int .i64 s0, .int .i64 s1, .int .i64 s3, .int .i64 s4, .string r] 33)).cell? ⟨w.heap.size + 1, 1, none⟩ = some (.slice ob masks.length cb) := cell_of_row _ _ 1 _ _ _ HB2.out.2.2.1
  have y0 : (w2.alloc (.cells #[.int .i64 s0, .int .i64 s1, .int .i64 s3, .int .i64 s4, .string r] 33)).cell? ⟨w.heap.size, 0, none⟩ = some (.int .i64 (n : Int)) := cell_of_row _ _ 0 _ _ _ HB2.out.2.1
  have y1 : (w2.alloc (.cells #[.int .i64 s0, .int .i64 s1, .int .i64 s3, .int .i64 s4, .string r] 33)).cell? ⟨w.heap.size, 1, none⟩ = some (.int .i64 2) := cell_of_row _ _ 1 _ _ _ HB2.out.2.1
  have y2 : (w2.alloc (.cells #[.int .i64 s0, .int .i64 s1, .int .i64 s3, .int .i64 s4, .string r] 33)).cell? ⟨w.heap.size, 2, none⟩ = some (.int .i64 3) := cell_of_row _ _ 2 _ _ _ HB2.out.2.1
  have y3 : (w2.alloc (.cells #[.int .i64 s0, .int .i64 s1, .int .i64 s3, .int .i64 s4, .string r] 33)).cell? ⟨w.heap.size, 3, none⟩ = some (.int .i64 27) := cell_of_row _ _ 3 _ _ _ HB2.out.2.1
  have y4 : (w2.alloc (.cells #[.int .i64 s0, .int .i64 s1, .int .i64 s3, .int .i64 s4, .string r] 33)).cell? ⟨w.heap.size, 4, none⟩ = some (.int .i64 28) := cell_of_row _ _ 4 _ _ _ HB2.out.2.1
  have y5 : (w2.alloc (.cells #[.int .i64 s0, .int .i64 s1, .int .i64 s3, .int .i64 s4, .string r] 33)).cell? ⟨w.heap.size, 5, none⟩ = some (.int .i64 29) := cell_of_row _ _ 5 _ _ _ HB2.out.2.1
  have y6 : (w2.alloc (.cells #[.int .i64 s0, .int .i64 s1, .int .i64 s3, .int .i64 s4, .string r] 33)).cell? ⟨w.heap.size, 6, none⟩ = some (.int .i64 (q : Int)) := cell_of_row _ _ 6 _ _ _ HB2.out.2.1
  have y7 : (w2.alloc (.cells #[.int .i64 s0, .int .i64 s1, .int .i64 s3, .int .i64 s4, .string r] 33)).cell? ⟨w.heap.size, 7, none⟩ = some (.int .i64 (29 + (q : Int))) := cell_of_row _ _ 7 _ _ _ HB2.out.2.1
  have y8 : (w2.alloc (.cells #[.int .i64 s0, .int .i64 s1, .int .i64 s3, .int .i64 s4, .string r] 33)).cell? ⟨w.heap.size, 8, none⟩ = some (.int .i64 (s2 : Int)) := cell_of_row _ _ 8 _ _ _ HB2.out.2.1
  have y9 : (w2.alloc (.cells #[.int .i64 s0, .int .i64 s1, .int .i64 s3, .int .i64 s4, .string r] 33)).cell? ⟨w.heap.size, 9, none⟩ = some (.int .i64 (29 + (q : Int) + (s2 : Int))) := cell_of_row _ _ 9 _ _ _ HB2.out.2.1
  have y10 : (w2.alloc (.cells #[.int .i64 s0, .int .i64 s1, .int .i64 s3, .int .i64 s4, .string r] 33)).cell? ⟨w.heap.size, 10, none⟩ = some (.int .i64 (29 + (q : Int) + (s2 : Int) + 1)) := cell_of_row _ _ 10 _ _ _ HB2.out.2.1
  have y11 : (w2.alloc (.cells #[.int .i64 s0, .int .i64 s1, .int .i64 s3, .int .i64 s4, .string r] 33)).cell? ⟨w.heap.size, 11, none⟩ = some (.int .i64 (n : Int)) := cell_of_row _ _ 11 _ _ _ HB2.out.2.1
  have y12 : (w2.alloc (.cells #[.int .i64 s0, .int .i64 s1, .int .i64 s3, .int .i64 s4, .string r] 33)).cell? ⟨w.heap.size, 12, none⟩ = some (.int .i64 ((n : Int) + 1)) := cell_of_row _ _ 12 _ _ _ HB2.out.2.1
  have y13 : (w2.alloc (.cells #[.int .i64 s0, .int .i64 s1, .int .i64 s3, .int .i64 s4, .string r] 33)).cell? ⟨w.heap.size, 13, none⟩ = some (.int .i64 (t : Int)) := cell_of_row _ _ 13 _ _ _ HB2.out.2.1
  have y14 : (w2.alloc (.cells #[.int .i64 s0, .int .i64 s1, .int .i64 s3, .int .i64 s4, .string r] 33)).cell? ⟨w.heap.size, 14, none⟩ = some (.int .i64 ((n : Int) + 1 + (t : Int))) := cell_of_row _ _ 14 _ _ _ HB2.out.2.1
  have y15 : (w2.alloc (.cells #[.int .i64 s0, .int .i64 s1, .int .i64 s3, .int .i64 s4, .string r] 33)).cell? ⟨w.heap.size, 15, none⟩ = some (.int .i64 ((n : Int) + 1 + (t : Int) + (n : Int))) := cell_of_row _ _ 15 _ _ _ HB2.out.2.1
  clear hpi hb2 n1 HB1 hba hbc hrcd
  go_wp2_with fail
  refine h3.mono ?_
  rintro e w3 ⟨rfl, hb3⟩
  have g3 := (hb3.block _ (lt_of_block HB2.out.2.2.2.1)).trans HB2.out.2.2.2.1
  have hb4 : Below w.heap.size w w3 := HB2.out.1.trans (hb3.mono HB2.out.1.size)
  have HB4 : Hid (w3.heap[w.heap.size + 1 + 1]? = some (.cells #[.int .i64 0, .int .i64 0, .int .i64 0, .int .i64 0, .string ⟨#[]⟩] 33 (0, 0)) ∧ Below w.heap.size w w3) := ⟨g3, hb4⟩
  clear h3 hb3 g3 hb4 HB2 i0 i1 y0 y1 y2 y3 y4 y5 y6 y7 y8 y9 y10 y11 y12 y13 y14 y15
  go_wp2_with fail
  go_quiet (fail)
  have g5 : (w3.drewN nq).heap[w.heap.size + 1 + 1]? = some (.cells #[.int .i64 0, .int .i64 0, .int .i64 0, .int .i64 0, .string ⟨#[]⟩] 33 (0, 0)) := HB4.out.1
  have hb5 : Below w.heap.size w (w3.drewN nq) := below_drewN HB4.out.2 nq
  clear HB4
  generalize w3.drewN nq = w5 at *
  go_wp2_with (refine wpList_store_row rfl 33 _ _ rfl (w.heap.size + 1 + 1) #[.int .i64 0, .int .i64 0, .int .i64 0, .int .i64 0, .string ⟨#[]⟩] rfl rfl 33 _ g5 (by kernel_rfl) rfl (by simp [Value.oneCell']) ?_)
  exact jfnd_ret _ (w.heap.size + 1 + 1) _ (.slice none 0 0) #[.int .i64 0, .int .i64 0, .int .i64 0, .int .i64 0, .string ⟨#[]⟩] false _ rfl rfl rfl (setRow_heap _ _ _ _ _ _ g5) rfl ⟨rfl, below_setRow hb5 (by omega) _⟩
end Go.Proofs.YtdngoicpcocnnaaGreatDoor
