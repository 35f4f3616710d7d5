/- The law's step, over whatever the two vaults answer: the same answers, and it is true. -/
import Derived.Test.YtfmaajfohieneabVtCut
namespace Go.Proofs.Ytfmaajfohieneab
open Go.RowKit

def boxO (k z : Int) (n l t g : ByteArray) : Obj := .cells #[.int .i64 k, .int .i64 z, .string n, .string l, .string t, .string g] 33

set_option maxRecDepth 100000 in
set_option maxHeartbeats 2000000 in
theorem step_k1 (B1 B2 : Nat) (z : Int) (n l t g : ByteArray) (w : World) (A : ByteArray) (Mid Post : World → Prop)
    (h1 : Calls Try.prog 10 #[.pointer (some ⟨B1, 0, none⟩), .string (cutI t 600)] (w.alloc (.cells #[.int .i64 1, .int .i64 z, .string n, .string l, .string t, .string g] 33)) fun e w' => e = .returned (.string A) ∧ Mid w')
    (h2 : ∀ W, Mid W → Calls Try.prog 15 #[.pointer (some ⟨B2, 0, none⟩), .string (cutI t 600)] W fun e w' => e = .returned (.string A) ∧ Post w') :
    Calls Try.prog 6 #[.pointer (some ⟨B1, 0, none⟩), .pointer (some ⟨B2, 0, none⟩), .agg #[.int .i64 1, .int .i64 z, .string n, .string l, .string t, .string g]] w fun e w' => e = .returned (.bool true) ∧ Post w' := by
  have hcut := fun (s : ByteArray) (z : Int) (hz : 0 ≤ z) W => cutI_any s z hz W
  have r0 : (w.alloc (.cells #[.int .i64 1, .int .i64 z, .string n, .string l, .string t, .string g] 33)).heap[w.heap.size]? = some (.cells #[.int .i64 1, .int .i64 z, .string n, .string l, .string t, .string g] 33 (0, 0)) := heap_alloc_new w _
  generalize hW : w.alloc (.cells #[.int .i64 1, .int .i64 z, .string n, .string l, .string t, .string g] 33) = wb at *
  have c0 : wb.cell? ⟨w.heap.size, 0, none⟩ = some (.int .i64 1) := cell_of_row _ _ _ _ _ _ r0
  have c1 : wb.cell? ⟨w.heap.size, 1, none⟩ = some (.int .i64 z) := cell_of_row _ _ _ _ _ _ r0
  have c2 : wb.cell? ⟨w.heap.size, 2, none⟩ = some (.string n) := cell_of_row _ _ _ _ _ _ r0
  have c3 : wb.cell? ⟨w.heap.size, 3, none⟩ = some (.string l) := cell_of_row _ _ _ _ _ _ r0
  have c4 : wb.cell? ⟨w.heap.size, 4, none⟩ = some (.string t) := cell_of_row _ _ _ _ _ _ r0
  have c5 : wb.cell? ⟨w.heap.size, 5, none⟩ = some (.string g) := cell_of_row _ _ _ _ _ _ r0
  clear r0
  go_enter Try.func6, Try.ntmps6
  go_wp2_with fail
  refine (hcut t 600 (by decide) _).mono ?_
  rintro e wc ⟨rfl, rfl⟩
  go_wp2_with fail
  refine (hcut l 100 (by decide) _).mono ?_
  rintro e wc ⟨rfl, rfl⟩
  go_wp2_with fail
  refine h1.mono ?_
  rintro e wA ⟨rfl, hM⟩
  clear h1 c0 c1 c2 c3 c4 c5
  go_wp2_with fail
  refine (h2 _ hM).mono ?_
  rintro e wB ⟨rfl, hP⟩
  clear h2 hM
  have HP : Hid (Post wB) := hP
  clear hP
  go_wp2
  go_ret
  exact ⟨rfl, HP.out⟩

set_option maxRecDepth 100000 in
set_option maxHeartbeats 2000000 in
theorem step_k2 (B1 B2 : Nat) (z : Int) (n l t g : ByteArray) (w : World) (A : ByteArray) (Mid Post : World → Prop)
    (h1 : Calls Try.prog 11 #[.pointer (some ⟨B1, 0, none⟩), .string (cutI l 100), .string (cutI t 600)] (w.alloc (.cells #[.int .i64 2, .int .i64 z, .string n, .string l, .string t, .string g] 33)) fun e w' => e = .returned (.string A) ∧ Mid w')
    (h2 : ∀ W, Mid W → Calls Try.prog 16 #[.pointer (some ⟨B2, 0, none⟩), .string (cutI l 100), .string (cutI t 600)] W fun e w' => e = .returned (.string A) ∧ Post w') :
    Calls Try.prog 6 #[.pointer (some ⟨B1, 0, none⟩), .pointer (some ⟨B2, 0, none⟩), .agg #[.int .i64 2, .int .i64 z, .string n, .string l, .string t, .string g]] w fun e w' => e = .returned (.bool true) ∧ Post w' := by
  have hcut := fun (s : ByteArray) (z : Int) (hz : 0 ≤ z) W => cutI_any s z hz W
  have r0 : (w.alloc (.cells #[.int .i64 2, .int .i64 z, .string n, .string l, .string t, .string g] 33)).heap[w.heap.size]? = some (.cells #[.int .i64 2, .int .i64 z, .string n, .string l, .string t, .string g] 33 (0, 0)) := heap_alloc_new w _
  generalize hW : w.alloc (.cells #[.int .i64 2, .int .i64 z, .string n, .string l, .string t, .string g] 33) = wb at *
  have c0 : wb.cell? ⟨w.heap.size, 0, none⟩ = some (.int .i64 2) := cell_of_row _ _ _ _ _ _ r0
  have c1 : wb.cell? ⟨w.heap.size, 1, none⟩ = some (.int .i64 z) := cell_of_row _ _ _ _ _ _ r0
  have c2 : wb.cell? ⟨w.heap.size, 2, none⟩ = some (.string n) := cell_of_row _ _ _ _ _ _ r0
  have c3 : wb.cell? ⟨w.heap.size, 3, none⟩ = some (.string l) := cell_of_row _ _ _ _ _ _ r0
  have c4 : wb.cell? ⟨w.heap.size, 4, none⟩ = some (.string t) := cell_of_row _ _ _ _ _ _ r0
  have c5 : wb.cell? ⟨w.heap.size, 5, none⟩ = some (.string g) := cell_of_row _ _ _ _ _ _ r0
  clear r0
  go_enter Try.func6, Try.ntmps6
  go_wp2_with fail
  refine (hcut t 600 (by decide) _).mono ?_
  rintro e wc ⟨rfl, rfl⟩
  go_wp2_with fail
  refine (hcut l 100 (by decide) _).mono ?_
  rintro e wc ⟨rfl, rfl⟩
  go_wp2_with fail
  refine h1.mono ?_
  rintro e wA ⟨rfl, hM⟩
  clear h1 c0 c1 c2 c3 c4 c5
  go_wp2_with fail
  refine (h2 _ hM).mono ?_
  rintro e wB ⟨rfl, hP⟩
  clear h2 hM
  have HP : Hid (Post wB) := hP
  clear hP
  go_wp2
  go_ret
  exact ⟨rfl, HP.out⟩

set_option maxRecDepth 100000 in
set_option maxHeartbeats 2000000 in
theorem step_k3 (B1 B2 : Nat) (z : Int) (n l t g : ByteArray) (w : World) (A : Bool) (Mid Post : World → Prop)
    (h1 : Calls Try.prog 12 #[.pointer (some ⟨B1, 0, none⟩), .string (cutI l 100), .string (cutI t 600), .string g] (w.alloc (.cells #[.int .i64 3, .int .i64 z, .string n, .string l, .string t, .string g] 33)).drew fun e w' => e = .returned (.bool A) ∧ Mid w')
    (h2 : ∀ W, Mid W → Calls Try.prog 17 #[.pointer (some ⟨B2, 0, none⟩), .string (cutI l 100), .string (cutI t 600), .string g] W fun e w' => e = .returned (.bool A) ∧ Post w')
    (hbox : ∀ W, Mid W → W.heap[w.heap.size]? = some (.cells #[.int .i64 3, .int .i64 z, .string n, .string l, .string t, .string g] 33 (0, 0)))
    (hbox2 : ∀ W, Post W → W.heap[w.heap.size]? = some (.cells #[.int .i64 3, .int .i64 z, .string n, .string l, .string t, .string g] 33 (0, 0))) :
    Calls Try.prog 6 #[.pointer (some ⟨B1, 0, none⟩), .pointer (some ⟨B2, 0, none⟩), .agg #[.int .i64 3, .int .i64 z, .string n, .string l, .string t, .string g]] w fun e w' => e = .returned (.bool true) ∧ Post w' := by
  have hcut := fun (s : ByteArray) (z : Int) (hz : 0 ≤ z) W => cutI_any s z hz W
  have r0 : (w.alloc (.cells #[.int .i64 3, .int .i64 z, .string n, .string l, .string t, .string g] 33)).heap[w.heap.size]? = some (.cells #[.int .i64 3, .int .i64 z, .string n, .string l, .string t, .string g] 33 (0, 0)) := heap_alloc_new w _
  generalize hW : w.alloc (.cells #[.int .i64 3, .int .i64 z, .string n, .string l, .string t, .string g] 33) = wb at *
  have c0 : wb.cell? ⟨w.heap.size, 0, none⟩ = some (.int .i64 3) := cell_of_row _ _ _ _ _ _ r0
  have c1 : wb.cell? ⟨w.heap.size, 1, none⟩ = some (.int .i64 z) := cell_of_row _ _ _ _ _ _ r0
  have c2 : wb.cell? ⟨w.heap.size, 2, none⟩ = some (.string n) := cell_of_row _ _ _ _ _ _ r0
  have c3 : wb.cell? ⟨w.heap.size, 3, none⟩ = some (.string l) := cell_of_row _ _ _ _ _ _ r0
  have c4 : wb.cell? ⟨w.heap.size, 4, none⟩ = some (.string t) := cell_of_row _ _ _ _ _ _ r0
  have c5 : wb.cell? ⟨w.heap.size, 5, none⟩ = some (.string g) := cell_of_row _ _ _ _ _ _ r0
  clear r0
  go_enter Try.func6, Try.ntmps6
  go_wp2_with fail
  refine (hcut t 600 (by decide) _).mono ?_
  rintro e wc ⟨rfl, rfl⟩
  go_wp2_with fail
  refine (hcut l 100 (by decide) _).mono ?_
  rintro e wc ⟨rfl, rfl⟩
  go_wp2_with fail
  have hAA : (A == A) = true := by simp
  go_region_held3 (fun w' => w'.cell? ⟨w.heap.size, 5, none⟩ = some (.string g)) (first | exact c5 | exact d5 | exact cell_of_row _ _ _ _ _ _ (hbox _ hM) | simp [go_sem, *]) (first | (go_at_call 12; refine h1.mono ?_; rintro e wA ⟨rfl, hM⟩; have d5 : wA.cell? ⟨w.heap.size, 5, none⟩ = some (.string g) := cell_of_row _ _ _ _ _ _ (hbox _ hM)) | (go_at_call 17; refine (h2 _ hM).mono ?_; rintro e wB ⟨rfl, hP⟩; have d5 : wB.cell? ⟨w.heap.size, 5, none⟩ = some (.string g) := cell_of_row _ _ _ _ _ _ (hbox2 _ hP)))
  have HP : Hid (Post wB) := hP
  clear hP h1 h2 hM hbox hbox2
  go_wp2
  go_ret
  exact ⟨rfl, HP.out⟩

set_option maxRecDepth 100000 in
set_option maxHeartbeats 2000000 in
theorem step_k4 (B1 B2 : Nat) (z : Int) (n l t g : ByteArray) (w : World) (A : ByteArray) (E : Int) (Mid Post : World → Prop)
    (h1 : Calls Try.prog 8 #[.pointer (some ⟨B1, 0, none⟩), .int .i64 z, .string n, .string (cutI l 100), .string (cutI t 600)] (w.alloc (.cells #[.int .i64 4, .int .i64 z, .string n, .string l, .string t, .string g] 33)) fun e w' => e = .returned (.tuple #[.string A, .int .i64 E]) ∧ Mid w')
    (h2 : ∀ W, Mid W → Calls Try.prog 18 #[.pointer (some ⟨B2, 0, none⟩), .int .i64 z, .string n, .string (cutI l 100), .string (cutI t 600)] W fun e w' => e = .returned (.tuple #[.string A, .int .i64 E]) ∧ Post w')
    (hbox : ∀ W, Mid W → W.heap[w.heap.size]? = some (.cells #[.int .i64 4, .int .i64 z, .string n, .string l, .string t, .string g] 33 (0, 0))) :
    Calls Try.prog 6 #[.pointer (some ⟨B1, 0, none⟩), .pointer (some ⟨B2, 0, none⟩), .agg #[.int .i64 4, .int .i64 z, .string n, .string l, .string t, .string g]] w fun e w' => e = .returned (.bool true) ∧ Post w' := by
  have hcut := fun (s : ByteArray) (z : Int) (hz : 0 ≤ z) W => cutI_any s z hz W
  have r0 : (w.alloc (.cells #[.int .i64 4, .int .i64 z, .string n, .string l, .string t, .string g] 33)).heap[w.heap.size]? = some (.cells #[.int .i64 4, .int .i64 z, .string n, .string l, .string t, .string g] 33 (0, 0)) := heap_alloc_new w _
  generalize hW : w.alloc (.cells #[.int .i64 4, .int .i64 z, .string n, .string l, .string t, .string g] 33) = wb at *
  have c0 : wb.cell? ⟨w.heap.size, 0, none⟩ = some (.int .i64 4) := cell_of_row _ _ _ _ _ _ r0
  have c1 : wb.cell? ⟨w.heap.size, 1, none⟩ = some (.int .i64 z) := cell_of_row _ _ _ _ _ _ r0
  have c2 : wb.cell? ⟨w.heap.size, 2, none⟩ = some (.string n) := cell_of_row _ _ _ _ _ _ r0
  have c3 : wb.cell? ⟨w.heap.size, 3, none⟩ = some (.string l) := cell_of_row _ _ _ _ _ _ r0
  have c4 : wb.cell? ⟨w.heap.size, 4, none⟩ = some (.string t) := cell_of_row _ _ _ _ _ _ r0
  have c5 : wb.cell? ⟨w.heap.size, 5, none⟩ = some (.string g) := cell_of_row _ _ _ _ _ _ r0
  clear r0
  go_enter Try.func6, Try.ntmps6
  go_wp2_with fail
  refine (hcut t 600 (by decide) _).mono ?_
  rintro e wc ⟨rfl, rfl⟩
  go_wp2_with fail
  refine (hcut l 100 (by decide) _).mono ?_
  rintro e wc ⟨rfl, rfl⟩
  have hEE : (E == E) = true := by simp
  go_wp2_with fail
  refine h1.mono ?_
  rintro e wA ⟨rfl, hM⟩
  clear h1 c0 c1 c2 c3 c4 c5
  have r0 := hbox wA hM
  have c1 : wA.cell? ⟨w.heap.size, 1, none⟩ = some (.int .i64 z) := cell_of_row _ _ _ _ _ _ r0
  have c2 : wA.cell? ⟨w.heap.size, 2, none⟩ = some (.string n) := cell_of_row _ _ _ _ _ _ r0
  clear r0
  go_wp2_with fail
  refine (h2 _ hM).mono ?_
  rintro e wB ⟨rfl, hP⟩
  clear h2 hM c1 c2
  have HP : Hid (Post wB) := hP
  clear hP
  go_wp2
  go_ret
  exact ⟨rfl, HP.out⟩

set_option maxRecDepth 100000 in
set_option maxHeartbeats 2000000 in
theorem step_k5 (B1 B2 : Nat) (z : Int) (n l t g : ByteArray) (w : World) (A : ByteArray) (E : Int) (Mid Post : World → Prop)
    (h1 : Calls Try.prog 9 #[.pointer (some ⟨B1, 0, none⟩), .int .i64 z, .string n, .string (cutI l 100), .string (cutI t 600 ++ cutI g 40)] (w.alloc (.cells #[.int .i64 5, .int .i64 z, .string n, .string l, .string t, .string g] 33)) fun e w' => e = .returned (.tuple #[.string A, .int .i64 E]) ∧ Mid w')
    (h2 : ∀ W, Mid W → Calls Try.prog 19 #[.pointer (some ⟨B2, 0, none⟩), .int .i64 z, .string n, .string (cutI l 100), .string (cutI t 600 ++ cutI g 40)] W fun e w' => e = .returned (.tuple #[.string A, .int .i64 E]) ∧ Post w')
    (hbox : ∀ W, Mid W → W.heap[w.heap.size]? = some (.cells #[.int .i64 5, .int .i64 z, .string n, .string l, .string t, .string g] 33 (0, 0))) :
    Calls Try.prog 6 #[.pointer (some ⟨B1, 0, none⟩), .pointer (some ⟨B2, 0, none⟩), .agg #[.int .i64 5, .int .i64 z, .string n, .string l, .string t, .string g]] w fun e w' => e = .returned (.bool true) ∧ Post w' := by
  have z1 : (cutI t 600).size ≤ 600 := cutI_size t 600
  have z2 : (cutI g 40).size ≤ 40 := cutI_size g 40
  have a1 : ∀ w', (Op.stringOp .add (cutI t 600) (cutI g 40)).run Try.prog w' = .ok (.string (cutI t 600 ++ cutI g 40)) w' := fun w' => run_string_add_sum (P := Try.prog) (w := w') _ _ (by omega)
  have hcut := fun (s : ByteArray) (z : Int) (hz : 0 ≤ z) W => cutI_any s z hz W
  have r0 : (w.alloc (.cells #[.int .i64 5, .int .i64 z, .string n, .string l, .string t, .string g] 33)).heap[w.heap.size]? = some (.cells #[.int .i64 5, .int .i64 z, .string n, .string l, .string t, .string g] 33 (0, 0)) := heap_alloc_new w _
  generalize hW : w.alloc (.cells #[.int .i64 5, .int .i64 z, .string n, .string l, .string t, .string g] 33) = wb at *
  have c0 : wb.cell? ⟨w.heap.size, 0, none⟩ = some (.int .i64 5) := cell_of_row _ _ _ _ _ _ r0
  have c1 : wb.cell? ⟨w.heap.size, 1, none⟩ = some (.int .i64 z) := cell_of_row _ _ _ _ _ _ r0
  have c2 : wb.cell? ⟨w.heap.size, 2, none⟩ = some (.string n) := cell_of_row _ _ _ _ _ _ r0
  have c3 : wb.cell? ⟨w.heap.size, 3, none⟩ = some (.string l) := cell_of_row _ _ _ _ _ _ r0
  have c4 : wb.cell? ⟨w.heap.size, 4, none⟩ = some (.string t) := cell_of_row _ _ _ _ _ _ r0
  have c5 : wb.cell? ⟨w.heap.size, 5, none⟩ = some (.string g) := cell_of_row _ _ _ _ _ _ r0
  clear r0
  go_enter Try.func6, Try.ntmps6
  go_wp2_with fail
  refine (hcut t 600 (by decide) _).mono ?_
  rintro e wc ⟨rfl, rfl⟩
  go_wp2_with fail
  refine (hcut l 100 (by decide) _).mono ?_
  rintro e wc ⟨rfl, rfl⟩
  have hEE : (E == E) = true := by simp
  go_wp2_with fail
  refine (hcut g 40 (by decide) _).mono ?_
  rintro e wc ⟨rfl, rfl⟩
  go_wp2_with fail
  refine h1.mono ?_
  rintro e wA ⟨rfl, hM⟩
  clear h1 c0 c1 c2 c3 c4 c5
  have r0 := hbox wA hM
  have c1 : wA.cell? ⟨w.heap.size, 1, none⟩ = some (.int .i64 z) := cell_of_row _ _ _ _ _ _ r0
  have c2 : wA.cell? ⟨w.heap.size, 2, none⟩ = some (.string n) := cell_of_row _ _ _ _ _ _ r0
  clear r0
  go_wp2_with fail
  refine (h2 _ hM).mono ?_
  rintro e wB ⟨rfl, hP⟩
  clear h2 hM c1 c2
  have HP : Hid (Post wB) := hP
  clear hP
  go_wp2
  go_ret
  exact ⟨rfl, HP.out⟩

set_option maxRecDepth 100000 in
set_option maxHeartbeats 2000000 in
theorem step_k0 (B1 B2 : Nat) (k z : Int) (n l t g : ByteArray) (w : World) (hk : k < 1 ∨ 5 < k) :
    Calls Try.prog 6 #[.pointer (some ⟨B1, 0, none⟩), .pointer (some ⟨B2, 0, none⟩), .agg #[.int .i64 k, .int .i64 z, .string n, .string l, .string t, .string g]] w fun e w' => e = .returned (.bool true) ∧ Below w.heap.size w w' := by
  have k1 : (k == 1) = false := beq_false_of_ne (by omega)
  have k2 : (k == 2) = false := beq_false_of_ne (by omega)
  have k3 : (k == 3) = false := beq_false_of_ne (by omega)
  have k4 : (k == 4) = false := beq_false_of_ne (by omega)
  have k5 : (k == 5) = false := beq_false_of_ne (by omega)
  have HB : Hid (Below w.heap.size w (w.alloc (.cells #[.int .i64 k, .int .i64 z, .string n, .string l, .string t, .string g] 33))) := (Below.refl w.heap.size w).alloc (Nat.le_refl _) _
  clear hk
  have hcut := fun (s : ByteArray) (z : Int) (hz : 0 ≤ z) W => cutI_any s z hz W
  have r0 : (w.alloc (.cells #[.int .i64 k, .int .i64 z, .string n, .string l, .string t, .string g] 33)).heap[w.heap.size]? = some (.cells #[.int .i64 k, .int .i64 z, .string n, .string l, .string t, .string g] 33 (0, 0)) := heap_alloc_new w _
  generalize hW : w.alloc (.cells #[.int .i64 k, .int .i64 z, .string n, .string l, .string t, .string g] 33) = wb at *
  have c0 : wb.cell? ⟨w.heap.size, 0, none⟩ = some (.int .i64 k) := cell_of_row _ _ _ _ _ _ r0
  have c1 : wb.cell? ⟨w.heap.size, 1, none⟩ = some (.int .i64 z) := cell_of_row _ _ _ _ _ _ r0
  have c2 : wb.cell? ⟨w.heap.size, 2, none⟩ = some (.string n) := cell_of_row _ _ _ _ _ _ r0
  have c3 : wb.cell? ⟨w.heap.size, 3, none⟩ = some (.string l) := cell_of_row _ _ _ _ _ _ r0
  have c4 : wb.cell? ⟨w.heap.size, 4, none⟩ = some (.string t) := cell_of_row _ _ _ _ _ _ r0
  have c5 : wb.cell? ⟨w.heap.size, 5, none⟩ = some (.string g) := cell_of_row _ _ _ _ _ _ r0
  clear r0
  go_enter Try.func6, Try.ntmps6
  go_wp2_with fail
  refine (hcut t 600 (by decide) _).mono ?_
  rintro e wc ⟨rfl, rfl⟩
  go_wp2_with fail
  refine (hcut l 100 (by decide) _).mono ?_
  rintro e wc ⟨rfl, rfl⟩
  clear hcut c1 c2 c3 c4 c5
  go_wp2
  go_ret
  exact ⟨rfl, HB.out⟩
end Go.Proofs.Ytfmaajfohieneab
