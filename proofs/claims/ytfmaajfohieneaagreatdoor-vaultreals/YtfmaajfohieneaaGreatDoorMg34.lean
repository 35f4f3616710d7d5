/- The law's step, over whatever the two vaults answer: the same answers, and it is true. · What came in: steps, scripts of steps, lists of texts; no text of them has more bytes than a process has addresses. -/
import Derived.Test.YtfmaajfohieneaaGreatDoorMg06
import Derived.Test.YtfmaajfohieneaaGreatDoorMg05
import Derived.Deep.Slices
import Derived.WideShapes
import Derived.ProofKit
import Derived.ChangeOld
import Derived.SizedLaws
namespace Go.Proofs.YtfmaajfohieneaaGreatDoor
set_option maxRecDepth 20000
open Go.RowKit

def boxO (k z : Int) (n l t g : ByteArray) : Obj := .cells #[.int .i64 k, .int .i64 z, .string n, .string l, .string t, .string g] 34

set_option maxRecDepth 100000 in
set_option maxHeartbeats 2000000 in
theorem step_k1 (B1 B2 : Nat) (z : Int) (n l t g : ByteArray) (w : World) (A : ByteArray) (Mid Post : World → Prop)
    (h1 : Calls Tryz.prog 12 #[.pointer (some ⟨B1, 0, none⟩), .string (cutI t 600)] (w.alloc (.cells #[.int .i64 1, .int .i64 z, .string n, .string l, .string t, .string g] 34)) fun e w' => e = .returned (.string A) ∧ Mid w')
    (h2 : ∀ W, Mid W → Calls Tryz.prog 13 #[.pointer (some ⟨B2, 0, none⟩), .string (cutI t 600)] W fun e w' => e = .returned (.string A) ∧ Post w') :
    Calls Tryz.prog 8 #[.pointer (some ⟨B1, 0, none⟩), .pointer (some ⟨B2, 0, none⟩), .agg #[.int .i64 1, .int .i64 z, .string n, .string l, .string t, .string g]] w fun e w' => e = .returned (.bool true) ∧ Post w' := by
  have hcut := fun (s : ByteArray) (z : Int) (hz : 0 ≤ z) W => cutI_any s z hz W
  have r0 : (w.alloc (.cells #[.int .i64 1, .int .i64 z, .string n, .string l, .string t, .string g] 34)).heap[w.heap.size]? = some (.cells #[.int .i64 1, .int .i64 z, .string n, .string l, .string t, .string g] 34 (0, 0)) := heap_alloc_new w _
  generalize hW : w.alloc (.cells #[.int .i64 1, .int .i64 z, .string n, .string l, .string t, .string g] 34) = wb at *
  have c0 : wb.cell? ⟨w.heap.size, 0, none⟩ = some (.int .i64 1) := cell_of_row _ _ _ _ _ _ r0
  have c1 : wb.cell? ⟨w.heap.size, 1, none⟩ = some (.int .i64 z) := cell_of_row _ _ _ _ _ _ r0
  have c2 : wb.cell? ⟨w.heap.size, 2, none⟩ = some (.string n) := cell_of_row _ _ _ _ _ _ r0
  have c3 : wb.cell? ⟨w.heap.size, 3, none⟩ = some (.string l) := cell_of_row _ _ _ _ _ _ r0
  have c4 : wb.cell? ⟨w.heap.size, 4, none⟩ = some (.string t) := cell_of_row _ _ _ _ _ _ r0
  have c5 : wb.cell? ⟨w.heap.size, 5, none⟩ = some (.string g) := cell_of_row _ _ _ _ _ _ r0
  clear r0
  go_enter Tryz.func8, Tryz.ntmps8
  go_wp2_with fail
  refine (hcut t 600 (by decide) _).mono ?_
  rintro e wc ⟨rfl, rfl⟩
  go_wp2_with fail
  refine (hcut l 100 (by decide) _).mono ?_
  rintro e wc ⟨rfl, rfl⟩
  go_wp2_with fail
  refine h1.mono ?_
  rintro e wA ⟨rfl, hM⟩
  clear h1 c0 c1 c2 c3 c4 c5
  go_wp2_with fail
  refine (h2 _ hM).mono ?_
  rintro e wB ⟨rfl, hP⟩
  clear h2 hM
  have HP : Hid (Post wB) := hP
  clear hP
  go_wp2
  go_ret
  exact ⟨rfl, HP.out⟩

set_option maxRecDepth 100000 in
set_option maxHeartbeats 2000000 in
theorem step_k2 (B1 B2 : Nat) (z : Int) (n l t g : ByteArray) (w : World) (A : ByteArray) (Mid Post : World → Prop)
    (h1 : Calls Tryz.prog 14 #[.pointer (some ⟨B1, 0, none⟩), .string (cutI l 100), .string (cutI t 600)] (w.alloc (.cells #[.int .i64 2, .int .i64 z, .string n, .string l, .string t, .string g] 34)) fun e w' => e = .returned (.string A) ∧ Mid w')
    (h2 : ∀ W, Mid W → Calls Tryz.prog 15 #[.pointer (some ⟨B2, 0, none⟩), .string (cutI l 100), .string (cutI t 600)] W fun e w' => e = .returned (.string A) ∧ Post w') :
    Calls Tryz.prog 8 #[.pointer (some ⟨B1, 0, none⟩), .pointer (some ⟨B2, 0, none⟩), .agg #[.int .i64 2, .int .i64 z, .string n, .string l, .string t, .string g]] w fun e w' => e = .returned (.bool true) ∧ Post w' := by
  have hcut := fun (s : ByteArray) (z : Int) (hz : 0 ≤ z) W => cutI_any s z hz W
  have r0 : (w.alloc (.cells #[.int .i64 2, .int .i64 z, .string n, .string l, .string t, .string g] 34)).heap[w.heap.size]? = some (.cells #[.int .i64 2, .int .i64 z, .string n, .string l, .string t, .string g] 34 (0, 0)) := heap_alloc_new w _
  generalize hW : w.alloc (.cells #[.int .i64 2, .int .i64 z, .string n, .string l, .string t, .string g] 34) = wb at *
  have c0 : wb.cell? ⟨w.heap.size, 0, none⟩ = some (.int .i64 2) := cell_of_row _ _ _ _ _ _ r0
  have c1 : wb.cell? ⟨w.heap.size, 1, none⟩ = some (.int .i64 z) := cell_of_row _ _ _ _ _ _ r0
  have c2 : wb.cell? ⟨w.heap.size, 2, none⟩ = some (.string n) := cell_of_row _ _ _ _ _ _ r0
  have c3 : wb.cell? ⟨w.heap.size, 3, none⟩ = some (.string l) := cell_of_row _ _ _ _ _ _ r0
  have c4 : wb.cell? ⟨w.heap.size, 4, none⟩ = some (.string t) := cell_of_row _ _ _ _ _ _ r0
  have c5 : wb.cell? ⟨w.heap.size, 5, none⟩ = some (.string g) := cell_of_row _ _ _ _ _ _ r0
  clear r0
  go_enter Tryz.func8, Tryz.ntmps8
  go_wp2_with fail
  refine (hcut t 600 (by decide) _).mono ?_
  rintro e wc ⟨rfl, rfl⟩
  go_wp2_with fail
  refine (hcut l 100 (by decide) _).mono ?_
  rintro e wc ⟨rfl, rfl⟩
  go_wp2_with fail
  refine h1.mono ?_
  rintro e wA ⟨rfl, hM⟩
  clear h1 c0 c1 c2 c3 c4 c5
  go_wp2_with fail
  refine (h2 _ hM).mono ?_
  rintro e wB ⟨rfl, hP⟩
  clear h2 hM
  have HP : Hid (Post wB) := hP
  clear hP
  go_wp2
  go_ret
  exact ⟨rfl, HP.out⟩

set_option maxRecDepth 100000 in
set_option maxHeartbeats 2000000 in
theorem step_k3 (B1 B2 : Nat) (z : Int) (n l t g : ByteArray) (w : World) (A : Bool) (Mid Post : World → Prop)
    (h1 : Calls Tryz.prog 16 #[.pointer (some ⟨B1, 0, none⟩), .string (cutI l 100), .string (cutI t 600), .string g] (w.alloc (.cells #[.int .i64 3, .int .i64 z, .string n, .string l, .string t, .string g] 34)).drew fun e w' => e = .returned (.bool A) ∧ Mid w')
    (h2 : ∀ W, Mid W → Calls Tryz.prog 17 #[.pointer (some ⟨B2, 0, none⟩), .string (cutI l 100), .string (cutI t 600), .string g] W fun e w' => e = .returned (.bool A) ∧ Post w')
    (hbox : ∀ W, Mid W → W.heap[w.heap.size]? = some (.cells #[.int .i64 3, .int .i64 z, .string n, .string l, .string t, .string g] 34 (0, 0)))
    (hbox2 : ∀ W, Post W → W.heap[w.heap.size]? = some (.cells #[.int .i64 3, .int .i64 z, .string n, .string l, .string t, .string g] 34 (0, 0))) :
    Calls Tryz.prog 8 #[.pointer (some ⟨B1, 0, none⟩), .pointer (some ⟨B2, 0, none⟩), .agg #[.int .i64 3, .int .i64 z, .string n, .string l, .string t, .string g]] w fun e w' => e = .returned (.bool true) ∧ Post w' := by
  have hcut := fun (s : ByteArray) (z : Int) (hz : 0 ≤ z) W => cutI_any s z hz W
  have r0 : (w.alloc (.cells #[.int .i64 3, .int .i64 z, .string n, .string l, .string t, .string g] 34)).heap[w.heap.size]? = some (.cells #[.int .i64 3, .int .i64 z, .string n, .string l, .string t, .string g] 34 (0, 0)) := heap_alloc_new w _
  generalize hW : w.alloc (.cells #[.int .i64 3, .int .i64 z, .string n, .string l, .string t, .string g] 34) = wb at *
  have c0 : wb.cell? ⟨w.heap.size, 0, none⟩ = some (.int .i64 3) := cell_of_row _ _ _ _ _ _ r0
  have c1 : wb.cell? ⟨w.heap.size, 1, none⟩ = some (.int .i64 z) := cell_of_row _ _ _ _ _ _ r0
  have c2 : wb.cell? ⟨w.heap.size, 2, none⟩ = some (.string n) := cell_of_row _ _ _ _ _ _ r0
  have c3 : wb.cell? ⟨w.heap.size, 3, none⟩ = some (.string l) := cell_of_row _ _ _ _ _ _ r0
  have c4 : wb.cell? ⟨w.heap.size, 4, none⟩ = some (.string t) := cell_of_row _ _ _ _ _ _ r0
  have c5 : wb.cell? ⟨w.heap.size, 5, none⟩ = some (.string g) := cell_of_row _ _ _ _ _ _ r0
  clear r0
  go_enter Tryz.func8, Tryz.ntmps8
  go_wp2_with fail
  refine (hcut t 600 (by decide) _).mono ?_
  rintro e wc ⟨rfl, rfl⟩
  go_wp2_with fail
  refine (hcut l 100 (by decide) _).mono ?_
  rintro e wc ⟨rfl, rfl⟩
  go_wp2_with fail
  have hAA : (A == A) = true := by simp
  go_region_held3 (fun w' => w'.cell? ⟨w.heap.size, 5, none⟩ = some (.string g)) (first | exact c5 | exact d5 | exact cell_of_row _ _ _ _ _ _ (hbox _ hM) | simp [go_sem, *]) (first | (go_at_call 16; refine h1.mono ?_; rintro e wA ⟨rfl, hM⟩; have d5 : wA.cell? ⟨w.heap.size, 5, none⟩ = some (.string g) := cell_of_row _ _ _ _ _ _ (hbox _ hM)) | (go_at_call 17; refine (h2 _ hM).mono ?_; rintro e wB ⟨rfl, hP⟩; have d5 : wB.cell? ⟨w.heap.size, 5, none⟩ = some (.string g) := cell_of_row _ _ _ _ _ _ (hbox2 _ hP)))
  have HP : Hid (Post wB) := hP
  clear hP h1 h2 hM hbox hbox2
  go_wp2
  go_ret
  exact ⟨rfl, HP.out⟩

set_option maxRecDepth 100000 in
set_option maxHeartbeats 2000000 in
theorem step_k4 (B1 B2 : Nat) (z : Int) (n l t g : ByteArray) (w : World) (A : ByteArray) (E : Int) (Mid Post : World → Prop)
    (h1 : Calls Tryz.prog 18 #[.pointer (some ⟨B1, 0, none⟩), .int .i64 z, .string n, .string (cutI l 100), .string (cutI t 600)] (w.alloc (.cells #[.int .i64 4, .int .i64 z, .string n, .string l, .string t, .string g] 34)) fun e w' => e = .returned (.tuple #[.string A, .int .i64 E]) ∧ Mid w')
    (h2 : ∀ W, Mid W → Calls Tryz.prog 19 #[.pointer (some ⟨B2, 0, none⟩), .int .i64 z, .string n, .string (cutI l 100), .string (cutI t 600)] W fun e w' => e = .returned (.tuple #[.string A, .int .i64 E]) ∧ Post w')
    (hbox : ∀ W, Mid W → W.heap[w.heap.size]? = some (.cells #[.int .i64 4, .int .i64 z, .string n, .string l, .string t, .string g] 34 (0, 0))) :
    Calls Tryz.prog 8 #[.pointer (some ⟨B1, 0, none⟩), .pointer (some ⟨B2, 0, none⟩), .agg #[.int .i64 4, .int .i64 z, .string n, .string l, .string t, .string g]] w fun e w' => e = .returned (.bool true) ∧ Post w' := by
  have hcut := fun (s : ByteArray) (z : Int) (hz : 0 ≤ z) W => cutI_any s z hz W
  have r0 : (w.alloc (.cells #[.int .i64 4, .int .i64 z, .string n, .string l, .string t, .string g] 34)).heap[w.heap.size]? = some (.cells #[.int .i64 4, .int .i64 z, .string n, .string l, .string t, .string g] 34 (0, 0)) := heap_alloc_new w _
  generalize hW : w.alloc (.cells #[.int .i64 4, .int .i64 z, .string n, .string l, .string t, .string g] 34) = wb at *
  have c0 : wb.cell? ⟨w.heap.size, 0, none⟩ = some (.int .i64 4) := cell_of_row _ _ _ _ _ _ r0
  have c1 : wb.cell? ⟨w.heap.size, 1, none⟩ = some (.int .i64 z) := cell_of_row _ _ _ _ _ _ r0
  have c2 : wb.cell? ⟨w.heap.size, 2, none⟩ = some (.string n) := cell_of_row _ _ _ _ _ _ r0
  have c3 : wb.cell? ⟨w.heap.size, 3, none⟩ = some (.string l) := cell_of_row _ _ _ _ _ _ r0
  have c4 : wb.cell? ⟨w.heap.size, 4, none⟩ = some (.string t) := cell_of_row _ _ _ _ _ _ r0
  have c5 : wb.cell? ⟨w.heap.size, 5, none⟩ = some (.string g) := cell_of_row _ _ _ _ _ _ r0
  clear r0
  go_enter Tryz.func8, Tryz.ntmps8
  go_wp2_with fail
  refine (hcut t 600 (by decide) _).mono ?_
  rintro e wc ⟨rfl, rfl⟩
  go_wp2_with fail
  refine (hcut l 100 (by decide) _).mono ?_
  rintro e wc ⟨rfl, rfl⟩
  have hEE : (E == E) = true := by simp
  go_wp2_with fail
  refine h1.mono ?_
  rintro e wA ⟨rfl, hM⟩
  clear h1 c0 c1 c2 c3 c4 c5
  have r0 := hbox wA hM
  have c1 : wA.cell? ⟨w.heap.size, 1, none⟩ = some (.int .i64 z) := cell_of_row _ _ _ _ _ _ r0
  have c2 : wA.cell? ⟨w.heap.size, 2, none⟩ = some (.string n) := cell_of_row _ _ _ _ _ _ r0
  clear r0
  go_wp2_with fail
  refine (h2 _ hM).mono ?_
  rintro e wB ⟨rfl, hP⟩
  clear h2 hM c1 c2
  have HP : Hid (Post wB) := hP
  clear hP
  go_wp2
  go_ret
  exact ⟨rfl, HP.out⟩

set_option maxRecDepth 100000 in
set_option maxHeartbeats 2000000 in
theorem step_k5 (B1 B2 : Nat) (z : Int) (n l t g : ByteArray) (w : World) (A : ByteArray) (E : Int) (Mid Post : World → Prop)
    (h1 : Calls Tryz.prog 20 #[.pointer (some ⟨B1, 0, none⟩), .int .i64 z, .string n, .string (cutI l 100), .string (cutI t 600 ++ cutI g 40)] (w.alloc (.cells #[.int .i64 5, .int .i64 z, .string n, .string l, .string t, .string g] 34)) fun e w' => e = .returned (.tuple #[.string A, .int .i64 E]) ∧ Mid w')
    (h2 : ∀ W, Mid W → Calls Tryz.prog 21 #[.pointer (some ⟨B2, 0, none⟩), .int .i64 z, .string n, .string (cutI l 100), .string (cutI t 600 ++ cutI g 40)] W fun e w' => e = .returned (.tuple #[.string A, .int .i64 E]) ∧ Post w')
    (hbox : ∀ W, Mid W → W.heap[w.heap.size]? = some (.cells #[.int .i64 5, .int .i64 z, .string n, .string l, .string t, .string g] 34 (0, 0))) :
    Calls Tryz.prog 8 #[.pointer (some ⟨B1, 0, none⟩), .pointer (some ⟨B2, 0, none⟩), .agg #[.int .i64 5, .int .i64 z, .string n, .string l, .string t, .string g]] w fun e w' => e = .returned (.bool true) ∧ Post w' := by
  have z1 : (cutI t 600).size ≤ 600 := cutI_size t 600
  have z2 : (cutI g 40).size ≤ 40 := cutI_size g 40
  have a1 : ∀ w', (Op.stringOp .add (cutI t 600) (cutI g 40)).run Tryz.prog w' = .ok (.string (cutI t 600 ++ cutI g 40)) w' := fun w' => run_string_add_sum (P := Tryz.prog) (w := w') _ _ (by omega)
  have hcut := fun (s : ByteArray) (z : Int) (hz : 0 ≤ z) W => cutI_any s z hz W
  have r0 : (w.alloc (.cells #[.int .i64 5, .int .i64 z, .string n, .string l, .string t, .string g] 34)).heap[w.heap.size]? = some (.cells #[.int .i64 5, .int .i64 z, .string n, .string l, .string t, .string g] 34 (0, 0)) := heap_alloc_new w _
  generalize hW : w.alloc (.cells #[.int .i64 5, .int .i64 z, .string n, .string l, .string t, .string g] 34) = wb at *
  have c0 : wb.cell? ⟨w.heap.size, 0, none⟩ = some (.int .i64 5) := cell_of_row _ _ _ _ _ _ r0
  have c1 : wb.cell? ⟨w.heap.size, 1, none⟩ = some (.int .i64 z) := cell_of_row _ _ _ _ _ _ r0
  have c2 : wb.cell? ⟨w.heap.size, 2, none⟩ = some (.string n) := cell_of_row _ _ _ _ _ _ r0
  have c3 : wb.cell? ⟨w.heap.size, 3, none⟩ = some (.string l) := cell_of_row _ _ _ _ _ _ r0
  have c4 : wb.cell? ⟨w.heap.size, 4, none⟩ = some (.string t) := cell_of_row _ _ _ _ _ _ r0
  have c5 : wb.cell? ⟨w.heap.size, 5, none⟩ = some (.string g) := cell_of_row _ _ _ _ _ _ r0
  clear r0
  go_enter Tryz.func8, Tryz.ntmps8
  go_wp2_with fail
  refine (hcut t 600 (by decide) _).mono ?_
  rintro e wc ⟨rfl, rfl⟩
  go_wp2_with fail
  refine (hcut l 100 (by decide) _).mono ?_
  rintro e wc ⟨rfl, rfl⟩
  have hEE : (E == E) = true := by simp
  go_wp2_with fail
  refine (hcut g 40 (by decide) _).mono ?_
  rintro e wc ⟨rfl, rfl⟩
  go_wp2_with fail
  refine h1.mono ?_
  rintro e wA ⟨rfl, hM⟩
  clear h1 c0 c1 c2 c3 c4 c5
  have r0 := hbox wA hM
  have c1 : wA.cell? ⟨w.heap.size, 1, none⟩ = some (.int .i64 z) := cell_of_row _ _ _ _ _ _ r0
  have c2 : wA.cell? ⟨w.heap.size, 2, none⟩ = some (.string n) := cell_of_row _ _ _ _ _ _ r0
  clear r0
  go_wp2_with fail
  refine (h2 _ hM).mono ?_
  rintro e wB ⟨rfl, hP⟩
  clear h2 hM c1 c2
  have HP : Hid (Post wB) := hP
  clear hP
  go_wp2
  go_ret
  exact ⟨rfl, HP.out⟩

set_option maxRecDepth 100000 in
set_option maxHeartbeats 2000000 in
theorem step_k0 (B1 B2 : Nat) (k z : Int) (n l t g : ByteArray) (w : World) (hk : k < 1 ∨ 5 < k) :
    Calls Tryz.prog 8 #[.pointer (some ⟨B1, 0, none⟩), .pointer (some ⟨B2, 0, none⟩), .agg #[.int .i64 k, .int .i64 z, .string n, .string l, .string t, .string g]] w fun e w' => e = .returned (.bool true) ∧ Below w.heap.size w w' := by
  have k1 : (k == 1) = false := beq_false_of_ne (by omega)
  have k2 : (k == 2) = false := beq_false_of_ne (by omega)
  have k3 : (k == 3) = false := beq_false_of_ne (by omega)
  have k4 : (k == 4) = false := beq_false_of_ne (by omega)
  have k5 : (k == 5) = false := beq_false_of_ne (by omega)
  have HB : Hid (Below w.heap.size w (w.alloc (.cells #[.int .i64 k, .int .i64 z, .string n, .string l, .string t, .string g] 34))) := (Below.refl w.heap.size w).alloc (Nat.le_refl _) _
  clear hk
  have hcut := fun (s : ByteArray) (z : Int) (hz : 0 ≤ z) W => cutI_any s z hz W
  have r0 : (w.alloc (.cells #[.int .i64 k, .int .i64 z, .string n, .string l, .string t, .string g] 34)).heap[w.heap.size]? = some (.cells #[.int .i64 k, .int .i64 z, .string n, .string l, .string t, .string g] 34 (0, 0)) := heap_alloc_new w _
  generalize hW : w.alloc (.cells #[.int .i64 k, .int .i64 z, .string n, .string l, .string t, .string g] 34) = wb at *
  have c0 : wb.cell? ⟨w.heap.size, 0, none⟩ = some (.int .i64 k) := cell_of_row _ _ _ _ _ _ r0
  have c1 : wb.cell? ⟨w.heap.size, 1, none⟩ = some (.int .i64 z) := cell_of_row _ _ _ _ _ _ r0
  have c2 : wb.cell? ⟨w.heap.size, 2, none⟩ = some (.string n) := cell_of_row _ _ _ _ _ _ r0
  have c3 : wb.cell? ⟨w.heap.size, 3, none⟩ = some (.string l) := cell_of_row _ _ _ _ _ _ r0
  have c4 : wb.cell? ⟨w.heap.size, 4, none⟩ = some (.string t) := cell_of_row _ _ _ _ _ _ r0
  have c5 : wb.cell? ⟨w.heap.size, 5, none⟩ = some (.string g) := cell_of_row _ _ _ _ _ _ r0
  clear r0
  go_enter Tryz.func8, Tryz.ntmps8
  go_wp2_with fail
  refine (hcut t 600 (by decide) _).mono ?_
  rintro e wc ⟨rfl, rfl⟩
  go_wp2_with fail
  refine (hcut l 100 (by decide) _).mono ?_
  rintro e wc ⟨rfl, rfl⟩
  clear hcut c1 c2 c3 c4 c5
  go_wp2
  go_ret
  exact ⟨rfl, HB.out⟩
end Go.Proofs.YtfmaajfohieneaaGreatDoor

namespace Go.Proofs.YtfmaajfohieneaaGreatDoor
set_option maxRecDepth 20000
open Go.ChangeShapes Go.WideShapes Go.RowKit Go.Deep

structure OpV where
  kind : Int
  salt : Int
  nonce : ByteArray
  label : ByteArray
  text : ByteArray
  tag : ByteArray
instance : Inhabited OpV := ⟨⟨0, 0, ⟨#[]⟩, ⟨#[]⟩, ⟨#[]⟩, ⟨#[]⟩⟩⟩
structure OpV.Ok (x : OpV) : Prop where
  kind : (Lit.int .i64 x.kind).wf = true
  salt : (Lit.int .i64 x.salt).wf = true
  nonce : x.nonce.size ≤ 140737488355328
  label : x.label.size ≤ 140737488355328
  text : x.text.size ≤ 140737488355328
  tag : x.tag.size ≤ 140737488355328
def OpV.cells (x : OpV) : List Value := [.int .i64 x.kind, .int .i64 x.salt, .string x.nonce, .string x.label, .string x.text, .string x.tag]
structure OpVAt (W : World) (g o : Nat) (x : OpV) : Prop where
  c0 : W.cell? ⟨g, o, none⟩ = some (.int .i64 x.kind)
  c1 : W.cell? ⟨g, o + 1, none⟩ = some (.int .i64 x.salt)
  c2 : W.cell? ⟨g, o + 2, none⟩ = some (.string x.nonce)
  c3 : W.cell? ⟨g, o + 3, none⟩ = some (.string x.label)
  c4 : W.cell? ⟨g, o + 4, none⟩ = some (.string x.text)
  c5 : W.cell? ⟨g, o + 5, none⟩ = some (.string x.tag)
def OpsV (W : World) (v : Value) (l : List OpV) : Prop := (∀ x ∈ l, x.Ok) ∧ ((∃ oa cap, v = .slice oa 0 cap ∧ l = []) ∨ ∃ g o cap, v = .slice (some ⟨g, o, none⟩) l.length cap ∧ g < W.heap.size ∧ ∀ i x, l[i]? = some x → OpVAt W g (o + i * 6) x)
/-- A list of texts that came in. -/
def StrsV (W : World) (v : Value) (l : List ByteArray) : Prop := (∀ x ∈ l, x.size ≤ 140737488355328) ∧ ((∃ oa cap, v = .slice oa 0 cap ∧ l = []) ∨ ∃ g o cap, v = .slice (some ⟨g, o, none⟩) l.length cap ∧ g < W.heap.size ∧ ∀ i x, l[i]? = some x → W.cell? ⟨g, o + i, none⟩ = some (.string x))

section
variable {H : Type} {enc : TypeId × Value → H} {W : World}
theorem weights_all {P : Program} {e : TypeId} {d : DataW H} {n : Nat} : ∀ {l : List (DataW H)}, d ∈ l → n ∈ d.weights P e → n ∈ DataW.weightsAll P e l
  | x :: r, hd, hn => by
    rw [DataW.weightsAll, List.mem_append]
    rcases List.mem_cons.1 hd with rfl | hd
    · exact .inl hn
    · exact .inr (weights_all hd hn)
theorem weights_slice {P : Program} {t e : TypeId} (hu : P.underlying t = some (.slice e)) {len m : Nat} {D : Nat → DataW H} {sp : List (DataW H)} {i n : Nat} (hi : i < len) (hn : n ∈ (D i).weights P e) (_ : m = m) : n ∈ (DataW.slice ((List.range len).map D) sp).weights P t := by
  simp only [DataW.weights, hu, List.mem_cons, List.mem_append]
  exact .inr (.inl (weights_all (List.mem_map.2 ⟨i, List.mem_range.2 hi, rfl⟩) hn))
theorem weights_field {P : Program} {t ft : TypeId} {fs : Array Field} (hu : P.underlying t = some (.struct fs)) {xs : List (DataW H)} {i : Nat} {s : List UInt8} (hf : (fs.toList.map (·.type))[i]? = some ft) (hx : xs[i]? = some (.lit (.string s))) : s.length ∈ (DataW.agg xs).weights P t := by
  simp only [DataW.weights, hu]
  exact DataW.weights_mem_each hf hx s.length (by simp [DataW.weights])
theorem reach_le {n : Nat} (h : n ≤ reachBytes) : n ≤ 140737488355328 := Nat.le_trans h (by decide)
set_option maxRecDepth 100000 in
theorem opv_of_cells {fuel : Nat} {cs : List Value} {x : DataW H × List MemPlace} (h : DataW.trod enc Tryz.prog W 0 (fun _ => true) true fuel 34 cs = some x) (hw : ∀ n ∈ x.1.weights Tryz.prog 34, n ≤ reachBytes) : ∃ o : OpV, o.Ok ∧ cs = o.cells := by
  obtain ⟨xs, n, _, rfl, hl, hlen, hf⟩ := DataW.trod_struct Tryz.underlying34 h
  have h6 : Tryz.prog.cellsOf 34 = 6 := by kernel_rfl
  rw [h6] at hl
  match xs, hlen with
  | [y0, y1, y2, y3, y4, y5], _ =>
  match cs, hl with
  | [d0, d1, d2, d3, d4, d5], _ =>
  have g : ∀ (i t o : Nat) (f : Field) (d : Value) (y : DataW H × List MemPlace), (match Tryz.prog.underlying 34 with | some (.struct fs) => fs[i]? | _ => none) = some f → f.type = t → f.offset = o → Tryz.prog.cellsOf t = 1 → (([d0, d1, d2, d3, d4, d5] : List Value).drop o).take 1 = [d] → ([y0, y1, y2, y3, y4, y5] : List (DataW H × List MemPlace))[i]? = some y → DataW.trod enc Tryz.prog W 0 (fun _ => true) true n t [d] = some y := fun i t o f d y h0 h1 h2 h3 h4 h5 => by
    rw [Tryz.underlying34] at h0
    have := hf i f h0
    rw [h1, h2, h3, h4, h5] at this
    exact this
  have f0 := g 0 3 0 _ d0 y0 (by rw [Tryz.underlying34]; rfl) rfl rfl cells_num rfl rfl
  have f1 := g 1 3 1 _ d1 y1 (by rw [Tryz.underlying34]; rfl) rfl rfl cells_num rfl rfl
  have f2 := g 2 9 2 _ d2 y2 (by rw [Tryz.underlying34]; rfl) rfl rfl cells_str rfl rfl
  have f3 := g 3 9 3 _ d3 y3 (by rw [Tryz.underlying34]; rfl) rfl rfl cells_str rfl rfl
  have f4 := g 4 9 4 _ d4 y4 (by rw [Tryz.underlying34]; rfl) rfl rfl cells_str rfl rfl
  have f5 := g 5 9 5 _ d5 y5 (by rw [Tryz.underlying34]; rfl) rfl rfl cells_str rfl rfl
  obtain ⟨k, hk, _, wk⟩ := DataW.trod_int Tryz.underlying3 f0
  obtain ⟨z, hz, _, wz⟩ := DataW.trod_int Tryz.underlying3 f1
  obtain ⟨a, ha, e2, _⟩ := DataW.trod_string Tryz.underlying9 f2
  obtain ⟨b, hb, e3, _⟩ := DataW.trod_string Tryz.underlying9 f3
  obtain ⟨c, hc, e4, _⟩ := DataW.trod_string Tryz.underlying9 f4
  obtain ⟨d, hd, e5, _⟩ := DataW.trod_string Tryz.underlying9 f5
  simp only [List.cons.injEq, and_true] at hk hz ha hb hc hd
  subst hk hz ha hb hc hd e2 e3 e4 e5
  have w2 := hw _ (weights_field (ft := 9) (s := a.data.toList) (i := 2) Tryz.underlying34 rfl rfl)
  have w3 := hw _ (weights_field (ft := 9) (s := b.data.toList) (i := 3) Tryz.underlying34 rfl rfl)
  have w4 := hw _ (weights_field (ft := 9) (s := c.data.toList) (i := 4) Tryz.underlying34 rfl rfl)
  have w5 := hw _ (weights_field (ft := 9) (s := d.data.toList) (i := 5) Tryz.underlying34 rfl rfl)
  have l2 : a.data.toList.length = a.size := by simp
  have l3 : b.data.toList.length = b.size := by simp
  have l4 : c.data.toList.length = c.size := by simp
  have l5 : d.data.toList.length = d.size := by simp
  rw [l2] at w2
  rw [l3] at w3
  rw [l4] at w4
  rw [l5] at w5
  exact ⟨⟨k, z, a, b, c, d⟩, ⟨wk, wz, reach_le w2, reach_le w3, reach_le w4, reach_le w5⟩, rfl⟩
set_option maxRecDepth 100000 in
theorem opv_of_trod {v : Value} {d : DataW H} {p : List MemPlace} {base : Nat} (hok : Value.okWide Tryz.prog W .any base 34 v) (h : DataW.Trod enc Tryz.prog W 0 (fun _ => true) true 34 v d p) (hw : ∀ n ∈ d.weights Tryz.prog 34, n ≤ reachBytes) : ∃ o : OpV, o.Ok ∧ v = .agg o.cells.toArray := by
  obtain ⟨cs, rfl, _⟩ := okWide_struct Tryz.underlying34 hok
  obtain ⟨fuel, hf⟩ := h
  obtain ⟨o, ho, e⟩ := opv_of_cells hf hw
  refine ⟨o, ho, ?_⟩
  have e : cs.toList = o.cells := e
  rw [← e]
set_option maxRecDepth 100000 in
theorem opsv_of_trod {v : Value} {d : DataW H} {p : List MemPlace} {base : Nat} (hok : Value.okWide Tryz.prog W .any base 22 v) (h : DataW.Trod enc Tryz.prog W 0 (fun _ => true) true 22 v d p) (hw : ∀ n ∈ d.weights Tryz.prog 22, n ≤ reachBytes) : ∃ l, OpsV W v l := by
  obtain ⟨a0, len, cap, rfl⟩ := okWide_slice Tryz.underlying22 hok
  obtain ⟨fuel, hf⟩ := h
  have hlt := DataW.trod_lt fuel _ _ _ hf
  have h6 : Tryz.prog.cellsOf 34 = 6 := by kernel_rfl
  rcases open_slice Tryz.underlying22 hf with ⟨hcs, hx⟩ | ⟨a, len', cap', m, n, D, Pl, hcs, _, hl, hm, hmm, hx0, hx⟩
  · simp [Value.cells] at hcs
    obtain ⟨rfl, rfl, rfl⟩ := hcs
    exact ⟨[], by simp, .inl ⟨none, 0, rfl, rfl⟩⟩
  · simp [Value.cells] at hcs
    obtain ⟨rfl, rfl, rfl⟩ := hcs
    simp only [if_true] at hmm
    by_cases h0 : len = 0
    · subst h0; exact ⟨[], by simp, .inl ⟨_, _, rfl, rfl⟩⟩
    rw [h6] at hx hx0
    simp only [Prod.mk.injEq] at hx0
    obtain ⟨hd0, hp0⟩ := hx0
    obtain ⟨b, off, spot⟩ := a
    have hsp : spot = none := by
      obtain ⟨cs', h1, h2⟩ := hx 0 (by omega)
      obtain ⟨_, hlen, hc⟩ := World.cells?_some h1
      have := hc 0 (by omega)
      rw [List.getElem?_eq_getElem (by omega)] at this
      simpa [Addr.add] using World.cell?_spot this
    subst hsp
    have hV : ∀ i, i < len → ∃ x : OpV, x.Ok ∧ OpVAt W b (off + i * 6) x := fun i hi => by
      obtain ⟨cs', h1, h2⟩ := hx i (by omega)
      obtain ⟨_, hlen, hc⟩ := World.cells?_some h1
      obtain ⟨x, hox, rfl⟩ := opv_of_cells h2 (fun k hk => hw k (by rw [hd0]; exact weights_slice (m := m) Tryz.underlying22 hi hk rfl))
      have g : ∀ c, c < 6 → W.cell? ⟨b, off + i * 6 + c, none⟩ = x.cells[c]? := fun c hc6 => by
        rw [← hc c hc6, add_plain, add_plain]
      exact ⟨x, hox, g 0 (by omega), g 1 (by omega), g 2 (by omega), g 3 (by omega), g 4 (by omega), g 5 (by omega)⟩
    obtain ⟨f, hf⟩ := choose_lt hV
    have hbW : b < W.heap.size := hlt (.cell b off) (by rw [hp0]; exact List.mem_append_left _ (MemPlace.mem_row.2 ⟨0, by omega, by simp⟩))
    refine ⟨(List.range len).map f, fun x hx => ?_, .inr ⟨b, off, cap, by simp, hbW, fun i u hu => ?_⟩⟩
    · obtain ⟨i, hi, rfl⟩ := List.mem_map.1 hx
      exact (hf i (List.mem_range.1 hi)).1
    rw [List.getElem?_map] at hu
    have hi : i < len := by
      by_cases hi : i < len
      · exact hi
      · rw [List.getElem?_eq_none (by simp; omega)] at hu; cases hu
    rw [List.getElem?_range hi] at hu
    simp only [Option.map_some, Option.some.injEq] at hu
    rw [← hu]
    exact (hf i hi).2
set_option maxRecDepth 100000 in
theorem strsv_of_trod {v : Value} {d : DataW H} {p : List MemPlace} {base : Nat} (hok : Value.okWide Tryz.prog W .any base 45 v) (h : DataW.Trod enc Tryz.prog W 0 (fun _ => true) true 45 v d p) (hw : ∀ n ∈ d.weights Tryz.prog 45, n ≤ reachBytes) : ∃ l, StrsV W v l := by
  obtain ⟨a0, len, cap, rfl⟩ := okWide_slice Tryz.underlying45 hok
  obtain ⟨fuel, hf⟩ := h
  have hlt := DataW.trod_lt fuel _ _ _ hf
  rcases open_slice1 Tryz.underlying45 cells_str hf with ⟨hcs, hx⟩ | ⟨a, len', cap', m, n, V, D, Pl, hcs, _, hl, hm, hmm, hx0, hx⟩
  · simp [Value.cells] at hcs
    obtain ⟨rfl, rfl, rfl⟩ := hcs
    exact ⟨[], by simp, .inl ⟨none, 0, rfl, rfl⟩⟩
  · simp [Value.cells] at hcs
    obtain ⟨rfl, rfl, rfl⟩ := hcs
    simp only [if_true] at hmm
    by_cases h0 : len = 0
    · subst h0; exact ⟨[], by simp, .inl ⟨_, _, rfl, rfl⟩⟩
    simp only [Prod.mk.injEq] at hx0
    obtain ⟨hd0, hp0⟩ := hx0
    have hV : ∀ i, i < len → ∃ s : ByteArray, s.size ≤ 140737488355328 ∧ W.cell? (a.add i) = some (.string s) := fun i hi => by
      obtain ⟨h1, h2⟩ := hx i (by omega)
      obtain ⟨s, hb, e, _⟩ := DataW.trod_string Tryz.underlying9 h2
      simp only [List.cons.injEq, and_true] at hb
      simp only [Prod.mk.injEq] at e
      have := hw s.data.toList.length (by rw [hd0]; exact weights_slice (m := m) Tryz.underlying45 hi (by rw [e.1]; simp [DataW.weights]) rfl)
      exact ⟨s, reach_le (by simpa using this), by rw [h1, hb]⟩
    obtain ⟨f, hf⟩ := choose_lt hV
    obtain ⟨b, off, spot⟩ := a
    have hspot : spot = none := by simpa [Addr.add] using World.cell?_spot (hf 0 (by omega)).2
    subst hspot
    have hbW : b < W.heap.size := hlt (.cell b off) (by rw [hp0]; exact List.mem_append_left _ (MemPlace.mem_row.2 ⟨0, by omega, by simp⟩))
    refine ⟨(List.range len).map f, fun x hx => ?_, .inr ⟨b, off, cap, by simp, hbW, fun i u hu => ?_⟩⟩
    · obtain ⟨i, hi, rfl⟩ := List.mem_map.1 hx
      exact (hf i (List.mem_range.1 hi)).1
    rw [List.getElem?_map] at hu
    have hi : i < len := by
      by_cases hi : i < len
      · exact hi
      · rw [List.getElem?_eq_none (by simp; omega)] at hu; cases hu
    rw [List.getElem?_range hi] at hu
    simp only [Option.map_some, Option.some.injEq] at hu
    rw [← hu, ← add_plain]
    exact (hf i hi).2
theorem each_le {P : Program} {ts : List TypeId} {ds : List (DataW H)} (h : (DataW.weightsEach P ts ds).all (· ≤ reachBytes) = true) {j : Nat} {t : TypeId} {d : DataW H} (ht : ts[j]? = some t) (hd : ds[j]? = some d) : ∀ n ∈ d.weights P t, n ≤ reachBytes := fun n hn => by
  simpa using List.all_eq_true.1 h n (DataW.weights_mem_each ht hd n hn)
end
theorem OpsV.form {W : World} {v : Value} {l : List OpV} (h : OpsV W v l) : ∃ oa cap, v = .slice oa l.length cap := by
  rcases h.2 with ⟨oa, cap, rfl, rfl⟩ | ⟨g, o, cap, rfl, _⟩
  · exact ⟨_, _, rfl⟩
  · exact ⟨_, _, rfl⟩
theorem OpsV.get {W : World} {oa : Option Addr} {cap : Nat} {l : List OpV} (h : OpsV W (.slice oa l.length cap) l) (hl : 0 < l.length) : ∃ g o, oa = some ⟨g, o, none⟩ ∧ g < W.heap.size ∧ ∀ i x, l[i]? = some x → OpVAt W g (o + i * 6) x := by
  rcases h.2 with ⟨oa', cap', e, e2⟩ | ⟨g, o, cap', e, hg, hx⟩
  · rw [e2] at hl; exact absurd hl (Nat.lt_irrefl 0)
  · cases e; exact ⟨g, o, rfl, hg, hx⟩
theorem StrsV.form {W : World} {v : Value} {l : List ByteArray} (h : StrsV W v l) : ∃ oa cap, v = .slice oa l.length cap := by
  rcases h.2 with ⟨oa, cap, rfl, rfl⟩ | ⟨g, o, cap, rfl, _⟩
  · exact ⟨_, _, rfl⟩
  · exact ⟨_, _, rfl⟩
theorem StrsV.get {W : World} {oa : Option Addr} {cap : Nat} {l : List ByteArray} (h : StrsV W (.slice oa l.length cap) l) (hl : 0 < l.length) : ∃ g o, oa = some ⟨g, o, none⟩ ∧ g < W.heap.size ∧ ∀ i x, l[i]? = some x → W.cell? ⟨g, o + i, none⟩ = some (.string x) := by
  rcases h.2 with ⟨oa', cap', e, e2⟩ | ⟨g, o, cap', e, hg, hx⟩
  · rw [e2] at hl; exact absurd hl (Nat.lt_irrefl 0)
  · cases e; exact ⟨g, o, rfl, hg, hx⟩
theorem OpVAt.later {W w' : World} {g o : Nat} {x : OpV} (h : OpVAt W g o x) (hg : g < W.heap.size) (hb : Below W.heap.size W w') : OpVAt w' g o x := by
  have hk := hb.block g hg
  have e : ∀ i, w'.cell? ⟨g, i, none⟩ = W.cell? ⟨g, i, none⟩ := fun i => World.cell?_of_block (a := ⟨g, i, none⟩) hk
  exact ⟨(e _).trans h.c0, (e _).trans h.c1, (e _).trans h.c2, (e _).trans h.c3, (e _).trans h.c4, (e _).trans h.c5⟩
end Go.Proofs.YtfmaajfohieneaaGreatDoor
