/- errors.As at a sector's error: the number is found; block's wrapped and numberOf. -/
import Derived.Test.YtdngoicpcocnnaaGreatDoorMg14
namespace Go.Proofs.YtdngoicpcocnnaaGreatDoor
set_option maxRecDepth 20000
open Go.RowKit Go.Extern.Stop Go.Stop Go.Extern

set_option maxHeartbeats 4000000 in
theorem as_in (x y : Int) (t a : Addr) (old : Value) (W : World) (ha : W.cell? a = some (.pointer (some t))) (ht0 : W.cell? t = some old) (hf0 : W.frozen? t = false) :
    Calls Tryz.prog 133 #[.iface 220 (.agg #[.int .i64 x, .int .i64 y]), .iface 194 (.pointer (some t)), .agg #[.pointer (some ⟨4, 194, none⟩), .pointer (some a), .int .u64 150], .iface 206 (.agg #[.pointer (some ⟨4, 23, none⟩)])] W fun ev w' => ev = .returned (.bool true) ∧ w' = (((W.alloc (.cells #[.pointer (some ⟨4, 194, none⟩), .pointer (some a), .int .u64 150] 223)).alloc (.cells #[.int .i64 x, .int .i64 y] 220)).alloc (.cells #[.int .i64 y] 23)).setCell t (.int .i64 y) := by
  have x_82v := @run_callFunc_extern Tryz.prog 130 _ (fun args => ReflectliteValue.unpack (args.getD 0 (.tuple #[]))) Tryz.func130 (by kernel_rfl) (by kernel_rfl) (by kernel_rfl) (by kernel_rfl)
  have x_tyv := @run_callFunc_extern Tryz.prog 131 _ (ReflectliteValue.methodAny (ReflectliteValue.valueError "reflectlite.Value.Type" 0) (fun t _ _ _ => ReflectliteType.toType t)) Tryz.func131 (by kernel_rfl) (by kernel_rfl) (by kernel_rfl) (by kernel_rfl)
  have x_nil := @run_callFunc_extern Tryz.prog 132 _ (ReflectliteValue.method (ReflectliteValue.valueError "reflectlite.Value.IsNil" 0) ReflectliteValue.isNil) Tryz.func132 (by kernel_rfl) (by kernel_rfl) (by kernel_rfl) (by kernel_rfl)
  have x_knd := @run_callFunc_extern Tryz.prog 173 _ (ReflectliteType.abiMethod fun t => do pure (.int .u8 (← Rtype.kind t))) Tryz.func173 (by kernel_rfl) (by kernel_rfl) (by kernel_rfl) (by kernel_rfl)
  have x_elt := @run_callFunc_extern Tryz.prog 192 _ (ReflectliteType.method ReflectliteType.elem) Tryz.func192 (by kernel_rfl) (by kernel_rfl) (by kernel_rfl) (by kernel_rfl)
  have x_imp := @run_callFunc_extern Tryz.prog 193 _ (ReflectliteType.relation "Implements" ReflectliteType.implements_) Tryz.func193 (by kernel_rfl) (by kernel_rfl) (by kernel_rfl) (by kernel_rfl)
  have x_tof := @run_callFunc_extern Tryz.prog 102 _ ReflectliteType.typeOf Tryz.func102 (by kernel_rfl) (by kernel_rfl) (by kernel_rfl) (by kernel_rfl)
  have x_asg := @run_callFunc_extern Tryz.prog 190 _ (ReflectliteType.relation "AssignableTo" ReflectliteType.assignableTo) Tryz.func190 (by kernel_rfl) (by kernel_rfl) (by kernel_rfl) (by kernel_rfl)
  have x_elv := @run_callFunc_extern Tryz.prog 137 _ (ReflectliteValue.method (ReflectliteValue.valueError "reflectlite.Value.Elem" 0) ReflectliteValue.elem) Tryz.func137 (by kernel_rfl) (by kernel_rfl) (by kernel_rfl) (by kernel_rfl)
  have x_set := @run_callFunc_extern Tryz.prog 138 _ ReflectliteValue.set Tryz.func138 (by kernel_rfl) (by kernel_rfl) (by kernel_rfl) (by kernel_rfl)
  have f1 := ae_valueOfP
  have f2 := ae_typeP
  have f3 := ae_methodKind
  have f4 := ae_methodElem
  have f5 := ae_methodImplements
  have f6 := ae_methodAssignableTo
  have f7 := ae_kindP
  have f8 := ae_kindE
  have f9 := ae_elemP
  have f10 := ae_implements
  have f11 := ae_typeOfS
  have f12 := ae_typeOfE
  have f13 := ae_assignS
  have f14 := ae_assignE
  have f15 := ae_valueOfE
  have f16 := ae_noAs
  have f17 := ae_hasUnwrap
  have f18 := ae_methodUnwrap
  have htl : t.block < W.heap.size := block_lt_of_cell ht0
  have hal : a.block < W.heap.size := block_lt_of_cell ha
  have el := ae_elemV a t ((W.alloc (.cells #[.pointer (some ⟨4, 194, none⟩), .pointer (some a), .int .u64 150] 223)).alloc (.cells #[.int .i64 x, .int .i64 y] 220)) (by rw [World.cell?_alloc_lt _ _ a (by simp; omega), World.cell?_alloc_lt _ _ a hal]; exact ha)
  have st := ae_set t ⟨W.heap.size + 1 + 1, 0, none⟩ y old (((W.alloc (.cells #[.pointer (some ⟨4, 194, none⟩), .pointer (some a), .int .u64 150] 223)).alloc (.cells #[.int .i64 x, .int .i64 y] 220)).alloc (.cells #[.int .i64 y] 23))
    (by rw [World.cell?_alloc_at _ _ _ _ (by simp)]; rfl)
    (by rw [World.cell?_alloc_lt _ _ t (by simp; omega), World.cell?_alloc_lt _ _ t (by simp; omega), World.cell?_alloc_lt _ _ t htl]; exact ht0)
    (by rw [World.frozen?_alloc_old _ _ t (by simp; omega), World.frozen?_alloc_old _ _ t (by simp; omega), World.frozen?_alloc_old _ _ t (Nat.ne_of_lt htl)]; exact hf0)
  clear ha ht0 hf0
  go_enter Tryz.func133, Tryz.ntmps133
  go_wp2_with fail
  refine wp_loop_rounds 2 ?_
  rw [rounds_succ]
  go_wp2_with fail
  refine (unwrap_any x y _).mono ?_
  rintro e w1 ⟨rfl, rfl⟩
  go_wp2_with fail
  rw [rounds_succ]
  go_wp2
  go_ret
  exact ⟨rfl, rfl⟩
set_option maxHeartbeats 4000000 in
theorem as_hit (x y : Int) (t : Addr) (old : Value) (w : World) (hg : w.cell? ⟨0, 0, none⟩ = some (.iface 206 (.agg #[.pointer (some ⟨4, 99, none⟩)]))) (ht0 : w.cell? t = some old) (hf0 : w.frozen? t = false) :
    Calls Tryz.prog 116 #[.iface 220 (.agg #[.int .i64 x, .int .i64 y]), .iface 194 (.pointer (some t))] w fun ev w' => ev = .returned (.bool true) ∧ w' = (((((w.alloc (.cells #[.pointer (some t)] 194)).alloc (.cells #[.pointer (some ⟨4, 194, none⟩), .pointer (some ⟨w.heap.size, 0, none⟩), .int .u64 150] 223)).alloc (.cells #[.pointer (some ⟨4, 194, none⟩), .pointer (some ⟨w.heap.size, 0, none⟩), .int .u64 150] 223)).alloc (.cells #[.int .i64 x, .int .i64 y] 220)).alloc (.cells #[.int .i64 y] 23)).setCell t (.int .i64 y) := by
  have x_82v := @run_callFunc_extern Tryz.prog 130 _ (fun args => ReflectliteValue.unpack (args.getD 0 (.tuple #[]))) Tryz.func130 (by kernel_rfl) (by kernel_rfl) (by kernel_rfl) (by kernel_rfl)
  have x_tyv := @run_callFunc_extern Tryz.prog 131 _ (ReflectliteValue.methodAny (ReflectliteValue.valueError "reflectlite.Value.Type" 0) (fun t _ _ _ => ReflectliteType.toType t)) Tryz.func131 (by kernel_rfl) (by kernel_rfl) (by kernel_rfl) (by kernel_rfl)
  have x_nil := @run_callFunc_extern Tryz.prog 132 _ (ReflectliteValue.method (ReflectliteValue.valueError "reflectlite.Value.IsNil" 0) ReflectliteValue.isNil) Tryz.func132 (by kernel_rfl) (by kernel_rfl) (by kernel_rfl) (by kernel_rfl)
  have x_knd := @run_callFunc_extern Tryz.prog 173 _ (ReflectliteType.abiMethod fun t => do pure (.int .u8 (← Rtype.kind t))) Tryz.func173 (by kernel_rfl) (by kernel_rfl) (by kernel_rfl) (by kernel_rfl)
  have x_elt := @run_callFunc_extern Tryz.prog 192 _ (ReflectliteType.method ReflectliteType.elem) Tryz.func192 (by kernel_rfl) (by kernel_rfl) (by kernel_rfl) (by kernel_rfl)
  have x_imp := @run_callFunc_extern Tryz.prog 193 _ (ReflectliteType.relation "Implements" ReflectliteType.implements_) Tryz.func193 (by kernel_rfl) (by kernel_rfl) (by kernel_rfl) (by kernel_rfl)
  have x_tof := @run_callFunc_extern Tryz.prog 102 _ ReflectliteType.typeOf Tryz.func102 (by kernel_rfl) (by kernel_rfl) (by kernel_rfl) (by kernel_rfl)
  have x_asg := @run_callFunc_extern Tryz.prog 190 _ (ReflectliteType.relation "AssignableTo" ReflectliteType.assignableTo) Tryz.func190 (by kernel_rfl) (by kernel_rfl) (by kernel_rfl) (by kernel_rfl)
  have x_elv := @run_callFunc_extern Tryz.prog 137 _ (ReflectliteValue.method (ReflectliteValue.valueError "reflectlite.Value.Elem" 0) ReflectliteValue.elem) Tryz.func137 (by kernel_rfl) (by kernel_rfl) (by kernel_rfl) (by kernel_rfl)
  have x_set := @run_callFunc_extern Tryz.prog 138 _ ReflectliteValue.set Tryz.func138 (by kernel_rfl) (by kernel_rfl) (by kernel_rfl) (by kernel_rfl)
  have f1 := ae_valueOfP
  have f2 := ae_typeP
  have f3 := ae_methodKind
  have f4 := ae_methodElem
  have f5 := ae_methodImplements
  have f6 := ae_methodAssignableTo
  have f7 := ae_kindP
  have f8 := ae_kindE
  have f9 := ae_elemP
  have f10 := ae_implements
  have f11 := ae_typeOfS
  have f12 := ae_typeOfE
  have f13 := ae_assignS
  have f14 := ae_assignE
  have f15 := ae_valueOfE
  have f16 := ae_noAs
  have f17 := ae_hasUnwrap
  have f18 := ae_methodUnwrap
  have hlt : 0 < w.heap.size := lt_of_cell_ hg
  have htl : t.block < w.heap.size := block_lt_of_cell ht0
  have hg2 : ((w.alloc (.cells #[.pointer (some t)] 194)).alloc (.cells #[.pointer (some ⟨4, 194, none⟩), .pointer (some ⟨w.heap.size, 0, none⟩), .int .u64 150] 223)).cell? ⟨0, 0, none⟩ = some (.iface 206 (.agg #[.pointer (some ⟨4, 99, none⟩)])) := by
    rw [World.cell?_alloc_lt _ _ ⟨0, 0, none⟩ (by simp <;> omega), World.cell?_alloc_lt _ _ ⟨0, 0, none⟩ hlt]; exact hg
  have n8 := ae_isNil ⟨w.heap.size, 0, none⟩ t ((w.alloc (.cells #[.pointer (some t)] 194)).alloc (.cells #[.pointer (some ⟨4, 194, none⟩), .pointer (some ⟨w.heap.size, 0, none⟩), .int .u64 150] 223)) (by simp)
  have hin := as_in x y t ⟨w.heap.size, 0, none⟩ old ((w.alloc (.cells #[.pointer (some t)] 194)).alloc (.cells #[.pointer (some ⟨4, 194, none⟩), .pointer (some ⟨w.heap.size, 0, none⟩), .int .u64 150] 223)) (by simp) (by rw [World.cell?_alloc_lt _ _ t (by simp; omega), World.cell?_alloc_lt _ _ t htl]; exact ht0) (by rw [World.frozen?_alloc_old _ _ t (by simp; omega), World.frozen?_alloc_old _ _ t (Nat.ne_of_lt htl)]; exact hf0)
  go_enter Tryz.func116, Tryz.ntmps116
  go_wp2_with fail
  refine hin.mono ?_
  rintro e w1 ⟨rfl, rfl⟩
  go_wp2
  go_ret
  exact ⟨rfl, rfl⟩
/-- What package errors' variable holds. -/
def ErrT (w : World) : Prop := w.cell? ⟨0, 0, none⟩ = some (.iface 206 (.agg #[.pointer (some ⟨4, 99, none⟩)]))
theorem ErrT.below {w w' : World} {B : Nat} (h : ErrT w) (hb : Below B w w') (hB : 0 < B) : ErrT w' := (hb.cell (p := ⟨0, 0, none⟩) hB).trans h
/-- A sector's error: none, or the number with its sector. -/
def secErr (x y : Int) : Value := if y = 0 then .nilIface else .iface 220 (.agg #[.int .i64 x, .int .i64 y])
theorem wrapped_any (x y : Int) (w : World) : Calls Tryz.prog 115 #[.int .i64 x, .int .i64 y] w fun e w' => e = .returned (secErr x y) ∧ w' = w := by
  by_cases hy : y = 0
  · have HE : Hid (secErr x y = .nilIface) := if_pos hy
    rw [HE.out]
    subst hy
    go_enter Tryz.func115, Tryz.ntmps115
    go_wp2
    go_ret
    exact ⟨rfl, rfl⟩
  · have HE : Hid (secErr x y = .iface 220 (.agg #[.int .i64 x, .int .i64 y])) := if_neg hy
    rw [HE.out]
    have hy' : (y == 0) = false := beq_false_of_ne hy
    go_enter Tryz.func115, Tryz.ntmps115
    go_wp2
    go_ret
    exact ⟨rfl, rfl⟩
set_option maxHeartbeats 2000000 in
theorem numberOf_any (x y : Int) (w : World) (hg : ErrT w) : Calls Tryz.prog 85 #[secErr x y] w fun e w' => e = .returned (.int .i64 y) ∧ Below w.heap.size w w' := by
  by_cases hy : y = 0
  · have HE : Hid (secErr x y = .nilIface) := if_pos hy
    rw [HE.out]
    subst hy
    have HB : Hid (Below w.heap.size w (w.alloc (.cells #[.int .i64 0] 23))) := (Below.refl _ _).alloc (Nat.le_refl _) _
    go_enter Tryz.func85, Tryz.ntmps85
    go_wp2_with fail
    refine (as_nil _ _).mono ?_
    rintro e w1 ⟨rfl, rfl⟩
    go_wp2
    go_ret
    exact ⟨rfl, HB.out⟩
  · have HE : Hid (secErr x y = .iface 220 (.agg #[.int .i64 x, .int .i64 y])) := if_neg hy
    rw [HE.out]
    have hlt := lt_of_cell_ hg
    obtain ⟨w0, hw0⟩ : ∃ w0, w.alloc (.cells #[.int .i64 0] 23) = w0 := ⟨_, rfl⟩
    have g0 : w0.heap[w.heap.size]? = some (.cells #[.int .i64 0] 23 (0, 0)) := by rw [← hw0]; exact heap_alloc_new w _
    have hb0 : Below w.heap.size w w0 := by rw [← hw0]; exact (Below.refl _ _).alloc (Nat.le_refl _) _
    have hz0 : w0.heap.size = w.heap.size + 1 := by rw [← hw0]; simp
    have hh := as_hit x y ⟨w.heap.size, 0, none⟩ (.int .i64 0) w0 (hg.below hb0 hlt) (cell_of_row _ _ _ _ _ _ g0) (by simp [World.frozen?, g0])
    have HX : Hid (∀ w', w' = (((((w0.alloc (.cells #[.pointer (some ⟨w.heap.size, 0, none⟩)] 194)).alloc (.cells #[.pointer (some ⟨4, 194, none⟩), .pointer (some ⟨w0.heap.size, 0, none⟩), .int .u64 150] 223)).alloc (.cells #[.pointer (some ⟨4, 194, none⟩), .pointer (some ⟨w0.heap.size, 0, none⟩), .int .u64 150] 223)).alloc (.cells #[.int .i64 x, .int .i64 y] 220)).alloc (.cells #[.int .i64 y] 23)).setCell ⟨w.heap.size, 0, none⟩ (.int .i64 y) → w'.cell? ⟨w.heap.size, 0, none⟩ = some (.int .i64 y) ∧ Below w.heap.size w w') := by
      rintro w' rfl
      refine ⟨?_, (hb0.trans (((((((Below.refl w.heap.size w0).alloc (by omega) _).alloc (by simp; omega) _).alloc (by simp; omega) _).alloc (by simp; omega) _).alloc (by simp; omega) _))).setCell (p := ⟨w.heap.size, 0, none⟩) (Nat.le_refl _) _⟩
      have q : (((((w0.alloc (.cells #[.pointer (some ⟨w.heap.size, 0, none⟩)] 194)).alloc (.cells #[.pointer (some ⟨4, 194, none⟩), .pointer (some ⟨w0.heap.size, 0, none⟩), .int .u64 150] 223)).alloc (.cells #[.pointer (some ⟨4, 194, none⟩), .pointer (some ⟨w0.heap.size, 0, none⟩), .int .u64 150] 223)).alloc (.cells #[.int .i64 x, .int .i64 y] 220)).alloc (.cells #[.int .i64 y] 23)).heap[w.heap.size]? = some (.cells #[.int .i64 0] 23 (0, 0)) := by
        rw [Below.heap_alloc _ _ _ (by simp; omega), Below.heap_alloc _ _ _ (by simp; omega), Below.heap_alloc _ _ _ (by simp; omega), Below.heap_alloc _ _ _ (by simp; omega), Below.heap_alloc _ _ _ (by omega)]
        exact g0
      have := heap_setCell_same _ w.heap.size 0 _ _ (.int .i64 y) q
      exact cell_of_row _ _ _ _ _ _ this
    clear hg hb0 hz0 g0
    go_enter Tryz.func85, Tryz.ntmps85
    go_wp2_with fail
    try rw [hw0]
    refine hh.mono ?_
    rintro e w1 ⟨rfl, hw1⟩
    obtain ⟨c1, hb1⟩ := HX.out w1 hw1
    have HB : Hid (Below w.heap.size w w1) := hb1
    clear HX hw1 hh hb1 hw0
    go_wp2
    go_ret
    exact ⟨rfl, HB.out⟩
end Go.Proofs.YtdngoicpcocnnaaGreatDoor
