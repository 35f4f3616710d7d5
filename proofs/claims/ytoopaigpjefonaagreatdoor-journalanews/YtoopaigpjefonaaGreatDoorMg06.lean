/- errors.As at a sector's error: the number is found; block's wrapped and numberOf. · A device in plain words: what is kept, what waits, the fuse, the power, the counts; and how it lies in memory. · plate's has, Held and Read, at a device that lies in memory. · plate's Arm, Spoil, Lay and the numbers that a device tells. · plate's Write: a sector is laid into the cache. -/
import Derived.Test.YtoopaigpjefonaaGreatDoorMg05
import Derived.Test.YtoopaigpjefonaaGreatDoorMg02
import Derived.Deep.RegionWith
import Derived.Deep.RegionLaw
import Derived.Deep.AppendLies
namespace Go.Proofs.YtoopaigpjefonaaGreatDoor
set_option maxRecDepth 20000
open Go.RowKit Go.Extern.Stop Go.Stop Go.Extern

set_option maxHeartbeats 4000000 in
theorem as_in (x y : Int) (t a : Addr) (old : Value) (W : World) (ha : W.cell? a = some (.pointer (some t))) (ht0 : W.cell? t = some old) (hf0 : W.frozen? t = false) :
    Calls Tryz.prog 187 #[.iface 288 (.agg #[.int .i64 x, .int .i64 y]), .iface 272 (.pointer (some t)), .agg #[.pointer (some ⟨6, 272, none⟩), .pointer (some a), .int .u64 150], .iface 240 (.agg #[.pointer (some ⟨6, 32, none⟩)])] W fun ev w' => ev = .returned (.bool true) ∧ w' = (((W.alloc (.cells #[.pointer (some ⟨6, 272, none⟩), .pointer (some a), .int .u64 150] 291)).alloc (.cells #[.int .i64 x, .int .i64 y] 288)).alloc (.cells #[.int .i64 y] 32)).setCell t (.int .i64 y) := by
  have x_82v := @run_callFunc_extern Tryz.prog 184 _ (fun args => ReflectliteValue.unpack (args.getD 0 (.tuple #[]))) Tryz.func184 (by kernel_rfl) (by kernel_rfl) (by kernel_rfl) (by kernel_rfl)
  have x_tyv := @run_callFunc_extern Tryz.prog 185 _ (ReflectliteValue.methodAny (ReflectliteValue.valueError "reflectlite.Value.Type" 0) (fun t _ _ _ => ReflectliteType.toType t)) Tryz.func185 (by kernel_rfl) (by kernel_rfl) (by kernel_rfl) (by kernel_rfl)
  have x_nil := @run_callFunc_extern Tryz.prog 186 _ (ReflectliteValue.method (ReflectliteValue.valueError "reflectlite.Value.IsNil" 0) ReflectliteValue.isNil) Tryz.func186 (by kernel_rfl) (by kernel_rfl) (by kernel_rfl) (by kernel_rfl)
  have x_knd := @run_callFunc_extern Tryz.prog 241 _ (ReflectliteType.abiMethod fun t => do pure (.int .u8 (← Rtype.kind t))) Tryz.func241 (by kernel_rfl) (by kernel_rfl) (by kernel_rfl) (by kernel_rfl)
  have x_elt := @run_callFunc_extern Tryz.prog 295 _ (ReflectliteType.method ReflectliteType.elem) Tryz.func295 (by kernel_rfl) (by kernel_rfl) (by kernel_rfl) (by kernel_rfl)
  have x_imp := @run_callFunc_extern Tryz.prog 296 _ (ReflectliteType.relation "Implements" ReflectliteType.implements_) Tryz.func296 (by kernel_rfl) (by kernel_rfl) (by kernel_rfl) (by kernel_rfl)
  have x_tof := @run_callFunc_extern Tryz.prog 112 _ ReflectliteType.typeOf Tryz.func112 (by kernel_rfl) (by kernel_rfl) (by kernel_rfl) (by kernel_rfl)
  have x_asg := @run_callFunc_extern Tryz.prog 293 _ (ReflectliteType.relation "AssignableTo" ReflectliteType.assignableTo) Tryz.func293 (by kernel_rfl) (by kernel_rfl) (by kernel_rfl) (by kernel_rfl)
  have x_elv := @run_callFunc_extern Tryz.prog 195 _ (ReflectliteValue.method (ReflectliteValue.valueError "reflectlite.Value.Elem" 0) ReflectliteValue.elem) Tryz.func195 (by kernel_rfl) (by kernel_rfl) (by kernel_rfl) (by kernel_rfl)
  have x_set := @run_callFunc_extern Tryz.prog 196 _ ReflectliteValue.set Tryz.func196 (by kernel_rfl) (by kernel_rfl) (by kernel_rfl) (by kernel_rfl)
  have f1 := ae_valueOfP
  have f2 := ae_typeP
  have f3 := ae_methodKind
  have f4 := ae_methodElem
  have f5 := ae_methodImplements
  have f6 := ae_methodAssignableTo
  have f7 := ae_kindP
  have f8 := ae_kindE
  have f9 := ae_elemP
  have f10 := ae_implements
  have f11 := ae_typeOfS
  have f12 := ae_typeOfE
  have f13 := ae_assignS
  have f14 := ae_assignE
  have f15 := ae_valueOfE
  have f16 := ae_noAs
  have f17 := ae_hasUnwrap
  have f18 := ae_methodUnwrap
  have htl : t.block < W.heap.size := block_lt_of_cell ht0
  have hal : a.block < W.heap.size := block_lt_of_cell ha
  have el := ae_elemV a t ((W.alloc (.cells #[.pointer (some ⟨6, 272, none⟩), .pointer (some a), .int .u64 150] 291)).alloc (.cells #[.int .i64 x, .int .i64 y] 288)) (by rw [World.cell?_alloc_lt _ _ a (by simp; omega), World.cell?_alloc_lt _ _ a hal]; exact ha)
  have st := ae_set t ⟨W.heap.size + 1 + 1, 0, none⟩ y old (((W.alloc (.cells #[.pointer (some ⟨6, 272, none⟩), .pointer (some a), .int .u64 150] 291)).alloc (.cells #[.int .i64 x, .int .i64 y] 288)).alloc (.cells #[.int .i64 y] 32))
    (by rw [World.cell?_alloc_at _ _ _ _ (by simp)]; rfl)
    (by rw [World.cell?_alloc_lt _ _ t (by simp; omega), World.cell?_alloc_lt _ _ t (by simp; omega), World.cell?_alloc_lt _ _ t htl]; exact ht0)
    (by rw [World.frozen?_alloc_old _ _ t (by simp; omega), World.frozen?_alloc_old _ _ t (by simp; omega), World.frozen?_alloc_old _ _ t (Nat.ne_of_lt htl)]; exact hf0)
  clear ha ht0 hf0
  go_enter Tryz.func187, Tryz.ntmps187
  go_wp2_with fail
  refine wp_loop_rounds 2 ?_
  rw [rounds_succ]
  go_wp2_with fail
  refine (unwrap_any x y _).mono ?_
  rintro e w1 ⟨rfl, rfl⟩
  go_wp2_with fail
  rw [rounds_succ]
  go_wp2
  go_ret
  exact ⟨rfl, rfl⟩
set_option maxHeartbeats 4000000 in
theorem as_hit (x y : Int) (t : Addr) (old : Value) (w : World) (hg : w.cell? ⟨3, 0, none⟩ = some (.iface 240 (.agg #[.pointer (some ⟨6, 73, none⟩)]))) (ht0 : w.cell? t = some old) (hf0 : w.frozen? t = false) :
    Calls Tryz.prog 169 #[.iface 288 (.agg #[.int .i64 x, .int .i64 y]), .iface 272 (.pointer (some t))] w fun ev w' => ev = .returned (.bool true) ∧ w' = (((((w.alloc (.cells #[.pointer (some t)] 272)).alloc (.cells #[.pointer (some ⟨6, 272, none⟩), .pointer (some ⟨w.heap.size, 0, none⟩), .int .u64 150] 291)).alloc (.cells #[.pointer (some ⟨6, 272, none⟩), .pointer (some ⟨w.heap.size, 0, none⟩), .int .u64 150] 291)).alloc (.cells #[.int .i64 x, .int .i64 y] 288)).alloc (.cells #[.int .i64 y] 32)).setCell t (.int .i64 y) := by
  have x_82v := @run_callFunc_extern Tryz.prog 184 _ (fun args => ReflectliteValue.unpack (args.getD 0 (.tuple #[]))) Tryz.func184 (by kernel_rfl) (by kernel_rfl) (by kernel_rfl) (by kernel_rfl)
  have x_tyv := @run_callFunc_extern Tryz.prog 185 _ (ReflectliteValue.methodAny (ReflectliteValue.valueError "reflectlite.Value.Type" 0) (fun t _ _ _ => ReflectliteType.toType t)) Tryz.func185 (by kernel_rfl) (by kernel_rfl) (by kernel_rfl) (by kernel_rfl)
  have x_nil := @run_callFunc_extern Tryz.prog 186 _ (ReflectliteValue.method (ReflectliteValue.valueError "reflectlite.Value.IsNil" 0) ReflectliteValue.isNil) Tryz.func186 (by kernel_rfl) (by kernel_rfl) (by kernel_rfl) (by kernel_rfl)
  have x_knd := @run_callFunc_extern Tryz.prog 241 _ (ReflectliteType.abiMethod fun t => do pure (.int .u8 (← Rtype.kind t))) Tryz.func241 (by kernel_rfl) (by kernel_rfl) (by kernel_rfl) (by kernel_rfl)
  have x_elt := @run_callFunc_extern Tryz.prog 295 _ (ReflectliteType.method ReflectliteType.elem) Tryz.func295 (by kernel_rfl) (by kernel_rfl) (by kernel_rfl) (by kernel_rfl)
  have x_imp := @run_callFunc_extern Tryz.prog 296 _ (ReflectliteType.relation "Implements" ReflectliteType.implements_) Tryz.func296 (by kernel_rfl) (by kernel_rfl) (by kernel_rfl) (by kernel_rfl)
  have x_tof := @run_callFunc_extern Tryz.prog 112 _ ReflectliteType.typeOf Tryz.func112 (by kernel_rfl) (by kernel_rfl) (by kernel_rfl) (by kernel_rfl)
  have x_asg := @run_callFunc_extern Tryz.prog 293 _ (ReflectliteType.relation "AssignableTo" ReflectliteType.assignableTo) Tryz.func293 (by kernel_rfl) (by kernel_rfl) (by kernel_rfl) (by kernel_rfl)
  have x_elv := @run_callFunc_extern Tryz.prog 195 _ (ReflectliteValue.method (ReflectliteValue.valueError "reflectlite.Value.Elem" 0) ReflectliteValue.elem) Tryz.func195 (by kernel_rfl) (by kernel_rfl) (by kernel_rfl) (by kernel_rfl)
  have x_set := @run_callFunc_extern Tryz.prog 196 _ ReflectliteValue.set Tryz.func196 (by kernel_rfl) (by kernel_rfl) (by kernel_rfl) (by kernel_rfl)
  have f1 := ae_valueOfP
  have f2 := ae_typeP
  have f3 := ae_methodKind
  have f4 := ae_methodElem
  have f5 := ae_methodImplements
  have f6 := ae_methodAssignableTo
  have f7 := ae_kindP
  have f8 := ae_kindE
  have f9 := ae_elemP
  have f10 := ae_implements
  have f11 := ae_typeOfS
  have f12 := ae_typeOfE
  have f13 := ae_assignS
  have f14 := ae_assignE
  have f15 := ae_valueOfE
  have f16 := ae_noAs
  have f17 := ae_hasUnwrap
  have f18 := ae_methodUnwrap
  have hlt : 3 < w.heap.size := lt_of_cell_ hg
  have htl : t.block < w.heap.size := block_lt_of_cell ht0
  have hg2 : ((w.alloc (.cells #[.pointer (some t)] 272)).alloc (.cells #[.pointer (some ⟨6, 272, none⟩), .pointer (some ⟨w.heap.size, 0, none⟩), .int .u64 150] 291)).cell? ⟨3, 0, none⟩ = some (.iface 240 (.agg #[.pointer (some ⟨6, 73, none⟩)])) := by
    rw [World.cell?_alloc_lt _ _ ⟨3, 0, none⟩ (by simp <;> omega), World.cell?_alloc_lt _ _ ⟨3, 0, none⟩ hlt]; exact hg
  have n8 := ae_isNil ⟨w.heap.size, 0, none⟩ t ((w.alloc (.cells #[.pointer (some t)] 272)).alloc (.cells #[.pointer (some ⟨6, 272, none⟩), .pointer (some ⟨w.heap.size, 0, none⟩), .int .u64 150] 291)) (by simp)
  have hin := as_in x y t ⟨w.heap.size, 0, none⟩ old ((w.alloc (.cells #[.pointer (some t)] 272)).alloc (.cells #[.pointer (some ⟨6, 272, none⟩), .pointer (some ⟨w.heap.size, 0, none⟩), .int .u64 150] 291)) (by simp) (by rw [World.cell?_alloc_lt _ _ t (by simp; omega), World.cell?_alloc_lt _ _ t htl]; exact ht0) (by rw [World.frozen?_alloc_old _ _ t (by simp; omega), World.frozen?_alloc_old _ _ t (Nat.ne_of_lt htl)]; exact hf0)
  go_enter Tryz.func169, Tryz.ntmps169
  go_wp2_with fail
  refine hin.mono ?_
  rintro e w1 ⟨rfl, rfl⟩
  go_wp2
  go_ret
  exact ⟨rfl, rfl⟩
/-- What package errors' variable holds. -/
def ErrT (w : World) : Prop := w.cell? ⟨3, 0, none⟩ = some (.iface 240 (.agg #[.pointer (some ⟨6, 73, none⟩)]))
theorem ErrT.below {w w' : World} {B : Nat} (h : ErrT w) (hb : Below B w w') (hB : 3 < B) : ErrT w' := (hb.cell (p := ⟨3, 0, none⟩) hB).trans h
/-- A sector's error: none, or the number with its sector. -/
def secErr (x y : Int) : Value := if y = 0 then .nilIface else .iface 288 (.agg #[.int .i64 x, .int .i64 y])
theorem wrapped_any (x y : Int) (w : World) : Calls Tryz.prog 168 #[.int .i64 x, .int .i64 y] w fun e w' => e = .returned (secErr x y) ∧ w' = w := by
  by_cases hy : y = 0
  · have HE : Hid (secErr x y = .nilIface) := if_pos hy
    rw [HE.out]
    subst hy
    go_enter Tryz.func168, Tryz.ntmps168
    go_wp2
    go_ret
    exact ⟨rfl, rfl⟩
  · have HE : Hid (secErr x y = .iface 288 (.agg #[.int .i64 x, .int .i64 y])) := if_neg hy
    rw [HE.out]
    have hy' : (y == 0) = false := beq_false_of_ne hy
    go_enter Tryz.func168, Tryz.ntmps168
    go_wp2
    go_ret
    exact ⟨rfl, rfl⟩
set_option maxHeartbeats 2000000 in
theorem numberOf_any (x y : Int) (w : World) (hg : ErrT w) : Calls Tryz.prog 141 #[secErr x y] w fun e w' => e = .returned (.int .i64 y) ∧ Below w.heap.size w w' := by
  by_cases hy : y = 0
  · have HE : Hid (secErr x y = .nilIface) := if_pos hy
    rw [HE.out]
    subst hy
    have HB : Hid (Below w.heap.size w (w.alloc (.cells #[.int .i64 0] 32))) := (Below.refl _ _).alloc (Nat.le_refl _) _
    go_enter Tryz.func141, Tryz.ntmps141
    go_wp2_with fail
    refine (as_nil _ _).mono ?_
    rintro e w1 ⟨rfl, rfl⟩
    go_wp2
    go_ret
    exact ⟨rfl, HB.out⟩
  · have HE : Hid (secErr x y = .iface 288 (.agg #[.int .i64 x, .int .i64 y])) := if_neg hy
    rw [HE.out]
    have hlt := lt_of_cell_ hg
    obtain ⟨w0, hw0⟩ : ∃ w0, w.alloc (.cells #[.int .i64 0] 32) = w0 := ⟨_, rfl⟩
    have g0 : w0.heap[w.heap.size]? = some (.cells #[.int .i64 0] 32 (0, 0)) := by rw [← hw0]; exact heap_alloc_new w _
    have hb0 : Below w.heap.size w w0 := by rw [← hw0]; exact (Below.refl _ _).alloc (Nat.le_refl _) _
    have hz0 : w0.heap.size = w.heap.size + 1 := by rw [← hw0]; simp
    have hh := as_hit x y ⟨w.heap.size, 0, none⟩ (.int .i64 0) w0 (hg.below hb0 hlt) (cell_of_row _ _ _ _ _ _ g0) (by simp [World.frozen?, g0])
    have HX : Hid (∀ w', w' = (((((w0.alloc (.cells #[.pointer (some ⟨w.heap.size, 0, none⟩)] 272)).alloc (.cells #[.pointer (some ⟨6, 272, none⟩), .pointer (some ⟨w0.heap.size, 0, none⟩), .int .u64 150] 291)).alloc (.cells #[.pointer (some ⟨6, 272, none⟩), .pointer (some ⟨w0.heap.size, 0, none⟩), .int .u64 150] 291)).alloc (.cells #[.int .i64 x, .int .i64 y] 288)).alloc (.cells #[.int .i64 y] 32)).setCell ⟨w.heap.size, 0, none⟩ (.int .i64 y) → w'.cell? ⟨w.heap.size, 0, none⟩ = some (.int .i64 y) ∧ Below w.heap.size w w') := by
      rintro w' rfl
      refine ⟨?_, (hb0.trans (((((((Below.refl w.heap.size w0).alloc (by omega) _).alloc (by simp; omega) _).alloc (by simp; omega) _).alloc (by simp; omega) _).alloc (by simp; omega) _))).setCell (p := ⟨w.heap.size, 0, none⟩) (Nat.le_refl _) _⟩
      have q : (((((w0.alloc (.cells #[.pointer (some ⟨w.heap.size, 0, none⟩)] 272)).alloc (.cells #[.pointer (some ⟨6, 272, none⟩), .pointer (some ⟨w0.heap.size, 0, none⟩), .int .u64 150] 291)).alloc (.cells #[.pointer (some ⟨6, 272, none⟩), .pointer (some ⟨w0.heap.size, 0, none⟩), .int .u64 150] 291)).alloc (.cells #[.int .i64 x, .int .i64 y] 288)).alloc (.cells #[.int .i64 y] 32)).heap[w.heap.size]? = some (.cells #[.int .i64 0] 32 (0, 0)) := by
        rw [Below.heap_alloc _ _ _ (by simp; omega), Below.heap_alloc _ _ _ (by simp; omega), Below.heap_alloc _ _ _ (by simp; omega), Below.heap_alloc _ _ _ (by simp; omega), Below.heap_alloc _ _ _ (by omega)]
        exact g0
      have := heap_setCell_same _ w.heap.size 0 _ _ (.int .i64 y) q
      exact cell_of_row _ _ _ _ _ _ this
    clear hg hb0 hz0 g0
    go_enter Tryz.func141, Tryz.ntmps141
    go_wp2_with fail
    try rw [hw0]
    refine hh.mono ?_
    rintro e w1 ⟨rfl, hw1⟩
    obtain ⟨c1, hb1⟩ := HX.out w1 hw1
    have HB : Hid (Below w.heap.size w w1) := hb1
    clear HX hw1 hh hb1 hw0
    go_wp2
    go_ret
    exact ⟨rfl, HB.out⟩
end Go.Proofs.YtoopaigpjefonaaGreatDoor

namespace Go.Proofs.YtoopaigpjefonaaGreatDoor
set_option maxRecDepth 20000
open Go.RowKit

structure PS where
  kept : List ByteArray
  wait : List (Nat × ByteArray)
  fuse : Int
  up : Bool
  reads : Int
  writes : Int

/-- The place behind the last write of a sector, and its text (the last one first). -/
def lastR : List (Nat × ByteArray) → Nat → Nat
  | [], _ => 0
  | (a, _) :: t, i => if a = i then t.length + 1 else lastR t i
def textR : List (Nat × ByteArray) → Nat → Option ByteArray
  | [], _ => none
  | (a, s) :: t, i => if a = i then some s else textR t i
def lastOf (l : List (Nat × ByteArray)) (i : Nat) : Nat := lastR l.reverse i
def textOf (l : List (Nat × ByteArray)) (i : Nat) : Option ByteArray := textR l.reverse i
theorem lastOf_nil (i : Nat) : lastOf [] i = 0 := rfl
theorem lastOf_snoc (l : List (Nat × ByteArray)) (a : Nat) (s : ByteArray) (i : Nat) : lastOf (l ++ [(a, s)]) i = if a = i then l.length + 1 else lastOf l i := by simp [lastOf, lastR]
theorem textOf_snoc (l : List (Nat × ByteArray)) (a : Nat) (s : ByteArray) (i : Nat) : textOf (l ++ [(a, s)]) i = if a = i then some s else textOf l i := by simp [textOf, textR]
theorem lastR_le (i : Nat) : ∀ r : List (Nat × ByteArray), lastR r i ≤ r.length
  | [] => Nat.le_refl _
  | (a, s) :: t => by
    have := lastR_le i t
    simp only [lastR, List.length_cons]
    split <;> omega
theorem lastOf_le (l : List (Nat × ByteArray)) (i : Nat) : lastOf l i ≤ l.length := by simpa [lastOf] using lastR_le i l.reverse
theorem lastR_zero (i : Nat) : ∀ r : List (Nat × ByteArray), lastR r i = 0 → textR r i = none
  | [], _ => rfl
  | (a, s) :: t, h => by
    simp only [lastR] at h
    simp only [textR]
    split
    · rename_i e; rw [if_pos e] at h; omega
    · rename_i e; rw [if_neg e] at h; exact lastR_zero i t h
theorem lastOf_zero {l : List (Nat × ByteArray)} {i : Nat} (h : lastOf l i = 0) : textOf l i = none := lastR_zero i _ h
theorem lastR_text (i k : Nat) : ∀ r : List (Nat × ByteArray), lastR r i = k + 1 → ∃ s, r.reverse[k]? = some (i, s) ∧ textR r i = some s
  | [], h => by simp [lastR] at h
  | (a, s) :: t, h => by
    simp only [lastR] at h
    simp only [textR]
    split
    · rename_i e
      rw [if_pos e] at h
      obtain rfl : k = t.length := by omega
      exact ⟨s, by rw [List.reverse_cons, List.getElem?_append_right (by simp)]; simp [e], rfl⟩
    · rename_i e
      rw [if_neg e] at h
      obtain ⟨s', h1, h2⟩ := lastR_text i k t h
      exact ⟨s', by rw [List.reverse_cons, List.getElem?_append_left (List.getElem?_eq_some_iff.1 h1).1]; exact h1, h2⟩
theorem lastOf_text {l : List (Nat × ByteArray)} {i k : Nat} (h : lastOf l i = k + 1) : ∃ s, l[k]? = some (i, s) ∧ textOf l i = some s := by
  obtain ⟨s, h1, h2⟩ := lastR_text i k _ h
  exact ⟨s, by simpa using h1, h2⟩

/-- The waiting writes as cells. -/
def waitC (l : List (Nat × ByteArray)) : List Value := l.flatMap fun p => [.int .i64 (p.1 : Nat), .string p.2]
theorem waitC_length (l : List (Nat × ByteArray)) : (waitC l).length = l.length * 2 := by
  induction l with
  | nil => rfl
  | cons p t ih => rw [waitC, List.flatMap_cons, List.length_append, ← waitC, ih]; simp; omega
theorem waitC_snoc (l : List (Nat × ByteArray)) (p : Nat × ByteArray) : waitC (l ++ [p]) = waitC l ++ [.int .i64 (p.1 : Nat), .string p.2] := by simp [waitC]
theorem waitC_get : ∀ (l : List (Nat × ByteArray)) (k a : Nat) (s : ByteArray), l[k]? = some (a, s) → (waitC l)[k * 2]? = some (.int .i64 (a : Nat)) ∧ (waitC l)[k * 2 + 1]? = some (.string s)
  | [], k, a, s, h => by simp at h
  | p :: t, 0, a, s, h => by
    simp at h
    subst h
    exact ⟨rfl, rfl⟩
  | p :: t, k + 1, a, s, h => by
    have := waitC_get t k a s (by simpa using h)
    rw [show waitC (p :: t) = .int .i64 (p.1 : Nat) :: .string p.2 :: waitC t from rfl, show (k + 1) * 2 = k * 2 + 1 + 1 by omega, show k * 2 + 1 + 1 + 1 = (k * 2 + 1) + 1 + 1 by omega]
    simpa using this

def plateC (K N n : Nat) (wv : Value) (S : PS) : List Value := [.slice (some ⟨K, 0, none⟩) n n, wv, .slice (some ⟨N, 0, none⟩) n n, .int .i64 S.fuse, .bool S.up, .int .i64 S.reads, .int .i64 S.writes]

structure PlateAt (w : World) (F : Nat → Prop) (B K N : Nat) (wv : Value) (S : PS) : Prop where
  row : Row w B 95 (plateC K N S.kept.length wv S)
  kept : Row w K 9 (S.kept.map Value.string)
  new : Row w N 3 (rowF S.kept.length fun i => .int .i64 (lastOf S.wait i : Nat))
  wait : w.ownsRow 0 214 2 wv S.wait.length (waitC S.wait)
  fB : F B
  fK : F K
  fN : F N
  fW : ∀ g, wv.ownBlock = some g → F g
  bk : B ≠ K
  bn : B ≠ N
  kn : K ≠ N
  wB : wv.ownBlock ≠ some B
  wK : wv.ownBlock ≠ some K
  wN : wv.ownBlock ≠ some N
  most : S.kept.length ≤ 32768
  ats : ∀ p ∈ S.wait, p.1 < S.kept.length ∧ p.2.size = 64
  texts : ∀ s ∈ S.kept, s.size = 0 ∨ s.size = 64
  fuse : -1 ≤ S.fuse ∧ S.fuse < 9223372036854775808
/-- A device in the blocks F, its head in block B. -/
def Plate (w : World) (F : Nat → Prop) (B : Nat) (S : PS) : Prop := ∃ K N wv, PlateAt w F B K N wv S

theorem PlateAt.keep {w w' : World} {F : Nat → Prop} {B K N : Nat} {wv : Value} {S : PS} (h : PlateAt w F B K N wv S) (hk : ∀ k, k < w.heap.size → F k → w'.heap[k]? = w.heap[k]?) : PlateAt w' F B K N wv S :=
  { h with
    row := (hk B h.row.lt h.fB).trans h.row
    kept := (hk K h.kept.lt h.fK).trans h.kept
    new := (hk N h.new.lt h.fN).trans h.new
    wait := owns_keep h.wait fun g hg => hk g (owns_lt h.wait g hg) (h.fW g hg) }
theorem PlateAt.mono {w : World} {F F' : Nat → Prop} {B K N : Nat} {wv : Value} {S : PS} (h : PlateAt w F B K N wv S) (hF : ∀ k, k < w.heap.size → F k → F' k) : PlateAt w F' B K N wv S :=
  { h with
    fB := hF _ h.row.lt h.fB
    fK := hF _ h.kept.lt h.fK
    fN := hF _ h.new.lt h.fN
    fW := fun g hg => hF g (owns_lt h.wait g hg) (h.fW g hg) }
theorem Plate.keep {w w' : World} {F : Nat → Prop} {B : Nat} {S : PS} (h : Plate w F B S) (hk : ∀ k, k < w.heap.size → F k → w'.heap[k]? = w.heap[k]?) : Plate w' F B S := by
  obtain ⟨K, N, wv, h⟩ := h
  exact ⟨K, N, wv, h.keep hk⟩
theorem Plate.mono {w : World} {F F' : Nat → Prop} {B : Nat} {S : PS} (h : Plate w F B S) (hF : ∀ k, k < w.heap.size → F k → F' k) : Plate w F' B S := by
  obtain ⟨K, N, wv, h⟩ := h
  exact ⟨K, N, wv, h.mono hF⟩
theorem Plate.below {w w' : World} {F : Nat → Prop} {B : Nat} {S : PS} (h : Plate w F B S) (hb : Below w.heap.size w w') : Plate w' F B S := h.keep fun k hk _ => hb.block k hk
theorem Plate.lt {w : World} {F : Nat → Prop} {B : Nat} {S : PS} (h : Plate w F B S) : B < w.heap.size := by
  obtain ⟨K, N, wv, h⟩ := h
  exact h.row.lt

/-- The cells of a device. -/
theorem PlateAt.c0 {w : World} {F : Nat → Prop} {B K N : Nat} {wv : Value} {S : PS} (h : PlateAt w F B K N wv S) : w.cell? ⟨B, 0, none⟩ = some (.slice (some ⟨K, 0, none⟩) S.kept.length S.kept.length) := h.row.cell 0
theorem PlateAt.c1 {w : World} {F : Nat → Prop} {B K N : Nat} {wv : Value} {S : PS} (h : PlateAt w F B K N wv S) : w.cell? ⟨B, 1, none⟩ = some wv := h.row.cell 1
theorem PlateAt.c2 {w : World} {F : Nat → Prop} {B K N : Nat} {wv : Value} {S : PS} (h : PlateAt w F B K N wv S) : w.cell? ⟨B, 2, none⟩ = some (.slice (some ⟨N, 0, none⟩) S.kept.length S.kept.length) := h.row.cell 2
theorem PlateAt.c3 {w : World} {F : Nat → Prop} {B K N : Nat} {wv : Value} {S : PS} (h : PlateAt w F B K N wv S) : w.cell? ⟨B, 3, none⟩ = some (.int .i64 S.fuse) := h.row.cell 3
theorem PlateAt.c4 {w : World} {F : Nat → Prop} {B K N : Nat} {wv : Value} {S : PS} (h : PlateAt w F B K N wv S) : w.cell? ⟨B, 4, none⟩ = some (.bool S.up) := h.row.cell 4
theorem PlateAt.c5 {w : World} {F : Nat → Prop} {B K N : Nat} {wv : Value} {S : PS} (h : PlateAt w F B K N wv S) : w.cell? ⟨B, 5, none⟩ = some (.int .i64 S.reads) := h.row.cell 5
theorem PlateAt.c6 {w : World} {F : Nat → Prop} {B K N : Nat} {wv : Value} {S : PS} (h : PlateAt w F B K N wv S) : w.cell? ⟨B, 6, none⟩ = some (.int .i64 S.writes) := h.row.cell 6
theorem PlateAt.cK {w : World} {F : Nat → Prop} {B K N : Nat} {wv : Value} {S : PS} (h : PlateAt w F B K N wv S) (i : Nat) (hi : i < S.kept.length) : w.cell? ⟨K, i, none⟩ = some (.string S.kept[i]) := by
  rw [h.kept.cell, List.getElem?_map, List.getElem?_eq_getElem hi]; rfl
theorem PlateAt.cN {w : World} {F : Nat → Prop} {B K N : Nat} {wv : Value} {S : PS} (h : PlateAt w F B K N wv S) (i : Nat) (hi : i < S.kept.length) : w.cell? ⟨N, i, none⟩ = some (.int .i64 (lastOf S.wait i : Nat)) := h.new.cellF i hi
/-- A number, or the power, of a device written anew. -/
theorem PlateAt.setFuse {w : World} {F : Nat → Prop} {B K N : Nat} {wv : Value} {S : PS} (h : PlateAt w F B K N wv S) (x : Int) (hx : -1 ≤ x ∧ x < 9223372036854775808) : PlateAt (w.setCell ⟨B, 3, none⟩ (.int .i64 x)) F B K N wv { S with fuse := x } :=
  { h with row := h.row.setL 3 _, kept := h.kept.off h.bk.symm _ _, new := h.new.off h.bn.symm _ _, wait := owns_off h.wait h.wB _ _, fuse := hx }
theorem PlateAt.setUp {w : World} {F : Nat → Prop} {B K N : Nat} {wv : Value} {S : PS} (h : PlateAt w F B K N wv S) (x : Bool) : PlateAt (w.setCell ⟨B, 4, none⟩ (.bool x)) F B K N wv { S with up := x } :=
  { h with row := h.row.setL 4 _, kept := h.kept.off h.bk.symm _ _, new := h.new.off h.bn.symm _ _, wait := owns_off h.wait h.wB _ _ }
theorem PlateAt.setReads {w : World} {F : Nat → Prop} {B K N : Nat} {wv : Value} {S : PS} (h : PlateAt w F B K N wv S) (x : Int) : PlateAt (w.setCell ⟨B, 5, none⟩ (.int .i64 x)) F B K N wv { S with reads := x } :=
  { h with row := h.row.setL 5 _, kept := h.kept.off h.bk.symm _ _, new := h.new.off h.bn.symm _ _, wait := owns_off h.wait h.wB _ _ }
theorem PlateAt.setWrites {w : World} {F : Nat → Prop} {B K N : Nat} {wv : Value} {S : PS} (h : PlateAt w F B K N wv S) (x : Int) : PlateAt (w.setCell ⟨B, 6, none⟩ (.int .i64 x)) F B K N wv { S with writes := x } :=
  { h with row := h.row.setL 6 _, kept := h.kept.off h.bk.symm _ _, new := h.new.off h.bn.symm _ _, wait := owns_off h.wait h.wB _ _ }
/-- What is kept of a sector written anew. -/
theorem PlateAt.setKept {w : World} {F : Nat → Prop} {B K N : Nat} {wv : Value} {S : PS} (h : PlateAt w F B K N wv S) (i : Nat) (s : ByteArray) (hs : s.size = 0 ∨ s.size = 64) : PlateAt (w.setCell ⟨K, i, none⟩ (.string s)) F B K N wv { S with kept := S.kept.set i s } := by
  have hl : (S.kept.set i s).length = S.kept.length := List.length_set
  refine { h with row := ?_, kept := ?_, new := ?_, wait := owns_off h.wait h.wK _ _, most := by show (S.kept.set i s).length ≤ _; rw [hl]; exact h.most, ats := ?_, texts := ?_ }
  · show Row _ B _ (plateC K N (S.kept.set i s).length wv _)
    rw [hl]
    exact h.row.off h.bk _ _
  · have := h.kept.setL i (.string s)
    rw [← List.map_set] at this
    exact this
  · show Row _ N _ (rowF (S.kept.set i s).length _)
    rw [hl]
    exact h.new.off h.kn.symm _ _
  · show ∀ p ∈ S.wait, p.1 < (S.kept.set i s).length ∧ p.2.size = 64
    rw [hl]
    exact h.ats
  · intro x hx
    rcases List.mem_or_eq_of_mem_set hx with hx | rfl
    · exact h.texts x hx
    · exact hs
end Go.Proofs.YtoopaigpjefonaaGreatDoor

namespace Go.Proofs.YtoopaigpjefonaaGreatDoor
set_option maxRecDepth 20000
open Go.RowKit

/-- Is there such a sector; what is told of one. -/
def hasB (S : PS) (at_ : Int) : Bool := decide (0 ≤ at_ ∧ at_ < (S.kept.length : Int))
def keptS (S : PS) (at_ : Int) : ByteArray := S.kept.getD at_.toNat ByteArray.empty
def heldS (S : PS) (at_ : Int) : ByteArray := if hasB S at_ = true then keptS S at_ else ByteArray.empty
def heldE (S : PS) (at_ : Int) : Int := if hasB S at_ = true then (if (keptS S at_).size = 0 then 21 else 0) else 2
def readS (S : PS) (at_ : Int) : ByteArray := if S.up = true then (if hasB S at_ = true then (textOf S.wait at_.toNat).getD (heldS S at_) else ByteArray.empty) else ByteArray.empty
def readE (S : PS) (at_ : Int) : Int := if S.up = true then (if hasB S at_ = true then (if (textOf S.wait at_.toNat).isSome = true then 0 else heldE S at_) else 2) else 20
def readP (S : PS) (at_ : Int) : PS := if S.up = true then (if hasB S at_ = true then { S with reads := wrap64 (S.reads + 1) } else S) else S

theorem hasB_true {S : PS} {at_ : Int} (h : hasB S at_ = true) : 0 ≤ at_ ∧ at_ < (S.kept.length : Int) := by simpa [hasB] using h
theorem hasB_false {S : PS} {at_ : Int} (h : hasB S at_ = false) : ¬ (0 ≤ at_ ∧ at_ < (S.kept.length : Int)) := by simpa [hasB] using h

theorem size_of_toList {s : ByteArray} (h : s.toList.isEmpty = true) : s.size = 0 := by
  rw [ByteArray.toList_eq] at h
  have h2 : s.data.toList = [] := List.isEmpty_iff.1 h
  rw [Lib.size_eq, h2]; rfl

set_option maxHeartbeats 400000 in
theorem has_any (B K n : Nat) (at_ : Int) (S : PS) (hn : n = S.kept.length) (w : World) (c0 : w.cell? ⟨B, 0, none⟩ = some (.slice (some ⟨K, 0, none⟩) n n)) :
    Calls Tryz.prog 73 #[.pointer (some ⟨B, 0, none⟩), .int .i64 at_] w fun e w' => e = .returned (.bool (hasB S at_)) ∧ w' = w := by
  subst hn
  by_cases h0 : 0 ≤ at_
  · by_cases h1 : at_ < (S.kept.length : Int)
    · have hv : hasB S at_ = true := by simp [hasB, h0, h1]
      go_enter Tryz.func73, Tryz.ntmps73
      go_wp2
      go_ret
      exact ⟨by rw [hv]; rfl, rfl⟩
    · have hv : hasB S at_ = false := by simp [hasB, h0, h1]
      go_enter Tryz.func73, Tryz.ntmps73
      go_wp2
      go_ret
      exact ⟨rfl, rfl⟩
  · have hv : hasB S at_ = false := by simp [hasB, h0]
    go_enter Tryz.func73, Tryz.ntmps73
    go_wp2
    go_ret
    exact ⟨rfl, rfl⟩

set_option maxHeartbeats 400000 in
theorem held_any (B : Nat) (F : Nat → Prop) (S : PS) (at_ : Int) (w : World) (hp : Plate w F B S) :
    Calls Tryz.prog 42 #[.pointer (some ⟨B, 0, none⟩), .int .i64 at_] w fun e w' => e = .returned (.tuple #[.string (heldS S at_), .int .i64 (heldE S at_)]) ∧ w' = w := by
  obtain ⟨K, N, wv, hp⟩ := hp
  have c0 := hp.c0
  have hhas := has_any B K _ at_ S rfl w c0
  cases hb : hasB S at_
  · rw [hb] at hhas
    have e1 : heldS S at_ = ByteArray.empty := by simp [heldS, hb]
    have e2 : heldE S at_ = 2 := by simp [heldE, hb]
    rw [e1, e2]
    clear hb hp
    go_enter Tryz.func42, Tryz.ntmps42
    go_wp2_with fail
    refine hhas.mono ?_
    rintro e w1 ⟨rfl, rfl⟩
    go_wp2
    go_ret2
    exact ⟨rfl, rfl⟩
  · rw [hb] at hhas
    obtain ⟨h0, h1⟩ := hasB_true hb
    obtain ⟨i, rfl⟩ : ∃ i : Nat, at_ = i := ⟨at_.toNat, by omega⟩
    have hi : i < S.kept.length := by omega
    have ck := hp.cK i hi
    have ek : keptS S i = S.kept[i] := by simp [keptS, hi]
    obtain ⟨s, hs⟩ : ∃ s, s = S.kept[i] := ⟨_, rfl⟩
    rw [← hs] at ck ek
    have e1 : heldS S i = s := by simp [heldS, hb, ek]
    have e2 : heldE S i = if s.size = 0 then 21 else 0 := by simp [heldE, hb, ek]
    rw [e1, e2]
    clear hb hp e1 e2 ek hs
    by_cases hz : s.size = 0
    · obtain rfl : s = ByteArray.empty := by simpa using hz
      go_enter Tryz.func42, Tryz.ntmps42
      go_wp2_with fail
      refine hhas.mono ?_
      rintro e w1 ⟨rfl, rfl⟩
      go_wp2
      go_ret2
      exact ⟨rfl, rfl⟩
    · have hs1 : s.toList.isEmpty = false := by
        cases hx : s.toList.isEmpty
        · rfl
        · exact absurd (size_of_toList hx) hz
      rw [if_neg hz]
      clear hz
      go_enter Tryz.func42, Tryz.ntmps42
      go_wp2_with fail
      refine hhas.mono ?_
      rintro e w1 ⟨rfl, rfl⟩
      go_wp2
      go_ret2
      exact ⟨rfl, rfl⟩

set_option maxHeartbeats 1000000 in
theorem read_any (B : Nat) (F : Nat → Prop) (S : PS) (at_ : Int) (w : World) (hp : Plate w F B S) (hw : S.wait.length ≤ 1000000) :
    Calls Tryz.prog 167 #[.pointer (some ⟨B, 0, none⟩), .int .i64 at_] w fun e w' => e = .returned (.tuple #[.string (readS S at_), .int .i64 (readE S at_)]) ∧ Plate w' F B (readP S at_) ∧ Touch F w w' := by
  obtain ⟨K, N, wv, hp⟩ := hp
  have c0 := hp.c0
  have c4 := hp.c4
  cases hu : S.up
  · rw [hu] at c4
    have HF : Hid (readS S at_ = ByteArray.empty ∧ readE S at_ = 20 ∧ Plate w F B (readP S at_)) := ⟨by simp [readS, hu], by simp [readE, hu], by simp only [readP, hu]; exact ⟨K, N, wv, hp⟩⟩
    clear hp hu c0
    go_enter Tryz.func167, Tryz.ntmps167
    go_wp2
    go_ret2
    exact ⟨by rw [HF.out.1, HF.out.2.1]; rfl, HF.out.2.2, Touch.refl _ _⟩
  rw [hu] at c4
  have hhas := has_any B K _ at_ S rfl w c0
  cases hb : hasB S at_
  · rw [hb] at hhas
    have HF : Hid (readS S at_ = ByteArray.empty ∧ readE S at_ = 2 ∧ Plate w F B (readP S at_)) := ⟨by simp [readS, hu, hb], by simp [readE, hu, hb], by simp [readP, hu, hb]; exact ⟨K, N, wv, hp⟩⟩
    clear hp hu hb
    go_enter Tryz.func167, Tryz.ntmps167
    go_wp2_with fail
    refine hhas.mono ?_
    rintro e w1 ⟨rfl, rfl⟩
    go_wp2
    go_ret2
    exact ⟨by rw [HF.out.1, HF.out.2.1]; rfl, HF.out.2.2, Touch.refl _ _⟩
  rw [hb] at hhas
  obtain ⟨h0, h1⟩ := hasB_true hb
  obtain ⟨i, rfl⟩ : ∃ i : Nat, at_ = i := ⟨at_.toNat, by omega⟩
  have hi : i < S.kept.length := by omega
  have c5 := hp.c5
  have f5 : w.frozen? ⟨B, 5, none⟩ = false := hp.row.frozen 5
  have hp1 := hp.setReads (wrap64 (S.reads + 1))
  have ht1 : Touch F w (w.setCell ⟨B, 5, none⟩ (.int .i64 (wrap64 (S.reads + 1)))) := (Touch.refl _ _).setCell _ _ _ (.inl hp.fB)
  obtain ⟨w1, hw1⟩ : ∃ w1, w.setCell ⟨B, 5, none⟩ (.int .i64 (wrap64 (S.reads + 1))) = w1 := ⟨_, rfl⟩
  rw [hw1] at hp1 ht1
  have eP : readP S i = { S with reads := wrap64 (S.reads + 1) } := by simp [readP, hu, hb]
  have d2 := hp1.c2
  have dN := hp1.cN i hi
  have d1 := hp1.c1
  cases hl : lastOf S.wait i with
  | zero =>
    simp only [hl] at dN
    have ht : textOf S.wait i = none := lastOf_zero hl
    have eS : readS S i = heldS S i := by simp [readS, hu, hb, ht]
    have eE : readE S i = heldE S i := by simp [readE, hu, hb, ht]
    have hheld := held_any B F _ i w1 ⟨K, N, wv, hp1⟩
    have HF : Hid (readS S i = heldS S i ∧ readE S i = heldE S i ∧ Plate w1 F B (readP S i) ∧ Touch F w w1) := ⟨eS, eE, by rw [eP]; exact ⟨K, N, wv, hp1⟩, ht1⟩
    have e3 : heldS { S with reads := wrap64 (S.reads + 1) } i = heldS S i := rfl
    have e4 : heldE { S with reads := wrap64 (S.reads + 1) } i = heldE S i := rfl
    rw [e3, e4] at hheld
    clear hp hp1 ht1 eS eE eP ht hl hb e3 e4 d1
    go_enter Tryz.func167, Tryz.ntmps167
    go_wp2_with fail
    refine hhas.mono ?_
    rintro e w2 ⟨rfl, rfl⟩
    clear hhas
    go_wp2_with fail
    refine hheld.mono ?_
    rintro e w3 ⟨rfl, rfl⟩
    clear hheld
    go_wp2
    go_ret2
    exact ⟨by rw [HF.out.1, HF.out.2.1]; rfl, HF.out.2.2.1, HF.out.2.2.2⟩
  | succ k =>
    simp only [hl] at dN
    obtain ⟨s, hs, ht⟩ := lastOf_text hl
    have hk : k < S.wait.length := by have := lastOf_le S.wait i; omega
    have eS : readS S i = s := by simp [readS, hu, hb, ht]
    have eE : readE S i = 0 := by simp [readE, hu, hb, ht]
    obtain ⟨g, cap, rfl, hg1, hg2⟩ := owns_form hp1.wait (by show 0 < S.wait.length; omega)
    have dW : w1.cell? ⟨g, k * 2 + 1, none⟩ = some (.string s) := hg2 _ _ (waitC_get S.wait k i s hs).2
    have HF : Hid (readS S i = s ∧ readE S i = 0 ∧ Plate w1 F B (readP S i) ∧ Touch F w w1) := ⟨eS, eE, by rw [eP]; exact ⟨K, N, _, hp1⟩, ht1⟩
    have j1 : (0 : Int) < ((k + 1 : Nat) : Int) := by omega
    have j2 : IntKind.i64.wrap (((k + 1 : Nat) : Int) - 1) = k := by rw [IntKind.wrap_i64]; omega
    have j3 : (k : Int) < ((S.wait.length : Nat) : Int) := by omega
    have d1' : w1.cell? ⟨B, 1, none⟩ = some (.slice (some ⟨g, 0, none⟩) S.wait.length cap) := d1
    clear hp hp1 ht1 eS eE eP ht hl hb hs d1 hg1 hg2
    go_enter Tryz.func167, Tryz.ntmps167
    go_wp2_with fail
    refine hhas.mono ?_
    rintro e w2 ⟨rfl, rfl⟩
    clear hhas
    go_wp2
    go_ret2
    exact ⟨by rw [HF.out.1, HF.out.2.1]; rfl, HF.out.2.2.1, HF.out.2.2.2⟩
end Go.Proofs.YtoopaigpjefonaaGreatDoor

namespace Go.Proofs.YtoopaigpjefonaaGreatDoor
set_option maxRecDepth 20000
open Go.RowKit

def armE (S : PS) (n : Int) : Int := if n < 0 then 1 else if S.up = true then 0 else 20
def armP (S : PS) (n : Int) : PS := if n < 0 then S else if S.up = true then { S with fuse := n } else S
def spoilE (S : PS) (at_ : Int) : Int := if hasB S at_ = true then 0 else 2
def spoilP (S : PS) (at_ : Int) : PS := if hasB S at_ = true then { S with kept := S.kept.set at_.toNat ByteArray.empty } else S
def layE (S : PS) (at_ : Int) (s : ByteArray) : Int := if s.size = 64 then (if hasB S at_ = true then 0 else 2) else 1
def layP (S : PS) (at_ : Int) (s : ByteArray) : PS := if s.size = 64 then (if hasB S at_ = true then { S with kept := S.kept.set at_.toNat s } else S) else S

theorem up_any (B : Nat) (F : Nat → Prop) (S : PS) (w : World) (hp : Plate w F B S) :
    Calls Tryz.prog 39 #[.pointer (some ⟨B, 0, none⟩)] w fun e w' => e = .returned (.bool S.up) ∧ w' = w := by
  obtain ⟨K, N, wv, hp⟩ := hp
  have c4 := hp.c4
  clear hp
  cases hu : S.up <;> rw [hu] at c4 <;> clear hu
  · go_enter Tryz.func39, Tryz.ntmps39
    go_wp2
    go_ret
    exact ⟨rfl, rfl⟩
  · go_enter Tryz.func39, Tryz.ntmps39
    go_wp2
    go_ret
    exact ⟨rfl, rfl⟩

theorem writes_any (B : Nat) (F : Nat → Prop) (S : PS) (w : World) (hp : Plate w F B S) :
    Calls Tryz.prog 41 #[.pointer (some ⟨B, 0, none⟩)] w fun e w' => e = .returned (.int .i64 S.writes) ∧ w' = w := by
  obtain ⟨K, N, wv, hp⟩ := hp
  have c4 := hp.c6
  clear hp
  go_enter Tryz.func41, Tryz.ntmps41
  go_wp2
  go_ret
  exact ⟨rfl, rfl⟩

theorem sectors_any (B : Nat) (F : Nat → Prop) (S : PS) (w : World) (hp : Plate w F B S) :
    Calls Tryz.prog 90 #[.pointer (some ⟨B, 0, none⟩)] w fun e w' => e = .returned (.int .i64 (S.kept.length : Nat)) ∧ w' = w := by
  obtain ⟨K, N, wv, hp⟩ := hp
  have c4 := hp.c0
  clear hp
  go_enter Tryz.func90, Tryz.ntmps90
  go_wp2
  go_ret
  exact ⟨rfl, rfl⟩

theorem owns_len {w : World} {e : TypeId} {z n : Nat} {v : Value} {xs : List Value} (h : w.ownsRow 0 e z v n xs) : (∃ cap, v = .slice none n cap) ∨ ∃ g cap, v = .slice (some ⟨g, 0, none⟩) n cap := by
  rcases h.2 with ⟨rfl, rfl⟩ | ⟨g, cap, cur, rfl, _⟩
  · exact .inl ⟨0, rfl⟩
  · exact .inr ⟨g, cap, rfl⟩

theorem pending_any (B : Nat) (F : Nat → Prop) (S : PS) (w : World) (hp : Plate w F B S) :
    Calls Tryz.prog 40 #[.pointer (some ⟨B, 0, none⟩)] w fun e w' => e = .returned (.int .i64 (S.wait.length : Nat)) ∧ w' = w := by
  obtain ⟨K, N, wv, hp⟩ := hp
  have c4 := hp.c1
  have hw := owns_len hp.wait
  clear hp
  rcases hw with ⟨cap, rfl⟩ | ⟨g, cap, rfl⟩
  · go_enter Tryz.func40, Tryz.ntmps40
    go_wp2
    go_ret
    exact ⟨rfl, rfl⟩
  · go_enter Tryz.func40, Tryz.ntmps40
    go_wp2
    go_ret
    exact ⟨rfl, rfl⟩

set_option maxHeartbeats 400000 in
theorem arm_any (B : Nat) (F : Nat → Prop) (S : PS) (n : Int) (hn : n < 9223372036854775808) (w : World) (hp : Plate w F B S) :
    Calls Tryz.prog 25 #[.pointer (some ⟨B, 0, none⟩), .int .i64 n] w fun e w' => e = .returned (.int .i64 (armE S n)) ∧ Plate w' F B (armP S n) ∧ Touch F w w' := by
  by_cases h0 : n < 0
  · have HF : Hid (armE S n = 1 ∧ Plate w F B (armP S n)) := ⟨by simp [armE, h0], by simp only [armP, h0, if_true]; exact hp⟩
    clear hp
    go_enter Tryz.func25, Tryz.ntmps25
    go_wp2
    go_ret
    exact ⟨by rw [HF.out.1]; rfl, HF.out.2, Touch.refl _ _⟩
  obtain ⟨K, N, wv, hp⟩ := hp
  have c4 := hp.c4
  cases hu : S.up
  · rw [hu] at c4
    have HF : Hid (armE S n = 20 ∧ Plate w F B (armP S n)) := ⟨by simp [armE, h0, hu], by simp [armP, h0, hu]; exact ⟨K, N, wv, hp⟩⟩
    clear hp hu
    go_enter Tryz.func25, Tryz.ntmps25
    go_wp2
    go_ret
    exact ⟨by rw [HF.out.1]; rfl, HF.out.2, Touch.refl _ _⟩
  · rw [hu] at c4
    have c3 := hp.c3
    have f3 : w.frozen? ⟨B, 3, none⟩ = false := hp.row.frozen 3
    obtain ⟨w1, hw1⟩ : ∃ w1, w.setCell ⟨B, 3, none⟩ (.int .i64 n) = w1 := ⟨_, rfl⟩
    have HF : Hid (armE S n = 0 ∧ Plate w1 F B (armP S n) ∧ Touch F w w1) := ⟨by simp [armE, h0, hu], by rw [show armP S n = { S with fuse := n } by simp only [armP, h0, if_false, hu, if_true]]; exact ⟨K, N, wv, by rw [← hw1]; exact hp.setFuse n ⟨by omega, hn⟩⟩, by rw [← hw1]; exact (Touch.refl _ _).setCell _ _ _ (.inl hp.fB)⟩
    clear hp hu
    go_enter Tryz.func25, Tryz.ntmps25
    go_wp2
    go_ret
    exact ⟨by rw [HF.out.1]; rfl, HF.out.2.1, HF.out.2.2⟩

end Go.Proofs.YtoopaigpjefonaaGreatDoor

namespace Go.Proofs.YtoopaigpjefonaaGreatDoor
set_option maxRecDepth 20000
open Go.RowKit

def writeE (S : PS) (at_ : Int) (s : ByteArray) : Int := if s.size = 64 then (if S.up = true then (if hasB S at_ = true then (if S.fuse = 0 then 20 else 0) else 2) else 20) else 1
def writeP (S : PS) (at_ : Int) (s : ByteArray) : PS := if s.size = 64 then (if S.up = true then (if hasB S at_ = true then (if S.fuse = 0 then { S with up := false } else { S with fuse := (if S.fuse = -1 then -1 else S.fuse - 1), writes := wrap64 (S.writes + 1), wait := S.wait ++ [(at_.toNat, s)] }) else S) else S) else S

theorem step_append_at {P : Program} (w : World) {ops : Array Oper} {o : Oper} {a : Act} {K : Act → World → Prop} {Q : Exit → Act → World → Prop} {E : Prop} (hgd : o.guard = none) (s x : Operand) (t : TypeId)
    (ho : o.op = .call { callee := .builtin .append, args := #[s, x], argTypes := #[t, t] })
    (base : Nat) (e : TypeId) (i : TypeInfo) (z : Value) (size bytes : Nat) (ht : P.underlying t = some (.slice e)) (hi : P.info? e = some i) (hz : i.zero = some z)
    (hsize : i.size = size) (hby : i.bytes = bytes) (hzs : z.cells.size = size) (hsz : 0 < size)
    (v : Value) (n : Nat) (xs : List Value) (hs : a.eval s = v) (hown : w.ownsRow base e size v n xs)
    (ad : Addr) (m c : Nat) (news : List Value) (hx : a.eval x = .slice (some ad) m c) (hl : news.length = m * size) (hnews : ∀ j u, news[j]? = some u → w.cell? (ad.add j) = some u) (h1 : ∀ u ∈ news, u.oneCell' = true)
    (h63 : n + m ≤ maxLen) (hbytes : (n + m) * bytes ≤ 140737488355328) (hbase : base ≤ w.heap.size)
    (h : ∀ v' w', w'.ownsRow base e size v' (n + m) (xs ++ news) → w.grownBy w' v.ownBlock → (v'.ownBlock = v.ownBlock ∨ v'.ownBlock = some w.heap.size) → K (a.put o.dst v') w') :
    if Region.wanted o (yielded ops a.tmps) = true then Oper.wp P o a w K Q else E := by
  have hw : Region.wanted o (yielded ops a.tmps) = true := by simp [Region.wanted, hgd]
  rw [if_pos hw]
  obtain ⟨v', w', hr, h2, h3, h4, h5⟩ := run_append_own_at (P := P) w base t o.type e i z size bytes ht hi hz hsize hby hzs hsz v n xs hown ad m c news hl hnews h1 h63 hbytes hbase
  unfold Oper.wp execOp
  simp only [ho, resolve, invoke, builtin, Sem.run_bind, Sem.run_pure, Result.andThen_ok, List.map_toArray, List.map_cons, List.map_nil, hs, hx, hr]
  exact h v' w' h2 h3 h5

/-- A device whose new write waits, its place not noted yet. -/
structure PlateMid (w0 w : World) (F : Nat → Prop) (B K N : Nat) (wv : Value) (S : PS) (i : Nat) (s : ByteArray) : Prop where
  row : Row w B 95 (plateC K N S.kept.length wv S)
  kept : Row w K 9 (S.kept.map Value.string)
  new : Row w N 3 (rowF S.kept.length fun i => .int .i64 (lastOf S.wait i : Nat))
  wait : w.ownsRow 0 214 2 wv (S.wait.length + 1) (waitC (S.wait ++ [(i, s)]))
  fW : ∀ g, wv.ownBlock = some g → grow F w0 w g
  wB : wv.ownBlock ≠ some B
  wK : wv.ownBlock ≠ some K
  wN : wv.ownBlock ≠ some N
  touch : Touch F w0 w
theorem PlateAt.appended {w0 w w' : World} {F : Nat → Prop} {B K N i : Nat} {wv v' : Value} {S : PS} {s : ByteArray} (h : PlateAt w F B K N wv S) (ht : Touch F w0 w)
    (hown : w'.ownsRow 0 214 2 v' (S.wait.length + 1) (waitC S.wait ++ [.int .i64 (i : Nat), .string s])) (hg : w.grownBy w' wv.ownBlock) (hat : v'.ownBlock = wv.ownBlock ∨ v'.ownBlock = some w.heap.size) :
    w'.cell? ⟨B, 1, none⟩ = some wv ∧ w'.frozen? ⟨B, 1, none⟩ = false ∧ PlateMid w0 (w'.setCell ⟨B, 1, none⟩ v') F B K N v' S i s := by
  have hB := h.row.lt
  have hK := h.kept.lt
  have hN := h.new.lt
  have r1 : Row w' B _ _ := (hg.block B h.row.lt (fun e => h.wB e.symm)).trans h.row
  have r2 : Row w' K _ _ := (hg.block K h.kept.lt (fun e => h.wK e.symm)).trans h.kept
  have r3 : Row w' N _ _ := (hg.block N h.new.lt (fun e => h.wN e.symm)).trans h.new
  have nB : v'.ownBlock ≠ some B := by
    rcases hat with e | e <;> rw [e]
    · exact h.wB
    · intro e2; cases e2; omega
  have nK : v'.ownBlock ≠ some K := by
    rcases hat with e | e <;> rw [e]
    · exact h.wK
    · intro e2; cases e2; omega
  have nN : v'.ownBlock ≠ some N := by
    rcases hat with e | e <;> rw [e]
    · exact h.wN
    · intro e2; cases e2; omega
  have hsz : (w'.setCell ⟨B, 1, none⟩ v').heap.size = w'.heap.size := by simp
  have ht2 : Touch F w0 w' := ⟨ht.1.trans ⟨hg.os, hg.tape, hg.output, hg.size, fun k hk => absurd hk (Nat.not_lt_zero k)⟩, fun k hk hn => (hg.block k (Nat.lt_of_lt_of_le hk ht.size) (fun e => hn (h.fW k e.symm))).trans (ht.2 k hk hn)⟩
  refine ⟨r1.cell 1, r1.frozen 1, r1.setL 1 v', r2.off h.bk.symm _ _, r3.off h.bn.symm _ _, ?_, fun g hg' => ?_, nB, nK, nN, ht2.setCell _ _ _ (.inl h.fB)⟩
  · rw [waitC_snoc]
    exact owns_off hown nB _ _
  · have hlt := owns_lt hown g hg'
    rcases hat with e | e
    · exact .inl (h.fW g (by rw [← e]; exact hg'))
    · rw [e] at hg'
      cases hg'
      exact .inr ⟨ht.size, by rw [hsz]; exact hlt⟩
theorem PlateMid.noted {w0 w w1 : World} {F : Nat → Prop} {B K N i : Nat} {wv wv0 : Value} {S : PS} {s : ByteArray} (h : PlateMid w0 w F B K N wv S i s) (h0 : PlateAt w1 F B K N wv0 S) (hi : i < S.kept.length) (hs : s.size = 64) :
    PlateAt (w.setCell ⟨N, i, none⟩ (.int .i64 ((S.wait.length : Int) + 1))) (grow F w0 (w.setCell ⟨N, i, none⟩ (.int .i64 ((S.wait.length : Int) + 1)))) B K N wv { S with wait := S.wait ++ [(i, s)] } ∧ Touch F w0 (w.setCell ⟨N, i, none⟩ (.int .i64 ((S.wait.length : Int) + 1))) := by
  have hsz : (w.setCell ⟨N, i, none⟩ (.int .i64 ((S.wait.length : Int) + 1))).heap.size = w.heap.size := by simp
  refine ⟨⟨h.row.off h0.bn _ _, h.kept.off h0.kn _ _, ?_, ?_, .inl h0.fB, .inl h0.fK, .inl h0.fN, fun g hg => ?_, h0.bk, h0.bn, h0.kn, h.wB, h.wK, h.wN, h0.most, ?_, h0.texts, h0.fuse⟩, h.touch.setCell _ _ _ (.inl h0.fN)⟩
  · have := h.new.setF i (.int .i64 ((S.wait.length : Int) + 1))
    refine this.congr (rowF_congr fun k hk => ?_)
    show _ = Value.int .i64 (lastOf (S.wait ++ [(i, s)]) k : Nat)
    rw [lastOf_snoc]
    by_cases e : k = i
    · subst e; simp
    · rw [if_neg e, if_neg (fun e' => e e'.symm)]
  · have := owns_off h.wait h.wN i (.int .i64 ((S.wait.length : Int) + 1))
    show World.ownsRow _ _ _ _ _ (S.wait ++ [(i, s)]).length _
    rw [List.length_append]
    exact this
  · rcases h.fW g hg with e | e
    · exact .inl e
    · exact .inr ⟨e.1, by rw [hsz]; exact e.2⟩
  · intro p hp
    rcases List.mem_append.1 hp with hp | hp
    · exact h0.ats p hp
    · rw [List.mem_singleton] at hp
      subst hp
      exact ⟨hi, hs⟩
theorem info_write : (Tryz.prog.info? 214).map (fun i => (i.zero, i.size, i.bytes)) = some (some (.agg #[.int .i64 0, .string ⟨#[]⟩]), 2, 24) := by kernel_rfl

set_option maxRecDepth 10000 in
set_option maxHeartbeats 2000000 in
/-- From where the counts are written: the write waits. -/
theorem write_any (B : Nat) (F : Nat → Prop) (S : PS) (at_ : Int) (s : ByteArray) (w : World) (hp : Plate w F B S) (hw : S.wait.length ≤ 1000000) :
    Calls Tryz.prog 171 #[.pointer (some ⟨B, 0, none⟩), .int .i64 at_, .string s] w fun e w' => e = .returned (.int .i64 (writeE S at_ s)) ∧ Plate w' (grow F w w') B (writeP S at_ s) ∧ Touch F w w' := by
  by_cases hs : s.size = 64
  case neg =>
    have HF : Hid (writeE S at_ s = 1 ∧ Plate w (grow F w w) B (writeP S at_ s)) := ⟨by simp [writeE, hs], by simp only [writeP, hs, if_false]; exact hp.mono fun k _ h => .inl h⟩
    clear hp
    have hs' : ¬ (s.size : Int) = 64 := by omega
    go_enter Tryz.func171, Tryz.ntmps171
    go_wp2
    go_ret
    exact ⟨by rw [HF.out.1]; rfl, HF.out.2, Touch.refl _ _⟩
  have hs' : (s.size : Int) = 64 := by omega
  have hs2 : s.size ≤ 281474976710656 := by omega
  obtain ⟨K, N, wv, hp⟩ := hp
  have c4 := hp.c4
  cases hu : S.up
  · rw [hu] at c4
    have HF : Hid (writeE S at_ s = 20 ∧ Plate w (grow F w w) B (writeP S at_ s)) := ⟨by simp [writeE, hs, hu], by simp [writeP, hs, hu]; exact ⟨K, N, wv, hp.mono fun k _ h => .inl h⟩⟩
    clear hp hu
    go_enter Tryz.func171, Tryz.ntmps171
    go_wp2
    go_ret
    exact ⟨by rw [HF.out.1]; rfl, HF.out.2, Touch.refl _ _⟩
  rw [hu] at c4
  have c0 := hp.c0
  have hhas := has_any B K _ at_ S rfl w c0
  cases hb : hasB S at_
  · rw [hb] at hhas
    have HF : Hid (writeE S at_ s = 2 ∧ Plate w (grow F w w) B (writeP S at_ s)) := ⟨by simp [writeE, hs, hu, hb], by simp [writeP, hs, hu, hb]; exact ⟨K, N, wv, hp.mono fun k _ h => .inl h⟩⟩
    clear hp hu hb
    go_enter Tryz.func171, Tryz.ntmps171
    go_wp2_with fail
    refine hhas.mono ?_
    rintro e w1 ⟨rfl, rfl⟩
    clear hhas
    go_wp2
    go_ret
    exact ⟨by rw [HF.out.1]; rfl, HF.out.2, Touch.refl _ _⟩
  rw [hb] at hhas
  have c3 := hp.c3
  by_cases hf0 : S.fuse = 0
  · rw [hf0] at c3
    have f4 : w.frozen? ⟨B, 4, none⟩ = false := hp.row.frozen 4
    obtain ⟨w1, hw1⟩ : ∃ w1, w.setCell ⟨B, 4, none⟩ (.bool false) = w1 := ⟨_, rfl⟩
    have HF : Hid (writeE S at_ s = 20 ∧ Plate w1 (grow F w w1) B (writeP S at_ s) ∧ Touch F w w1) := ⟨by simp [writeE, hs, hu, hb, hf0], by rw [show writeP S at_ s = { S with up := false } by simp only [writeP, hs, if_true, hu, hb, hf0]]; exact ⟨K, N, wv, by rw [← hw1]; exact (hp.setUp false).mono fun k _ h => .inl h⟩, by rw [← hw1]; exact (Touch.refl _ _).setCell _ _ _ (.inl hp.fB)⟩
    clear hp hu hb hf0
    go_enter Tryz.func171, Tryz.ntmps171
    go_wp2_with fail
    refine hhas.mono ?_
    rintro e w2 ⟨rfl, rfl⟩
    clear hhas
    go_wp2
    go_ret
    exact ⟨by rw [HF.out.1]; rfl, HF.out.2.1, HF.out.2.2⟩
  obtain ⟨h0, h1⟩ := hasB_true hb
  obtain ⟨i, rfl⟩ : ∃ i : Nat, at_ = i := ⟨at_.toNat, by omega⟩
  have hi : i < S.kept.length := by omega
  obtain ⟨fz, hfz⟩ : ∃ fz, fz = if S.fuse = -1 then -1 else S.fuse - 1 := ⟨_, rfl⟩
  have hE : writeE S i s = 0 := by simp [writeE, hs, hu, hb, hf0]
  have hP : writeP S i s = { S with fuse := fz, writes := wrap64 (S.writes + 1), wait := S.wait ++ [(i, s)] } := by rw [hfz]; simp only [writeP, hs, if_true, hu, hb, hf0, if_false, Int.toNat_natCast]
  obtain ⟨j0, hj, hy0, hy1, hy2⟩ := info_parts info_write
  -- the two ways to the counts: no fuse, or one that burns
  have hfr := hp.fuse
  have key : ∃ w1, PlateAt w1 F B K N wv { S with fuse := fz } ∧ Touch F w w1 ∧ ((S.fuse = -1 ∧ w1 = w) ∨ (0 < S.fuse ∧ w.setCell ⟨B, 3, none⟩ (.int .i64 (S.fuse - 1)) = w1)) := by
    by_cases h1 : S.fuse = -1
    · refine ⟨w, ?_, Touch.refl _ _, .inl ⟨h1, rfl⟩⟩
      rw [hfz, if_pos h1, ← h1]; exact hp
    · refine ⟨_, ?_, (Touch.refl _ _).setCell B 3 (.int .i64 (S.fuse - 1)) (.inl hp.fB), .inr ⟨by omega, rfl⟩⟩
      rw [hfz, if_neg h1]; exact hp.setFuse (S.fuse - 1) (by omega)
  obtain ⟨w1, hp1, ht1, hway⟩ := key
  have d6 := hp1.c6
  have e6 : w1.frozen? ⟨B, 6, none⟩ = false := hp1.row.frozen 6
  have hp2 := hp1.setWrites (wrap64 (S.writes + 1))
  have ht2 := ht1.setCell B 6 (.int .i64 (wrap64 (S.writes + 1))) (.inl hp.fB)
  obtain ⟨w2, hw2⟩ : ∃ w2, w1.setCell ⟨B, 6, none⟩ (.int .i64 (wrap64 (S.writes + 1))) = w2 := ⟨_, rfl⟩
  have hw2' : w1.setCell ⟨B, 6, none⟩ (.int .i64 (wrap64 (S.writes + 1))) = w2 := hw2
  rw [hw2] at hp2 ht2
  obtain ⟨S2, hS2⟩ : ∃ S2 : PS, S2 = { S with fuse := fz, writes := wrap64 (S.writes + 1) } := ⟨_, rfl⟩
  have hp2' : PlateAt w2 F B K N wv S2 := by rw [hS2]; exact hp2
  have hP' : writeP S i s = { S2 with wait := S2.wait ++ [(i, s)] } := by rw [hP, hS2]
  have hk2 : S2.kept.length = S.kept.length := by rw [hS2]
  have hl2 : S2.wait.length ≤ 1000000 := by rw [hS2]; exact hw
  have HK : Hid (PlateAt w2 F B K N wv S2 ∧ Touch F w w2 ∧ writeE S i s = 0 ∧ writeP S i s = { S2 with wait := S2.wait ++ [(i, s)] }) := ⟨hp2', ht2, hE, hP'⟩
  have d1 := hp2'.c1
  have f3 : w.frozen? ⟨B, 3, none⟩ = false := hp.row.frozen 3
  have hi2 : i < S2.kept.length := by omega
  clear hp hp1 hp2 hp2' ht1 ht2 hE hP hP' hS2 hfz hu hb
  have hjs : -9223372036854775808 ≤ S.fuse - 1 := by omega
  have hway' : (S.fuse = -1 ∧ w1 = w) ∨ (0 < S.fuse ∧ w.setCell ⟨B, 3, none⟩ (.int .i64 (S.fuse - 1)) = w1) := hway
  clear hway
  rcases hway' with ⟨hm, rfl⟩ | ⟨hm, hw3⟩
  case' inl =>
    rw [hm] at c3
    go_enter Tryz.func171, Tryz.ntmps171
    go_wp2_with fail
    refine hhas.mono ?_
    rintro e w9 ⟨rfl, rfl⟩
    clear hhas
    go_wp2_with fail
  case' inr =>
    have hq1 : ¬ S.fuse = -1 := by omega
    have hq2 : IntKind.i64.wrap (S.fuse - 1) = S.fuse - 1 := by rw [IntKind.wrap_i64]; omega
    go_enter Tryz.func171, Tryz.ntmps171
    go_wp2_with fail
    refine hhas.mono ?_
    rintro e w9 ⟨rfl, rfl⟩
    clear hhas
    go_wp2_with fail
  all_goals
    clear c0 c3 c4 d6 e6 f3 hw2 hw2'
    go_region_law (first | (refine step_append_at _ rfl _ _ 93 rfl 0 214 j0 (.agg #[.int .i64 0, .string ⟨#[]⟩]) 2 24 Tryz.underlying93 hj hy0 hy1 hy2 rfl (by decide) wv S2.wait.length (waitC S2.wait) rfl (owns_keep hA.wait fun g hg => Below.heap_alloc wA _ g (owns_lt hA.wait g hg)) ⟨wA.heap.size, 0, none⟩ 1 1 [.int .i64 (i : Nat), .string s] rfl rfl (World.news_of_block (heap_alloc_new wA _)) (by intro u hu; simp at hu; rcases hu with rfl | rfl <;> rfl) (by unfold maxLen; omega) (by omega) (Nat.zero_le _) ?_; intro v1 wB hown1 hgrow1 hat1; obtain ⟨g1, cap1, rfl, hgc, _⟩ := owns_form hown1 (by omega); have hA2 := hA.keep (w' := wA.alloc (.cells #[.int .i64 (i : Nat), .string s] 214)) (fun k hk _ => Below.heap_alloc wA _ k hk); have hTB : Touch F w9 (wA.alloc (.cells #[.int .i64 (i : Nat), .string s] 214)) := ⟨hTA.1.alloc (Nat.zero_le _) _, fun k hk hn => (Below.heap_alloc wA _ k (Nat.lt_of_lt_of_le hk hTA.size)).trans (hTA.2 k hk hn)⟩; obtain ⟨x1, x2, hmid⟩ := hA2.appended hTB hown1 hgrow1 hat1; have HM : Hid _ := hmid; clear hmid hA2 hTB hown1 hgrow1 hat1) | (go_simp; refine (clone_any s _ hs2).mono ?_; rintro e wA ⟨rfl, hbA⟩; dsimp only; have hA : PlateAt wA F B K N wv S2 := HK.out.1.keep (fun k hk _ => hbA.block k hk); have hTA : Touch F w9 wA := ⟨HK.out.2.1.1.drew.trans (hbA.mono (Nat.zero_le _)), fun k hk hn => (hbA.block k (Nat.lt_of_lt_of_le hk HK.out.2.1.size)).trans (HK.out.2.1.2 k hk hn)⟩; have dA := hA.c1; have dA2 : ∀ o, (wA.alloc o).cell? ⟨B, 1, none⟩ = some wv := fun o => (hA.keep (w' := wA.alloc o) (fun k hk _ => Below.heap_alloc wA o k hk)).c1))
    all_goals
      obtain ⟨w5, hw5⟩ : ∃ w5, wB.setCell ⟨B, 1, none⟩ (.slice (some ⟨g1, 0, none⟩) (S2.wait.length + 1) cap1) = w5 := ⟨_, rfl⟩
      rw [hw5] at HM
      have e1 : w5.cell? ⟨B, 1, none⟩ = some (.slice (some ⟨g1, 0, none⟩) (S2.wait.length + 1) cap1) := HM.out.row.cell 1
      have e2 : w5.cell? ⟨B, 2, none⟩ = some (.slice (some ⟨N, 0, none⟩) S2.kept.length S2.kept.length) := HM.out.row.cell 2
      have eN : w5.cell? ⟨N, i, none⟩ = some (.int .i64 (lastOf S2.wait i : Nat)) := HM.out.new.cellF i hi2
      have fN : w5.frozen? ⟨N, i, none⟩ = false := HM.out.new.frozen i
      have hoff : ∀ v, (w5.setCell ⟨N, i, none⟩ v).cell? ⟨B, 1, none⟩ = some (.slice (some ⟨g1, 0, none⟩) (S2.wait.length + 1) cap1) ∧ (w5.setCell ⟨N, i, none⟩ v).cell? ⟨B, 2, none⟩ = some (.slice (some ⟨N, 0, none⟩) S2.kept.length S2.kept.length) := fun v => ⟨(HM.out.row.off HK.out.1.bn i v).cell 1, (HM.out.row.off HK.out.1.bn i v).cell 2⟩
      have hi3 : (i : Int) < S2.kept.length := by omega
      clear x1 x2 dA dA2 hA hTA hbA d1
      try rw [hw5]
      go_wp2_with fail
      go_region_held3 (fun w' => w'.cell? ⟨B, 1, none⟩ = some (.slice (some ⟨g1, 0, none⟩) (S2.wait.length + 1) cap1) ∧ w'.cell? ⟨B, 2, none⟩ = some (.slice (some ⟨N, 0, none⟩) S2.kept.length S2.kept.length)) (first | exact hoff _ | exact ⟨e1, e2⟩ | simp [go_sem, *]) (fail)
      have HX := HM.out.noted HK.out.1 hi2 hs
      have HF : Hid (Plate (w5.setCell ⟨N, i, none⟩ (.int .i64 ((S2.wait.length : Int) + 1))).drew (grow F w9 (w5.setCell ⟨N, i, none⟩ (.int .i64 ((S2.wait.length : Int) + 1))).drew) B (writeP S i s) ∧ Touch F w9 (w5.setCell ⟨N, i, none⟩ (.int .i64 ((S2.wait.length : Int) + 1))).drew) := ⟨by rw [HK.out.2.2.2]; exact ⟨K, N, _, HX.1.keep (w' := (w5.setCell ⟨N, i, none⟩ (.int .i64 ((S2.wait.length : Int) + 1))).drew) fun k _ _ => rfl⟩, HX.2.drew⟩
      clear HX e1 e2 eN fN hoff HM hw5
      go_wp2
      go_ret
      exact ⟨by rw [HK.out.2.2.1]; rfl, HF.out.1, HF.out.2⟩
end Go.Proofs.YtoopaigpjefonaaGreatDoor
