/- block's nonce, whole and Seal: of any vault whose Seal is told. · errors.As at a sector's error and a number's place, by Go's own text; block's wrapped and numberOf. · errors.As at a sector's error: the number is found; block's wrapped and numberOf. -/
import Derived.Test.YtbmjablmmlnieaaGreatDoorMg08
import Derived.Test.YtbmjablmmlnieaaGreatDoorMg04
import Derived.LaidEql
import Derived.Stop.Asserts
import Derived.RowKitTokens
namespace Go.Proofs.YtbmjablmmlnieaaGreatDoor
set_option maxRecDepth 20000
open Go.RowKit Go.Lib

theorem whole_any (s : ByteArray) (w : World) : Calls Tryz.prog 51 #[.string s] w fun e w' => e = .returned (.bool (decide (s.size = 512))) ∧ w' = w := by
  by_cases h : s.size = 512
  · have h' : (s.size : Int) = 512 := by omega
    rw [decide_eq_true h]
    go_enter Tryz.func51, Tryz.ntmps51
    go_wp2
    go_ret
    exact ⟨rfl, rfl⟩
  · have h' : ((s.size : Int) == 512) = false := beq_false_of_ne (by omega)
    rw [decide_eq_false h]
    go_enter Tryz.func51, Tryz.ntmps51
    go_wp2
    go_ret
    exact ⟨rfl, rfl⟩
set_option maxHeartbeats 1000000 in
theorem nonce_any (h : Hd) (w : World) : Calls Tryz.prog 111 #[.agg h.arr] w fun e w' => e = .returned (.string h.nonce) ∧ Below w.heap.size w w' := by
  obtain ⟨a0, a1, a2, a3, a4, a5, a6, a7⟩ := h
  simp only [Hd.arr, Hd.nonce, nonceS]
  have s1 : (putS a1 4).size ≤ 6 := by have := putS_le a1 4; simpa using this
  have s2 : (putS a6 6).size ≤ 6 := by have := putS_le a6 6; simpa using this
  have p1 := fun w => put_any a1 4 w
  have p2 := fun w => put_any a6 6 w
  generalize putS a1 4 = p at *
  generalize putS a6 6 = q at *
  have hadd : (p ++ q).size ≤ maxLen := by rw [ByteArray.size_append]; unfold maxLen; omega
  go_enter Tryz.func111, Tryz.ntmps111
  go_wp2_with fail
  refine (p1 _).mono ?_
  rintro e w1 ⟨rfl, hb1⟩
  have c6 := cells_kept hb1 6 _ rfl
  have hb1' : Below w.heap.size w w1 := ((Below.refl _ _).alloc (Nat.le_refl _) _).trans (hb1.mono (by simp))
  clear hb1
  go_wp2_with fail
  refine (p2 _).mono ?_
  rintro e w2 ⟨rfl, hb2⟩
  have hb3 : Below w.heap.size w w2 := hb1'.trans (hb2.mono hb1'.size)
  clear hb2 c6 hb1'
  go_wp2_with fail
  refine (pad_any (p ++ q) 12 _).mono ?_
  rintro e w3 ⟨rfl, hb4⟩
  have HB : Hid (Below w.heap.size w w3) := hb3.trans (hb4.mono hb3.size)
  clear hb3 hb4
  go_wp2
  go_ret
  exact ⟨rfl, HB.out⟩

theorem bhead_any (h : Hd) (w : World) : Calls Tryz.prog 109 #[.agg #[.int .i64 h.v0, .int .i64 h.v1, .int .i64 h.v2, .int .i64 h.v3, .int .i64 h.v4, .int .i64 h.v5, .int .i64 h.v6, .int .i64 h.v7]] w fun e w' => e = .returned (.tuple #[.string h.txt, .int .i64 h.err]) ∧ Below w.heap.size w w' := head_any h.v0 h.v1 h.v2 h.v3 h.v4 h.v5 h.v6 h.v7 w

set_option maxHeartbeats 1000000 in
theorem bseal_short (v : Value) (h : Hd) (s : ByteArray) (hs : ¬ s.size = 448) (w : World) : Calls Tryz.prog 78 #[v, .agg h.arr, .string s] w fun e w' => e = .returned (.tuple #[.string ⟨#[]⟩, .int .i64 1]) ∧ Below w.heap.size w w' := by
  have hs' : ((s.size : Int) != 448) = true := bne_iff_ne.2 (by omega)
  have HB : Hid (Below w.heap.size w (w.alloc (.cells h.arr 79))) := (Below.refl _ _).alloc (Nat.le_refl _) _
  simp only [Hd.arr] at HB ⊢
  go_enter Tryz.func78, Tryz.ntmps78
  go_wp2
  go_ret2
  exact ⟨rfl, HB.out⟩
set_option maxHeartbeats 1000000 in
theorem bseal_head (v : Value) (h : Hd) (s : ByteArray) (hs : s.size = 448) (he : ¬ h.err = 0) (w : World) : Calls Tryz.prog 78 #[v, .agg h.arr, .string s] w fun e w' => e = .returned (.tuple #[.string ⟨#[]⟩, .int .i64 h.err]) ∧ Below w.heap.size w w' := by
  have hs' : (s.size : Int) = 448 := by omega
  have he' : (h.err != 0) = true := bne_iff_ne.2 he
  have hh := fun w => bhead_any h w
  have HB : Hid (Below w.heap.size w (w.alloc (.cells h.arr 79))) := (Below.refl _ _).alloc (Nat.le_refl _) _
  simp only [Hd.arr] at HB ⊢
  generalize h.txt = t at *
  generalize h.err = E at *
  go_enter Tryz.func78, Tryz.ntmps78
  go_wp2_with fail
  refine (hh _).mono ?_
  rintro e w1 ⟨rfl, hb1⟩
  have HB2 : Hid (Below w.heap.size w w1) := HB.out.trans (hb1.mono (by simp))
  clear hb1 HB hh
  go_wp2
  go_ret2
  exact ⟨rfl, HB2.out⟩
set_option maxHeartbeats 2000000 in
theorem bseal_gen (v : Value) (h : Hd) (s T : ByteArray) (E : Int) (P : World → Prop) (w : World) (hs : s.size = 448) (he : h.err = 0) (hT : T.size ≤ 1000000)
    (hv : ∀ w', Below w.heap.size w w' → Calls Tryz.prog 110 #[v, .int .i64 h.v7, .string h.nonce, .string h.txt, .string s] w' fun e w'' => e = .returned (.tuple #[.string T, .int .i64 E]) ∧ P w'' ∧ ∀ k, w.heap.size ≤ k → k < w'.heap.size → w''.heap[k]? = w'.heap[k]?) :
    Calls Tryz.prog 78 #[v, .agg h.arr, .string s] w fun e w' => e = .returned (.tuple #[.string (if E = 0 then h.txt ++ T else ⟨#[]⟩), .int .i64 E]) ∧ P w' := by
  have hs' : (s.size : Int) = 448 := by omega
  have hh := fun w => bhead_any h w
  have hn := fun w => nonce_any h w
  have ht := hd_size he
  have HB : Hid (Below w.heap.size w (w.alloc (.cells h.arr 79))) := (Below.refl _ _).alloc (Nat.le_refl _) _
  rw [he] at hh
  simp only [Hd.arr] at HB hn ⊢
  clear he
  generalize h.txt = t at *
  generalize h.nonce = n at *
  have hadd : (t ++ T).size ≤ maxLen := by rw [ByteArray.size_append]; unfold maxLen; omega
  by_cases hE : E = 0
  case' pos => subst hE; simp only [if_true]
  case' neg => have hE' : (E != 0) = true := bne_iff_ne.2 hE; simp only [hE, if_false]
  all_goals
    go_enter Tryz.func78, Tryz.ntmps78
    go_wp2_with fail
    refine (hh _).mono ?_
    rintro e w1 ⟨rfl, hb1⟩
    have c0 := cells_kept hb1 0 _ rfl
    have c1 := cells_kept hb1 1 _ rfl
    have c2 := cells_kept hb1 2 _ rfl
    have c3 := cells_kept hb1 3 _ rfl
    have c4 := cells_kept hb1 4 _ rfl
    have c5 := cells_kept hb1 5 _ rfl
    have c6 := cells_kept hb1 6 _ rfl
    have c7 := cells_kept hb1 7 _ rfl
    have HB2 : Hid (Below w.heap.size w w1) := HB.out.trans (hb1.mono (by simp))
    have hlt : w.heap.size < w1.heap.size := by have := hb1.size; simp at this; omega
    clear hb1 HB hh
    go_wp2_with fail
    go_region_held3 (fun w' => w'.cell? ⟨w.heap.size, 0, none⟩ = some (.int .i64 h.v0) ∧ w'.cell? ⟨w.heap.size, 1, none⟩ = some (.int .i64 h.v1) ∧ w'.cell? ⟨w.heap.size, 2, none⟩ = some (.int .i64 h.v2) ∧ w'.cell? ⟨w.heap.size, 3, none⟩ = some (.int .i64 h.v3) ∧ w'.cell? ⟨w.heap.size, 4, none⟩ = some (.int .i64 h.v4) ∧ w'.cell? ⟨w.heap.size, 5, none⟩ = some (.int .i64 h.v5) ∧ w'.cell? ⟨w.heap.size, 6, none⟩ = some (.int .i64 h.v6) ∧ w'.cell? ⟨w.heap.size, 7, none⟩ = some (.int .i64 h.v7)) (simp [go_sem, *])
      (first | (go_at_call 111; refine (hn _).mono ?_; rintro e wA ⟨rfl, hbA⟩; have HA : Hid (Below w.heap.size w wA) := HB2.out.drew.trans (hbA.mono HB2.out.size); have hk : ∀ i, wA.cell? ⟨w.heap.size, i, none⟩ = w1.cell? ⟨w.heap.size, i, none⟩ := fun i => hbA.cell (p := ⟨w.heap.size, i, none⟩) hlt) | (go_at_call 110; refine (hv _ HA.out).mono ?_; rintro e wB ⟨rfl, hP, hK⟩; have hk2 : ∀ i, wB.cell? ⟨w.heap.size, i, none⟩ = w1.cell? ⟨w.heap.size, i, none⟩ := fun i => (World.cell?_of_block (a := ⟨w.heap.size, i, none⟩) (hK w.heap.size (Nat.le_refl _) (Nat.lt_of_lt_of_le hlt hbA.size))).trans (hk i)))
    all_goals
      have HP : Hid (P wB) := hP
      clear hP hK hk hk2 hbA HA c0 c1 c2 c3 c4 c5 c6 c7
      go_wp2
      go_ret2
      exact ⟨rfl, HP.out⟩
end Go.Proofs.YtbmjablmmlnieaaGreatDoor

namespace Go.Proofs.YtbmjablmmlnieaaGreatDoor
set_option maxRecDepth 20000
open Go.RowKit Go.Extern.Stop Go.Stop Go.Extern

theorem as_nil (t : Value) (w : World) :
    Calls Tryz.prog 116 #[.nilIface, t] w fun e w' => e = .returned (.bool false) ∧ w' = w := by
  go_enter Tryz.func116, Tryz.ntmps116
  go_wp2
  go_ret
  exact ⟨rfl, rfl⟩
theorem ae_valueOfP (t : Addr) (w : World) : (ReflectliteValue.unpack (.iface 194 (.pointer (some t)))).run Tryz.prog w = .ok (.agg #[.pointer (some ⟨4, 194, none⟩), .pointer (some ⟨w.heap.size, 0, none⟩), .int .u64 150]) (w.alloc (.cells #[.pointer (some t)] 194)) := by kernel_rfl
theorem ae_typeP (a : Addr) (w : World) : (ReflectliteValue.methodAny (ReflectliteValue.valueError "reflectlite.Value.Type" 0) (fun t _ _ _ => ReflectliteType.toType t) #[.agg #[.pointer (some ⟨4, 194, none⟩), .pointer (some a), .int .u64 150]]).run Tryz.prog w = .ok (.iface 206 (.agg #[.pointer (some ⟨4, 194, none⟩)])) w := by kernel_rfl
theorem ae_methodKind (h : Value) (w : World) : (Go.method 397 206 (.agg #[h]) "Kind").run Tryz.prog w = .ok (173, h) w := by kernel_rfl
theorem ae_methodElem (h : Value) (w : World) : (Go.method 397 206 (.agg #[h]) "Elem").run Tryz.prog w = .ok (192, .agg #[h]) w := by kernel_rfl
theorem ae_methodImplements (h : Value) (w : World) : (Go.method 397 206 (.agg #[h]) "Implements").run Tryz.prog w = .ok (193, .agg #[h]) w := by kernel_rfl
theorem ae_methodAssignableTo (h : Value) (w : World) : (Go.method 397 206 (.agg #[h]) "AssignableTo").run Tryz.prog w = .ok (190, .agg #[h]) w := by kernel_rfl
theorem ae_kindP (w : World) : ((ReflectliteType.abiMethod fun t => (fun a : Nat => Value.int IntKind.u8 (a : Int)) <$> Rtype.kind t) #[.pointer (some ⟨4, 194, none⟩)]).run Tryz.prog w = .ok (.int .u8 22) w := by kernel_rfl
theorem ae_kindE (w : World) : ((ReflectliteType.abiMethod fun t => (fun a : Nat => Value.int IntKind.u8 (a : Int)) <$> Rtype.kind t) #[.pointer (some ⟨4, 23, none⟩)]).run Tryz.prog w = .ok (.int .u8 2) w := by kernel_rfl
theorem method_one {α : Type} (v : Value) (h1 : Value → α) (h2 : Array Value → α) : ReflectliteValue.method.match_2 (fun _ => α) #[v] h1 h2 = h1 v := rfl
theorem ae_partsP (a : Addr) (w : World) : (ReflectliteValue.parts (.agg #[.pointer (some ⟨4, 194, none⟩), .pointer (some a), .int .u64 150])).run Tryz.prog w = .ok (some (194, a, 150)) w := by kernel_rfl
theorem ae_isNil (a p : Addr) (W : World) (ha : W.cell? a = some (.pointer (some p))) : (ReflectliteValue.method (ReflectliteValue.valueError "reflectlite.Value.IsNil" 0) ReflectliteValue.isNil #[.agg #[.pointer (some ⟨4, 194, none⟩), .pointer (some a), .int .u64 150]]).run Tryz.prog W = .ok (.bool false) W := by
  delta ReflectliteValue.method
  rw [method_one]
  simp only [Sem.run_bind, ae_partsP, Result.andThen]
  simp [ReflectliteValue.isNil, loadVar, isAgg, underlying, Tryz.underlying194, ha, Result.andThen]
theorem ae_elemP (w : World) : (ReflectliteType.method ReflectliteType.elem #[.agg #[.pointer (some ⟨4, 194, none⟩)]]).run Tryz.prog w = .ok (.iface 206 (.agg #[.pointer (some ⟨4, 23, none⟩)])) w := by kernel_rfl
theorem ae_implements (w : World) : (ReflectliteType.relation "Implements" ReflectliteType.implements_ #[.agg #[.pointer (some ⟨4, 23, none⟩)], .iface 206 (.agg #[.pointer (some ⟨4, 99, none⟩)])]).run Tryz.prog w = .ok (.bool true) w := by kernel_rfl
theorem ae_typeOfS (v : Value) (w : World) : (ReflectliteType.typeOf #[.iface 220 v]).run Tryz.prog w = .ok (.iface 206 (.agg #[.pointer (some ⟨4, 220, none⟩)])) w := by kernel_rfl
theorem ae_assignS (w : World) : (ReflectliteType.relation "AssignableTo" ReflectliteType.assignableTo #[.agg #[.pointer (some ⟨4, 220, none⟩)], .iface 206 (.agg #[.pointer (some ⟨4, 23, none⟩)])]).run Tryz.prog w = .ok (.bool false) w := by kernel_rfl
theorem ae_typeOfE (v : Value) (w : World) : (ReflectliteType.typeOf #[.iface 23 v]).run Tryz.prog w = .ok (.iface 206 (.agg #[.pointer (some ⟨4, 23, none⟩)])) w := by kernel_rfl
theorem ae_assignE (w : World) : (ReflectliteType.relation "AssignableTo" ReflectliteType.assignableTo #[.agg #[.pointer (some ⟨4, 23, none⟩)], .iface 206 (.agg #[.pointer (some ⟨4, 23, none⟩)])]).run Tryz.prog w = .ok (.bool true) w := by kernel_rfl
theorem ae_valueOfE (y : Int) (w : World) : (ReflectliteValue.unpack (.iface 23 (.int .i64 y))).run Tryz.prog w = .ok (.agg #[.pointer (some ⟨4, 23, none⟩), .pointer (some ⟨w.heap.size, 0, none⟩), .int .u64 130]) (w.alloc (.cells #[.int .i64 y] 23)) := by kernel_rfl
theorem ae_elemOfP (w : World) : (Rtype.elem? 194).run Tryz.prog w = .ok (some 23) w := by kernel_rfl
theorem ae_mkE (p : Addr) (w : World) : (ReflectliteValue.mk 23 p ReflectliteValue.flagAddr).run Tryz.prog w = .ok (.agg #[.pointer (some ⟨4, 23, none⟩), .pointer (some p), .int .u64 386]) w := by kernel_rfl
theorem ae_elemV (a p : Addr) (W : World) (ha : W.cell? a = some (.pointer (some p))) : (ReflectliteValue.method (ReflectliteValue.valueError "reflectlite.Value.Elem" 0) ReflectliteValue.elem #[.agg #[.pointer (some ⟨4, 194, none⟩), .pointer (some a), .int .u64 150]]).run Tryz.prog W = .ok (.agg #[.pointer (some ⟨4, 23, none⟩), .pointer (some p), .int .u64 386]) W := by
  delta ReflectliteValue.method
  rw [method_one]
  simp only [Sem.run_bind, ae_partsP, Result.andThen]
  simp [ReflectliteValue.elem, loadVar, isAgg, underlying, Tryz.underlying194, ha, Result.andThen, ae_elemOfP, ae_mkE]
theorem ae_partsEa (a : Addr) (w : World) : (ReflectliteValue.parts (.agg #[.pointer (some ⟨4, 23, none⟩), .pointer (some a), .int .u64 386])).run Tryz.prog w = .ok (some (23, a, 386)) w := by kernel_rfl
theorem ae_partsE (a : Addr) (w : World) : (ReflectliteValue.parts (.agg #[.pointer (some ⟨4, 23, none⟩), .pointer (some a), .int .u64 130])).run Tryz.prog w = .ok (some (23, a, 130)) w := by kernel_rfl
theorem ae_direct (w : World) : (Rtype.directlyAssignable 23 23).run Tryz.prog w = .ok true w := by kernel_rfl
theorem set_two {α : Type} (v x : Value) (h1 : Value → Value → α) (h2 : Array Value → α) : ReflectliteValue.set.match_3 (fun _ => α) #[v, x] h1 h2 = h1 v x := rfl
theorem ae_set (ta b : Addr) (y : Int) (old : Value) (W : World) (hb : W.cell? b = some (.int .i64 y)) (ht : W.cell? ta = some old) (hf : W.frozen? ta = false) : (ReflectliteValue.set #[.agg #[.pointer (some ⟨4, 23, none⟩), .pointer (some ta), .int .u64 386], .agg #[.pointer (some ⟨4, 23, none⟩), .pointer (some b), .int .u64 130]]).run Tryz.prog W = .ok (.tuple #[]) (W.setCell ta (.int .i64 y)) := by
  delta ReflectliteValue.set
  dsimp only
  rw [set_two]
  simp only [Sem.run_bind, ae_partsEa, ae_partsE, Result.andThen]
  simp [ReflectliteValue.flagAddr, loadVar, isAgg, underlying, Tryz.underlying23, hb, Result.andThen, ae_direct, storeVar, Value.cells, storeCells, Addr.add]
  rw [run_store Tryz.prog W ta _ _ (by rfl)]
  simp [ht, hf]
theorem ae_noAs (v : Value) (xT : TypeId) (w : World) : (Instr.typeAssert (.iface 220 v) xT 234 true).run Tryz.prog w = .ok (.tuple #[.nilIface, .bool false]) w := run_typeAssert_lacksB Tryz.underlying234 (by kernel_rfl) (by kernel_rfl) v xT w
theorem ae_hasUnwrap (v : Value) (xT : TypeId) (w : World) : (Instr.typeAssert (.iface 220 v) xT 211 true).run Tryz.prog w = .ok (.tuple #[.iface 220 v, .bool true]) w := run_typeAssert_hasB Tryz.underlying211 (by kernel_rfl) v xT w
theorem ae_methodUnwrap (x y : Int) (w : World) : (Go.method 397 220 (.agg #[.int .i64 x, .int .i64 y]) "Unwrap").run Tryz.prog w = .ok (201, .agg #[.int .i64 x, .int .i64 y]) w := by kernel_rfl
theorem unwrap_any (x y : Int) (w : World) : Calls Tryz.prog 201 #[.agg #[.int .i64 x, .int .i64 y]] w fun e w' => e = .returned (.iface 23 (.int .i64 y)) ∧ w' = w.alloc (.cells #[.int .i64 x, .int .i64 y] 220) := by
  go_enter Tryz.func201, Tryz.ntmps201
  go_wp2
  go_ret
  exact ⟨rfl, rfl⟩
theorem lt_of_cell_ {w : World} {N i : Nat} {v : Value} (h : w.cell? ⟨N, i, none⟩ = some v) : N < w.heap.size := block_lt_of_cell (a := ⟨N, i, none⟩) h
end Go.Proofs.YtbmjablmmlnieaaGreatDoor

namespace Go.Proofs.YtbmjablmmlnieaaGreatDoor
set_option maxRecDepth 20000
open Go.RowKit Go.Extern.Stop Go.Stop Go.Extern

set_option maxHeartbeats 4000000 in
theorem as_in (x y : Int) (t a : Addr) (old : Value) (W : World) (ha : W.cell? a = some (.pointer (some t))) (ht0 : W.cell? t = some old) (hf0 : W.frozen? t = false) :
    Calls Tryz.prog 133 #[.iface 220 (.agg #[.int .i64 x, .int .i64 y]), .iface 194 (.pointer (some t)), .agg #[.pointer (some ⟨4, 194, none⟩), .pointer (some a), .int .u64 150], .iface 206 (.agg #[.pointer (some ⟨4, 23, none⟩)])] W fun ev w' => ev = .returned (.bool true) ∧ w' = (((W.alloc (.cells #[.pointer (some ⟨4, 194, none⟩), .pointer (some a), .int .u64 150] 223)).alloc (.cells #[.int .i64 x, .int .i64 y] 220)).alloc (.cells #[.int .i64 y] 23)).setCell t (.int .i64 y) := by
  have x_82v := @run_callFunc_extern Tryz.prog 130 _ (fun args => ReflectliteValue.unpack (args.getD 0 (.tuple #[]))) Tryz.func130 (by kernel_rfl) (by kernel_rfl) (by kernel_rfl) (by kernel_rfl)
  have x_tyv := @run_callFunc_extern Tryz.prog 131 _ (ReflectliteValue.methodAny (ReflectliteValue.valueError "reflectlite.Value.Type" 0) (fun t _ _ _ => ReflectliteType.toType t)) Tryz.func131 (by kernel_rfl) (by kernel_rfl) (by kernel_rfl) (by kernel_rfl)
  have x_nil := @run_callFunc_extern Tryz.prog 132 _ (ReflectliteValue.method (ReflectliteValue.valueError "reflectlite.Value.IsNil" 0) ReflectliteValue.isNil) Tryz.func132 (by kernel_rfl) (by kernel_rfl) (by kernel_rfl) (by kernel_rfl)
  have x_knd := @run_callFunc_extern Tryz.prog 173 _ (ReflectliteType.abiMethod fun t => do pure (.int .u8 (← Rtype.kind t))) Tryz.func173 (by kernel_rfl) (by kernel_rfl) (by kernel_rfl) (by kernel_rfl)
  have x_elt := @run_callFunc_extern Tryz.prog 192 _ (ReflectliteType.method ReflectliteType.elem) Tryz.func192 (by kernel_rfl) (by kernel_rfl) (by kernel_rfl) (by kernel_rfl)
  have x_imp := @run_callFunc_extern Tryz.prog 193 _ (ReflectliteType.relation "Implements" ReflectliteType.implements_) Tryz.func193 (by kernel_rfl) (by kernel_rfl) (by kernel_rfl) (by kernel_rfl)
  have x_tof := @run_callFunc_extern Tryz.prog 102 _ ReflectliteType.typeOf Tryz.func102 (by kernel_rfl) (by kernel_rfl) (by kernel_rfl) (by kernel_rfl)
  have x_asg := @run_callFunc_extern Tryz.prog 190 _ (ReflectliteType.relation "AssignableTo" ReflectliteType.assignableTo) Tryz.func190 (by kernel_rfl) (by kernel_rfl) (by kernel_rfl) (by kernel_rfl)
  have x_elv := @run_callFunc_extern Tryz.prog 137 _ (ReflectliteValue.method (ReflectliteValue.valueError "reflectlite.Value.Elem" 0) ReflectliteValue.elem) Tryz.func137 (by kernel_rfl) (by kernel_rfl) (by kernel_rfl) (by kernel_rfl)
  have x_set := @run_callFunc_extern Tryz.prog 138 _ ReflectliteValue.set Tryz.func138 (by kernel_rfl) (by kernel_rfl) (by kernel_rfl) (by kernel_rfl)
  have f1 := ae_valueOfP
  have f2 := ae_typeP
  have f3 := ae_methodKind
  have f4 := ae_methodElem
  have f5 := ae_methodImplements
  have f6 := ae_methodAssignableTo
  have f7 := ae_kindP
  have f8 := ae_kindE
  have f9 := ae_elemP
  have f10 := ae_implements
  have f11 := ae_typeOfS
  have f12 := ae_typeOfE
  have f13 := ae_assignS
  have f14 := ae_assignE
  have f15 := ae_valueOfE
  have f16 := ae_noAs
  have f17 := ae_hasUnwrap
  have f18 := ae_methodUnwrap
  have htl : t.block < W.heap.size := block_lt_of_cell ht0
  have hal : a.block < W.heap.size := block_lt_of_cell ha
  have el := ae_elemV a t ((W.alloc (.cells #[.pointer (some ⟨4, 194, none⟩), .pointer (some a), .int .u64 150] 223)).alloc (.cells #[.int .i64 x, .int .i64 y] 220)) (by rw [World.cell?_alloc_lt _ _ a (by simp; omega), World.cell?_alloc_lt _ _ a hal]; exact ha)
  have st := ae_set t ⟨W.heap.size + 1 + 1, 0, none⟩ y old (((W.alloc (.cells #[.pointer (some ⟨4, 194, none⟩), .pointer (some a), .int .u64 150] 223)).alloc (.cells #[.int .i64 x, .int .i64 y] 220)).alloc (.cells #[.int .i64 y] 23))
    (by rw [World.cell?_alloc_at _ _ _ _ (by simp)]; rfl)
    (by rw [World.cell?_alloc_lt _ _ t (by simp; omega), World.cell?_alloc_lt _ _ t (by simp; omega), World.cell?_alloc_lt _ _ t htl]; exact ht0)
    (by rw [World.frozen?_alloc_old _ _ t (by simp; omega), World.frozen?_alloc_old _ _ t (by simp; omega), World.frozen?_alloc_old _ _ t (Nat.ne_of_lt htl)]; exact hf0)
  clear ha ht0 hf0
  go_enter Tryz.func133, Tryz.ntmps133
  go_wp2_with fail
  refine wp_loop_rounds 2 ?_
  rw [rounds_succ]
  go_wp2_with fail
  refine (unwrap_any x y _).mono ?_
  rintro e w1 ⟨rfl, rfl⟩
  go_wp2_with fail
  rw [rounds_succ]
  go_wp2
  go_ret
  exact ⟨rfl, rfl⟩
set_option maxHeartbeats 4000000 in
theorem as_hit (x y : Int) (t : Addr) (old : Value) (w : World) (hg : w.cell? ⟨0, 0, none⟩ = some (.iface 206 (.agg #[.pointer (some ⟨4, 99, none⟩)]))) (ht0 : w.cell? t = some old) (hf0 : w.frozen? t = false) :
    Calls Tryz.prog 116 #[.iface 220 (.agg #[.int .i64 x, .int .i64 y]), .iface 194 (.pointer (some t))] w fun ev w' => ev = .returned (.bool true) ∧ w' = (((((w.alloc (.cells #[.pointer (some t)] 194)).alloc (.cells #[.pointer (some ⟨4, 194, none⟩), .pointer (some ⟨w.heap.size, 0, none⟩), .int .u64 150] 223)).alloc (.cells #[.pointer (some ⟨4, 194, none⟩), .pointer (some ⟨w.heap.size, 0, none⟩), .int .u64 150] 223)).alloc (.cells #[.int .i64 x, .int .i64 y] 220)).alloc (.cells #[.int .i64 y] 23)).setCell t (.int .i64 y) := by
  have x_82v := @run_callFunc_extern Tryz.prog 130 _ (fun args => ReflectliteValue.unpack (args.getD 0 (.tuple #[]))) Tryz.func130 (by kernel_rfl) (by kernel_rfl) (by kernel_rfl) (by kernel_rfl)
  have x_tyv := @run_callFunc_extern Tryz.prog 131 _ (ReflectliteValue.methodAny (ReflectliteValue.valueError "reflectlite.Value.Type" 0) (fun t _ _ _ => ReflectliteType.toType t)) Tryz.func131 (by kernel_rfl) (by kernel_rfl) (by kernel_rfl) (by kernel_rfl)
  have x_nil := @run_callFunc_extern Tryz.prog 132 _ (ReflectliteValue.method (ReflectliteValue.valueError "reflectlite.Value.IsNil" 0) ReflectliteValue.isNil) Tryz.func132 (by kernel_rfl) (by kernel_rfl) (by kernel_rfl) (by kernel_rfl)
  have x_knd := @run_callFunc_extern Tryz.prog 173 _ (ReflectliteType.abiMethod fun t => do pure (.int .u8 (← Rtype.kind t))) Tryz.func173 (by kernel_rfl) (by kernel_rfl) (by kernel_rfl) (by kernel_rfl)
  have x_elt := @run_callFunc_extern Tryz.prog 192 _ (ReflectliteType.method ReflectliteType.elem) Tryz.func192 (by kernel_rfl) (by kernel_rfl) (by kernel_rfl) (by kernel_rfl)
  have x_imp := @run_callFunc_extern Tryz.prog 193 _ (ReflectliteType.relation "Implements" ReflectliteType.implements_) Tryz.func193 (by kernel_rfl) (by kernel_rfl) (by kernel_rfl) (by kernel_rfl)
  have x_tof := @run_callFunc_extern Tryz.prog 102 _ ReflectliteType.typeOf Tryz.func102 (by kernel_rfl) (by kernel_rfl) (by kernel_rfl) (by kernel_rfl)
  have x_asg := @run_callFunc_extern Tryz.prog 190 _ (ReflectliteType.relation "AssignableTo" ReflectliteType.assignableTo) Tryz.func190 (by kernel_rfl) (by kernel_rfl) (by kernel_rfl) (by kernel_rfl)
  have x_elv := @run_callFunc_extern Tryz.prog 137 _ (ReflectliteValue.method (ReflectliteValue.valueError "reflectlite.Value.Elem" 0) ReflectliteValue.elem) Tryz.func137 (by kernel_rfl) (by kernel_rfl) (by kernel_rfl) (by kernel_rfl)
  have x_set := @run_callFunc_extern Tryz.prog 138 _ ReflectliteValue.set Tryz.func138 (by kernel_rfl) (by kernel_rfl) (by kernel_rfl) (by kernel_rfl)
  have f1 := ae_valueOfP
  have f2 := ae_typeP
  have f3 := ae_methodKind
  have f4 := ae_methodElem
  have f5 := ae_methodImplements
  have f6 := ae_methodAssignableTo
  have f7 := ae_kindP
  have f8 := ae_kindE
  have f9 := ae_elemP
  have f10 := ae_implements
  have f11 := ae_typeOfS
  have f12 := ae_typeOfE
  have f13 := ae_assignS
  have f14 := ae_assignE
  have f15 := ae_valueOfE
  have f16 := ae_noAs
  have f17 := ae_hasUnwrap
  have f18 := ae_methodUnwrap
  have hlt : 0 < w.heap.size := lt_of_cell_ hg
  have htl : t.block < w.heap.size := block_lt_of_cell ht0
  have hg2 : ((w.alloc (.cells #[.pointer (some t)] 194)).alloc (.cells #[.pointer (some ⟨4, 194, none⟩), .pointer (some ⟨w.heap.size, 0, none⟩), .int .u64 150] 223)).cell? ⟨0, 0, none⟩ = some (.iface 206 (.agg #[.pointer (some ⟨4, 99, none⟩)])) := by
    rw [World.cell?_alloc_lt _ _ ⟨0, 0, none⟩ (by simp <;> omega), World.cell?_alloc_lt _ _ ⟨0, 0, none⟩ hlt]; exact hg
  have n8 := ae_isNil ⟨w.heap.size, 0, none⟩ t ((w.alloc (.cells #[.pointer (some t)] 194)).alloc (.cells #[.pointer (some ⟨4, 194, none⟩), .pointer (some ⟨w.heap.size, 0, none⟩), .int .u64 150] 223)) (by simp)
  have hin := as_in x y t ⟨w.heap.size, 0, none⟩ old ((w.alloc (.cells #[.pointer (some t)] 194)).alloc (.cells #[.pointer (some ⟨4, 194, none⟩), .pointer (some ⟨w.heap.size, 0, none⟩), .int .u64 150] 223)) (by simp) (by rw [World.cell?_alloc_lt _ _ t (by simp; omega), World.cell?_alloc_lt _ _ t htl]; exact ht0) (by rw [World.frozen?_alloc_old _ _ t (by simp; omega), World.frozen?_alloc_old _ _ t (Nat.ne_of_lt htl)]; exact hf0)
  go_enter Tryz.func116, Tryz.ntmps116
  go_wp2_with fail
  refine hin.mono ?_
  rintro e w1 ⟨rfl, rfl⟩
  go_wp2
  go_ret
  exact ⟨rfl, rfl⟩
/-- What package errors' variable holds. -/
def ErrT (w : World) : Prop := w.cell? ⟨0, 0, none⟩ = some (.iface 206 (.agg #[.pointer (some ⟨4, 99, none⟩)]))
theorem ErrT.below {w w' : World} {B : Nat} (h : ErrT w) (hb : Below B w w') (hB : 0 < B) : ErrT w' := (hb.cell (p := ⟨0, 0, none⟩) hB).trans h
/-- A sector's error: none, or the number with its sector. -/
def secErr (x y : Int) : Value := if y = 0 then .nilIface else .iface 220 (.agg #[.int .i64 x, .int .i64 y])
theorem wrapped_any (x y : Int) (w : World) : Calls Tryz.prog 115 #[.int .i64 x, .int .i64 y] w fun e w' => e = .returned (secErr x y) ∧ w' = w := by
  by_cases hy : y = 0
  · have HE : Hid (secErr x y = .nilIface) := if_pos hy
    rw [HE.out]
    subst hy
    go_enter Tryz.func115, Tryz.ntmps115
    go_wp2
    go_ret
    exact ⟨rfl, rfl⟩
  · have HE : Hid (secErr x y = .iface 220 (.agg #[.int .i64 x, .int .i64 y])) := if_neg hy
    rw [HE.out]
    have hy' : (y == 0) = false := beq_false_of_ne hy
    go_enter Tryz.func115, Tryz.ntmps115
    go_wp2
    go_ret
    exact ⟨rfl, rfl⟩
set_option maxHeartbeats 2000000 in
theorem numberOf_any (x y : Int) (w : World) (hg : ErrT w) : Calls Tryz.prog 85 #[secErr x y] w fun e w' => e = .returned (.int .i64 y) ∧ Below w.heap.size w w' := by
  by_cases hy : y = 0
  · have HE : Hid (secErr x y = .nilIface) := if_pos hy
    rw [HE.out]
    subst hy
    have HB : Hid (Below w.heap.size w (w.alloc (.cells #[.int .i64 0] 23))) := (Below.refl _ _).alloc (Nat.le_refl _) _
    go_enter Tryz.func85, Tryz.ntmps85
    go_wp2_with fail
    refine (as_nil _ _).mono ?_
    rintro e w1 ⟨rfl, rfl⟩
    go_wp2
    go_ret
    exact ⟨rfl, HB.out⟩
  · have HE : Hid (secErr x y = .iface 220 (.agg #[.int .i64 x, .int .i64 y])) := if_neg hy
    rw [HE.out]
    have hlt := lt_of_cell_ hg
    obtain ⟨w0, hw0⟩ : ∃ w0, w.alloc (.cells #[.int .i64 0] 23) = w0 := ⟨_, rfl⟩
    have g0 : w0.heap[w.heap.size]? = some (.cells #[.int .i64 0] 23 (0, 0)) := by rw [← hw0]; exact heap_alloc_new w _
    have hb0 : Below w.heap.size w w0 := by rw [← hw0]; exact (Below.refl _ _).alloc (Nat.le_refl _) _
    have hz0 : w0.heap.size = w.heap.size + 1 := by rw [← hw0]; simp
    have hh := as_hit x y ⟨w.heap.size, 0, none⟩ (.int .i64 0) w0 (hg.below hb0 hlt) (cell_of_row _ _ _ _ _ _ g0) (by simp [World.frozen?, g0])
    have HX : Hid (∀ w', w' = (((((w0.alloc (.cells #[.pointer (some ⟨w.heap.size, 0, none⟩)] 194)).alloc (.cells #[.pointer (some ⟨4, 194, none⟩), .pointer (some ⟨w0.heap.size, 0, none⟩), .int .u64 150] 223)).alloc (.cells #[.pointer (some ⟨4, 194, none⟩), .pointer (some ⟨w0.heap.size, 0, none⟩), .int .u64 150] 223)).alloc (.cells #[.int .i64 x, .int .i64 y] 220)).alloc (.cells #[.int .i64 y] 23)).setCell ⟨w.heap.size, 0, none⟩ (.int .i64 y) → w'.cell? ⟨w.heap.size, 0, none⟩ = some (.int .i64 y) ∧ Below w.heap.size w w') := by
      rintro w' rfl
      refine ⟨?_, (hb0.trans (((((((Below.refl w.heap.size w0).alloc (by omega) _).alloc (by simp; omega) _).alloc (by simp; omega) _).alloc (by simp; omega) _).alloc (by simp; omega) _))).setCell (p := ⟨w.heap.size, 0, none⟩) (Nat.le_refl _) _⟩
      have q : (((((w0.alloc (.cells #[.pointer (some ⟨w.heap.size, 0, none⟩)] 194)).alloc (.cells #[.pointer (some ⟨4, 194, none⟩), .pointer (some ⟨w0.heap.size, 0, none⟩), .int .u64 150] 223)).alloc (.cells #[.pointer (some ⟨4, 194, none⟩), .pointer (some ⟨w0.heap.size, 0, none⟩), .int .u64 150] 223)).alloc (.cells #[.int .i64 x, .int .i64 y] 220)).alloc (.cells #[.int .i64 y] 23)).heap[w.heap.size]? = some (.cells #[.int .i64 0] 23 (0, 0)) := by
        rw [Below.heap_alloc _ _ _ (by simp; omega), Below.heap_alloc _ _ _ (by simp; omega), Below.heap_alloc _ _ _ (by simp; omega), Below.heap_alloc _ _ _ (by simp; omega), Below.heap_alloc _ _ _ (by omega)]
        exact g0
      have := heap_setCell_same _ w.heap.size 0 _ _ (.int .i64 y) q
      exact cell_of_row _ _ _ _ _ _ this
    clear hg hb0 hz0 g0
    go_enter Tryz.func85, Tryz.ntmps85
    go_wp2_with fail
    try rw [hw0]
    refine hh.mono ?_
    rintro e w1 ⟨rfl, hw1⟩
    obtain ⟨c1, hb1⟩ := HX.out w1 hw1
    have HB : Hid (Below w.heap.size w w1) := hb1
    clear HX hw1 hh hb1 hw0
    go_wp2
    go_ret
    exact ⟨rfl, HB.out⟩
end Go.Proofs.YtbmjablmmlnieaaGreatDoor
