/- strings.Repeat and strings.Clone: the shelf's contracts, laid at the seat. · A vault that hashes, seals and opens, told by a structure; the ideal one is one. · errors.As at a sector's error and a number's place, by Go's own text; block's wrapped and numberOf. -/
import Derived.Test.YtdngoicpcocnnaaGreatDoorMg06
import Derived.Shelf.Strings.Repeat
import Derived.Test.YtdngoicpcocnnaaGreatDoorMg13
import Derived.LaidEql
import Derived.Stop.Asserts
import Derived.RowKitTokens
namespace Go.Proofs.YtdngoicpcocnnaaGreatDoor
set_option maxRecDepth 20000
open Go.Shelf Go.RowKit

def pl_lays105_ren : Go.Shelf.Ren := ⟨fun | 105 => 26 | 212 => 53 | 99 => 54 | 165 => 55 | 166 => 56 | 170 => 57 | 169 => 58 | 263 => 87 | 264 => 88 | 206 => 89 | 240 => 90 | 241 => 91 | 276 => 117 | 277 => 118 | n => n, fun | 9 => 9 | 3 => 3 | 4 => 4 | 20 => 20 | 0 => 0 | 46 => 117 | 109 => 118 | 5 => 5 | 72 => 123 | 76 => 125 | 51 => 163 | 146 => 164 | 53 => 166 | 148 => 167 | 70 => 121 | 37 => 92 | 75 => 99 | 127 => 169 | 164 => 195 | 80 => 128 | n => n, fun | n => n⟩
theorem pl_lays105 : Go.Proofs.Lays.n105 Tryz.prog pl_lays105_ren := {
  mixed := by kernel_rfl
  f99 := Tryz.func54.trans (congrArg some (by kernel_rfl))
  f105 := Tryz.func26.trans (congrArg some (by kernel_rfl))
  f165 := Tryz.func55.trans (congrArg some (by kernel_rfl))
  f166 := Tryz.func56.trans (congrArg some (by kernel_rfl))
  f169 := Tryz.func58.trans (congrArg some (by kernel_rfl))
  f170 := Tryz.func57.trans (congrArg some (by kernel_rfl))
  f206 := Tryz.func89.trans (congrArg some (by kernel_rfl))
  f212 := Tryz.func53.trans (congrArg some (by kernel_rfl))
  f240 := Tryz.func90.trans (congrArg some (by kernel_rfl))
  f241 := Tryz.func91.trans (congrArg some (by kernel_rfl))
  f263 := Tryz.func87.trans (congrArg some (by kernel_rfl))
  f264 := Tryz.func88.trans (congrArg some (by kernel_rfl))
  f276 := Tryz.func117.trans (congrArg some (by kernel_rfl))
  f277 := Tryz.func118.trans (congrArg some (by kernel_rfl))
  t0 := Tryz.underlying0
  a0 := Tryz.isAgg0
  z0 := Tryz.sizeOf0
  v0 := Tryz.zeroValue0
  t3 := Tryz.underlying3
  a3 := Tryz.isAgg3
  z3 := Tryz.sizeOf3
  v3 := Tryz.zeroValue3
  t4 := Tryz.underlying4
  a4 := Tryz.isAgg4
  z4 := Tryz.sizeOf4
  v4 := Tryz.zeroValue4
  t5 := Tryz.underlying5
  a5 := Tryz.isAgg5
  z5 := Tryz.sizeOf5
  v5 := Tryz.zeroValue5
  t9 := Tryz.underlying9
  a9 := Tryz.isAgg9
  z9 := Tryz.sizeOf9
  v9 := Tryz.zeroValue9
  t20 := Tryz.underlying20
  a20 := Tryz.isAgg20
  z20 := Tryz.sizeOf20
  v20 := Tryz.zeroValue20
  t37 := Tryz.underlying92
  a37 := Tryz.isAgg92
  z37 := Tryz.sizeOf92
  v37 := Tryz.zeroValue92
  t46 := Tryz.underlying117
  a46 := Tryz.isAgg117
  z46 := Tryz.sizeOf117
  v46 := Tryz.zeroValue117
  t51 := Tryz.underlying163
  a51 := Tryz.isAgg163
  z51 := Tryz.sizeOf163
  v51 := Tryz.zeroValue163
  t53 := Tryz.underlying166
  a53 := Tryz.isAgg166
  z53 := Tryz.sizeOf166
  v53 := Tryz.zeroValue166
  t70 := Tryz.underlying121
  a70 := Tryz.isAgg121
  z70 := Tryz.sizeOf121
  v70 := Tryz.zeroValue121
  t72 := Tryz.underlying123
  a72 := Tryz.isAgg123
  z72 := Tryz.sizeOf123
  v72 := Tryz.zeroValue123
  t75 := Tryz.underlying99
  a75 := Tryz.isAgg99
  z75 := Tryz.sizeOf99
  v75 := Tryz.zeroValue99
  t76 := Tryz.underlying125
  a76 := Tryz.isAgg125
  z76 := Tryz.sizeOf125
  v76 := Tryz.zeroValue125
  t109 := Tryz.underlying118
  a109 := Tryz.isAgg118
  z109 := Tryz.sizeOf118
  v109 := Tryz.zeroValue118
  t127 := Tryz.underlying169
  a127 := Tryz.isAgg169
  z127 := Tryz.sizeOf169
  v127 := Tryz.zeroValue169
  t146 := Tryz.underlying164
  a146 := Tryz.isAgg164
  z146 := Tryz.sizeOf164
  v146 := Tryz.zeroValue164
  t148 := Tryz.underlying167
  a148 := Tryz.isAgg167
  z148 := Tryz.sizeOf167
  v148 := Tryz.zeroValue167
  t164 := Tryz.underlying195
  a164 := Tryz.isAgg195
  z164 := Tryz.sizeOf195
  v164 := Tryz.zeroValue195 }
theorem pl_Builder_Extra_105 : Builder.Extra Tryz.prog pl_lays105_ren := {
  sizeBuilder := by kernel_rfl
  liesBuilder := by kernel_rfl
  t5 := Tryz.underlying5
  a5 := Tryz.isAgg5
  z5 := Tryz.sizeOf5
  v5 := Tryz.zeroValue5
  infoByte := by kernel_rfl
  cellsByte := by kernel_rfl
  sizeByte := by kernel_rfl
  neB5 := by decide }
/-- A text of one byte, so many times. -/
def fillS (v n : Nat) : ByteArray := strOfNums ((List.replicate n v).map fun (x : Nat) => (x : Int))
theorem fillS_size (v n : Nat) : (fillS v n).size = n := by simp [fillS, strOfNums_size]
set_option maxRecDepth 100000 in
theorem blank_eq : (⟨(Lib.repeatL (⟨#[0]⟩ : ByteArray).data.toList 64).toArray⟩ : ByteArray) = fillS 0 64 := by rfl
theorem repeat_blank (w : World) :
    Calls Tryz.prog 26 #[.string ⟨#[0]⟩, .int .i64 64] w fun e w' => e = .returned (.string (fillS 0 64)) ∧ Below w.heap.size w w' := by
  have h := Any.strings_Repeat pl_lays105 pl_Builder_Extra_105 ⟨#[0]⟩ 64 w (by decide) (by decide)
  rw [blank_eq] at h
  exact h
end Go.Proofs.YtdngoicpcocnnaaGreatDoor

namespace Go.Proofs.YtdngoicpcocnnaaGreatDoor
set_option maxRecDepth 20000
open Go.RowKit

structure VK where
  σ : Type
  v : Value
  lies : World → (Nat → Prop) → σ → Prop
  room : σ → Nat → Prop
  hS : σ → ByteArray → ByteArray
  hP : σ → ByteArray → σ
  sS : σ → Hd → ByteArray → ByteArray
  sP : σ → Hd → ByteArray → σ
  oE : σ → ByteArray → Int
  oH : σ → ByteArray → Hd
  oS : σ → ByteArray → ByteArray
def toldK (K : VK) (S : K.σ) (r : ByteArray) (a : Int) : Array Value := if K.oE S r = 0 ∧ (K.oH S r).v1 = a then readA true (K.oH S r) (K.oS S r) else noneA
theorem toldK_ok (K : VK) (S : K.σ) (r : ByteArray) (a : Int) : (toldK K S r a).size = 10 ∧ (toldK K S r a).all (·.oneCell') = true := by
  unfold toldK
  split
  · exact ⟨rfl, by simp [readA, Value.oneCell']⟩
  · exact ⟨rfl, by simp [noneA, readA, Value.oneCell']⟩
structure VKOk (K : VK) : Prop where
  keep : ∀ {w w' : World} {F : Nat → Prop} {S : K.σ}, K.lies w F S → (∀ k, k < w.heap.size → F k → w'.heap[k]? = w.heap[k]?) → K.lies w' F S
  mono : ∀ {w : World} {F F' : Nat → Prop} {S : K.σ}, K.lies w F S → (∀ k, k < w.heap.size → F k → F' k) → K.lies w F' S
  less : ∀ {S : K.σ} {n m : Nat}, K.room S n → m ≤ n → K.room S m
  hRoom : ∀ {S : K.σ} {s : ByteArray} {n : Nat}, K.room S (n + 1) → K.room (K.hP S s) n
  sRoom : ∀ {S : K.σ} {h : Hd} {s : ByteArray} {n : Nat}, K.room S (n + 1) → K.room (K.sP S h s) n
  hSize : ∀ (S : K.σ) (s : ByteArray), K.room S 1 → (K.hS S s).size = 32
  sSize : ∀ (S : K.σ) (h : Hd) (s : ByteArray), K.room S 1 → bsealE h s = 0 → (K.sS S h s).size = 512
  sNone : ∀ (S : K.σ) (h : Hd) (s : ByteArray), ¬ bsealE h s = 0 → K.sS S h s = ⟨#[]⟩
  hash : ∀ (F : Nat → Prop) (S : K.σ) (s : ByteArray) (w : World), s.size ≤ 1000000 → K.room S 1 → K.lies w F S → Calls Tryz.prog 76 #[K.v, .string s] w fun e w' => e = .returned (.string (K.hS S s)) ∧ K.lies w' F (K.hP S s) ∧ Touch F w w'
  seal_ : ∀ (F : Nat → Prop) (S : K.σ) (h : Hd) (s : ByteArray) (w : World), K.room S 1 → K.lies w F S → Calls Tryz.prog 78 #[K.v, .agg h.arr, .string s] w fun e w' => e = .returned (.tuple #[.string (K.sS S h s), .int .i64 (bsealE h s)]) ∧ K.lies w' F (K.sP S h s) ∧ Touch F w w'
  told : ∀ (F : Nat → Prop) (S : K.σ) (r : ByteArray) (a : Int) (w : World), K.room S 0 → K.lies w F S → Calls Tryz.prog 79 #[K.v, .string r, .int .i64 a] w fun e w' => e = .returned (.agg (toldK K S r a)) ∧ Below w.heap.size w w'
  probe : ∀ (F : Nat → Prop) (S : K.σ) (w : World), K.room S 0 → K.lies w F S → Calls Tryz.prog 69 #[K.v, .int .i64 0, .string (fillS 0 12), .string ⟨#[]⟩, .string ⟨#[]⟩] w fun e w' => e = .returned (.tuple #[.string ⟨#[]⟩, .int .i64 3]) ∧ Below w.heap.size w w'
theorem VKOk.below {K : VK} (HK : VKOk K) {w w' : World} {F : Nat → Prop} {S : K.σ} (h : K.lies w F S) (hb : Below w.heap.size w w') : K.lies w' F S := HK.keep h fun k hk _ => hb.block k hk

/-- The ideal vault in block B. -/
def idealK (B : Nat) : VK where
  σ := VS
  v := .pointer (some ⟨B, 0, none⟩)
  lies := fun w F S => Ideal w F B S
  room := fun S n => S.texts.length + n ≤ 1000000 ∧ S.seals.length + n ≤ 1000000
  hS := hashS
  hP := hashP
  sS := bsealS
  sP := bsealP
  oE := bopenE
  oH := bopenH
  oS := bopenS
theorem probe_1 (S : VS) : openS S 0 (fillS 0 12) ⟨#[]⟩ ⟨#[]⟩ = ⟨#[]⟩ ∧ openE S 0 (fillS 0 12) ⟨#[]⟩ ⟨#[]⟩ = 3 := by
  have hf : fitB 0 (fillS 0 12) = true := by simp [fitB, fillS_size]
  unfold openS openE
  rw [hf]
  exact ⟨rfl, rfl⟩
theorem ideal_len (S : VS) (h : Hd) (s : ByteArray) : (bsealP S h s).texts.length = S.texts.length ∧ (bsealP S h s).seals.length ≤ S.seals.length + 1 := by
  have := addN_length S.seals (h.four s)
  unfold bsealP
  split
  · exact ⟨rfl, this⟩
  · exact ⟨rfl, Nat.le_succ _⟩
theorem ideal_size (S : VS) (h : Hd) (s : ByteArray) (hr : S.seals.length + 1 ≤ 1000000) (he : bsealE h s = 0) : (bsealS S h s).size = 512 := by
  have h1 := numOf_le (h.four s) (addN S.seals (h.four s))
  have h2 := addN_length S.seals (h.four s)
  have hs : s.size = 448 := by
    by_cases hs : s.size = 448
    · exact hs
    · rw [bsealE, if_neg hs] at he
      exact absurd he (by decide)
  have he' : h.err = 0 := by rwa [bsealE, if_pos hs] at he
  have hb : bsealB h s = true := by simp [bsealB, hs, he']
  unfold bsealS
  rw [if_pos hb]
  exact blk_size he' hs (by omega)
theorem ideal_none (S : VS) (h : Hd) (s : ByteArray) (he : ¬ bsealE h s = 0) : bsealS S h s = ⟨#[]⟩ := by
  unfold bsealS
  rw [if_neg]
  intro hb
  have hb := of_decide_eq_true hb
  exact he (by rw [bsealE, if_pos hb.1, hb.2])
theorem idealOk (B : Nat) : VKOk (idealK B) where
  keep := fun h hk => Ideal.keep h hk
  mono := fun h hF => Ideal.mono h hF
  less := fun {S n m} h hm => by
    have h : S.texts.length + n ≤ 1000000 ∧ S.seals.length + n ≤ 1000000 := h
    exact ⟨by omega, by omega⟩
  hRoom := fun {S s n} h => by
    have h : S.texts.length + (n + 1) ≤ 1000000 ∧ S.seals.length + (n + 1) ≤ 1000000 := h
    have := addN_length S.texts s
    refine ⟨?_, ?_⟩
    · show (addN S.texts s).length + n ≤ 1000000
      omega
    · show S.seals.length + n ≤ 1000000
      omega
  sRoom := fun {S h s n} hr => by
    have hr : S.texts.length + (n + 1) ≤ 1000000 ∧ S.seals.length + (n + 1) ≤ 1000000 := hr
    have h1 := ideal_len S h s
    show (bsealP S h s).texts.length + n ≤ 1000000 ∧ (bsealP S h s).seals.length + n ≤ 1000000
    omega
  hSize := fun S s hr => by
    have hr : S.texts.length + 1 ≤ 1000000 ∧ S.seals.length + 1 ≤ 1000000 := hr
    have h1 := numOf_le s (addN S.texts s)
    have h2 := addN_length S.texts s
    exact wideS_size (by omega) (by decide)
  sSize := fun S h s hr he => ideal_size S h s hr.2 he
  sNone := fun S h s he => ideal_none S h s he
  hash := fun F S s w hs hr hp => by
    have hr : S.texts.length + 1 ≤ 1000000 ∧ S.seals.length + 1 ≤ 1000000 := hr
    exact vhash_any B F S s (by unfold fitT; omega) (by omega) w hp
  seal_ := fun F S h s w hr hp => by
    have hr : S.texts.length + 1 ≤ 1000000 ∧ S.seals.length + 1 ≤ 1000000 := hr
    exact bseal_any B F S h s (by omega) w hp
  told := fun F S r a w hr hp => by
    have hr : S.texts.length + 0 ≤ 1000000 ∧ S.seals.length + 0 ≤ 1000000 := hr
    exact told_any B F S r a (by omega) w hp
  probe := fun F S w hr hp => by
    have hr : S.texts.length + 0 ≤ 1000000 ∧ S.seals.length + 0 ≤ 1000000 := hr
    have h := vopen_any B F S 0 (fillS 0 12) ⟨#[]⟩ ⟨#[]⟩ ⟨by decide, by rw [fillS_size]; decide, by decide, by decide⟩ (by omega) w hp
    rw [(probe_1 S).1, (probe_1 S).2] at h
    exact h
end Go.Proofs.YtdngoicpcocnnaaGreatDoor

namespace Go.Proofs.YtdngoicpcocnnaaGreatDoor
set_option maxRecDepth 20000
open Go.RowKit Go.Extern.Stop Go.Stop Go.Extern

theorem as_nil (t : Value) (w : World) :
    Calls Tryz.prog 116 #[.nilIface, t] w fun e w' => e = .returned (.bool false) ∧ w' = w := by
  go_enter Tryz.func116, Tryz.ntmps116
  go_wp2
  go_ret
  exact ⟨rfl, rfl⟩
theorem ae_valueOfP (t : Addr) (w : World) : (ReflectliteValue.unpack (.iface 194 (.pointer (some t)))).run Tryz.prog w = .ok (.agg #[.pointer (some ⟨4, 194, none⟩), .pointer (some ⟨w.heap.size, 0, none⟩), .int .u64 150]) (w.alloc (.cells #[.pointer (some t)] 194)) := by kernel_rfl
theorem ae_typeP (a : Addr) (w : World) : (ReflectliteValue.methodAny (ReflectliteValue.valueError "reflectlite.Value.Type" 0) (fun t _ _ _ => ReflectliteType.toType t) #[.agg #[.pointer (some ⟨4, 194, none⟩), .pointer (some a), .int .u64 150]]).run Tryz.prog w = .ok (.iface 206 (.agg #[.pointer (some ⟨4, 194, none⟩)])) w := by kernel_rfl
theorem ae_methodKind (h : Value) (w : World) : (Go.method 397 206 (.agg #[h]) "Kind").run Tryz.prog w = .ok (173, h) w := by kernel_rfl
theorem ae_methodElem (h : Value) (w : World) : (Go.method 397 206 (.agg #[h]) "Elem").run Tryz.prog w = .ok (192, .agg #[h]) w := by kernel_rfl
theorem ae_methodImplements (h : Value) (w : World) : (Go.method 397 206 (.agg #[h]) "Implements").run Tryz.prog w = .ok (193, .agg #[h]) w := by kernel_rfl
theorem ae_methodAssignableTo (h : Value) (w : World) : (Go.method 397 206 (.agg #[h]) "AssignableTo").run Tryz.prog w = .ok (190, .agg #[h]) w := by kernel_rfl
theorem ae_kindP (w : World) : ((ReflectliteType.abiMethod fun t => (fun a : Nat => Value.int IntKind.u8 (a : Int)) <$> Rtype.kind t) #[.pointer (some ⟨4, 194, none⟩)]).run Tryz.prog w = .ok (.int .u8 22) w := by kernel_rfl
theorem ae_kindE (w : World) : ((ReflectliteType.abiMethod fun t => (fun a : Nat => Value.int IntKind.u8 (a : Int)) <$> Rtype.kind t) #[.pointer (some ⟨4, 23, none⟩)]).run Tryz.prog w = .ok (.int .u8 2) w := by kernel_rfl
theorem method_one {α : Type} (v : Value) (h1 : Value → α) (h2 : Array Value → α) : ReflectliteValue.method.match_2 (fun _ => α) #[v] h1 h2 = h1 v := rfl
theorem ae_partsP (a : Addr) (w : World) : (ReflectliteValue.parts (.agg #[.pointer (some ⟨4, 194, none⟩), .pointer (some a), .int .u64 150])).run Tryz.prog w = .ok (some (194, a, 150)) w := by kernel_rfl
theorem ae_isNil (a p : Addr) (W : World) (ha : W.cell? a = some (.pointer (some p))) : (ReflectliteValue.method (ReflectliteValue.valueError "reflectlite.Value.IsNil" 0) ReflectliteValue.isNil #[.agg #[.pointer (some ⟨4, 194, none⟩), .pointer (some a), .int .u64 150]]).run Tryz.prog W = .ok (.bool false) W := by
  delta ReflectliteValue.method
  rw [method_one]
  simp only [Sem.run_bind, ae_partsP, Result.andThen]
  simp [ReflectliteValue.isNil, loadVar, isAgg, underlying, Tryz.underlying194, ha, Result.andThen]
theorem ae_elemP (w : World) : (ReflectliteType.method ReflectliteType.elem #[.agg #[.pointer (some ⟨4, 194, none⟩)]]).run Tryz.prog w = .ok (.iface 206 (.agg #[.pointer (some ⟨4, 23, none⟩)])) w := by kernel_rfl
theorem ae_implements (w : World) : (ReflectliteType.relation "Implements" ReflectliteType.implements_ #[.agg #[.pointer (some ⟨4, 23, none⟩)], .iface 206 (.agg #[.pointer (some ⟨4, 99, none⟩)])]).run Tryz.prog w = .ok (.bool true) w := by kernel_rfl
theorem ae_typeOfS (v : Value) (w : World) : (ReflectliteType.typeOf #[.iface 220 v]).run Tryz.prog w = .ok (.iface 206 (.agg #[.pointer (some ⟨4, 220, none⟩)])) w := by kernel_rfl
theorem ae_assignS (w : World) : (ReflectliteType.relation "AssignableTo" ReflectliteType.assignableTo #[.agg #[.pointer (some ⟨4, 220, none⟩)], .iface 206 (.agg #[.pointer (some ⟨4, 23, none⟩)])]).run Tryz.prog w = .ok (.bool false) w := by kernel_rfl
theorem ae_typeOfE (v : Value) (w : World) : (ReflectliteType.typeOf #[.iface 23 v]).run Tryz.prog w = .ok (.iface 206 (.agg #[.pointer (some ⟨4, 23, none⟩)])) w := by kernel_rfl
theorem ae_assignE (w : World) : (ReflectliteType.relation "AssignableTo" ReflectliteType.assignableTo #[.agg #[.pointer (some ⟨4, 23, none⟩)], .iface 206 (.agg #[.pointer (some ⟨4, 23, none⟩)])]).run Tryz.prog w = .ok (.bool true) w := by kernel_rfl
theorem ae_valueOfE (y : Int) (w : World) : (ReflectliteValue.unpack (.iface 23 (.int .i64 y))).run Tryz.prog w = .ok (.agg #[.pointer (some ⟨4, 23, none⟩), .pointer (some ⟨w.heap.size, 0, none⟩), .int .u64 130]) (w.alloc (.cells #[.int .i64 y] 23)) := by kernel_rfl
theorem ae_elemOfP (w : World) : (Rtype.elem? 194).run Tryz.prog w = .ok (some 23) w := by kernel_rfl
theorem ae_mkE (p : Addr) (w : World) : (ReflectliteValue.mk 23 p ReflectliteValue.flagAddr).run Tryz.prog w = .ok (.agg #[.pointer (some ⟨4, 23, none⟩), .pointer (some p), .int .u64 386]) w := by kernel_rfl
theorem ae_elemV (a p : Addr) (W : World) (ha : W.cell? a = some (.pointer (some p))) : (ReflectliteValue.method (ReflectliteValue.valueError "reflectlite.Value.Elem" 0) ReflectliteValue.elem #[.agg #[.pointer (some ⟨4, 194, none⟩), .pointer (some a), .int .u64 150]]).run Tryz.prog W = .ok (.agg #[.pointer (some ⟨4, 23, none⟩), .pointer (some p), .int .u64 386]) W := by
  delta ReflectliteValue.method
  rw [method_one]
  simp only [Sem.run_bind, ae_partsP, Result.andThen]
  simp [ReflectliteValue.elem, loadVar, isAgg, underlying, Tryz.underlying194, ha, Result.andThen, ae_elemOfP, ae_mkE]
theorem ae_partsEa (a : Addr) (w : World) : (ReflectliteValue.parts (.agg #[.pointer (some ⟨4, 23, none⟩), .pointer (some a), .int .u64 386])).run Tryz.prog w = .ok (some (23, a, 386)) w := by kernel_rfl
theorem ae_partsE (a : Addr) (w : World) : (ReflectliteValue.parts (.agg #[.pointer (some ⟨4, 23, none⟩), .pointer (some a), .int .u64 130])).run Tryz.prog w = .ok (some (23, a, 130)) w := by kernel_rfl
theorem ae_direct (w : World) : (Rtype.directlyAssignable 23 23).run Tryz.prog w = .ok true w := by kernel_rfl
theorem set_two {α : Type} (v x : Value) (h1 : Value → Value → α) (h2 : Array Value → α) : ReflectliteValue.set.match_3 (fun _ => α) #[v, x] h1 h2 = h1 v x := rfl
theorem ae_set (ta b : Addr) (y : Int) (old : Value) (W : World) (hb : W.cell? b = some (.int .i64 y)) (ht : W.cell? ta = some old) (hf : W.frozen? ta = false) : (ReflectliteValue.set #[.agg #[.pointer (some ⟨4, 23, none⟩), .pointer (some ta), .int .u64 386], .agg #[.pointer (some ⟨4, 23, none⟩), .pointer (some b), .int .u64 130]]).run Tryz.prog W = .ok (.tuple #[]) (W.setCell ta (.int .i64 y)) := by
  delta ReflectliteValue.set
  dsimp only
  rw [set_two]
  simp only [Sem.run_bind, ae_partsEa, ae_partsE, Result.andThen]
  simp [ReflectliteValue.flagAddr, loadVar, isAgg, underlying, Tryz.underlying23, hb, Result.andThen, ae_direct, storeVar, Value.cells, storeCells, Addr.add]
  rw [run_store Tryz.prog W ta _ _ (by rfl)]
  simp [ht, hf]
theorem ae_noAs (v : Value) (xT : TypeId) (w : World) : (Instr.typeAssert (.iface 220 v) xT 234 true).run Tryz.prog w = .ok (.tuple #[.nilIface, .bool false]) w := run_typeAssert_lacksB Tryz.underlying234 (by kernel_rfl) (by kernel_rfl) v xT w
theorem ae_hasUnwrap (v : Value) (xT : TypeId) (w : World) : (Instr.typeAssert (.iface 220 v) xT 211 true).run Tryz.prog w = .ok (.tuple #[.iface 220 v, .bool true]) w := run_typeAssert_hasB Tryz.underlying211 (by kernel_rfl) v xT w
theorem ae_methodUnwrap (x y : Int) (w : World) : (Go.method 397 220 (.agg #[.int .i64 x, .int .i64 y]) "Unwrap").run Tryz.prog w = .ok (201, .agg #[.int .i64 x, .int .i64 y]) w := by kernel_rfl
theorem unwrap_any (x y : Int) (w : World) : Calls Tryz.prog 201 #[.agg #[.int .i64 x, .int .i64 y]] w fun e w' => e = .returned (.iface 23 (.int .i64 y)) ∧ w' = w.alloc (.cells #[.int .i64 x, .int .i64 y] 220) := by
  go_enter Tryz.func201, Tryz.ntmps201
  go_wp2
  go_ret
  exact ⟨rfl, rfl⟩
theorem lt_of_cell_ {w : World} {N i : Nat} {v : Value} (h : w.cell? ⟨N, i, none⟩ = some v) : N < w.heap.size := block_lt_of_cell (a := ⟨N, i, none⟩) h
end Go.Proofs.YtdngoicpcocnnaaGreatDoor
