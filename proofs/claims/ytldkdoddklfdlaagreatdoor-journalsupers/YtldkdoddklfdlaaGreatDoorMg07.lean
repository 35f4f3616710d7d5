/- strings.Repeat and strings.Clone: the shelf's contracts, laid at the seat. · A vault that hashes, seals and opens, told by a structure; the ideal one is one. · errors.As at a sector's error and a number's place, by Go's own text; block's wrapped and numberOf. · errors.As at a sector's error: the number is found; block's wrapped and numberOf. -/
import Derived.Test.YtldkdoddklfdlaaGreatDoorMg03
import Derived.Shelf.Strings.Repeat
import Derived.Test.YtldkdoddklfdlaaGreatDoorMg06
import Derived.LaidEql
import Derived.Stop.Asserts
import Derived.RowKitTokens
namespace Go.Proofs.YtldkdoddklfdlaaGreatDoor
set_option maxRecDepth 20000
open Go.Shelf Go.RowKit

def pl_lays105_ren : Go.Shelf.Ren := ⟨fun | 105 => 23 | 212 => 56 | 99 => 57 | 165 => 58 | 166 => 59 | 170 => 60 | 169 => 61 | 263 => 97 | 264 => 98 | 206 => 99 | 240 => 100 | 241 => 101 | 276 => 126 | 277 => 127 | n => n, fun | 9 => 9 | 3 => 3 | 4 => 4 | 20 => 20 | 0 => 0 | 46 => 133 | 109 => 134 | 5 => 5 | 72 => 139 | 76 => 141 | 51 => 144 | 146 => 195 | 53 => 197 | 148 => 198 | 70 => 137 | 37 => 90 | 75 => 113 | 127 => 200 | 164 => 229 | 80 => 76 | n => n, fun | n => n⟩
theorem pl_lays105 : Go.Proofs.Lays.n105 Tryz.prog pl_lays105_ren := {
  mixed := by kernel_rfl
  f99 := Tryz.func57.trans (congrArg some (by kernel_rfl))
  f105 := Tryz.func23.trans (congrArg some (by kernel_rfl))
  f165 := Tryz.func58.trans (congrArg some (by kernel_rfl))
  f166 := Tryz.func59.trans (congrArg some (by kernel_rfl))
  f169 := Tryz.func61.trans (congrArg some (by kernel_rfl))
  f170 := Tryz.func60.trans (congrArg some (by kernel_rfl))
  f206 := Tryz.func99.trans (congrArg some (by kernel_rfl))
  f212 := Tryz.func56.trans (congrArg some (by kernel_rfl))
  f240 := Tryz.func100.trans (congrArg some (by kernel_rfl))
  f241 := Tryz.func101.trans (congrArg some (by kernel_rfl))
  f263 := Tryz.func97.trans (congrArg some (by kernel_rfl))
  f264 := Tryz.func98.trans (congrArg some (by kernel_rfl))
  f276 := Tryz.func126.trans (congrArg some (by kernel_rfl))
  f277 := Tryz.func127.trans (congrArg some (by kernel_rfl))
  t0 := Tryz.underlying0
  a0 := Tryz.isAgg0
  z0 := Tryz.sizeOf0
  v0 := Tryz.zeroValue0
  t3 := Tryz.underlying3
  a3 := Tryz.isAgg3
  z3 := Tryz.sizeOf3
  v3 := Tryz.zeroValue3
  t4 := Tryz.underlying4
  a4 := Tryz.isAgg4
  z4 := Tryz.sizeOf4
  v4 := Tryz.zeroValue4
  t5 := Tryz.underlying5
  a5 := Tryz.isAgg5
  z5 := Tryz.sizeOf5
  v5 := Tryz.zeroValue5
  t9 := Tryz.underlying9
  a9 := Tryz.isAgg9
  z9 := Tryz.sizeOf9
  v9 := Tryz.zeroValue9
  t20 := Tryz.underlying20
  a20 := Tryz.isAgg20
  z20 := Tryz.sizeOf20
  v20 := Tryz.zeroValue20
  t37 := Tryz.underlying90
  a37 := Tryz.isAgg90
  z37 := Tryz.sizeOf90
  v37 := Tryz.zeroValue90
  t46 := Tryz.underlying133
  a46 := Tryz.isAgg133
  z46 := Tryz.sizeOf133
  v46 := Tryz.zeroValue133
  t51 := Tryz.underlying144
  a51 := Tryz.isAgg144
  z51 := Tryz.sizeOf144
  v51 := Tryz.zeroValue144
  t53 := Tryz.underlying197
  a53 := Tryz.isAgg197
  z53 := Tryz.sizeOf197
  v53 := Tryz.zeroValue197
  t70 := Tryz.underlying137
  a70 := Tryz.isAgg137
  z70 := Tryz.sizeOf137
  v70 := Tryz.zeroValue137
  t72 := Tryz.underlying139
  a72 := Tryz.isAgg139
  z72 := Tryz.sizeOf139
  v72 := Tryz.zeroValue139
  t75 := Tryz.underlying113
  a75 := Tryz.isAgg113
  z75 := Tryz.sizeOf113
  v75 := Tryz.zeroValue113
  t76 := Tryz.underlying141
  a76 := Tryz.isAgg141
  z76 := Tryz.sizeOf141
  v76 := Tryz.zeroValue141
  t109 := Tryz.underlying134
  a109 := Tryz.isAgg134
  z109 := Tryz.sizeOf134
  v109 := Tryz.zeroValue134
  t127 := Tryz.underlying200
  a127 := Tryz.isAgg200
  z127 := Tryz.sizeOf200
  v127 := Tryz.zeroValue200
  t146 := Tryz.underlying195
  a146 := Tryz.isAgg195
  z146 := Tryz.sizeOf195
  v146 := Tryz.zeroValue195
  t148 := Tryz.underlying198
  a148 := Tryz.isAgg198
  z148 := Tryz.sizeOf198
  v148 := Tryz.zeroValue198
  t164 := Tryz.underlying229
  a164 := Tryz.isAgg229
  z164 := Tryz.sizeOf229
  v164 := Tryz.zeroValue229 }
theorem pl_Builder_Extra_105 : Builder.Extra Tryz.prog pl_lays105_ren := {
  sizeBuilder := by kernel_rfl
  liesBuilder := by kernel_rfl
  t5 := Tryz.underlying5
  a5 := Tryz.isAgg5
  z5 := Tryz.sizeOf5
  v5 := Tryz.zeroValue5
  infoByte := by kernel_rfl
  cellsByte := by kernel_rfl
  sizeByte := by kernel_rfl
  neB5 := by decide }
/-- A text of one byte, so many times. -/
def fillS (v n : Nat) : ByteArray := strOfNums ((List.replicate n v).map fun (x : Nat) => (x : Int))
theorem fillS_size (v n : Nat) : (fillS v n).size = n := by simp [fillS, strOfNums_size]
set_option maxRecDepth 100000 in
theorem blank_eq : (⟨(Lib.repeatL (⟨#[0]⟩ : ByteArray).data.toList 64).toArray⟩ : ByteArray) = fillS 0 64 := by rfl
theorem repeat_blank (w : World) :
    Calls Tryz.prog 23 #[.string ⟨#[0]⟩, .int .i64 64] w fun e w' => e = .returned (.string (fillS 0 64)) ∧ Below w.heap.size w w' := by
  have h := Any.strings_Repeat pl_lays105 pl_Builder_Extra_105 ⟨#[0]⟩ 64 w (by decide) (by decide)
  rw [blank_eq] at h
  exact h
end Go.Proofs.YtldkdoddklfdlaaGreatDoor

namespace Go.Proofs.YtldkdoddklfdlaaGreatDoor
set_option maxRecDepth 20000
open Go.RowKit

structure VK where
  σ : Type
  v : Value
  lies : World → (Nat → Prop) → σ → Prop
  room : σ → Nat → Prop
  hS : σ → ByteArray → ByteArray
  hP : σ → ByteArray → σ
  sS : σ → Hd → ByteArray → ByteArray
  sP : σ → Hd → ByteArray → σ
  oE : σ → ByteArray → Int
  oH : σ → ByteArray → Hd
  oS : σ → ByteArray → ByteArray
def toldK (K : VK) (S : K.σ) (r : ByteArray) (a : Int) : Array Value := if K.oE S r = 0 ∧ (K.oH S r).v1 = a then readA true (K.oH S r) (K.oS S r) else noneA
theorem toldK_ok (K : VK) (S : K.σ) (r : ByteArray) (a : Int) : (toldK K S r a).size = 10 ∧ (toldK K S r a).all (·.oneCell') = true := by
  unfold toldK
  split
  · exact ⟨rfl, by simp [readA, Value.oneCell']⟩
  · exact ⟨rfl, by simp [noneA, readA, Value.oneCell']⟩
structure VKOk (K : VK) : Prop where
  keep : ∀ {w w' : World} {F : Nat → Prop} {S : K.σ}, K.lies w F S → (∀ k, k < w.heap.size → F k → w'.heap[k]? = w.heap[k]?) → K.lies w' F S
  mono : ∀ {w : World} {F F' : Nat → Prop} {S : K.σ}, K.lies w F S → (∀ k, k < w.heap.size → F k → F' k) → K.lies w F' S
  less : ∀ {S : K.σ} {n m : Nat}, K.room S n → m ≤ n → K.room S m
  hRoom : ∀ {S : K.σ} {s : ByteArray} {n : Nat}, K.room S (n + 1) → K.room (K.hP S s) n
  sRoom : ∀ {S : K.σ} {h : Hd} {s : ByteArray} {n : Nat}, K.room S (n + 1) → K.room (K.sP S h s) n
  hSize : ∀ (S : K.σ) (s : ByteArray), K.room S 1 → (K.hS S s).size = 32
  sSize : ∀ (S : K.σ) (h : Hd) (s : ByteArray), K.room S 1 → bsealE h s = 0 → (K.sS S h s).size = 512
  sNone : ∀ (S : K.σ) (h : Hd) (s : ByteArray), ¬ bsealE h s = 0 → K.sS S h s = ⟨#[]⟩
  hash : ∀ (F : Nat → Prop) (S : K.σ) (s : ByteArray) (w : World), s.size ≤ 1000000 → K.room S 1 → K.lies w F S → Calls Tryz.prog 87 #[K.v, .string s] w fun e w' => e = .returned (.string (K.hS S s)) ∧ K.lies w' F (K.hP S s) ∧ Touch F w w'
  seal_ : ∀ (F : Nat → Prop) (S : K.σ) (h : Hd) (s : ByteArray) (w : World), K.room S 1 → K.lies w F S → Calls Tryz.prog 13 #[K.v, .agg h.arr, .string s] w fun e w' => e = .returned (.tuple #[.string (K.sS S h s), .int .i64 (bsealE h s)]) ∧ K.lies w' F (K.sP S h s) ∧ Touch F w w'
  told : ∀ (F : Nat → Prop) (S : K.σ) (r : ByteArray) (a : Int) (w : World), K.room S 0 → K.lies w F S → Calls Tryz.prog 91 #[K.v, .string r, .int .i64 a] w fun e w' => e = .returned (.agg (toldK K S r a)) ∧ Below w.heap.size w w'
  probe : ∀ (F : Nat → Prop) (S : K.σ) (w : World), K.room S 0 → K.lies w F S → Calls Tryz.prog 80 #[K.v, .int .i64 0, .string (fillS 0 12), .string ⟨#[]⟩, .string ⟨#[]⟩] w fun e w' => e = .returned (.tuple #[.string ⟨#[]⟩, .int .i64 3]) ∧ Below w.heap.size w w'
theorem VKOk.below {K : VK} (HK : VKOk K) {w w' : World} {F : Nat → Prop} {S : K.σ} (h : K.lies w F S) (hb : Below w.heap.size w w') : K.lies w' F S := HK.keep h fun k hk _ => hb.block k hk

/-- The ideal vault in block B. -/
def idealK (B : Nat) : VK where
  σ := VS
  v := .pointer (some ⟨B, 0, none⟩)
  lies := fun w F S => Ideal w F B S
  room := fun S n => S.texts.length + n ≤ 1000000 ∧ S.seals.length + n ≤ 1000000
  hS := hashS
  hP := hashP
  sS := bsealS
  sP := bsealP
  oE := bopenE
  oH := bopenH
  oS := bopenS
theorem probe_1 (S : VS) : openS S 0 (fillS 0 12) ⟨#[]⟩ ⟨#[]⟩ = ⟨#[]⟩ ∧ openE S 0 (fillS 0 12) ⟨#[]⟩ ⟨#[]⟩ = 3 := by
  have hf : fitB 0 (fillS 0 12) = true := by simp [fitB, fillS_size]
  unfold openS openE
  rw [hf]
  exact ⟨rfl, rfl⟩
theorem ideal_len (S : VS) (h : Hd) (s : ByteArray) : (bsealP S h s).texts.length = S.texts.length ∧ (bsealP S h s).seals.length ≤ S.seals.length + 1 := by
  have := addN_length S.seals (h.four s)
  unfold bsealP
  split
  · exact ⟨rfl, this⟩
  · exact ⟨rfl, Nat.le_succ _⟩
theorem ideal_size (S : VS) (h : Hd) (s : ByteArray) (hr : S.seals.length + 1 ≤ 1000000) (he : bsealE h s = 0) : (bsealS S h s).size = 512 := by
  have h1 := numOf_le (h.four s) (addN S.seals (h.four s))
  have h2 := addN_length S.seals (h.four s)
  have hs : s.size = 448 := by
    by_cases hs : s.size = 448
    · exact hs
    · rw [bsealE, if_neg hs] at he
      exact absurd he (by decide)
  have he' : h.err = 0 := by rwa [bsealE, if_pos hs] at he
  have hb : bsealB h s = true := by simp [bsealB, hs, he']
  unfold bsealS
  rw [if_pos hb]
  exact blk_size he' hs (by omega)
theorem ideal_none (S : VS) (h : Hd) (s : ByteArray) (he : ¬ bsealE h s = 0) : bsealS S h s = ⟨#[]⟩ := by
  unfold bsealS
  rw [if_neg]
  intro hb
  have hb := of_decide_eq_true hb
  exact he (by rw [bsealE, if_pos hb.1, hb.2])
theorem idealOk (B : Nat) : VKOk (idealK B) where
  keep := fun h hk => Ideal.keep h hk
  mono := fun h hF => Ideal.mono h hF
  less := fun {S n m} h hm => by
    have h : S.texts.length + n ≤ 1000000 ∧ S.seals.length + n ≤ 1000000 := h
    exact ⟨by omega, by omega⟩
  hRoom := fun {S s n} h => by
    have h : S.texts.length + (n + 1) ≤ 1000000 ∧ S.seals.length + (n + 1) ≤ 1000000 := h
    have := addN_length S.texts s
    refine ⟨?_, ?_⟩
    · show (addN S.texts s).length + n ≤ 1000000
      omega
    · show S.seals.length + n ≤ 1000000
      omega
  sRoom := fun {S h s n} hr => by
    have hr : S.texts.length + (n + 1) ≤ 1000000 ∧ S.seals.length + (n + 1) ≤ 1000000 := hr
    have h1 := ideal_len S h s
    show (bsealP S h s).texts.length + n ≤ 1000000 ∧ (bsealP S h s).seals.length + n ≤ 1000000
    omega
  hSize := fun S s hr => by
    have hr : S.texts.length + 1 ≤ 1000000 ∧ S.seals.length + 1 ≤ 1000000 := hr
    have h1 := numOf_le s (addN S.texts s)
    have h2 := addN_length S.texts s
    exact wideS_size (by omega) (by decide)
  sSize := fun S h s hr he => ideal_size S h s hr.2 he
  sNone := fun S h s he => ideal_none S h s he
  hash := fun F S s w hs hr hp => by
    have hr : S.texts.length + 1 ≤ 1000000 ∧ S.seals.length + 1 ≤ 1000000 := hr
    exact vhash_any B F S s (by unfold fitT; omega) (by omega) w hp
  seal_ := fun F S h s w hr hp => by
    have hr : S.texts.length + 1 ≤ 1000000 ∧ S.seals.length + 1 ≤ 1000000 := hr
    exact bseal_any B F S h s (by omega) w hp
  told := fun F S r a w hr hp => by
    have hr : S.texts.length + 0 ≤ 1000000 ∧ S.seals.length + 0 ≤ 1000000 := hr
    exact told_any B F S r a (by omega) w hp
  probe := fun F S w hr hp => by
    have hr : S.texts.length + 0 ≤ 1000000 ∧ S.seals.length + 0 ≤ 1000000 := hr
    have h := vopen_any B F S 0 (fillS 0 12) ⟨#[]⟩ ⟨#[]⟩ ⟨by decide, by rw [fillS_size]; decide, by decide, by decide⟩ (by omega) w hp
    rw [(probe_1 S).1, (probe_1 S).2] at h
    exact h
end Go.Proofs.YtldkdoddklfdlaaGreatDoor

namespace Go.Proofs.YtldkdoddklfdlaaGreatDoor
set_option maxRecDepth 20000
open Go.RowKit Go.Extern.Stop Go.Stop Go.Extern

theorem as_nil (t : Value) (w : World) :
    Calls Tryz.prog 150 #[.nilIface, t] w fun e w' => e = .returned (.bool false) ∧ w' = w := by
  go_enter Tryz.func150, Tryz.ntmps150
  go_wp2
  go_ret
  exact ⟨rfl, rfl⟩
theorem ae_valueOfP (t : Addr) (w : World) : (ReflectliteValue.unpack (.iface 260 (.pointer (some t)))).run Tryz.prog w = .ok (.agg #[.pointer (some ⟨6, 260, none⟩), .pointer (some ⟨w.heap.size, 0, none⟩), .int .u64 150]) (w.alloc (.cells #[.pointer (some t)] 260)) := by kernel_rfl
theorem ae_typeP (a : Addr) (w : World) : (ReflectliteValue.methodAny (ReflectliteValue.valueError "reflectlite.Value.Type" 0) (fun t _ _ _ => ReflectliteType.toType t) #[.agg #[.pointer (some ⟨6, 260, none⟩), .pointer (some a), .int .u64 150]]).run Tryz.prog w = .ok (.iface 241 (.agg #[.pointer (some ⟨6, 260, none⟩)])) w := by kernel_rfl
theorem ae_methodKind (h : Value) (w : World) : (Go.method 489 241 (.agg #[h]) "Kind").run Tryz.prog w = .ok (217, h) w := by kernel_rfl
theorem ae_methodElem (h : Value) (w : World) : (Go.method 489 241 (.agg #[h]) "Elem").run Tryz.prog w = .ok (274, .agg #[h]) w := by kernel_rfl
theorem ae_methodImplements (h : Value) (w : World) : (Go.method 489 241 (.agg #[h]) "Implements").run Tryz.prog w = .ok (275, .agg #[h]) w := by kernel_rfl
theorem ae_methodAssignableTo (h : Value) (w : World) : (Go.method 489 241 (.agg #[h]) "AssignableTo").run Tryz.prog w = .ok (272, .agg #[h]) w := by kernel_rfl
theorem ae_kindP (w : World) : ((ReflectliteType.abiMethod fun t => (fun a : Nat => Value.int IntKind.u8 (a : Int)) <$> Rtype.kind t) #[.pointer (some ⟨6, 260, none⟩)]).run Tryz.prog w = .ok (.int .u8 22) w := by kernel_rfl
theorem ae_kindE (w : World) : ((ReflectliteType.abiMethod fun t => (fun a : Nat => Value.int IntKind.u8 (a : Int)) <$> Rtype.kind t) #[.pointer (some ⟨6, 28, none⟩)]).run Tryz.prog w = .ok (.int .u8 2) w := by kernel_rfl
theorem method_one {α : Type} (v : Value) (h1 : Value → α) (h2 : Array Value → α) : ReflectliteValue.method.match_2 (fun _ => α) #[v] h1 h2 = h1 v := rfl
theorem ae_partsP (a : Addr) (w : World) : (ReflectliteValue.parts (.agg #[.pointer (some ⟨6, 260, none⟩), .pointer (some a), .int .u64 150])).run Tryz.prog w = .ok (some (260, a, 150)) w := by kernel_rfl
theorem ae_isNil (a p : Addr) (W : World) (ha : W.cell? a = some (.pointer (some p))) : (ReflectliteValue.method (ReflectliteValue.valueError "reflectlite.Value.IsNil" 0) ReflectliteValue.isNil #[.agg #[.pointer (some ⟨6, 260, none⟩), .pointer (some a), .int .u64 150]]).run Tryz.prog W = .ok (.bool false) W := by
  delta ReflectliteValue.method
  rw [method_one]
  simp only [Sem.run_bind, ae_partsP, Result.andThen]
  simp [ReflectliteValue.isNil, loadVar, isAgg, underlying, Tryz.underlying260, ha, Result.andThen]
theorem ae_elemP (w : World) : (ReflectliteType.method ReflectliteType.elem #[.agg #[.pointer (some ⟨6, 260, none⟩)]]).run Tryz.prog w = .ok (.iface 241 (.agg #[.pointer (some ⟨6, 28, none⟩)])) w := by kernel_rfl
theorem ae_implements (w : World) : (ReflectliteType.relation "Implements" ReflectliteType.implements_ #[.agg #[.pointer (some ⟨6, 28, none⟩)], .iface 241 (.agg #[.pointer (some ⟨6, 113, none⟩)])]).run Tryz.prog w = .ok (.bool true) w := by kernel_rfl
theorem ae_typeOfS (v : Value) (w : World) : (ReflectliteType.typeOf #[.iface 281 v]).run Tryz.prog w = .ok (.iface 241 (.agg #[.pointer (some ⟨6, 281, none⟩)])) w := by kernel_rfl
theorem ae_assignS (w : World) : (ReflectliteType.relation "AssignableTo" ReflectliteType.assignableTo #[.agg #[.pointer (some ⟨6, 281, none⟩)], .iface 241 (.agg #[.pointer (some ⟨6, 28, none⟩)])]).run Tryz.prog w = .ok (.bool false) w := by kernel_rfl
theorem ae_typeOfE (v : Value) (w : World) : (ReflectliteType.typeOf #[.iface 28 v]).run Tryz.prog w = .ok (.iface 241 (.agg #[.pointer (some ⟨6, 28, none⟩)])) w := by kernel_rfl
theorem ae_assignE (w : World) : (ReflectliteType.relation "AssignableTo" ReflectliteType.assignableTo #[.agg #[.pointer (some ⟨6, 28, none⟩)], .iface 241 (.agg #[.pointer (some ⟨6, 28, none⟩)])]).run Tryz.prog w = .ok (.bool true) w := by kernel_rfl
theorem ae_valueOfE (y : Int) (w : World) : (ReflectliteValue.unpack (.iface 28 (.int .i64 y))).run Tryz.prog w = .ok (.agg #[.pointer (some ⟨6, 28, none⟩), .pointer (some ⟨w.heap.size, 0, none⟩), .int .u64 130]) (w.alloc (.cells #[.int .i64 y] 28)) := by kernel_rfl
theorem ae_elemOfP (w : World) : (Rtype.elem? 260).run Tryz.prog w = .ok (some 28) w := by kernel_rfl
theorem ae_mkE (p : Addr) (w : World) : (ReflectliteValue.mk 28 p ReflectliteValue.flagAddr).run Tryz.prog w = .ok (.agg #[.pointer (some ⟨6, 28, none⟩), .pointer (some p), .int .u64 386]) w := by kernel_rfl
theorem ae_elemV (a p : Addr) (W : World) (ha : W.cell? a = some (.pointer (some p))) : (ReflectliteValue.method (ReflectliteValue.valueError "reflectlite.Value.Elem" 0) ReflectliteValue.elem #[.agg #[.pointer (some ⟨6, 260, none⟩), .pointer (some a), .int .u64 150]]).run Tryz.prog W = .ok (.agg #[.pointer (some ⟨6, 28, none⟩), .pointer (some p), .int .u64 386]) W := by
  delta ReflectliteValue.method
  rw [method_one]
  simp only [Sem.run_bind, ae_partsP, Result.andThen]
  simp [ReflectliteValue.elem, loadVar, isAgg, underlying, Tryz.underlying260, ha, Result.andThen, ae_elemOfP, ae_mkE]
theorem ae_partsEa (a : Addr) (w : World) : (ReflectliteValue.parts (.agg #[.pointer (some ⟨6, 28, none⟩), .pointer (some a), .int .u64 386])).run Tryz.prog w = .ok (some (28, a, 386)) w := by kernel_rfl
theorem ae_partsE (a : Addr) (w : World) : (ReflectliteValue.parts (.agg #[.pointer (some ⟨6, 28, none⟩), .pointer (some a), .int .u64 130])).run Tryz.prog w = .ok (some (28, a, 130)) w := by kernel_rfl
theorem ae_direct (w : World) : (Rtype.directlyAssignable 28 28).run Tryz.prog w = .ok true w := by kernel_rfl
theorem set_two {α : Type} (v x : Value) (h1 : Value → Value → α) (h2 : Array Value → α) : ReflectliteValue.set.match_3 (fun _ => α) #[v, x] h1 h2 = h1 v x := rfl
theorem ae_set (ta b : Addr) (y : Int) (old : Value) (W : World) (hb : W.cell? b = some (.int .i64 y)) (ht : W.cell? ta = some old) (hf : W.frozen? ta = false) : (ReflectliteValue.set #[.agg #[.pointer (some ⟨6, 28, none⟩), .pointer (some ta), .int .u64 386], .agg #[.pointer (some ⟨6, 28, none⟩), .pointer (some b), .int .u64 130]]).run Tryz.prog W = .ok (.tuple #[]) (W.setCell ta (.int .i64 y)) := by
  delta ReflectliteValue.set
  dsimp only
  rw [set_two]
  simp only [Sem.run_bind, ae_partsEa, ae_partsE, Result.andThen]
  simp [ReflectliteValue.flagAddr, loadVar, isAgg, underlying, Tryz.underlying28, hb, Result.andThen, ae_direct, storeVar, Value.cells, storeCells, Addr.add]
  rw [run_store Tryz.prog W ta _ _ (by rfl)]
  simp [ht, hf]
theorem ae_noAs (v : Value) (xT : TypeId) (w : World) : (Instr.typeAssert (.iface 281 v) xT 294 true).run Tryz.prog w = .ok (.tuple #[.nilIface, .bool false]) w := run_typeAssert_lacksB Tryz.underlying294 (by kernel_rfl) (by kernel_rfl) v xT w
theorem ae_hasUnwrap (v : Value) (xT : TypeId) (w : World) : (Instr.typeAssert (.iface 281 v) xT 246 true).run Tryz.prog w = .ok (.tuple #[.iface 281 v, .bool true]) w := run_typeAssert_hasB Tryz.underlying246 (by kernel_rfl) v xT w
theorem ae_methodUnwrap (x y : Int) (w : World) : (Go.method 489 281 (.agg #[.int .i64 x, .int .i64 y]) "Unwrap").run Tryz.prog w = .ok (283, .agg #[.int .i64 x, .int .i64 y]) w := by kernel_rfl
theorem unwrap_any (x y : Int) (w : World) : Calls Tryz.prog 283 #[.agg #[.int .i64 x, .int .i64 y]] w fun e w' => e = .returned (.iface 28 (.int .i64 y)) ∧ w' = w.alloc (.cells #[.int .i64 x, .int .i64 y] 281) := by
  go_enter Tryz.func283, Tryz.ntmps283
  go_wp2
  go_ret
  exact ⟨rfl, rfl⟩
theorem lt_of_cell_ {w : World} {N i : Nat} {v : Value} (h : w.cell? ⟨N, i, none⟩ = some v) : N < w.heap.size := block_lt_of_cell (a := ⟨N, i, none⟩) h
end Go.Proofs.YtldkdoddklfdlaaGreatDoor

namespace Go.Proofs.YtldkdoddklfdlaaGreatDoor
set_option maxRecDepth 20000
open Go.RowKit Go.Extern.Stop Go.Stop Go.Extern

set_option maxHeartbeats 4000000 in
theorem as_in (x y : Int) (t a : Addr) (old : Value) (W : World) (ha : W.cell? a = some (.pointer (some t))) (ht0 : W.cell? t = some old) (hf0 : W.frozen? t = false) :
    Calls Tryz.prog 174 #[.iface 281 (.agg #[.int .i64 x, .int .i64 y]), .iface 260 (.pointer (some t)), .agg #[.pointer (some ⟨6, 260, none⟩), .pointer (some a), .int .u64 150], .iface 241 (.agg #[.pointer (some ⟨6, 28, none⟩)])] W fun ev w' => ev = .returned (.bool true) ∧ w' = (((W.alloc (.cells #[.pointer (some ⟨6, 260, none⟩), .pointer (some a), .int .u64 150] 284)).alloc (.cells #[.int .i64 x, .int .i64 y] 281)).alloc (.cells #[.int .i64 y] 28)).setCell t (.int .i64 y) := by
  have x_82v := @run_callFunc_extern Tryz.prog 171 _ (fun args => ReflectliteValue.unpack (args.getD 0 (.tuple #[]))) Tryz.func171 (by kernel_rfl) (by kernel_rfl) (by kernel_rfl) (by kernel_rfl)
  have x_tyv := @run_callFunc_extern Tryz.prog 172 _ (ReflectliteValue.methodAny (ReflectliteValue.valueError "reflectlite.Value.Type" 0) (fun t _ _ _ => ReflectliteType.toType t)) Tryz.func172 (by kernel_rfl) (by kernel_rfl) (by kernel_rfl) (by kernel_rfl)
  have x_nil := @run_callFunc_extern Tryz.prog 173 _ (ReflectliteValue.method (ReflectliteValue.valueError "reflectlite.Value.IsNil" 0) ReflectliteValue.isNil) Tryz.func173 (by kernel_rfl) (by kernel_rfl) (by kernel_rfl) (by kernel_rfl)
  have x_knd := @run_callFunc_extern Tryz.prog 217 _ (ReflectliteType.abiMethod fun t => do pure (.int .u8 (← Rtype.kind t))) Tryz.func217 (by kernel_rfl) (by kernel_rfl) (by kernel_rfl) (by kernel_rfl)
  have x_elt := @run_callFunc_extern Tryz.prog 274 _ (ReflectliteType.method ReflectliteType.elem) Tryz.func274 (by kernel_rfl) (by kernel_rfl) (by kernel_rfl) (by kernel_rfl)
  have x_imp := @run_callFunc_extern Tryz.prog 275 _ (ReflectliteType.relation "Implements" ReflectliteType.implements_) Tryz.func275 (by kernel_rfl) (by kernel_rfl) (by kernel_rfl) (by kernel_rfl)
  have x_tof := @run_callFunc_extern Tryz.prog 113 _ ReflectliteType.typeOf Tryz.func113 (by kernel_rfl) (by kernel_rfl) (by kernel_rfl) (by kernel_rfl)
  have x_asg := @run_callFunc_extern Tryz.prog 272 _ (ReflectliteType.relation "AssignableTo" ReflectliteType.assignableTo) Tryz.func272 (by kernel_rfl) (by kernel_rfl) (by kernel_rfl) (by kernel_rfl)
  have x_elv := @run_callFunc_extern Tryz.prog 181 _ (ReflectliteValue.method (ReflectliteValue.valueError "reflectlite.Value.Elem" 0) ReflectliteValue.elem) Tryz.func181 (by kernel_rfl) (by kernel_rfl) (by kernel_rfl) (by kernel_rfl)
  have x_set := @run_callFunc_extern Tryz.prog 182 _ ReflectliteValue.set Tryz.func182 (by kernel_rfl) (by kernel_rfl) (by kernel_rfl) (by kernel_rfl)
  have f1 := ae_valueOfP
  have f2 := ae_typeP
  have f3 := ae_methodKind
  have f4 := ae_methodElem
  have f5 := ae_methodImplements
  have f6 := ae_methodAssignableTo
  have f7 := ae_kindP
  have f8 := ae_kindE
  have f9 := ae_elemP
  have f10 := ae_implements
  have f11 := ae_typeOfS
  have f12 := ae_typeOfE
  have f13 := ae_assignS
  have f14 := ae_assignE
  have f15 := ae_valueOfE
  have f16 := ae_noAs
  have f17 := ae_hasUnwrap
  have f18 := ae_methodUnwrap
  have htl : t.block < W.heap.size := block_lt_of_cell ht0
  have hal : a.block < W.heap.size := block_lt_of_cell ha
  have el := ae_elemV a t ((W.alloc (.cells #[.pointer (some ⟨6, 260, none⟩), .pointer (some a), .int .u64 150] 284)).alloc (.cells #[.int .i64 x, .int .i64 y] 281)) (by rw [World.cell?_alloc_lt _ _ a (by simp; omega), World.cell?_alloc_lt _ _ a hal]; exact ha)
  have st := ae_set t ⟨W.heap.size + 1 + 1, 0, none⟩ y old (((W.alloc (.cells #[.pointer (some ⟨6, 260, none⟩), .pointer (some a), .int .u64 150] 284)).alloc (.cells #[.int .i64 x, .int .i64 y] 281)).alloc (.cells #[.int .i64 y] 28))
    (by rw [World.cell?_alloc_at _ _ _ _ (by simp)]; rfl)
    (by rw [World.cell?_alloc_lt _ _ t (by simp; omega), World.cell?_alloc_lt _ _ t (by simp; omega), World.cell?_alloc_lt _ _ t htl]; exact ht0)
    (by rw [World.frozen?_alloc_old _ _ t (by simp; omega), World.frozen?_alloc_old _ _ t (by simp; omega), World.frozen?_alloc_old _ _ t (Nat.ne_of_lt htl)]; exact hf0)
  clear ha ht0 hf0
  go_enter Tryz.func174, Tryz.ntmps174
  go_wp2_with fail
  refine wp_loop_rounds 2 ?_
  rw [rounds_succ]
  go_wp2_with fail
  refine (unwrap_any x y _).mono ?_
  rintro e w1 ⟨rfl, rfl⟩
  go_wp2_with fail
  rw [rounds_succ]
  go_wp2
  go_ret
  exact ⟨rfl, rfl⟩
set_option maxHeartbeats 4000000 in
theorem as_hit (x y : Int) (t : Addr) (old : Value) (w : World) (hg : w.cell? ⟨3, 0, none⟩ = some (.iface 241 (.agg #[.pointer (some ⟨6, 113, none⟩)]))) (ht0 : w.cell? t = some old) (hf0 : w.frozen? t = false) :
    Calls Tryz.prog 150 #[.iface 281 (.agg #[.int .i64 x, .int .i64 y]), .iface 260 (.pointer (some t))] w fun ev w' => ev = .returned (.bool true) ∧ w' = (((((w.alloc (.cells #[.pointer (some t)] 260)).alloc (.cells #[.pointer (some ⟨6, 260, none⟩), .pointer (some ⟨w.heap.size, 0, none⟩), .int .u64 150] 284)).alloc (.cells #[.pointer (some ⟨6, 260, none⟩), .pointer (some ⟨w.heap.size, 0, none⟩), .int .u64 150] 284)).alloc (.cells #[.int .i64 x, .int .i64 y] 281)).alloc (.cells #[.int .i64 y] 28)).setCell t (.int .i64 y) := by
  have x_82v := @run_callFunc_extern Tryz.prog 171 _ (fun args => ReflectliteValue.unpack (args.getD 0 (.tuple #[]))) Tryz.func171 (by kernel_rfl) (by kernel_rfl) (by kernel_rfl) (by kernel_rfl)
  have x_tyv := @run_callFunc_extern Tryz.prog 172 _ (ReflectliteValue.methodAny (ReflectliteValue.valueError "reflectlite.Value.Type" 0) (fun t _ _ _ => ReflectliteType.toType t)) Tryz.func172 (by kernel_rfl) (by kernel_rfl) (by kernel_rfl) (by kernel_rfl)
  have x_nil := @run_callFunc_extern Tryz.prog 173 _ (ReflectliteValue.method (ReflectliteValue.valueError "reflectlite.Value.IsNil" 0) ReflectliteValue.isNil) Tryz.func173 (by kernel_rfl) (by kernel_rfl) (by kernel_rfl) (by kernel_rfl)
  have x_knd := @run_callFunc_extern Tryz.prog 217 _ (ReflectliteType.abiMethod fun t => do pure (.int .u8 (← Rtype.kind t))) Tryz.func217 (by kernel_rfl) (by kernel_rfl) (by kernel_rfl) (by kernel_rfl)
  have x_elt := @run_callFunc_extern Tryz.prog 274 _ (ReflectliteType.method ReflectliteType.elem) Tryz.func274 (by kernel_rfl) (by kernel_rfl) (by kernel_rfl) (by kernel_rfl)
  have x_imp := @run_callFunc_extern Tryz.prog 275 _ (ReflectliteType.relation "Implements" ReflectliteType.implements_) Tryz.func275 (by kernel_rfl) (by kernel_rfl) (by kernel_rfl) (by kernel_rfl)
  have x_tof := @run_callFunc_extern Tryz.prog 113 _ ReflectliteType.typeOf Tryz.func113 (by kernel_rfl) (by kernel_rfl) (by kernel_rfl) (by kernel_rfl)
  have x_asg := @run_callFunc_extern Tryz.prog 272 _ (ReflectliteType.relation "AssignableTo" ReflectliteType.assignableTo) Tryz.func272 (by kernel_rfl) (by kernel_rfl) (by kernel_rfl) (by kernel_rfl)
  have x_elv := @run_callFunc_extern Tryz.prog 181 _ (ReflectliteValue.method (ReflectliteValue.valueError "reflectlite.Value.Elem" 0) ReflectliteValue.elem) Tryz.func181 (by kernel_rfl) (by kernel_rfl) (by kernel_rfl) (by kernel_rfl)
  have x_set := @run_callFunc_extern Tryz.prog 182 _ ReflectliteValue.set Tryz.func182 (by kernel_rfl) (by kernel_rfl) (by kernel_rfl) (by kernel_rfl)
  have f1 := ae_valueOfP
  have f2 := ae_typeP
  have f3 := ae_methodKind
  have f4 := ae_methodElem
  have f5 := ae_methodImplements
  have f6 := ae_methodAssignableTo
  have f7 := ae_kindP
  have f8 := ae_kindE
  have f9 := ae_elemP
  have f10 := ae_implements
  have f11 := ae_typeOfS
  have f12 := ae_typeOfE
  have f13 := ae_assignS
  have f14 := ae_assignE
  have f15 := ae_valueOfE
  have f16 := ae_noAs
  have f17 := ae_hasUnwrap
  have f18 := ae_methodUnwrap
  have hlt : 3 < w.heap.size := lt_of_cell_ hg
  have htl : t.block < w.heap.size := block_lt_of_cell ht0
  have hg2 : ((w.alloc (.cells #[.pointer (some t)] 260)).alloc (.cells #[.pointer (some ⟨6, 260, none⟩), .pointer (some ⟨w.heap.size, 0, none⟩), .int .u64 150] 284)).cell? ⟨3, 0, none⟩ = some (.iface 241 (.agg #[.pointer (some ⟨6, 113, none⟩)])) := by
    rw [World.cell?_alloc_lt _ _ ⟨3, 0, none⟩ (by simp <;> omega), World.cell?_alloc_lt _ _ ⟨3, 0, none⟩ hlt]; exact hg
  have n8 := ae_isNil ⟨w.heap.size, 0, none⟩ t ((w.alloc (.cells #[.pointer (some t)] 260)).alloc (.cells #[.pointer (some ⟨6, 260, none⟩), .pointer (some ⟨w.heap.size, 0, none⟩), .int .u64 150] 284)) (by simp)
  have hin := as_in x y t ⟨w.heap.size, 0, none⟩ old ((w.alloc (.cells #[.pointer (some t)] 260)).alloc (.cells #[.pointer (some ⟨6, 260, none⟩), .pointer (some ⟨w.heap.size, 0, none⟩), .int .u64 150] 284)) (by simp) (by rw [World.cell?_alloc_lt _ _ t (by simp; omega), World.cell?_alloc_lt _ _ t htl]; exact ht0) (by rw [World.frozen?_alloc_old _ _ t (by simp; omega), World.frozen?_alloc_old _ _ t (Nat.ne_of_lt htl)]; exact hf0)
  go_enter Tryz.func150, Tryz.ntmps150
  go_wp2_with fail
  refine hin.mono ?_
  rintro e w1 ⟨rfl, rfl⟩
  go_wp2
  go_ret
  exact ⟨rfl, rfl⟩
/-- What package errors' variable holds. -/
def ErrT (w : World) : Prop := w.cell? ⟨3, 0, none⟩ = some (.iface 241 (.agg #[.pointer (some ⟨6, 113, none⟩)]))
theorem ErrT.below {w w' : World} {B : Nat} (h : ErrT w) (hb : Below B w w') (hB : 3 < B) : ErrT w' := (hb.cell (p := ⟨3, 0, none⟩) hB).trans h
/-- A sector's error: none, or the number with its sector. -/
def secErr (x y : Int) : Value := if y = 0 then .nilIface else .iface 281 (.agg #[.int .i64 x, .int .i64 y])
theorem wrapped_any (x y : Int) (w : World) : Calls Tryz.prog 149 #[.int .i64 x, .int .i64 y] w fun e w' => e = .returned (secErr x y) ∧ w' = w := by
  by_cases hy : y = 0
  · have HE : Hid (secErr x y = .nilIface) := if_pos hy
    rw [HE.out]
    subst hy
    go_enter Tryz.func149, Tryz.ntmps149
    go_wp2
    go_ret
    exact ⟨rfl, rfl⟩
  · have HE : Hid (secErr x y = .iface 281 (.agg #[.int .i64 x, .int .i64 y])) := if_neg hy
    rw [HE.out]
    have hy' : (y == 0) = false := beq_false_of_ne hy
    go_enter Tryz.func149, Tryz.ntmps149
    go_wp2
    go_ret
    exact ⟨rfl, rfl⟩
set_option maxHeartbeats 2000000 in
theorem numberOf_any (x y : Int) (w : World) (hg : ErrT w) : Calls Tryz.prog 122 #[secErr x y] w fun e w' => e = .returned (.int .i64 y) ∧ Below w.heap.size w w' := by
  by_cases hy : y = 0
  · have HE : Hid (secErr x y = .nilIface) := if_pos hy
    rw [HE.out]
    subst hy
    have HB : Hid (Below w.heap.size w (w.alloc (.cells #[.int .i64 0] 28))) := (Below.refl _ _).alloc (Nat.le_refl _) _
    go_enter Tryz.func122, Tryz.ntmps122
    go_wp2_with fail
    refine (as_nil _ _).mono ?_
    rintro e w1 ⟨rfl, rfl⟩
    go_wp2
    go_ret
    exact ⟨rfl, HB.out⟩
  · have HE : Hid (secErr x y = .iface 281 (.agg #[.int .i64 x, .int .i64 y])) := if_neg hy
    rw [HE.out]
    have hlt := lt_of_cell_ hg
    obtain ⟨w0, hw0⟩ : ∃ w0, w.alloc (.cells #[.int .i64 0] 28) = w0 := ⟨_, rfl⟩
    have g0 : w0.heap[w.heap.size]? = some (.cells #[.int .i64 0] 28 (0, 0)) := by rw [← hw0]; exact heap_alloc_new w _
    have hb0 : Below w.heap.size w w0 := by rw [← hw0]; exact (Below.refl _ _).alloc (Nat.le_refl _) _
    have hz0 : w0.heap.size = w.heap.size + 1 := by rw [← hw0]; simp
    have hh := as_hit x y ⟨w.heap.size, 0, none⟩ (.int .i64 0) w0 (hg.below hb0 hlt) (cell_of_row _ _ _ _ _ _ g0) (by simp [World.frozen?, g0])
    have HX : Hid (∀ w', w' = (((((w0.alloc (.cells #[.pointer (some ⟨w.heap.size, 0, none⟩)] 260)).alloc (.cells #[.pointer (some ⟨6, 260, none⟩), .pointer (some ⟨w0.heap.size, 0, none⟩), .int .u64 150] 284)).alloc (.cells #[.pointer (some ⟨6, 260, none⟩), .pointer (some ⟨w0.heap.size, 0, none⟩), .int .u64 150] 284)).alloc (.cells #[.int .i64 x, .int .i64 y] 281)).alloc (.cells #[.int .i64 y] 28)).setCell ⟨w.heap.size, 0, none⟩ (.int .i64 y) → w'.cell? ⟨w.heap.size, 0, none⟩ = some (.int .i64 y) ∧ Below w.heap.size w w') := by
      rintro w' rfl
      refine ⟨?_, (hb0.trans (((((((Below.refl w.heap.size w0).alloc (by omega) _).alloc (by simp; omega) _).alloc (by simp; omega) _).alloc (by simp; omega) _).alloc (by simp; omega) _))).setCell (p := ⟨w.heap.size, 0, none⟩) (Nat.le_refl _) _⟩
      have q : (((((w0.alloc (.cells #[.pointer (some ⟨w.heap.size, 0, none⟩)] 260)).alloc (.cells #[.pointer (some ⟨6, 260, none⟩), .pointer (some ⟨w0.heap.size, 0, none⟩), .int .u64 150] 284)).alloc (.cells #[.pointer (some ⟨6, 260, none⟩), .pointer (some ⟨w0.heap.size, 0, none⟩), .int .u64 150] 284)).alloc (.cells #[.int .i64 x, .int .i64 y] 281)).alloc (.cells #[.int .i64 y] 28)).heap[w.heap.size]? = some (.cells #[.int .i64 0] 28 (0, 0)) := by
        rw [Below.heap_alloc _ _ _ (by simp; omega), Below.heap_alloc _ _ _ (by simp; omega), Below.heap_alloc _ _ _ (by simp; omega), Below.heap_alloc _ _ _ (by simp; omega), Below.heap_alloc _ _ _ (by omega)]
        exact g0
      have := heap_setCell_same _ w.heap.size 0 _ _ (.int .i64 y) q
      exact cell_of_row _ _ _ _ _ _ this
    clear hg hb0 hz0 g0
    go_enter Tryz.func122, Tryz.ntmps122
    go_wp2_with fail
    try rw [hw0]
    refine hh.mono ?_
    rintro e w1 ⟨rfl, hw1⟩
    obtain ⟨c1, hb1⟩ := HX.out w1 hw1
    have HB : Hid (Below w.heap.size w w1) := hb1
    clear HX hw1 hh hb1 hw0
    go_wp2
    go_ret
    exact ⟨rfl, HB.out⟩
end Go.Proofs.YtldkdoddklfdlaaGreatDoor
