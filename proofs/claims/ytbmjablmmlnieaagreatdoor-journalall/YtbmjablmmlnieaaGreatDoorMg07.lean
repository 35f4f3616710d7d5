/- The ideal vault in plain words: what it has numbered; how it lies in memory; and each way of its numbering. · The ideal vault opens. · The vault's calls, the ideal one behind them: what each tells, and what it has numbered then. -/
import Derived.Test.YtbmjablmmlnieaaGreatDoorMg04
import Derived.Test.YtbmjablmmlnieaaGreatDoorMg06
namespace Go.Proofs.YtbmjablmmlnieaaGreatDoor
set_option maxRecDepth 20000
open Go.RowKit Go.Maps

structure VS where
  texts : List ByteArray
  marks : List (ByteArray × ByteArray)
  seals : List Four

structure IdealAt (w : World) (F : Nat → Prop) (B N a b c : Nat) (S : VS) : Prop where
  row : Row w B 89 [.iface 84 (.pointer (some ⟨N, 0, none⟩))]
  num : Row w N 136 [.map (some a), .map (some b), .map (some c)]
  texts : Nums keyT 271 w a S.texts
  marks : Nums keyM 281 w b S.marks
  seals : Nums keyS 274 w c S.seals
  fB : F B
  fN : F N
  fa : F a
  fb : F b
  fc : F c
  ab : a ≠ b
  ac : a ≠ c
  bc : b ≠ c
def Ideal (w : World) (F : Nat → Prop) (B : Nat) (S : VS) : Prop := ∃ N a b c, IdealAt w F B N a b c S

theorem row_not_map {α : Type} [DecidableEq α] {key : α → Value} {K t : TypeId} {w : World} {g b : Nat} {l : List α} {cs : List Value} (h : Row w g t cs) (k : Nums key K w b l) : g ≠ b := by
  rintro rfl
  obtain ⟨D, ⟨es, cl, hb, _⟩, _⟩ := k
  have h : w.heap[g]? = _ := h
  rw [h] at hb
  cases hb
theorem IdealAt.keep {w w' : World} {F : Nat → Prop} {B N a b c : Nat} {S : VS} (h : IdealAt w F B N a b c S) (hk : ∀ k, k < w.heap.size → F k → w'.heap[k]? = w.heap[k]?) : IdealAt w' F B N a b c S :=
  { h with
    row := (hk B h.row.lt h.fB).trans h.row
    num := (hk N h.num.lt h.fN).trans h.num
    texts := h.texts.keep (hk a h.texts.lt h.fa)
    marks := h.marks.keep (hk b h.marks.lt h.fb)
    seals := h.seals.keep (hk c h.seals.lt h.fc) }
theorem Ideal.keep {w w' : World} {F : Nat → Prop} {B : Nat} {S : VS} (h : Ideal w F B S) (hk : ∀ k, k < w.heap.size → F k → w'.heap[k]? = w.heap[k]?) : Ideal w' F B S := by
  obtain ⟨N, a, b, c, h⟩ := h
  exact ⟨N, a, b, c, h.keep hk⟩
theorem Ideal.below {w w' : World} {F : Nat → Prop} {B : Nat} {S : VS} (h : Ideal w F B S) (hb : Below w.heap.size w w') : Ideal w' F B S := h.keep fun k hk _ => hb.block k hk
theorem Ideal.mono {w : World} {F F' : Nat → Prop} {B : Nat} {S : VS} (h : Ideal w F B S) (hF : ∀ k, k < w.heap.size → F k → F' k) : Ideal w F' B S := by
  obtain ⟨N, a, b, c, h⟩ := h
  exact ⟨N, a, b, c, { h with fB := hF _ h.row.lt h.fB, fN := hF _ h.num.lt h.fN, fa := hF _ h.texts.lt h.fa, fb := hF _ h.marks.lt h.fb, fc := hF _ h.seals.lt h.fc }⟩
theorem Ideal.lt {w : World} {F : Nat → Prop} {B : Nat} {S : VS} (h : Ideal w F B S) : B < w.heap.size := by
  obtain ⟨N, a, b, c, h⟩ := h
  exact h.row.lt
theorem Touch.of_only {F : Nat → Prop} {w w' : World} {b : Nat} (h : Only b w w') (hb : F b) : Touch F w w' := ⟨h.1, fun k hk hn => h.2 k hk fun e => hn (e ▸ hb)⟩
theorem IdealAt.addT {w w' : World} {F : Nat → Prop} {B N a b c : Nat} {S : VS} {l : List ByteArray} (h : IdealAt w F B N a b c S) (ho : Only a w w') (hn : Nums keyT 271 w' a l) : IdealAt w' F B N a b c { S with texts := l } :=
  { h with
    row := h.row.only ho (row_not_map h.row h.texts)
    num := h.num.only ho (row_not_map h.num h.texts)
    texts := hn
    marks := h.marks.keep (ho.2 _ h.marks.lt h.ab.symm)
    seals := h.seals.keep (ho.2 _ h.seals.lt h.ac.symm) }
theorem IdealAt.addM {w w' : World} {F : Nat → Prop} {B N a b c : Nat} {S : VS} {l : List (ByteArray × ByteArray)} (h : IdealAt w F B N a b c S) (ho : Only b w w') (hn : Nums keyM 281 w' b l) : IdealAt w' F B N a b c { S with marks := l } :=
  { h with
    row := h.row.only ho (row_not_map h.row h.marks)
    num := h.num.only ho (row_not_map h.num h.marks)
    texts := h.texts.keep (ho.2 _ h.texts.lt h.ab)
    marks := hn
    seals := h.seals.keep (ho.2 _ h.seals.lt h.bc.symm) }
theorem IdealAt.addS {w w' : World} {F : Nat → Prop} {B N a b c : Nat} {S : VS} {l : List Four} (h : IdealAt w F B N a b c S) (ho : Only c w w') (hn : Nums keyS 274 w' c l) : IdealAt w' F B N a b c { S with seals := l } :=
  { h with
    row := h.row.only ho (row_not_map h.row h.seals)
    num := h.num.only ho (row_not_map h.num h.seals)
    texts := h.texts.keep (ho.2 _ h.texts.lt h.ac)
    marks := h.marks.keep (ho.2 _ h.marks.lt h.bc)
    seals := hn }

/-- The ways of the numbering. -/
theorem nhash_any (N a : Nat) (l : List ByteArray) (s : ByteArray) (hs : fitT s) (hl : l.length ≤ 1000000) (w : World) (c0 : w.cell? ⟨N, 0, none⟩ = some (.map (some a))) (h : Nums keyT 271 w a l) :
    Calls Tryz.prog 178 #[.pointer (some ⟨N, 0, none⟩), .string s] w fun e w' => e = .returned (.string (wideS (numOf (addN l s) s) 32)) ∧ Nums keyT 271 w' a (addN l s) ∧ Only a w w' := by
  have hc := countT_any a l s hs hl w h
  have hn := Nat.le_trans (numOf_le s (addN l s)) (addN_length l s)
  have hw := fun W => wide_any (numOf (addN l s) s) 32 (by omega) (by decide) (by decide) W
  generalize numOf (addN l s) s = n at *
  simp only [keyT] at hc
  clear h hs
  go_enter Tryz.func178, Tryz.ntmps178
  go_wp2_with fail
  refine hc.mono ?_
  rintro e w1 ⟨rfl, hN, hO⟩
  clear hc c0
  go_wp2_with fail
  refine (hw _).mono ?_
  rintro e w2 ⟨rfl, hb⟩
  have HF : Hid (Nums keyT 271 w2 a (addN l s) ∧ Only a w w2) := ⟨hN.keep (hb.block a hN.lt), hO.trans (Only.of_below hb)⟩
  clear hN hO hb hw
  go_wp2
  go_ret
  exact ⟨rfl, HF.out⟩
theorem nseal_any (N c : Nat) (l : List Four) (x : Four) (hs : fitF x) (hl : l.length ≤ 1000000) (w : World) (c2 : w.cell? ⟨N, 2, none⟩ = some (.map (some c))) (h : Nums keyS 274 w c l) :
    Calls Tryz.prog 180 #[.pointer (some ⟨N, 0, none⟩), .int .i64 x.salt, .string x.nonce, .string x.ad, .string x.text] w fun e w' => e = .returned (.tuple #[.string (x.text ++ wideS (numOf (addN l x) x) 16), .int .i64 0]) ∧ Nums keyS 274 w' c (addN l x) ∧ Only c w w' := by
  have hc := countS_any c l x hs hl w h
  have hn := Nat.le_trans (numOf_le x (addN l x)) (addN_length l x)
  have hw := fun W => wide_any (numOf (addN l x) x) 16 (by omega) (by decide) (by decide) W
  have hz : (wideS (numOf (addN l x) x) 16).size = 16 := wideS_size (by omega) (by decide)
  have ht := hs.2.2.2
  generalize numOf (addN l x) x = n at *
  generalize addN l x = l2 at *
  obtain ⟨z, a, b, s⟩ := x
  simp only [keyS] at hc ht ⊢
  generalize wideS n 16 = u at *
  have ha : ∀ w', (Op.stringOp .add s u).run Tryz.prog w' = .ok (.string (s ++ u)) w' := fun w' => run_string_add_sum (P := Tryz.prog) (w := w') _ _ (by omega)
  clear h hs
  go_enter Tryz.func180, Tryz.ntmps180
  go_wp2_with fail
  refine hc.mono ?_
  rintro e w1 ⟨rfl, hN, hO⟩
  clear hc c2
  go_wp2_with fail
  refine (hw _).mono ?_
  rintro e w2 ⟨rfl, hb⟩
  have HF : Hid (Nums keyS 274 w2 c l2 ∧ Only c w w2) := ⟨hN.keep (hb.block c hN.lt), hO.trans (Only.of_below hb)⟩
  clear hN hO hb hw
  go_wp2
  go_ret2
  exact ⟨rfl, HF.out⟩
end Go.Proofs.YtbmjablmmlnieaaGreatDoor

namespace Go.Proofs.YtbmjablmmlnieaaGreatDoor
set_option maxRecDepth 20000
open Go.RowKit Go.Maps

theorem lt_of_cell {w : World} {N i : Nat} {v : Value} (h : w.cell? ⟨N, i, none⟩ = some v) : N < w.heap.size := by
  by_cases hn : N < w.heap.size
  · exact hn
  · rw [World.cell?] at h
    simp [Array.getElem?_eq_none (Nat.le_of_not_lt hn)] at h
/-- What stands ahead of the last 16 bytes, and these. -/
def headS (s : ByteArray) : ByteArray := s.extract 0 (s.size - 16)
def tagS16 (s : ByteArray) : ByteArray := s.extract (s.size - 16) s.size
set_option maxRecDepth 10000 in
set_option maxHeartbeats 2000000 in
theorem nopen_any (N c : Nat) (l : List Four) (z : Int) (a b s : ByteArray) (hs : fitF ⟨z, a, b, s⟩) (h16 : 16 ≤ s.size) (hl : l.length ≤ 1000000) (w : World) (c2 : w.cell? ⟨N, 2, none⟩ = some (.map (some c))) (h : Nums keyS 274 w c l) :
    Calls Tryz.prog 179 #[.pointer (some ⟨N, 0, none⟩), .int .i64 z, .string a, .string b, .string s] w fun e w' => e = .returned (if numOf l ⟨z, a, b, headS s⟩ ≠ 0 ∧ tagS16 s = wideS (numOf l ⟨z, a, b, headS s⟩) 16 then .tuple #[.string (headS s), .int .i64 0] else .tuple #[.string ⟨#[]⟩, .int .i64 10]) ∧ Below w.heap.size w w' := by
  have hz : (headS s).size ≤ s.size := by simp [headS]
  have hf : fitF ⟨z, a, b, headS s⟩ := ⟨hs.1, hs.2.1, hs.2.2.1, Nat.le_trans hz hs.2.2.2⟩
  have hcl := fun W => cloneB_any (headS s) hf.2.2.2 W
  have hS : Nums keyS 274 w.drew c l := h
  have hc := countedS_any c l ⟨z, a, b, headS s⟩ (tagS16 s) hf hl w.drew hS
  have HR : Hid ((if numOf l ⟨z, a, b, headS s⟩ ≠ 0 ∧ tagS16 s = wideS (numOf l ⟨z, a, b, headS s⟩) 16 then Value.tuple #[.string (headS s), .int .i64 0] else .tuple #[.string ⟨#[]⟩, .int .i64 10]) = if decide (numOf l ⟨z, a, b, headS s⟩ ≠ 0 ∧ tagS16 s = wideS (numOf l ⟨z, a, b, headS s⟩) 16) then Value.tuple #[.string (headS s), .int .i64 0] else .tuple #[.string ⟨#[]⟩, .int .i64 10]) := by
    show _ = _
    simp
  rw [HR.out]
  have h1 := hs.2.2.2
  clear HR
  generalize decide (numOf l ⟨z, a, b, headS s⟩ ≠ 0 ∧ tagS16 s = wideS (numOf l ⟨z, a, b, headS s⟩) 16) = ok at *
  simp only [keyS] at hc
  have e1 : headS s = s.extract 0 (s.size - 16) := rfl
  have e2 : tagS16 s = s.extract (s.size - 16) s.size := rfl
  obtain ⟨q, hq⟩ : ∃ q : Nat, q = s.size - 16 := ⟨_, rfl⟩
  have hq1 : (s.size : Int) - 16 = (q : Nat) := by omega
  have hq2 : q ≤ s.size := by omega
  rw [← hq] at e1 e2
  simp only [e1, e2] at hc hcl ⊢
  have n0 : (0 : Int) ≤ (q : Nat) := by omega
  have n1 : ((q : Nat) : Int) ≤ (s.size : Nat) := by omega
  have hq3 : wrap64 ((q : Nat) : Int) = (q : Nat) := by have : s.size ≤ 140737488355328 := h1; unfold wrap64; omega
  clear h hs hf hz hS e1 e2 hq h16 h1
  have HN : Hid (N < w.heap.size) := lt_of_cell c2
  cases ok
  all_goals
    go_enter Tryz.func179, Tryz.ntmps179
    go_wp2_with fail
    go_region_held3 (fun w' => w'.cell? ⟨N, 2, none⟩ = some (.map (some c))) (first | exact c2 | exact cA | simp [go_sem, *]) (first | (go_at_call 183; refine hc.mono ?_; rintro e wA ⟨rfl, hA⟩; have cA : wA.cell? ⟨N, 2, none⟩ = some (.map (some c)) := (World.cell?_of_block (a := ⟨N, 2, none⟩) (hA.block N HN.out)).trans c2))
    have HB : Hid (Below w.heap.size w wA) := (Below.refl w.heap.size w).drew.trans hA
    clear hA hc
    go_wp2_with fail
  · go_ret2
    exact ⟨rfl, HB.out⟩
  · refine (hcl _).mono ?_
    rintro e w2 ⟨rfl, hb2⟩
    have HF : Hid (Below w.heap.size w w2) := HB.out.trans (hb2.mono HB.out.size)
    clear hb2 HB hcl
    go_wp2
    go_ret2
    exact ⟨rfl, HF.out⟩
end Go.Proofs.YtbmjablmmlnieaaGreatDoor

namespace Go.Proofs.YtbmjablmmlnieaaGreatDoor
set_option maxRecDepth 20000
open Go.RowKit Go.Maps

theorem fit_any (z : Int) (a : ByteArray) (w : World) : Calls Tryz.prog 101 #[.int .i64 z, .string a] w fun e w' => e = .returned (.bool (decide (0 ≤ z ∧ z ≤ 281474976710655 ∧ a.size = 12))) ∧ w' = w := by
  by_cases h1 : 0 ≤ z
  case neg =>
    have hr : decide (0 ≤ z ∧ z ≤ 281474976710655 ∧ a.size = 12) = false := by simp [h1]
    rw [hr]
    go_enter Tryz.func101, Tryz.ntmps101
    go_wp2
    go_ret
    exact ⟨rfl, rfl⟩
  by_cases h2 : z ≤ 281474976710655
  case neg =>
    have hr : decide (0 ≤ z ∧ z ≤ 281474976710655 ∧ a.size = 12) = false := by simp [h2]
    rw [hr]
    go_enter Tryz.func101, Tryz.ntmps101
    go_wp2
    go_ret
    exact ⟨rfl, rfl⟩
  by_cases h3 : (a.size : Int) = 12
  · have hr : decide (0 ≤ z ∧ z ≤ 281474976710655 ∧ a.size = 12) = true := by simp [h1, h2]; omega
    rw [hr]
    go_enter Tryz.func101, Tryz.ntmps101
    go_wp2
    go_ret
    exact ⟨rfl, rfl⟩
  · have hr : decide (0 ≤ z ∧ z ≤ 281474976710655 ∧ a.size = 12) = false := by simp [h1, h2]; omega
    have h4 : ((a.size : Int) == 12) = false := beq_false_of_ne h3
    rw [hr]
    go_enter Tryz.func101, Tryz.ntmps101
    go_wp2
    go_ret
    exact ⟨rfl, rfl⟩
theorem given_any (B : Nat) (t : TypeId) (v : Value) (w : World) (c : w.cell? ⟨B, 0, none⟩ = some (.iface t v)) : Calls Tryz.prog 100 #[.pointer (some ⟨B, 0, none⟩)] w fun e w' => e = .returned (.bool true) ∧ w' = w := by
  go_enter Tryz.func100, Tryz.ntmps100
  go_wp2_with fail
  go_ret
  exact ⟨rfl, rfl⟩
theorem given_nil (w : World) : Calls Tryz.prog 100 #[.pointer none] w fun e w' => e = .returned (.bool false) ∧ w' = w := by
  go_enter Tryz.func100, Tryz.ntmps100
  go_wp2_with fail
  go_ret
  exact ⟨rfl, rfl⟩
theorem given_zero (B : Nat) (w : World) (c : w.cell? ⟨B, 0, none⟩ = some .nilIface) : Calls Tryz.prog 100 #[.pointer (some ⟨B, 0, none⟩)] w fun e w' => e = .returned (.bool false) ∧ w' = w := by
  go_enter Tryz.func100, Tryz.ntmps100
  go_wp2_with fail
  go_ret
  exact ⟨rfl, rfl⟩

def hashP (S : VS) (s : ByteArray) : VS := { S with texts := addN S.texts s }
def hashS (S : VS) (s : ByteArray) : ByteArray := wideS (numOf (addN S.texts s) s) 32
def macP (S : VS) (l s : ByteArray) : VS := { S with marks := addN S.marks (l, s) }
def macS (S : VS) (l s : ByteArray) : ByteArray := wideS (numOf (addN S.marks (l, s)) (l, s)) 16
def madeB (S : VS) (l s tag : ByteArray) : Bool := decide (numOf S.marks (l, s) ≠ 0 ∧ tag = wideS (numOf S.marks (l, s)) 16)
/-- There is such a salt, and the nonce has its length. -/
def fitB (z : Int) (n : ByteArray) : Bool := decide (0 ≤ z ∧ z ≤ 281474976710655 ∧ n.size = 12)
def sealP (S : VS) (z : Int) (n a s : ByteArray) : VS := if fitB z n then { S with seals := addN S.seals ⟨z, n, a, s⟩ } else S
def sealS (S : VS) (z : Int) (n a s : ByteArray) : ByteArray := if fitB z n then s ++ wideS (numOf (addN S.seals ⟨z, n, a, s⟩) ⟨z, n, a, s⟩) 16 else ⟨#[]⟩
def sealE (z : Int) (n : ByteArray) : Int := if fitB z n then 0 else 1
/-- What is opened: the number of the four, and the tag is that. -/
def openB (S : VS) (z : Int) (n a s : ByteArray) : Bool := decide (numOf S.seals ⟨z, n, a, headS s⟩ ≠ 0 ∧ tagS16 s = wideS (numOf S.seals ⟨z, n, a, headS s⟩) 16)
def openS (S : VS) (z : Int) (n a s : ByteArray) : ByteArray := if fitB z n then (if s.size < 16 then ⟨#[]⟩ else if openB S z n a s then headS s else ⟨#[]⟩) else ⟨#[]⟩
def openE (S : VS) (z : Int) (n a s : ByteArray) : Int := if fitB z n then (if s.size < 16 then 3 else if openB S z n a s then 0 else 10) else 1

theorem vhash_any (B : Nat) (F : Nat → Prop) (S : VS) (s : ByteArray) (hs : fitT s) (hl : S.texts.length ≤ 1000000) (w : World) (hp : Ideal w F B S) :
    Calls Tryz.prog 76 #[.pointer (some ⟨B, 0, none⟩), .string s] w fun e w' => e = .returned (.string (hashS S s)) ∧ Ideal w' F B (hashP S s) ∧ Touch F w w' := by
  obtain ⟨N, a, b, c, h⟩ := hp
  have c0 : w.cell? ⟨B, 0, none⟩ = some (.iface 84 (.pointer (some ⟨N, 0, none⟩))) := h.row.cell 0
  have hg := given_any B _ _ w c0
  have hn := nhash_any N a S.texts s hs hl w (h.num.cell 0) h.texts
  have hm : ∀ w : World, (method 397 84 (.pointer (some ⟨N, 0, none⟩)) "grapnel/vault.hash").run Tryz.prog w = .ok (178, .pointer (some ⟨N, 0, none⟩)) w := fun _ => by kernel_rfl
  have HK : Hid (∀ w', Nums keyT 271 w' a (addN S.texts s) → Only a w w' → Ideal w' F B (hashP S s) ∧ Touch F w w') := fun w' h1 h2 => ⟨⟨N, a, b, c, h.addT h2 h1⟩, Touch.of_only h2 h.fa⟩
  unfold hashS
  generalize wideS (numOf (addN S.texts s) s) 32 = u at *
  clear h hs
  go_enter Tryz.func76, Tryz.ntmps76
  go_wp2_with fail
  refine hg.mono ?_
  rintro e w1 ⟨rfl, rfl⟩
  clear hg
  go_wp2_with fail
  refine hn.mono ?_
  rintro e w2 ⟨rfl, h1, h2⟩
  have HF : Hid _ := HK.out w2 h1 h2
  clear h1 h2 hn
  go_wp2
  go_ret
  exact ⟨rfl, HF.out⟩
set_option maxHeartbeats 1000000 in
theorem vseal_any (B : Nat) (F : Nat → Prop) (S : VS) (z : Int) (n ad s : ByteArray) (hs : fitF ⟨z, n, ad, s⟩) (hl : S.seals.length ≤ 1000000) (w : World) (hp : Ideal w F B S) :
    Calls Tryz.prog 110 #[.pointer (some ⟨B, 0, none⟩), .int .i64 z, .string n, .string ad, .string s] w fun e w' => e = .returned (.tuple #[.string (sealS S z n ad s), .int .i64 (sealE z n)]) ∧ Ideal w' F B (sealP S z n ad s) ∧ Touch F w w' := by
  have hp0 := hp
  obtain ⟨N, a, b, c, h⟩ := hp
  have c0 : w.cell? ⟨B, 0, none⟩ = some (.iface 84 (.pointer (some ⟨N, 0, none⟩))) := h.row.cell 0
  have hg := given_any B _ _ w c0
  have hf := fit_any z n w
  unfold sealS sealE sealP
  rw [show decide (0 ≤ z ∧ z ≤ 281474976710655 ∧ n.size = 12) = fitB z n from rfl] at hf
  have hn := nseal_any N c S.seals ⟨z, n, ad, s⟩ hs hl w (h.num.cell 2) h.seals
  have hm : ∀ w : World, (method 397 84 (.pointer (some ⟨N, 0, none⟩)) "grapnel/vault.seal").run Tryz.prog w = .ok (180, .pointer (some ⟨N, 0, none⟩)) w := fun _ => by kernel_rfl
  have HK : Hid (∀ w', Nums keyS 274 w' c (addN S.seals ⟨z, n, ad, s⟩) → Only c w w' → Ideal w' F B { S with seals := addN S.seals ⟨z, n, ad, s⟩ } ∧ Touch F w w') := fun w' h1 h2 => ⟨⟨N, a, b, c, h.addS h2 h1⟩, Touch.of_only h2 h.fc⟩
  have HP : Hid (Ideal w F B S) := hp0
  generalize s ++ wideS (numOf (addN S.seals ⟨z, n, ad, s⟩) ⟨z, n, ad, s⟩) 16 = u at *
  generalize addN S.seals ⟨z, n, ad, s⟩ = l2 at *
  clear h hs hp0
  cases hb : fitB z n <;> rw [hb] at hf
  · simp only [Bool.false_eq_true, if_false]
    go_enter Tryz.func110, Tryz.ntmps110
    go_wp2_with fail
    refine hg.mono ?_
    rintro e w1 ⟨rfl, rfl⟩
    clear hg
    go_wp2_with fail
    refine hf.mono ?_
    rintro e w3 ⟨rfl, rfl⟩
    clear hf
    go_wp2
    go_ret2
    exact ⟨rfl, HP.out, Touch.refl _ _⟩
  · simp only [if_true]
    go_enter Tryz.func110, Tryz.ntmps110
    go_wp2_with fail
    refine hg.mono ?_
    rintro e w1 ⟨rfl, rfl⟩
    clear hg
    go_wp2_with fail
    refine hf.mono ?_
    rintro e w3 ⟨rfl, rfl⟩
    clear hf
    go_wp2_with fail
    refine hn.mono ?_
    rintro e w2 ⟨rfl, h1, h2⟩
    have HF : Hid _ := HK.out w2 h1 h2
    clear h1 h2 hn
    go_wp2
    go_ret2
    exact ⟨rfl, HF.out⟩
set_option maxHeartbeats 1000000 in
theorem vopen_any (B : Nat) (F : Nat → Prop) (S : VS) (z : Int) (n ad s : ByteArray) (hs : fitF ⟨z, n, ad, s⟩) (hl : S.seals.length ≤ 1000000) (w : World) (hp : Ideal w F B S) :
    Calls Tryz.prog 69 #[.pointer (some ⟨B, 0, none⟩), .int .i64 z, .string n, .string ad, .string s] w fun e w' => e = .returned (.tuple #[.string (openS S z n ad s), .int .i64 (openE S z n ad s)]) ∧ Below w.heap.size w w' := by
  obtain ⟨N, a, b, c, h⟩ := hp
  have c0 : w.cell? ⟨B, 0, none⟩ = some (.iface 84 (.pointer (some ⟨N, 0, none⟩))) := h.row.cell 0
  have hg := given_any B _ _ w c0
  have hf := fit_any z n w
  unfold openS openE
  rw [show decide (0 ≤ z ∧ z ≤ 281474976710655 ∧ n.size = 12) = fitB z n from rfl] at hf
  have hn := fun h16 => nopen_any N c S.seals z n ad s hs h16 hl w (h.num.cell 2) h.seals
  have hdec : ∀ X Y : Value, (if numOf S.seals ⟨z, n, ad, headS s⟩ ≠ 0 ∧ tagS16 s = wideS (numOf S.seals ⟨z, n, ad, headS s⟩) 16 then X else Y) = if openB S z n ad s then X else Y := fun X Y => by simp [openB]
  simp only [hdec] at hn
  have hm : ∀ w : World, (method 397 84 (.pointer (some ⟨N, 0, none⟩)) "grapnel/vault.open").run Tryz.prog w = .ok (179, .pointer (some ⟨N, 0, none⟩)) w := fun _ => by kernel_rfl
  clear h hs hdec
  generalize headS s = u at *
  generalize openB S z n ad s = ok at *
  cases hb : fitB z n <;> rw [hb] at hf
  · simp only [Bool.false_eq_true, if_false]
    go_enter Tryz.func69, Tryz.ntmps69
    go_wp2_with fail
    refine hg.mono ?_
    rintro e w1 ⟨rfl, rfl⟩
    clear hg
    go_wp2_with fail
    refine hf.mono ?_
    rintro e w3 ⟨rfl, rfl⟩
    clear hf
    go_wp2
    go_ret2
    exact ⟨rfl, Below.refl _ _⟩
  · simp only [if_true]
    by_cases h16 : s.size < 16
    · have h16' : (s.size : Int) < 16 := by omega
      simp only [h16, if_true]
      clear hn
      go_enter Tryz.func69, Tryz.ntmps69
      go_wp2_with fail
      refine hg.mono ?_
      rintro e w1 ⟨rfl, rfl⟩
      clear hg
      go_wp2_with fail
      refine hf.mono ?_
      rintro e w3 ⟨rfl, rfl⟩
      clear hf
      go_wp2
      go_ret2
      exact ⟨rfl, Below.refl _ _⟩
    · have h16' : ¬ (s.size : Int) < 16 := by omega
      simp only [h16, if_false]
      have hn2 := hn (by omega)
      clear hn
      cases ok <;> simp only [Bool.false_eq_true, if_false, if_true] at hn2 ⊢
      all_goals
        go_enter Tryz.func69, Tryz.ntmps69
        go_wp2_with fail
        refine hg.mono ?_
        rintro e w1 ⟨rfl, rfl⟩
        clear hg
        go_wp2_with fail
        refine hf.mono ?_
        rintro e w3 ⟨rfl, rfl⟩
        clear hf
        go_wp2_with fail
        refine hn2.mono ?_
        rintro e w2 ⟨rfl, h1⟩
        have HF : Hid _ := h1
        clear h1 hn2
        go_wp2
        go_ret2
        exact ⟨rfl, HF.out⟩
end Go.Proofs.YtbmjablmmlnieaaGreatDoor
