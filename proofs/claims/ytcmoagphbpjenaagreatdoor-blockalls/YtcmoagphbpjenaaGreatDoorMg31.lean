/- The ideal vault in plain words: what it has numbered; how it lies in memory; and each way of its numbering. · The ideal vault opens. -/
import Derived.Test.YtcmoagphbpjenaaGreatDoorMg01
import Derived.Test.YtcmoagphbpjenaaGreatDoorMg30
namespace Go.Proofs.YtcmoagphbpjenaaGreatDoor
set_option maxRecDepth 20000
open Go.RowKit Go.Maps

structure VS where
  texts : List ByteArray
  marks : List (ByteArray × ByteArray)
  seals : List Four

structure IdealAt (w : World) (F : Nat → Prop) (B N a b c : Nat) (S : VS) : Prop where
  row : Row w B 94 [.iface 89 (.pointer (some ⟨N, 0, none⟩))]
  num : Row w N 117 [.map (some a), .map (some b), .map (some c)]
  texts : Nums keyT 219 w a S.texts
  marks : Nums keyM 221 w b S.marks
  seals : Nums keyS 212 w c S.seals
  fB : F B
  fN : F N
  fa : F a
  fb : F b
  fc : F c
  ab : a ≠ b
  ac : a ≠ c
  bc : b ≠ c
def Ideal (w : World) (F : Nat → Prop) (B : Nat) (S : VS) : Prop := ∃ N a b c, IdealAt w F B N a b c S

theorem row_not_map {α : Type} [DecidableEq α] {key : α → Value} {K t : TypeId} {w : World} {g b : Nat} {l : List α} {cs : List Value} (h : Row w g t cs) (k : Nums key K w b l) : g ≠ b := by
  rintro rfl
  obtain ⟨D, ⟨es, cl, hb, _⟩, _⟩ := k
  have h : w.heap[g]? = _ := h
  rw [h] at hb
  cases hb
theorem IdealAt.keep {w w' : World} {F : Nat → Prop} {B N a b c : Nat} {S : VS} (h : IdealAt w F B N a b c S) (hk : ∀ k, k < w.heap.size → F k → w'.heap[k]? = w.heap[k]?) : IdealAt w' F B N a b c S :=
  { h with
    row := (hk B h.row.lt h.fB).trans h.row
    num := (hk N h.num.lt h.fN).trans h.num
    texts := h.texts.keep (hk a h.texts.lt h.fa)
    marks := h.marks.keep (hk b h.marks.lt h.fb)
    seals := h.seals.keep (hk c h.seals.lt h.fc) }
theorem Ideal.keep {w w' : World} {F : Nat → Prop} {B : Nat} {S : VS} (h : Ideal w F B S) (hk : ∀ k, k < w.heap.size → F k → w'.heap[k]? = w.heap[k]?) : Ideal w' F B S := by
  obtain ⟨N, a, b, c, h⟩ := h
  exact ⟨N, a, b, c, h.keep hk⟩
theorem Ideal.below {w w' : World} {F : Nat → Prop} {B : Nat} {S : VS} (h : Ideal w F B S) (hb : Below w.heap.size w w') : Ideal w' F B S := h.keep fun k hk _ => hb.block k hk
theorem Ideal.mono {w : World} {F F' : Nat → Prop} {B : Nat} {S : VS} (h : Ideal w F B S) (hF : ∀ k, k < w.heap.size → F k → F' k) : Ideal w F' B S := by
  obtain ⟨N, a, b, c, h⟩ := h
  exact ⟨N, a, b, c, { h with fB := hF _ h.row.lt h.fB, fN := hF _ h.num.lt h.fN, fa := hF _ h.texts.lt h.fa, fb := hF _ h.marks.lt h.fb, fc := hF _ h.seals.lt h.fc }⟩
theorem Ideal.lt {w : World} {F : Nat → Prop} {B : Nat} {S : VS} (h : Ideal w F B S) : B < w.heap.size := by
  obtain ⟨N, a, b, c, h⟩ := h
  exact h.row.lt
theorem Touch.of_only {F : Nat → Prop} {w w' : World} {b : Nat} (h : Only b w w') (hb : F b) : Touch F w w' := ⟨h.1, fun k hk hn => h.2 k hk fun e => hn (e ▸ hb)⟩
theorem IdealAt.addT {w w' : World} {F : Nat → Prop} {B N a b c : Nat} {S : VS} {l : List ByteArray} (h : IdealAt w F B N a b c S) (ho : Only a w w') (hn : Nums keyT 219 w' a l) : IdealAt w' F B N a b c { S with texts := l } :=
  { h with
    row := h.row.only ho (row_not_map h.row h.texts)
    num := h.num.only ho (row_not_map h.num h.texts)
    texts := hn
    marks := h.marks.keep (ho.2 _ h.marks.lt h.ab.symm)
    seals := h.seals.keep (ho.2 _ h.seals.lt h.ac.symm) }
theorem IdealAt.addM {w w' : World} {F : Nat → Prop} {B N a b c : Nat} {S : VS} {l : List (ByteArray × ByteArray)} (h : IdealAt w F B N a b c S) (ho : Only b w w') (hn : Nums keyM 221 w' b l) : IdealAt w' F B N a b c { S with marks := l } :=
  { h with
    row := h.row.only ho (row_not_map h.row h.marks)
    num := h.num.only ho (row_not_map h.num h.marks)
    texts := h.texts.keep (ho.2 _ h.texts.lt h.ab)
    marks := hn
    seals := h.seals.keep (ho.2 _ h.seals.lt h.bc.symm) }
theorem IdealAt.addS {w w' : World} {F : Nat → Prop} {B N a b c : Nat} {S : VS} {l : List Four} (h : IdealAt w F B N a b c S) (ho : Only c w w') (hn : Nums keyS 212 w' c l) : IdealAt w' F B N a b c { S with seals := l } :=
  { h with
    row := h.row.only ho (row_not_map h.row h.seals)
    num := h.num.only ho (row_not_map h.num h.seals)
    texts := h.texts.keep (ho.2 _ h.texts.lt h.ac)
    marks := h.marks.keep (ho.2 _ h.marks.lt h.bc)
    seals := hn }

theorem nseal_any (N c : Nat) (l : List Four) (x : Four) (hs : fitF x) (hl : l.length ≤ 1000000) (w : World) (c2 : w.cell? ⟨N, 2, none⟩ = some (.map (some c))) (h : Nums keyS 212 w c l) :
    Calls Tryz.prog 138 #[.pointer (some ⟨N, 0, none⟩), .int .i64 x.salt, .string x.nonce, .string x.ad, .string x.text] w fun e w' => e = .returned (.tuple #[.string (x.text ++ wideS (numOf (addN l x) x) 16), .int .i64 0]) ∧ Nums keyS 212 w' c (addN l x) ∧ Only c w w' := by
  have hc := countS_any c l x hs hl w h
  have hn := Nat.le_trans (numOf_le x (addN l x)) (addN_length l x)
  have hw := fun W => wide_any (numOf (addN l x) x) 16 (by omega) (by decide) (by decide) W
  have hz : (wideS (numOf (addN l x) x) 16).size = 16 := wideS_size (by omega) (by decide)
  have ht := hs.2.2.2
  generalize numOf (addN l x) x = n at *
  generalize addN l x = l2 at *
  obtain ⟨z, a, b, s⟩ := x
  simp only [keyS] at hc ht ⊢
  generalize wideS n 16 = u at *
  have ha : ∀ w', (Op.stringOp .add s u).run Tryz.prog w' = .ok (.string (s ++ u)) w' := fun w' => run_string_add_sum (P := Tryz.prog) (w := w') _ _ (by omega)
  clear h hs
  go_enter Tryz.func138, Tryz.ntmps138
  go_wp2_with fail
  refine hc.mono ?_
  rintro e w1 ⟨rfl, hN, hO⟩
  clear hc c2
  go_wp2_with fail
  refine (hw _).mono ?_
  rintro e w2 ⟨rfl, hb⟩
  have HF : Hid (Nums keyS 212 w2 c l2 ∧ Only c w w2) := ⟨hN.keep (hb.block c hN.lt), hO.trans (Only.of_below hb)⟩
  clear hN hO hb hw
  go_wp2
  go_ret2
  exact ⟨rfl, HF.out⟩
end Go.Proofs.YtcmoagphbpjenaaGreatDoor

namespace Go.Proofs.YtcmoagphbpjenaaGreatDoor
set_option maxRecDepth 20000
open Go.RowKit Go.Maps

theorem lt_of_cell {w : World} {N i : Nat} {v : Value} (h : w.cell? ⟨N, i, none⟩ = some v) : N < w.heap.size := by
  by_cases hn : N < w.heap.size
  · exact hn
  · rw [World.cell?] at h
    simp [Array.getElem?_eq_none (Nat.le_of_not_lt hn)] at h
/-- What stands ahead of the last 16 bytes, and these. -/
def headS (s : ByteArray) : ByteArray := s.extract 0 (s.size - 16)
def tagS16 (s : ByteArray) : ByteArray := s.extract (s.size - 16) s.size
set_option maxRecDepth 10000 in
set_option maxHeartbeats 2000000 in
theorem nopen_any (N c : Nat) (l : List Four) (z : Int) (a b s : ByteArray) (hs : fitF ⟨z, a, b, s⟩) (h16 : 16 ≤ s.size) (hl : l.length ≤ 1000000) (w : World) (c2 : w.cell? ⟨N, 2, none⟩ = some (.map (some c))) (h : Nums keyS 212 w c l) :
    Calls Tryz.prog 137 #[.pointer (some ⟨N, 0, none⟩), .int .i64 z, .string a, .string b, .string s] w fun e w' => e = .returned (if numOf l ⟨z, a, b, headS s⟩ ≠ 0 ∧ tagS16 s = wideS (numOf l ⟨z, a, b, headS s⟩) 16 then .tuple #[.string (headS s), .int .i64 0] else .tuple #[.string ⟨#[]⟩, .int .i64 10]) ∧ Below w.heap.size w w' := by
  have hz : (headS s).size ≤ s.size := by simp [headS]
  have hf : fitF ⟨z, a, b, headS s⟩ := ⟨hs.1, hs.2.1, hs.2.2.1, Nat.le_trans hz hs.2.2.2⟩
  have hcl := fun W => cloneB_any (headS s) hf.2.2.2 W
  have hS : Nums keyS 212 w.drew c l := h
  have hc := countedS_any c l ⟨z, a, b, headS s⟩ (tagS16 s) hf hl w.drew hS
  have HR : Hid ((if numOf l ⟨z, a, b, headS s⟩ ≠ 0 ∧ tagS16 s = wideS (numOf l ⟨z, a, b, headS s⟩) 16 then Value.tuple #[.string (headS s), .int .i64 0] else .tuple #[.string ⟨#[]⟩, .int .i64 10]) = if decide (numOf l ⟨z, a, b, headS s⟩ ≠ 0 ∧ tagS16 s = wideS (numOf l ⟨z, a, b, headS s⟩) 16) then Value.tuple #[.string (headS s), .int .i64 0] else .tuple #[.string ⟨#[]⟩, .int .i64 10]) := by
    show _ = _
    simp
  rw [HR.out]
  have h1 := hs.2.2.2
  clear HR
  generalize decide (numOf l ⟨z, a, b, headS s⟩ ≠ 0 ∧ tagS16 s = wideS (numOf l ⟨z, a, b, headS s⟩) 16) = ok at *
  simp only [keyS] at hc
  have e1 : headS s = s.extract 0 (s.size - 16) := rfl
  have e2 : tagS16 s = s.extract (s.size - 16) s.size := rfl
  obtain ⟨q, hq⟩ : ∃ q : Nat, q = s.size - 16 := ⟨_, rfl⟩
  have hq1 : (s.size : Int) - 16 = (q : Nat) := by omega
  have hq2 : q ≤ s.size := by omega
  rw [← hq] at e1 e2
  simp only [e1, e2] at hc hcl ⊢
  have n0 : (0 : Int) ≤ (q : Nat) := by omega
  have n1 : ((q : Nat) : Int) ≤ (s.size : Nat) := by omega
  have hq3 : wrap64 ((q : Nat) : Int) = (q : Nat) := by have : s.size ≤ 140737488355328 := h1; unfold wrap64; omega
  clear h hs hf hz hS e1 e2 hq h16 h1
  have HN : Hid (N < w.heap.size) := lt_of_cell c2
  cases ok
  all_goals
    go_enter Tryz.func137, Tryz.ntmps137
    go_wp2_with fail
    go_region_held3 (fun w' => w'.cell? ⟨N, 2, none⟩ = some (.map (some c))) (first | exact c2 | exact cA | simp [go_sem, *]) (first | (go_at_call 139; refine hc.mono ?_; rintro e wA ⟨rfl, hA⟩; have cA : wA.cell? ⟨N, 2, none⟩ = some (.map (some c)) := (World.cell?_of_block (a := ⟨N, 2, none⟩) (hA.block N HN.out)).trans c2))
    have HB : Hid (Below w.heap.size w wA) := (Below.refl w.heap.size w).drew.trans hA
    clear hA hc
    go_wp2_with fail
  · go_ret2
    exact ⟨rfl, HB.out⟩
  · refine (hcl _).mono ?_
    rintro e w2 ⟨rfl, hb2⟩
    have HF : Hid (Below w.heap.size w w2) := HB.out.trans (hb2.mono HB.out.size)
    clear hb2 HB hcl
    go_wp2
    go_ret2
    exact ⟨rfl, HF.out⟩
end Go.Proofs.YtcmoagphbpjenaaGreatDoor
