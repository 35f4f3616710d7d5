/- The document's none, Held and Read. · The document's Write, Arm, Spoil, keep and Lay. · The document's Arm, Spoil, keep, Lay, Flush and Start. · Slices that came in: of truth values, of bytes, of a script's steps. · The law PlateOrder, called with any bytes and any truth values, returns true, and changes nothing that was there. · The document's New and Start. · journal's zeros, blank, isOf, unsealable, headed. · journal's superOn where the power is on; isOf, unsealable at a device and a vault that lie apart. · journal's follow: steps till one fails. · errors.Is at journal's stop and the power's error, by Go's own text; journal's answer. · strings.Builder: WriteString and String off the shelf, laid at the seat. · strings.Clone: the shelf's contract, laid at the seat. · strings.Builder, once more: what was written so far. -/
import Derived.Test.YtldkdoddklfdlaaGreatDoorMg38
import Derived.Test.YtldkdoddklfdlaaGreatDoorMg10
import Derived.Deep.Slices
import Derived.WideShapes
import Derived.ProofKit
import Derived.ChangeOld
import Derived.Test.YtldkdoddklfdlaaGreatDoorMg12
import Derived.Test.YtldkdoddklfdlaaGreatDoorMg13
import Derived.LaidEql
import Derived.Stop.Asserts
import Derived.RowKitTokens
import Derived.Lib.IfaceEq
import Derived.Test.YtldkdoddklfdlaaGreatDoorMg01
import Derived.Shelf.Strings.Builder1
import Derived.Shelf.Strings.Builder2
import Derived.Shelf.Strconv.Clone
namespace Go.Proofs.YtldkdoddklfdlaaGreatDoor
set_option maxRecDepth 20000
open Go.RowKit

theorem owns_some {w : World} {e : TypeId} {z n : Nat} {v : Value} {xs : List Value} (h : w.ownsRow 0 e z v n xs) (hn : 0 < n) : ∃ g cap, v = .slice (some ⟨g, 0, none⟩) n cap ∧ n ≤ cap := by
  obtain ⟨g, cap, e, hc, _⟩ := owns_form h hn
  exact ⟨g, cap, e, hc⟩

/-- What is said of a sector by the first j waiting writes. -/
def seenS (S : PS) (i j : Nat) : ByteArray := (textOf (S.wait.take j) i).getD (heldS S (i : Nat))
def seenE (S : PS) (i j : Nat) : Int := if (textOf (S.wait.take j) i).isSome = true then 0 else heldE S (i : Nat)
theorem seen_step {S : PS} {i j a : Nat} {s : ByteArray} (h : S.wait[j]? = some (a, s)) : seenS S i (j + 1) = (if a = i then s else seenS S i j) ∧ seenE S i (j + 1) = (if a = i then 0 else seenE S i j) := by
  have e : S.wait.take (j + 1) = S.wait.take j ++ [(a, s)] := by rw [List.take_add_one, h]; rfl
  rw [seenS, seenE, e, textOf_snoc]
  by_cases hc : a = i
  · simp [hc]
  · simp [hc, seenS, seenE]

end Go.Proofs.YtldkdoddklfdlaaGreatDoor

namespace Go.Proofs.YtldkdoddklfdlaaGreatDoor
set_option maxRecDepth 20000
open Go.RowKit

theorem RefAt.appended {w0 w w' : World} {F : Nat → Prop} {B i : Nat} {kv dv wv v' : Value} {ks : List ByteArray} {ds : List Bool} {S : PS} {s : ByteArray} (h : RefAt w F B kv dv wv ks ds S) (ht : Touch F w0 w) (hi : i < S.kept.length) (hs : s.size = 64)
    (hown : w'.ownsRow 0 329 2 v' (S.wait.length + 1) (waitC S.wait ++ [.int .i64 (i : Nat), .string s])) (hg : w.grownBy w' wv.ownBlock) (hat : v'.ownBlock = wv.ownBlock ∨ v'.ownBlock = some w.heap.size) :
    w'.cell? ⟨B, 2, none⟩ = some wv ∧ w'.frozen? ⟨B, 2, none⟩ = false ∧ RefAt (w'.setCell ⟨B, 2, none⟩ v') (grow F w0 (w'.setCell ⟨B, 2, none⟩ v')) B kv dv v' ks ds { S with wait := S.wait ++ [(i, s)] } ∧ Touch F w0 (w'.setCell ⟨B, 2, none⟩ v') := by
  have hB := h.row.lt
  have r1 : Row w' B _ _ := (hg.block B h.row.lt (fun e => h.wB e.symm)).trans h.row
  have r2 := owns_keep (w' := w') h.kept fun g hg' => hg.block g (owns_lt h.kept g hg') (fun e => h.kw g hg' e.symm)
  have r3 := owns_keep (w' := w') h.dumb fun g hg' => hg.block g (owns_lt h.dumb g hg') (fun e => h.dw g hg' e.symm)
  have nB : Apart v' B := by
    rcases hat with e | e
    · unfold Apart; rw [e]; exact h.wB
    · unfold Apart; rw [e]; intro e2; cases e2; omega
  have nK : Apart2 kv v' := fun g hg' => by
    rcases hat with e | e
    · rw [e]; exact h.kw g hg'
    · rw [e]; intro e2; cases e2; have := owns_lt h.kept _ hg'; omega
  have nD : Apart2 dv v' := fun g hg' => by
    rcases hat with e | e
    · rw [e]; exact h.dw g hg'
    · rw [e]; intro e2; cases e2; have := owns_lt h.dumb _ hg'; omega
  have hsz : (w'.setCell ⟨B, 2, none⟩ v').heap.size = w'.heap.size := by simp
  have ht2 : Touch F w0 w' := ⟨ht.1.trans ⟨hg.os, hg.tape, hg.output, hg.size, fun k hk => absurd hk (Nat.not_lt_zero k)⟩, fun k hk hn => (hg.block k (Nat.lt_of_lt_of_le hk ht.size) (fun e => hn (h.fW k e.symm))).trans (ht.2 k hk hn)⟩
  refine ⟨r1.cell 2, r1.frozen 2, ⟨r1.setL 2 v', owns_off r2 h.kB _ _, owns_off r3 h.dB _ _, ?_, .inl h.fB, fun g hg' => .inl (h.fK g hg'), fun g hg' => .inl (h.fD g hg'), fun g hg' => ?_, h.kB, h.dB, nB, h.kd, nK, nD, h.most, ?_, h.says, h.texts, h.fuse⟩, ht2.setCell _ _ _ (.inl h.fB)⟩
  · rw [waitC_snoc]
    show World.ownsRow _ _ _ _ _ (S.wait ++ [(i, s)]).length _
    rw [List.length_append]
    exact owns_off hown nB _ _
  · have hlt := owns_lt hown g hg'
    rcases hat with e | e
    · exact .inl (h.fW g (by rw [← e]; exact hg'))
    · rw [e] at hg'
      cases hg'
      exact .inr ⟨ht.size, by rw [hsz]; exact hlt⟩
  · intro p hp
    rcases List.mem_append.1 hp with hp | hp
    · exact h.ats p hp
    · rw [List.mem_singleton] at hp
      subst hp
      exact ⟨hi, hs⟩
theorem info_rwrite : (Tryz.prog.info? 329).map (fun i => (i.zero, i.size, i.bytes)) = some (some (.agg #[.int .i64 0, .string ⟨#[]⟩]), 2, 24) := by kernel_rfl
theorem RefAt.kform {w : World} {F : Nat → Prop} {B : Nat} {kv dv wv : Value} {ks : List ByteArray} {ds : List Bool} {S : PS} (h : RefAt w F B kv dv wv ks ds S) : ∃ oa cap, kv = .slice oa S.kept.length cap := by
  rcases owns_len h.kept with ⟨cap, e⟩ | ⟨g, cap, e⟩
  · exact ⟨_, cap, e⟩
  · exact ⟨_, cap, e⟩
theorem RefAt.wform {w : World} {F : Nat → Prop} {B : Nat} {kv dv wv : Value} {ks : List ByteArray} {ds : List Bool} {S : PS} (h : RefAt w F B kv dv wv ks ds S) : ∃ oa cap, wv = .slice oa S.wait.length cap := by
  rcases owns_len h.wait with ⟨cap, e⟩ | ⟨g, cap, e⟩
  · exact ⟨_, cap, e⟩
  · exact ⟨_, cap, e⟩

end Go.Proofs.YtldkdoddklfdlaaGreatDoor

namespace Go.Proofs.YtldkdoddklfdlaaGreatDoor
set_option maxRecDepth 20000
open Go.RowKit

theorem keptAt_put {f : Nat → Bool} {S : PS} {j a : Nat} {s : ByteArray} (h : S.wait[j]? = some (a, s)) (hf : f j = true) : ({ S with kept := (keptAt f S.wait S.kept j).set a s } : PS) = { S with kept := keptAt f S.wait S.kept (j + 1) } := by rw [keptAt_step h, if_pos hf]
theorem keptAt_not {f : Nat → Bool} {S : PS} {j a : Nat} {s : ByteArray} (h : S.wait[j]? = some (a, s)) (hf : f j = false) : keptAt f S.wait S.kept (j + 1) = keptAt f S.wait S.kept j := by rw [keptAt_step h, hf]; rfl
theorem touch_trans {F : Nat → Prop} {w w1 w2 : World} (h : Touch F w w1) (k : Touch F w1 w2) : Touch F w w2 := h.trans (k.mono fun _ h => .inl h)

end Go.Proofs.YtldkdoddklfdlaaGreatDoor

namespace Go.Proofs.YtldkdoddklfdlaaGreatDoor
set_option maxRecDepth 20000
open Go.ChangeShapes Go.WideShapes Go.RowKit Go.Deep

section
variable {H : Type} {enc : TypeId × Value → H} {W : World}
theorem bools_of_cells {fuel : Nat} {cs : List Value} {x : DataW H × List MemPlace} (h : DataW.trod enc Tryz.prog W 0 (fun _ => true) true fuel 72 cs = some x) : ∃ v l, cs = [v] ∧ Bools W (fun k => W.heap.size ≤ k) v l := by
  have hlt := DataW.trod_lt fuel _ _ _ h
  rcases open_slice1 Tryz.underlying72 (show Tryz.prog.cellsOf 4 = 1 by kernel_rfl) h with ⟨rfl, rfl⟩ | ⟨a, len, cap, m, n, V, D, Pl, rfl, _, hl, hm, hmm, rfl, hx⟩
  · exact ⟨_, [], rfl, .inl ⟨none, 0, rfl, rfl⟩⟩
  · simp only [if_true] at hmm
    by_cases h0 : len = 0
    · subst h0; exact ⟨_, [], rfl, .inl ⟨_, _, rfl, rfl⟩⟩
    have hV : ∀ i, i < len → ∃ b, W.cell? (a.add i) = some (.bool b) := fun i hi => by
      obtain ⟨h1, h2⟩ := hx i (by omega)
      obtain ⟨b, hb, _⟩ := DataW.trod_bool Tryz.underlying4 h2
      simp only [List.cons.injEq, and_true] at hb
      exact ⟨b, by rw [h1, hb]⟩
    obtain ⟨f, hf⟩ := choose_lt hV
    obtain ⟨b, off, spot⟩ := a
    have hspot : spot = none := by simpa [Addr.add] using World.cell?_spot (hf 0 (by omega))
    subst hspot
    have hbW : b < W.heap.size := hlt (.cell b off) (List.mem_append_left _ (MemPlace.mem_row.2 ⟨0, by omega, by simp⟩))
    refine ⟨_, (List.range len).map f, rfl, .inr ⟨b, off, cap, by simp, hbW, Nat.not_le.2 hbW, fun i u hu => ?_⟩⟩
    rw [List.getElem?_map] at hu
    have hi : i < len := by
      by_cases hi : i < len
      · exact hi
      · rw [List.getElem?_eq_none (by simp; omega)] at hu; cases hu
    rw [List.getElem?_range hi] at hu
    simp only [Option.map_some, Option.some.injEq] at hu
    rw [← hu, ← add_plain]
    exact hf i hi
theorem bools_of_trod {v : Value} {d : DataW H} {p : List MemPlace} {base : Nat} (hok : Value.okWide Tryz.prog W .any base 72 v) (h : DataW.Trod enc Tryz.prog W 0 (fun _ => true) true 72 v d p) : ∃ l, Bools W (fun k => W.heap.size ≤ k) v l := by
  obtain ⟨a0, len, cap, rfl⟩ := okWide_slice Tryz.underlying72 hok
  obtain ⟨fuel, hf⟩ := h
  obtain ⟨v', l, e, hb⟩ := bools_of_cells hf
  have e2 : .slice a0 len cap = v' := by simpa [Value.cells] using e
  subst e2
  exact ⟨l, hb⟩

/-- A list of bytes that came in. -/
def Nums8 (w : World) (v : Value) (l : List Nat) : Prop := (∃ oa cap, v = .slice oa 0 cap ∧ l = []) ∨ ∃ g o cap, v = .slice (some ⟨g, o, none⟩) l.length cap ∧ g < w.heap.size ∧ ∀ i x, l[i]? = some x → w.cell? ⟨g, o + i, none⟩ = some (.int .u8 (x : Nat))
theorem nums_of_trod {v : Value} {d : DataW H} {p : List MemPlace} {base : Nat} (hok : Value.okWide Tryz.prog W .any base 90 v) (h : DataW.Trod enc Tryz.prog W 0 (fun _ => true) true 90 v d p) : ∃ l, Nums8 W v l := by
  obtain ⟨a0, len, cap, rfl⟩ := okWide_slice Tryz.underlying90 hok
  obtain ⟨fuel, hf⟩ := h
  have hlt := DataW.trod_lt fuel _ _ _ hf
  rcases open_slice1 Tryz.underlying90 (show Tryz.prog.cellsOf 5 = 1 by kernel_rfl) hf with ⟨hcs, hx⟩ | ⟨a, len', cap', m, n, V, D, Pl, hcs, _, hl, hm, hmm, hx0, hx⟩
  · simp [Value.cells] at hcs
    obtain ⟨rfl, rfl, rfl⟩ := hcs
    exact ⟨[], .inl ⟨none, 0, rfl, rfl⟩⟩
  · simp [Value.cells] at hcs
    obtain ⟨rfl, rfl, rfl⟩ := hcs
    simp only [if_true] at hmm
    by_cases h0 : len = 0
    · subst h0; exact ⟨[], .inl ⟨_, _, rfl, rfl⟩⟩
    have hV : ∀ i, i < len → ∃ b : Nat, W.cell? (a.add i) = some (.int .u8 (b : Nat)) := fun i hi => by
      obtain ⟨h1, h2⟩ := hx i (by omega)
      obtain ⟨b, hb, _, hw⟩ := DataW.trod_int Tryz.underlying5 h2
      simp only [List.cons.injEq, and_true] at hb
      have hb0 : 0 ≤ b := by simp [Lit.wf, IntKind.min, IntKind.max, IntKind.signed, IntKind.bits] at hw; omega
      exact ⟨b.toNat, by rw [h1, hb, Int.toNat_of_nonneg hb0]⟩
    obtain ⟨f, hf⟩ := choose_lt hV
    obtain ⟨b, off, spot⟩ := a
    have hspot : spot = none := by simpa [Addr.add] using World.cell?_spot (hf 0 (by omega))
    subst hspot
    have hbW : b < W.heap.size := hlt (.cell b off) (by rw [hx0]; exact List.mem_append_left _ (MemPlace.mem_row.2 ⟨0, by omega, by simp⟩))
    refine ⟨(List.range len).map f, .inr ⟨b, off, cap, by simp, hbW, fun i u hu => ?_⟩⟩
    rw [List.getElem?_map] at hu
    have hi : i < len := by
      by_cases hi : i < len
      · exact hi
      · rw [List.getElem?_eq_none (by simp; omega)] at hu; cases hu
    rw [List.getElem?_range hi] at hu
    simp only [Option.map_some, Option.some.injEq] at hu
    rw [← hu, ← add_plain]
    exact hf i hi
end
end Go.Proofs.YtldkdoddklfdlaaGreatDoor

namespace Go.Proofs.YtldkdoddklfdlaaGreatDoor
set_option maxRecDepth 20000
open Go.RowKit

theorem rep_get (v : Value) (n i : Nat) (h : i < n) : (List.replicate n v)[i]? = some v := by simp [h]
theorem rep_getD (n i : Nat) (h : i < n) : ((List.replicate n 0).map fun (x : Nat) => (x : Int)).getD i 0 = 0 := by
  rw [List.getD_eq_getElem?_getD, List.getElem?_map, List.getElem?_replicate, if_pos h]; rfl

set_option maxHeartbeats 400000 in
theorem blank_any (w : World) : Calls Tryz.prog 24 #[] w fun e w' => e = .returned (.string (fillS 0 64)) ∧ Below w.heap.size w w' := by
  have hm : ∀ w, (Instr.makeSlice 90 (.int .i64 64) (.int .i64 64)).run Tryz.prog w = .ok (.slice (some ⟨w.heap.size, 0, none⟩) 64 64) (w.alloc (.cells (madeCells #[.int .u8 0] 64) 5)) := run_make_row' (P := Tryz.prog) 90 5 (.int .u8 0) 1 Tryz.underlying90 info_u8 rfl .i64 .i64 64 (by omega) (by omega)
  have hr : Row (w.alloc (.cells (madeCells #[.int .u8 0] 64) 5)) w.heap.size 5 (List.replicate 64 (.int .u8 0)) := made_row (heap_alloc_new w _)
  have hb := (Below.refl w.heap.size w).alloc (Nat.le_refl _) (.cells (madeCells #[.int .u8 0] 64) 5)
  obtain ⟨ms, hms⟩ : ∃ ms, madeCells #[.int .u8 0] 64 = ms := ⟨_, rfl⟩
  rw [hms] at hr hb
  simp only [hms] at hm
  clear hms
  obtain ⟨w0, hw0⟩ : ∃ w0, w.alloc (.cells ms 5) = w0 := ⟨_, rfl⟩
  rw [hw0] at hr hb
  have hcv := run_convert_bytes_arg (P := Tryz.prog) w0 90 5 Tryz.underlying90 Tryz.underlying5 w.heap.size 0 64 64 ((List.replicate 64 0).map fun (x : Nat) => (x : Int)) (by simp) (fun i hi => by
    rw [Nat.zero_add, hr.cell, rep_get _ _ _ hi, rep_getD _ _ hi]) 9 Tryz.underlying9
  rw [← fillS_num] at hcv
  have HF : Hid (Below w.heap.size w w0) := hb
  clear hr hb
  obtain ⟨X, hX⟩ : ∃ X, X = fillS 0 64 := ⟨_, rfl⟩
  rw [← hX] at hcv
  have HX : Hid (X = fillS 0 64) := hX
  clear hX
  go_enter Tryz.func24, Tryz.ntmps24
  go_wp2
  first
    | (rw [hcv]; go_wp2)
    | skip
  go_ret
  exact ⟨by rw [← HX.out]; rfl, HF.out⟩

/-- Behind j writes, and what the sector must say then. -/
def orderS (l : List Nat) (j : Nat) : PS := ⟨[fillS 0 64], (List.range j).map fun i => (0, fillS (l.getD i 0) 64), -1, true, 0, (j : Nat)⟩
def wantS (l : List Nat) (k : List Bool) : Nat → ByteArray
  | 0 => fillS 0 64
  | j + 1 => if lastsB k j = true then fillS (l.getD j 0) 64 else wantS l k j
theorem wantS_size (l : List Nat) (k : List Bool) : ∀ j, (wantS l k j).size = 64
  | 0 => fillS_size _ _
  | j + 1 => by
    simp only [wantS]
    split
    · exact fillS_size _ _
    · exact wantS_size l k j
theorem orderS_wait (l : List Nat) (j : Nat) : (orderS l j).wait.length = j := by simp [orderS]
theorem orderS_step (l : List Nat) (j : Nat) (hj : j < 60) : writeP (orderS l j) 0 (fillS (l.getD j 0) 64) = orderS l (j + 1) := by
  have hb : hasB (orderS l j) 0 = true := by simp [hasB, orderS]
  have hf1 : (orderS l j).fuse = -1 := rfl
  have hu : (orderS l j).up = true := rfl
  have hw : wrap64 ((orderS l j).writes + 1) = ((j + 1 : Nat) : Int) := by simp only [orderS, wrap64]; omega
  simp only [writeP, fillS_size, hu, hb, hf1, if_true, hw]
  simp only [orderS, List.range_succ, List.map_append, List.map_cons, List.map_nil]
  rfl
theorem order_kept (l : List Nat) (k : List Bool) (J : Nat) : ∀ j, j ≤ J → keptAt (lastsB k) (orderS l J).wait [fillS 0 64] j = [wantS l k j]
  | 0, _ => rfl
  | j + 1, hj => by
    have ih := order_kept l k J j (by omega)
    have hw : (orderS l J).wait[j]? = some (0, fillS (l.getD j 0) 64) := by
      show ((List.range J).map _)[j]? = _
      rw [List.getElem?_map, List.getElem?_range (by omega)]
      rfl
    rw [keptAt_step hw, ih, wantS]
    split <;> rfl
theorem order_end (l : List Nat) (k : List Bool) (J : Nat) : readS (startP k (orderS l J)) 0 = wantS l k J ∧ readE (startP k (orderS l J)) 0 = 0 ∧ (startP k (orderS l J)).wait.length = 0 := by
  have e : startP k (orderS l J) = ⟨[wantS l k J], [], -1, true, 0, (J : Nat)⟩ := by
    have h1 := order_kept l k J J (Nat.le_refl _)
    have h2 : (orderS l J).kept = [fillS 0 64] := rfl
    simp only [startP, settleP, orderS_wait, h2, h1]
    rfl
  rw [e]
  refine ⟨by simp [readS, hasB, textOf, textR, heldS, keptS], by simp [readE, hasB, textOf, textR, heldE, keptS, wantS_size], rfl⟩

end Go.Proofs.YtldkdoddklfdlaaGreatDoor

namespace Go.Proofs.YtldkdoddklfdlaaGreatDoor
set_option maxRecDepth 20000
open Go.RowKit

theorem keptAt_tail {f : Nat → Bool} {wait : List (Nat × ByteArray)} {kept : List ByteArray} {M : Nat} (h : ∀ j, M ≤ j → f j = false) : ∀ d, keptAt f wait kept (M + d) = keptAt f wait kept M
  | 0 => rfl
  | d + 1 => by
    rw [show M + (d + 1) = (M + d) + 1 by omega]
    cases hj : wait[M + d]? with
    | none => simp only [keptAt, hj]; exact keptAt_tail h d
    | some p =>
      simp only [keptAt, hj, h (M + d) (by omega)]
      exact keptAt_tail h d
theorem lastsB_beyond (l : List Bool) (j : Nat) (h : l.length ≤ j) : lastsB l j = false := by rw [lastsB, List.getD_eq_getElem?_getD, List.getElem?_eq_none h]; rfl

/-- A device in the making: n sectors have texts, m have notes. -/
structure NewMid (base : Nat) (w : World) (B : Nat) (kv dv : Value) (n m : Nat) : Prop where
  row : Row w B 75 [kv, dv, .slice none 0 0, .int .i64 (-1), .bool false, .int .i64 0, .int .i64 0]
  kept : w.ownsRow 0 9 1 kv n (List.replicate n (.string (fillS 0 64)))
  dumb : w.ownsRow 0 4 1 dv m (List.replicate m (.bool false))
  low : base ≤ B
  fK : ∀ g, kv.ownBlock = some g → base ≤ g
  fD : ∀ g, dv.ownBlock = some g → base ≤ g
  kB : Apart kv B
  dB : Apart dv B
  kd : Apart2 kv dv
theorem NewMid.keep {base : Nat} {w w' : World} {B n m : Nat} {kv dv : Value} (h : NewMid base w B kv dv n m) (hb : ∀ k, k < w.heap.size → w'.heap[k]? = w.heap[k]?) : NewMid base w' B kv dv n m :=
  { h with row := (hb B h.row.lt).trans h.row, kept := owns_keep h.kept fun g hg => hb g (owns_lt h.kept g hg), dumb := owns_keep h.dumb fun g hg => hb g (owns_lt h.dumb g hg) }
theorem NewMid.growK {base : Nat} {w w' : World} {B n m : Nat} {kv dv v' : Value} (h : NewMid base w B kv dv n m) (hbase : base ≤ w.heap.size) (hown : w'.ownsRow 0 9 1 v' (n + 1) (List.replicate n (.string (fillS 0 64)) ++ [.string (fillS 0 64)])) (hg : w.grownBy w' kv.ownBlock) (hat : v'.ownBlock = kv.ownBlock ∨ v'.ownBlock = some w.heap.size) :
    w'.cell? ⟨B, 0, none⟩ = some kv ∧ w'.frozen? ⟨B, 0, none⟩ = false ∧ NewMid base (w'.setCell ⟨B, 0, none⟩ v') B v' dv (n + 1) m := by
  have hB := h.row.lt
  have r1 : Row w' B _ _ := (hg.block B h.row.lt (fun e => h.kB e.symm)).trans h.row
  have r3 := owns_keep (w' := w') h.dumb fun g hg' => hg.block g (owns_lt h.dumb g hg') (fun e => h.kd g e.symm hg')
  have nB : Apart v' B := by
    rcases hat with e | e
    · unfold Apart; rw [e]; exact h.kB
    · unfold Apart; rw [e]; intro e2; cases e2; omega
  have nD : Apart2 v' dv := fun g hg' e2 => by
    rcases hat with e | e
    · exact h.kd g (by rw [← e]; exact hg') e2
    · rw [e] at hg'; cases hg'; have := owns_lt h.dumb _ e2; omega
  refine ⟨r1.cell 0, r1.frozen 0, r1.setL 0 v', ?_, owns_off r3 h.dB _ _, h.low, fun g hg' => ?_, h.fD, nB, h.dB, nD⟩
  · have := owns_off hown nB 0 v'
    rw [← List.replicate_succ'] at this
    exact this
  · rcases hat with e | e
    · exact h.fK g (by rw [← e]; exact hg')
    · rw [e] at hg'; cases hg'; exact hbase
theorem NewMid.growD {base : Nat} {w w' : World} {B n m : Nat} {kv dv v' : Value} (h : NewMid base w B kv dv n m) (hbase : base ≤ w.heap.size) (hown : w'.ownsRow 0 4 1 v' (m + 1) (List.replicate m (.bool false) ++ [.bool false])) (hg : w.grownBy w' dv.ownBlock) (hat : v'.ownBlock = dv.ownBlock ∨ v'.ownBlock = some w.heap.size) :
    w'.cell? ⟨B, 1, none⟩ = some dv ∧ w'.frozen? ⟨B, 1, none⟩ = false ∧ NewMid base (w'.setCell ⟨B, 1, none⟩ v') B kv v' n (m + 1) := by
  have hB := h.row.lt
  have r1 : Row w' B _ _ := (hg.block B h.row.lt (fun e => h.dB e.symm)).trans h.row
  have r3 := owns_keep (w' := w') h.kept fun g hg' => hg.block g (owns_lt h.kept g hg') (fun e => h.kd g hg' e.symm)
  have nB : Apart v' B := by
    rcases hat with e | e
    · unfold Apart; rw [e]; exact h.dB
    · unfold Apart; rw [e]; intro e2; cases e2; omega
  have nD : Apart2 kv v' := fun g hg' e2 => by
    rcases hat with e | e
    · exact h.kd g hg' (by rw [← e]; exact e2)
    · rw [e] at e2; cases e2; have := owns_lt h.kept _ hg'; omega
  refine ⟨r1.cell 1, r1.frozen 1, r1.setL 1 v', owns_off r3 h.kB _ _, ?_, h.low, h.fK, fun g hg' => ?_, h.kB, nB, nD⟩
  · have := owns_off hown nB 1 v'
    rw [← List.replicate_succ'] at this
    exact this
  · rcases hat with e | e
    · exact h.fD g (by rw [← e]; exact hg')
    · rw [e] at hg'; cases hg'; exact hbase
theorem NewMid.done {base : Nat} {w : World} {B n : Nat} {kv dv : Value} (h : NewMid base w B kv dv n n) (hn : n ≤ 32768) : RefP w (fun k => base ≤ k ∧ k < w.heap.size) B (newP n) := by
  have hl : (newP n).kept.length = n := by simp [newP]
  refine ⟨kv, dv, .slice none 0 0, List.replicate n (fillS 0 64), List.replicate n false, h.row, ?_, ?_, World.ownsRow_nil _ _ _ _, ⟨h.low, h.row.lt⟩, fun g hg => ⟨h.fK g hg, owns_lt h.kept g hg⟩, fun g hg => ⟨h.fD g hg, owns_lt h.dumb g hg⟩, fun g hg => (by cases hg), h.kB, h.dB, by simp [Apart, Value.ownBlock], h.kd, fun g _ => by simp [Value.ownBlock], fun g _ => by simp [Value.ownBlock], by rw [hl]; exact hn, by simp [newP], fun i hi => ?_, fun s hs => ?_, by simp [newP]⟩
  · rw [hl, List.map_replicate]; exact h.kept
  · rw [hl, List.map_replicate]; exact h.dumb
  · rw [hl] at hi
    simp [newP, hi]
  · rw [(List.mem_replicate.1 hs).2, fillS_size]

set_option maxHeartbeats 400000 in
theorem rnew_bad (n : Int) (hn : n < 0 ∨ 32768 < n) (w : World) :
    Calls Tryz.prog 9 #[.int .i64 n] w fun e w' => e = .returned (.tuple #[.pointer none, .int .i64 1]) ∧ w' = w := by
  rcases hn with h | h
  · go_enter Tryz.func9, Tryz.ntmps9
    go_wp2
    go_ret2
    exact ⟨rfl, rfl⟩
  · obtain ⟨m, rfl⟩ : ∃ m : Nat, n = m := ⟨n.toNat, by omega⟩
    go_enter Tryz.func9, Tryz.ntmps9
    go_wp2
    go_ret2
    exact ⟨rfl, rfl⟩

set_option maxRecDepth 10000 in
set_option maxHeartbeats 2000000 in
theorem rnew_any (n : Nat) (hn : n ≤ 32768) (w : World) :
    Calls Tryz.prog 9 #[.int .i64 n] w fun e w' => ∃ B, e = .returned (.tuple #[.pointer (some ⟨B, 0, none⟩), .int .i64 0]) ∧ RefP w' (fun k => w.heap.size ≤ k ∧ k < w'.heap.size) B (newP n) ∧ Below w.heap.size w w' := by
  have i0 : ¬ (n : Int) < 0 := by omega
  have i1 : ¬ (32768 : Int) < n := by omega
  obtain ⟨q0, hq, hz0, hz1, hz2⟩ := info_parts info_string
  obtain ⟨q1, hq', hy0, hy1, hy2⟩ := info_parts (show (Tryz.prog.info? 4).map (fun i => (i.zero, i.size, i.bytes)) = some (some (.bool false), 1, 1) by kernel_rfl)
  have hM0 : NewMid w.heap.size (w.alloc (.cells #[.slice none 0 0, .slice none 0 0, .slice none 0 0, .int .i64 (-1), .bool false, .int .i64 0, .int .i64 0] 75)) w.heap.size (.slice none 0 0) (.slice none 0 0) 0 0 :=
    ⟨heap_alloc_new w _, World.ownsRow_nil _ _ _ _, World.ownsRow_nil _ _ _ _, Nat.le_refl _, fun g hg => (by cases hg), fun g hg => (by cases hg), by simp [Apart, Value.ownBlock], by simp [Apart, Value.ownBlock], fun g hg => (by cases hg)⟩
  have hb0 := (Below.refl w.heap.size w).alloc (Nat.le_refl _) (.cells #[.slice none 0 0, .slice none 0 0, .slice none 0 0, .int .i64 (-1), .bool false, .int .i64 0, .int .i64 0] 75)
  obtain ⟨w0, hw0⟩ : ∃ w0, w.alloc (.cells #[.slice none 0 0, .slice none 0 0, .slice none 0 0, .int .i64 (-1), .bool false, .int .i64 0, .int .i64 0] 75) = w0 := ⟨_, rfl⟩
  rw [hw0] at hM0 hb0
  have HI : Hid (NewMid w.heap.size w0 w.heap.size (.slice none 0 0) (.slice none 0 0) 0 0 ∧ Below w.heap.size w w0) := ⟨hM0, hb0⟩
  clear hM0 hb0
  go_enter Tryz.func9, Tryz.ntmps9
  go_wp2_with fail
  go_loopw [5] (fun v wr => ∃ j : Nat, j ≤ n ∧ v = .int .i64 j ∧ (∃ kv dv, NewMid w.heap.size wr w.heap.size kv dv j j) ∧ Below w.heap.size w wr) (fun v _ => n - (intOf v).toNat)
  case atStart => exact ⟨0, Nat.zero_le _, rfl, ⟨_, _, HI.out.1⟩, HI.out.2⟩
  case round =>
    clear HI hw0
    obtain ⟨j, hj, rfl, ⟨kv, dv, hM⟩, hT⟩ := hrel
    by_cases hlt : j < n
    · have j1 : (j : Int) < n := by omega
      have c0 : wr.cell? ⟨w.heap.size, 0, none⟩ = some kv := hM.row.cell 0
      have HM : Hid (NewMid w.heap.size wr w.heap.size kv dv j j ∧ Below w.heap.size w wr) := ⟨hM, hT⟩
      have hds : ∃ ob cb, dv = .slice ob j cb := by
        rcases owns_len hM.dumb with ⟨cap, e⟩ | ⟨g, cap, e⟩
        · exact ⟨_, cap, e⟩
        · exact ⟨_, cap, e⟩
      obtain ⟨ob, cb, rfl⟩ := hds
      clear hM hT
      go_wp2_with fail
      go_region_law (first | (refine step_append_at _ rfl _ _ 66 rfl 0 9 q0 (.string ⟨#[]⟩) 1 16 Tryz.underlying66 hq hz0 hz1 hz2 rfl (by decide) kv j (List.replicate j (.string (fillS 0 64))) rfl (owns_keep hA.kept fun g hg => Below.heap_alloc wA _ g (owns_lt hA.kept g hg)) ⟨wA.heap.size, 0, none⟩ 1 1 [.string (fillS 0 64)] rfl rfl (World.news_of_block (heap_alloc_new wA _)) (by intro u hu; rw [List.mem_singleton] at hu; rw [hu]; rfl) (by unfold maxLen; omega) (by omega) (Nat.zero_le _) ?_; intro v1 wB hown1 hgrow1 hat1; obtain ⟨g1, cap1, rfl, hgc, _⟩ := owns_form hown1 (by omega); have hA2 := hA.keep (w' := wA.alloc (.cells #[.string (fillS 0 64)] 9)) (fun k hk => Below.heap_alloc wA _ k hk); have hTB : Below w.heap.size w wB := (hTA.alloc hTA.size _).grown hgrow1 (Nat.le_trans hTA.size (by simp)) (fun k hk => hA.fK k hk); obtain ⟨x1, x2, hmid⟩ := hA2.growK (Nat.le_trans hTA.size (by simp)) hown1 hgrow1 hat1; have HG : Hid _ := hmid; clear hmid hA2 hown1 hgrow1 hat1) | (go_simp; refine (blank_any _).mono ?_; rintro e wA ⟨rfl, hbA⟩; dsimp only; have hA : NewMid w.heap.size wA w.heap.size kv (.slice ob j cb) j j := HM.out.1.keep (fun k hk => hbA.block k hk); have hTA : Below w.heap.size w wA := HM.out.2.drew.trans (hbA.mono HM.out.2.size); have dA : wA.cell? ⟨w.heap.size, 0, none⟩ = some kv := hA.row.cell 0; have dA2 : ∀ o, (wA.alloc o).cell? ⟨w.heap.size, 0, none⟩ = some kv := fun o => (hA.keep (w' := wA.alloc o) (fun k hk => Below.heap_alloc wA o k hk)).row.cell 0))
      all_goals
        obtain ⟨w5, hw5⟩ : ∃ w5, wB.setCell ⟨w.heap.size, 0, none⟩ (.slice (some ⟨g1, 0, none⟩) (j + 1) cap1) = w5 := ⟨_, rfl⟩
        have hT5 : Below w.heap.size w w5 := by rw [← hw5]; exact hTB.setCell (p := ⟨w.heap.size, 0, none⟩) (Nat.le_refl _) _
        rw [hw5] at HG
        have c1 : w5.cell? ⟨w.heap.size, 1, none⟩ = some (.slice ob j cb) := HG.out.row.cell 1
        have HH : Hid (Below w.heap.size w w5) := hT5
        clear x1 x2 dA dA2 hA hTA hbA hTB hT5 c0
        try rw [hw5]
        go_wp2_with (first | (at_builtin; refine wpList_append_own_at _ rfl _ _ 72 rfl 0 4 q1 (.bool false) 1 1 Tryz.underlying72 hq' hy0 hy1 hy2 rfl (by decide) (.slice ob j cb) j (List.replicate j (.bool false)) rfl (owns_keep HG.out.dumb fun g hg => Below.heap_alloc w5 _ g (owns_lt HG.out.dumb g hg)) ⟨w5.heap.size, 0, none⟩ 1 1 [.bool false] rfl rfl (World.news_of_block (heap_alloc_new w5 _)) (by intro u hu; rw [List.mem_singleton] at hu; rw [hu]; rfl) (by unfold maxLen; omega) (by omega) (Nat.zero_le _) ?_))
        intro v2 wC hown2 hgrow2 _ hat2
        obtain ⟨g2, cap2, rfl, hgc2, _⟩ := owns_form hown2 (by omega)
        have hG2 := HG.out.keep (w' := w5.alloc (.cells #[.bool false] 4)) (fun k hk => Below.heap_alloc w5 _ k hk)
        have hTC : Below w.heap.size w wC := (HH.out.alloc HH.out.size _).grown hgrow2 (Nat.le_trans HH.out.size (by simp)) (fun k hk => HG.out.fD k hk)
        obtain ⟨y1, y2, hmid2⟩ := hG2.growD (Nat.le_trans HH.out.size (by simp)) hown2 hgrow2 (by rw [show (w5.alloc (.cells #[.bool false] 4)).heap.size = w5.heap.size + 1 by simp]; exact hat2)
        obtain ⟨w6, hw6⟩ : ∃ w6, wC.setCell ⟨w.heap.size, 1, none⟩ (.slice (some ⟨g2, 0, none⟩) (j + 1) cap2) = w6 := ⟨_, rfl⟩
        have hT6 : Below w.heap.size w w6 := by rw [← hw6]; exact hTC.setCell (p := ⟨w.heap.size, 1, none⟩) (Nat.le_refl _) _
        rw [hw6] at hmid2
        have HF : Hid ((∃ kv dv, NewMid w.heap.size w6 w.heap.size kv dv (j + 1) (j + 1)) ∧ Below w.heap.size w w6) := ⟨⟨_, _, hmid2⟩, hT6⟩
        clear hmid2 hT6 hTC hG2 hown2 hgrow2 hat2
        go_wp2
        go_roundw
        case rel => exact ⟨j + 1, by omega, by go_num, HF.out.1, HF.out.2⟩
        case measure => simp [intOf]; omega
    · obtain rfl : j = n := by omega
      have HF : Hid (RefP wr (fun k => w.heap.size ≤ k ∧ k < wr.heap.size) w.heap.size (newP j) ∧ Below w.heap.size w wr) := ⟨hM.done hn, hT⟩
      clear hM hT
      go_wp2
      go_ret2
      exact ⟨w.heap.size, rfl, HF.out.1, HF.out.2⟩
end Go.Proofs.YtldkdoddklfdlaaGreatDoor

namespace Go.Proofs.YtldkdoddklfdlaaGreatDoor
set_option maxRecDepth 20000
open Go.RowKit

set_option maxRecDepth 100000 in
theorem blank12_eq : (⟨(Lib.repeatL (⟨#[0]⟩ : ByteArray).data.toList 12).toArray⟩ : ByteArray) = fillS 0 12 := by rfl
theorem jzeros_any (n : Nat) (hn : n = 12 ∨ n = 512) (w : World) : Calls Tryz.prog 81 #[.int .i64 (n : Int)] w fun e w' => e = .returned (.string (fillS 0 n)) ∧ Below w.heap.size w w' := by
  have hr : ∀ w : World, Calls Tryz.prog 23 #[.string ⟨#[0]⟩, .int .i64 (n : Int)] w fun e w' => e = .returned (.string (fillS 0 n)) ∧ Below w.heap.size w w' := fun w => by
    rcases hn with rfl | rfl
    · have h := Any.strings_Repeat pl_lays105 pl_Builder_Extra_105 ⟨#[0]⟩ 12 w (by decide) (by decide)
      rw [blank12_eq] at h
      exact h
    · have h := Any.strings_Repeat pl_lays105 pl_Builder_Extra_105 ⟨#[0]⟩ 512 w (by decide) (by decide)
      rw [blank512_eq] at h
      exact h
  generalize fillS 0 n = z at *
  clear hn
  go_enter Tryz.func81, Tryz.ntmps81
  go_wp2_with fail
  refine (hr _).mono ?_
  rintro e w1 ⟨rfl, hb⟩
  have HB : Hid _ := hb
  clear hb hr
  go_wp2
  go_ret
  exact ⟨rfl, HB.out⟩
theorem blank_ret (tmps : Array Value) (g : Nat) (w' : World) (cs : Array Value) (R : Ending → World → Prop) (h1 : tmps.getD 2 undef = .pointer (some ⟨g, 0, none⟩)) (hg : w'.heap[g]? = some (.cells cs 27 (0, 0))) (hs : cs.size = 2) (hR : R (.returned (.agg cs)) w') :
    bodyPost Tryz.prog Tryz.f45 R .ret { tmps := tmps, defers := [] } w' :=
  bodyPost_ret (v := .agg cs) (results_cell_row Tryz.results45 tmps w' g 27 cs (0, 0) _ h1 hg Tryz.underlying27 rfl (by rw [hs]; kernel_rfl)) rfl hR
set_option maxHeartbeats 4000000 in
theorem jblank_any (a : Int) (w : World) : Calls Tryz.prog 45 #[.int .i64 a] w fun e w' => e = .returned (.agg #[.int .i64 a, .string (fillS 0 512)]) ∧ Below w.heap.size w w' := by
  have hz := fun w => jzeros_any 512 (.inr rfl) w
  generalize fillS 0 512 = z at *
  go_enter Tryz.func45, Tryz.ntmps45
  go_wp2_with fail
  refine (hz _).mono ?_
  rintro e w1 ⟨rfl, hb1⟩
  have g0 := (hb1.block w.heap.size (by simp)).trans (heap_alloc_new w _)
  have hbw : Below w.heap.size w w1 := (below_new w _).trans (hb1.mono (by simp))
  clear hb1 hz
  go_wp2_with (refine wpList_store_row rfl 27 _ _ rfl w.heap.size #[.int .i64 a, .string z] rfl rfl 27 _ g0 (by kernel_rfl) rfl (by simp [Value.oneCell']) ?_)
  exact blank_ret _ w.heap.size _ #[.int .i64 a, .string z] _ rfl (setRow_heap _ _ _ _ _ _ g0) rfl ⟨rfl, hbw.trans ⟨rfl, rfl, rfl, by simp [World.setRow], fun k hk => setRow_other _ _ _ _ (by omega)⟩⟩
set_option maxHeartbeats 4000000 in
theorem isOf_any (p : Value) (sc : Int) (s : Sp) (w : World) (hS : ∀ W, Below w.heap.size w W → Calls Tryz.prog 85 #[p] W fun e W' => e = .returned (.int .i64 sc) ∧ W' = W) :
    Calls Tryz.prog 40 #[p, .agg s.arr] w fun e w' => e = .returned (.bool (decide (loE sc = 0 ∧ loN sc = s.lv))) ∧ Below w.heap.size w w' := by
  obtain ⟨a0, a1, a2, a3, r⟩ := s
  simp only [Sp.arr]
  have hb0 : Below w.heap.size w (w.alloc (.cells #[.int .i64 a0, .int .i64 a1, .int .i64 a2, .int .i64 a3, .string r] 23)) := (Below.refl _ _).alloc (Nat.le_refl _) _
  have hl := live_any p sc (w.alloc (.cells #[.int .i64 a0, .int .i64 a1, .int .i64 a2, .int .i64 a3, .string r] 23)) fun W hW => hS W (hb0.trans (hW.mono hb0.size))
  have g0 := heap_alloc_new w (.cells #[.int .i64 a0, .int .i64 a1, .int .i64 a2, .int .i64 a3, .string r] 23)
  generalize loE sc = E at *
  generalize loN sc = N at *
  clear hS
  go_enter Tryz.func40, Tryz.ntmps40
  go_wp2_with fail
  refine hl.mono ?_
  rintro e w1 ⟨rfl, hb1⟩
  have g1 := (hb1.block w.heap.size (by simp)).trans g0
  have c3 : w1.cell? ⟨w.heap.size, 3, none⟩ = some (.int .i64 a3) := by simp [World.cell?, g1]
  have HB : Hid (Below w.heap.size w w1) := hb0.trans (hb1.mono hb0.size)
  clear hl hb0 hb1 g0 g1
  by_cases h1 : E = 0
  · subst h1
    by_cases h2 : N = a3
    · have h3 : (N == a3) = true := by simp [h2]
      go_wp2
      go_ret
      exact ⟨by simp, HB.out⟩
    · have h3 : (N == a3) = false := by simp [h2]
      go_wp2
      go_ret
      exact ⟨by simp, HB.out⟩
  · have h3 : (E == 0) = false := by simp [h1]
    go_wp2
    go_ret
    exact ⟨by simp [h1], HB.out⟩
set_option maxHeartbeats 4000000 in
theorem unseal_any (K : VK) (HK : VKOk K) (F : Nat → Prop) (S : K.σ) (s : Sp) (w : World) (hr : K.room S 0) (hl : K.lies w F S) :
    Calls Tryz.prog 41 #[K.v, .agg s.arr] w fun e w' => e = .returned (.int .i64 s.err) ∧ Below w.heap.size w w' := by
  have hp := fun w => super_any s.vol s.ep s.nx s.lv s.root w
  have hz := fun w => jzeros_any 12 (.inl rfl) w
  have hq := fun (w' : World) (hb : Below w.heap.size w w') => HK.probe F S w' hr (HK.below hl hb)
  have he : s.err = superE s.vol s.ep s.nx s.lv s.root := rfl
  rw [he]
  obtain ⟨a0, a1, a2, a3, r⟩ := s
  simp only [Sp.arr] at *
  generalize superE a0 a1 a2 a3 r = E at *
  generalize superS a0 a1 a2 a3 r = T at *
  generalize fillS 0 12 = Z at *
  generalize K.v = v at *
  clear hr hl he
  by_cases h1 : E = 0
  · subst h1
    go_enter Tryz.func41, Tryz.ntmps41
    go_wp2_with fail
    refine (hp _).mono ?_
    rintro e w1 ⟨rfl, hb1⟩
    have hbw : Below w.heap.size w w1 := (below_new w _).trans (hb1.mono (by simp))
    clear hb1 hp
    go_wp2_with fail
    refine (hz _).mono ?_
    rintro e w2 ⟨rfl, hb2⟩
    have hbx : Below w.heap.size w w2 := hbw.trans (hb2.mono hbw.size)
    clear hb2 hz hbw
    go_wp2_with fail
    refine (hq _ hbx).mono ?_
    rintro e w3 ⟨rfl, hb3⟩
    have HB : Hid (Below w.heap.size w w3) := hbx.trans (hb3.mono hbx.size)
    clear hb3 hbx hq
    go_wp2
    go_ret
    exact ⟨rfl, HB.out⟩
  · have h3 : (E != 0) = true := by simpa using h1
    go_enter Tryz.func41, Tryz.ntmps41
    go_wp2_with fail
    refine (hp _).mono ?_
    rintro e w1 ⟨rfl, hb1⟩
    have HB : Hid (Below w.heap.size w w1) := (below_new w _).trans (hb1.mono (by simp))
    clear hb1 hp hz hq h1
    go_wp2
    go_ret
    exact ⟨rfl, HB.out⟩
end Go.Proofs.YtldkdoddklfdlaaGreatDoor

namespace Go.Proofs.YtldkdoddklfdlaaGreatDoor
set_option maxRecDepth 20000
open Go.RowKit

theorem json_ret (tmps : Array Value) (g : Nat) (w' : World) (a : Int) (r : ByteArray) (y : Int) (R : Ending → World → Prop) (h1 : tmps.getD 6 undef = .pointer (some ⟨g, 0, none⟩)) (h2 : tmps.getD 7 undef = .int .i64 y) (hg : w'.heap[g]? = some (.cells #[.int .i64 a, .string r] 27 (0, 0))) (hR : R (.returned (.tuple #[.agg #[.int .i64 a, .string r], .int .i64 y])) w') :
    bodyPost Tryz.prog Tryz.f42 R .ret { tmps := tmps, defers := [] } w' := by
  have hr := run_loadVar_row (P := Tryz.prog) w' g 27 27 #[.int .i64 a, .string r] (0, 0) _ hg Tryz.underlying27 rfl (by kernel_rfl)
  simp at h1 h2
  exact bodyPost_ret (v := .tuple #[.agg #[.int .i64 a, .string r], .int .i64 y]) (by simp [results, Tryz.results42, asAddr, hr, h1, h2]) rfl hR
set_option maxHeartbeats 4000000 in
theorem superOn_in (p v : Value) (u : Bool) (a0 a1 a2 a3 : Int) (r R : ByteArray) (A E A' E' : Int) (R' : ByteArray) (P : World → Prop) (w : World) (hP : Stb w.heap.size P)
    (hup : ∀ W, Below w.heap.size w W → Calls Tryz.prog 49 #[p] W fun e W' => e = .returned (.bool u) ∧ W' = W)
    (hno : u = false → (∀ W, Below w.heap.size w W → P W) ∧ A' = 0 ∧ R' = ⟨#[]⟩ ∧ E' = 20)
    (hyes : u = true → A' = A ∧ R' = R ∧ E' = E ∧ ∀ W, Below w.heap.size w W → Calls Tryz.prog 5 #[v, .agg #[.int .i64 a0, .int .i64 a1, .int .i64 a2, .int .i64 a3, .string r]] W fun e w'' => e = .returned (.tuple #[.agg #[.int .i64 A, .string R], .int .i64 E]) ∧ P w'' ∧ Kept w.heap.size W w'' ∧ W.heap.size ≤ w''.heap.size) :
    Calls Tryz.prog 42 #[p, v, .agg #[.int .i64 a0, .int .i64 a1, .int .i64 a2, .int .i64 a3, .string r]] w fun e w' => e = .returned (.tuple #[.agg #[.int .i64 A', .string R'], .int .i64 E']) ∧ P w' := by
  have hb0 : Below w.heap.size w ((w.alloc (.cells #[.int .i64 a0, .int .i64 a1, .int .i64 a2, .int .i64 a3, .string r] 23)).alloc (.cells #[.int .i64 0, .string ⟨#[]⟩] 27)) := ((Below.refl _ _).alloc (Nat.le_refl _) _).alloc (by simp) _
  have hu := hup _ hb0
  cases u with
  | false =>
    obtain ⟨h1, rfl, rfl, rfl⟩ := hno rfl
    have HF : Hid _ := h1 _ hb0
    clear hyes hno hup h1 hP hb0
    go_enter Tryz.func42, Tryz.ntmps42
    go_wp2_with fail
    refine hu.mono ?_
    rintro e w1 ⟨rfl, rfl⟩
    clear hu
    go_wp2
    exact json_ret _ (w.heap.size + 1) _ 0 ⟨#[]⟩ 20 _ rfl rfl (heap_alloc2_new w _ _) ⟨rfl, HF.out⟩
  | true =>
    obtain ⟨rfl, rfl, rfl, h1⟩ := hyes rfl
    have hs := h1 _ hb0
    clear hyes hno hup h1
    go_enter Tryz.func42, Tryz.ntmps42
    go_wp2_with fail
    refine hu.mono ?_
    rintro e w1 ⟨rfl, rfl⟩
    clear hu
    go_wp2_with fail
    refine hs.mono ?_
    rintro e w2 ⟨rfl, hp2, hk2, hz2⟩
    have g2 : w2.heap[w.heap.size + 1]? = some (.cells #[.int .i64 0, .string ⟨#[]⟩] 27 (0, 0)) := (hk2 _ (by omega) (by simp)).trans (heap_alloc2_new w _ _)
    have HP2 : Hid (∀ cs, P (w2.setRow (w.heap.size + 1) cs)) := fun cs => hP _ _ hp2 (below_setRow (Below.refl _ _) (by omega) _)
    clear hs hp2 hk2 hz2 hb0
    go_wp2_with (refine wpList_store_row rfl 27 _ _ rfl (w.heap.size + 1) #[.int .i64 A', .string R'] rfl rfl 27 _ g2 (by kernel_rfl) rfl (by simp [Value.oneCell']) ?_)
    exact json_ret _ (w.heap.size + 1) _ A' R' E' _ rfl rfl (setRow_heap _ _ _ _ _ _ g2) ⟨rfl, HP2.out _⟩
/-- What superOn tells. -/
def sonE (P : PS) (s : Sp) : Int := if P.up then supE s else 20
def sonA (P : PS) (s : Sp) : Int := if P.up then supA s else 0
def sonR (K : VK) (P : PS) (S : K.σ) (s : Sp) : ByteArray := if P.up then supR K S s else ⟨#[]⟩
def sonS (K : VK) (P : PS) (S : K.σ) (s : Sp) : K.σ := if P.up then supP K S s else S
theorem superOn_any (K : VK) (HK : VKOk K) (F : Nat → Prop) (B : Nat) (P : PS) (S : K.σ) (s : Sp) (w : World) (h : Duo K w F B P S) (hr : K.room S 1) :
    Calls Tryz.prog 42 #[.pointer (some ⟨B, 0, none⟩), K.v, .agg s.arr] w fun e w' => e = .returned (.tuple #[.agg #[.int .i64 (sonA P s), .string (sonR K P S s)], .int .i64 (sonE P s)]) ∧ Duo K w' F B P (sonS K P S s) ∧ Touch F w w' := by
  refine h.vaultC (E := fun e => e = .returned (.tuple #[.agg #[.int .i64 (sonA P s), .string (sonR K P S s)], .int .i64 (sonE P s)])) fun F2 hl _ => ?_
  refine (superOn_in (.pointer (some ⟨B, 0, none⟩)) K.v P.up s.vol s.ep s.nx s.lv s.root (supR K S s) (supA s) (supE s) (sonA P s) (sonE P s) (sonR K P S s) (VOut K F2 w (sonS K P S s)) w (VOut.stb HK) (fun W hb => (h.below HK hb).up) (fun hu => ?_) (fun hu => ?_)).mono fun e w' ⟨h1, h2⟩ => ⟨h1, h2.lies HK, h2.2⟩
  · unfold sonS sonA sonR sonE
    rw [hu]
    exact ⟨fun W hb => VOut.start HK hl hb, rfl, rfl, rfl⟩
  · unfold sonS sonA sonR sonE
    rw [hu]
    refine ⟨rfl, rfl, rfl, fun W hb => ?_⟩
    exact jsuper_any K HK F2 S s hr (VOut.start HK hl hb) hb.size
theorem isOf_duo (K : VK) (HK : VKOk K) (F : Nat → Prop) (B : Nat) (P : PS) (S : K.σ) (s : Sp) (w : World) (h : Duo K w F B P S) :
    Calls Tryz.prog 40 #[.pointer (some ⟨B, 0, none⟩), .agg s.arr] w fun e w' => e = .returned (.bool (decide (loE (P.kept.length : Nat) = 0 ∧ loN (P.kept.length : Nat) = s.lv))) ∧ Below w.heap.size w w' :=
  isOf_any _ _ s w fun _ hb => (h.below HK hb).sectors
theorem unseal_duo (K : VK) (HK : VKOk K) (F : Nat → Prop) (B : Nat) (P : PS) (S : K.σ) (s : Sp) (w : World) (h : Duo K w F B P S) (hr : K.room S 0) :
    Calls Tryz.prog 41 #[K.v, .agg s.arr] w fun e w' => e = .returned (.int .i64 s.err) ∧ Below w.heap.size w w' :=
  h.lookC fun F2 hl => unseal_any K HK F2 S s w hr hl
end Go.Proofs.YtldkdoddklfdlaaGreatDoor

namespace Go.Proofs.YtldkdoddklfdlaaGreatDoor
set_option maxRecDepth 20000
open Go.RowKit

def folE : List (List Wt) → PS → Int
  | [], _ => 0
  | l :: r, S => if takeE l S = 0 then folE r (takeP l S) else takeE l S
def folP : List (List Wt) → PS → PS
  | [], S => S
  | l :: r, S => if takeE l S = 0 then folP r (takeP l S) else takeP l S
/-- Why steps ended, as an error. -/
def stopV (k : Int) (y : Int) : Value := .iface 182 (.agg #[.int .i64 k, .int .i64 y])
def total (ls : List (List Wt)) : Nat := (ls.map List.length).sum
theorem flush_wait (S : PS) : (flushP S).wait.length ≤ S.wait.length := by
  unfold flushP
  split
  · simp [settleP]
  · exact Nat.le_refl _
theorem take_wait : ∀ (l : List Wt) (S : PS), (takeP l S).wait.length ≤ S.wait.length + 8 * l.length
  | [], S => by have := flush_wait S; unfold takeP; simpa using this
  | x :: l, S => by
    have h := (bput_wait S x.at_ x.raw).1
    unfold takeP
    split
    · have := take_wait l (bputP S x.at_ x.raw); rw [List.length_cons]; omega
    · rw [List.length_cons]; omega
theorem Wts.touch2 {w w' : World} {v : Value} {l : List Wt} {F : Nat → Prop} (h : Wts w v l) (ht : Touch F w w') (ho : l ≠ [] → Wts.Out v F) : Wts w' v l := by
  by_cases hl : l = []
  · obtain ⟨oa, cap, rfl⟩ := h.form
    subst hl
    exact .inl ⟨oa, cap, rfl, rfl⟩
  · exact h.touch ht (ho hl)
/-- Steps that lie: a slice of slices of writes, none of them in F. -/
structure Steps (w : World) (F : Nat → Prop) (g o : Nat) (ls : List (List Wt)) : Prop where
  lt : g < w.heap.size
  out : ¬ F g
  el : ∀ i l, ls[i]? = some l → ∃ u, w.cell? ⟨g, o + i, none⟩ = some u ∧ Wts w u l ∧ (l ≠ [] → Wts.Out u F)
theorem Steps.touch {w w' : World} {F : Nat → Prop} {g o : Nat} {ls : List (List Wt)} (h : Steps w F g o ls) (ht : Touch F w w') : Steps w' F g o ls :=
  ⟨Nat.lt_of_lt_of_le h.lt ht.size, h.out, fun i l hl => by
    obtain ⟨u, h1, h2, h3⟩ := h.el i l hl
    exact ⟨u, (World.cell?_of_block (a := ⟨g, o + i, none⟩) (ht.2 g h.lt h.out)).trans h1, h2.touch2 ht h3, h3⟩⟩
/-- A list's block is not among what a plate has grown by. -/
theorem Wts.out_grow {w w' : World} {v : Value} {l : List Wt} {F : Nat → Prop} (h : Wts w v l) (ho : l ≠ [] → Wts.Out v F) (hl : l ≠ []) : Wts.Out v (grow F w w') := by
  rcases h with ⟨_, _, _, h⟩ | ⟨g, o, cap, e, hg, hx⟩
  · exact absurd h hl
  · intro g' o' len cap' e' hF
    have e2 := e'
    rw [e] at e'
    simp only [Value.slice.injEq, Option.some.injEq, Addr.mk.injEq] at e'
    obtain ⟨⟨rfl, _⟩, _⟩ := e'
    rcases hF with hF | hF
    · exact ho hl _ _ _ _ e hF
    · omega
/-- What follow tells: nothing, or why it ended. -/
def RetV (X : Int) (v : Value) : Prop := (v = .nilIface ∧ X = 0) ∨ ∃ k, ¬ X = 0 ∧ v = stopV k X
structure FoR (w : World) (F : Nat → Prop) (B : Nat) (ls : List (List Wt)) (S : PS) (j : Nat) (wr : World) (T : PS) : Prop where
  e : folE ls S = folE (ls.drop j) T
  p : folP ls S = folP (ls.drop j) T
  plate : Plate wr (grow F w wr) B T
  touch : Touch F w wr
  wait : T.wait.length + 8 * total (ls.drop j) ≤ 900000
theorem total_drop {ls : List (List Wt)} {j : Nat} (h : j < ls.length) : total (ls.drop j) = ls[j].length + total (ls.drop (j + 1)) := by
  unfold total
  rw [List.drop_eq_getElem_cons h, List.map_cons, List.sum_cons]
set_option maxHeartbeats 4000000 in
theorem follow_any (g o cap : Nat) (ls : List (List Wt)) (B : Nat) (F : Nat → Prop) (S : PS) (w : World) (hv : Steps w F g o ls) (hls : ls.length ≤ 1000) (hp : Plate w F B S) (hw : S.wait.length + 8 * total ls ≤ 900000) (hg : ErrT w) (hF : ¬ F 3) :
    Calls Tryz.prog 44 #[.pointer (some ⟨B, 0, none⟩), .slice (some ⟨g, o, none⟩) ls.length cap] w fun e w' => (∃ v, e = .returned v ∧ RetV (folE ls S) v) ∧ Plate w' (grow F w w') B (folP ls S) ∧ Touch F w w' := by
  obtain ⟨X, hX⟩ : ∃ X, X = folE ls S := ⟨_, rfl⟩
  obtain ⟨Y, hY⟩ : ∃ Y, Y = folP ls S := ⟨_, rfl⟩
  rw [← hX, ← hY]
  have HX : Hid (X = folE ls S ∧ Y = folP ls S) := ⟨hX, hY⟩
  have HV : Hid (Steps w F g o ls ∧ ErrT w ∧ ¬ F 3) := ⟨hv, hg, hF⟩
  have HI : Hid (FoR w F B ls S 0 w S) := ⟨rfl, rfl, hp.mono fun k _ h => .inl h, Touch.refl _ _, hw⟩
  clear hX hY hv hp hg hF hw
  go_enter Tryz.func44, Tryz.ntmps44
  go_wp2_with fail
  go_loopw [10] (fun iv wr => ∃ (j : Nat) (T : PS), j ≤ ls.length ∧ iv = .int .i64 (j : Int) ∧ Hid (FoR w F B ls S j wr T)) (fun iv _ => ls.length - (intOf iv).toNat)
  case atStart => exact ⟨0, S, Nat.zero_le _, rfl, HI⟩
  case round =>
    clear HI
    obtain ⟨j, T, hj, rfl, HR⟩ := hrel
    by_cases hlt : j < ls.length
    · have j1 : (j : Int) < ls.length := by omega
      obtain ⟨u, c0, hu, huo⟩ := (HV.out.1.touch HR.out.touch).el j _ (List.getElem?_eq_getElem hlt)
      have hgw := (HV.out.1.touch HR.out.touch).lt
      have hd : ls.drop j = ls[j] :: ls.drop (j + 1) := List.drop_eq_getElem_cons hlt
      have htd := total_drop hlt
      have HE : Hid ((X = folE (ls[j] :: ls.drop (j + 1)) T ∧ Y = folP (ls[j] :: ls.drop (j + 1)) T) ∧ folE ls S = folE (ls[j] :: ls.drop (j + 1)) T ∧ folP ls S = folP (ls[j] :: ls.drop (j + 1)) T) := by rw [← hd, HX.out.1, HX.out.2]; exact ⟨⟨HR.out.e, HR.out.p⟩, HR.out.e, HR.out.p⟩
      have HW : Hid (T.wait.length + 8 * (ls[j].length + total (ls.drop (j + 1))) ≤ 900000) := by rw [← htd]; exact HR.out.wait
      clear hd htd
      obtain ⟨u0, c00, hu0, huo0⟩ := HV.out.1.el j _ (List.getElem?_eq_getElem hlt)
      have huu : u0 = u := by
        have := (World.cell?_of_block (a := ⟨g, o + j, none⟩) (HR.out.touch.2 g HV.out.1.lt HV.out.1.out)).trans c00
        rw [c0] at this
        exact (Option.some.inj this).symm
      subst huu
      have hnE : ¬ grow F w wr 3 := fun h => by
        rcases h with h | h
        · exact HV.out.2.2 h
        · have := HV.out.2.1.lt; omega
      have htake : Calls Tryz.prog 83 #[u0, .pointer (some ⟨B, 0, none⟩)] wr fun e w' => e = .returned (.int .i64 (takeE ls[j] T)) ∧ Plate w' (grow (grow F w wr) wr w') B (takeP ls[j] T) ∧ Touch (grow F w wr) wr w' := by
        exact take_any u0 _ B _ T wr hu (fun hl => hu0.out_grow huo0 hl) HR.out.plate (by have := HW.out; omega) (HV.out.2.1.touch HR.out.touch HV.out.2.2) hnE
      clear hu huo c00 hu0 huo0 hnE
      have HTW := take_wait ls[j] T
      generalize ls[j] = l at *
      go_wp2_with fail
      refine htake.mono ?_
      rintro e w2 ⟨rfl, hp2, ht2⟩
      clear htake
      have H2 : Hid (Touch F w w2 ∧ Plate w2 (grow F w w2) B (takeP l T)) := ⟨HR.out.touch.trans ht2, hp2.mono fun k hk h => by
        rcases h with h | h
        · rcases h with h | h
          · exact .inl h
          · exact .inr ⟨h.1, hk⟩
        · exact .inr ⟨by have := HR.out.touch.size; omega, hk⟩⟩
      clear hp2 ht2
      by_cases hz : takeE l T = 0
      · have HF : Hid (FoR w F B ls S (j + 1) w2 (takeP l T)) := ⟨by rw [HE.out.2.1, folE, if_pos hz], by rw [HE.out.2.2, folP, if_pos hz], H2.out.2, H2.out.1, by have := HW.out; omega⟩
        rw [hz]
        clear HE H2
        go_wp2
        go_roundw
        case rel => exact ⟨j + 1, _, by omega, by go_num, HF⟩
        case measure => simp [intOf]; omega
      · have HF : Hid (X = takeE l T ∧ Y = takeP l T ∧ ¬ X = 0) := by rw [HE.out.1.1, HE.out.1.2, folE, folP, if_neg hz, if_neg hz]; exact ⟨rfl, rfl, hz⟩
        have hz1 : (takeE l T != 0) = true := by simpa using hz
        clear HE
        generalize takeE l T = y at *
        go_wp2
        go_ret
        exact ⟨⟨_, rfl, .inr ⟨(j : Int), HF.out.2.2, by rw [HF.out.1]; rfl⟩⟩, by rw [HF.out.2.1]; exact H2.out.2, H2.out.1⟩
    · have j1 : ¬ (j : Int) < ls.length := by omega
      have hd : ls.drop j = [] := List.drop_eq_nil_of_le (by omega)
      have HE : Hid (X = 0 ∧ Y = T) := by
        have e := HR.out.e
        have p := HR.out.p
        rw [hd] at e p
        rw [HX.out.1, HX.out.2, e, p]
        exact ⟨rfl, rfl⟩
      clear hd
      go_wp2
      go_ret
      exact ⟨⟨_, rfl, .inl ⟨rfl, HE.out.1⟩⟩, by rw [HE.out.2]; exact HR.out.plate, HR.out.touch⟩
end Go.Proofs.YtldkdoddklfdlaaGreatDoor

namespace Go.Proofs.YtldkdoddklfdlaaGreatDoor
set_option maxRecDepth 20000
open Go.RowKit Go.Extern.Stop Go.Stop Go.Extern

theorem is_typeOf (v : Value) (w : World) : (ReflectliteType.typeOf #[.iface 28 v]).run Tryz.prog w = .ok (.iface 241 (.agg #[.pointer (some ⟨6, 28, none⟩)])) w := by kernel_rfl
theorem is_comparable (w : World) : ((ReflectliteType.method fun t => do Rtype.noPackHeld "Comparable" t; pure (.bool (← typeInfo t).comparable)) #[.agg #[.pointer (some ⟨6, 28, none⟩)]]).run Tryz.prog w = .ok (.bool true) w := by kernel_rfl
theorem is_callComparable (w : World) : (callFunc 273 #[.agg #[.pointer (some ⟨6, 28, none⟩)]]).run Tryz.prog w = .ok (.value (.bool true)) w := by
  rw [@run_callFunc_extern Tryz.prog 273 _ (ReflectliteType.method fun t => do Rtype.noPackHeld "Comparable" t; pure (.bool (← typeInfo t).comparable)) Tryz.func273 (by kernel_rfl) (by kernel_rfl) (by kernel_rfl) (by kernel_rfl), is_comparable]
  rfl
theorem is_method (v : Value) (w : World) : (Go.method 489 241 v "Comparable").run Tryz.prog w = .ok (273, v) w := by kernel_rfl
theorem is_comp : (Tryz.prog.info? 28).map (·.comparable) = some true := by kernel_rfl
theorem is_noIsS (v : Value) (xT : TypeId) (w : World) : (Instr.typeAssert (.iface 182 v) xT 243 true).run Tryz.prog w = .ok (.tuple #[.nilIface, .bool false]) w := run_typeAssert_lacksB Tryz.underlying243 (by kernel_rfl) (by kernel_rfl) v xT w
theorem is_hasS (v : Value) (xT : TypeId) (w : World) : (Instr.typeAssert (.iface 182 v) xT 246 true).run Tryz.prog w = .ok (.tuple #[.iface 182 v, .bool true]) w := run_typeAssert_hasB Tryz.underlying246 (by kernel_rfl) v xT w
theorem is_noIsE (v : Value) (xT : TypeId) (w : World) : (Instr.typeAssert (.iface 28 v) xT 243 true).run Tryz.prog w = .ok (.tuple #[.nilIface, .bool false]) w := run_typeAssert_lacksB Tryz.underlying243 (by kernel_rfl) (by kernel_rfl) v xT w
theorem is_noUnE (v : Value) (xT : TypeId) (w : World) : (Instr.typeAssert (.iface 28 v) xT 246 true).run Tryz.prog w = .ok (.tuple #[.nilIface, .bool false]) w := run_typeAssert_lacksB Tryz.underlying246 (by kernel_rfl) (by kernel_rfl) v xT w
theorem is_noUnsE (v : Value) (xT : TypeId) (w : World) : (Instr.typeAssert (.iface 28 v) xT 248 true).run Tryz.prog w = .ok (.tuple #[.nilIface, .bool false]) w := run_typeAssert_lacksB Tryz.underlying248 (by kernel_rfl) (by kernel_rfl) v xT w
theorem is_methodUnwrap (x y : Int) (w : World) : (Go.method 489 182 (.agg #[.int .i64 x, .int .i64 y]) "Unwrap").run Tryz.prog w = .ok (270, .agg #[.int .i64 x, .int .i64 y]) w := by kernel_rfl
theorem junwrap_any (x y : Int) (w : World) : Calls Tryz.prog 270 #[.agg #[.int .i64 x, .int .i64 y]] w fun e w' => e = .returned (.iface 28 (.int .i64 y)) ∧ w' = w.alloc (.cells #[.int .i64 x, .int .i64 y] 182) := by
  go_enter Tryz.func270, Tryz.ntmps270
  go_wp2
  go_ret
  exact ⟨rfl, rfl⟩
set_option maxHeartbeats 4000000 in
theorem is_in (x y : Int) (w : World) :
    Calls Tryz.prog 114 #[.iface 182 (.agg #[.int .i64 x, .int .i64 y]), .iface 28 (.int .i64 20), .bool true] w fun e w' => e = .returned (.bool (y == 20)) ∧ w' = w.alloc (.cells #[.int .i64 x, .int .i64 y] 182) := by
  have f1 := is_noIsS
  have f2 := is_hasS
  have f3 := is_noIsE
  have f4 := is_noUnE
  have f5 := is_noUnsE
  have f6 := is_methodUnwrap
  have hty := run_eql_iface_types (P := Tryz.prog) 182 28 (.agg #[.int .i64 x, .int .i64 y]) (.int .i64 20) Tryz.underlying113 (by decide)
  have heq := fun W : World => Go.Lib.run_eql_iface_int (P := Tryz.prog) W (k := .i64) y 20 Tryz.underlying113 is_comp Tryz.underlying28
  go_enter Tryz.func114, Tryz.ntmps114
  go_wp2_with fail
  refine wp_loop_rounds 2 ?_
  rw [rounds_succ]
  go_wp2_with fail
  refine (junwrap_any x y _).mono ?_
  rintro e w1 ⟨rfl, rfl⟩
  cases hy : (y == 20) with
  | true =>
    go_wp2_with fail
    rw [rounds_succ]
    go_wp2
    go_ret
    exact ⟨by rw [hy]; rfl, rfl⟩
  | false =>
    go_wp2_with fail
    rw [rounds_succ]
    go_wp2
    go_ret
    exact ⟨by rw [hy]; rfl, rfl⟩
set_option maxHeartbeats 4000000 in
theorem is_any (x y : Int) (w : World) :
    Calls Tryz.prog 82 #[.iface 182 (.agg #[.int .i64 x, .int .i64 y]), .iface 28 (.int .i64 20)] w fun e w' => e = .returned (.bool (y == 20)) ∧ w' = w.alloc (.cells #[.int .i64 x, .int .i64 y] 182) := by
  have h8 := @run_callFunc_extern Tryz.prog 113 _ ReflectliteType.typeOf Tryz.func113 (by kernel_rfl) (by kernel_rfl) (by kernel_rfl) (by kernel_rfl)
  have h9 := is_callComparable
  have tT := is_typeOf
  have mR := is_method
  have hin := is_in x y
  generalize (y == 20) = q at *
  go_enter Tryz.func82, Tryz.ntmps82
  go_wp2_with fail
  refine (hin _).mono ?_
  rintro e w1 ⟨rfl, rfl⟩
  go_wp2
  go_ret
  exact ⟨rfl, rfl⟩
/-- What a call of journal tells whose steps ended so. -/
def ansE (y : Int) : Int := if y = 0 then 0 else if y = 20 then 20 else 1
theorem answer_any (X : Int) (v : Value) (hv : RetV X v) (w : World) :
    Calls Tryz.prog 43 #[v] w fun e w' => e = .returned (.int .i64 (ansE X)) ∧ Below w.heap.size w w' := by
  unfold ansE
  rcases hv with ⟨rfl, rfl⟩ | ⟨k, hX, rfl⟩
  · rw [if_pos rfl]
    go_enter Tryz.func43, Tryz.ntmps43
    go_wp2
    go_ret
    exact ⟨rfl, Below.refl _ _⟩
  · rw [if_neg hX]
    have his := is_any k X
    unfold stopV
    by_cases h20 : X = 20
    · rw [if_pos h20]
      rw [show (X == 20) = true by simp [h20]] at his
      clear hX h20
      go_enter Tryz.func43, Tryz.ntmps43
      go_wp2_with fail
      refine (his _).mono ?_
      rintro e w1 ⟨rfl, rfl⟩
      go_wp2
      go_ret
      exact ⟨rfl, (Below.refl _ _).alloc (Nat.le_refl _) _⟩
    · rw [if_neg h20]
      rw [show (X == 20) = false by simp [h20]] at his
      clear hX h20
      go_enter Tryz.func43, Tryz.ntmps43
      go_wp2_with fail
      refine (his _).mono ?_
      rintro e w1 ⟨rfl, rfl⟩
      go_wp2
      go_ret
      exact ⟨rfl, (Below.refl _ _).alloc (Nat.le_refl _) _⟩
end Go.Proofs.YtldkdoddklfdlaaGreatDoor

namespace Go.Proofs.YtldkdoddklfdlaaGreatDoor
set_option maxRecDepth 20000
open Go.Shelf Go.RowKit

def ct169_ren : Go.Shelf.Ren := ⟨fun | 169 => 61 | n => n, fun | 70 => 137 | 9 => 9 | 0 => 0 | 72 => 139 | 37 => 90 | 127 => 200 | 3 => 3 | 5 => 5 | n => n, fun | n => n⟩
theorem ct169 : Go.Proofs.Lays.n169 Tryz.prog ct169_ren := {
  mixed := by kernel_rfl
  f169 := Tryz.func61.trans (congrArg some (by kernel_rfl))
  t0 := Tryz.underlying0
  a0 := Tryz.isAgg0
  z0 := Tryz.sizeOf0
  v0 := Tryz.zeroValue0
  t3 := Tryz.underlying3
  a3 := Tryz.isAgg3
  z3 := Tryz.sizeOf3
  v3 := Tryz.zeroValue3
  t9 := Tryz.underlying9
  a9 := Tryz.isAgg9
  z9 := Tryz.sizeOf9
  v9 := Tryz.zeroValue9
  t37 := Tryz.underlying90
  a37 := Tryz.isAgg90
  z37 := Tryz.sizeOf90
  v37 := Tryz.zeroValue90
  t70 := Tryz.underlying137
  a70 := Tryz.isAgg137
  z70 := Tryz.sizeOf137
  v70 := Tryz.zeroValue137
  t72 := Tryz.underlying139
  a72 := Tryz.isAgg139
  z72 := Tryz.sizeOf139
  v72 := Tryz.zeroValue139
  t127 := Tryz.underlying200
  a127 := Tryz.isAgg200
  z127 := Tryz.sizeOf200
  v127 := Tryz.zeroValue200 }
theorem ct169_extra : Builder.Extra Tryz.prog ct169_ren := {
  sizeBuilder := by kernel_rfl
  liesBuilder := by kernel_rfl
  t5 := Tryz.underlying5
  a5 := Tryz.isAgg5
  z5 := Tryz.sizeOf5
  v5 := Tryz.zeroValue5
  infoByte := by kernel_rfl
  cellsByte := by kernel_rfl
  sizeByte := by kernel_rfl
  neB5 := by decide }
def ct166_ren : Go.Shelf.Ren := ⟨fun | 166 => 59 | 240 => 100 | 276 => 126 | n => n, fun | 0 => 0 | 3 => 3 | 4 => 4 | 9 => 9 | 20 => 20 | 37 => 90 | 70 => 137 | 72 => 139 | 75 => 113 | 164 => 229 | 5 => 5 | 80 => 76 | n => n, fun | n => n⟩
theorem ct166 : Go.Proofs.Lays.n166 Tryz.prog ct166_ren := {
  mixed := by kernel_rfl
  f166 := Tryz.func59.trans (congrArg some (by kernel_rfl))
  f240 := Tryz.func100.trans (congrArg some (by kernel_rfl))
  f276 := Tryz.func126.trans (congrArg some (by kernel_rfl))
  t0 := Tryz.underlying0
  a0 := Tryz.isAgg0
  z0 := Tryz.sizeOf0
  v0 := Tryz.zeroValue0
  t3 := Tryz.underlying3
  a3 := Tryz.isAgg3
  z3 := Tryz.sizeOf3
  v3 := Tryz.zeroValue3
  t4 := Tryz.underlying4
  a4 := Tryz.isAgg4
  z4 := Tryz.sizeOf4
  v4 := Tryz.zeroValue4
  t9 := Tryz.underlying9
  a9 := Tryz.isAgg9
  z9 := Tryz.sizeOf9
  v9 := Tryz.zeroValue9
  t20 := Tryz.underlying20
  a20 := Tryz.isAgg20
  z20 := Tryz.sizeOf20
  v20 := Tryz.zeroValue20
  t37 := Tryz.underlying90
  a37 := Tryz.isAgg90
  z37 := Tryz.sizeOf90
  v37 := Tryz.zeroValue90
  t70 := Tryz.underlying137
  a70 := Tryz.isAgg137
  z70 := Tryz.sizeOf137
  v70 := Tryz.zeroValue137
  t72 := Tryz.underlying139
  a72 := Tryz.isAgg139
  z72 := Tryz.sizeOf139
  v72 := Tryz.zeroValue139
  t75 := Tryz.underlying113
  a75 := Tryz.isAgg113
  z75 := Tryz.sizeOf113
  v75 := Tryz.zeroValue113
  t164 := Tryz.underlying229
  a164 := Tryz.isAgg229
  z164 := Tryz.sizeOf229
  v164 := Tryz.zeroValue229 }
theorem ct166_extra : Builder.Extra Tryz.prog ct166_ren := {
  sizeBuilder := by kernel_rfl
  liesBuilder := by kernel_rfl
  t5 := Tryz.underlying5
  a5 := Tryz.isAgg5
  z5 := Tryz.sizeOf5
  v5 := Tryz.zeroValue5
  infoByte := by kernel_rfl
  cellsByte := by kernel_rfl
  sizeByte := by kernel_rfl
  neB5 := by decide }
theorem ctString_any (B b : Nat) (l : List UInt8) (w : World) (h : Lib.IsBuilder 139 5 B b (Lib.byteCells l) w) (hBw : B ≤ w.heap.size) :
    Calls Tryz.prog 61 #[.pointer (some ⟨b, 0, none⟩)] w fun e w' => e = .returned (.string ⟨l.toArray⟩) ∧ Below B w w' := Any.Builder_String_any ct169 ct169_extra B b l w h hBw
end Go.Proofs.YtldkdoddklfdlaaGreatDoor

namespace Go.Proofs.YtldkdoddklfdlaaGreatDoor
set_option maxRecDepth 20000
open Go.Shelf Go.RowKit

def sh_laysM316_ren : Go.Shelf.Ren := ⟨fun | 316 => 175 | n => n, fun | 9 => 9 | 3 => 3 | 4 => 4 | 37 => 90 | 0 => 0 | 127 => 200 | 5 => 5 | n => n, fun | n => n⟩
theorem sh_laysM316 : Go.Proofs.LaysM.n316 Tryz.prog sh_laysM316_ren := {
  mixed := by kernel_rfl
  f316 := Tryz.func175.trans (congrArg some (by kernel_rfl))
  t0 := Tryz.underlying0
  a0 := Tryz.isAgg0
  z0 := Tryz.sizeOf0
  v0 := Tryz.zeroValue0
  t3 := Tryz.underlying3
  a3 := Tryz.isAgg3
  z3 := Tryz.sizeOf3
  v3 := Tryz.zeroValue3
  t4 := Tryz.underlying4
  a4 := Tryz.isAgg4
  z4 := Tryz.sizeOf4
  v4 := Tryz.zeroValue4
  t9 := Tryz.underlying9
  a9 := Tryz.isAgg9
  z9 := Tryz.sizeOf9
  v9 := Tryz.zeroValue9
  t37 := Tryz.underlying90
  a37 := Tryz.isAgg90
  z37 := Tryz.sizeOf90
  v37 := Tryz.zeroValue90
  t127 := Tryz.underlying200
  a127 := Tryz.isAgg200
  z127 := Tryz.sizeOf200
  v127 := Tryz.zeroValue200
  t5 := Tryz.underlying5
  a5 := Tryz.isAgg5
  z5 := Tryz.sizeOf5
  v5 := Tryz.zeroValue5
  i0 := by kernel_rfl
  i3 := by kernel_rfl
  i4 := by kernel_rfl
  i5 := by kernel_rfl
  i9 := by kernel_rfl
  i37 := by kernel_rfl
  i127 := by kernel_rfl }

theorem shSlClone_any (s : ByteArray) (w : World) (hs : s.size ≤ 281474976710656) :
    Calls Tryz.prog 175 #[.string s] w fun e w' => e = .returned (.string s) ∧ Below w.heap.size w w' := Any.stringslite_Clone sh_laysM316 s w hs
theorem shClone_any (s : ByteArray) (w : World) (hs : s.size ≤ 281474976710656) :
    Calls Tryz.prog 151 #[.string s] w fun e w' => e = .returned (.string s) ∧ Below w.heap.size w w' := by
  go_enter Tryz.func151, Tryz.ntmps151
  go_wp2_with fail
  refine (shSlClone_any s _ hs).mono ?_
  rintro e w1 ⟨rfl, hb⟩
  go_wp2
  go_ret
  exact ⟨rfl, hb⟩
end Go.Proofs.YtldkdoddklfdlaaGreatDoor

namespace Go.Proofs.YtldkdoddklfdlaaGreatDoor
set_option maxRecDepth 20000
open Go.RowKit Go.Shelf

def Bl (B b : Nat) (l : List UInt8) (w : World) : Prop := Lib.IsBuilder 139 5 B b (Lib.byteCells l) w
theorem ptWrite_any (B b : Nat) (l : List UInt8) (s : ByteArray) (w : World) (h : Bl B b l w) (hlen : l.length + s.size ≤ 140737488355328) (hBw : B ≤ w.heap.size) :
    Calls Tryz.prog 59 #[.pointer (some ⟨b, 0, none⟩), .string s] w fun e w' => e = .returned (.tuple #[.int .i64 s.size, .nilIface]) ∧ Bl B b (l ++ s.data.toList) w' ∧ Below B w w' := by
  refine (Any.Builder_WriteString ct166 ct166_extra B b (Lib.byteCells l) s w h (by rw [Lib.byteCells_length]; exact hlen) hBw).mono fun e w' ⟨he, hB, hb⟩ => ⟨by rw [he], .inr ?_, hb⟩
  have e : Lib.byteCells l ++ Lib.strCells s = Lib.byteCells (l ++ s.data.toList) := by simp [Lib.byteCells, Lib.strCells]
  rw [← e]
  exact hB
theorem pt_owns {w w' : World} {base : Nat} {e : TypeId} {size : Nat} {v : Value} {n : Nat} {xs : List Value} (h : w.ownsRow base e size v n xs) (hk : ∀ k, k < w.heap.size → w'.heap[k]? = w.heap[k]?) : w'.ownsRow base e size v n xs := by
  refine ⟨h.1, ?_⟩
  rcases h.2 with h0 | ⟨g, cap, cur, e, h0, hg, h1, h2, h3, h4⟩
  · exact .inl h0
  · exact .inr ⟨g, cap, cur, e, h0, (hk g (lt_of_block hg)).trans hg, h1, h2, h3, h4⟩
theorem Bl_keep {B b : Nat} {l : List UInt8} {w w' : World} (h : Bl B b l w) (hb : Below w.heap.size w w') : Bl B b l w' := by
  have hk : ∀ k, k < w.heap.size → w'.heap[k]? = w.heap[k]? := fun k hk => hb.block k hk
  rcases h with ⟨h1, v, h2, h3, h4⟩ | ⟨h1, v, h2, h3, h4⟩
  · exact .inl ⟨h1, v, (hk _ (lt_of_block h2)).trans h2, pt_owns h3 hk, h4⟩
  · exact .inr ⟨h1, v, (hk _ (lt_of_block h2)).trans h2, pt_owns h3 hk, h4⟩
theorem below_drewN {B : Nat} {w wr : World} (h : Below B w wr) : ∀ m, Below B w (wr.drewN m)
  | 0 => h
  | m + 1 => (below_drewN h m).drew
end Go.Proofs.YtldkdoddklfdlaaGreatDoor
