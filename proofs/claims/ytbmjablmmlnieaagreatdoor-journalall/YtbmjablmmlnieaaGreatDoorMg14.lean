/- plate's Flush and Start, and the two closures that they hand to settle. · A device behind block's Put, flushed, and spoilt: arithmetic; nothing of the program's calls. · Lists that came in: of numbers. · block's zeros at 512, and At: what an image has at an address. -/
import Derived.Test.YtbmjablmmlnieaaGreatDoorMg13
import Derived.Test.YtbmjablmmlnieaaGreatDoorMg04
import Derived.Deep.Slices
import Derived.WideShapes
import Derived.ProofKit
import Derived.ChangeOld
import Derived.Test.YtbmjablmmlnieaaGreatDoorMg10
import Derived.Test.YtbmjablmmlnieaaGreatDoorMg12
namespace Go.Proofs.YtbmjablmmlnieaaGreatDoor
set_option maxRecDepth 20000
open Go.RowKit

/-- A list of truth values that lies outside the blocks F. -/
def Bools (w : World) (F : Nat → Prop) (kv : Value) (l : List Bool) : Prop := (∃ oa cap, kv = .slice oa 0 cap ∧ l = []) ∨ ∃ g o cap, kv = .slice (some ⟨g, o, none⟩) l.length cap ∧ g < w.heap.size ∧ ¬ F g ∧ ∀ i b, l[i]? = some b → w.cell? ⟨g, o + i, none⟩ = some (.bool b)
theorem Bools.touch {w w' : World} {F : Nat → Prop} {kv : Value} {l : List Bool} (h : Bools w F kv l) (ht : Touch F w w') : Bools w' F kv l := by
  rcases h with h | ⟨g, o, cap, rfl, hg, hf, hc⟩
  · exact .inl h
  · exact .inr ⟨g, o, cap, rfl, Nat.lt_of_lt_of_le hg ht.size, hf, fun i b hi => by rw [World.cell?_of_block (a := ⟨g, o + i, none⟩) (ht.2 g hg hf)]; exact hc i b hi⟩
theorem Bools.mono {w : World} {F F' : Nat → Prop} {kv : Value} {l : List Bool} (h : Bools w F kv l) (hF : ∀ k, k < w.heap.size → F' k → F k) : Bools w F' kv l := by
  rcases h with h | ⟨g, o, cap, rfl, hg, hf, hc⟩
  · exact .inl h
  · exact .inr ⟨g, o, cap, rfl, hg, fun h => hf (hF g hg h), hc⟩
def lastsB (l : List Bool) (j : Nat) : Bool := l.getD j false

theorem flushFn (j : Nat) (w : World) : Calls Tryz.prog 125 #[.int .i64 (j : Int)] w fun e w' => e = .returned (.bool true) ∧ w' = w := by
  go_enter Tryz.func125, Tryz.ntmps125
  go_wp2
  go_ret
  exact ⟨rfl, rfl⟩

set_option maxHeartbeats 400000 in
theorem startFn (j P : Nat) (F : Nat → Prop) (kv : Value) (l : List Bool) (w : World) (hP : w.cell? ⟨P, 0, none⟩ = some kv) (hk : Bools w F kv l) : Calls Tryz.prog 45 #[.int .i64 (j : Int), .pointer (some ⟨P, 0, none⟩)] w fun e w' => e = .returned (.bool (lastsB l j)) ∧ w' = w := by
  rcases hk with ⟨oa, cap, rfl, rfl⟩ | ⟨g, o, cap, rfl, hg, hf, hc⟩
  · have e : lastsB [] j = false := rfl
    rw [e]
    have h1 : ¬ (j : Int) < 0 := by omega
    go_enter Tryz.func45, Tryz.ntmps45
    go_wp2
    go_ret
    exact ⟨rfl, rfl⟩
  · by_cases hj : j < l.length
    · have h1 : (j : Int) < (l.length : Nat) := by omega
      have e : lastsB l j = l[j] := by simp [lastsB, hj]
      rw [e]
      have c := hc j _ (List.getElem?_eq_getElem hj)
      generalize l[j] = b at *
      clear hc
      go_enter Tryz.func45, Tryz.ntmps45
      go_wp2
      go_ret
      exact ⟨rfl, rfl⟩
    · have h1 : ¬ (j : Int) < (l.length : Nat) := by omega
      have e : lastsB l j = false := by simp [lastsB, hj]
      rw [e]
      clear hc
      go_enter Tryz.func45, Tryz.ntmps45
      go_wp2
      go_ret
      exact ⟨rfl, rfl⟩

def flushE (S : PS) : Int := if S.up = true then 0 else 20
def flushP (S : PS) : PS := if S.up = true then settleP (fun _ => true) S else S
def startP (l : List Bool) (S : PS) : PS := { settleP (lastsB l) S with fuse := -1, up := true }

set_option maxHeartbeats 400000 in
theorem flush_any (B : Nat) (F : Nat → Prop) (S : PS) (w : World) (hp : Plate w F B S) (hw : S.wait.length ≤ 1000000) :
    Calls Tryz.prog 105 #[.pointer (some ⟨B, 0, none⟩)] w fun e w' => e = .returned (.int .i64 (flushE S)) ∧ Plate w' F B (flushP S) ∧ Touch F w w' := by
  have hs := settleF B F S (fun _ => true) w hp hw fun j w1 _ _ => flushFn j w1
  obtain ⟨K, N, wv, hp⟩ := hp
  have c4 := hp.c4
  cases hu : S.up
  · rw [hu] at c4
    have HF : Hid (flushE S = 20 ∧ Plate w F B (flushP S)) := ⟨by simp [flushE, hu], by simp only [flushP, hu]; exact ⟨K, N, wv, hp⟩⟩
    clear hp hu hs
    go_enter Tryz.func105, Tryz.ntmps105
    go_wp2
    go_ret
    exact ⟨by rw [HF.out.1]; rfl, HF.out.2, Touch.refl _ _⟩
  · rw [hu] at c4
    have HF : Hid (flushE S = 0 ∧ flushP S = settleP (fun _ => true) S) := ⟨by simp [flushE, hu], by simp only [flushP, hu, if_true]⟩
    clear hp hu
    go_enter Tryz.func105, Tryz.ntmps105
    go_wp2_with fail
    refine hs.mono ?_
    rintro e w1 ⟨rfl, h1, h2⟩
    clear hs
    go_wp2
    go_ret
    exact ⟨by rw [HF.out.1]; rfl, by rw [HF.out.2]; exact h1, h2⟩

set_option maxHeartbeats 1000000 in
theorem start_any (B : Nat) (F : Nat → Prop) (S : PS) (kv : Value) (l : List Bool) (w : World) (hp : Plate w F B S) (hw : S.wait.length ≤ 1000000) (hk : Bools w F kv l) :
    Calls Tryz.prog 21 #[.pointer (some ⟨B, 0, none⟩), kv] w fun e w' => e = .returned (.tuple #[]) ∧ Plate w' F B (startP l S) ∧ Touch F w w' := by
  have hp1 : Plate w (fun k => F k ∧ k < w.heap.size) B S := hp.mono fun k hk h => ⟨h, hk⟩
  have hb1 : Below w.heap.size w (w.alloc (.cells #[kv] 38)) := (Below.refl _ _).alloc (Nat.le_refl _) _
  have hp2 := hp1.below hb1
  have hk1 : Bools w (fun k => F k ∧ k < w.heap.size) kv l := hk.mono fun k _ h => h.1
  have hk2 : Bools (w.alloc (.cells #[kv] 38)) (fun k => F k ∧ k < w.heap.size) kv l := hk1.touch (Touch.of_below hb1)
  have hcP : (w.alloc (.cells #[kv] 38)).cell? ⟨w.heap.size, 0, none⟩ = some kv := cell_of_row _ _ _ _ _ _ (heap_alloc_new w _)
  have hsz : w.heap.size < (w.alloc (.cells #[kv] 38)).heap.size := by simp
  have hs := settleS B _ S (lastsB l) (.pointer (some ⟨w.heap.size, 0, none⟩)) _ hp2 hw fun j w1 _ ht => startFn j w.heap.size _ kv l w1 (by
    rw [World.cell?_of_block (a := ⟨w.heap.size, 0, none⟩) (ht.2 w.heap.size hsz (fun h => absurd h.2 (Nat.lt_irrefl _)))]
    exact hcP) (hk2.touch ht)
  have hsl : ∃ oa n cap, kv = .slice oa n cap := by
    rcases hk with ⟨oa, cap, e, _⟩ | ⟨g, o, cap, e, _⟩
    · exact ⟨_, _, _, e⟩
    · exact ⟨_, _, _, e⟩
  obtain ⟨oa, n, cap, rfl⟩ := hsl
  have HB : Hid (Below w.heap.size w (w.alloc (.cells #[.slice oa n cap] 38))) := hb1
  obtain ⟨w0, hw0⟩ : ∃ w0, w.alloc (.cells #[.slice oa n cap] 38) = w0 := ⟨_, rfl⟩
  rw [hw0] at hs HB
  clear hp hp1 hp2 hb1 hk hk1 hk2 hcP hsz
  go_enter Tryz.func21, Tryz.ntmps21
  go_wp2_with fail
  refine hs.mono ?_
  rintro e w1 ⟨rfl, h1, h2⟩
  clear hs
  obtain ⟨K, N, wv, h1⟩ := h1
  have c3 := h1.c3
  have f3 : w1.frozen? ⟨B, 3, none⟩ = false := h1.row.frozen 3
  have h3 := h1.setFuse (-1) (by omega)
  have t3 := h2.setCell B 3 (.int .i64 (-1)) (.inl h1.fB)
  obtain ⟨w3, hw3⟩ : ∃ w3, w1.setCell ⟨B, 3, none⟩ (.int .i64 (-1)) = w3 := ⟨_, rfl⟩
  rw [hw3] at h3 t3
  have c4 := h3.c4
  have f4 : w3.frozen? ⟨B, 4, none⟩ = false := h3.row.frozen 4
  have h4 := h3.setUp true
  have t4 := t3.setCell B 4 (.bool true) (.inl h1.fB)
  obtain ⟨w4, hw4⟩ : ∃ w4, w3.setCell ⟨B, 4, none⟩ (.bool true) = w4 := ⟨_, rfl⟩
  rw [hw4] at h4 t4
  have HF : Hid (Plate w4 F B (startP l S) ∧ Touch F w w4) := ⟨⟨K, N, wv, h4.mono fun k _ h => h.1⟩, ⟨(HB.out.mono (Nat.zero_le _)).trans t4.1, fun k hk hn => (t4.2 k (Nat.lt_of_lt_of_le hk HB.out.size) (fun h => hn h.1)).trans (HB.out.block k hk)⟩⟩
  clear h1 h2 h3 h4 t3 t4 HB
  go_wp2
  go_end0
  exact ⟨rfl, HF.out.1, HF.out.2⟩
end Go.Proofs.YtbmjablmmlnieaaGreatDoor

namespace Go.Proofs.YtbmjablmmlnieaaGreatDoor
set_option maxRecDepth 20000
open Go.RowKit

theorem keptAt_text (wait : List (Nat × ByteArray)) (kept : List ByteArray) (i : Nat) (hi : i < kept.length) : ∀ j, j ≤ wait.length → (keptAt (fun _ => true) wait kept j)[i]? = some ((textOf (wait.take j) i).getD kept[i])
  | 0, _ => by simp [keptAt, textOf, textR, hi]
  | j + 1, hj => by
    have ih := keptAt_text wait kept i hi j (by omega)
    have hl := keptAt_length (fun _ => true) wait kept j
    obtain ⟨p, hp⟩ : ∃ p, wait[j]? = some p := ⟨_, List.getElem?_eq_getElem (by omega)⟩
    obtain ⟨k, s⟩ := p
    have ht : wait.take (j + 1) = wait.take j ++ [(k, s)] := by rw [List.take_add_one, hp]; rfl
    rw [keptAt_step hp, if_pos rfl, ht, textOf_snoc]
    by_cases e : k = i
    · subst e
      rw [if_pos rfl, List.getElem?_set_self (by omega)]
      rfl
    · rw [if_neg e, List.getElem?_set_ne e]
      exact ih
/-- Behind a flush each sector is kept as it was read. -/
theorem flush_kept (S : PS) (hu : S.up = true) (i : Nat) (hi : i < S.kept.length) : (flushP S).kept[i]? = some ((textOf S.wait i).getD S.kept[i]) ∧ (flushP S).up = true ∧ (flushP S).wait = [] ∧ (flushP S).kept.length = S.kept.length := by
  have e : flushP S = settleP (fun _ => true) S := by unfold flushP; rw [if_pos hu]
  rw [e]
  refine ⟨?_, hu, rfl, keptAt_length _ _ _ _⟩
  have := keptAt_text S.wait S.kept i hi S.wait.length (Nat.le_refl _)
  rw [List.take_length] at this
  exact this
/-- What a device without writes that wait tells of a sector. -/
theorem kept_reads (S : PS) (hu : S.up = true) (hw : S.wait = []) (i : Nat) (s : ByteArray) (h : S.kept[i]? = some s) : readE S ((i : Nat) : Int) = (if s.size = 0 then 21 else 0) ∧ readS S ((i : Nat) : Int) = s := by
  have hi := (List.getElem?_eq_some_iff.1 h).1
  have hh : hasB S ((i : Nat) : Int) = true := by simp [hasB]; omega
  have hk : keptS S ((i : Nat) : Int) = s := by simp [keptS, h]
  have ht : textOf S.wait i = none := by rw [hw]; rfl
  unfold readE readS heldE heldS
  rw [if_pos hu, if_pos hh, if_pos hu, if_pos hh]
  simp only [Int.toNat_natCast, ht, hh, if_true, hk]
  exact ⟨by simp, rfl⟩
theorem spoil_kept (S : PS) (k : Nat) (hk : k < S.kept.length) (i : Nat) : (spoilP S (k : Nat)).kept[i]? = (if i = k then some ByteArray.empty else S.kept[i]?) ∧ (spoilP S (k : Nat)).up = S.up ∧ (spoilP S (k : Nat)).wait = S.wait := by
  have hh : hasB S ((k : Nat) : Int) = true := by simp [hasB]; omega
  unfold spoilP
  rw [if_pos hh]
  refine ⟨?_, rfl, rfl⟩
  show (S.kept.set ((k : Nat) : Int).toNat ByteArray.empty)[i]? = _
  rw [Int.toNat_natCast]
  by_cases e : i = k
  · subst e
    rw [if_pos rfl, List.getElem?_set_self hk]
  · rw [if_neg e, List.getElem?_set_ne (fun h => e h.symm)]
end Go.Proofs.YtbmjablmmlnieaaGreatDoor

namespace Go.Proofs.YtbmjablmmlnieaaGreatDoor
set_option maxRecDepth 20000
open Go.ChangeShapes Go.WideShapes Go.RowKit Go.Deep

theorem cell_kept_1 {w w' : World} {b : Nat} (h : w'.heap[b]? = w.heap[b]?) (i : Nat) : w'.cell? ⟨b, i, none⟩ = w.cell? ⟨b, i, none⟩ := World.cell?_of_block (a := ⟨b, i, none⟩) h
/-- A list whose elements lie in one cell each. -/
def List1 {α : Type} (f : α → Value) (W : World) (v : Value) (l : List α) : Prop := (∃ oa cap, v = .slice oa 0 cap ∧ l = []) ∨ ∃ g o cap, v = .slice (some ⟨g, o, none⟩) l.length cap ∧ g < W.heap.size ∧ ∀ i x, l[i]? = some x → W.cell? ⟨g, o + i, none⟩ = some (f x)
theorem List1.form {α : Type} {f : α → Value} {W : World} {v : Value} {l : List α} (h : List1 f W v l) : ∃ oa cap, v = .slice oa l.length cap := by
  rcases h with ⟨oa, cap, rfl, rfl⟩ | ⟨g, o, cap, rfl, _⟩
  · exact ⟨oa, cap, rfl⟩
  · exact ⟨_, cap, rfl⟩
theorem List1.get {α : Type} {f : α → Value} {W : World} {oa : Option Addr} {cap : Nat} {l : List α} (h : List1 f W (.slice oa l.length cap) l) {i : Nat} (hi : i < l.length) : ∃ g o, oa = some ⟨g, o, none⟩ ∧ g < W.heap.size ∧ ∀ j x, l[j]? = some x → W.cell? ⟨g, o + j, none⟩ = some (f x) := by
  rcases h with ⟨oa', cap', e, rfl⟩ | ⟨g, o, cap', e, hg, hx⟩
  · simp at hi
  · simp only [Value.slice.injEq] at e
    exact ⟨g, o, e.1, hg, hx⟩
section
variable {H : Type} {enc : TypeId × Value → H} {W : World}
theorem list1_of_trod {α : Type} {f : α → Value} {P : α → Prop} {t e : TypeId} (hu : Tryz.prog.underlying t = some (.slice e)) (hc : Tryz.prog.cellsOf e = 1) (hr : ∀ n c x, DataW.trod enc Tryz.prog W 0 (fun _ => true) true n e [c] = some x → ∃ a, c = f a ∧ P a)
    {v : Value} {d : DataW H} {p : List MemPlace} {base : Nat} (hok : Value.okWide Tryz.prog W .any base t v) (h : DataW.Trod enc Tryz.prog W 0 (fun _ => true) true t v d p) : ∃ l, List1 f W v l ∧ ∀ x ∈ l, P x := by
  obtain ⟨a0, len, cap, rfl⟩ := okWide_slice hu hok
  obtain ⟨fuel, hf⟩ := h
  have hlt := DataW.trod_lt fuel _ _ _ hf
  rcases open_slice1 hu hc hf with ⟨hcs, hx⟩ | ⟨a, len', cap', m, n, V, D, Pl, hcs, _, hl, hm, hmm, hx0, hx⟩
  · simp [Value.cells] at hcs
    obtain ⟨rfl, rfl, rfl⟩ := hcs
    exact ⟨[], .inl ⟨none, 0, rfl, rfl⟩, by simp⟩
  · simp [Value.cells] at hcs
    obtain ⟨rfl, rfl, rfl⟩ := hcs
    simp only [if_true] at hmm
    by_cases h0 : len = 0
    · subst h0; exact ⟨[], .inl ⟨_, _, rfl, rfl⟩, by simp⟩
    simp only [Prod.mk.injEq] at hx0
    obtain ⟨hd0, hp0⟩ := hx0
    have hV : ∀ i, i < len → ∃ b : α, W.cell? (a.add i) = some (f b) ∧ P b := fun i hi => by
      obtain ⟨h1, h2⟩ := hx i (by omega)
      obtain ⟨b, hb, hp⟩ := hr _ _ _ h2
      exact ⟨b, by rw [h1, hb], hp⟩
    haveI : Inhabited α := ⟨(hV 0 (by omega)).choose⟩
    obtain ⟨F, hF⟩ := choose_lt hV
    obtain ⟨b, off, spot⟩ := a
    have hspot : spot = none := by simpa [Addr.add] using World.cell?_spot (hF 0 (by omega)).1
    subst hspot
    have hbW : b < W.heap.size := hlt (.cell b off) (by rw [hp0]; exact List.mem_append_left _ (MemPlace.mem_row.2 ⟨0, by omega, by simp⟩))
    refine ⟨(List.range len).map F, .inr ⟨b, off, cap, by simp, hbW, fun i u hu => ?_⟩, fun x hx => ?_⟩
    · rw [List.getElem?_map] at hu
      have hi : i < len := by
        by_cases hi : i < len
        · exact hi
        · rw [List.getElem?_eq_none (by simp; omega)] at hu; cases hu
      rw [List.getElem?_range hi] at hu
      simp only [Option.map_some, Option.some.injEq] at hu
      rw [← hu]
      have hadd : (⟨b, off, none⟩ : Addr).add i = ⟨b, off + i, none⟩ := by unfold Addr.add; split <;> simp_all
      rw [← hadd]
      exact (hF i hi).1
    · obtain ⟨i, hi, rfl⟩ := List.mem_map.1 hx
      exact (hF i (List.mem_range.1 hi)).2
theorem ints_of_trod {v : Value} {d : DataW H} {p : List MemPlace} {base : Nat} (hok : Value.okWide Tryz.prog W .any base 58 v) (h : DataW.Trod enc Tryz.prog W 0 (fun _ => true) true 58 v d p) : ∃ l, List1 (Value.int .i64) W v l ∧ ∀ x ∈ l, (Lit.int .i64 x).wf = true := by
  exact list1_of_trod (f := Value.int .i64) (P := fun x => (Lit.int .i64 x).wf = true) Tryz.underlying58 (by kernel_rfl) (fun n c x hx => by
    obtain ⟨b, hb, _, hw⟩ := DataW.trod_int Tryz.underlying3 hx
    simp only [List.cons.injEq, and_true] at hb
    exact ⟨b, hb, hw⟩) hok h
theorem wf_int {x : Int} (h : (Lit.int .i64 x).wf = true) : -9223372036854775808 ≤ x ∧ x < 9223372036854775808 := by
  simp [Lit.wf, IntKind.min, IntKind.max, IntKind.signed, IntKind.bits] at h
  omega
end
end Go.Proofs.YtbmjablmmlnieaaGreatDoor

namespace Go.Proofs.YtbmjablmmlnieaaGreatDoor
set_option maxRecDepth 20000
open Go.RowKit

theorem repeatL_one : ∀ n : Nat, Lib.repeatL ([0] : List UInt8) n = List.replicate n 0
  | 0 => rfl
  | n + 1 => by
    rw [List.replicate_succ, ← repeatL_one n]
    rfl
theorem blank512_eq : (⟨(Lib.repeatL (⟨#[0]⟩ : ByteArray).data.toList 512).toArray⟩ : ByteArray) = fillS 0 512 := by
  rw [show (⟨#[0]⟩ : ByteArray).data.toList = ([0] : List UInt8) from rfl, repeatL_one]
  unfold fillS strOfNums
  rw [List.map_replicate, List.map_replicate]
  rfl
theorem zeros512_any (w : World) : Calls Tryz.prog 50 #[.int .i64 512] w fun e w' => e = .returned (.string (fillS 0 512)) ∧ Below w.heap.size w w' := by
  have hr : ∀ w, Calls Tryz.prog 26 #[.string ⟨#[0]⟩, .int .i64 512] w fun e w' => e = .returned (.string (fillS 0 512)) ∧ Below w.heap.size w w' := fun w => by
    have h := Any.strings_Repeat pl_lays105 pl_Builder_Extra_105 ⟨#[0]⟩ 512 w (by decide) (by decide)
    rw [blank512_eq] at h
    exact h
  generalize fillS 0 512 = z at *
  go_enter Tryz.func50, Tryz.ntmps50
  go_wp2_with fail
  refine (hr _).mono ?_
  rintro e w1 ⟨rfl, hb⟩
  have HB : Hid _ := hb
  clear hb hr
  go_wp2
  go_ret
  exact ⟨rfl, HB.out⟩
/-- What an image has at an address. -/
def atB (raws : List ByteArray) (masks : List Int) (a : Int) : Bool := decide (0 ≤ a ∧ a < (raws.length : Nat) ∧ a < (masks.length : Nat) ∧ (raws.getD a.toNat ⟨#[]⟩).size = 512)
def atS (raws : List ByteArray) (masks : List Int) (a : Int) : ByteArray := if atB raws masks a then raws.getD a.toNat ⟨#[]⟩ else fillS 0 512
def atM (raws : List ByteArray) (masks : List Int) (a : Int) : Int := if atB raws masks a then masks.getD a.toNat 0 else 255
set_option maxHeartbeats 4000000 in
theorem at_any (w : World) (oa ob : Option Addr) (ca cb : Nat) (raws : List ByteArray) (masks : List Int) (a : Int) (h1 : List1 Value.string w (.slice oa raws.length ca) raws) (h2 : List1 (Value.int .i64) w (.slice ob masks.length cb) masks) :
    Calls Tryz.prog 24 #[.agg #[.slice oa raws.length ca, .slice ob masks.length cb], .int .i64 a] w fun e w' => e = .returned (.tuple #[.string (atS raws masks a), .int .i64 (atM raws masks a)]) ∧ Below w.heap.size w w' := by
  have hb0 : Below w.heap.size w (w.alloc (.cells #[.slice oa raws.length ca, .slice ob masks.length cb] 60)) := (Below.refl _ _).alloc (Nat.le_refl _) _
  have hr0 : Row (w.alloc (.cells #[.slice oa raws.length ca, .slice ob masks.length cb] 60)) w.heap.size 60 [.slice oa raws.length ca, .slice ob masks.length cb] := heap_alloc_new w _
  obtain ⟨rl, hrl⟩ : ∃ rl, rl = raws.length := ⟨_, rfl⟩
  obtain ⟨ml, hml⟩ : ∃ ml, ml = masks.length := ⟨_, rfl⟩
  have HL : Hid (rl = raws.length ∧ ml = masks.length) := ⟨hrl, hml⟩
  have H12 : Hid (List1 Value.string w (.slice oa raws.length ca) raws ∧ List1 (Value.int .i64) w (.slice ob masks.length cb) masks) := ⟨h1, h2⟩
  rw [← hrl, ← hml] at hb0 hr0 ⊢
  have hz := fun w => zeros512_any w
  obtain ⟨z, hzz⟩ : ∃ z, z = fillS 0 512 := ⟨_, rfl⟩
  have HZ : Hid (z = fillS 0 512) := hzz
  rw [← hzz] at hz
  clear hzz h1 h2
  obtain ⟨w1, hw1⟩ : ∃ w1, w.alloc (.cells #[.slice oa rl ca, .slice ob ml cb] 60) = w1 := ⟨_, rfl⟩
  rw [hw1] at hb0 hr0
  have c0 : w1.cell? ⟨w.heap.size, 0, none⟩ = some (.slice oa rl ca) := hr0.cell 0
  have c1 : w1.cell? ⟨w.heap.size, 1, none⟩ = some (.slice ob ml cb) := hr0.cell 1
  have HB0 : Hid (Below w.heap.size w w1) := hb0
  by_cases hin : 0 ≤ a ∧ a < (rl : Nat) ∧ a < (ml : Nat)
  · obtain ⟨i, rfl⟩ : ∃ i : Nat, a = i := ⟨a.toNat, by omega⟩
    obtain ⟨x, hx⟩ : ∃ x, raws[i]? = some x := ⟨_, List.getElem?_eq_getElem (by omega)⟩
    obtain ⟨y, hy⟩ : ∃ y, masks[i]? = some y := ⟨_, List.getElem?_eq_getElem (by omega)⟩
    obtain ⟨g, o, rfl, hg, hxs⟩ := H12.out.1.get (i := i) (by omega)
    obtain ⟨g2, o2, rfl, hg2, hys⟩ := H12.out.2.get (i := i) (by omega)
    have d0 : w1.cell? ⟨g, o + i, none⟩ = some (.string x) := (cell_kept_1 (HB0.out.block g hg) _).trans (hxs i x hx)
    have d1 : w1.cell? ⟨g2, o2 + i, none⟩ = some (.int .i64 y) := (cell_kept_1 (HB0.out.block g2 hg2) _).trans (hys i y hy)
    have i1 : (i : Int) < (rl : Nat) := hin.2.1
    have i2 : (i : Int) < (ml : Nat) := hin.2.2
    have n1 : decide (rl ≤ i) = false := decide_eq_false (by omega)
    have n2 : decide (ml ≤ i) = false := decide_eq_false (by omega)
    have hwh := fun w => whole_any x w
    have hgd : raws.getD i ⟨#[]⟩ = x := by rw [List.getD_eq_getElem?_getD, hx]; rfl
    have hgm : masks.getD i 0 = y := by rw [List.getD_eq_getElem?_getD, hy]; rfl
    by_cases h512 : x.size = 512
    · have hyes : atB raws masks (i : Int) = true := decide_eq_true ⟨by omega, by rw [← hrl]; exact hin.2.1, by rw [← hml]; exact hin.2.2, by rw [Int.toNat_natCast, hgd]; exact h512⟩
      have HF : Hid (atS raws masks (i : Int) = x ∧ atM raws masks (i : Int) = y) := ⟨by unfold atS; rw [hyes, Int.toNat_natCast, hgd]; rfl, by unfold atM; rw [hyes, Int.toNat_natCast, hgm]; rfl⟩
      rw [HF.out.1, HF.out.2]
      rw [decide_eq_true h512] at hwh
      have hcl := fun w => clone_any x w (by omega)
      have HX : Hid (∀ w', Below w1.heap.size w1 w' → w'.cell? ⟨w.heap.size, 0, none⟩ = some (.slice (some ⟨g, o, none⟩) rl ca) ∧ w'.cell? ⟨w.heap.size, 1, none⟩ = some (.slice (some ⟨g2, o2, none⟩) ml cb) ∧ w'.cell? ⟨g, o + i, none⟩ = some (.string x) ∧ w'.cell? ⟨g2, o2 + i, none⟩ = some (.int .i64 y)) := fun w' hb => by
        have hz1 := HB0.out.size
        exact ⟨(cell_kept_1 (hb.block _ hr0.lt) _).trans c0, (cell_kept_1 (hb.block _ hr0.lt) _).trans c1, (cell_kept_1 (hb.block g (by omega)) _).trans d0, (cell_kept_1 (hb.block g2 (by omega)) _).trans d1⟩
      clear hrl hml hb0 hr0 hin hx hy hxs hys hgd hgm hyes h512 hz H12
      go_enter Tryz.func24, Tryz.ntmps24
      go_wp2_with fail
      refine (hwh _).mono ?_
      rintro e w2 ⟨rfl, rfl⟩
      clear hwh
      go_wp2_with fail
      go_region_held3 (fun w' => w'.cell? ⟨w.heap.size, 0, none⟩ = some (.slice (some ⟨g, o, none⟩) rl ca) ∧ w'.cell? ⟨w.heap.size, 1, none⟩ = some (.slice (some ⟨g2, o2, none⟩) ml cb) ∧ w'.cell? ⟨g, o + i, none⟩ = some (.string x) ∧ w'.cell? ⟨g2, o2 + i, none⟩ = some (.int .i64 y)) (first | exact hSc | exact ⟨c0, c1, d0, d1⟩ | simp [go_sem, *]) (first | (go_at_call 52; refine (hcl _).mono ?_; rintro e wc ⟨rfl, hbc⟩; have hSc := HX.out wc ((Below.refl _ _).drew.trans hbc)))
      have HF2 : Hid (Below w.heap.size w wc) := HB0.out.drew.trans (hbc.mono HB0.out.size)
      clear hbc hSc HX hw1
      go_wp2
      go_ret2
      exact ⟨rfl, HF2.out⟩
    · have hno : atB raws masks (i : Int) = false := decide_eq_false fun h => h512 (by have := h.2.2.2; rwa [Int.toNat_natCast, hgd] at this)
      have HF : Hid (atS raws masks (i : Int) = z ∧ atM raws masks (i : Int) = 255) := ⟨by unfold atS; rw [hno, HZ.out]; rfl, by unfold atM; rw [hno]; rfl⟩
      rw [HF.out.1, HF.out.2]
      rw [decide_eq_false h512] at hwh
      clear hrl hml hb0 hr0 hin hx hy hxs hys hgd hgm hno h512 H12
      go_enter Tryz.func24, Tryz.ntmps24
      go_wp2_with fail
      refine (hwh _).mono ?_
      rintro e w2 ⟨rfl, rfl⟩
      clear hwh
      go_wp2_with fail
      refine (hz _).mono ?_
      rintro e w3 ⟨rfl, hb3⟩
      have HF2 : Hid (Below w.heap.size w w3) := HB0.out.trans (hb3.mono HB0.out.size)
      clear hb3 hz hw1
      go_wp2
      go_ret2
      exact ⟨rfl, HF2.out⟩
  · have hno : atB raws masks a = false := by
      refine decide_eq_false fun h => hin ⟨h.1, ?_, ?_⟩
      · rw [hrl]; exact h.2.1
      · rw [hml]; exact h.2.2.1
    have HF : Hid (atS raws masks a = z ∧ atM raws masks a = 255) := ⟨by unfold atS; rw [hno, HZ.out]; rfl, by unfold atM; rw [hno]; rfl⟩
    rw [HF.out.1, HF.out.2]
    clear hrl hml hno hb0 hr0
    by_cases ha0 : a < 0
    · clear hin
      go_enter Tryz.func24, Tryz.ntmps24
      go_wp2_with fail
      refine (hz _).mono ?_
      rintro e w2 ⟨rfl, hb2⟩
      have HF2 : Hid (Below w.heap.size w w2) := HB0.out.trans (hb2.mono HB0.out.size)
      clear hb2 hz
      go_wp2
      go_ret2
      exact ⟨rfl, HF2.out⟩
    · have n0 : decide (a < 0) = false := decide_eq_false ha0
      by_cases hr : (rl : Int) ≤ a
      · clear hin
        go_enter Tryz.func24, Tryz.ntmps24
        go_wp2_with fail
        refine (hz _).mono ?_
        rintro e w2 ⟨rfl, hb2⟩
        have HF2 : Hid (Below w.heap.size w w2) := HB0.out.trans (hb2.mono HB0.out.size)
        clear hb2 hz
        go_wp2
        go_ret2
        exact ⟨rfl, HF2.out⟩
      · have n1 : decide ((rl : Int) ≤ a) = false := decide_eq_false hr
        have n2 : (ml : Int) ≤ a := by omega
        clear hin
        go_enter Tryz.func24, Tryz.ntmps24
        go_wp2_with fail
        refine (hz _).mono ?_
        rintro e w2 ⟨rfl, hb2⟩
        have HF2 : Hid (Below w.heap.size w w2) := HB0.out.trans (hb2.mono HB0.out.size)
        clear hb2 hz
        go_wp2
        go_ret2
        exact ⟨rfl, HF2.out⟩
end Go.Proofs.YtbmjablmmlnieaaGreatDoor
