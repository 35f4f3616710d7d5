/- plate's Flush and Start, and the two closures that they hand to settle. · A device behind block's Put, flushed, and spoilt: arithmetic; nothing of the program's calls. · A head that is loaded whole, and stored number by number. -/
import Derived.Test.YtdcooepeehamnaaGreatDoorPlSettle
import Derived.Test.YtdcooepeehamnaaGreatDoorBkBackMath
import Derived.Test.YtdcooepeehamnaaGreatDoorPut
namespace Go.Proofs.YtdcooepeehamnaaGreatDoor
set_option maxRecDepth 20000
open Go.RowKit

/-- A list of truth values that lies outside the blocks F. -/
def Bools (w : World) (F : Nat → Prop) (kv : Value) (l : List Bool) : Prop := (∃ oa cap, kv = .slice oa 0 cap ∧ l = []) ∨ ∃ g o cap, kv = .slice (some ⟨g, o, none⟩) l.length cap ∧ g < w.heap.size ∧ ¬ F g ∧ ∀ i b, l[i]? = some b → w.cell? ⟨g, o + i, none⟩ = some (.bool b)
theorem Bools.touch {w w' : World} {F : Nat → Prop} {kv : Value} {l : List Bool} (h : Bools w F kv l) (ht : Touch F w w') : Bools w' F kv l := by
  rcases h with h | ⟨g, o, cap, rfl, hg, hf, hc⟩
  · exact .inl h
  · exact .inr ⟨g, o, cap, rfl, Nat.lt_of_lt_of_le hg ht.size, hf, fun i b hi => by rw [World.cell?_of_block (a := ⟨g, o + i, none⟩) (ht.2 g hg hf)]; exact hc i b hi⟩
theorem Bools.mono {w : World} {F F' : Nat → Prop} {kv : Value} {l : List Bool} (h : Bools w F kv l) (hF : ∀ k, k < w.heap.size → F' k → F k) : Bools w F' kv l := by
  rcases h with h | ⟨g, o, cap, rfl, hg, hf, hc⟩
  · exact .inl h
  · exact .inr ⟨g, o, cap, rfl, hg, fun h => hf (hF g hg h), hc⟩
def lastsB (l : List Bool) (j : Nat) : Bool := l.getD j false

theorem flushFn (j : Nat) (w : World) : Calls Tryz.prog 52 #[.int .i64 (j : Int)] w fun e w' => e = .returned (.bool true) ∧ w' = w := by
  go_enter Tryz.func52, Tryz.ntmps52
  go_wp2
  go_ret
  exact ⟨rfl, rfl⟩

def flushE (S : PS) : Int := if S.up = true then 0 else 20
def flushP (S : PS) : PS := if S.up = true then settleP (fun _ => true) S else S
def startP (l : List Bool) (S : PS) : PS := { settleP (lastsB l) S with fuse := -1, up := true }

set_option maxHeartbeats 400000 in
theorem flush_any (B : Nat) (F : Nat → Prop) (S : PS) (w : World) (hp : Plate w F B S) (hw : S.wait.length ≤ 1000000) :
    Calls Tryz.prog 26 #[.pointer (some ⟨B, 0, none⟩)] w fun e w' => e = .returned (.int .i64 (flushE S)) ∧ Plate w' F B (flushP S) ∧ Touch F w w' := by
  have hs := settleF B F S (fun _ => true) w hp hw fun j w1 _ _ => flushFn j w1
  obtain ⟨K, N, wv, hp⟩ := hp
  have c4 := hp.c4
  cases hu : S.up
  · rw [hu] at c4
    have HF : Hid (flushE S = 20 ∧ Plate w F B (flushP S)) := ⟨by simp [flushE, hu], by simp only [flushP, hu]; exact ⟨K, N, wv, hp⟩⟩
    clear hp hu hs
    go_enter Tryz.func26, Tryz.ntmps26
    go_wp2
    go_ret
    exact ⟨by rw [HF.out.1]; rfl, HF.out.2, Touch.refl _ _⟩
  · rw [hu] at c4
    have HF : Hid (flushE S = 0 ∧ flushP S = settleP (fun _ => true) S) := ⟨by simp [flushE, hu], by simp only [flushP, hu, if_true]⟩
    clear hp hu
    go_enter Tryz.func26, Tryz.ntmps26
    go_wp2_with fail
    refine hs.mono ?_
    rintro e w1 ⟨rfl, h1, h2⟩
    clear hs
    go_wp2
    go_ret
    exact ⟨by rw [HF.out.1]; rfl, by rw [HF.out.2]; exact h1, h2⟩

end Go.Proofs.YtdcooepeehamnaaGreatDoor

namespace Go.Proofs.YtdcooepeehamnaaGreatDoor
set_option maxRecDepth 20000
open Go.RowKit

theorem keptAt_text (wait : List (Nat × ByteArray)) (kept : List ByteArray) (i : Nat) (hi : i < kept.length) : ∀ j, j ≤ wait.length → (keptAt (fun _ => true) wait kept j)[i]? = some ((textOf (wait.take j) i).getD kept[i])
  | 0, _ => by simp [keptAt, textOf, textR, hi]
  | j + 1, hj => by
    have ih := keptAt_text wait kept i hi j (by omega)
    have hl := keptAt_length (fun _ => true) wait kept j
    obtain ⟨p, hp⟩ : ∃ p, wait[j]? = some p := ⟨_, List.getElem?_eq_getElem (by omega)⟩
    obtain ⟨k, s⟩ := p
    have ht : wait.take (j + 1) = wait.take j ++ [(k, s)] := by rw [List.take_add_one, hp]; rfl
    rw [keptAt_step hp, if_pos rfl, ht, textOf_snoc]
    by_cases e : k = i
    · subst e
      rw [if_pos rfl, List.getElem?_set_self (by omega)]
      rfl
    · rw [if_neg e, List.getElem?_set_ne e]
      exact ih
/-- Behind a flush each sector is kept as it was read. -/
theorem flush_kept (S : PS) (hu : S.up = true) (i : Nat) (hi : i < S.kept.length) : (flushP S).kept[i]? = some ((textOf S.wait i).getD S.kept[i]) ∧ (flushP S).up = true ∧ (flushP S).wait = [] ∧ (flushP S).kept.length = S.kept.length := by
  have e : flushP S = settleP (fun _ => true) S := by unfold flushP; rw [if_pos hu]
  rw [e]
  refine ⟨?_, hu, rfl, keptAt_length _ _ _ _⟩
  have := keptAt_text S.wait S.kept i hi S.wait.length (Nat.le_refl _)
  rw [List.take_length] at this
  exact this
/-- What a device without writes that wait tells of a sector. -/
theorem kept_reads (S : PS) (hu : S.up = true) (hw : S.wait = []) (i : Nat) (s : ByteArray) (h : S.kept[i]? = some s) : readE S ((i : Nat) : Int) = (if s.size = 0 then 21 else 0) ∧ readS S ((i : Nat) : Int) = s := by
  have hi := (List.getElem?_eq_some_iff.1 h).1
  have hh : hasB S ((i : Nat) : Int) = true := by simp [hasB]; omega
  have hk : keptS S ((i : Nat) : Int) = s := by simp [keptS, h]
  have ht : textOf S.wait i = none := by rw [hw]; rfl
  unfold readE readS heldE heldS
  rw [if_pos hu, if_pos hh, if_pos hu, if_pos hh]
  simp only [Int.toNat_natCast, ht, hh, if_true, hk]
  exact ⟨by simp, rfl⟩
theorem spoil_kept (S : PS) (k : Nat) (hk : k < S.kept.length) (i : Nat) : (spoilP S (k : Nat)).kept[i]? = (if i = k then some ByteArray.empty else S.kept[i]?) ∧ (spoilP S (k : Nat)).up = S.up ∧ (spoilP S (k : Nat)).wait = S.wait := by
  have hh : hasB S ((k : Nat) : Int) = true := by simp [hasB]; omega
  unfold spoilP
  rw [if_pos hh]
  refine ⟨?_, rfl, rfl⟩
  show (S.kept.set ((k : Nat) : Int).toNat ByteArray.empty)[i]? = _
  rw [Int.toNat_natCast]
  by_cases e : i = k
  · subst e
    rw [if_pos rfl, List.getElem?_set_self hk]
  · rw [if_neg e, List.getElem?_set_ne (fun h => e h.symm)]
end Go.Proofs.YtdcooepeehamnaaGreatDoor

namespace Go.Proofs.YtdcooepeehamnaaGreatDoor
set_option maxRecDepth 20000
open Go.RowKit Go.Lib

theorem load_head (w : World) (g : Nat) (cs : Array Value) (hg : w.heap[g]? = some (.cells cs 46 (0, 0))) (hs : cs.size = 8) :
    (loadVar 46 ⟨g, 0, none⟩).run Tryz.prog w = .ok (.agg cs) w :=
  run_loadVar_row (P := Tryz.prog) w g 46 46 cs (0, 0) _ hg Tryz.underlying46 rfl (by rw [hs]; kernel_rfl)

theorem set8 (w : World) (g : Nat) (t : TypeId) (v0 v1 v2 v3 v4 v5 v6 v7 : Value) (h : w.heap[g]? = some (.cells #[.int .i64 0, .int .i64 0, .int .i64 0, .int .i64 0, .int .i64 0, .int .i64 0, .int .i64 0, .int .i64 0] t (0, 0))) :
    ((((((((w.setCell ⟨g, 0, none⟩ v0).setCell ⟨g, 1, none⟩ v1).setCell ⟨g, 2, none⟩ v2).setCell ⟨g, 3, none⟩ v3).setCell ⟨g, 4, none⟩ v4).setCell ⟨g, 5, none⟩ v5).setCell ⟨g, 6, none⟩ v6).setCell ⟨g, 7, none⟩ v7).heap[g]? = some (.cells #[v0, v1, v2, v3, v4, v5, v6, v7] t (0, 0)) := by
  have e0 := heap_setCell_same w g 0 _ t v0 h
  have e1 := heap_setCell_same _ g 1 _ t v1 e0
  have e2 := heap_setCell_same _ g 2 _ t v2 e1
  have e3 := heap_setCell_same _ g 3 _ t v3 e2
  have e4 := heap_setCell_same _ g 4 _ t v4 e3
  have e5 := heap_setCell_same _ g 5 _ t v5 e4
  have e6 := heap_setCell_same _ g 6 _ t v6 e5
  have e7 := heap_setCell_same _ g 7 _ t v7 e6
  exact e7.trans (by simp)
theorem below8 {w w0 : World} {g : Nat} (h : Below g w0 w) (v0 v1 v2 v3 v4 v5 v6 v7 : Value) : Below g w0 ((((((((w.setCell ⟨g, 0, none⟩ v0).setCell ⟨g, 1, none⟩ v1).setCell ⟨g, 2, none⟩ v2).setCell ⟨g, 3, none⟩ v3).setCell ⟨g, 4, none⟩ v4).setCell ⟨g, 5, none⟩ v5).setCell ⟨g, 6, none⟩ v6).setCell ⟨g, 7, none⟩ v7) :=
  (((((((h.setCell (p := ⟨g, 0, none⟩) (Nat.le_refl _) v0).setCell (p := ⟨g, 1, none⟩) (Nat.le_refl _) v1).setCell (p := ⟨g, 2, none⟩) (Nat.le_refl _) v2).setCell (p := ⟨g, 3, none⟩) (Nat.le_refl _) v3).setCell (p := ⟨g, 4, none⟩) (Nat.le_refl _) v4).setCell (p := ⟨g, 5, none⟩) (Nat.le_refl _) v5).setCell (p := ⟨g, 6, none⟩) (Nat.le_refl _) v6).setCell (p := ⟨g, 7, none⟩) (Nat.le_refl _) v7
end Go.Proofs.YtdcooepeehamnaaGreatDoor
