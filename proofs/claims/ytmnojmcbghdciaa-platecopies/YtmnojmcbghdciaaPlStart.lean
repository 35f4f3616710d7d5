/- plate's Flush and Start, and the two closures that they hand to settle. -/
import Derived.Test.YtmnojmcbghdciaaPlSettle
namespace Go.Proofs.Ytmnojmcbghdciaa
open Go.RowKit

/-- A list of truth values that lies outside the blocks F. -/
def Bools (w : World) (F : Nat → Prop) (kv : Value) (l : List Bool) : Prop := (∃ oa cap, kv = .slice oa 0 cap ∧ l = []) ∨ ∃ g o cap, kv = .slice (some ⟨g, o, none⟩) l.length cap ∧ g < w.heap.size ∧ ¬ F g ∧ ∀ i b, l[i]? = some b → w.cell? ⟨g, o + i, none⟩ = some (.bool b)
theorem Bools.touch {w w' : World} {F : Nat → Prop} {kv : Value} {l : List Bool} (h : Bools w F kv l) (ht : Touch F w w') : Bools w' F kv l := by
  rcases h with h | ⟨g, o, cap, rfl, hg, hf, hc⟩
  · exact .inl h
  · exact .inr ⟨g, o, cap, rfl, Nat.lt_of_lt_of_le hg ht.size, hf, fun i b hi => by rw [World.cell?_of_block (a := ⟨g, o + i, none⟩) (ht.2 g hg hf)]; exact hc i b hi⟩
theorem Bools.mono {w : World} {F F' : Nat → Prop} {kv : Value} {l : List Bool} (h : Bools w F kv l) (hF : ∀ k, k < w.heap.size → F' k → F k) : Bools w F' kv l := by
  rcases h with h | ⟨g, o, cap, rfl, hg, hf, hc⟩
  · exact .inl h
  · exact .inr ⟨g, o, cap, rfl, hg, fun h => hf (hF g hg h), hc⟩
def lastsB (l : List Bool) (j : Nat) : Bool := l.getD j false

theorem flushFn (j : Nat) (w : World) : Calls Try.prog 47 #[.int .i64 (j : Int)] w fun e w' => e = .returned (.bool true) ∧ w' = w := by
  go_enter Try.func47, Try.ntmps47
  go_wp2
  go_ret
  exact ⟨rfl, rfl⟩

set_option maxHeartbeats 400000 in
theorem startFn (j P : Nat) (F : Nat → Prop) (kv : Value) (l : List Bool) (w : World) (hP : w.cell? ⟨P, 0, none⟩ = some kv) (hk : Bools w F kv l) : Calls Try.prog 48 #[.int .i64 (j : Int), .pointer (some ⟨P, 0, none⟩)] w fun e w' => e = .returned (.bool (lastsB l j)) ∧ w' = w := by
  rcases hk with ⟨oa, cap, rfl, rfl⟩ | ⟨g, o, cap, rfl, hg, hf, hc⟩
  · have e : lastsB [] j = false := rfl
    rw [e]
    have h1 : ¬ (j : Int) < 0 := by omega
    go_enter Try.func48, Try.ntmps48
    go_wp2
    go_ret
    exact ⟨rfl, rfl⟩
  · by_cases hj : j < l.length
    · have h1 : (j : Int) < (l.length : Nat) := by omega
      have e : lastsB l j = l[j] := by simp [lastsB, hj]
      rw [e]
      have c := hc j _ (List.getElem?_eq_getElem hj)
      generalize l[j] = b at *
      clear hc
      go_enter Try.func48, Try.ntmps48
      go_wp2
      go_ret
      exact ⟨rfl, rfl⟩
    · have h1 : ¬ (j : Int) < (l.length : Nat) := by omega
      have e : lastsB l j = false := by simp [lastsB, hj]
      rw [e]
      clear hc
      go_enter Try.func48, Try.ntmps48
      go_wp2
      go_ret
      exact ⟨rfl, rfl⟩

def flushE (S : PS) : Int := if S.up = true then 0 else 20
def flushP (S : PS) : PS := if S.up = true then settleP (fun _ => true) S else S
def startP (l : List Bool) (S : PS) : PS := { settleP (lastsB l) S with fuse := -1, up := true }

set_option maxHeartbeats 400000 in
theorem flush_any (B : Nat) (F : Nat → Prop) (S : PS) (w : World) (hp : Plate w F B S) (hw : S.wait.length ≤ 1000000) :
    Calls Try.prog 19 #[.pointer (some ⟨B, 0, none⟩)] w fun e w' => e = .returned (.int .i64 (flushE S)) ∧ Plate w' F B (flushP S) ∧ Touch F w w' := by
  have hs := settleF B F S (fun _ => true) w hp hw fun j w1 _ _ => flushFn j w1
  obtain ⟨K, N, wv, hp⟩ := hp
  have c4 := hp.c4
  cases hu : S.up
  · rw [hu] at c4
    have HF : Hid (flushE S = 20 ∧ Plate w F B (flushP S)) := ⟨by simp [flushE, hu], by simp only [flushP, hu]; exact ⟨K, N, wv, hp⟩⟩
    clear hp hu hs
    go_enter Try.func19, Try.ntmps19
    go_wp2
    go_ret
    exact ⟨by rw [HF.out.1]; rfl, HF.out.2, Touch.refl _ _⟩
  · rw [hu] at c4
    have HF : Hid (flushE S = 0 ∧ flushP S = settleP (fun _ => true) S) := ⟨by simp [flushE, hu], by simp only [flushP, hu, if_true]⟩
    clear hp hu
    go_enter Try.func19, Try.ntmps19
    go_wp2_with fail
    refine hs.mono ?_
    rintro e w1 ⟨rfl, h1, h2⟩
    clear hs
    go_wp2
    go_ret
    exact ⟨by rw [HF.out.1]; rfl, by rw [HF.out.2]; exact h1, h2⟩

set_option maxHeartbeats 1000000 in
theorem start_any (B : Nat) (F : Nat → Prop) (S : PS) (kv : Value) (l : List Bool) (w : World) (hp : Plate w F B S) (hw : S.wait.length ≤ 1000000) (hk : Bools w F kv l) :
    Calls Try.prog 21 #[.pointer (some ⟨B, 0, none⟩), kv] w fun e w' => e = .returned (.tuple #[]) ∧ Plate w' F B (startP l S) ∧ Touch F w w' := by
  have hp1 : Plate w (fun k => F k ∧ k < w.heap.size) B S := hp.mono fun k hk h => ⟨h, hk⟩
  have hb1 : Below w.heap.size w (w.alloc (.cells #[kv] 31)) := (Below.refl _ _).alloc (Nat.le_refl _) _
  have hp2 := hp1.below hb1
  have hk1 : Bools w (fun k => F k ∧ k < w.heap.size) kv l := hk.mono fun k _ h => h.1
  have hk2 : Bools (w.alloc (.cells #[kv] 31)) (fun k => F k ∧ k < w.heap.size) kv l := hk1.touch (Touch.of_below hb1)
  have hcP : (w.alloc (.cells #[kv] 31)).cell? ⟨w.heap.size, 0, none⟩ = some kv := cell_of_row _ _ _ _ _ _ (heap_alloc_new w _)
  have hsz : w.heap.size < (w.alloc (.cells #[kv] 31)).heap.size := by simp
  have hs := settleS B _ S (lastsB l) (.pointer (some ⟨w.heap.size, 0, none⟩)) _ hp2 hw fun j w1 _ ht => startFn j w.heap.size _ kv l w1 (by
    rw [World.cell?_of_block (a := ⟨w.heap.size, 0, none⟩) (ht.2 w.heap.size hsz (fun h => absurd h.2 (Nat.lt_irrefl _)))]
    exact hcP) (hk2.touch ht)
  have hsl : ∃ oa n cap, kv = .slice oa n cap := by
    rcases hk with ⟨oa, cap, e, _⟩ | ⟨g, o, cap, e, _⟩
    · exact ⟨_, _, _, e⟩
    · exact ⟨_, _, _, e⟩
  obtain ⟨oa, n, cap, rfl⟩ := hsl
  have HB : Hid (Below w.heap.size w (w.alloc (.cells #[.slice oa n cap] 31))) := hb1
  obtain ⟨w0, hw0⟩ : ∃ w0, w.alloc (.cells #[.slice oa n cap] 31) = w0 := ⟨_, rfl⟩
  rw [hw0] at hs HB
  clear hp hp1 hp2 hb1 hk hk1 hk2 hcP hsz
  go_enter Try.func21, Try.ntmps21
  go_wp2_with fail
  refine hs.mono ?_
  rintro e w1 ⟨rfl, h1, h2⟩
  clear hs
  obtain ⟨K, N, wv, h1⟩ := h1
  have c3 := h1.c3
  have f3 : w1.frozen? ⟨B, 3, none⟩ = false := h1.row.frozen 3
  have h3 := h1.setFuse (-1) (by omega)
  have t3 := h2.setCell B 3 (.int .i64 (-1)) (.inl h1.fB)
  obtain ⟨w3, hw3⟩ : ∃ w3, w1.setCell ⟨B, 3, none⟩ (.int .i64 (-1)) = w3 := ⟨_, rfl⟩
  rw [hw3] at h3 t3
  have c4 := h3.c4
  have f4 : w3.frozen? ⟨B, 4, none⟩ = false := h3.row.frozen 4
  have h4 := h3.setUp true
  have t4 := t3.setCell B 4 (.bool true) (.inl h1.fB)
  obtain ⟨w4, hw4⟩ : ∃ w4, w3.setCell ⟨B, 4, none⟩ (.bool true) = w4 := ⟨_, rfl⟩
  rw [hw4] at h4 t4
  have HF : Hid (Plate w4 F B (startP l S) ∧ Touch F w w4) := ⟨⟨K, N, wv, h4.mono fun k _ h => h.1⟩, ⟨(HB.out.mono (Nat.zero_le _)).trans t4.1, fun k hk hn => (t4.2 k (Nat.lt_of_lt_of_le hk HB.out.size) (fun h => hn h.1)).trans (HB.out.block k hk)⟩⟩
  clear h1 h2 h3 h4 t3 t4 HB
  go_wp2
  go_end0
  exact ⟨rfl, HF.out.1, HF.out.2⟩
end Go.Proofs.Ytmnojmcbghdciaa
