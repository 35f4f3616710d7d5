/- plate's Flush and Start, and the two closures that they hand to settle. · plate's New: a device of so many sectors, all of bytes 0, in blocks of its own. · The law's bytes (a byte, so many times), and its awake: chapter 4's first example. · The calls of one device in a law: it lies at or above a bound, and nothing below the bound is changed. · Owned slices that lie apart. · block's All: what stands on a device, block by block. -/
import Derived.Test.YtoopaigpjefonaaGreatDoorMg08
import Derived.Test.YtoopaigpjefonaaGreatDoorMg06
import Derived.Deep.OwnRows
import Derived.Test.YtoopaigpjefonaaGreatDoorMg07
import Derived.Deep.AppendLies
namespace Go.Proofs.YtoopaigpjefonaaGreatDoor
set_option maxRecDepth 20000
open Go.RowKit

/-- A list of truth values that lies outside the blocks F. -/
def Bools (w : World) (F : Nat → Prop) (kv : Value) (l : List Bool) : Prop := (∃ oa cap, kv = .slice oa 0 cap ∧ l = []) ∨ ∃ g o cap, kv = .slice (some ⟨g, o, none⟩) l.length cap ∧ g < w.heap.size ∧ ¬ F g ∧ ∀ i b, l[i]? = some b → w.cell? ⟨g, o + i, none⟩ = some (.bool b)
theorem Bools.touch {w w' : World} {F : Nat → Prop} {kv : Value} {l : List Bool} (h : Bools w F kv l) (ht : Touch F w w') : Bools w' F kv l := by
  rcases h with h | ⟨g, o, cap, rfl, hg, hf, hc⟩
  · exact .inl h
  · exact .inr ⟨g, o, cap, rfl, Nat.lt_of_lt_of_le hg ht.size, hf, fun i b hi => by rw [World.cell?_of_block (a := ⟨g, o + i, none⟩) (ht.2 g hg hf)]; exact hc i b hi⟩
theorem Bools.mono {w : World} {F F' : Nat → Prop} {kv : Value} {l : List Bool} (h : Bools w F kv l) (hF : ∀ k, k < w.heap.size → F' k → F k) : Bools w F' kv l := by
  rcases h with h | ⟨g, o, cap, rfl, hg, hf, hc⟩
  · exact .inl h
  · exact .inr ⟨g, o, cap, rfl, hg, fun h => hf (hF g hg h), hc⟩
def lastsB (l : List Bool) (j : Nat) : Bool := l.getD j false

theorem flushFn (j : Nat) (w : World) : Calls Tryz.prog 147 #[.int .i64 (j : Int)] w fun e w' => e = .returned (.bool true) ∧ w' = w := by
  go_enter Tryz.func147, Tryz.ntmps147
  go_wp2
  go_ret
  exact ⟨rfl, rfl⟩

set_option maxHeartbeats 400000 in
theorem startFn (j P : Nat) (F : Nat → Prop) (kv : Value) (l : List Bool) (w : World) (hP : w.cell? ⟨P, 0, none⟩ = some kv) (hk : Bools w F kv l) : Calls Tryz.prog 76 #[.int .i64 (j : Int), .pointer (some ⟨P, 0, none⟩)] w fun e w' => e = .returned (.bool (lastsB l j)) ∧ w' = w := by
  rcases hk with ⟨oa, cap, rfl, rfl⟩ | ⟨g, o, cap, rfl, hg, hf, hc⟩
  · have e : lastsB [] j = false := rfl
    rw [e]
    have h1 : ¬ (j : Int) < 0 := by omega
    go_enter Tryz.func76, Tryz.ntmps76
    go_wp2
    go_ret
    exact ⟨rfl, rfl⟩
  · by_cases hj : j < l.length
    · have h1 : (j : Int) < (l.length : Nat) := by omega
      have e : lastsB l j = l[j] := by simp [lastsB, hj]
      rw [e]
      have c := hc j _ (List.getElem?_eq_getElem hj)
      generalize l[j] = b at *
      clear hc
      go_enter Tryz.func76, Tryz.ntmps76
      go_wp2
      go_ret
      exact ⟨rfl, rfl⟩
    · have h1 : ¬ (j : Int) < (l.length : Nat) := by omega
      have e : lastsB l j = false := by simp [lastsB, hj]
      rw [e]
      clear hc
      go_enter Tryz.func76, Tryz.ntmps76
      go_wp2
      go_ret
      exact ⟨rfl, rfl⟩

def flushE (S : PS) : Int := if S.up = true then 0 else 20
def flushP (S : PS) : PS := if S.up = true then settleP (fun _ => true) S else S
def startP (l : List Bool) (S : PS) : PS := { settleP (lastsB l) S with fuse := -1, up := true }

set_option maxHeartbeats 400000 in
theorem flush_any (B : Nat) (F : Nat → Prop) (S : PS) (w : World) (hp : Plate w F B S) (hw : S.wait.length ≤ 1000000) :
    Calls Tryz.prog 115 #[.pointer (some ⟨B, 0, none⟩)] w fun e w' => e = .returned (.int .i64 (flushE S)) ∧ Plate w' F B (flushP S) ∧ Touch F w w' := by
  have hs := settleF B F S (fun _ => true) w hp hw fun j w1 _ _ => flushFn j w1
  obtain ⟨K, N, wv, hp⟩ := hp
  have c4 := hp.c4
  cases hu : S.up
  · rw [hu] at c4
    have HF : Hid (flushE S = 20 ∧ Plate w F B (flushP S)) := ⟨by simp [flushE, hu], by simp only [flushP, hu]; exact ⟨K, N, wv, hp⟩⟩
    clear hp hu hs
    go_enter Tryz.func115, Tryz.ntmps115
    go_wp2
    go_ret
    exact ⟨by rw [HF.out.1]; rfl, HF.out.2, Touch.refl _ _⟩
  · rw [hu] at c4
    have HF : Hid (flushE S = 0 ∧ flushP S = settleP (fun _ => true) S) := ⟨by simp [flushE, hu], by simp only [flushP, hu, if_true]⟩
    clear hp hu
    go_enter Tryz.func115, Tryz.ntmps115
    go_wp2_with fail
    refine hs.mono ?_
    rintro e w1 ⟨rfl, h1, h2⟩
    clear hs
    go_wp2
    go_ret
    exact ⟨by rw [HF.out.1]; rfl, by rw [HF.out.2]; exact h1, h2⟩

set_option maxHeartbeats 1000000 in
theorem start_any (B : Nat) (F : Nat → Prop) (S : PS) (kv : Value) (l : List Bool) (w : World) (hp : Plate w F B S) (hw : S.wait.length ≤ 1000000) (hk : Bools w F kv l) :
    Calls Tryz.prog 44 #[.pointer (some ⟨B, 0, none⟩), kv] w fun e w' => e = .returned (.tuple #[]) ∧ Plate w' F B (startP l S) ∧ Touch F w w' := by
  have hp1 : Plate w (fun k => F k ∧ k < w.heap.size) B S := hp.mono fun k hk h => ⟨h, hk⟩
  have hb1 : Below w.heap.size w (w.alloc (.cells #[kv] 24)) := (Below.refl _ _).alloc (Nat.le_refl _) _
  have hp2 := hp1.below hb1
  have hk1 : Bools w (fun k => F k ∧ k < w.heap.size) kv l := hk.mono fun k _ h => h.1
  have hk2 : Bools (w.alloc (.cells #[kv] 24)) (fun k => F k ∧ k < w.heap.size) kv l := hk1.touch (Touch.of_below hb1)
  have hcP : (w.alloc (.cells #[kv] 24)).cell? ⟨w.heap.size, 0, none⟩ = some kv := cell_of_row _ _ _ _ _ _ (heap_alloc_new w _)
  have hsz : w.heap.size < (w.alloc (.cells #[kv] 24)).heap.size := by simp
  have hs := settleS B _ S (lastsB l) (.pointer (some ⟨w.heap.size, 0, none⟩)) _ hp2 hw fun j w1 _ ht => startFn j w.heap.size _ kv l w1 (by
    rw [World.cell?_of_block (a := ⟨w.heap.size, 0, none⟩) (ht.2 w.heap.size hsz (fun h => absurd h.2 (Nat.lt_irrefl _)))]
    exact hcP) (hk2.touch ht)
  have hsl : ∃ oa n cap, kv = .slice oa n cap := by
    rcases hk with ⟨oa, cap, e, _⟩ | ⟨g, o, cap, e, _⟩
    · exact ⟨_, _, _, e⟩
    · exact ⟨_, _, _, e⟩
  obtain ⟨oa, n, cap, rfl⟩ := hsl
  have HB : Hid (Below w.heap.size w (w.alloc (.cells #[.slice oa n cap] 24))) := hb1
  obtain ⟨w0, hw0⟩ : ∃ w0, w.alloc (.cells #[.slice oa n cap] 24) = w0 := ⟨_, rfl⟩
  rw [hw0] at hs HB
  clear hp hp1 hp2 hb1 hk hk1 hk2 hcP hsz
  go_enter Tryz.func44, Tryz.ntmps44
  go_wp2_with fail
  refine hs.mono ?_
  rintro e w1 ⟨rfl, h1, h2⟩
  clear hs
  obtain ⟨K, N, wv, h1⟩ := h1
  have c3 := h1.c3
  have f3 : w1.frozen? ⟨B, 3, none⟩ = false := h1.row.frozen 3
  have h3 := h1.setFuse (-1) (by omega)
  have t3 := h2.setCell B 3 (.int .i64 (-1)) (.inl h1.fB)
  obtain ⟨w3, hw3⟩ : ∃ w3, w1.setCell ⟨B, 3, none⟩ (.int .i64 (-1)) = w3 := ⟨_, rfl⟩
  rw [hw3] at h3 t3
  have c4 := h3.c4
  have f4 : w3.frozen? ⟨B, 4, none⟩ = false := h3.row.frozen 4
  have h4 := h3.setUp true
  have t4 := t3.setCell B 4 (.bool true) (.inl h1.fB)
  obtain ⟨w4, hw4⟩ : ∃ w4, w3.setCell ⟨B, 4, none⟩ (.bool true) = w4 := ⟨_, rfl⟩
  rw [hw4] at h4 t4
  have HF : Hid (Plate w4 F B (startP l S) ∧ Touch F w w4) := ⟨⟨K, N, wv, h4.mono fun k _ h => h.1⟩, ⟨(HB.out.mono (Nat.zero_le _)).trans t4.1, fun k hk hn => (t4.2 k (Nat.lt_of_lt_of_le hk HB.out.size) (fun h => hn h.1)).trans (HB.out.block k hk)⟩⟩
  clear h1 h2 h3 h4 t3 t4 HB
  go_wp2
  go_end0
  exact ⟨rfl, HF.out.1, HF.out.2⟩
end Go.Proofs.YtoopaigpjefonaaGreatDoor

namespace Go.Proofs.YtoopaigpjefonaaGreatDoor
set_option maxRecDepth 20000
open Go.RowKit

def newE (n : Int) : Int := if n < 0 ∨ 32768 < n then 1 else 0
def newP (n : Nat) : PS := ⟨List.replicate n (fillS 0 64), [], -1, true, 0, 0⟩
/-- The first j sectors are filled. -/
def newJ (n j : Nat) : PS := ⟨List.replicate j (fillS 0 64) ++ List.replicate (n - j) ByteArray.empty, [], -1, true, 0, 0⟩
theorem newJ_length (n j : Nat) (h : j ≤ n) : (newJ n j).kept.length = n := by simp [newJ]; omega
theorem newJ_all (n : Nat) : newJ n n = newP n := by simp [newJ, newP]
theorem newJ_step (n j : Nat) (h : j < n) : { newJ n j with kept := (newJ n j).kept.set j (fillS 0 64) } = newJ n (j + 1) := by
  have h1 : (List.replicate j (fillS 0 64) ++ List.replicate (n - j) ByteArray.empty).set j (fillS 0 64) = List.replicate (j + 1) (fillS 0 64) ++ List.replicate (n - (j + 1)) ByteArray.empty := by
    obtain ⟨m, hm⟩ : ∃ m, n - j = m + 1 := ⟨n - j - 1, by omega⟩
    rw [hm, show n - (j + 1) = m by omega, List.set_append_right _ _ (by simp), List.length_replicate, Nat.sub_self, List.replicate_succ, List.set_cons_zero, List.replicate_succ' (n := j), List.append_assoc]
    rfl
  simp only [newJ, h1]
theorem plate_new (w : World) (F : Nat → Prop) (B K N n : Nat) (hn : n ≤ 32768) (h1 : Row w K 9 (List.replicate n (.string ⟨#[]⟩))) (h2 : Row w N 3 (List.replicate n (.int .i64 0)))
    (h3 : Row w B 95 [.slice (some ⟨K, 0, none⟩) n n, .slice none 0 0, .slice (some ⟨N, 0, none⟩) n n, .int .i64 (-1), .bool true, .int .i64 0, .int .i64 0])
    (hB : F B) (hK : F K) (hN : F N) (bk : B ≠ K) (bn : B ≠ N) (kn : K ≠ N) : PlateAt w F B K N (.slice none 0 0) (newJ n 0) := by
  have hl := newJ_length n 0 (Nat.zero_le _)
  refine ⟨?_, ?_, ?_, World.ownsRow_nil _ _ _ _, hB, hK, hN, fun g hg => (by cases hg), bk, bn, kn, by simp [Value.ownBlock], by simp [Value.ownBlock], by simp [Value.ownBlock], by rw [hl]; exact hn, by simp [newJ], ?_, by simp [newJ]⟩
  · rw [hl]; exact h3
  · have e : (newJ n 0).kept.map Value.string = List.replicate n (.string ⟨#[]⟩) := by simp only [newJ, List.replicate_zero, List.nil_append, Nat.sub_zero, List.map_replicate]; rfl
    rw [e]; exact h1
  · have e : rowF (newJ n 0).kept.length (fun i => Value.int .i64 (lastOf (newJ n 0).wait i : Nat)) = List.replicate n (.int .i64 0) := by
      rw [hl, rowF]
      simp only [newJ, lastOf_nil]
      rw [List.map_const', List.length_range]
      rfl
    rw [e]; exact h2
  · intro s hs
    simp [newJ] at hs
    exact .inl (by rw [hs.2]; rfl)

theorem info_string : (Tryz.prog.info? 9).map (fun i => (i.zero, i.size, i.bytes)) = some (some (.string ⟨#[]⟩), 1, 16) := by kernel_rfl
theorem info_int : (Tryz.prog.info? 3).map (fun i => (i.zero, i.size, i.bytes)) = some (some (.int .i64 0), 1, 8) := by kernel_rfl

set_option maxHeartbeats 400000 in
theorem new_bad (n : Int) (hn : n < 0 ∨ 32768 < n) (w : World) :
    Calls Tryz.prog 15 #[.int .i64 n] w fun e w' => e = .returned (.tuple #[.pointer none, .int .i64 1]) ∧ w' = w := by
  rcases hn with h | h
  · go_enter Tryz.func15, Tryz.ntmps15
    go_wp2
    go_ret2
    exact ⟨rfl, rfl⟩
  · have h0 : ¬ n < 0 := by omega
    go_enter Tryz.func15, Tryz.ntmps15
    go_wp2
    go_ret2
    exact ⟨rfl, rfl⟩

theorem three_rows (w : World) (a1 a2 a3 : Array Value) (t1 t2 t3 : TypeId) :
    (((w.alloc (.cells a1 t1)).alloc (.cells a2 t2)).alloc (.cells a3 t3)).drew.heap[w.heap.size]? = some (.cells a1 t1 (0, 0)) ∧ (((w.alloc (.cells a1 t1)).alloc (.cells a2 t2)).alloc (.cells a3 t3)).drew.heap[w.heap.size + 1]? = some (.cells a2 t2 (0, 0)) ∧
    (((w.alloc (.cells a1 t1)).alloc (.cells a2 t2)).alloc (.cells a3 t3)).drew.heap[w.heap.size + 1 + 1]? = some (.cells a3 t3 (0, 0)) ∧ Below w.heap.size w (((w.alloc (.cells a1 t1)).alloc (.cells a2 t2)).alloc (.cells a3 t3)).drew := by
  have e1 : (w.alloc (.cells a1 t1)).heap.size = w.heap.size + 1 := by simp
  have e2 : ((w.alloc (.cells a1 t1)).alloc (.cells a2 t2)).heap.size = w.heap.size + 1 + 1 := by simp
  refine ⟨?_, ?_, ?_, ((((Below.refl _ _).alloc (Nat.le_refl _) _).alloc (by omega) _).alloc (by omega) _).drew⟩
  · show (((w.alloc (.cells a1 t1)).alloc (.cells a2 t2)).alloc (.cells a3 t3)).heap[w.heap.size]? = _
    rw [Below.heap_alloc _ _ _ (by omega), Below.heap_alloc _ _ _ (by omega)]
    exact heap_alloc_new w _
  · show (((w.alloc (.cells a1 t1)).alloc (.cells a2 t2)).alloc (.cells a3 t3)).heap[w.heap.size + 1]? = _
    rw [Below.heap_alloc _ _ _ (by omega), ← e1]
    exact heap_alloc_new _ _
  · show (((w.alloc (.cells a1 t1)).alloc (.cells a2 t2)).alloc (.cells a3 t3)).heap[w.heap.size + 1 + 1]? = _
    rw [← e2]
    exact heap_alloc_new _ _
theorem made_row {w : World} {g n : Nat} {t : TypeId} {z : Value} (h : w.heap[g]? = some (.cells (madeCells #[z] n) t (0, 0))) : Row w g t (List.replicate n z) := by
  rw [Row, ← toList_madeCells_one]; exact h

set_option maxHeartbeats 1000000 in
theorem new_any (n : Nat) (hn : n ≤ 32768) (w : World) :
    Calls Tryz.prog 15 #[.int .i64 n] w fun e w' => ∃ B, e = .returned (.tuple #[.pointer (some ⟨B, 0, none⟩), .int .i64 0]) ∧ Plate w' (fun k => w.heap.size ≤ k ∧ k < w'.heap.size) B (newP n) ∧ Below w.heap.size w w' := by
  have hm1 := run_make_row' (P := Tryz.prog) 79 9 (.string ⟨#[]⟩) 16 Tryz.underlying79 info_string rfl .i64 .i64 n (by omega) (by omega)
  have hm2 := run_make_row' (P := Tryz.prog) 92 3 (.int .i64 0) 8 Tryz.underlying92 info_int rfl .i64 .i64 n (by omega) (by omega)
  have i0 : ¬ (n : Int) < 0 := by omega
  have i1 : ¬ (32768 : Int) < n := by omega
  go_enter Tryz.func15, Tryz.ntmps15
  go_wp2_with fail
  go_region
  all_goals
    first
      | have HT := three_rows w (madeCells #[Value.string ⟨#[]⟩] n) (madeCells #[Value.int .i64 0] n) #[.slice (some ⟨w.heap.size, 0, none⟩) n n, .slice none 0 0, .slice (some ⟨w.heap.size + 1, 0, none⟩) n n, .int .i64 (-1), .bool true, .int .i64 0, .int .i64 0] 9 3 95
        obtain ⟨w1, hw1⟩ : ∃ w1, (((w.alloc (.cells (madeCells #[Value.string ⟨#[]⟩] n) 9)).alloc (.cells (madeCells #[Value.int .i64 0] n) 3)).alloc (.cells #[.slice (some ⟨w.heap.size, 0, none⟩) n n, .slice none 0 0, .slice (some ⟨w.heap.size + 1, 0, none⟩) n n, .int .i64 (-1), .bool true, .int .i64 0, .int .i64 0] 95)).drew = w1 := ⟨_, rfl⟩
        rw [hw1]
        rw [hw1] at HT
        clear hw1
        obtain ⟨r1, r2, r3, hb1⟩ := HT
        have hP := plate_new w1 (fun k => w.heap.size ≤ k) (w.heap.size + 1 + 1) w.heap.size (w.heap.size + 1) n hn (made_row r1) (made_row r2) r3 (by omega) (by omega) (by omega) (by omega) (by omega) (by omega)
      | have HT := three_rows w (madeCells #[Value.int .i64 0] n) (madeCells #[Value.string ⟨#[]⟩] n) #[.slice (some ⟨w.heap.size + 1, 0, none⟩) n n, .slice none 0 0, .slice (some ⟨w.heap.size, 0, none⟩) n n, .int .i64 (-1), .bool true, .int .i64 0, .int .i64 0] 3 9 95
        obtain ⟨w1, hw1⟩ : ∃ w1, (((w.alloc (.cells (madeCells #[Value.int .i64 0] n) 3)).alloc (.cells (madeCells #[Value.string ⟨#[]⟩] n) 9)).alloc (.cells #[.slice (some ⟨w.heap.size + 1, 0, none⟩) n n, .slice none 0 0, .slice (some ⟨w.heap.size, 0, none⟩) n n, .int .i64 (-1), .bool true, .int .i64 0, .int .i64 0] 95)).drew = w1 := ⟨_, rfl⟩
        rw [hw1]
        rw [hw1] at HT
        clear hw1
        obtain ⟨r1, r2, r3, hb1⟩ := HT
        have hP := plate_new w1 (fun k => w.heap.size ≤ k) (w.heap.size + 1 + 1) (w.heap.size + 1) w.heap.size n hn (made_row r2) (made_row r1) r3 (by omega) (by omega) (by omega) (by omega) (by omega) (by omega)
    clear r1 r2 r3 hm1 hm2
    have HP : Hid (Below w.heap.size w w1 ∧ ∃ K N, PlateAt w1 (fun k => w.heap.size ≤ k) (w.heap.size + 1 + 1) K N (.slice none 0 0) (newJ n 0)) := ⟨hb1, _, _, hP⟩
    clear hP hb1
    go_wp2_with fail
    refine (repeat_blank _).mono ?_
    rintro e w2 ⟨rfl, hb2⟩
    obtain ⟨hb1, K, N, hP⟩ := HP.out
    have hP2 := hP.keep (w' := w2) fun k hk _ => hb2.block k hk
    have hb12 := hb1.trans (hb2.mono hb1.size)
    have c0 := hP2.c0
    rw [newJ_length n 0 (Nat.zero_le _)] at c0
    have HQ : Hid (Below w.heap.size w w2 ∧ ∃ K N, PlateAt w2 (fun k => w.heap.size ≤ k) (w.heap.size + 1 + 1) K N (.slice none 0 0) (newJ n 0)) := ⟨hb12, _, _, hP2⟩
    obtain ⟨s, hs⟩ : ∃ s, s = fillS 0 64 := ⟨_, rfl⟩
    rw [← hs]
    have HS : Hid (s = fillS 0 64) := hs
    clear hP hP2 hb1 hb2 hb12 HP hs
    go_wp2_with fail
    go_loopw [25] (fun v wr => ∃ j : Nat, j ≤ n ∧ v = .int .i64 j ∧ Below w.heap.size w wr ∧ ∃ K N, PlateAt wr (fun k => w.heap.size ≤ k) (w.heap.size + 1 + 1) K N (.slice none 0 0) (newJ n j)) (fun v _ => n - (intOf v).toNat)
    case atStart => exact ⟨0, Nat.zero_le _, rfl, HQ.out.1, HQ.out.2⟩
    case round =>
      clear HQ c0
      obtain ⟨j, hj, rfl, hb, K, N, hP⟩ := hrel
      by_cases hlt : j < n
      · have hl := newJ_length n j hj
        have c0 := hP.c0
        have ck := hP.cK j (by omega)
        generalize (newJ n j).kept[j] = old at ck
        rw [hl] at c0
        have fk : wr.frozen? ⟨K, j, none⟩ = false := hP.kept.frozen j
        have j1 : (j : Int) < n := by omega
        have hP3 := hP.setKept j s (.inr (by rw [HS.out, fillS_size]))
        rw [HS.out, newJ_step n j hlt, ← HS.out] at hP3
        have hb3 : Below w.heap.size w (wr.setCell ⟨K, j, none⟩ (.string s)) := hb.setCell (p := ⟨K, j, none⟩) hP.fK _
        obtain ⟨w3, hw3⟩ : ∃ w3, wr.setCell ⟨K, j, none⟩ (.string s) = w3 := ⟨_, rfl⟩
        rw [hw3] at hP3 hb3
        have HF : Hid (Below w.heap.size w w3 ∧ PlateAt w3 (fun k => w.heap.size ≤ k) (w.heap.size + 1 + 1) K N (.slice none 0 0) (newJ n (j + 1))) := ⟨hb3, hP3⟩
        clear hP hP3 hb hb3
        go_wp2
        go_roundw
        case rel => exact ⟨j + 1, by omega, by go_num, HF.out.1, K, N, HF.out.2⟩
        case measure => simp [intOf]; omega
      · obtain rfl : j = n := by omega
        rw [newJ_all] at hP
        have HF : Hid (Below w.heap.size w wr ∧ PlateAt wr (fun k => w.heap.size ≤ k) (w.heap.size + 1 + 1) K N (.slice none 0 0) (newP j)) := ⟨hb, hP⟩
        clear hP hb
        go_wp2
        go_ret2
        exact ⟨w.heap.size + 1 + 1, rfl, ⟨K, N, _, HF.out.2.mono fun k hk h => ⟨h, hk⟩⟩, HF.out.1⟩
end Go.Proofs.YtoopaigpjefonaaGreatDoor

namespace Go.Proofs.YtoopaigpjefonaaGreatDoor
set_option maxRecDepth 20000
open Go.RowKit

theorem fillS_num (v n : Nat) : fillS v n = strOfNums ((List.replicate n v).map fun (x : Nat) => (x : Int)) := rfl

theorem awake_state (s : ByteArray) (hs : s.size = 64) : writeE (newP 2) 0 s = 0 ∧ (writeP (newP 2) 0 s).wait.length = 1 ∧ readS (startP [true] (writeP (newP 2) 0 s)) 0 = s ∧ readE (startP [true] (writeP (newP 2) 0 s)) 0 = 0 ∧ (startP [true] (writeP (newP 2) 0 s)).wait.length = 0 := by
  have e1 : writeP (newP 2) 0 s = ⟨[fillS 0 64, fillS 0 64], [(0, s)], -1, true, 0, 1⟩ := by simp [writeP, hs, newP, hasB, wrap64]
  have e2 : startP [true] (writeP (newP 2) 0 s) = ⟨[s, fillS 0 64], [], -1, true, 0, 1⟩ := by rw [e1]; simp [startP, settleP, keptAt, lastsB]
  refine ⟨by simp [writeE, hs, newP, hasB], by rw [e1]; rfl, ?_, ?_, by rw [e2]; rfl⟩
  · rw [e2]; simp [readS, hasB, textOf, textR, heldS, keptS]
  · rw [e2]; simp [readE, hasB, textOf, textR, heldE, keptS, hs]

end Go.Proofs.YtoopaigpjefonaaGreatDoor

namespace Go.Proofs.YtoopaigpjefonaaGreatDoor
set_option maxRecDepth 20000
open Go.RowKit

def OnB (base : Nat) (w : World) (B : Nat) (S : PS) : Prop := ∃ F, Plate w F B S ∧ ∀ k, F k → base ≤ k ∧ k < w.heap.size
theorem OnB.base {base B : Nat} {w : World} {S : PS} (h : OnB base w B S) : base ≤ w.heap.size := by
  obtain ⟨F, ⟨K, N, wv, hp⟩, hF⟩ := h
  have := hF B hp.fB
  omega
theorem OnB.below {base B : Nat} {w w' : World} {S : PS} (h : OnB base w B S) (hb : Below w.heap.size w w') : OnB base w' B S := by
  obtain ⟨F, hp, hF⟩ := h
  exact ⟨F, hp.below hb, fun k hk => ⟨(hF k hk).1, Nat.lt_of_lt_of_le (hF k hk).2 hb.size⟩⟩
theorem OnB.of {base B : Nat} {w w' : World} {F : Nat → Prop} {S : PS} (hw : base ≤ w.heap.size) (hF : ∀ k, F k → base ≤ k ∧ k < w.heap.size) (hp : Plate w' (grow F w w') B S) (ht : Touch F w w') : OnB base w' B S ∧ Below base w w' :=
  ⟨⟨_, hp, fun _ hk => by
    rcases hk with h | h
    · have := hF _ h; have := ht.size; omega
    · omega⟩, ht.below hw fun k h => (hF k h).1⟩
theorem OnB.same {base B : Nat} {w w' : World} {F : Nat → Prop} {S : PS} (hw : base ≤ w.heap.size) (hF : ∀ k, F k → base ≤ k ∧ k < w.heap.size) (hp : Plate w' F B S) (ht : Touch F w w') : OnB base w' B S ∧ Below base w w' :=
  OnB.of hw hF (hp.mono fun _ _ h => .inl h) ht

theorem new_on (n : Nat) (hn : n ≤ 32768) (w : World) :
    Calls Tryz.prog 15 #[.int .i64 n] w fun e w' => ∃ B, e = .returned (.tuple #[.pointer (some ⟨B, 0, none⟩), .int .i64 0]) ∧ OnB w.heap.size w' B (newP n) ∧ Below w.heap.size w w' :=
  (new_any n hn w).mono fun _ _ ⟨B, he, hp, hb⟩ => ⟨B, he, ⟨_, hp, fun _ h => h⟩, hb⟩
theorem read_on (base B : Nat) (S : PS) (at_ : Int) (w : World) (hp : OnB base w B S) (hw : S.wait.length ≤ 1000000) :
    Calls Tryz.prog 167 #[.pointer (some ⟨B, 0, none⟩), .int .i64 at_] w fun e w' => e = .returned (.tuple #[.string (readS S at_), .int .i64 (readE S at_)]) ∧ OnB base w' B (readP S at_) ∧ Below base w w' := by
  have hb := hp.base
  obtain ⟨F, hp, hF⟩ := hp
  exact (read_any B F S at_ w hp hw).mono fun e w' ⟨he, h1, h2⟩ => ⟨he, OnB.same hb hF h1 h2⟩
theorem held_on (base B : Nat) (S : PS) (at_ : Int) (w : World) (hp : OnB base w B S) :
    Calls Tryz.prog 42 #[.pointer (some ⟨B, 0, none⟩), .int .i64 at_] w fun e w' => e = .returned (.tuple #[.string (heldS S at_), .int .i64 (heldE S at_)]) ∧ w' = w := by
  obtain ⟨F, hp, hF⟩ := hp
  exact held_any B F S at_ w hp
theorem write_on (base B : Nat) (S : PS) (at_ : Int) (s : ByteArray) (w : World) (hp : OnB base w B S) (hw : S.wait.length ≤ 1000000) :
    Calls Tryz.prog 171 #[.pointer (some ⟨B, 0, none⟩), .int .i64 at_, .string s] w fun e w' => e = .returned (.int .i64 (writeE S at_ s)) ∧ OnB base w' B (writeP S at_ s) ∧ Below base w w' := by
  have hb := hp.base
  obtain ⟨F, hp, hF⟩ := hp
  exact (write_any B F S at_ s w hp hw).mono fun e w' ⟨he, h1, h2⟩ => ⟨he, OnB.of hb hF h1 h2⟩
theorem flush_on (base B : Nat) (S : PS) (w : World) (hp : OnB base w B S) (hw : S.wait.length ≤ 1000000) :
    Calls Tryz.prog 115 #[.pointer (some ⟨B, 0, none⟩)] w fun e w' => e = .returned (.int .i64 (flushE S)) ∧ OnB base w' B (flushP S) ∧ Below base w w' := by
  have hb := hp.base
  obtain ⟨F, hp, hF⟩ := hp
  exact (flush_any B F S w hp hw).mono fun e w' ⟨he, h1, h2⟩ => ⟨he, OnB.same hb hF h1 h2⟩
theorem arm_on (base B : Nat) (S : PS) (n : Int) (hn : n < 9223372036854775808) (w : World) (hp : OnB base w B S) :
    Calls Tryz.prog 25 #[.pointer (some ⟨B, 0, none⟩), .int .i64 n] w fun e w' => e = .returned (.int .i64 (armE S n)) ∧ OnB base w' B (armP S n) ∧ Below base w w' := by
  have hb := hp.base
  obtain ⟨F, hp, hF⟩ := hp
  exact (arm_any B F S n hn w hp).mono fun e w' ⟨he, h1, h2⟩ => ⟨he, OnB.same hb hF h1 h2⟩
theorem start_on (base B : Nat) (S : PS) (kv : Value) (l : List Bool) (w : World) (hp : OnB base w B S) (hw : S.wait.length ≤ 1000000) (hk : Bools w (fun k => base ≤ k) kv l) :
    Calls Tryz.prog 44 #[.pointer (some ⟨B, 0, none⟩), kv] w fun e w' => e = .returned (.tuple #[]) ∧ OnB base w' B (startP l S) ∧ Below base w w' := by
  have hb := hp.base
  obtain ⟨F, hp, hF⟩ := hp
  exact (start_any B F S kv l w hp hw (hk.mono fun k _ h => (hF k h).1)).mono fun e w' ⟨he, h1, h2⟩ => ⟨he, OnB.same hb hF h1 h2⟩
theorem up_on (base B : Nat) (S : PS) (w : World) (hp : OnB base w B S) :
    Calls Tryz.prog 39 #[.pointer (some ⟨B, 0, none⟩)] w fun e w' => e = .returned (.bool S.up) ∧ w' = w := by
  obtain ⟨F, hp, hF⟩ := hp
  exact up_any B F S w hp
theorem writes_on (base B : Nat) (S : PS) (w : World) (hp : OnB base w B S) :
    Calls Tryz.prog 41 #[.pointer (some ⟨B, 0, none⟩)] w fun e w' => e = .returned (.int .i64 S.writes) ∧ w' = w := by
  obtain ⟨F, hp, hF⟩ := hp
  exact writes_any B F S w hp
theorem pending_on (base B : Nat) (S : PS) (w : World) (hp : OnB base w B S) :
    Calls Tryz.prog 40 #[.pointer (some ⟨B, 0, none⟩)] w fun e w' => e = .returned (.int .i64 (S.wait.length : Nat)) ∧ w' = w := by
  obtain ⟨F, hp, hF⟩ := hp
  exact pending_any B F S w hp
theorem sectors_on (base B : Nat) (S : PS) (w : World) (hp : OnB base w B S) :
    Calls Tryz.prog 90 #[.pointer (some ⟨B, 0, none⟩)] w fun e w' => e = .returned (.int .i64 (S.kept.length : Nat)) ∧ w' = w := by
  obtain ⟨F, hp, hF⟩ := hp
  exact sectors_any B F S w hp
end Go.Proofs.YtoopaigpjefonaaGreatDoor

namespace Go.Proofs.YtoopaigpjefonaaGreatDoor
set_option maxRecDepth 20000
open Go.RowKit

/-- A block is not one of an owned slice's. -/
def Apart (v : Value) (b : Nat) : Prop := v.ownBlock ≠ some b
def Apart2 (v u : Value) : Prop := ∀ g, v.ownBlock = some g → u.ownBlock ≠ some g
end Go.Proofs.YtoopaigpjefonaaGreatDoor

namespace Go.Proofs.YtoopaigpjefonaaGreatDoor
set_option maxRecDepth 20000
open Go.RowKit

theorem getGo_keeps (a : Nat) : ∀ (n j : Nat) (S : PS) (t : ByteArray) (m : Nat), (getGo a n j S t m).2.wait = S.wait ∧ (getGo a n j S t m).2.kept.length = S.kept.length
  | 0, _, _, _, _ => ⟨rfl, rfl⟩
  | n + 1, j, S, t, m => by
    have hr := readP_len S ((8 * a + j : Nat) : Int)
    unfold getGo
    split
    · have := getGo_keeps a n (j + 1) (readP S ((8 * a + j : Nat) : Int)) (t ++ readS S ((8 * a + j : Nat) : Int)) m
      exact ⟨this.1.trans hr.2, this.2.trans hr.1⟩
    · split
      · have := getGo_keeps a n (j + 1) (readP S ((8 * a + j : Nat) : Int)) (t ++ fillS 0 64) (m + 2 ^ j)
        exact ⟨this.1.trans hr.2, this.2.trans hr.1⟩
      · exact ⟨hr.2, hr.1⟩
theorem bget_keeps (S : PS) (a : Int) : (bget S a).2.wait = S.wait ∧ (bget S a).2.kept.length = S.kept.length := by
  unfold bget
  split
  · exact getGo_keeps _ _ _ _ _ _
  · exact ⟨rfl, rfl⟩
/-- The device behind j readings; what the j-th comes to. -/
def stA (S : PS) : Nat → PS
  | 0 => S
  | j + 1 => (bget (stA S j) ((j : Nat) : Int)).2
def rawA (S : PS) (j : Nat) : ByteArray := if (bget (stA S j) ((j : Nat) : Int)).1.2.2 = 0 then (bget (stA S j) ((j : Nat) : Int)).1.1 else fillS 0 512
def maskA (S : PS) (j : Nat) : Int := if (bget (stA S j) ((j : Nat) : Int)).1.2.2 = 0 then (((bget (stA S j) ((j : Nat) : Int)).1.2.1 : Nat) : Int) else 255
theorem stA_keeps (S : PS) : ∀ j, (stA S j).wait = S.wait ∧ (stA S j).kept.length = S.kept.length
  | 0 => ⟨rfl, rfl⟩
  | j + 1 => by
    have h1 := bget_keeps (stA S j) ((j : Nat) : Int)
    have h2 := stA_keeps S j
    exact ⟨h1.1.trans h2.1, h1.2.trans h2.2⟩
def rawsTo (S : PS) (j : Nat) : List ByteArray := (List.range j).map (rawA S)
def masksTo (S : PS) (j : Nat) : List Int := (List.range j).map (maskA S)
theorem rawsTo_succ (S : PS) (j : Nat) : rawsTo S (j + 1) = rawsTo S j ++ [rawA S j] := by simp [rawsTo, List.range_succ]
theorem masksTo_succ (S : PS) (j : Nat) : masksTo S (j + 1) = masksTo S j ++ [maskA S j] := by simp [masksTo, List.range_succ]
theorem rawsTo_length (S : PS) (j : Nat) : (rawsTo S j).length = j := by simp [rawsTo]
theorem masksTo_length (S : PS) (j : Nat) : (masksTo S j).length = j := by simp [masksTo]
/-- An image that grows. -/
structure ImgMid (base : Nat) (w : World) (M : Nat) (rv mv : Value) (raws : List ByteArray) (masks : List Int) : Prop where
  row : Row w M 131 [rv, mv]
  raws : w.ownsRow 0 9 1 rv raws.length (raws.map Value.string)
  masks : w.ownsRow 0 3 1 mv masks.length (masks.map (Value.int .i64))
  low : base ≤ M
  fR : ∀ g, rv.ownBlock = some g → base ≤ g
  fM : ∀ g, mv.ownBlock = some g → base ≤ g
  rM : Apart rv M
  mM : Apart mv M
  rm : Apart2 rv mv
theorem ImgMid.keep {base : Nat} {w w' : World} {M : Nat} {rv mv : Value} {raws : List ByteArray} {masks : List Int} (h : ImgMid base w M rv mv raws masks) (hb : ∀ k, base ≤ k → k < w.heap.size → w'.heap[k]? = w.heap[k]?) : ImgMid base w' M rv mv raws masks :=
  { h with row := (hb M h.low h.row.lt).trans h.row, raws := owns_keep h.raws fun g hg => hb g (h.fR g hg) (owns_lt h.raws g hg), masks := owns_keep h.masks fun g hg => hb g (h.fM g hg) (owns_lt h.masks g hg) }
theorem ImgMid.low_mono {base b2 : Nat} {w : World} {M : Nat} {rv mv : Value} {raws : List ByteArray} {masks : List Int} (h : ImgMid base w M rv mv raws masks) (hb : b2 ≤ base) : ImgMid b2 w M rv mv raws masks :=
  { h with low := Nat.le_trans hb h.low, fR := fun g hg => Nat.le_trans hb (h.fR g hg), fM := fun g hg => Nat.le_trans hb (h.fM g hg) }
theorem ImgMid.growR {base : Nat} {w w' : World} {M : Nat} {rv mv v' : Value} {raws : List ByteArray} {masks : List Int} {x : ByteArray} (h : ImgMid base w M rv mv raws masks) (hbase : base ≤ w.heap.size) (hown : w'.ownsRow 0 9 1 v' (raws.length + 1) (raws.map Value.string ++ [.string x])) (hg : w.grownBy w' rv.ownBlock) (hat : v'.ownBlock = rv.ownBlock ∨ v'.ownBlock = some w.heap.size) :
    w'.cell? ⟨M, 0, none⟩ = some rv ∧ w'.frozen? ⟨M, 0, none⟩ = false ∧ ImgMid base (w'.setCell ⟨M, 0, none⟩ v') M v' mv (raws ++ [x]) masks := by
  have hB := h.row.lt
  have r1 : Row w' M _ _ := (hg.block M h.row.lt (fun e => h.rM e.symm)).trans h.row
  have r3 := owns_keep (w' := w') h.masks fun g hg' => hg.block g (owns_lt h.masks g hg') (fun e => h.rm g e.symm hg')
  have nB : Apart v' M := by
    rcases hat with e | e
    · unfold Apart; rw [e]; exact h.rM
    · unfold Apart; rw [e]; intro e2; cases e2; omega
  have nD : Apart2 v' mv := fun g hg' e2 => by
    rcases hat with e | e
    · exact h.rm g (by rw [← e]; exact hg') e2
    · rw [e] at hg'; cases hg'; have := owns_lt h.masks _ e2; omega
  refine ⟨r1.cell 0, r1.frozen 0, r1.setL 0 v', ?_, owns_off r3 h.mM _ _, h.low, fun g hg' => ?_, h.fM, nB, h.mM, nD⟩
  · have := owns_off hown nB 0 v'
    rw [List.length_append, List.map_append]
    exact this
  · rcases hat with e | e
    · exact h.fR g (by rw [← e]; exact hg')
    · rw [e] at hg'; cases hg'; exact hbase
theorem ImgMid.growM {base : Nat} {w w' : World} {M : Nat} {rv mv v' : Value} {raws : List ByteArray} {masks : List Int} {x : Int} (h : ImgMid base w M rv mv raws masks) (hbase : base ≤ w.heap.size) (hown : w'.ownsRow 0 3 1 v' (masks.length + 1) (masks.map (Value.int .i64) ++ [.int .i64 x])) (hg : w.grownBy w' mv.ownBlock) (hat : v'.ownBlock = mv.ownBlock ∨ v'.ownBlock = some w.heap.size) :
    w'.cell? ⟨M, 1, none⟩ = some mv ∧ w'.frozen? ⟨M, 1, none⟩ = false ∧ ImgMid base (w'.setCell ⟨M, 1, none⟩ v') M rv v' raws (masks ++ [x]) := by
  have hB := h.row.lt
  have r1 : Row w' M _ _ := (hg.block M h.row.lt (fun e => h.mM e.symm)).trans h.row
  have r3 := owns_keep (w' := w') h.raws fun g hg' => hg.block g (owns_lt h.raws g hg') (fun e => h.rm g hg' e.symm)
  have nB : Apart v' M := by
    rcases hat with e | e
    · unfold Apart; rw [e]; exact h.mM
    · unfold Apart; rw [e]; intro e2; cases e2; omega
  have nD : Apart2 rv v' := fun g hg' e2 => by
    rcases hat with e | e
    · exact h.rm g hg' (by rw [← e]; exact e2)
    · rw [e] at e2; cases e2; have := owns_lt h.raws _ hg'; omega
  refine ⟨r1.cell 1, r1.frozen 1, r1.setL 1 v', owns_off r3 h.rM _ _, ?_, h.low, h.fR, fun g hg' => ?_, h.rM, nB, nD⟩
  · have := owns_off hown nB 1 v'
    rw [List.length_append, List.map_append]
    exact this
  · rcases hat with e | e
    · exact h.fM g (by rw [← e]; exact hg')
    · rw [e] at hg'; cases hg'; exact hbase
theorem zero_image (w : World) : (zeroValue 131).run Tryz.prog w = .ok (.agg #[.slice none 0 0, .slice none 0 0]) w := (zero_of_info (n := 2) (by kernel_rfl)).1 w
set_option maxHeartbeats 4000000 in
theorem all_any (B : Nat) (F : Nat → Prop) (S : PS) (w : World) (hp : Plate w F B S) (hw : S.wait.length ≤ 1000000) (hg : ErrT w) (hF : ¬ F 3) (hlt : ∀ k, F k → k < w.heap.size) :
    Calls Tryz.prog 62 #[.pointer (some ⟨B, 0, none⟩)] w fun e w' => ∃ oa ca ob cb, e = .returned (.agg #[.slice oa (S.kept.length / 8) ca, .slice ob (S.kept.length / 8) cb]) ∧ (∃ M, ImgMid w.heap.size w' M (.slice oa (S.kept.length / 8) ca) (.slice ob (S.kept.length / 8) cb) (rawsTo S (S.kept.length / 8)) (masksTo S (S.kept.length / 8))) ∧ Plate w' F B (stA S (S.kept.length / 8)) ∧ Touch F w w' := by
  obtain ⟨nb, hnb⟩ : ∃ nb, nb = S.kept.length / 8 := ⟨_, rfl⟩
  have hm : S.kept.length ≤ 32768 := by obtain ⟨K, N, wv, h⟩ := hp; exact h.most
  have hnb2 : nb ≤ 4096 := by omega
  have HP : Hid (Plate w F B S ∧ ErrT w) := ⟨hp, hg⟩
  have hlt0 := lt_of_cell_ hg
  rw [← hnb]
  have HNB : Hid (nb = S.kept.length / 8) := hnb
  have hz := zero_image
  clear hp hg hm hnb
  go_enter Tryz.func62, Tryz.ntmps62
  go_wp2_with fail
  obtain ⟨w1, hw1⟩ : ∃ w1, (w.alloc (.cells #[.slice none 0 0, .slice none 0 0] 131)).alloc (.cells #[.slice none 0 0, .slice none 0 0] 131) = w1 := ⟨_, rfl⟩
  have HI : Hid (ImgMid (w.heap.size + 1) w1 (w.heap.size + 1) (.slice none 0 0) (.slice none 0 0) (rawsTo S 0) (masksTo S 0) ∧ Row w1 w.heap.size 131 [.slice none 0 0, .slice none 0 0] ∧ Plate w1 F B (stA S 0) ∧ Touch F w w1) := by
    have e1 : (w.alloc (.cells #[.slice none 0 0, .slice none 0 0] 131)).heap.size = w.heap.size + 1 := by simp
    have hb : Below w.heap.size w w1 := by rw [← hw1]; exact ((Below.refl _ _).alloc (Nat.le_refl _) _).alloc (by rw [e1]; omega) _
    refine ⟨⟨?_, World.ownsRow_nil _ _ _ _, World.ownsRow_nil _ _ _ _, Nat.le_refl _, fun g hg => (by cases hg), fun g hg => (by cases hg), by simp [Apart, Value.ownBlock], by simp [Apart, Value.ownBlock], fun g hg => (by cases hg)⟩, ?_, HP.out.1.keep fun k hk _ => hb.block k hk, Touch.of_below hb⟩
    · rw [← hw1, ← e1]; exact heap_alloc_new _ _
    · rw [← hw1]; exact (Below.heap_alloc _ _ _ (by rw [e1]; omega)).trans (heap_alloc_new w _)
  rw [hw1]
  have hbl := blocks_any B F S w1 HI.out.2.2.1
  rw [← HNB.out] at hbl
  obtain ⟨i0, hi0, hz0, hz1, hz2⟩ := info_parts info_string
  obtain ⟨q0, hq0, hy0, hy1, hy2⟩ := info_parts info_int
  clear hw1
  refine hbl.mono ?_
  rintro e w2 ⟨rfl, rfl⟩
  clear hbl
  go_wp2_with fail
  go_loopw [10] (fun jv wr => ∃ (j : Nat) (oa : Option Addr) (ca : Nat) (ob : Option Addr) (cb : Nat), j ≤ nb ∧ jv = .int .i64 (j : Int) ∧ ImgMid (w.heap.size + 1) wr (w.heap.size + 1) (.slice oa j ca) (.slice ob j cb) (rawsTo S j) (masksTo S j) ∧ Row wr w.heap.size 131 [.slice none 0 0, .slice none 0 0] ∧ Plate wr F B (stA S j) ∧ Touch F w wr) (fun jv _ => nb - (intOf jv).toNat)
  case atStart => exact ⟨0, none, 0, none, 0, Nat.zero_le _, rfl, HI.out⟩
  case round =>
    clear HI
    obtain ⟨j, oa, ca, ob, cb, hj, rfl, him, hres, hpj, htj⟩ := hrel
    by_cases hjl : j < nb
    · have j1 : (j : Int) < (nb : Nat) := by omega
      have hEr : ErrT wr := (cell_kept_1 (htj.2 _ hlt0 hF) _).trans HP.out.2
      have hgt := bget_any B F (stA S j) ((j : Nat) : Int) wr hpj (by rw [(stA_keeps S j).1]; exact hw) hEr hF
      have hJ1 := rawsTo_length S j
      have hJ2 := masksTo_length S j
      have hJ3 := rawsTo_succ S j
      have hJ4 := masksTo_succ S j
      have hJ5 : stA S (j + 1) = (bget (stA S j) ((j : Nat) : Int)).2 := rfl
      have hra : rawA S j = if (bget (stA S j) ((j : Nat) : Int)).1.2.2 = 0 then (bget (stA S j) ((j : Nat) : Int)).1.1 else fillS 0 512 := rfl
      have hma : maskA S j = if (bget (stA S j) ((j : Nat) : Int)).1.2.2 = 0 then (((bget (stA S j) ((j : Nat) : Int)).1.2.1 : Nat) : Int) else 255 := rfl
      generalize (bget (stA S j) ((j : Nat) : Int)).1.1 = t at *
      generalize (bget (stA S j) ((j : Nat) : Int)).1.2.1 = mk at *
      generalize (bget (stA S j) ((j : Nat) : Int)).1.2.2 = er at *
      generalize (bget (stA S j) ((j : Nat) : Int)).2 = Sk at *
      generalize rawsTo S j = raws at *
      generalize masksTo S j = masks at *
      have HM : Hid (ImgMid (w.heap.size + 1) wr (w.heap.size + 1) (.slice oa j ca) (.slice ob j cb) raws masks ∧ Row wr w.heap.size 131 [.slice none 0 0, .slice none 0 0] ∧ Touch F w wr) := ⟨him, hres, htj⟩
      clear him hres hpj htj hEr
      by_cases he : er = 0
      · rw [if_pos he] at hra hma
        have HJ : Hid (raws.length = j ∧ masks.length = j ∧ rawsTo S (j + 1) = raws ++ [t] ∧ masksTo S (j + 1) = masks ++ [(mk : Int)] ∧ stA S (j + 1) = Sk) := ⟨hJ1, hJ2, by rw [hJ3, hra], by rw [hJ4, hma], hJ5⟩
        subst he
        clear hJ1 hJ2 hJ3 hJ4 hJ5 hra hma
        go_wp2_with fail
        refine hgt.mono ?_
        rintro e w4 ⟨rfl, p4, t3⟩
        have h4 := HM.out.1.keep (w' := w4) fun k hk hk2 => t3.2 k hk2 fun hf => by have := hlt k hf; omega
        have r4 : Row w4 w.heap.size 131 [.slice none 0 0, .slice none 0 0] := (t3.2 _ HM.out.2.1.lt fun hf => by have := hlt _ hf; omega).trans HM.out.2.1
        have t4 : Touch F w w4 := HM.out.2.2.trans (t3.mono fun _ h => .inl h)
        have hz4 : w.heap.size + 1 < w4.heap.size := h4.row.lt
        clear hgt t3 HM
        have h4' := h4.keep (w' := w4.alloc (.cells #[.string t] 9)) fun k _ hk => Below.heap_alloc w4 _ k hk
        have hnew : (w4.alloc (.cells #[.string t] 9)).heap[w4.heap.size]? = some (.cells #[.string t] 9 (0, 0)) := heap_alloc_new w4 _
        have hone : ∀ u ∈ ([.string t] : List Value), u.oneCell' = true := by intro u hu; simp at hu; rw [hu]; rfl
        have hownC := h4'.raws
        have c0 : w4.cell? ⟨w.heap.size + 1, 0, none⟩ = some (.slice oa j ca) := h4.row.cell 0
        rw [HJ.out.1] at hownC
        have hsz4 : w.heap.size + 1 ≤ (w4.alloc (.cells #[.string t] 9)).heap.size := by simp; omega
        have HA : Hid (ImgMid (w.heap.size + 1) (w4.alloc (.cells #[.string t] 9)) (w.heap.size + 1) (.slice oa j ca) (.slice ob j cb) raws masks ∧ Row (w4.alloc (.cells #[.string t] 9)) w.heap.size 131 [.slice none 0 0, .slice none 0 0] ∧ Plate (w4.alloc (.cells #[.string t] 9)) F B Sk ∧ Touch F w (w4.alloc (.cells #[.string t] 9))) := ⟨h4', (Below.heap_alloc w4 _ _ r4.lt).trans r4, p4.keep fun k hk _ => Below.heap_alloc w4 _ k hk, t4.trans (Touch.of_below ((Below.refl _ _).alloc (Nat.le_refl _) _))⟩
        clear h4 h4' r4 p4 t4
        go_wp2_with (first | (at_builtin; (refine wpList_append_own_at _ rfl _ _ 79 rfl 0 9 i0 (.string ⟨#[]⟩) 1 16 Tryz.underlying79 hi0 hz0 hz1 hz2 rfl (by decide) (.slice oa j ca) j (raws.map Value.string) rfl hownC ⟨w4.heap.size, 0, none⟩ 1 1 [.string t] rfl rfl (World.news_of_block hnew) hone (by unfold maxLen; omega) (by omega) (Nat.zero_le _) ?_)))
        intro v1 wB hown1 hgrow1 _ hat1
        obtain ⟨g1, cap1, rfl, _, _⟩ := owns_form hown1 (by omega)
        obtain ⟨e1, e2, h5⟩ := HA.out.1.growR hsz4 (by rw [HJ.out.1]; exact hown1) hgrow1 (by first | exact hat1 | simpa using hat1)
        have hRne : ∀ k, (Value.slice oa j ca).ownBlock = some k → w.heap.size + 1 ≤ k := HA.out.1.fR
        have keepB : ∀ k, k ≤ w.heap.size → k < (w4.alloc (.cells #[.string t] 9)).heap.size → wB.heap[k]? = (w4.alloc (.cells #[.string t] 9)).heap[k]? := fun k hk hk2 => hgrow1.block k hk2 (fun e => by have := hRne k e.symm; omega)
        have r5 : Row (wB.setCell ⟨w.heap.size + 1, 0, none⟩ (.slice (some ⟨g1, 0, none⟩) (j + 1) cap1)) w.heap.size 131 [.slice none 0 0, .slice none 0 0] := Row.off ((keepB _ (Nat.le_refl _) HA.out.2.1.lt).trans HA.out.2.1) (by omega) _ _
        have p5 : Plate (wB.setCell ⟨w.heap.size + 1, 0, none⟩ (.slice (some ⟨g1, 0, none⟩) (j + 1) cap1)) F B Sk := HA.out.2.2.1.keep fun k hk hf => (Below.heap_setCell wB ⟨w.heap.size + 1, 0, none⟩ _ k (by have := hlt k hf; show k ≠ w.heap.size + 1; omega)).trans (keepB k (by have := hlt k hf; omega) hk)
        have t5 : Touch F w (wB.setCell ⟨w.heap.size + 1, 0, none⟩ (.slice (some ⟨g1, 0, none⟩) (j + 1) cap1)) := by
          have hb := (Below.refl (w.heap.size + 1) (w4.alloc (.cells #[.string t] 9))).grown hgrow1 hsz4 fun k hk => hRne k hk
          refine Touch.setCell ⟨HA.out.2.2.2.1.trans (hb.mono (Nat.zero_le _)), fun k hk hn => (hb.block k (by omega)).trans (HA.out.2.2.2.2 k hk hn)⟩ _ _ _ (.inr (by omega))
        obtain ⟨w5, hw5⟩ : ∃ w5, wB.setCell ⟨w.heap.size + 1, 0, none⟩ (.slice (some ⟨g1, 0, none⟩) (j + 1) cap1) = w5 := ⟨_, rfl⟩
        rw [hw5] at h5 r5 p5 t5
        have hz5 : w.heap.size + 1 < w5.heap.size := h5.row.lt
        clear HA hownC hnew hone hown1 hgrow1 hat1 hRne keepB c0 hsz4
        have h5' := h5.keep (w' := w5.alloc (.cells #[.int .i64 (mk : Int)] 3)) fun k _ hk => Below.heap_alloc w5 _ k hk
        have hnew : (w5.alloc (.cells #[.int .i64 (mk : Int)] 3)).heap[w5.heap.size]? = some (.cells #[.int .i64 (mk : Int)] 3 (0, 0)) := heap_alloc_new w5 _
        have hone : ∀ u ∈ ([.int .i64 (mk : Int)] : List Value), u.oneCell' = true := by intro u hu; simp at hu; rw [hu]; rfl
        have hownD := h5'.masks
        have c1 : w5.cell? ⟨w.heap.size + 1, 1, none⟩ = some (.slice ob j cb) := h5.row.cell 1
        rw [HJ.out.2.1] at hownD
        have hsz5 : w.heap.size + 1 ≤ (w5.alloc (.cells #[.int .i64 (mk : Int)] 3)).heap.size := by simp; omega
        have HA : Hid (ImgMid (w.heap.size + 1) (w5.alloc (.cells #[.int .i64 (mk : Int)] 3)) (w.heap.size + 1) (.slice (some ⟨g1, 0, none⟩) (j + 1) cap1) (.slice ob j cb) (raws ++ [t]) masks ∧ Row (w5.alloc (.cells #[.int .i64 (mk : Int)] 3)) w.heap.size 131 [.slice none 0 0, .slice none 0 0] ∧ Plate (w5.alloc (.cells #[.int .i64 (mk : Int)] 3)) F B Sk ∧ Touch F w (w5.alloc (.cells #[.int .i64 (mk : Int)] 3))) := ⟨h5', (Below.heap_alloc w5 _ _ r5.lt).trans r5, p5.keep fun k hk _ => Below.heap_alloc w5 _ k hk, t5.trans (Touch.of_below ((Below.refl _ _).alloc (Nat.le_refl _) _))⟩
        have HW5 : Hid (wB.setCell ⟨w.heap.size + 1, 0, none⟩ (.slice (some ⟨g1, 0, none⟩) (j + 1) cap1) = w5) := hw5
        clear h5 h5' r5 p5 t5
        go_wp2_with (first | (at_builtin; (refine wpList_append_own_at _ rfl _ _ 92 rfl 0 3 q0 (.int .i64 0) 1 8 Tryz.underlying92 hq0 hy0 hy1 hy2 rfl (by decide) (.slice ob j cb) j (masks.map (Value.int .i64)) rfl hownD ⟨w5.heap.size, 0, none⟩ 1 1 [.int .i64 (mk : Int)] rfl rfl (World.news_of_block hnew) hone (by unfold maxLen; omega) (by omega) (Nat.zero_le _) ?_)))
        intro v2 wC hown2 hgrow2 _ hat2
        obtain ⟨g2, cap2, rfl, _, _⟩ := owns_form hown2 (by omega)
        obtain ⟨f1, f2, h6⟩ := HA.out.1.growM hsz5 (by rw [HJ.out.2.1]; exact hown2) hgrow2 (by first | exact hat2 | simpa using hat2)
        have hRne : ∀ k, (Value.slice ob j cb).ownBlock = some k → w.heap.size + 1 ≤ k := HA.out.1.fM
        have keepB : ∀ k, k ≤ w.heap.size → k < (w5.alloc (.cells #[.int .i64 (mk : Int)] 3)).heap.size → wC.heap[k]? = (w5.alloc (.cells #[.int .i64 (mk : Int)] 3)).heap[k]? := fun k hk hk2 => hgrow2.block k hk2 (fun e => by have := hRne k e.symm; omega)
        have HF : Hid (ImgMid (w.heap.size + 1) (wC.setCell ⟨w.heap.size + 1, 1, none⟩ (.slice (some ⟨g2, 0, none⟩) (j + 1) cap2)) (w.heap.size + 1) (.slice (some ⟨g1, 0, none⟩) (j + 1) cap1) (.slice (some ⟨g2, 0, none⟩) (j + 1) cap2) (rawsTo S (j + 1)) (masksTo S (j + 1)) ∧ Row (wC.setCell ⟨w.heap.size + 1, 1, none⟩ (.slice (some ⟨g2, 0, none⟩) (j + 1) cap2)) w.heap.size 131 [.slice none 0 0, .slice none 0 0] ∧ Plate (wC.setCell ⟨w.heap.size + 1, 1, none⟩ (.slice (some ⟨g2, 0, none⟩) (j + 1) cap2)) F B (stA S (j + 1)) ∧ Touch F w (wC.setCell ⟨w.heap.size + 1, 1, none⟩ (.slice (some ⟨g2, 0, none⟩) (j + 1) cap2))) := by
          have hb := (Below.refl (w.heap.size + 1) (w5.alloc (.cells #[.int .i64 (mk : Int)] 3))).grown hgrow2 hsz5 fun k hk => hRne k hk
          refine ⟨?_, Row.off ((keepB _ (Nat.le_refl _) HA.out.2.1.lt).trans HA.out.2.1) (by omega) _ _, ?_, Touch.setCell ⟨HA.out.2.2.2.1.trans (hb.mono (Nat.zero_le _)), fun k hk hn => (hb.block k (by omega)).trans (HA.out.2.2.2.2 k hk hn)⟩ _ _ _ (.inr (by omega))⟩
          · rw [HJ.out.2.2.1, HJ.out.2.2.2.1]
            exact h6
          · rw [HJ.out.2.2.2.2]
            exact HA.out.2.2.1.keep fun k hk hf => (Below.heap_setCell wC ⟨w.heap.size + 1, 1, none⟩ _ k (by have := hlt k hf; show k ≠ w.heap.size + 1; omega)).trans (keepB k (by have := hlt k hf; omega) hk)
        clear HA hownD hnew hone hown2 hgrow2 hat2 hRne keepB c1 hsz5 h6 hw5 HW5
        go_wp2
        go_roundw
        case rel => exact ⟨j + 1, some ⟨g1, 0, none⟩, cap1, some ⟨g2, 0, none⟩, cap2, by omega, by go_num, HF.out⟩
        case measure => simp [intOf]; omega
      · rw [if_neg he] at hra hma
        have hez : (er == 0) = false := by simp [he]
        have hzz := fun w => zeros512_any w
        have HJ : Hid (raws.length = j ∧ masks.length = j ∧ rawsTo S (j + 1) = raws ++ [fillS 0 512] ∧ masksTo S (j + 1) = masks ++ [255] ∧ stA S (j + 1) = Sk) := ⟨hJ1, hJ2, by rw [hJ3, hra], by rw [hJ4, hma], hJ5⟩
        generalize fillS 0 512 = zz at *
        clear hJ1 hJ2 hJ3 hJ4 hJ5 hra hma
        go_wp2_with fail
        refine hgt.mono ?_
        rintro e w3 ⟨rfl, p3, t3⟩
        have h3 := HM.out.1.keep (w' := w3) fun k hk hk2 => t3.2 k hk2 fun hf => by have := hlt k hf; omega
        have r3 : Row w3 w.heap.size 131 [.slice none 0 0, .slice none 0 0] := (t3.2 _ HM.out.2.1.lt fun hf => by have := hlt _ hf; omega).trans HM.out.2.1
        have H3 : Hid (ImgMid (w.heap.size + 1) w3 (w.heap.size + 1) (.slice oa j ca) (.slice ob j cb) raws masks ∧ Row w3 w.heap.size 131 [.slice none 0 0, .slice none 0 0] ∧ Plate w3 F B Sk ∧ Touch F w w3) := ⟨h3, r3, p3, HM.out.2.2.trans (t3.mono fun _ h => .inl h)⟩
        clear hgt t3 HM h3 r3 p3
        go_wp2_with fail
        refine (hzz _).mono ?_
        rintro e w4 ⟨rfl, hb4⟩
        have h4 := H3.out.1.keep (w' := w4) fun k _ hk => hb4.block k hk
        have r4 : Row w4 w.heap.size 131 [.slice none 0 0, .slice none 0 0] := (hb4.block _ H3.out.2.1.lt).trans H3.out.2.1
        have p4 : Plate w4 F B Sk := H3.out.2.2.1.keep fun k hk _ => hb4.block k hk
        have t4 : Touch F w w4 := H3.out.2.2.2.trans (Touch.of_below hb4)
        have hz4 : w.heap.size + 1 < w4.heap.size := h4.row.lt
        clear hzz hb4 H3 he hez
        have h4' := h4.keep (w' := w4.alloc (.cells #[.string zz] 9)) fun k _ hk => Below.heap_alloc w4 _ k hk
        have hnew : (w4.alloc (.cells #[.string zz] 9)).heap[w4.heap.size]? = some (.cells #[.string zz] 9 (0, 0)) := heap_alloc_new w4 _
        have hone : ∀ u ∈ ([.string zz] : List Value), u.oneCell' = true := by intro u hu; simp at hu; rw [hu]; rfl
        have hownC := h4'.raws
        have c0 : w4.cell? ⟨w.heap.size + 1, 0, none⟩ = some (.slice oa j ca) := h4.row.cell 0
        rw [HJ.out.1] at hownC
        have hsz4 : w.heap.size + 1 ≤ (w4.alloc (.cells #[.string zz] 9)).heap.size := by simp; omega
        have HA : Hid (ImgMid (w.heap.size + 1) (w4.alloc (.cells #[.string zz] 9)) (w.heap.size + 1) (.slice oa j ca) (.slice ob j cb) raws masks ∧ Row (w4.alloc (.cells #[.string zz] 9)) w.heap.size 131 [.slice none 0 0, .slice none 0 0] ∧ Plate (w4.alloc (.cells #[.string zz] 9)) F B Sk ∧ Touch F w (w4.alloc (.cells #[.string zz] 9))) := ⟨h4', (Below.heap_alloc w4 _ _ r4.lt).trans r4, p4.keep fun k hk _ => Below.heap_alloc w4 _ k hk, t4.trans (Touch.of_below ((Below.refl _ _).alloc (Nat.le_refl _) _))⟩
        clear h4 h4' r4 p4 t4
        go_wp2_with (first | (at_builtin; (refine wpList_append_own_at _ rfl _ _ 79 rfl 0 9 i0 (.string ⟨#[]⟩) 1 16 Tryz.underlying79 hi0 hz0 hz1 hz2 rfl (by decide) (.slice oa j ca) j (raws.map Value.string) rfl hownC ⟨w4.heap.size, 0, none⟩ 1 1 [.string zz] rfl rfl (World.news_of_block hnew) hone (by unfold maxLen; omega) (by omega) (Nat.zero_le _) ?_)))
        intro v1 wB hown1 hgrow1 _ hat1
        obtain ⟨g1, cap1, rfl, _, _⟩ := owns_form hown1 (by omega)
        obtain ⟨e1, e2, h5⟩ := HA.out.1.growR hsz4 (by rw [HJ.out.1]; exact hown1) hgrow1 (by first | exact hat1 | simpa using hat1)
        have hRne : ∀ k, (Value.slice oa j ca).ownBlock = some k → w.heap.size + 1 ≤ k := HA.out.1.fR
        have keepB : ∀ k, k ≤ w.heap.size → k < (w4.alloc (.cells #[.string zz] 9)).heap.size → wB.heap[k]? = (w4.alloc (.cells #[.string zz] 9)).heap[k]? := fun k hk hk2 => hgrow1.block k hk2 (fun e => by have := hRne k e.symm; omega)
        have r5 : Row (wB.setCell ⟨w.heap.size + 1, 0, none⟩ (.slice (some ⟨g1, 0, none⟩) (j + 1) cap1)) w.heap.size 131 [.slice none 0 0, .slice none 0 0] := Row.off ((keepB _ (Nat.le_refl _) HA.out.2.1.lt).trans HA.out.2.1) (by omega) _ _
        have p5 : Plate (wB.setCell ⟨w.heap.size + 1, 0, none⟩ (.slice (some ⟨g1, 0, none⟩) (j + 1) cap1)) F B Sk := HA.out.2.2.1.keep fun k hk hf => (Below.heap_setCell wB ⟨w.heap.size + 1, 0, none⟩ _ k (by have := hlt k hf; show k ≠ w.heap.size + 1; omega)).trans (keepB k (by have := hlt k hf; omega) hk)
        have t5 : Touch F w (wB.setCell ⟨w.heap.size + 1, 0, none⟩ (.slice (some ⟨g1, 0, none⟩) (j + 1) cap1)) := by
          have hb := (Below.refl (w.heap.size + 1) (w4.alloc (.cells #[.string zz] 9))).grown hgrow1 hsz4 fun k hk => hRne k hk
          refine Touch.setCell ⟨HA.out.2.2.2.1.trans (hb.mono (Nat.zero_le _)), fun k hk hn => (hb.block k (by omega)).trans (HA.out.2.2.2.2 k hk hn)⟩ _ _ _ (.inr (by omega))
        obtain ⟨w5, hw5⟩ : ∃ w5, wB.setCell ⟨w.heap.size + 1, 0, none⟩ (.slice (some ⟨g1, 0, none⟩) (j + 1) cap1) = w5 := ⟨_, rfl⟩
        rw [hw5] at h5 r5 p5 t5
        have hz5 : w.heap.size + 1 < w5.heap.size := h5.row.lt
        clear HA hownC hnew hone hown1 hgrow1 hat1 hRne keepB c0 hsz4
        have h5' := h5.keep (w' := w5.alloc (.cells #[.int .i64 255] 3)) fun k _ hk => Below.heap_alloc w5 _ k hk
        have hnew : (w5.alloc (.cells #[.int .i64 255] 3)).heap[w5.heap.size]? = some (.cells #[.int .i64 255] 3 (0, 0)) := heap_alloc_new w5 _
        have hone : ∀ u ∈ ([.int .i64 255] : List Value), u.oneCell' = true := by intro u hu; simp at hu; rw [hu]; rfl
        have hownD := h5'.masks
        have c1 : w5.cell? ⟨w.heap.size + 1, 1, none⟩ = some (.slice ob j cb) := h5.row.cell 1
        rw [HJ.out.2.1] at hownD
        have hsz5 : w.heap.size + 1 ≤ (w5.alloc (.cells #[.int .i64 255] 3)).heap.size := by simp; omega
        have HA : Hid (ImgMid (w.heap.size + 1) (w5.alloc (.cells #[.int .i64 255] 3)) (w.heap.size + 1) (.slice (some ⟨g1, 0, none⟩) (j + 1) cap1) (.slice ob j cb) (raws ++ [zz]) masks ∧ Row (w5.alloc (.cells #[.int .i64 255] 3)) w.heap.size 131 [.slice none 0 0, .slice none 0 0] ∧ Plate (w5.alloc (.cells #[.int .i64 255] 3)) F B Sk ∧ Touch F w (w5.alloc (.cells #[.int .i64 255] 3))) := ⟨h5', (Below.heap_alloc w5 _ _ r5.lt).trans r5, p5.keep fun k hk _ => Below.heap_alloc w5 _ k hk, t5.trans (Touch.of_below ((Below.refl _ _).alloc (Nat.le_refl _) _))⟩
        have HW5 : Hid (wB.setCell ⟨w.heap.size + 1, 0, none⟩ (.slice (some ⟨g1, 0, none⟩) (j + 1) cap1) = w5) := hw5
        clear h5 h5' r5 p5 t5
        go_wp2_with (first | (at_builtin; (refine wpList_append_own_at _ rfl _ _ 92 rfl 0 3 q0 (.int .i64 0) 1 8 Tryz.underlying92 hq0 hy0 hy1 hy2 rfl (by decide) (.slice ob j cb) j (masks.map (Value.int .i64)) rfl hownD ⟨w5.heap.size, 0, none⟩ 1 1 [.int .i64 255] rfl rfl (World.news_of_block hnew) hone (by unfold maxLen; omega) (by omega) (Nat.zero_le _) ?_)))
        intro v2 wC hown2 hgrow2 _ hat2
        obtain ⟨g2, cap2, rfl, _, _⟩ := owns_form hown2 (by omega)
        obtain ⟨f1, f2, h6⟩ := HA.out.1.growM hsz5 (by rw [HJ.out.2.1]; exact hown2) hgrow2 (by first | exact hat2 | simpa using hat2)
        have hRne : ∀ k, (Value.slice ob j cb).ownBlock = some k → w.heap.size + 1 ≤ k := HA.out.1.fM
        have keepB : ∀ k, k ≤ w.heap.size → k < (w5.alloc (.cells #[.int .i64 255] 3)).heap.size → wC.heap[k]? = (w5.alloc (.cells #[.int .i64 255] 3)).heap[k]? := fun k hk hk2 => hgrow2.block k hk2 (fun e => by have := hRne k e.symm; omega)
        have HF : Hid (ImgMid (w.heap.size + 1) (wC.setCell ⟨w.heap.size + 1, 1, none⟩ (.slice (some ⟨g2, 0, none⟩) (j + 1) cap2)) (w.heap.size + 1) (.slice (some ⟨g1, 0, none⟩) (j + 1) cap1) (.slice (some ⟨g2, 0, none⟩) (j + 1) cap2) (rawsTo S (j + 1)) (masksTo S (j + 1)) ∧ Row (wC.setCell ⟨w.heap.size + 1, 1, none⟩ (.slice (some ⟨g2, 0, none⟩) (j + 1) cap2)) w.heap.size 131 [.slice none 0 0, .slice none 0 0] ∧ Plate (wC.setCell ⟨w.heap.size + 1, 1, none⟩ (.slice (some ⟨g2, 0, none⟩) (j + 1) cap2)) F B (stA S (j + 1)) ∧ Touch F w (wC.setCell ⟨w.heap.size + 1, 1, none⟩ (.slice (some ⟨g2, 0, none⟩) (j + 1) cap2))) := by
          have hb := (Below.refl (w.heap.size + 1) (w5.alloc (.cells #[.int .i64 255] 3))).grown hgrow2 hsz5 fun k hk => hRne k hk
          refine ⟨?_, Row.off ((keepB _ (Nat.le_refl _) HA.out.2.1.lt).trans HA.out.2.1) (by omega) _ _, ?_, Touch.setCell ⟨HA.out.2.2.2.1.trans (hb.mono (Nat.zero_le _)), fun k hk hn => (hb.block k (by omega)).trans (HA.out.2.2.2.2 k hk hn)⟩ _ _ _ (.inr (by omega))⟩
          · rw [HJ.out.2.2.1, HJ.out.2.2.2.1]
            exact h6
          · rw [HJ.out.2.2.2.2]
            exact HA.out.2.2.1.keep fun k hk hf => (Below.heap_setCell wC ⟨w.heap.size + 1, 1, none⟩ _ k (by have := hlt k hf; show k ≠ w.heap.size + 1; omega)).trans (keepB k (by have := hlt k hf; omega) hk)
        clear HA hownD hnew hone hown2 hgrow2 hat2 hRne keepB c1 hsz5 h6 hw5 HW5
        go_wp2
        go_roundw
        case rel => exact ⟨j + 1, some ⟨g1, 0, none⟩, cap1, some ⟨g2, 0, none⟩, cap2, by omega, by go_num, HF.out⟩
        case measure => simp [intOf]; omega
    · obtain rfl : j = nb := by omega
      have j1 : ¬ (j : Int) < j := by omega
      have c0 : wr.cell? ⟨w.heap.size + 1, 0, none⟩ = some (.slice oa j ca) := him.row.cell 0
      have c1 : wr.cell? ⟨w.heap.size + 1, 1, none⟩ = some (.slice ob j cb) := him.row.cell 1
      have d0 : wr.cell? ⟨w.heap.size, 0, none⟩ = some (.slice none 0 0) := hres.cell 0
      have d1 : wr.cell? ⟨w.heap.size, 1, none⟩ = some (.slice none 0 0) := hres.cell 1
      have f0 := hres.frozen 0
      have f1 := hres.frozen 1
      have HF : Hid (ImgMid (w.heap.size + 1) wr (w.heap.size + 1) (.slice oa j ca) (.slice ob j cb) (rawsTo S j) (masksTo S j) ∧ Row wr w.heap.size 131 [.slice none 0 0, .slice none 0 0] ∧ Plate wr F B (stA S j) ∧ Touch F w wr) := ⟨him, hres, hpj, htj⟩
      clear him hres hpj htj
      have HG : Hid (((wr.setCell ⟨w.heap.size, 0, none⟩ (.slice oa j ca)).setCell ⟨w.heap.size, 1, none⟩ (.slice ob j cb)).heap[w.heap.size]? = some (.cells #[.slice oa j ca, .slice ob j cb] 131 (0, 0))) := (HF.out.2.1.setL 0 (.slice oa j ca)).setL 1 (.slice ob j cb)
      have hk2 : ∀ k, k ≠ w.heap.size → ((wr.setCell ⟨w.heap.size, 0, none⟩ (.slice oa j ca)).setCell ⟨w.heap.size, 1, none⟩ (.slice ob j cb)).heap[k]? = wr.heap[k]? := fun k hk => (Below.heap_setCell _ ⟨w.heap.size, 1, none⟩ _ k hk).trans (Below.heap_setCell _ ⟨w.heap.size, 0, none⟩ _ k hk)
      have HE : Hid ((∃ M, ImgMid w.heap.size ((wr.setCell ⟨w.heap.size, 0, none⟩ (.slice oa j ca)).setCell ⟨w.heap.size, 1, none⟩ (.slice ob j cb)) M (.slice oa j ca) (.slice ob j cb) (rawsTo S j) (masksTo S j)) ∧ Plate ((wr.setCell ⟨w.heap.size, 0, none⟩ (.slice oa j ca)).setCell ⟨w.heap.size, 1, none⟩ (.slice ob j cb)) F B (stA S j) ∧ Touch F w ((wr.setCell ⟨w.heap.size, 0, none⟩ (.slice oa j ca)).setCell ⟨w.heap.size, 1, none⟩ (.slice ob j cb))) := by
        refine ⟨⟨w.heap.size + 1, (HF.out.1.keep fun k hk _ => hk2 k (by omega)).low_mono (Nat.le_succ _)⟩, HF.out.2.2.1.keep fun k _ hf => hk2 k (by have := hlt k hf; omega), (HF.out.2.2.2.setCell _ _ _ (.inr (Nat.le_refl _))).setCell _ _ _ (.inr (Nat.le_refl _))⟩
      clear hk2
      go_wp2_with fail
      exact bodyPost_ret (v := .agg #[.slice oa j ca, .slice ob j cb]) (results_cell_row Tryz.results62 _ _ w.heap.size 131 _ (0, 0) _ rfl HG.out Tryz.underlying131 rfl (by kernel_rfl)) rfl ⟨_, _, _, _, rfl, HE.out⟩
end Go.Proofs.YtoopaigpjefonaaGreatDoor
