/- plate's New: a device of so many sectors, all of bytes 0, in blocks of its own. · The law's bytes (a byte, so many times), and its awake: chapter 4's first example. · The calls of one device in a law: it lies at or above a bound, and nothing below the bound is changed. · Owned slices that lie apart. -/
import Derived.Test.YtbmjablmmlnieaaGreatDoorMg10
import Derived.Deep.OwnRows
import Derived.Test.YtbmjablmmlnieaaGreatDoorMg14
import Derived.Test.YtbmjablmmlnieaaGreatDoorMg11
namespace Go.Proofs.YtbmjablmmlnieaaGreatDoor
set_option maxRecDepth 20000
open Go.RowKit

def newE (n : Int) : Int := if n < 0 ∨ 32768 < n then 1 else 0
def newP (n : Nat) : PS := ⟨List.replicate n (fillS 0 64), [], -1, true, 0, 0⟩
/-- The first j sectors are filled. -/
def newJ (n j : Nat) : PS := ⟨List.replicate j (fillS 0 64) ++ List.replicate (n - j) ByteArray.empty, [], -1, true, 0, 0⟩
theorem newJ_length (n j : Nat) (h : j ≤ n) : (newJ n j).kept.length = n := by simp [newJ]; omega
theorem newJ_all (n : Nat) : newJ n n = newP n := by simp [newJ, newP]
theorem newJ_step (n j : Nat) (h : j < n) : { newJ n j with kept := (newJ n j).kept.set j (fillS 0 64) } = newJ n (j + 1) := by
  have h1 : (List.replicate j (fillS 0 64) ++ List.replicate (n - j) ByteArray.empty).set j (fillS 0 64) = List.replicate (j + 1) (fillS 0 64) ++ List.replicate (n - (j + 1)) ByteArray.empty := by
    obtain ⟨m, hm⟩ : ∃ m, n - j = m + 1 := ⟨n - j - 1, by omega⟩
    rw [hm, show n - (j + 1) = m by omega, List.set_append_right _ _ (by simp), List.length_replicate, Nat.sub_self, List.replicate_succ, List.set_cons_zero, List.replicate_succ' (n := j), List.append_assoc]
    rfl
  simp only [newJ, h1]
theorem plate_new (w : World) (F : Nat → Prop) (B K N n : Nat) (hn : n ≤ 32768) (h1 : Row w K 9 (List.replicate n (.string ⟨#[]⟩))) (h2 : Row w N 3 (List.replicate n (.int .i64 0)))
    (h3 : Row w B 68 [.slice (some ⟨K, 0, none⟩) n n, .slice none 0 0, .slice (some ⟨N, 0, none⟩) n n, .int .i64 (-1), .bool true, .int .i64 0, .int .i64 0])
    (hB : F B) (hK : F K) (hN : F N) (bk : B ≠ K) (bn : B ≠ N) (kn : K ≠ N) : PlateAt w F B K N (.slice none 0 0) (newJ n 0) := by
  have hl := newJ_length n 0 (Nat.zero_le _)
  refine ⟨?_, ?_, ?_, World.ownsRow_nil _ _ _ _, hB, hK, hN, fun g hg => (by cases hg), bk, bn, kn, by simp [Value.ownBlock], by simp [Value.ownBlock], by simp [Value.ownBlock], by rw [hl]; exact hn, by simp [newJ], ?_, by simp [newJ]⟩
  · rw [hl]; exact h3
  · have e : (newJ n 0).kept.map Value.string = List.replicate n (.string ⟨#[]⟩) := by simp only [newJ, List.replicate_zero, List.nil_append, Nat.sub_zero, List.map_replicate]; rfl
    rw [e]; exact h1
  · have e : rowF (newJ n 0).kept.length (fun i => Value.int .i64 (lastOf (newJ n 0).wait i : Nat)) = List.replicate n (.int .i64 0) := by
      rw [hl, rowF]
      simp only [newJ, lastOf_nil]
      rw [List.map_const', List.length_range]
      rfl
    rw [e]; exact h2
  · intro s hs
    simp [newJ] at hs
    exact .inl (by rw [hs.2]; rfl)

theorem info_string : (Tryz.prog.info? 9).map (fun i => (i.zero, i.size, i.bytes)) = some (some (.string ⟨#[]⟩), 1, 16) := by kernel_rfl
theorem info_int : (Tryz.prog.info? 3).map (fun i => (i.zero, i.size, i.bytes)) = some (some (.int .i64 0), 1, 8) := by kernel_rfl

set_option maxHeartbeats 400000 in
theorem new_bad (n : Int) (hn : n < 0 ∨ 32768 < n) (w : World) :
    Calls Tryz.prog 7 #[.int .i64 n] w fun e w' => e = .returned (.tuple #[.pointer none, .int .i64 1]) ∧ w' = w := by
  rcases hn with h | h
  · go_enter Tryz.func7, Tryz.ntmps7
    go_wp2
    go_ret2
    exact ⟨rfl, rfl⟩
  · have h0 : ¬ n < 0 := by omega
    go_enter Tryz.func7, Tryz.ntmps7
    go_wp2
    go_ret2
    exact ⟨rfl, rfl⟩

theorem three_rows (w : World) (a1 a2 a3 : Array Value) (t1 t2 t3 : TypeId) :
    (((w.alloc (.cells a1 t1)).alloc (.cells a2 t2)).alloc (.cells a3 t3)).drew.heap[w.heap.size]? = some (.cells a1 t1 (0, 0)) ∧ (((w.alloc (.cells a1 t1)).alloc (.cells a2 t2)).alloc (.cells a3 t3)).drew.heap[w.heap.size + 1]? = some (.cells a2 t2 (0, 0)) ∧
    (((w.alloc (.cells a1 t1)).alloc (.cells a2 t2)).alloc (.cells a3 t3)).drew.heap[w.heap.size + 1 + 1]? = some (.cells a3 t3 (0, 0)) ∧ Below w.heap.size w (((w.alloc (.cells a1 t1)).alloc (.cells a2 t2)).alloc (.cells a3 t3)).drew := by
  have e1 : (w.alloc (.cells a1 t1)).heap.size = w.heap.size + 1 := by simp
  have e2 : ((w.alloc (.cells a1 t1)).alloc (.cells a2 t2)).heap.size = w.heap.size + 1 + 1 := by simp
  refine ⟨?_, ?_, ?_, ((((Below.refl _ _).alloc (Nat.le_refl _) _).alloc (by omega) _).alloc (by omega) _).drew⟩
  · show (((w.alloc (.cells a1 t1)).alloc (.cells a2 t2)).alloc (.cells a3 t3)).heap[w.heap.size]? = _
    rw [Below.heap_alloc _ _ _ (by omega), Below.heap_alloc _ _ _ (by omega)]
    exact heap_alloc_new w _
  · show (((w.alloc (.cells a1 t1)).alloc (.cells a2 t2)).alloc (.cells a3 t3)).heap[w.heap.size + 1]? = _
    rw [Below.heap_alloc _ _ _ (by omega), ← e1]
    exact heap_alloc_new _ _
  · show (((w.alloc (.cells a1 t1)).alloc (.cells a2 t2)).alloc (.cells a3 t3)).heap[w.heap.size + 1 + 1]? = _
    rw [← e2]
    exact heap_alloc_new _ _
theorem made_row {w : World} {g n : Nat} {t : TypeId} {z : Value} (h : w.heap[g]? = some (.cells (madeCells #[z] n) t (0, 0))) : Row w g t (List.replicate n z) := by
  rw [Row, ← toList_madeCells_one]; exact h

set_option maxHeartbeats 1000000 in
theorem new_any (n : Nat) (hn : n ≤ 32768) (w : World) :
    Calls Tryz.prog 7 #[.int .i64 n] w fun e w' => ∃ B, e = .returned (.tuple #[.pointer (some ⟨B, 0, none⟩), .int .i64 0]) ∧ Plate w' (fun k => w.heap.size ≤ k ∧ k < w'.heap.size) B (newP n) ∧ Below w.heap.size w w' := by
  have hm1 := run_make_row' (P := Tryz.prog) 57 9 (.string ⟨#[]⟩) 16 Tryz.underlying57 info_string rfl .i64 .i64 n (by omega) (by omega)
  have hm2 := run_make_row' (P := Tryz.prog) 58 3 (.int .i64 0) 8 Tryz.underlying58 info_int rfl .i64 .i64 n (by omega) (by omega)
  have i0 : ¬ (n : Int) < 0 := by omega
  have i1 : ¬ (32768 : Int) < n := by omega
  go_enter Tryz.func7, Tryz.ntmps7
  go_wp2_with fail
  go_region
  all_goals
    first
      | have HT := three_rows w (madeCells #[Value.string ⟨#[]⟩] n) (madeCells #[Value.int .i64 0] n) #[.slice (some ⟨w.heap.size, 0, none⟩) n n, .slice none 0 0, .slice (some ⟨w.heap.size + 1, 0, none⟩) n n, .int .i64 (-1), .bool true, .int .i64 0, .int .i64 0] 9 3 68
        obtain ⟨w1, hw1⟩ : ∃ w1, (((w.alloc (.cells (madeCells #[Value.string ⟨#[]⟩] n) 9)).alloc (.cells (madeCells #[Value.int .i64 0] n) 3)).alloc (.cells #[.slice (some ⟨w.heap.size, 0, none⟩) n n, .slice none 0 0, .slice (some ⟨w.heap.size + 1, 0, none⟩) n n, .int .i64 (-1), .bool true, .int .i64 0, .int .i64 0] 68)).drew = w1 := ⟨_, rfl⟩
        rw [hw1]
        rw [hw1] at HT
        clear hw1
        obtain ⟨r1, r2, r3, hb1⟩ := HT
        have hP := plate_new w1 (fun k => w.heap.size ≤ k) (w.heap.size + 1 + 1) w.heap.size (w.heap.size + 1) n hn (made_row r1) (made_row r2) r3 (by omega) (by omega) (by omega) (by omega) (by omega) (by omega)
      | have HT := three_rows w (madeCells #[Value.int .i64 0] n) (madeCells #[Value.string ⟨#[]⟩] n) #[.slice (some ⟨w.heap.size + 1, 0, none⟩) n n, .slice none 0 0, .slice (some ⟨w.heap.size, 0, none⟩) n n, .int .i64 (-1), .bool true, .int .i64 0, .int .i64 0] 3 9 68
        obtain ⟨w1, hw1⟩ : ∃ w1, (((w.alloc (.cells (madeCells #[Value.int .i64 0] n) 3)).alloc (.cells (madeCells #[Value.string ⟨#[]⟩] n) 9)).alloc (.cells #[.slice (some ⟨w.heap.size + 1, 0, none⟩) n n, .slice none 0 0, .slice (some ⟨w.heap.size, 0, none⟩) n n, .int .i64 (-1), .bool true, .int .i64 0, .int .i64 0] 68)).drew = w1 := ⟨_, rfl⟩
        rw [hw1]
        rw [hw1] at HT
        clear hw1
        obtain ⟨r1, r2, r3, hb1⟩ := HT
        have hP := plate_new w1 (fun k => w.heap.size ≤ k) (w.heap.size + 1 + 1) (w.heap.size + 1) w.heap.size n hn (made_row r2) (made_row r1) r3 (by omega) (by omega) (by omega) (by omega) (by omega) (by omega)
    clear r1 r2 r3 hm1 hm2
    have HP : Hid (Below w.heap.size w w1 ∧ ∃ K N, PlateAt w1 (fun k => w.heap.size ≤ k) (w.heap.size + 1 + 1) K N (.slice none 0 0) (newJ n 0)) := ⟨hb1, _, _, hP⟩
    clear hP hb1
    go_wp2_with fail
    refine (repeat_blank _).mono ?_
    rintro e w2 ⟨rfl, hb2⟩
    obtain ⟨hb1, K, N, hP⟩ := HP.out
    have hP2 := hP.keep (w' := w2) fun k hk _ => hb2.block k hk
    have hb12 := hb1.trans (hb2.mono hb1.size)
    have c0 := hP2.c0
    rw [newJ_length n 0 (Nat.zero_le _)] at c0
    have HQ : Hid (Below w.heap.size w w2 ∧ ∃ K N, PlateAt w2 (fun k => w.heap.size ≤ k) (w.heap.size + 1 + 1) K N (.slice none 0 0) (newJ n 0)) := ⟨hb12, _, _, hP2⟩
    obtain ⟨s, hs⟩ : ∃ s, s = fillS 0 64 := ⟨_, rfl⟩
    rw [← hs]
    have HS : Hid (s = fillS 0 64) := hs
    clear hP hP2 hb1 hb2 hb12 HP hs
    go_wp2_with fail
    go_loopw [25] (fun v wr => ∃ j : Nat, j ≤ n ∧ v = .int .i64 j ∧ Below w.heap.size w wr ∧ ∃ K N, PlateAt wr (fun k => w.heap.size ≤ k) (w.heap.size + 1 + 1) K N (.slice none 0 0) (newJ n j)) (fun v _ => n - (intOf v).toNat)
    case atStart => exact ⟨0, Nat.zero_le _, rfl, HQ.out.1, HQ.out.2⟩
    case round =>
      clear HQ c0
      obtain ⟨j, hj, rfl, hb, K, N, hP⟩ := hrel
      by_cases hlt : j < n
      · have hl := newJ_length n j hj
        have c0 := hP.c0
        have ck := hP.cK j (by omega)
        generalize (newJ n j).kept[j] = old at ck
        rw [hl] at c0
        have fk : wr.frozen? ⟨K, j, none⟩ = false := hP.kept.frozen j
        have j1 : (j : Int) < n := by omega
        have hP3 := hP.setKept j s (.inr (by rw [HS.out, fillS_size]))
        rw [HS.out, newJ_step n j hlt, ← HS.out] at hP3
        have hb3 : Below w.heap.size w (wr.setCell ⟨K, j, none⟩ (.string s)) := hb.setCell (p := ⟨K, j, none⟩) hP.fK _
        obtain ⟨w3, hw3⟩ : ∃ w3, wr.setCell ⟨K, j, none⟩ (.string s) = w3 := ⟨_, rfl⟩
        rw [hw3] at hP3 hb3
        have HF : Hid (Below w.heap.size w w3 ∧ PlateAt w3 (fun k => w.heap.size ≤ k) (w.heap.size + 1 + 1) K N (.slice none 0 0) (newJ n (j + 1))) := ⟨hb3, hP3⟩
        clear hP hP3 hb hb3
        go_wp2
        go_roundw
        case rel => exact ⟨j + 1, by omega, by go_num, HF.out.1, K, N, HF.out.2⟩
        case measure => simp [intOf]; omega
      · obtain rfl : j = n := by omega
        rw [newJ_all] at hP
        have HF : Hid (Below w.heap.size w wr ∧ PlateAt wr (fun k => w.heap.size ≤ k) (w.heap.size + 1 + 1) K N (.slice none 0 0) (newP j)) := ⟨hb, hP⟩
        clear hP hb
        go_wp2
        go_ret2
        exact ⟨w.heap.size + 1 + 1, rfl, ⟨K, N, _, HF.out.2.mono fun k hk h => ⟨h, hk⟩⟩, HF.out.1⟩
end Go.Proofs.YtbmjablmmlnieaaGreatDoor

namespace Go.Proofs.YtbmjablmmlnieaaGreatDoor
set_option maxRecDepth 20000
open Go.RowKit

theorem fillS_num (v n : Nat) : fillS v n = strOfNums ((List.replicate n v).map fun (x : Nat) => (x : Int)) := rfl

theorem awake_state (s : ByteArray) (hs : s.size = 64) : writeE (newP 2) 0 s = 0 ∧ (writeP (newP 2) 0 s).wait.length = 1 ∧ readS (startP [true] (writeP (newP 2) 0 s)) 0 = s ∧ readE (startP [true] (writeP (newP 2) 0 s)) 0 = 0 ∧ (startP [true] (writeP (newP 2) 0 s)).wait.length = 0 := by
  have e1 : writeP (newP 2) 0 s = ⟨[fillS 0 64, fillS 0 64], [(0, s)], -1, true, 0, 1⟩ := by simp [writeP, hs, newP, hasB, wrap64]
  have e2 : startP [true] (writeP (newP 2) 0 s) = ⟨[s, fillS 0 64], [], -1, true, 0, 1⟩ := by rw [e1]; simp [startP, settleP, keptAt, lastsB]
  refine ⟨by simp [writeE, hs, newP, hasB], by rw [e1]; rfl, ?_, ?_, by rw [e2]; rfl⟩
  · rw [e2]; simp [readS, hasB, textOf, textR, heldS, keptS]
  · rw [e2]; simp [readE, hasB, textOf, textR, heldE, keptS, hs]

end Go.Proofs.YtbmjablmmlnieaaGreatDoor

namespace Go.Proofs.YtbmjablmmlnieaaGreatDoor
set_option maxRecDepth 20000
open Go.RowKit

def OnB (base : Nat) (w : World) (B : Nat) (S : PS) : Prop := ∃ F, Plate w F B S ∧ ∀ k, F k → base ≤ k ∧ k < w.heap.size
theorem OnB.base {base B : Nat} {w : World} {S : PS} (h : OnB base w B S) : base ≤ w.heap.size := by
  obtain ⟨F, ⟨K, N, wv, hp⟩, hF⟩ := h
  have := hF B hp.fB
  omega
theorem OnB.below {base B : Nat} {w w' : World} {S : PS} (h : OnB base w B S) (hb : Below w.heap.size w w') : OnB base w' B S := by
  obtain ⟨F, hp, hF⟩ := h
  exact ⟨F, hp.below hb, fun k hk => ⟨(hF k hk).1, Nat.lt_of_lt_of_le (hF k hk).2 hb.size⟩⟩
theorem OnB.of {base B : Nat} {w w' : World} {F : Nat → Prop} {S : PS} (hw : base ≤ w.heap.size) (hF : ∀ k, F k → base ≤ k ∧ k < w.heap.size) (hp : Plate w' (grow F w w') B S) (ht : Touch F w w') : OnB base w' B S ∧ Below base w w' :=
  ⟨⟨_, hp, fun _ hk => by
    rcases hk with h | h
    · have := hF _ h; have := ht.size; omega
    · omega⟩, ht.below hw fun k h => (hF k h).1⟩
theorem OnB.same {base B : Nat} {w w' : World} {F : Nat → Prop} {S : PS} (hw : base ≤ w.heap.size) (hF : ∀ k, F k → base ≤ k ∧ k < w.heap.size) (hp : Plate w' F B S) (ht : Touch F w w') : OnB base w' B S ∧ Below base w w' :=
  OnB.of hw hF (hp.mono fun _ _ h => .inl h) ht

theorem new_on (n : Nat) (hn : n ≤ 32768) (w : World) :
    Calls Tryz.prog 7 #[.int .i64 n] w fun e w' => ∃ B, e = .returned (.tuple #[.pointer (some ⟨B, 0, none⟩), .int .i64 0]) ∧ OnB w.heap.size w' B (newP n) ∧ Below w.heap.size w w' :=
  (new_any n hn w).mono fun _ _ ⟨B, he, hp, hb⟩ => ⟨B, he, ⟨_, hp, fun _ h => h⟩, hb⟩
theorem read_on (base B : Nat) (S : PS) (at_ : Int) (w : World) (hp : OnB base w B S) (hw : S.wait.length ≤ 1000000) :
    Calls Tryz.prog 114 #[.pointer (some ⟨B, 0, none⟩), .int .i64 at_] w fun e w' => e = .returned (.tuple #[.string (readS S at_), .int .i64 (readE S at_)]) ∧ OnB base w' B (readP S at_) ∧ Below base w w' := by
  have hb := hp.base
  obtain ⟨F, hp, hF⟩ := hp
  exact (read_any B F S at_ w hp hw).mono fun e w' ⟨he, h1, h2⟩ => ⟨he, OnB.same hb hF h1 h2⟩
theorem held_on (base B : Nat) (S : PS) (at_ : Int) (w : World) (hp : OnB base w B S) :
    Calls Tryz.prog 129 #[.pointer (some ⟨B, 0, none⟩), .int .i64 at_] w fun e w' => e = .returned (.tuple #[.string (heldS S at_), .int .i64 (heldE S at_)]) ∧ w' = w := by
  obtain ⟨F, hp, hF⟩ := hp
  exact held_any B F S at_ w hp
theorem write_on (base B : Nat) (S : PS) (at_ : Int) (s : ByteArray) (w : World) (hp : OnB base w B S) (hw : S.wait.length ≤ 1000000) :
    Calls Tryz.prog 135 #[.pointer (some ⟨B, 0, none⟩), .int .i64 at_, .string s] w fun e w' => e = .returned (.int .i64 (writeE S at_ s)) ∧ OnB base w' B (writeP S at_ s) ∧ Below base w w' := by
  have hb := hp.base
  obtain ⟨F, hp, hF⟩ := hp
  exact (write_any B F S at_ s w hp hw).mono fun e w' ⟨he, h1, h2⟩ => ⟨he, OnB.of hb hF h1 h2⟩
theorem flush_on (base B : Nat) (S : PS) (w : World) (hp : OnB base w B S) (hw : S.wait.length ≤ 1000000) :
    Calls Tryz.prog 105 #[.pointer (some ⟨B, 0, none⟩)] w fun e w' => e = .returned (.int .i64 (flushE S)) ∧ OnB base w' B (flushP S) ∧ Below base w w' := by
  have hb := hp.base
  obtain ⟨F, hp, hF⟩ := hp
  exact (flush_any B F S w hp hw).mono fun e w' ⟨he, h1, h2⟩ => ⟨he, OnB.same hb hF h1 h2⟩
theorem arm_on (base B : Nat) (S : PS) (n : Int) (hn : n < 9223372036854775808) (w : World) (hp : OnB base w B S) :
    Calls Tryz.prog 20 #[.pointer (some ⟨B, 0, none⟩), .int .i64 n] w fun e w' => e = .returned (.int .i64 (armE S n)) ∧ OnB base w' B (armP S n) ∧ Below base w w' := by
  have hb := hp.base
  obtain ⟨F, hp, hF⟩ := hp
  exact (arm_any B F S n hn w hp).mono fun e w' ⟨he, h1, h2⟩ => ⟨he, OnB.same hb hF h1 h2⟩
theorem start_on (base B : Nat) (S : PS) (kv : Value) (l : List Bool) (w : World) (hp : OnB base w B S) (hw : S.wait.length ≤ 1000000) (hk : Bools w (fun k => base ≤ k) kv l) :
    Calls Tryz.prog 21 #[.pointer (some ⟨B, 0, none⟩), kv] w fun e w' => e = .returned (.tuple #[]) ∧ OnB base w' B (startP l S) ∧ Below base w w' := by
  have hb := hp.base
  obtain ⟨F, hp, hF⟩ := hp
  exact (start_any B F S kv l w hp hw (hk.mono fun k _ h => (hF k h).1)).mono fun e w' ⟨he, h1, h2⟩ => ⟨he, OnB.same hb hF h1 h2⟩
theorem up_on (base B : Nat) (S : PS) (w : World) (hp : OnB base w B S) :
    Calls Tryz.prog 40 #[.pointer (some ⟨B, 0, none⟩)] w fun e w' => e = .returned (.bool S.up) ∧ w' = w := by
  obtain ⟨F, hp, hF⟩ := hp
  exact up_any B F S w hp
theorem sectors_on (base B : Nat) (S : PS) (w : World) (hp : OnB base w B S) :
    Calls Tryz.prog 60 #[.pointer (some ⟨B, 0, none⟩)] w fun e w' => e = .returned (.int .i64 (S.kept.length : Nat)) ∧ w' = w := by
  obtain ⟨F, hp, hF⟩ := hp
  exact sectors_any B F S w hp
end Go.Proofs.YtbmjablmmlnieaaGreatDoor

namespace Go.Proofs.YtbmjablmmlnieaaGreatDoor
set_option maxRecDepth 20000
open Go.RowKit

/-- A block is not one of an owned slice's. -/
def Apart (v : Value) (b : Nat) : Prop := v.ownBlock ≠ some b
def Apart2 (v u : Value) : Prop := ∀ g, v.ownBlock = some g → u.ownBlock ≠ some g
end Go.Proofs.YtbmjablmmlnieaaGreatDoor
