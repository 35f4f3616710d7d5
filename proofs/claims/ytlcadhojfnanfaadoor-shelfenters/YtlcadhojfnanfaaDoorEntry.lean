/- pack.Entry, called with any entry whose name is a text of Go, tells the bytes entS and the error entE, and changes nothing that was there. -/
import Derived.Test.YtlcadhojfnanfaaDoorZeros
import Derived.Test.YtlcadhojfnanfaaDoorNamed
namespace Go.Proofs.YtlcadhojfnanfaaDoor
set_option maxRecDepth 20000
open Go.RowKit Go.Lib

theorem entry_long (s : ByteArray) (a1 a2 : Int) (h : (19 : Int) < s.size) (w : World) :
    Calls Tryd.prog 22 #[.agg #[.string s, .int .i64 a1, .int .i64 a2]] w fun e w' => e = .returned (.tuple #[.string ByteArray.empty, .int .i64 4]) ∧ Below w.heap.size w w' := by
  go_enter Tryd.func22, Tryd.ntmps22
  go_wp2
  go_ret2
  exact ⟨rfl, (Below.refl _ _).alloc (Nat.le_refl _) _⟩

set_option maxHeartbeats 400000 in
theorem entry_form (s : ByteArray) (a1 a2 : Int) (h : ¬ (19 : Int) < s.size) (hf : entFree s a1 a2 = false) (w : World) :
    Calls Tryd.prog 22 #[.agg #[.string s, .int .i64 a1, .int .i64 a2]] w fun e w' => e = .returned (.tuple #[.string ByteArray.empty, .int .i64 5]) ∧ Below w.heap.size w w' := by
  go_enter Tryd.func22, Tryd.ntmps22
  go_wp2_with fail
  refine (named_any s a1 a2 _).mono ?_
  rintro e w1 ⟨rfl, hb1⟩
  rw [hf]
  go_wp2
  go_ret2
  exact ⟨rfl, ((Below.refl _ _).alloc (Nat.le_refl _) _).trans (hb1.mono (by simp))⟩

set_option maxHeartbeats 1000000 in
theorem entry_in (s : ByteArray) (a1 a2 : Int) (hs : s.size ≤ 19) (hf : entFree s a1 a2 = true) (w : World) :
    Calls Tryd.prog 22 #[.agg #[.string s, .int .i64 a1, .int .i64 a2]] w fun e w' => e = .returned (.tuple #[.string (recS (entPre s) (entPs a1 a2) 0), .int .i64 (recE (entPs a1 a2))]) ∧ Below w.heap.size w w' := by
  have hs1 : ¬ (19 : Int) < s.size := by omega
  have HL : Hid (putE s.size 1 = 0 ∧ (putS s.size 1).data.toList.length = 1) := entLen hs
  have hls : s.data.toList.length = s.size := by simp
  have HLS : Hid (s.data.toList.length = s.size) := hls
  clear hls
  go_enter Tryd.func22, Tryd.ntmps22
  go_wp2_with fail
  refine (named_any s a1 a2 _).mono ?_
  rintro e w0 ⟨rfl, hb0⟩
  rw [hf]
  have c0 := cells_kept hb0 0 _ rfl
  have hb0' : Below w.heap.size w w0 := ((Below.refl _ _).alloc (Nat.le_refl _) _).trans (hb0.mono (by simp))
  have hsz : w.heap.size < w0.heap.size := by have := hb0.size; simp at this; omega
  have HC : Hid (∀ i (v : Value), (#[.string s, .int .i64 a1, .int .i64 a2] : Array Value)[i]? = some v → w0.cell? ⟨w.heap.size, i, none⟩ = some v) := fun i v h => cells_kept hb0 i v h
  clear hb0 hf
  go_wp2_with fail
  have hw1 := wr_new w0 w0.heap.size rfl
  have hb1 : Below w0.heap.size w0 (w0.alloc (.cells #[.slice none 0 0, .int .i64 0] 59)) := (Below.refl _ _).alloc (Nat.le_refl _) _
  generalize w0.alloc (.cells #[.slice none 0 0, .int .i64 0] 59) = w1 at *
  clear c0
  refine (wnumber_any w0.heap.size [] 0 s.size 1 _ hw1 (by simp)).mono ?_
  rintro en w2 ⟨rfl, hw2, hbn⟩
  have hb2 := hb1.trans hbn
  have hE : stepE 0 s.size 1 = 0 := by unfold stepE; rw [if_pos HL.out.1]
  rw [hE, List.nil_append] at hw2
  clear hw1 hb1 hbn hE
  have c0 := (hb2.cell (p := ⟨w.heap.size, 0, none⟩) hsz).trans (HC.out 0 _ rfl)
  go_wp2_with fail
  refine (wbytes_any w0.heap.size _ 0 s _ hw2 (by rw [HL.out.2]; omega)).mono ?_
  rintro en w3 ⟨rfl, hw3, hbn⟩
  have hb3 := hb2.trans hbn
  clear hw2 hb2 hbn c0
  have hl3 : ((putS s.size 1).data.toList ++ s.data.toList).length = 1 + s.size := by rw [List.length_append, HL.out.2, HLS.out]
  have HL3 : Hid (((putS s.size 1).data.toList ++ s.data.toList).length = 1 + s.size) := hl3
  clear hl3
  go_wp2_with fail
  refine (wzeros_any w0.heap.size _ 0 20 _ hw3 (by rw [HL3.out]; omega) (by decide)).mono ?_
  rintro en w4 ⟨rfl, hw4, hbn⟩
  have hb4 := hb3.trans hbn
  clear hw3 hb3 hbn
  replace hw4 : Wr w4 59 5 w0.heap.size (entPre s ++ laidL []) (errL 0 []) := by
    rw [HL3.out, show 20 - (1 + s.size) = 19 - s.size by omega] at hw4
    show Wr w4 _ _ _ (entPre s ++ []) 0
    rw [List.append_nil]
    exact hw4
  have HP : Hid ((entPre s).length = 20) := by
    show (entPre s).length = 20
    unfold entPre
    rw [List.length_append, HL3.out, List.length_replicate]; omega
  have c1 := (hb4.cell (p := ⟨w.heap.size, 1, none⟩) hsz).trans (HC.out 1 _ rfl)
  go_wp2_with fail
  refine (wnumberP w0.heap.size (entPre s) [] [(a1, 4)] a1 4 rfl _ hw4 (by rw [HP.out]; simp)).mono ?_
  rintro en w5 ⟨rfl, hw5, hbn⟩
  have hb5 := hb4.trans hbn
  clear hw4 hb4 hbn c1
  have c2 := (hb5.cell (p := ⟨w.heap.size, 2, none⟩) hsz).trans (HC.out 2 _ rfl)
  go_wp2_with fail
  refine (wnumberP w0.heap.size (entPre s) [(a1, 4)] (entPs a1 a2) a2 4 rfl _ hw5 (by rw [HP.out]; simp)).mono ?_
  rintro en w6 ⟨rfl, hw6, hbn⟩
  have hb6 := hb5.trans hbn
  clear hw5 hb5 hbn c2
  go_wp2_with fail
  refine (wrecordP w0.heap.size (entPre s) (entPs a1 a2) 28 0 (by decide) rfl (by rw [HP.out]; rfl) _ hw6).mono ?_
  rintro en w7 ⟨rfl, hb7⟩
  go_wp2
  go_ret2
  have hbw : Below w.heap.size w w6 := hb0'.trans (hb6.mono (by omega))
  exact ⟨rfl, hbw.trans (hb7.mono hbw.size)⟩

theorem entry_any (s : ByteArray) (a1 a2 : Int) (w : World) :
    Calls Tryd.prog 22 #[.agg #[.string s, .int .i64 a1, .int .i64 a2]] w fun e w' => e = .returned (.tuple #[.string (entS s a1 a2), .int .i64 (entE s a1 a2)]) ∧ Below w.heap.size w w' := by
  by_cases hs : s.size ≤ 19
  · cases hf : entFree s a1 a2 with
    | true =>
      have e1 : entS s a1 a2 = recS (entPre s) (entPs a1 a2) 0 := by unfold entS; rw [if_pos ⟨hs, hf⟩]
      have e2 : entE s a1 a2 = recE (entPs a1 a2) := by unfold entE; rw [if_pos hs, if_pos hf]
      rw [e1, e2]
      exact entry_in s a1 a2 hs hf w
    | false =>
      have e1 : entS s a1 a2 = ByteArray.empty := by unfold entS; rw [if_neg (by rw [hf]; simp)]
      have e2 : entE s a1 a2 = 5 := by unfold entE; rw [if_pos hs, if_neg (by rw [hf]; simp)]
      rw [e1, e2]
      exact entry_form s a1 a2 (by omega) hf w
  · have e1 : entS s a1 a2 = ByteArray.empty := by unfold entS; rw [if_neg (fun h => hs h.1)]
    have e2 : entE s a1 a2 = 4 := by unfold entE; rw [if_neg hs]
    rw [e1, e2]
    exact entry_long s a1 a2 (by omega) w
end Go.Proofs.YtlcadhojfnanfaaDoor
