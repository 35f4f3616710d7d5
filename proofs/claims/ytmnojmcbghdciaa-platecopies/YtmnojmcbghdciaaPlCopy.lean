/- plate's Copy: another device that stands as this one, in blocks of its own. -/
import Derived.Test.YtmnojmcbghdciaaPlCopied
namespace Go.Proofs.Ytmnojmcbghdciaa
open Go.RowKit

theorem waitC_one (l : List (Nat × ByteArray)) : ∀ u ∈ waitC l, u.oneCell' = true := fun u hu => by
  simp only [waitC, List.mem_flatMap, List.mem_cons, List.not_mem_nil, or_false] at hu
  obtain ⟨p, _, rfl | rfl⟩ := hu <;> rfl
theorem src_row {w : World} {g n z : Nat} {t : TypeId} {xs : List Value} (h : Row w g t xs) (hl : xs.length = n * z) (h1 : ∀ u ∈ xs, u.oneCell' = true) : Src w (.slice (some ⟨g, 0, none⟩) n n) n z xs :=
  ⟨_, _, rfl, hl, h1, .inr ⟨g, rfl, fun j u hj => by rw [h.cell]; exact hj⟩⟩
theorem src_owns {w : World} {e : TypeId} {n z : Nat} {v : Value} {xs : List Value} (h : w.ownsRow 0 e z v n xs) (h1 : ∀ u ∈ xs, u.oneCell' = true) : Src w v n z xs := by
  by_cases hn : n = 0
  · rcases owns_len h with ⟨cap, rfl⟩ | ⟨g, cap, rfl⟩
    · exact ⟨_, _, rfl, h.1, h1, .inl hn⟩
    · exact ⟨_, _, rfl, h.1, h1, .inl hn⟩
  · obtain ⟨g, cap, rfl, _, hc⟩ := owns_form h (by omega)
    exact ⟨_, _, rfl, h.1, h1, .inr ⟨g, rfl, hc⟩⟩
theorem owns_row {w : World} {e : TypeId} {g n z : Nat} {xs : List Value} (h : Row w g e xs) (hl : xs.length = n * z) (hm : n ≤ maxLen) : w.ownsRow 0 e z (.slice (some ⟨g, 0, none⟩) n n) n xs :=
  ⟨hl, .inr ⟨g, n, xs.toArray, rfl, Nat.zero_le _, h, Nat.le_refl _, hm, by simp [hl], by simp [← hl]⟩⟩

set_option maxRecDepth 10000 in
set_option maxHeartbeats 2000000 in
theorem copy_any (B : Nat) (F : Nat → Prop) (S : PS) (w : World) (hp : Plate w F B S) (hw : S.wait.length ≤ 1000000) :
    Calls Try.prog 12 #[.pointer (some ⟨B, 0, none⟩)] w fun e w' => ∃ B', e = .returned (.pointer (some ⟨B', 0, none⟩)) ∧ Plate w' (fun k => w.heap.size ≤ k ∧ k < w'.heap.size) B' S ∧ Below w.heap.size w w' := by
  obtain ⟨K, N, wv, hp⟩ := hp
  have c0 := hp.c0
  have c1 := hp.c1
  have c2 := hp.c2
  have c3 := hp.c3
  have c4 := hp.c4
  have c5 := hp.c5
  have c6 := hp.c6
  have hmost := hp.most
  have hwf : ∃ oa cap, wv = .slice oa S.wait.length cap := by
    rcases owns_len hp.wait with ⟨cap, e⟩ | ⟨g, cap, e⟩
    · exact ⟨_, cap, e⟩
    · exact ⟨_, cap, e⟩
  obtain ⟨oa, cap, rfl⟩ := hwf
  have HP : Hid (PlateAt w F B K N (.slice oa S.wait.length cap) S) := hp
  obtain ⟨w1, hw1⟩ : ∃ w1, w.alloc (.cells #[.slice (some ⟨K, 0, none⟩) S.kept.length S.kept.length, .slice oa S.wait.length cap, .slice (some ⟨N, 0, none⟩) S.kept.length S.kept.length, .int .i64 S.fuse, .bool S.up, .int .i64 S.reads, .int .i64 S.writes] 58) = w1 := ⟨_, rfl⟩
  have hb1 : Below w.heap.size w w1 := by rw [← hw1]; exact (Below.refl _ _).alloc (Nat.le_refl _) _
  have r1 : Row w1 w.heap.size 58 [.slice (some ⟨K, 0, none⟩) S.kept.length S.kept.length, .slice oa S.wait.length cap, .slice (some ⟨N, 0, none⟩) S.kept.length S.kept.length, .int .i64 S.fuse, .bool S.up, .int .i64 S.reads, .int .i64 S.writes] := by rw [← hw1]; exact heap_alloc_new w _
  have hp1 := hp.keep (w' := w1) fun k hk _ => hb1.block k hk
  have d0 := hp1.c0
  have hkl : (S.kept.map Value.string).length = S.kept.length * 1 := by simp
  have hcs := copiedS _ S.kept.length (by omega) _ w1 (src_row hp1.kept hkl (fun u hu => by obtain ⟨x, _, rfl⟩ := List.mem_map.1 hu; rfl))
  clear hp
  go_enter Try.func12, Try.ntmps12
  go_wp2_with fail
  refine hcs.mono ?_
  rintro e w2 ⟨rfl, k2, hb2⟩
  clear hcs d0
  obtain ⟨B', hB'⟩ : ∃ B', w.heap.size = B' := ⟨_, rfl⟩
  obtain ⟨gK, hgK⟩ : ∃ gK, w1.heap.size = gK := ⟨_, rfl⟩
  have hlt1 : B' < gK := by have := r1.lt; omega
  rw [hgK] at k2
  rw [hB'] at r1
  have r2 := r1.below hb2 (by omega)
  have b0 : w2.cell? ⟨B', 0, none⟩ = some (.slice (some ⟨K, 0, none⟩) S.kept.length S.kept.length) := r2.cell 0
  have f0 : w2.frozen? ⟨B', 0, none⟩ = false := r2.frozen 0
  have r3 := r2.setL 0 (.slice (some ⟨gK, 0, none⟩) S.kept.length S.kept.length)
  have k3 := k2.off (b := B') (by omega) 0 (.slice (some ⟨gK, 0, none⟩) S.kept.length S.kept.length)
  have hb3 : Below w.heap.size w (w2.setCell ⟨B', 0, none⟩ (.slice (some ⟨gK, 0, none⟩) S.kept.length S.kept.length)) := (hb1.trans (hb2.mono hb1.size)).setCell (p := ⟨B', 0, none⟩) (by show w.heap.size ≤ B'; omega) _
  obtain ⟨w3, hw3⟩ : ∃ w3, w2.setCell ⟨B', 0, none⟩ (.slice (some ⟨gK, 0, none⟩) S.kept.length S.kept.length) = w3 := ⟨_, rfl⟩
  rw [hw3] at r3 k3 hb3
  have hp3 := HP.out.keep (w' := w3) fun k hk _ => hb3.block k hk
  have d1 := hp3.c1
  have hcw := copiedW _ S.wait.length (by omega) _ w3 (src_owns hp3.wait (waitC_one _))
  have hlt2 : gK < w3.heap.size := by have := k3.lt; omega
  clear hp1 r1 r2 k2 hb1 hb2 hkl
  go_wp2_with fail
  refine hcw.mono ?_
  rintro e w4 ⟨rfl, q4, hb4⟩
  clear hcw d1 hp3
  obtain ⟨gW, hgW⟩ : ∃ gW, w3.heap.size = gW := ⟨_, rfl⟩
  rw [hgW] at q4 hlt2
  have r4 := r3.below hb4 (by omega)
  have k4 := k3.below hb4 (by omega)
  have b1 : w4.cell? ⟨B', 1, none⟩ = some (.slice oa S.wait.length cap) := r4.cell 1
  have f1 : w4.frozen? ⟨B', 1, none⟩ = false := r4.frozen 1
  have r5 := r4.setL 1 (.slice (some ⟨gW, 0, none⟩) S.wait.length S.wait.length)
  have k5 := k4.off (b := B') (by omega) 1 (.slice (some ⟨gW, 0, none⟩) S.wait.length S.wait.length)
  have q5 := q4.off (b := B') (by omega) 1 (.slice (some ⟨gW, 0, none⟩) S.wait.length S.wait.length)
  have hb5 : Below w.heap.size w (w4.setCell ⟨B', 1, none⟩ (.slice (some ⟨gW, 0, none⟩) S.wait.length S.wait.length)) := (hb3.trans (hb4.mono hb3.size)).setCell (p := ⟨B', 1, none⟩) (by show w.heap.size ≤ B'; omega) _
  obtain ⟨w5, hw5⟩ : ∃ w5, w4.setCell ⟨B', 1, none⟩ (.slice (some ⟨gW, 0, none⟩) S.wait.length S.wait.length) = w5 := ⟨_, rfl⟩
  rw [hw5] at r5 k5 q5 hb5
  have hp5 := HP.out.keep (w' := w5) fun k hk _ => hb5.block k hk
  have d2 := hp5.c2
  have hci := copiedI _ S.kept.length (by omega) _ w5 (src_row hp5.new (by rw [rowF_length, Nat.mul_one]) (fun u hu => by
    obtain ⟨x, _, rfl⟩ := List.mem_map.1 hu; rfl))
  have hlt3 : gW < w5.heap.size := q5.lt
  clear r3 r4 k3 k4 q4 hb3 hb4
  go_wp2_with fail
  refine hci.mono ?_
  rintro e w6 ⟨rfl, n6, hb6⟩
  clear hci d2 hp5
  obtain ⟨gN, hgN⟩ : ∃ gN, w5.heap.size = gN := ⟨_, rfl⟩
  rw [hgN] at n6 hlt3
  have r6 := r5.below hb6 (by omega)
  have k6 := k5.below hb6 (by omega)
  have q6 := q5.below hb6 (by omega)
  have b2 : w6.cell? ⟨B', 2, none⟩ = some (.slice (some ⟨N, 0, none⟩) S.kept.length S.kept.length) := r6.cell 2
  have f2 : w6.frozen? ⟨B', 2, none⟩ = false := r6.frozen 2
  have r7 := r6.setL 2 (.slice (some ⟨gN, 0, none⟩) S.kept.length S.kept.length)
  have k7 := k6.off (b := B') (by omega) 2 (.slice (some ⟨gN, 0, none⟩) S.kept.length S.kept.length)
  have q7 := q6.off (b := B') (by omega) 2 (.slice (some ⟨gN, 0, none⟩) S.kept.length S.kept.length)
  have n7 := n6.off (b := B') (by omega) 2 (.slice (some ⟨gN, 0, none⟩) S.kept.length S.kept.length)
  have hb7 : Below w.heap.size w (w6.setCell ⟨B', 2, none⟩ (.slice (some ⟨gN, 0, none⟩) S.kept.length S.kept.length)) := (hb5.trans (hb6.mono hb5.size)).setCell (p := ⟨B', 2, none⟩) (by show w.heap.size ≤ B'; omega) _
  obtain ⟨w7, hw7⟩ : ∃ w7, w6.setCell ⟨B', 2, none⟩ (.slice (some ⟨gN, 0, none⟩) S.kept.length S.kept.length) = w7 := ⟨_, rfl⟩
  rw [hw7] at r7 k7 q7 n7 hb7
  have hml : S.wait.length ≤ maxLen := by unfold maxLen; omega
  have HF : Hid (Plate w7 (fun k => w.heap.size ≤ k ∧ k < w7.heap.size) B' S ∧ Below w.heap.size w w7) := by
    have l1 := r7.lt
    have l2 := k7.lt
    have l3 := q7.lt
    have l4 := n7.lt
    refine ⟨⟨gK, gN, .slice (some ⟨gW, 0, none⟩) S.wait.length S.wait.length, ⟨r7, k7, n7, owns_row q7 (waitC_length _) hml, ⟨by omega, l1⟩, ⟨by omega, l2⟩, ⟨by omega, l4⟩, fun g hg => ?_, by omega, by omega, by omega, ?_, ?_, ?_, HP.out.most, HP.out.ats, HP.out.texts, HP.out.fuse⟩⟩, hb7⟩
    · have e : gW = g := by simpa [Value.ownBlock] using hg
      subst e
      exact ⟨by omega, l3⟩
    · intro e
      have e : gW = B' := by simpa [Value.ownBlock] using e
      omega
    · intro e
      have e : gW = gK := by simpa [Value.ownBlock] using e
      omega
    · intro e
      have e : gW = gN := by simpa [Value.ownBlock] using e
      omega
  clear r5 r6 r7 k5 k6 k7 q5 q6 q7 n6 n7 hb5 hb6 hb7
  go_wp2
  go_ret
  exact ⟨B', by rw [← hB']; rfl, HF.out.1, HF.out.2⟩
end Go.Proofs.Ytmnojmcbghdciaa
