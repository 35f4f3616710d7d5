/- A law's world under a real vault: two devices, two vaults; what each call leaves. · The laws' arm, start, same and sectors. · The laws' same and sectors. · The document's Anew. · Anew in a law's world: the program's and the document's. · The law JournalAnews returns true. -/
import Derived.Test.YtoopaigpjefonaaGreatDoorMg49
import Derived.Test.YtoopaigpjefonaaGreatDoorMg11
import Derived.Test.YtoopaigpjefonaaGreatDoorMg13
import Derived.Test.YtoopaigpjefonaaGreatDoorMg50
import Derived.Test.YtoopaigpjefonaaGreatDoorMg06
import Derived.Test.YtoopaigpjefonaaGreatDoorMg09
import Derived.Test.YtoopaigpjefonaaGreatDoorMg21
import Derived.Test.YtoopaigpjefonaaGreatDoorMg22
import Derived.Test.YtoopaigpjefonaaGreatDoorMg23
import Derived.Deep.RegionHeld3
import Derived.BigQuiet
import Derived.Test.YtoopaigpjefonaaGreatDoorMg20
import Derived.Test.YtoopaigpjefonaaGreatDoorMg24
import Derived.Deep.Cut
namespace Go.Proofs.YtoopaigpjefonaaGreatDoor
set_option maxRecDepth 20000
open Go.RowKit

abbrev tb0 : Nat := 0
abbrev tb1 : Nat := 2
structure LFat (K : Nat → Obj → Prop) (w0 w : World) (X : ByteArray) (t0 t1 : Obj) (G B1 B2 B3 B4 : Nat) (P Q : PS) (F F2 : Nat → Prop) : Prop where
  duo : Duo (realK B3 X t0 t1) w F B1 P ()
  ref : RefP w F2 B2 Q
  apart : ∀ k, F k → ¬ F2 k
  lt2 : ∀ k, F2 k → k < w.heap.size
  row : w.heap[G]? = some (.cells #[.pointer (some ⟨B1, 0, none⟩), .pointer (some ⟨B2, 0, none⟩), .pointer (some ⟨B3, 0, none⟩), .pointer (some ⟨B4, 0, none⟩)] 39 (0, 0))
  g1 : ¬ F G ∧ ¬ F2 G ∧ w0.heap.size ≤ G
  rr : RefR w B4 X
  g4 : ¬ F B4 ∧ ¬ F2 B4
  above : ∀ k, F k → w0.heap.size ≤ k ∨ k = tb0 ∨ k = tb1
  above2 : ∀ k, F2 k → w0.heap.size ≤ k
  err : ErrT w
  errlt : 3 < w0.heap.size
  bel : Below w0.heap.size w0 w
  keep : ∀ g c, K g c → w.heap[g]? = some c ∧ ¬ F g ∧ ¬ F2 g
def LF (K : Nat → Obj → Prop) (w0 w : World) (X : ByteArray) (t0 t1 : Obj) (G B1 B2 B3 B4 : Nat) (P Q : PS) : Prop := ∃ F F2, LFat K w0 w X t0 t1 G B1 B2 B3 B4 P Q F F2
section
variable {K : Nat → Obj → Prop} {w0 w w' : World} {X : ByteArray} {t0 t1 : Obj} {G B1 B2 B3 B4 : Nat} {P Q P' Q' : PS}
theorem duo_tabs {Z : Nat → Prop} (h : Duo (realK B3 X t0 t1) w Z B1 P ()) : w.heap[tb0]? = some t0 ∧ w.heap[tb1]? = some t1 ∧ TabR w ∧ RealV w B3 X := by
  obtain ⟨F1, F2, h⟩ := h
  have hv : RealIn X t0 t1 w F2 B3 := h.vault
  exact ⟨hv.r0, hv.r1, hv.tab, hv.real⟩
theorem LFat.outE {F F2 : Nat → Prop} (h : LFat K w0 w X t0 t1 G B1 B2 B3 B4 P Q F F2) : ¬ F 3 ∧ ¬ F2 3 := by
  have h1 := h.errlt
  refine ⟨fun hk => ?_, fun hk => ?_⟩
  · rcases h.above _ hk with q | q | q
    · omega
    · exact absurd q (by decide)
    · exact absurd q (by decide)
  · have := h.above2 _ hk
    omega
theorem LF.below (h : LF K w0 w X t0 t1 G B1 B2 B3 B4 P Q) (hb : Below w.heap.size w w') : LF K w0 w' X t0 t1 G B1 B2 B3 B4 P Q := by
  obtain ⟨F, F2, h⟩ := h
  have hk : ∀ Z : Nat → Prop, ∀ S, Duo (realK B3 X t0 t1) w Z B1 S () → Duo (realK B3 X t0 t1) w' Z B1 S () := fun Z S hd => by
    obtain ⟨F1, F3, hd⟩ := hd
    have hv : RealIn X t0 t1 w F3 B3 := hd.vault
    exact ⟨F1, F3, hd.plate.below hb, hv.below hb, hd.apart, hd.in1, hd.in2, fun k hk => Nat.lt_of_lt_of_le (hd.lt k hk) hb.size⟩
  exact ⟨F, F2, hk _ _ h.duo, h.ref.keep fun k hk _ => hb.block k hk, h.apart, fun k hk => Nat.lt_of_lt_of_le (h.lt2 k hk) hb.size, (hb.block G (lt_of_block h.row)).trans h.row, h.g1, h.rr.keep hb, h.g4, h.above, h.above2, h.err.bel hb, h.errlt, h.bel.trans (hb.mono h.bel.size), fun g c hk => ⟨(hb.block g (lt_of_block (h.keep g c hk).1)).trans (h.keep g c hk).1, (h.keep g c hk).2⟩⟩
theorem rr_touch {F : Nat → Prop} (h : RefR w B4 X) (hF : ¬ F B4) (ht : Touch F w w') : RefR w' B4 X := by
  unfold RefR at h ⊢
  exact (ht.2 B4 (Row.lt h) hF).trans h
/-- Behind a call on the program's side. -/
theorem LFat.stepD {F F2 : Nat → Prop} (h : LFat K w0 w X t0 t1 G B1 B2 B3 B4 P Q F F2) (hd : Duo (realK B3 X t0 t1) w' (grow F w w') B1 P' ()) (ht : Touch F w w') : LF K w0 w' X t0 t1 G B1 B2 B3 B4 P' Q := by
  have hz := h.bel.size
  have hG := lt_of_block h.row
  have hB := Row.lt h.rr
  obtain ⟨e0, e1⟩ := h.outE
  refine ⟨grow F w w', F2, hd, h.ref.keep fun k hk hF => ht.2 k hk fun q => h.apart k q hF, ?_, fun k hk => Nat.lt_of_lt_of_le (h.lt2 k hk) ht.size, (ht.2 G hG h.g1.1).trans h.row, ⟨?_, h.g1.2.1, h.g1.2.2⟩, rr_touch h.rr h.g4.1 ht, ⟨?_, h.g4.2⟩, ?_, h.above2, h.err.touch ht e0, h.errlt, ?_, ?_⟩
  · intro k hk hk2
    rcases hk with hk | hk
    · exact h.apart k hk hk2
    · have := h.lt2 k hk2; omega
  · intro hk
    rcases hk with hk | hk
    · exact h.g1.1 hk
    · omega
  · intro hk
    rcases hk with hk | hk
    · exact h.g4.1 hk
    · have := hk.1; omega
  · intro k hk
    rcases hk with hk | hk
    · exact h.above k hk
    · exact .inl (Nat.le_trans hz hk.1)
  · refine h.bel.trans ⟨ht.1.1, ht.1.2, ht.1.3, ht.size, fun k hk => ?_⟩
    by_cases hF : F k
    · have q := duo_tabs h.duo
      have q2 := duo_tabs hd
      rcases h.above k hF with x | rfl | rfl
      · omega
      · rw [q.1, q2.1]
      · rw [q.2.1, q2.2.1]
    · exact ht.2 k (Nat.lt_of_lt_of_le hk hz) hF
  · intro g c hk
    obtain ⟨q1, q2, q3⟩ := h.keep g c hk
    have q4 := lt_of_block q1
    refine ⟨(ht.2 g q4 q2).trans q1, fun q => ?_, q3⟩
    rcases q with q | q
    · exact q2 q
    · have := q.1; omega
/-- Behind a call on the document's side. -/
theorem LFat.stepR {F F2 : Nat → Prop} (h : LFat K w0 w X t0 t1 G B1 B2 B3 B4 P Q F F2) (hp : RefP w' (grow F2 w w') B2 Q') (ht : Touch F2 w w') : LF K w0 w' X t0 t1 G B1 B2 B3 B4 P Q' := by
  have hz := h.bel.size
  have hG := lt_of_block h.row
  have hB := Row.lt h.rr
  obtain ⟨e0, e1⟩ := h.outE
  have hd : Duo (realK B3 X t0 t1) w' F B1 P () := by
    have hdd := h.duo
    obtain ⟨F1, F3, hd⟩ := hdd
    have hv : RealIn X t0 t1 w F3 B3 := hd.vault
    exact ⟨F1, F3, hd.plate.keep fun k hk hF => ht.2 k hk (h.apart k (hd.in1 k hF)), hv.keep fun k hk hF => ht.2 k hk (h.apart k (hd.in2 k hF)), hd.apart, hd.in1, hd.in2, fun k hk => Nat.lt_of_lt_of_le (hd.lt k hk) ht.size⟩
  refine ⟨F, grow F2 w w', hd, hp, ?_, fun k hk => ?_, (ht.2 G hG h.g1.2.1).trans h.row, ⟨h.g1.1, ?_, h.g1.2.2⟩, rr_touch h.rr h.g4.2 ht, ⟨h.g4.1, ?_⟩, h.above, ?_, h.err.touch ht e1, h.errlt, h.bel.trans (ht.below hz h.above2), ?_⟩
  · intro k hk hk2
    rcases hk2 with hk2 | hk2
    · exact h.apart k hk hk2
    · have := h.duo.lt k hk; omega
  · rcases hk with hk | hk
    · exact Nat.lt_of_lt_of_le (h.lt2 k hk) ht.size
    · exact hk.2
  · intro hk
    rcases hk with hk | hk
    · exact h.g1.2.1 hk
    · omega
  · intro hk
    rcases hk with hk | hk
    · exact h.g4.2 hk
    · have := hk.1; omega
  · intro k hk
    rcases hk with hk | hk
    · exact h.above2 k hk
    · exact Nat.le_trans hz hk.1
  · intro g c hk
    obtain ⟨q1, q2, q3⟩ := h.keep g c hk
    have q4 := lt_of_block q1
    refine ⟨(ht.2 g q4 q3).trans q1, q2, fun q => ?_⟩
    rcases q with q | q
    · exact q3 q
    · have := q.1; omega
/-- A block more that is kept: one just laid. -/
theorem LF.hold (h : LF K w0 w X t0 t1 G B1 B2 B3 B4 P Q) (o : Obj) : LF (fun g c => K g c ∨ (g = w.heap.size ∧ c = o)) w0 (w.alloc o) X t0 t1 G B1 B2 B3 B4 P Q := by
  obtain ⟨F, F2, h⟩ := h
  have hb := bel_alloc w o
  obtain ⟨F1, F3, hd⟩ := h.duo
  have hv : RealIn X t0 t1 w F3 B3 := hd.vault
  refine ⟨F, F2, ⟨F1, F3, hd.plate.below hb, hv.below hb, hd.apart, hd.in1, hd.in2, fun k hk => Nat.lt_of_lt_of_le (hd.lt k hk) hb.size⟩, h.ref.keep fun k hk _ => hb.block k hk, h.apart, fun k hk => Nat.lt_of_lt_of_le (h.lt2 k hk) hb.size, (hb.block G (lt_of_block h.row)).trans h.row, h.g1, h.rr.keep hb, h.g4, h.above, h.above2, h.err.bel hb, h.errlt, h.bel.trans (hb.mono h.bel.size), fun g c hk => ?_⟩
  rcases hk with hk | ⟨rfl, rfl⟩
  · exact ⟨(hb.block g (lt_of_block (h.keep g c hk).1)).trans (h.keep g c hk).1, (h.keep g c hk).2⟩
  · exact ⟨heap_alloc_new w _, fun q => by have := h.duo.lt _ q; omega, fun q => by have := h.lt2 _ q; omega⟩
theorem LF.get (h : LF K w0 w X t0 t1 G B1 B2 B3 B4 P Q) {g : Nat} {c : Obj} (hk : K g c) : w.heap[g]? = some c := by
  obtain ⟨F, F2, h⟩ := h
  exact (h.keep g c hk).1
theorem LF.drop {K' : Nat → Obj → Prop} (h : LF K w0 w X t0 t1 G B1 B2 B3 B4 P Q) (hK : ∀ g c, K' g c → K g c) : LF K' w0 w X t0 t1 G B1 B2 B3 B4 P Q := by
  obtain ⟨F, F2, h⟩ := h
  exact ⟨F, F2, { h with keep := fun g c hk => h.keep g c (hK g c hk) }⟩
end
theorem real_own {pass salt X : ByteArray} {rounds : Int} (w : World) (hs : Calls Tryz.prog 48 #[.string pass, .string salt, .int .i64 rounds, .int .i64 32] w fun e w' => e = .returned (.tuple #[.string X, .int .i64 0]) ∧ Below w.heap.size w w') :
    Calls Tryz.prog 17 #[.string pass, .string salt, .int .i64 rounds] w fun e w' => ∃ B N, e = .returned (.tuple #[.pointer (some ⟨B, 0, none⟩), .int .i64 0]) ∧ (w.heap.size ≤ B ∧ B < w'.heap.size ∧ w.heap.size ≤ N ∧ N < w'.heap.size ∧ Row w' B 105 [.iface 99 (.pointer (some ⟨N, 0, none⟩))] ∧ Row w' N 101 [.string X]) ∧ Below w.heap.size w w' := by
  go_enter Tryz.func17, Tryz.ntmps17
  go_wp2_with fail
  refine hs.mono ?_
  rintro e w1 ⟨rfl, hb⟩
  have HB : Hid _ := hb
  clear hs hb
  go_wp2
  go_ret2
  obtain ⟨r0, r1, rB⟩ := two_new (w := w1) (w1 := (w1.alloc (.cells #[.string X] 101)).alloc (.cells #[.iface 99 (.pointer (some ⟨w1.heap.size, 0, none⟩))] 105)) (Below.refl _ _)
  have hz := HB.out.size
  exact ⟨w1.heap.size + 1, w1.heap.size, rfl, ⟨by omega, by simp, hz, by simp; omega, r1, r0⟩, HB.out.trans (rB.mono HB.out.size)⟩
theorem rreal_own {pass salt X : ByteArray} {rounds : Int} (w : World) (hs : Calls Tryz.prog 49 #[.string pass, .string salt, .int .i64 rounds, .int .i64 32] w fun e w' => e = .returned (.tuple #[.string X, .int .i64 0]) ∧ Below w.heap.size w w') :
    Calls Tryz.prog 18 #[.string pass, .string salt, .int .i64 rounds] w fun e w' => ∃ B, e = .returned (.tuple #[.pointer (some ⟨B, 0, none⟩), .int .i64 0]) ∧ (w.heap.size ≤ B ∧ B < w'.heap.size ∧ RefR w' B X) ∧ Below w.heap.size w w' := by
  go_enter Tryz.func18, Tryz.ntmps18
  go_wp2_with fail
  refine hs.mono ?_
  rintro e w1 ⟨rfl, hb⟩
  have HB : Hid _ := hb
  clear hs hb
  go_wp2
  go_ret2
  exact ⟨w1.heap.size, rfl, ⟨HB.out.size, by simp, heap_alloc_new w1 _⟩, HB.out.alloc HB.out.size _⟩
set_option maxHeartbeats 4000000 in
/-- The law's world, just laid. -/
theorem laid_lf (n : Nat) (hn : n ≤ 32768) : ∃ X : ByteArray, X.size = 32 ∧ ∀ w, TabR w → ErrT w → Calls Tryz.prog 5 #[.int .i64 n] w fun e w' => ∃ G B1 B2 B3 B4 t0 t1, e = .returned (.pointer (some ⟨G, 0, none⟩)) ∧ LF (fun _ _ => False) w w' X t0 t1 G B1 B2 B3 B4 (newP n) (newP n) := by
  obtain ⟨X, hX, k1, k2⟩ := stretch6 ⟨#[112]⟩ (by decide)
  refine ⟨X, hX, fun w ht hg => ?_⟩
  have HT : Hid ((∀ W, Below w.heap.size w W → TabR W) ∧ ErrT w) := ⟨fun W hW => prims6.tab ht hW, hg⟩
  have h1 := new_any n hn w
  have h2 := fun W => rnew_any n hn W
  have h3 := fun W (hW : Below w.heap.size w W) => real_own W (k1 W (HT.out.1 W hW))
  have h4 := fun W => rreal_own W (k2 W)
  clear k1 k2 ht hg
  go_enter Tryz.func5, Tryz.ntmps5
  go_wp2_with fail
  refine h1.mono ?_
  rintro e w1 ⟨B1, rfl, hp1, hb1⟩
  have H1 : Hid (Plate w1 (fun k => w.heap.size ≤ k ∧ k < w1.heap.size) B1 (newP n) ∧ Below w.heap.size w w1) := ⟨hp1, hb1⟩
  clear h1 hp1 hb1
  go_wp2_with fail
  refine (h2 _).mono ?_
  rintro e w2 ⟨B2, rfl, hp2, hb2⟩
  have H2 : Hid (RefP w2 (fun k => w1.heap.size ≤ k ∧ k < w2.heap.size) B2 (newP n) ∧ Below w1.heap.size w1 w2) := ⟨hp2, hb2⟩
  clear h2 hp2 hb2
  go_wp2_with fail
  refine (h3 _ (H1.out.2.trans (H2.out.2.mono H1.out.2.size))).mono ?_
  rintro e w3 ⟨B3, N3, rfl, hp3, hb3⟩
  have H3 : Hid ((w2.heap.size ≤ B3 ∧ B3 < w3.heap.size ∧ w2.heap.size ≤ N3 ∧ N3 < w3.heap.size ∧ Row w3 B3 105 [.iface 99 (.pointer (some ⟨N3, 0, none⟩))] ∧ Row w3 N3 101 [.string X]) ∧ Below w2.heap.size w2 w3) := ⟨hp3, hb3⟩
  clear h3 hp3 hb3
  go_wp2_with fail
  refine (h4 _).mono ?_
  rintro e w4 ⟨B4, rfl, hp4, hb4⟩
  have H4 : Hid ((w3.heap.size ≤ B4 ∧ B4 < w4.heap.size ∧ RefR w4 B4 X) ∧ Below w3.heap.size w3 w4) := ⟨hp4, hb4⟩
  clear h4 hp4 hb4
  have HF : Hid (∃ W, W = w4.alloc (.cells #[.pointer (some ⟨B1, 0, none⟩), .pointer (some ⟨B2, 0, none⟩), .pointer (some ⟨B3, 0, none⟩), .pointer (some ⟨B4, 0, none⟩)] 39) ∧ ∃ t0 t1, LF (fun _ _ => False) w W X t0 t1 w4.heap.size B1 B2 B3 B4 (newP n) (newP n)) := by
    have z1 := H1.out.2.size
    have z2 := H2.out.2.size
    have z3 := H3.out.2.size
    have z4 := H4.out.2.size
    have hA := bel_alloc w4 (.cells #[.pointer (some ⟨B1, 0, none⟩), .pointer (some ⟨B2, 0, none⟩), .pointer (some ⟨B3, 0, none⟩), .pointer (some ⟨B4, 0, none⟩)] 39)
    have b24 : Below w2.heap.size w2 w4 := H3.out.2.trans (H4.out.2.mono z3)
    have b14 : Below w1.heap.size w1 w4 := H2.out.2.trans (b24.mono z2)
    have b04 := H1.out.2.trans (b14.mono z1)
    have b0W := b04.trans (hA.mono (by omega))
    obtain ⟨c1, c2, c3, c4, c5, c6⟩ := H3.out.1
    obtain ⟨d1, d2, d3⟩ := H4.out.1
    have hz5 : w4.heap.size < (w4.alloc (.cells #[.pointer (some ⟨B1, 0, none⟩), .pointer (some ⟨B2, 0, none⟩), .pointer (some ⟨B3, 0, none⟩), .pointer (some ⟨B4, 0, none⟩)] 39)).heap.size := by simp
    have htW := HT.out.1 _ b0W
    have tl0 : tb0 < w.heap.size := (HT.out.1 w (Below.refl _ _)).1.1
    have tl1 : tb1 < w.heap.size := (HT.out.1 w (Below.refl _ _)).2.1
    have el := Sm.lt_of_cell HT.out.2
    refine ⟨_, rfl, (w4.alloc (.cells #[.pointer (some ⟨B1, 0, none⟩), .pointer (some ⟨B2, 0, none⟩), .pointer (some ⟨B3, 0, none⟩), .pointer (some ⟨B4, 0, none⟩)] 39)).heap[tb0]'(by omega), (w4.alloc (.cells #[.pointer (some ⟨B1, 0, none⟩), .pointer (some ⟨B2, 0, none⟩), .pointer (some ⟨B3, 0, none⟩), .pointer (some ⟨B4, 0, none⟩)] 39)).heap[tb1]'(by omega), fun k => (w.heap.size ≤ k ∧ k < w1.heap.size) ∨ k = B3 ∨ k = N3 ∨ k = tb0 ∨ k = tb1, fun k => w1.heap.size ≤ k ∧ k < w2.heap.size, ?_⟩
    refine ⟨⟨fun k => w.heap.size ≤ k ∧ k < w1.heap.size, fun k => k = B3 ∨ k = N3 ∨ k = tb0 ∨ k = tb1, (H1.out.1.below b14).below hA, ?_, ?_, fun k hk => .inl hk, fun k hk => .inr hk, ?_⟩, (H2.out.1.keep fun k hk _ => b24.block k hk).keep fun k hk _ => hA.block k hk, ?_, ?_, heap_alloc_new w4 _, ⟨?_, ?_, ?_⟩, d3.keep hA, ⟨?_, ?_⟩, ?_, fun k hk => by have := hk.1; omega, HT.out.2.bel b0W, el, b0W, fun _ _ hk => hk.elim⟩
    · exact ⟨.inr (.inr (.inl rfl)), .inr (.inr (.inr rfl)), Array.getElem?_eq_getElem _, Array.getElem?_eq_getElem _, htW, .inl rfl, N3, .inr (.inl rfl), (c5.below H4.out.2 c2).below hA (by omega), (c6.below H4.out.2 c4).below hA (by omega)⟩
    · intro k h1 h2
      rcases h2 with rfl | rfl | rfl | rfl <;> omega
    · intro k hk
      rcases hk with hk | rfl | rfl | rfl | rfl <;> omega
    · intro k h1 h2
      rcases h1 with h1 | rfl | rfl | rfl | rfl <;> omega
    · intro k hk
      omega
    · intro hk
      rcases hk with hk | hk | hk | hk | hk <;> omega
    · intro hk
      omega
    · omega
    · intro hk
      rcases hk with hk | hk | hk | hk | hk <;> omega
    · intro hk
      omega
    · intro k hk
      rcases hk with hk | rfl | rfl | rfl | rfl
      · exact .inl hk.1
      · exact .inl (by omega)
      · exact .inl (by omega)
      · exact .inr (.inl rfl)
      · exact .inr (.inr rfl)
  clear H1 H2 H3 H4
  obtain ⟨W, hW, t0, t1, hL⟩ := HF.out
  have HL : Hid (LF (fun _ _ => False) w W X t0 t1 w4.heap.size B1 B2 B3 B4 (newP n) (newP n)) := hL
  have hW2 := hW.symm
  clear HF hL hW
  go_wp2
  go_ret
  exact ⟨_, _, _, _, _, _, _, rfl, HL.out⟩
end Go.Proofs.YtoopaigpjefonaaGreatDoor

namespace Go.Proofs.YtoopaigpjefonaaGreatDoor
set_option maxRecDepth 20000
open Go.RowKit

section
variable {K : Nat → Obj → Prop} {w0 w : World} {X : ByteArray} {t0 t1 : Obj} {G B1 B2 B3 B4 : Nat} {P Q : PS}
theorem LF.cells (h : LF K w0 w X t0 t1 G B1 B2 B3 B4 P Q) : w.cell? ⟨G, 0, none⟩ = some (.pointer (some ⟨B1, 0, none⟩)) ∧ w.cell? ⟨G, 1, none⟩ = some (.pointer (some ⟨B2, 0, none⟩)) ∧ w.cell? ⟨G, 2, none⟩ = some (.pointer (some ⟨B3, 0, none⟩)) ∧ w.cell? ⟨G, 3, none⟩ = some (.pointer (some ⟨B4, 0, none⟩)) := by
  obtain ⟨F, F2, h⟩ := h
  exact ⟨cell_of_row _ _ 0 _ _ _ h.row, cell_of_row _ _ 1 _ _ _ h.row, cell_of_row _ _ 2 _ _ _ h.row, cell_of_row _ _ 3 _ _ _ h.row⟩
theorem LF.bel (h : LF K w0 w X t0 t1 G B1 B2 B3 B4 P Q) : Below w0.heap.size w0 w := by
  obtain ⟨F, F2, h⟩ := h
  exact h.bel
theorem LF.err (h : LF K w0 w X t0 t1 G B1 B2 B3 B4 P Q) : ErrT w := by
  obtain ⟨F, F2, h⟩ := h
  exact h.err
theorem LF.drew (h : LF K w0 w X t0 t1 G B1 B2 B3 B4 P Q) : LF K w0 w.drew X t0 t1 G B1 B2 B3 B4 P Q := h.below (Below.refl w.heap.size w).drew
/-- Calls on the program's device that keep where it lies. -/
theorem LF.devD (h : LF K w0 w X t0 t1 G B1 B2 B3 B4 P Q) {f : FuncId} {args : Array Value} {E : Ending → Prop} {P' : PS} (hc : ∀ F1, Plate w F1 B1 P → (∀ k, F1 k → w0.heap.size ≤ k) → Calls Tryz.prog f args w fun e w' => E e ∧ Plate w' F1 B1 P' ∧ Touch F1 w w') : Calls Tryz.prog f args w fun e w' => E e ∧ LF K w0 w' X t0 t1 G B1 B2 B3 B4 P' Q := by
  obtain ⟨F, F2, h⟩ := h
  obtain ⟨F1, F3, hd⟩ := h.duo
  have hv : RealIn X t0 t1 w F3 B3 := hd.vault
  refine (hc F1 hd.plate fun k hk => by
    rcases h.above k (hd.in1 k hk) with q | rfl | rfl
    · exact q
    · exact absurd hv.f0 (hd.apart _ hk)
    · exact absurd hv.f1 (hd.apart _ hk)).mono fun e w' ⟨he, hp, ht⟩ => ⟨he, ?_⟩
  have h2 : Duo (realK B3 X t0 t1) w' F B1 P' () := ⟨F1, F3, hp, hv.keep fun k hk hF2 => ht.2 k hk fun h1 => hd.apart k h1 hF2, hd.apart, hd.in1, hd.in2, fun k hk => Nat.lt_of_lt_of_le (hd.lt k hk) ht.size⟩
  exact h.stepD (h2.mono (fun _ h => .inl h) fun k hk => by
    rcases hk with hk | hk
    · exact h2.lt k hk
    · exact hk.2) (ht.mono hd.in1)
theorem LF.devR (h : LF K w0 w X t0 t1 G B1 B2 B3 B4 P Q) {f : FuncId} {args : Array Value} {E : Ending → Prop} {Q' : PS} (hc : ∀ F2, RefP w F2 B2 Q → (∀ k, F2 k → w0.heap.size ≤ k) → Calls Tryz.prog f args w fun e w' => E e ∧ RefP w' F2 B2 Q' ∧ Touch F2 w w') : Calls Tryz.prog f args w fun e w' => E e ∧ LF K w0 w' X t0 t1 G B1 B2 B3 B4 P Q' := by
  obtain ⟨F, F2, h⟩ := h
  exact (hc F2 h.ref h.above2).mono fun e w' ⟨he, hp, ht⟩ => ⟨he, h.stepR (hp.mono fun _ _ h => .inl h) ht⟩
end
set_option maxHeartbeats 8000000 in
theorem larm_any {K : Nat → Obj → Prop} {w0 w : World} {X : ByteArray} {t0 t1 : Obj} {G B1 B2 B3 B4 : Nat} {P : PS} (h : LF K w0 w X t0 t1 G B1 B2 B3 B4 P P) (fz : Int) (hfz : fz < 9223372036854775808) (kv : Value) :
    Calls Tryz.prog 8 #[.pointer (some ⟨G, 0, none⟩), .agg #[.int .i64 fz, kv]] w fun e w' => e = .returned (.tuple #[]) ∧ LF K w0 w' X t0 t1 G B1 B2 B3 B4 (if 0 ≤ fz then armP P fz else P) (if 0 ≤ fz then armP P fz else P) := by
  obtain ⟨x0, hx0⟩ : ∃ x0, w.alloc (.cells #[.int .i64 fz, kv] 26) = x0 := ⟨_, rfl⟩
  have h0 := h.hold (.cells #[.int .i64 fz, kv] 26)
  rw [hx0] at h0
  obtain ⟨K2, hK2⟩ : ∃ K2 : Nat → Obj → Prop, (fun g c => K g c ∨ (g = w.heap.size ∧ c = .cells #[.int .i64 fz, kv] 26)) = K2 := ⟨_, rfl⟩
  rw [hK2] at h0
  have HK : Hid ((∀ g c, K g c → K2 g c) ∧ ∀ W P' Q', LF K2 w0 W X t0 t1 G B1 B2 B3 B4 P' Q' → W.cell? ⟨G, 0, none⟩ = some (.pointer (some ⟨B1, 0, none⟩)) ∧ W.cell? ⟨G, 1, none⟩ = some (.pointer (some ⟨B2, 0, none⟩)) ∧ W.cell? ⟨w.heap.size, 0, none⟩ = some (.int .i64 fz)) := by
    refine ⟨fun g c hk => by rw [← hK2]; exact .inl hk, fun W P' Q' hW => ⟨hW.cells.1, hW.cells.2.1, ?_⟩⟩
    have g := hW.get (g := w.heap.size) (c := .cells #[.int .i64 fz, kv] 26) (by rw [← hK2]; exact .inr ⟨rfl, rfl⟩)
    exact cell_of_row _ _ 0 _ _ _ g
  have H0 : Hid (LF K2 w0 x0 X t0 t1 G B1 B2 B3 B4 P P) := h0
  obtain ⟨c0, c1, c2⟩ := HK.out.2 x0 P P h0
  obtain ⟨d0, d1, d2⟩ := HK.out.2 x0.drew P P h0.drew
  by_cases hz : 0 ≤ fz
  case neg =>
    rw [if_neg hz]
    clear h h0 hK2
    go_enter Tryz.func8, Tryz.ntmps8
    go_wp2
    go_end0
    exact ⟨rfl, H0.out.drop HK.out.1⟩
  rw [if_pos hz]
  have HA : Hid (∀ W, LF K2 w0 W X t0 t1 G B1 B2 B3 B4 P P → Calls Tryz.prog 25 #[.pointer (some ⟨B1, 0, none⟩), .int .i64 fz] W fun e w' => e = .returned (.int .i64 (armE P fz)) ∧ LF K2 w0 w' X t0 t1 G B1 B2 B3 B4 (armP P fz) P) := fun W hW => hW.devD (E := fun e => e = .returned (.int .i64 (armE P fz))) fun F1 hp _ => arm_any B1 F1 P fz hfz W hp
  have HR : Hid (∀ W, LF K2 w0 W X t0 t1 G B1 B2 B3 B4 (armP P fz) P → Calls Tryz.prog 26 #[.pointer (some ⟨B2, 0, none⟩), .int .i64 fz] W fun e w' => e = .returned (.int .i64 (armE P fz)) ∧ LF K2 w0 w' X t0 t1 G B1 B2 B3 B4 (armP P fz) (armP P fz)) := fun W hW => hW.devR (E := fun e => e = .returned (.int .i64 (armE P fz))) fun F1 hp _ => rarm_any B2 F1 P fz hfz W hp
  clear h h0 hK2
  generalize armP P fz = P2 at *
  generalize armE P fz = E2 at *
  go_enter Tryz.func8, Tryz.ntmps8
  go_wp2_with fail
  go_region_held3 (fun w' => w'.cell? ⟨G, 0, none⟩ = some (.pointer (some ⟨B1, 0, none⟩)) ∧ w'.cell? ⟨w.heap.size, 0, none⟩ = some (.int .i64 fz)) (first | exact ⟨hq.1, hq.2.2⟩ | exact ⟨c0, c2⟩ | exact ⟨d0, d2⟩ | simp [go_sem, *]) (first
    | (go_at_call 25; refine (HA.out _ (by first | exact H0.out.drew | exact H0.out)).mono ?_; rintro e x1 ⟨rfl, h1⟩; have H1 : Hid (LF K2 w0 x1 X t0 t1 G B1 B2 B3 B4 P2 P) := h1; have hq := HK.out.2 x1 P2 P h1; clear h1))
  obtain ⟨c0, c1, c2⟩ := HK.out.2 x1 P2 P H1.out
  obtain ⟨d0, d1, d2⟩ := HK.out.2 x1.drew P2 P H1.out.drew
  clear HA hq H0
  go_wp2_with fail
  go_region_held3 (fun w' => w'.cell? ⟨G, 1, none⟩ = some (.pointer (some ⟨B2, 0, none⟩)) ∧ w'.cell? ⟨w.heap.size, 0, none⟩ = some (.int .i64 fz)) (first | exact ⟨hq.2.1, hq.2.2⟩ | exact ⟨c1, c2⟩ | exact ⟨d1, d2⟩ | simp [go_sem, *]) (first
    | (go_at_call 26; refine (HR.out _ (by first | exact H1.out.drew | exact H1.out)).mono ?_; rintro e x2 ⟨rfl, h2⟩; have H2 : Hid (LF K2 w0 x2 X t0 t1 G B1 B2 B3 B4 P2 P2) := h2; have hq := HK.out.2 x2 P2 P2 h2; clear h2))
  clear HR hq H1
  go_wp2
  go_end0
  exact ⟨rfl, H2.out.drop HK.out.1⟩
set_option maxHeartbeats 8000000 in
theorem lstart_any {K : Nat → Obj → Prop} {w0 w : World} {X : ByteArray} {t0 t1 : Obj} {G B1 B2 B3 B4 : Nat} {P : PS} (h : LF K w0 w X t0 t1 G B1 B2 B3 B4 P P) (fz : Int) (kv : Value) (l : List Bool) (hw : P.wait.length ≤ 1000000) (hk : Bools w0 (fun k => w0.heap.size ≤ k) kv l) :
    Calls Tryz.prog 12 #[.pointer (some ⟨G, 0, none⟩), .agg #[.int .i64 fz, kv]] w fun e w' => e = .returned (.tuple #[]) ∧ LF K w0 w' X t0 t1 G B1 B2 B3 B4 (startP l P) (startP l P) := by
  obtain ⟨x0, hx0⟩ : ∃ x0, w.alloc (.cells #[.int .i64 fz, kv] 26) = x0 := ⟨_, rfl⟩
  have h0 := h.hold (.cells #[.int .i64 fz, kv] 26)
  rw [hx0] at h0
  obtain ⟨K2, hK2⟩ : ∃ K2 : Nat → Obj → Prop, (fun g c => K g c ∨ (g = w.heap.size ∧ c = .cells #[.int .i64 fz, kv] 26)) = K2 := ⟨_, rfl⟩
  rw [hK2] at h0
  have HK : Hid ((∀ g c, K g c → K2 g c) ∧ ∀ W P' Q', LF K2 w0 W X t0 t1 G B1 B2 B3 B4 P' Q' → W.cell? ⟨G, 0, none⟩ = some (.pointer (some ⟨B1, 0, none⟩)) ∧ W.cell? ⟨G, 1, none⟩ = some (.pointer (some ⟨B2, 0, none⟩)) ∧ W.cell? ⟨w.heap.size, 1, none⟩ = some kv) := by
    refine ⟨fun g c hk => by rw [← hK2]; exact .inl hk, fun W P' Q' hW => ⟨hW.cells.1, hW.cells.2.1, ?_⟩⟩
    have g := hW.get (g := w.heap.size) (c := .cells #[.int .i64 fz, kv] 26) (by rw [← hK2]; exact .inr ⟨rfl, rfl⟩)
    exact cell_of_row _ _ 1 _ _ _ g
  have H0 : Hid (LF K2 w0 x0 X t0 t1 G B1 B2 B3 B4 P P) := h0
  obtain ⟨c0, c1, c2⟩ := HK.out.2 x0 P P h0
  obtain ⟨d0, d1, d2⟩ := HK.out.2 x0.drew P P h0.drew
  have HA : Hid (∀ W, LF K2 w0 W X t0 t1 G B1 B2 B3 B4 P P → Calls Tryz.prog 44 #[.pointer (some ⟨B1, 0, none⟩), kv] W fun e w' => e = .returned (.tuple #[]) ∧ LF K2 w0 w' X t0 t1 G B1 B2 B3 B4 (startP l P) P) := fun W hW => hW.devD (E := fun e => e = .returned (.tuple #[])) fun F1 hp hab => start_any B1 F1 P kv l W hp hw ((hk.touch (Touch.of_below hW.bel)).mono fun k _ hF => hab k hF)
  have HR : Hid (∀ W, LF K2 w0 W X t0 t1 G B1 B2 B3 B4 (startP l P) P → Calls Tryz.prog 45 #[.pointer (some ⟨B2, 0, none⟩), kv] W fun e w' => e = .returned (.tuple #[]) ∧ LF K2 w0 w' X t0 t1 G B1 B2 B3 B4 (startP l P) (startP l P)) := fun W hW => hW.devR (E := fun e => e = .returned (.tuple #[])) fun F1 hp hab => rstart_any B2 F1 P kv l W hp hw ((hk.touch (Touch.of_below hW.bel)).mono fun k _ hF => hab k hF)
  have hkf : ∃ oa cap, kv = .slice oa l.length cap := by
    rcases hk with ⟨oa, cap, e, e2⟩ | ⟨g, o, cap, e, _⟩
    · exact ⟨oa, cap, by rw [e, e2]; rfl⟩
    · exact ⟨_, cap, e⟩
  clear h h0 hK2 hk hw hkf
  generalize startP l P = P2 at *
  go_enter Tryz.func12, Tryz.ntmps12
  go_wp2_with fail
  go_region_held3 (fun w' => w'.cell? ⟨G, 0, none⟩ = some (.pointer (some ⟨B1, 0, none⟩)) ∧ w'.cell? ⟨w.heap.size, 1, none⟩ = some kv) (first | exact ⟨hq.1, hq.2.2⟩ | exact ⟨c0, c2⟩ | exact ⟨d0, d2⟩ | simp [go_sem, *]) (first
    | (go_at_call 44; refine (HA.out _ (by first | exact H0.out.drew | exact H0.out)).mono ?_; rintro e x1 ⟨rfl, h1⟩; have H1 : Hid (LF K2 w0 x1 X t0 t1 G B1 B2 B3 B4 P2 P) := h1; have hq := HK.out.2 x1 P2 P h1; clear h1))
  obtain ⟨c0, c1, c2⟩ := HK.out.2 x1 P2 P H1.out
  obtain ⟨d0, d1, d2⟩ := HK.out.2 x1.drew P2 P H1.out.drew
  clear HA hq H0
  go_wp2_with fail
  go_region_held3 (fun w' => w'.cell? ⟨G, 1, none⟩ = some (.pointer (some ⟨B2, 0, none⟩)) ∧ w'.cell? ⟨w.heap.size, 1, none⟩ = some kv) (first | exact ⟨hq.2.1, hq.2.2⟩ | exact ⟨c1, c2⟩ | exact ⟨d1, d2⟩ | simp [go_sem, *]) (first
    | (go_at_call 45; refine (HR.out _ (by first | exact H1.out.drew | exact H1.out)).mono ?_; rintro e x2 ⟨rfl, h2⟩; have H2 : Hid (LF K2 w0 x2 X t0 t1 G B1 B2 B3 B4 P2 P2) := h2; have hq := HK.out.2 x2 P2 P2 h2; clear h2))
  clear HR hq H1
  go_wp2
  go_end0
  exact ⟨rfl, H2.out.drop HK.out.1⟩
end Go.Proofs.YtoopaigpjefonaaGreatDoor

namespace Go.Proofs.YtoopaigpjefonaaGreatDoor
set_option maxRecDepth 20000
open Go.RowKit

set_option maxHeartbeats 4000000 in
theorem lsectors_any (live : Int) : ∃ n : Nat, n ≤ 32768 ∧ ∀ w, Calls Tryz.prog 6 #[.int .i64 live] w fun e w' => e = .returned (.int .i64 (n : Int)) ∧ Below w.heap.size w w' := by
  by_cases hb : live < 48 ∨ 1024 < live
  · refine ⟨0, by decide, fun w => ?_⟩
    have hl := fun w => rlayout_bad live hb w
    unfold layZ at hl
    clear hb
    go_enter Tryz.func6, Tryz.ntmps6
    go_wp2_with fail
    refine (hl _).mono ?_
    rintro e w1 ⟨rfl, hb1⟩
    have HB : Hid (Below w.heap.size w w1) := hb1
    clear hb1 hl
    go_wp2
    go_ret
    exact ⟨rfl, HB.out.alloc HB.out.size _⟩
  · obtain ⟨m, rfl⟩ : ∃ m : Nat, live = m := ⟨live.toNat, by omega⟩
    have hT := totI_bound (n := m) (by omega)
    refine ⟨(8 * totI m).toNat, by omega, fun w => ?_⟩
    have hl := fun w => rlayout_any m (by omega) (by omega) w
    have e8 : ((8 * totI m).toNat : Int) = 8 * totI m := Int.toNat_of_nonneg (by omega)
    have hA : layA m (layQ m) (layS m) (layT m) = #[.int .i64 (m : Int), .int .i64 2, .int .i64 3, .int .i64 27, .int .i64 28, .int .i64 29, .int .i64 (layQ m : Nat), .int .i64 (29 + (layQ m : Nat)), .int .i64 (layS m : Nat), .int .i64 (29 + (layQ m : Nat) + (layS m : Nat)), .int .i64 (29 + (layQ m : Nat) + (layS m : Nat) + 1), .int .i64 (m : Int), .int .i64 ((m : Int) + 1), .int .i64 (layT m : Nat), .int .i64 ((m : Int) + 1 + (layT m : Nat)), .int .i64 (totI m)] := rfl
    rw [hA] at hl
    rw [e8]
    have hwr : IntKind.i64.wrap (8 * totI m) = 8 * totI m := by
      rw [IntKind.wrap_i64]
      omega
    generalize totI m = T at *
    generalize ((layQ m : Nat) : Int) = q at *
    generalize ((layS m : Nat) : Int) = s at *
    generalize ((layT m : Nat) : Int) = t at *
    clear hA hb e8
    go_enter Tryz.func6, Tryz.ntmps6
    go_wp2_with fail
    refine (hl _).mono ?_
    rintro e w1 ⟨rfl, hb1⟩
    have HB : Hid (Below w.heap.size w w1) := hb1
    clear hb1 hl
    go_wp2
    go_ret
    exact ⟨by first | rfl | rw [hwr] | simp, HB.out.alloc HB.out.size _⟩
theorem ref_cells {w : World} {F : Nat → Prop} {B : Nat} {P : PS} (h : RefP w F B P) : ∃ oa ca ob cb, w.cell? ⟨B, 0, none⟩ = some (.slice oa P.kept.length ca) ∧ w.cell? ⟨B, 2, none⟩ = some (.slice ob P.wait.length cb) ∧ w.cell? ⟨B, 4, none⟩ = some (.bool (!P.up)) ∧ w.cell? ⟨B, 6, none⟩ = some (.int .i64 P.writes) := by
  obtain ⟨kv, dv, wv, ks, ds, h⟩ := h
  obtain ⟨oa, ca, rfl⟩ := h.kform
  have hw : ∃ ob cb, wv = .slice ob P.wait.length cb := by
    rcases h.wait.2 with ⟨e, h0⟩ | ⟨g, cap, cur, e, _⟩
    · exact ⟨none, 0, by rw [e, h0]⟩
    · exact ⟨_, cap, e⟩
  obtain ⟨ob, cb, rfl⟩ := hw
  exact ⟨oa, ca, ob, cb, Row.cell h.row 0, Row.cell h.row 2, Row.cell h.row 4, Row.cell h.row 6⟩
set_option maxHeartbeats 16000000 in
theorem lsame_any {K : Nat → Obj → Prop} {w0 w : World} {X : ByteArray} {t0 t1 : Obj} {G B1 B2 B3 B4 : Nat} {P : PS} (h : LF K w0 w X t0 t1 G B1 B2 B3 B4 P P) :
    Calls Tryz.prog 11 #[.pointer (some ⟨G, 0, none⟩)] w fun e w' => e = .returned (.bool true) ∧ Below w.heap.size w w' := by
  obtain ⟨c0, c1, _, _⟩ := h.cells
  obtain ⟨F, F2, hf⟩ := h
  obtain ⟨F1, F3, hd⟩ := hf.duo
  have hm : P.kept.length ≤ 32768 := by obtain ⟨kv, dv, wv, ks, ds, q⟩ := hf.ref; exact q.most
  obtain ⟨oa, ca, ob, cb, r0, r2, r4, r6⟩ := ref_cells hf.ref
  have HU : Hid (∀ W, Below w.heap.size w W → Calls Tryz.prog 39 #[.pointer (some ⟨B1, 0, none⟩)] W fun e w' => e = .returned (.bool P.up) ∧ w' = W) := fun W hW => up_any B1 F1 P W (hd.plate.below hW)
  have HP : Hid (∀ W, Below w.heap.size w W → Calls Tryz.prog 40 #[.pointer (some ⟨B1, 0, none⟩)] W fun e w' => e = .returned (.int .i64 (P.wait.length : Nat)) ∧ w' = W) := fun W hW => pending_any B1 F1 P W (hd.plate.below hW)
  have HW : Hid (∀ W, Below w.heap.size w W → Calls Tryz.prog 41 #[.pointer (some ⟨B1, 0, none⟩)] W fun e w' => e = .returned (.int .i64 P.writes) ∧ w' = W) := fun W hW => writes_any B1 F1 P W (hd.plate.below hW)
  have HH : Hid (∀ W (i : Int), Below w.heap.size w W → Calls Tryz.prog 42 #[.pointer (some ⟨B1, 0, none⟩), .int .i64 i] W fun e w' => e = .returned (.tuple #[.string (heldS P i), .int .i64 (heldE P i)]) ∧ w' = W) := fun W i hW => held_any B1 F1 P i W (hd.plate.below hW)
  have HR : Hid (∀ W (i : Int), Below w.heap.size w W → Calls Tryz.prog 43 #[.pointer (some ⟨B2, 0, none⟩), .int .i64 i] W fun e w' => e = .returned (.tuple #[.string (heldS P i), .int .i64 (heldE P i)]) ∧ w' = W) := fun W i hW => rheld_any B2 F2 P i W (hf.ref.keep fun k hk _ => hW.block k hk)
  have hG := lt_of_block hf.row
  have hB := World.block_lt_of_cell? _ _ r0
  have HC : Hid (∀ W, Below w.heap.size w W → W.cell? ⟨G, 0, none⟩ = some (.pointer (some ⟨B1, 0, none⟩)) ∧ W.cell? ⟨G, 1, none⟩ = some (.pointer (some ⟨B2, 0, none⟩)) ∧ W.cell? ⟨B2, 0, none⟩ = some (.slice oa P.kept.length ca)) := fun W hW => ⟨(hW.cell (p := ⟨G, 0, none⟩) hG).trans c0, (hW.cell (p := ⟨G, 1, none⟩) hG).trans c1, (hW.cell (p := ⟨B2, 0, none⟩) hB).trans r0⟩
  obtain ⟨hS, hhS⟩ : ∃ f : Int → ByteArray, f = heldS P := ⟨_, rfl⟩
  obtain ⟨hE, hhE⟩ : ∃ f : Int → Int, f = heldE P := ⟨_, rfl⟩
  rw [← hhS, ← hhE] at HH HR
  clear hhS hhE hf hd hB hG r0
  generalize P.kept.length = n at *
  generalize P.wait.length = m at *
  generalize P.writes = wr at *
  generalize P.up = up at *
  have hdn : ∀ k, Below w.heap.size w (w.drewN k) := fun k => below_drewN (Below.refl _ _) k
  have r0 := (HC.out w (Below.refl _ _)).2.2
  cases up
  all_goals
    go_enter Tryz.func11, Tryz.ntmps11
    go_wp2_with fail
    go_quiet (first
      | (go_at_call 39; refine Calls.quiet_of_same (HU.out _ (hdn _)))
      | (go_at_call 40; refine Calls.quiet_of_same (HP.out _ (hdn _)))
      | (go_at_call 41; refine Calls.quiet_of_same (HW.out _ (hdn _))))
    have HB0 : Hid (Below w.heap.size w (w.drewN nq)) := hdn nq
    generalize w.drewN nq = wq at *
    clear hdn c0 c1 r0 r2 r4 r6
    go_wp2_with fail
    go_loopw [3, 4, 5, 6, 7] (fun iv s4 s5 s6 s7 wr => ∃ i : Nat, i ≤ n ∧ iv = .int .i64 (i : Int) ∧ Hid (Below w.heap.size w wr)) (fun iv _ _ _ _ _ => n - (intOf iv).toNat)
    case atStart => exact ⟨0, Nat.zero_le _, rfl, HB0.out⟩
    case round =>
      obtain ⟨i, hi, rfl, HBr⟩ := hrel
      obtain ⟨c0, c1, r0⟩ := HC.out _ HBr.out
      by_cases hlt : i < n
      · have i1 : (i : Int) < (n : Nat) := by omega
        have h1 := HH.out _ (i : Int) HBr.out
        have h2 := HR.out _ (i : Int) HBr.out
        generalize hS (i : Int) = s at *
        generalize hE (i : Int) = E at *
        go_wp2_with fail
        refine h1.mono ?_
        rintro e x1 ⟨rfl, rfl⟩
        clear h1
        go_wp2_with fail
        refine h2.mono ?_
        rintro e x2 ⟨rfl, rfl⟩
        clear h2
        go_wp2
        go_roundw
        case rel => exact ⟨i + 1, by omega, by go_num, HBr.out⟩
        case measure => simp [intOf]; omega
      · have hi2 : i = n := by omega
        subst hi2
        have i1 : ¬ (i : Int) < (i : Nat) := by omega
        go_wp2
        go_ret
        exact ⟨rfl, HBr.out⟩
end Go.Proofs.YtoopaigpjefonaaGreatDoor

namespace Go.Proofs.YtoopaigpjefonaaGreatDoor
set_option maxRecDepth 20000
open Go.RowKit

set_option maxHeartbeats 4000000 in
theorem ranw_err (v : Value) (B : Nat) (F : Nat → Prop) (P : PS) (a0 a1 a2 a3 : Int) (r : ByteArray) (A E : Int) (R : ByteArray) (w : World) (hp : RefP w F B P) (hE : ¬ E = 0)
    (hsup : ∀ W, Below w.heap.size w W → Calls Tryz.prog 34 #[v, .agg #[.int .i64 a0, .int .i64 a1, .int .i64 a2, .int .i64 a3, .string r]] W fun e W' => e = .returned (.tuple #[.agg #[.int .i64 A, .string R], .int .i64 E]) ∧ Below W.heap.size W W') :
    Calls Tryz.prog 14 #[.pointer (some ⟨B, 0, none⟩), v, .agg #[.int .i64 a0, .int .i64 a1, .int .i64 a2, .int .i64 a3, .string r]] w fun e w' => e = .returned (.int .i64 E) ∧ Below w.heap.size w w' := by
  obtain ⟨oa, cap, c0, hm⟩ := hp.c0
  have hb0 := bel_alloc w (.cells #[.int .i64 a0, .int .i64 a1, .int .i64 a2, .int .i64 a3, .string r] 23)
  have g0 := heap_alloc_new w (.cells #[.int .i64 a0, .int .i64 a1, .int .i64 a2, .int .i64 a3, .string r] 23)
  have hB := World.block_lt_of_cell? _ _ c0
  have h2 := hsup _ hb0
  have hE1 : (E != 0) = true := bne_iff_ne.2 hE
  have HB : Hid _ := hb0
  clear hp c0 hb0 g0 hE hsup hB hm
  go_enter Tryz.func14, Tryz.ntmps14
  go_wp2_with fail
  refine h2.mono ?_
  rintro e w2 ⟨rfl, hb2⟩
  have HB2 : Hid (Below w.heap.size w (w2.alloc (.cells #[.int .i64 A, .string R] 68))) := by
    have q := HB.out.trans (hb2.mono HB.out.size)
    exact q.alloc q.size _
  clear h2 hb2 HB
  go_wp2
  go_ret
  exact ⟨rfl, HB2.out⟩
set_option maxHeartbeats 4000000 in
theorem ranw_no (v : Value) (B : Nat) (F : Nat → Prop) (P : PS) (a0 a1 a2 a3 : Int) (r : ByteArray) (A : Int) (R : ByteArray) (w : World) (hp : RefP w F B P) (hno : ¬ (loE (P.kept.length : Nat) = 0 ∧ loN (P.kept.length : Nat) = a3))
    (hsup : ∀ W, Below w.heap.size w W → Calls Tryz.prog 34 #[v, .agg #[.int .i64 a0, .int .i64 a1, .int .i64 a2, .int .i64 a3, .string r]] W fun e W' => e = .returned (.tuple #[.agg #[.int .i64 A, .string R], .int .i64 0]) ∧ Below W.heap.size W W') :
    Calls Tryz.prog 14 #[.pointer (some ⟨B, 0, none⟩), v, .agg #[.int .i64 a0, .int .i64 a1, .int .i64 a2, .int .i64 a3, .string r]] w fun e w' => e = .returned (.int .i64 1) ∧ Below w.heap.size w w' := by
  obtain ⟨oa, cap, c0, hm⟩ := hp.c0
  have hb0 := bel_alloc w (.cells #[.int .i64 a0, .int .i64 a1, .int .i64 a2, .int .i64 a3, .string r] 23)
  have g0 := heap_alloc_new w (.cells #[.int .i64 a0, .int .i64 a1, .int .i64 a2, .int .i64 a3, .string r] 23)
  have hB := World.block_lt_of_cell? _ _ c0
  have h2 := hsup _ hb0
  have hl := fun W => rlive_any (P.kept.length : Nat) W
  have hway : (loE (P.kept.length : Nat) != 0) = true ∨ (loE (P.kept.length : Nat) = 0 ∧ (loN (P.kept.length : Nat) != a3) = true) := by
    by_cases h0 : loE (P.kept.length : Nat) = 0
    · exact .inr ⟨h0, bne_iff_ne.2 fun h => hno ⟨h0, h⟩⟩
    · exact .inl (bne_iff_ne.2 h0)
  have HB : Hid _ := hb0
  have HG : Hid _ := g0
  clear hp hb0 g0 hsup hno
  generalize loE (P.kept.length : Nat) = Y1 at *
  generalize loN (P.kept.length : Nat) = Y2 at *
  go_enter Tryz.func14, Tryz.ntmps14
  go_wp2_with fail
  refine h2.mono ?_
  rintro e w2 ⟨rfl, hb2⟩
  obtain ⟨X3, hX3⟩ : ∃ X3, w2.alloc (.cells #[.int .i64 A, .string R] 68) = X3 := ⟨_, rfl⟩
  have hb3 : Below w.heap.size w X3 := by
    rw [← hX3]
    have q := HB.out.trans (hb2.mono HB.out.size)
    exact q.alloc q.size _
  have gX : X3.heap[w2.heap.size]? = some (.cells #[.int .i64 A, .string R] 68 (0, 0)) := by rw [← hX3]; exact heap_alloc_new w2 _
  have gw : X3.heap[w.heap.size]? = some (.cells #[.int .i64 a0, .int .i64 a1, .int .i64 a2, .int .i64 a3, .string r] 23 (0, 0)) := by
    rw [← hX3]
    have q := (hb2.block w.heap.size (by simp)).trans HG.out
    exact (Below.heap_alloc w2 _ _ (lt_of_block q)).trans q
  have c1 : X3.cell? ⟨B, 0, none⟩ = some (.slice oa P.kept.length cap) := (hb3.cell (p := ⟨B, 0, none⟩) hB).trans c0
  have HX : Hid (Below w.heap.size w X3 ∧ X3.heap[w.heap.size]? = some (.cells #[.int .i64 a0, .int .i64 a1, .int .i64 a2, .int .i64 a3, .string r] 23 (0, 0))) := ⟨hb3, gw⟩
  generalize P.kept.length = n at *
  clear h2 hb2 HB HG c0 hB gX gw hb3
  rcases hway with hx | ⟨hx, hy⟩
  · go_wp2_with fail
    refine (hl _).mono ?_
    rintro e w5 ⟨rfl, hb5⟩
    have HF : Hid (Below w.heap.size w w5) := HX.out.1.trans (hb5.mono HX.out.1.size)
    clear hl hb5 HX c1
    go_wp2
    go_ret
    exact ⟨rfl, HF.out⟩
  · subst hx
    go_wp2_with fail
    refine (hl _).mono ?_
    rintro e w5 ⟨rfl, hb5⟩
    have q := (hb5.block w.heap.size (lt_of_block HX.out.2)).trans HX.out.2
    have d3 : w5.cell? ⟨w.heap.size, 3, none⟩ = some (.int .i64 a3) := cell_of_row _ _ 3 _ _ _ q
    have HF : Hid (Below w.heap.size w w5) := HX.out.1.trans (hb5.mono HX.out.1.size)
    clear hl hb5 HX c1 q
    go_wp2
    go_ret
    exact ⟨rfl, HF.out⟩
set_option maxHeartbeats 8000000 in
theorem ranw_in (v : Value) (B : Nat) (F : Nat → Prop) (P : PS) (a0 a1 a2 a3 : Int) (r : ByteArray) (A : Int) (R : ByteArray) (w : World) (hp : RefP w F B P) (hlt : ∀ k, F k → k < w.heap.size) (hw : P.wait.length ≤ 100000) (hyes : loE (P.kept.length : Nat) = 0 ∧ loN (P.kept.length : Nat) = a3)
    (hsup : ∀ W, Below w.heap.size w W → Calls Tryz.prog 34 #[v, .agg #[.int .i64 a0, .int .i64 a1, .int .i64 a2, .int .i64 a3, .string r]] W fun e W' => e = .returned (.tuple #[.agg #[.int .i64 A, .string R], .int .i64 0]) ∧ Below W.heap.size W W') :
    Calls Tryz.prog 14 #[.pointer (some ⟨B, 0, none⟩), v, .agg #[.int .i64 a0, .int .i64 a1, .int .i64 a2, .int .i64 a3, .string r]] w fun e w' => e = .returned (.int .i64 (if (rfolB [[⟨A, R⟩]] true P).1 = true then 0 else 20)) ∧ RefP w' (grow F w w') B (rfolB [[⟨A, R⟩]] true P).2 ∧ Touch F w w' := by
  obtain ⟨oa, cap, c0, hm⟩ := hp.c0
  have hb0 := bel_alloc w (.cells #[.int .i64 a0, .int .i64 a1, .int .i64 a2, .int .i64 a3, .string r] 23)
  have g0 := heap_alloc_new w (.cells #[.int .i64 a0, .int .i64 a1, .int .i64 a2, .int .i64 a3, .string r] 23)
  have hB := World.block_lt_of_cell? _ _ c0
  have h2 := hsup _ hb0
  have hl := fun W => rlive_any (P.kept.length : Nat) W
  rw [hyes.1, hyes.2] at hl
  have HB : Hid _ := hb0
  have HG : Hid _ := g0
  have HS0 : Hid (RSt (fun _ _ => False) F w w B P) := RSt.start hp hlt
  obtain ⟨r1, e1⟩ : ∃ r1, rputB true P ⟨A, R⟩ = r1 := ⟨_, rfl⟩
  obtain ⟨r2, e2⟩ : ∃ r2, rflB r1.1 r1.2 = r2 := ⟨_, rfl⟩
  have hall : rfolB [[⟨A, R⟩]] true P = r2 := by
    show (rflB (rputB true P ⟨A, R⟩).1 (rputB true P ⟨A, R⟩).2) = r2
    rw [e1, e2]
  rw [hall]
  have w1' := rputB_wait true P ⟨A, R⟩
  rw [e1] at w1'
  have HP1 : Hid (∀ W, RSt (fun _ _ => False) F w W B P → Calls Tryz.prog 35 #[.pointer (some ⟨B, 0, none⟩), .bool true, .int .i64 A, .string R] W fun e W' => e = .returned (.bool r1.1) ∧ RSt (fun _ _ => False) F w W' B r1.2) := fun W h => by
    have q := h.put true A R (by omega)
    rw [e1] at q
    exact q
  have HP2 : Hid (∀ W, RSt (fun _ _ => False) F w W B r1.2 → Calls Tryz.prog 37 #[.pointer (some ⟨B, 0, none⟩), .bool r1.1] W fun e W' => e = .returned (.bool r2.1) ∧ RSt (fun _ _ => False) F w W' B r2.2) := fun W h => by
    have q := h.flush r1.1 (by omega)
    rw [e2] at q
    exact q
  have hend := fun W => rended_any r2.1 W
  clear hp hlt hw hyes hb0 g0 hall e1 e2 w1' hsup
  obtain ⟨b1, P1⟩ := r1
  obtain ⟨b2, P2⟩ := r2
  simp only at HP1 HP2 hend ⊢
  go_enter Tryz.func14, Tryz.ntmps14
  go_wp2_with fail
  refine h2.mono ?_
  rintro e w2 ⟨rfl, hb2⟩
  obtain ⟨X3, hX3⟩ : ∃ X3, w2.alloc (.cells #[.int .i64 A, .string R] 68) = X3 := ⟨_, rfl⟩
  have hb3 : Below w.heap.size w X3 := by
    rw [← hX3]
    have q := HB.out.trans (hb2.mono HB.out.size)
    exact q.alloc q.size _
  have gX : X3.heap[w2.heap.size]? = some (.cells #[.int .i64 A, .string R] 68 (0, 0)) := by rw [← hX3]; exact heap_alloc_new w2 _
  have gw : X3.heap[w.heap.size]? = some (.cells #[.int .i64 a0, .int .i64 a1, .int .i64 a2, .int .i64 a3, .string r] 23 (0, 0)) := by
    rw [← hX3]
    have q := (hb2.block w.heap.size (by simp)).trans HG.out
    exact (Below.heap_alloc w2 _ _ (lt_of_block q)).trans q
  have c1 : X3.cell? ⟨B, 0, none⟩ = some (.slice oa P.kept.length cap) := (hb3.cell (p := ⟨B, 0, none⟩) hB).trans c0
  have HX : Hid (Below w.heap.size w X3 ∧ X3.heap[w.heap.size]? = some (.cells #[.int .i64 a0, .int .i64 a1, .int .i64 a2, .int .i64 a3, .string r] 23 (0, 0)) ∧ X3.heap[w2.heap.size]? = some (.cells #[.int .i64 A, .string R] 68 (0, 0))) := ⟨hb3, gw, gX⟩
  generalize P.kept.length = n at *
  clear h2 hb2 HB HG c0 hB gX gw hb3
  go_wp2_with fail
  refine (hl _).mono ?_
  rintro e w5 ⟨rfl, hb5⟩
  have q := (hb5.block w.heap.size (lt_of_block HX.out.2.1)).trans HX.out.2.1
  have q2 := (hb5.block w2.heap.size (lt_of_block HX.out.2.2)).trans HX.out.2.2
  have d3 : w5.cell? ⟨w.heap.size, 3, none⟩ = some (.int .i64 a3) := cell_of_row _ _ 3 _ _ _ q
  have k0 : w5.cell? ⟨w2.heap.size, 0, none⟩ = some (.int .i64 A) := cell_of_row _ _ 0 _ _ _ q2
  have k1 : w5.cell? ⟨w2.heap.size, 1, none⟩ = some (.string R) := cell_of_row _ _ 1 _ _ _ q2
  have h6 := HP1.out w5 (HS0.out.below (HX.out.1.trans (hb5.mono HX.out.1.size)))
  clear hl hb5 HX c1 q q2 hX3 HP1 HS0
  go_wp2_with fail
  refine h6.mono ?_
  rintro e w6 ⟨rfl, hs6⟩
  have h7 := HP2.out w6 hs6
  clear h6 hs6 HP2 d3 k0 k1
  go_wp2_with fail
  refine h7.mono ?_
  rintro e w7 ⟨rfl, hs7⟩
  have HF : Hid (RefP w7 (grow F w w7) B P2 ∧ Touch F w w7) := hs7.out
  clear h7 hs7
  go_wp2_with fail
  refine (hend _).mono ?_
  rintro e w8 ⟨rfl, rfl⟩
  clear hend
  go_wp2
  all_goals
    go_ret
    exact ⟨rfl, HF.out.1, HF.out.2⟩
end Go.Proofs.YtoopaigpjefonaaGreatDoor

namespace Go.Proofs.YtoopaigpjefonaaGreatDoor
set_option maxRecDepth 20000
open Go.RowKit

theorem putE_in {n : Int} {k : Int} (h : putE n k = 0) : 0 ≤ n ∧ n < 256 ^ k.toNat := by
  unfold putE at h
  split at h
  · omega
  split at h
  · omega
  · omega
theorem putE_is {n k : Int} (h1 : 1 ≤ k) (h6 : k ≤ 6) (h : 0 ≤ n) (h' : n < 256 ^ k.toNat) : putE n k = 0 := by
  unfold putE
  rw [if_neg (by omega), if_neg (by omega)]
/-- A superblock that may be laid can be sealed. -/
theorem err_sup {s : Sp} (he : s.err = 0) : supE s = 0 := by
  have h1 := (sp_list he).2.2.2
  simp [laidOk, superPs] at h1
  have hv := putE_in h1.1
  have hp := putE_in h1.2.1
  have h2 := Int.tmod_lt_of_pos s.ep (show (0 : Int) < 2 by decide)
  have h3 : 0 ≤ s.ep.tmod 2 := Int.tmod_nonneg 2 hp.1
  have hh : s.hd.err = 0 := by
    have hl : laidOk s.hd.ps = true := by
      show laidOk [(s.vol, 6), (s.ep.tmod 2, 4), (1, 2), (0, 4), (0, 4), (0, 4), (s.ep, 6), (s.ep, 6)] = true
      have q1 : putE (s.ep.tmod 2) 4 = 0 := putE_is (by decide) (by decide) h3 (by
        have : (256 : Int) ^ (4 : Int).toNat = 4294967296 := by decide
        omega)
      simp only [laidOk, h1.1, h1.2.1, q1]
      decide
    exact recE_ok hl
  unfold supE
  rw [if_pos he]
  unfold bsealE
  rw [if_pos (sp_size he)]
  exact hh
section
variable {K : Nat → Obj → Prop} {w0 w : World} {X : ByteArray} {t0 t1 : Obj} {G B1 B2 B3 B4 : Nat} {P Q : PS}
theorem lanew (hX : X.size = 32) (h : LF K w0 w X t0 t1 G B1 B2 B3 B4 P Q) (s : Sp) (hup : P.up = true) (hw : P.wait.length ≤ 100000) :
    Calls Tryz.prog 13 #[.pointer (some ⟨B1, 0, none⟩), .pointer (some ⟨B3, 0, none⟩), .agg s.arr] w fun e w' => e = .returned (.int .i64 (anE (realK B3 X t0 t1) P () s)) ∧ LF K w0 w' X t0 t1 G B1 B2 B3 B4 (anP (realK B3 X t0 t1) P () s) Q := by
  obtain ⟨F, F2, h⟩ := h
  exact (anew_all (realK B3 X t0 t1) (realOk B3 X hX t0 t1) F B1 P () s w h.duo trivial hup hw h.err h.outE.1).mono fun e w' ⟨he, hd, ht⟩ => ⟨he, h.stepD hd ht⟩
theorem lranew (hX : X.size = 32) (h : LF K w0 w X t0 t1 G B1 B2 B3 B4 P Q) (s : Sp) (hs : s.Ok) (hw : Q.wait.length ≤ 100000) :
    Calls Tryz.prog 14 #[.pointer (some ⟨B2, 0, none⟩), .pointer (some ⟨B4, 0, none⟩), .agg s.arr] w fun e w' => e = .returned (.int .i64 (anE (realK B3 X t0 t1) Q () s)) ∧ LF K w0 w' X t0 t1 G B1 B2 B3 B4 P (anP (realK B3 X t0 t1) Q () s) := by
  have hL := h
  obtain ⟨F, F2, h⟩ := h
  have hsup := fun W (hW : Below w.heap.size w W) => rjsuper_real rprims6 backs6 B4 X hX s hs W (h.rr.keep hW)
  by_cases he : s.err = 0
  case neg =>
    have hE : supE s = s.err := by unfold supE; rw [if_neg he]
    have e1 : anE (realK B3 X t0 t1) Q () s = supE s := by unfold anE; rw [if_neg he, hE]
    have e2 : anP (realK B3 X t0 t1) Q () s = Q := by unfold anP; rw [if_neg he]
    rw [e1, e2]
    exact (ranw_err (.pointer (some ⟨B4, 0, none⟩)) B2 F2 Q s.vol s.ep s.nx s.lv s.root (supA s) (supE s) (supRS realF X s) w h.ref (by rw [hE]; exact he) hsup).mono fun e w' ⟨he, hb⟩ => ⟨he, hL.below hb⟩
  have hE := err_sup he
  rw [hE] at hsup
  cases hf : fmOk Q s with
  | false =>
    have e1 : anE (realK B3 X t0 t1) Q () s = 1 := by unfold anE; rw [if_pos he, hf]; rfl
    have e2 : anP (realK B3 X t0 t1) Q () s = Q := by unfold anP; rw [if_pos he, hf]; rfl
    rw [e1, e2]
    exact (ranw_no (.pointer (some ⟨B4, 0, none⟩)) B2 F2 Q s.vol s.ep s.nx s.lv s.root (supA s) (supRS realF X s) w h.ref (of_decide_eq_false hf) hsup).mono fun e w' ⟨he, hb⟩ => ⟨he, hL.below hb⟩
  | true =>
    have hfit : ∀ l, l ∈ [[(⟨supA s, supRS realF X s⟩ : Wt)]] → ∀ x, x ∈ l → FitW Q.kept.length x := fun l hl x hx => by
      rw [List.mem_singleton] at hl
      subst hl
      rw [List.mem_singleton] at hx
      subst hx
      have h1 := live_room (of_decide_eq_true hf).1
      obtain ⟨a0, a1⟩ := supA_01 s hE he
      exact ⟨⟨(supA s).toNat, by show supA s = _; omega, by omega⟩, supR_size (realOk B3 X hX t0 t1) (S := ()) trivial hE⟩
    have q := ranw_in (.pointer (some ⟨B4, 0, none⟩)) B2 F2 Q s.vol s.ep s.nx s.lv s.root (supA s) (supRS realF X s) w h.ref h.lt2 hw (of_decide_eq_true hf) hsup
    have f1 := ended_ans [[(⟨supA s, supRS realF X s⟩ : Wt)]] Q hfit
    rw [f1, rfol_on] at q
    have e1 : anE (realK B3 X t0 t1) Q () s = ansE (folE [[⟨supA s, supRS realF X s⟩]] Q) := by
      unfold anE
      rw [if_pos he, if_pos hf, if_pos hE]
      rfl
    have e2 : anP (realK B3 X t0 t1) Q () s = folP [[⟨supA s, supRS realF X s⟩]] Q := by
      unfold anP
      rw [if_pos he, if_pos hf, if_pos hE]
      rfl
    rw [e1, e2]
    exact q.mono fun e w' ⟨he, hp, ht⟩ => ⟨he, h.stepR hp ht⟩
end
end Go.Proofs.YtoopaigpjefonaaGreatDoor

namespace Go.Proofs.YtoopaigpjefonaaGreatDoor
set_option maxRecDepth 20000
open Go.RowKit

theorem anew_state (n : Nat) : (newP n).up = true ∧ (newP n).wait.length ≤ 100000 := ⟨rfl, by show (0 : Nat) ≤ 100000; omega⟩
theorem aarm_state (P : PS) (fz : Int) (h : P.up = true ∧ P.wait.length ≤ 100000) : (if 0 ≤ fz then armP P fz else P).up = true ∧ (if 0 ≤ fz then armP P fz else P).wait.length ≤ 100000 := by
  unfold armP
  split
  · split
    · exact h
    · split
      · exact h
      · exact h
  · exact h
theorem an_wait {V : VK} {P : PS} {S : V.σ} {s : Sp} (h : P.wait.length ≤ 100000) : (anP V P S s).wait.length ≤ 1000000 := by
  unfold anP
  split
  · split
    · split
      · have h1 := take_wait [⟨supA s, supR V S s⟩] P
        have e : ([⟨supA s, supR V S s⟩] : List Wt).length = 1 := rfl
        unfold folP
        split
        · show (takeP _ P).wait.length ≤ _
          omega
        · omega
      · omega
    · omega
  · omega
set_option maxHeartbeats 16000000 in
theorem walk_anews (live : Int) (s : Sp) (hi : IsInt s.vol ∧ IsInt s.ep ∧ IsInt s.nx ∧ IsInt s.lv ∧ s.root.size ≤ maxLen) (fz : Int) (kv : Value) (keep : List Bool) (w : World) (hk : Bools w (fun k => w.heap.size ≤ k) kv keep) (hfz : fz < 9223372036854775808) (ht : TabR w) (hg : ErrT w) :
    Calls Tryz.prog 4 #[.int .i64 live, .agg s.arr, .agg #[.int .i64 fz, kv]] w fun e w' => e = .returned (.bool true) ∧ Below w.heap.size w w' := by
  have hs : s.Ok := ⟨hi.1, hi.2.1, hi.2.2.1, hi.2.2.2.1⟩
  obtain ⟨n, hn, hsec⟩ := lsectors_any live
  obtain ⟨X, hX, hlaid⟩ := laid_lf n hn
  obtain ⟨y0, hy0⟩ : ∃ y0, (w.alloc (.cells s.arr 23)).alloc (.cells #[.int .i64 fz, kv] 26) = y0 := ⟨_, rfl⟩
  have hb0 : Below w.heap.size w y0 := by rw [← hy0]; exact ba (bel_alloc w _)
  have gs : y0.heap[w.heap.size]? = some (.cells s.arr 23 (0, 0)) := by rw [← hy0]; exact heap_alloc2_old w _ _
  have gc : y0.heap[w.heap.size + 1]? = some (.cells #[.int .i64 fz, kv] 26 (0, 0)) := by rw [← hy0]; exact heap_alloc2_new w _ _
  have hlts := lt_of_block gs
  have hltc := lt_of_block gc
  have HW : Hid (Below w.heap.size w y0 ∧ y0.heap[w.heap.size]? = some (.cells s.arr 23 (0, 0)) ∧ y0.heap[w.heap.size + 1]? = some (.cells #[.int .i64 fz, kv] 26 (0, 0)) ∧ TabR w ∧ ErrT w ∧ Bools w (fun k => w.heap.size ≤ k) kv keep ∧ w.heap.size < y0.heap.size ∧ w.heap.size + 1 < y0.heap.size) := ⟨hb0, gs, gc, ht, hg, hk, hlts, hltc⟩
  have HLD : Hid (∀ W, TabR W → ErrT W → Calls Tryz.prog 5 #[.int .i64 (n : Int)] W fun e w' => ∃ G B1 B2 B3 B4 t0 t1, e = .returned (.pointer (some ⟨G, 0, none⟩)) ∧ LF (fun _ _ => False) W w' X t0 t1 G B1 B2 B3 B4 (newP n) (newP n)) := hlaid
  have HSP : Hid (s.Ok ∧ X.size = 32 ∧ fz < 9223372036854775808) := ⟨hs, hX, hfz⟩
  clear hb0 gs gc hlts hltc ht hg hk hlaid hi hs hX hn
  go_enter Tryz.func4, Tryz.ntmps4
  go_wp2_with fail
  try rw [hy0]
  refine (hsec _).mono ?_
  rintro e x1 ⟨rfl, hb1⟩
  have hw1 : Below w.heap.size w x1 := HW.out.1.trans (hb1.mono HW.out.1.size)
  have hl := HLD.out x1 (prims6.tab HW.out.2.2.2.1 hw1) (HW.out.2.2.2.2.1.bel hw1)
  have H1 : Hid (Below w.heap.size w x1 ∧ x1.heap[w.heap.size]? = some (.cells s.arr 23 (0, 0)) ∧ x1.heap[w.heap.size + 1]? = some (.cells #[.int .i64 fz, kv] 26 (0, 0)) ∧ Bools x1 (fun k => x1.heap.size ≤ k) kv keep) := ⟨hw1, (hb1.block _ HW.out.2.2.2.2.2.2.1).trans HW.out.2.1, (hb1.block _ HW.out.2.2.2.2.2.2.2).trans HW.out.2.2.1, (HW.out.2.2.2.2.2.1.touch (Touch.of_below hw1)).mono fun k _ hk2 => by have := hw1.size; omega⟩
  clear hsec hb1 hw1 hy0 HW HLD
  go_wp2_with fail
  refine hl.mono ?_
  rintro e x2 ⟨G, B1, B2, B3, B4, t0, t1, rfl, hLF⟩
  have HC : Hid (∀ W P Q, LF (fun _ _ => False) x1 W X t0 t1 G B1 B2 B3 B4 P Q → (W.cell? ⟨G, 0, none⟩ = some (.pointer (some ⟨B1, 0, none⟩)) ∧ W.cell? ⟨G, 1, none⟩ = some (.pointer (some ⟨B2, 0, none⟩)) ∧ W.cell? ⟨G, 2, none⟩ = some (.pointer (some ⟨B3, 0, none⟩)) ∧ W.cell? ⟨G, 3, none⟩ = some (.pointer (some ⟨B4, 0, none⟩))) ∧ (W.cell? ⟨w.heap.size, 0, none⟩ = some (.int .i64 s.vol) ∧ W.cell? ⟨w.heap.size, 1, none⟩ = some (.int .i64 s.ep) ∧ W.cell? ⟨w.heap.size, 2, none⟩ = some (.int .i64 s.nx) ∧ W.cell? ⟨w.heap.size, 3, none⟩ = some (.int .i64 s.lv) ∧ W.cell? ⟨w.heap.size, 4, none⟩ = some (.string s.root)) ∧ W.cell? ⟨w.heap.size + 1, 0, none⟩ = some (.int .i64 fz) ∧ W.cell? ⟨w.heap.size + 1, 1, none⟩ = some kv) := fun W P Q h => by
    have q1 := (h.bel.block _ (lt_of_block H1.out.2.1)).trans H1.out.2.1
    have q2 := (h.bel.block _ (lt_of_block H1.out.2.2.1)).trans H1.out.2.2.1
    exact ⟨h.cells, ⟨cell_of_row _ _ 0 _ _ _ q1, cell_of_row _ _ 1 _ _ _ q1, cell_of_row _ _ 2 _ _ _ q1, cell_of_row _ _ 3 _ _ _ q1, cell_of_row _ _ 4 _ _ _ q1⟩, cell_of_row _ _ 0 _ _ _ q2, cell_of_row _ _ 1 _ _ _ q2⟩
  have ha := larm_any hLF fz HSP.out.2.2 kv
  have hst := aarm_state (newP n) fz (anew_state n)
  obtain ⟨_, _, d0, d1⟩ := HC.out x2 _ _ hLF
  generalize (if 0 ≤ fz then armP (newP n) fz else newP n) = P1 at *
  clear hl hLF
  go_wp2_with fail
  refine ha.mono ?_
  rintro e x3 ⟨rfl, h3⟩
  have H3 : Hid (LF (fun _ _ => False) x1 x3 X t0 t1 G B1 B2 B3 B4 P1 P1) := h3
  have HF1 : Hid (∀ W, LF (fun _ _ => False) x1 W X t0 t1 G B1 B2 B3 B4 P1 P1 → Calls Tryz.prog 13 #[.pointer (some ⟨B1, 0, none⟩), .pointer (some ⟨B3, 0, none⟩), .agg s.arr] W fun e w' => e = .returned (.int .i64 (anE (realK B3 X t0 t1) P1 () s)) ∧ LF (fun _ _ => False) x1 w' X t0 t1 G B1 B2 B3 B4 (anP (realK B3 X t0 t1) P1 () s) P1) := fun W hW => lanew HSP.out.2.1 hW s hst.1 hst.2
  have HF2 : Hid (∀ W, LF (fun _ _ => False) x1 W X t0 t1 G B1 B2 B3 B4 (anP (realK B3 X t0 t1) P1 () s) P1 → Calls Tryz.prog 14 #[.pointer (some ⟨B2, 0, none⟩), .pointer (some ⟨B4, 0, none⟩), .agg s.arr] W fun e w' => e = .returned (.int .i64 (anE (realK B3 X t0 t1) P1 () s)) ∧ LF (fun _ _ => False) x1 w' X t0 t1 G B1 B2 B3 B4 (anP (realK B3 X t0 t1) P1 () s) (anP (realK B3 X t0 t1) P1 () s)) := fun W hW => lranew HSP.out.2.1 hW s HSP.out.1 hst.2
  have hw2 : (anP (realK B3 X t0 t1) P1 () s).wait.length ≤ 1000000 := an_wait hst.2
  generalize anE (realK B3 X t0 t1) P1 () s = E at *
  generalize anP (realK B3 X t0 t1) P1 () s = P2 at *
  obtain ⟨a0, a1, a2, a3, rt⟩ := s
  simp only [Sp.arr] at HF1 HF2 HC H1
  clear ha h3 d0 d1 hst HSP
  go_wp2_with fail
  have hc3 := HC.out x3 P1 P1 H3.out
  have hc3d := HC.out x3.drew P1 P1 H3.out.drew
  go_cut [8] from 10 (fun s8 wc => s8 = .int .i64 E ∧ Hid (LF (fun _ _ => False) x1 wc X t0 t1 G B1 B2 B3 B4 P2 P1))
  case first =>
    go_region_held3 (fun w' => w'.cell? ⟨G, 0, none⟩ = some (.pointer (some ⟨B1, 0, none⟩)) ∧ w'.cell? ⟨G, 2, none⟩ = some (.pointer (some ⟨B3, 0, none⟩)) ∧ w'.cell? ⟨w.heap.size, 0, none⟩ = some (.int .i64 a0) ∧ w'.cell? ⟨w.heap.size, 1, none⟩ = some (.int .i64 a1) ∧ w'.cell? ⟨w.heap.size, 2, none⟩ = some (.int .i64 a2) ∧ w'.cell? ⟨w.heap.size, 3, none⟩ = some (.int .i64 a3) ∧ w'.cell? ⟨w.heap.size, 4, none⟩ = some (.string rt)) (first | exact ⟨hq.1.1, hq.1.2.2.1, hq.2.1⟩ | exact ⟨hc3.1.1, hc3.1.2.2.1, hc3.2.1⟩ | exact ⟨hc3d.1.1, hc3d.1.2.2.1, hc3d.2.1⟩ | simp [go_sem, *]) (first
      | (go_at_call 13; refine (HF1.out _ (by first | exact H3.out.drew | exact H3.out)).mono ?_; rintro e x4 ⟨rfl, h4⟩; have H4 : Hid (LF (fun _ _ => False) x1 x4 X t0 t1 G B1 B2 B3 B4 P2 P1) := h4; have hq := HC.out x4 P2 P1 h4; clear h4))
    all_goals
      go_wp2_with fail
      go_meet
      exact ⟨rfl, H4⟩
  case rest =>
    obtain ⟨rfl, H4⟩ := hcut
    generalize wc = x4 at *
    clear HF1 hc3 hc3d H3
    go_wp2_with fail
    have hc4 := HC.out x4 P2 P1 H4.out
    have hc4d := HC.out x4.drew P2 P1 H4.out.drew
    go_cut [9] from 10 (fun s9 wc => s9 = .int .i64 E ∧ Hid (LF (fun _ _ => False) x1 wc X t0 t1 G B1 B2 B3 B4 P2 P2))
    case first =>
      go_region_held3 (fun w' => w'.cell? ⟨G, 1, none⟩ = some (.pointer (some ⟨B2, 0, none⟩)) ∧ w'.cell? ⟨G, 3, none⟩ = some (.pointer (some ⟨B4, 0, none⟩)) ∧ w'.cell? ⟨w.heap.size, 0, none⟩ = some (.int .i64 a0) ∧ w'.cell? ⟨w.heap.size, 1, none⟩ = some (.int .i64 a1) ∧ w'.cell? ⟨w.heap.size, 2, none⟩ = some (.int .i64 a2) ∧ w'.cell? ⟨w.heap.size, 3, none⟩ = some (.int .i64 a3) ∧ w'.cell? ⟨w.heap.size, 4, none⟩ = some (.string rt)) (first | exact ⟨hq.1.2.1, hq.1.2.2.2, hq.2.1⟩ | exact ⟨hc4.1.2.1, hc4.1.2.2.2, hc4.2.1⟩ | exact ⟨hc4d.1.2.1, hc4d.1.2.2.2, hc4d.2.1⟩ | simp [go_sem, *]) (first
        | (go_at_call 14; refine (HF2.out _ (by first | exact H4.out.drew | exact H4.out)).mono ?_; rintro e x5 ⟨rfl, h5⟩; have H5 : Hid (LF (fun _ _ => False) x1 x5 X t0 t1 G B1 B2 B3 B4 P2 P2) := h5; have hq := HC.out x5 P2 P2 h5; clear h5))
      all_goals
        go_wp2_with fail
        go_meet
        exact ⟨rfl, H5⟩
    case rest =>
      obtain ⟨rfl, H5⟩ := hcut
      generalize wc = x5 at *
      clear HF2 hc4 hc4d H4
      have hee : (E != E) = false := by simp
      have h6 := lsame_any H5.out
      go_wp2_with fail
      refine h6.mono ?_
      rintro e x6 ⟨rfl, hb6⟩
      have H6 : Hid (LF (fun _ _ => False) x1 x6 X t0 t1 G B1 B2 B3 B4 P2 P2) := H5.out.below hb6
      obtain ⟨_, _, d0, d1⟩ := HC.out x6 P2 P2 H6.out
      have h7 := lstart_any H6.out fz kv keep hw2 H1.out.2.2.2
      clear h6 hb6 H5
      generalize startP keep P2 = P3 at *
      go_wp2_with fail
      refine h7.mono ?_
      rintro e x7 ⟨rfl, hl7⟩
      have H7 : Hid (LF (fun _ _ => False) x1 x7 X t0 t1 G B1 B2 B3 B4 P3 P3) := hl7
      have h8 := lsame_any H7.out
      clear h7 hl7 d0 d1 H6
      go_wp2_with fail
      refine h8.mono ?_
      rintro e x8 ⟨rfl, hb8⟩
      have H8 : Hid (ErrT x8 ∧ Below w.heap.size w x8) := by
        have q := H7.out.below hb8
        exact ⟨q.err, H1.out.1.trans (q.bel.mono H1.out.1.size)⟩
      have h9 := jawake_any x8 H8.out.1
      clear h8 hb8 H7
      go_wp2_with fail
      refine h9.mono ?_
      rintro e x9 ⟨rfl, hb9⟩
      have HF : Hid (Below w.heap.size w x9) := H8.out.2.trans (hb9.mono H8.out.2.size)
      clear h9 hb9 H8
      go_wp2
      go_ret
      exact ⟨rfl, HF.out⟩
/-- The law, its cut as it came in. -/
theorem walk_journalAnews (live : Int) (s : Sp) (v2 : Value) (c : CutT) (hi : IsInt s.vol ∧ IsInt s.ep ∧ IsInt s.nx ∧ IsInt s.lv ∧ s.root.size ≤ maxLen) (w : World) (h2 : v2 = .agg #[.int .i64 c.fuse, c.kv] ∧ Bools w (fun k => w.heap.size ≤ k) c.kv c.keep ∧ c.fuse < 9223372036854775808) (ht : TabR w) (hg : ErrT w) :
    Calls Tryz.prog 4 #[.int .i64 live, .agg s.arr, v2] w fun e w' => e = .returned (.bool true) ∧ Below w.heap.size w w' := by
  obtain ⟨rfl, hb, hk⟩ := h2
  exact walk_anews live s hi c.fuse c.kv c.keep w hb hk ht hg
end Go.Proofs.YtoopaigpjefonaaGreatDoor
