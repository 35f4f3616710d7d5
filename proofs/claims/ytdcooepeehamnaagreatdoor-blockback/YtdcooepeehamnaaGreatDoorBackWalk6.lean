/- The law BlockBack, called with any head, text, address and sector, returns true, and changes nothing that was there. -/
import Derived.Test.YtdcooepeehamnaaGreatDoorBkBackAll
import Derived.Test.YtdcooepeehamnaaGreatDoorBkEq
import Derived.Deep.RegionWith
namespace Go.Proofs.YtdcooepeehamnaaGreatDoor
set_option maxRecDepth 20000
open Go.RowKit Go.Lib

/-- A device, an ideal vault and a head that lie apart. -/
structure BkOn (w0 w : World) (F G : Nat → Prop) (P B : Nat) (S : PS) (V : VS) (hb : Nat) (h : Hd) : Prop where
  plate : Plate w F P S
  ideal : Ideal w G B V
  apart : ∀ k, G k → ¬ F k
  low : ∀ k, F k → w0.heap.size ≤ k ∧ k < w.heap.size
  lowG : ∀ k, G k → w0.heap.size ≤ k ∧ k < w.heap.size
  noH : ¬ F hb ∧ ¬ G hb
  err : ErrT w
  head : w.heap[hb]? = some (.cells #[.int .i64 h.v0, .int .i64 h.v1, .int .i64 h.v2, .int .i64 h.v3, .int .i64 h.v4, .int .i64 h.v5, .int .i64 h.v6, .int .i64 h.v7] 46 (0, 0))
  below : Below w0.heap.size w0 w
  errLt : 0 < w0.heap.size
theorem BkOn.noE {w0 w : World} {F G : Nat → Prop} {P B : Nat} {S : PS} {V : VS} {hb : Nat} {h : Hd} (o : BkOn w0 w F G P B S V hb h) : ¬ F 0 := fun hf => absurd (o.low _ hf).1 (by have := o.errLt; omega)
theorem BkOn.noEG {w0 w : World} {F G : Nat → Prop} {P B : Nat} {S : PS} {V : VS} {hb : Nat} {h : Hd} (o : BkOn w0 w F G P B S V hb h) : ¬ G 0 := fun hf => absurd (o.lowG _ hf).1 (by have := o.errLt; omega)
theorem BkOn.touch {w0 w w' : World} {F G : Nat → Prop} {P B : Nat} {S S' : PS} {V : VS} {hb : Nat} {h : Hd} (o : BkOn w0 w F G P B S V hb h) (t : Touch F w w') (hp : Plate w' F P S') : BkOn w0 w' F G P B S' V hb h :=
  ⟨hp, o.ideal.keep fun k hk hf => t.2 k hk (o.apart k hf), o.apart, fun k hk => ⟨(o.low k hk).1, Nat.lt_of_lt_of_le (o.low k hk).2 t.size⟩, fun k hk => ⟨(o.lowG k hk).1, Nat.lt_of_lt_of_le (o.lowG k hk).2 t.size⟩, o.noH, (cell_kept_0 (t.2 _ (lt_of_cell_ o.err) o.noE)).trans o.err, (t.2 hb (lt_of_block o.head) o.noH.1).trans o.head, o.below.trans (t.below o.below.size fun k hk => (o.low k hk).1), o.errLt⟩
theorem BkOn.touchG {w0 w w' : World} {F G : Nat → Prop} {P B : Nat} {S : PS} {V V' : VS} {hb : Nat} {h : Hd} (o : BkOn w0 w F G P B S V hb h) (t : Touch G w w') (hv : Ideal w' G B V') : BkOn w0 w' F G P B S V' hb h :=
  ⟨o.plate.keep fun k hk hf => t.2 k hk fun hg => o.apart k hg hf, hv, o.apart, fun k hk => ⟨(o.low k hk).1, Nat.lt_of_lt_of_le (o.low k hk).2 t.size⟩, fun k hk => ⟨(o.lowG k hk).1, Nat.lt_of_lt_of_le (o.lowG k hk).2 t.size⟩, o.noH, (cell_kept_0 (t.2 _ (lt_of_cell_ o.err) o.noEG)).trans o.err, (t.2 hb (lt_of_block o.head) o.noH.2).trans o.head, o.below.trans (t.below o.below.size fun k hk => (o.lowG k hk).1), o.errLt⟩
theorem BkOn.put {w0 w w' : World} {F G : Nat → Prop} {P B : Nat} {S S' : PS} {V : VS} {hb : Nat} {h : Hd} (o : BkOn w0 w F G P B S V hb h) (t : Touch F w w') (hp : Plate w' (grow F w w') P S') : BkOn w0 w' (grow F w w') G P B S' V hb h :=
  ⟨hp, o.ideal.keep fun k hk hf => t.2 k hk (o.apart k hf), fun k hk hf => hf.elim (o.apart k hk) fun z => absurd z.1 (Nat.not_le_of_lt (o.lowG k hk).2), fun k hk => hk.elim (fun z => ⟨(o.low k z).1, Nat.lt_of_lt_of_le (o.low k z).2 t.size⟩) fun z => ⟨Nat.le_trans o.below.size z.1, z.2⟩, fun k hk => ⟨(o.lowG k hk).1, Nat.lt_of_lt_of_le (o.lowG k hk).2 t.size⟩, ⟨fun hf => hf.elim o.noH.1 fun z => absurd z.1 (Nat.not_le_of_lt (lt_of_block o.head)), o.noH.2⟩, (cell_kept_0 (t.2 _ (lt_of_cell_ o.err) o.noE)).trans o.err, (t.2 hb (lt_of_block o.head) o.noH.1).trans o.head, o.below.trans (t.below o.below.size fun k hk => (o.low k hk).1), o.errLt⟩
theorem BkOn.alloc {w0 w : World} {F G : Nat → Prop} {P B : Nat} {S : PS} {V : VS} {hb : Nat} {h : Hd} (o : BkOn w0 w F G P B S V hb h) (x : Obj) : BkOn w0 (w.alloc x) F G P B S V hb h :=
  o.touch (Touch.of_below ((Below.refl _ _).alloc (Nat.le_refl _) _)) (o.plate.below ((Below.refl _ _).alloc (Nat.le_refl _) _))
theorem hd_set1 {w : World} {b : Nat} {h k : Hd} {x : Int} (g : w.heap[b]? = some (.cells #[.int .i64 h.v0, .int .i64 h.v1, .int .i64 h.v2, .int .i64 h.v3, .int .i64 h.v4, .int .i64 h.v5, .int .i64 h.v6, .int .i64 h.v7] 46 (0, 0))) (e : k = ⟨h.v0, x, h.v2, h.v3, h.v4, h.v5, h.v6, h.v7⟩) : (w.setCell ⟨b, 1, none⟩ (.int .i64 x)).heap[b]? = some (.cells #[.int .i64 k.v0, .int .i64 k.v1, .int .i64 k.v2, .int .i64 k.v3, .int .i64 k.v4, .int .i64 k.v5, .int .i64 k.v6, .int .i64 k.v7] 46 (0, 0)) := by
  subst e
  exact Row.setL (l := [.int .i64 h.v0, .int .i64 h.v1, .int .i64 h.v2, .int .i64 h.v3, .int .i64 h.v4, .int .i64 h.v5, .int .i64 h.v6, .int .i64 h.v7]) g 1 (.int .i64 x)
theorem rc_cells {w : World} {b : Nat} {ok : Bool} {h : Hd} {s : ByteArray} (g : w.heap[b]? = some (.cells #[.bool ok, .int .i64 h.v0, .int .i64 h.v1, .int .i64 h.v2, .int .i64 h.v3, .int .i64 h.v4, .int .i64 h.v5, .int .i64 h.v6, .int .i64 h.v7, .string s] 55 (0, 0))) : w.cell? ⟨b, 0, none⟩ = some (.bool ok) ∧ w.cell? ⟨b, 1, none⟩ = some (.int .i64 h.v0) ∧ w.cell? ⟨b, 2, none⟩ = some (.int .i64 h.v1) ∧ w.cell? ⟨b, 3, none⟩ = some (.int .i64 h.v2) ∧ w.cell? ⟨b, 4, none⟩ = some (.int .i64 h.v3) ∧ w.cell? ⟨b, 5, none⟩ = some (.int .i64 h.v4) ∧ w.cell? ⟨b, 6, none⟩ = some (.int .i64 h.v5) ∧ w.cell? ⟨b, 7, none⟩ = some (.int .i64 h.v6) ∧ w.cell? ⟨b, 8, none⟩ = some (.int .i64 h.v7) ∧ w.cell? ⟨b, 9, none⟩ = some (.string s) :=
  ⟨cell_of_row _ _ _ _ _ _ g, cell_of_row _ _ _ _ _ _ g, cell_of_row _ _ _ _ _ _ g, cell_of_row _ _ _ _ _ _ g, cell_of_row _ _ _ _ _ _ g, cell_of_row _ _ _ _ _ _ g, cell_of_row _ _ _ _ _ _ g, cell_of_row _ _ _ _ _ _ g, cell_of_row _ _ _ _ _ _ g, cell_of_row _ _ _ _ _ _ g⟩
theorem rz_cells {w : World} {b : Nat} (g : w.heap[b]? = some (.cells #[.bool false, .int .i64 0, .int .i64 0, .int .i64 0, .int .i64 0, .int .i64 0, .int .i64 0, .int .i64 0, .int .i64 0, .string ⟨#[]⟩] 55 (0, 0))) : w.cell? ⟨b, 0, none⟩ = some (.bool false) ∧ w.cell? ⟨b, 1, none⟩ = some (.int .i64 0) ∧ w.cell? ⟨b, 2, none⟩ = some (.int .i64 0) ∧ w.cell? ⟨b, 3, none⟩ = some (.int .i64 0) ∧ w.cell? ⟨b, 4, none⟩ = some (.int .i64 0) ∧ w.cell? ⟨b, 5, none⟩ = some (.int .i64 0) ∧ w.cell? ⟨b, 6, none⟩ = some (.int .i64 0) ∧ w.cell? ⟨b, 7, none⟩ = some (.int .i64 0) ∧ w.cell? ⟨b, 8, none⟩ = some (.int .i64 0) ∧ w.cell? ⟨b, 9, none⟩ = some (.string ⟨#[]⟩) := rc_cells (ok := false) (h := Hd.zero) (s := ⟨#[]⟩) g
theorem eql_none (w : World) : (binOp .eql 55 (.agg #[.bool false, .int .i64 0, .int .i64 0, .int .i64 0, .int .i64 0, .int .i64 0, .int .i64 0, .int .i64 0, .int .i64 0, .string ⟨#[]⟩]) (.agg #[.bool false, .int .i64 0, .int .i64 0, .int .i64 0, .int .i64 0, .int .i64 0, .int .i64 0, .int .i64 0, .int .i64 0, .string ⟨#[]⟩])).run Tryz.prog w = .ok (.bool true) w := by kernel_rfl
set_option maxRecDepth 100000 in
set_option maxHeartbeats 1500000 in
theorem walk_blockBack (h : Hd) (s : ByteArray) (at_ sp : Int) (w : World) (hg : ErrT w) :
    Calls Tryz.prog 5 #[.agg #[.int .i64 h.v0, .int .i64 h.v1, .int .i64 h.v2, .int .i64 h.v3, .int .i64 h.v4, .int .i64 h.v5, .int .i64 h.v6, .int .i64 h.v7], .string s, .int .i64 at_, .int .i64 sp] w fun e w' => e = .returned (.bool true) ∧ Below w.heap.size w w' := by
  obtain ⟨W0, hW0⟩ : ∃ W0, w.alloc (.cells #[.int .i64 h.v0, .int .i64 h.v1, .int .i64 h.v2, .int .i64 h.v3, .int .i64 h.v4, .int .i64 h.v5, .int .i64 h.v6, .int .i64 h.v7] 46) = W0 := ⟨_, rfl⟩
  have g0 : W0.heap[w.heap.size]? = some (.cells #[.int .i64 h.v0, .int .i64 h.v1, .int .i64 h.v2, .int .i64 h.v3, .int .i64 h.v4, .int .i64 h.v5, .int .i64 h.v6, .int .i64 h.v7] 46 (0, 0)) := by rw [← hW0]; exact heap_alloc_new w _
  have hB0 : Below w.heap.size w W0 := by rw [← hW0]; exact (Below.refl _ _).alloc (Nat.le_refl _) _
  have HB0 : Hid (Below w.heap.size w W0) := hB0
  have l0 := lt_of_block g0
  have HG : Hid (ErrT w) := hg
  have hlt := lt_of_cell_ hg
  clear hg hB0
  go_enter Tryz.func5, Tryz.ntmps5
  go_wp2_with fail
  try rw [hW0]
  refine (ideal_any W0).mono ?_
  rintro e w1 ⟨B, rfl, hv1, hb1⟩
  clear hW0
  go_wp2_with fail
  refine (new_any 80 (by decide) w1).mono ?_
  rintro e w2 ⟨P, rfl, hp2, hb2⟩
  have hz1 := hb1.size
  have hz2 := hb2.size
  have g2 : w2.heap[w.heap.size]? = some (.cells #[.int .i64 h.v0, .int .i64 h.v1, .int .i64 h.v2, .int .i64 h.v3, .int .i64 h.v4, .int .i64 h.v5, .int .i64 h.v6, .int .i64 h.v7] 46 (0, 0)) := (hb2.block _ (by omega)).trans ((hb1.block _ l0).trans g0)
  have HB2 : Hid (Below w.heap.size w w2) := HB0.out.trans ((hb1.mono HB0.out.size).trans (hb2.mono (by omega)))
  have HV2 : Hid (Ideal w2 (fun k => W0.heap.size ≤ k ∧ k < w1.heap.size) B newV) := hv1.below hb2
  have HP2 : Hid (Plate w2 (fun k => w1.heap.size ≤ k ∧ k < w2.heap.size) P (newP 80)) := hp2
  clear hv1 hb1 hb2 g0 hp2
  by_cases hin : (0 ≤ at_ ∧ at_ ≤ 9) ∧ (0 ≤ sp ∧ sp ≤ 79)
  case neg =>
    have hway : at_ < 0 ∨ (¬ at_ < 0 ∧ 9 < at_) ∨ (¬ at_ < 0 ∧ ¬ 9 < at_ ∧ sp < 0) ∨ (¬ at_ < 0 ∧ ¬ 9 < at_ ∧ ¬ sp < 0 ∧ 79 < sp) := by omega
    clear hin HV2 HP2
    rcases hway with h1 | ⟨h1, h2⟩ | ⟨h1, h2, h3⟩ | ⟨h1, h2, h3, h4⟩
    all_goals
      go_wp2_with fail
      refine (bawake_any _).mono ?_
      rintro e wz ⟨rfl, hbz⟩
      have HF : Hid (Below w.heap.size w wz) := HB2.out.trans (hbz.mono HB2.out.size)
      clear hbz HB2
      go_wp2
      go_ret
      exact ⟨rfl, HF.out⟩
  obtain ⟨⟨i1, i2⟩, i3, i4⟩ := hin
  obtain ⟨a, rfl⟩ : ∃ a : Nat, at_ = a := ⟨at_.toNat, by omega⟩
  obtain ⟨p, rfl⟩ : ∃ p : Nat, sp = p := ⟨sp.toNat, by omega⟩
  obtain ⟨g, hgd⟩ : ∃ g : Hd, g = ⟨h.v0, (a : Int), h.v2, h.v3, h.v4, h.v5, h.v6, h.v7⟩ := ⟨_, rfl⟩
  obtain ⟨w3, hw3⟩ : ∃ w3, w2.setCell ⟨w.heap.size, 1, none⟩ (.int .i64 (a : Int)) = w3 := ⟨_, rfl⟩
  have g3 : w3.heap[w.heap.size]? = some (.cells #[.int .i64 g.v0, .int .i64 g.v1, .int .i64 g.v2, .int .i64 g.v3, .int .i64 g.v4, .int .i64 g.v5, .int .i64 g.v6, .int .i64 g.v7] 46 (0, 0)) := by rw [← hw3]; exact hd_set1 g2 hgd
  have hsz3 : w3.heap.size = w2.heap.size := by rw [← hw3]; simp [World.setCell]
  have ho : ∀ k, k ≠ w.heap.size → w3.heap[k]? = w2.heap[k]? := fun k hk => by rw [← hw3]; exact Below.heap_setCell w2 ⟨w.heap.size, 1, none⟩ _ k hk
  have on3 : BkOn w w3 (fun k => w1.heap.size ≤ k ∧ k < w2.heap.size) (fun k => W0.heap.size ≤ k ∧ k < w1.heap.size) P B (newP 80) newV w.heap.size g := by
    have hb3 : Below w.heap.size w w3 := by rw [← hw3]; exact HB2.out.setCell (p := ⟨w.heap.size, 1, none⟩) (Nat.le_refl _) _
    exact ⟨HP2.out.keep fun k _ hk => ho k (by omega), HV2.out.keep fun k _ hk => ho k (by omega), fun k hk hf => by omega, fun k hk => by omega, fun k hk => by omega, ⟨by omega, by omega⟩, HG.out.below hb3 hlt, g3, hb3, hlt⟩
  have c1 : w2.cell? ⟨w.heap.size, 1, none⟩ = some (.int .i64 h.v1) := (hd_cells g2).2.1
  have f1 : w2.frozen? ⟨w.heap.size, 1, none⟩ = false := Row.frozen (l := [.int .i64 h.v0, .int .i64 h.v1, .int .i64 h.v2, .int .i64 h.v3, .int .i64 h.v4, .int .i64 h.v5, .int .i64 h.v6, .int .i64 h.v7]) g2 1
  have hbd := fun w => body_any s w
  have hsz := bodyS_size s
  generalize bodyS s = b at *
  have hs1 := fun B F w (hp : Ideal w F B newV) => bseal_any B F newV g b (by decide) w hp
  simp only [Hd.arr] at hs1
  have HE : Hid (bsealE g b = g.err) := by simp [Hid, bsealE, hsz]
  have HE2 : Hid (g.err = 0 → bsealS newV g b = blkS g b 1 ∧ bsealP newV g b = ⟨[], [], [g.four b]⟩) := fun e => ⟨(new_seal g b e hsz).1, (new_seal g b e hsz).2.2⟩
  have HGV : Hid (g.v1 = (a : Int)) := by rw [hgd]; rfl
  generalize bsealE g b = E at *
  generalize bsealS newV g b = T at *
  generalize bsealP newV g b = S1 at *
  clear HV2 HP2 HB2 g2 HG HB0 hgd ho
  have q1 : ¬ (a : Int) < 0 := by omega
  have q2 : ¬ (9 : Int) < a := by omega
  have q3 : ¬ (p : Int) < 0 := by omega
  have q4 : ¬ (79 : Int) < p := by omega
  have l3 := lt_of_block g3
  go_wp2_with fail
  try rw [hw3]
  clear c1 f1 hw3 q1 q2 q3 q4
  obtain ⟨c0, c1, c2, c3, c4, c5, c6, c7⟩ := hd_cells g3
  have ON3 : Hid (BkOn w w3 (fun k => w1.heap.size ≤ k ∧ k < w2.heap.size) (fun k => W0.heap.size ≤ k ∧ k < w1.heap.size) P B (newP 80) newV w.heap.size g) := on3
  clear on3
  go_region_held3 (fun w' => w'.cell? ⟨w.heap.size, 0, none⟩ = some (.int .i64 g.v0) ∧ w'.cell? ⟨w.heap.size, 1, none⟩ = some (.int .i64 g.v1) ∧ w'.cell? ⟨w.heap.size, 2, none⟩ = some (.int .i64 g.v2) ∧ w'.cell? ⟨w.heap.size, 3, none⟩ = some (.int .i64 g.v3) ∧ w'.cell? ⟨w.heap.size, 4, none⟩ = some (.int .i64 g.v4) ∧ w'.cell? ⟨w.heap.size, 5, none⟩ = some (.int .i64 g.v5) ∧ w'.cell? ⟨w.heap.size, 6, none⟩ = some (.int .i64 g.v6) ∧ w'.cell? ⟨w.heap.size, 7, none⟩ = some (.int .i64 g.v7)) (simp [go_sem, *])
    (first | (go_at_call 24; refine (hbd _).mono ?_; rintro e wA ⟨rfl, hbA⟩; have hBA : Below w3.heap.size w3 wA := (Below.refl _ _).drew.trans hbA; have hkA : ∀ i, wA.cell? ⟨w.heap.size, i, none⟩ = w3.cell? ⟨w.heap.size, i, none⟩ := cell_kept_ (hBA.block _ l3)) | (go_at_call 23; refine (hs1 B _ _ (ON3.out.ideal.below hBA)).mono ?_; rintro e wB ⟨rfl, hpB, htB⟩; have hkB : ∀ i, wB.cell? ⟨w.heap.size, i, none⟩ = w3.cell? ⟨w.heap.size, i, none⟩ := cell_kept_ ((htB.2 _ (Nat.lt_of_lt_of_le l3 hBA.size) ON3.out.noH.2).trans (hBA.block _ l3))))
  have ONB : Hid (BkOn w wB (fun k => w1.heap.size ≤ k ∧ k < w2.heap.size) (fun k => W0.heap.size ≤ k ∧ k < w1.heap.size) P B (newP 80) S1 w.heap.size g) := (ON3.out.touch (Touch.of_below hBA) (ON3.out.plate.below hBA)).touchG htB hpB
  clear hkA hkB htB hBA hbA c0 c1 c2 c3 c4 c5 c6 c7 ON3 hpB hs1 g3
  by_cases e1 : g.err = 0
  case neg =>
    obtain rfl : E = 2 := HE.out.trans ((hd_err g).resolve_left e1)
    clear HE HE2
    go_wp2_with fail
    refine (bawake_any _).mono ?_
    rintro e wz ⟨rfl, hbz⟩
    have HF : Hid (Below w.heap.size w wz) := ONB.out.below.trans (hbz.mono ONB.out.below.size)
    clear hbz ONB
    go_wp2
    go_ret
    exact ⟨rfl, HF.out⟩
  obtain rfl : E = 0 := HE.out.trans e1
  obtain ⟨hT, rfl⟩ := HE2.out e1
  have hT5 : T.size = 512 := by rw [hT]; exact blk_size e1 hsz (by decide)
  obtain ⟨hpE, w', hpP⟩ := put_new T a (by omega) hT5
  obtain ⟨S2, hS2⟩ : ∃ S2 : PS, S2 = { newP 80 with writes := w', wait := secsW T a 0 8 } := ⟨_, rfl⟩
  have hWas : Was T a S2 := by rw [hS2]; exact ⟨rfl, rfl, rfl⟩
  have hput := bput_any P _ (newP 80) a T wB ONB.out.plate (by simp [newP]) ONB.out.err ONB.out.noE
  rw [hpE, hpP, ← hS2] at hput
  clear hpE hpP hS2 HE HE2
  clear w'
  obtain ⟨V, hV⟩ : ∃ V : VS, V = ⟨[], [], [g.four b]⟩ := ⟨_, rfl⟩
  have hVl : V.seals.length ≤ 1000000 := by rw [hV]; show (1 : Nat) ≤ _; omega
  have hW2 : ∀ S, Was T a S → S.wait.length ≤ 1000000 := fun S h => by rw [h.2.2, secsW_length]; decide
  have A1 : loadA S2 V a = readA true g b := by rw [hV]; exact load_whole S2 g b a e1 hsz HGV.out (by rw [hWas.2.1]; simp [newP]; omega) fun i hi => by rw [← hT]; exact hWas.reads (by omega) i hi
  obtain ⟨c, hc⟩ : ∃ c : Nat, c = (a + 1) % 10 := ⟨_, rfl⟩
  have hca : ¬ c = a := by omega
  obtain ⟨S3, hS3⟩ : ∃ S3 : PS, S3 = (bget S2 a).2 := ⟨_, rfl⟩
  have hWas3 : Was T a S3 := by rw [hS3]; exact hWas.alike (bget_alike S2 a)
  have A2 : loadA S3 V c = noneA := by rw [hV]; exact load_other S3 g b e1 hsz c (by rw [HGV.out]; omega)
  obtain ⟨S4, hS4⟩ : ∃ S4 : PS, S4 = (bget S3 c).2 := ⟨_, rfl⟩
  have hWas4 : Was T a S4 := by rw [hS4]; exact hWas3.alike (bget_alike S3 c)
  have A3 : loadA (spoilP (flushP S4) (p : Nat)) V a = if p / 8 = a then noneA else readA true g b := by rw [hV]; exact back_spoilt g b a p (by omega) (by omega) e1 hsz HGV.out S4 (by rw [← hT]; exact hWas4)
  have hl4 := hW2 S4 hWas4
  have hl3 := hW2 S3 hWas3
  have hl2 := hW2 S2 hWas
  have hlf : (spoilP (flushP S4) (p : Nat)).wait.length ≤ 1000000 := by
    rw [(spoil_kept (flushP S4) p (by rw [(flush_kept S4 hWas4.1 0 (by rw [hWas4.2.1]; simp [newP])).2.2.2, hWas4.2.1]; simp [newP]; omega) 0).2.2, (flush_kept S4 hWas4.1 0 (by rw [hWas4.2.1]; simp [newP])).2.2.1]
    decide
  have ONB2 : Hid (BkOn w wB (fun k => w1.heap.size ≤ k ∧ k < w2.heap.size) (fun k => W0.heap.size ≤ k ∧ k < w1.heap.size) P B (newP 80) V w.heap.size g) := by rw [hV]; exact ONB.out
  clear ONB hT hW2 hWas hWas3 hWas4 hV
  generalize (fun k => w1.heap.size ≤ k ∧ k < w2.heap.size) = F2 at *
  generalize (fun k => W0.heap.size ≤ k ∧ k < w1.heap.size) = G2 at *
  have m1 : IntKind.i64.wrap ((a : Int) + 1) = (a : Int) + 1 := by rw [IntKind.wrap_i64]; omega
  have m2 : ((a : Int) + 1).tmod 10 = (c : Int) := by rw [Int.tmod_eq_emod_of_nonneg (by omega)]; omega
  have m3 : ((a : Int) + 1) % 10 = (c : Int) := by omega
  have m4 : IntKind.i64.wrap (c : Int) = (c : Int) := by rw [IntKind.wrap_i64]; omega
  clear hc
  go_wp2_with fail
  refine hput.mono ?_
  rintro e w4 ⟨rfl, hp4, ht4⟩
  have ON4 : Hid (BkOn w w4 (grow F2 wB w4) G2 P B S2 V w.heap.size g) := ONB2.out.put ht4 hp4
  generalize grow F2 wB w4 = F3 at *
  have hF4 : ∀ k, w4.heap.size ≤ k → ¬ F3 k := fun k hk hf => absurd (ON4.out.low k hf).2 (Nat.not_lt_of_le hk)
  clear ht4 hp4 hput ONB2
  have hload := bload_any P B F3 G2 S2 V a w4 ON4.out.plate hl2 ON4.out.err ON4.out.noE ON4.out.ideal hVl ON4.out.apart fun k hk => (ON4.out.low k hk).2
  rw [A1, ← hS3] at hload
  simp only [readA] at hload
  go_wp2_with fail
  refine hload.mono ?_
  rintro e w5 ⟨rfl, hp5, ht5⟩
  have on5 := ON4.out.touch ht5 hp5
  have z5 : w4.heap.size ≤ w5.heap.size := ht5.size
  clear hload hp5 ht5 ON4 hS3
  obtain ⟨w6, hw6⟩ : ∃ w6, w5.alloc (.cells #[.bool true, .int .i64 g.v0, .int .i64 g.v1, .int .i64 g.v2, .int .i64 g.v3, .int .i64 g.v4, .int .i64 g.v5, .int .i64 g.v6, .int .i64 g.v7, .string b] 55) = w6 := ⟨_, rfl⟩
  have ON6 : Hid (BkOn w w6 F3 G2 P B S3 V w.heap.size g) := by rw [← hw6]; exact on5.alloc _
  have r6 : w6.heap[w5.heap.size]? = some (.cells #[.bool true, .int .i64 g.v0, .int .i64 g.v1, .int .i64 g.v2, .int .i64 g.v3, .int .i64 g.v4, .int .i64 g.v5, .int .i64 g.v6, .int .i64 g.v7, .string b] 55 (0, 0)) := by rw [← hw6]; exact heap_alloc_new w5 _
  have HR6 : Hid (w6.heap[w5.heap.size]? = some (.cells #[.bool true, .int .i64 g.v0, .int .i64 g.v1, .int .i64 g.v2, .int .i64 g.v3, .int .i64 g.v4, .int .i64 g.v5, .int .i64 g.v6, .int .i64 g.v7, .string b] 55 (0, 0))) := r6
  have y6 := lt_of_block r6
  have hload := bload_any P B F3 G2 S3 V c w6 ON6.out.plate hl3 ON6.out.err ON6.out.noE ON6.out.ideal hVl ON6.out.apart fun k hk => (ON6.out.low k hk).2
  rw [A2, ← hS4] at hload
  simp only [noneA, readA, Hd.zero] at hload
  clear on5 r6
  go_wp2_with fail
  try rw [hw6]
  refine hload.mono ?_
  rintro e w7 ⟨rfl, hp7, ht7⟩
  clear hw6
  have on7 := ON6.out.touch ht7 hp7
  have r7 := (ht7.2 _ y6 (hF4 _ z5)).trans HR6.out
  have z7 : w6.heap.size ≤ w7.heap.size := ht7.size
  clear hload hp7 ht7 ON6 HR6 hS4 m1 m2 m3 m4
  obtain ⟨w8, hw8⟩ : ∃ w8, w7.alloc (.cells #[.bool false, .int .i64 0, .int .i64 0, .int .i64 0, .int .i64 0, .int .i64 0, .int .i64 0, .int .i64 0, .int .i64 0, .string ⟨#[]⟩] 55) = w8 := ⟨_, rfl⟩
  have ON8 : Hid (BkOn w w8 F3 G2 P B S4 V w.heap.size g) := by rw [← hw8]; exact on7.alloc _
  have s8 : w8.heap[w7.heap.size]? = some (.cells #[.bool false, .int .i64 0, .int .i64 0, .int .i64 0, .int .i64 0, .int .i64 0, .int .i64 0, .int .i64 0, .int .i64 0, .string ⟨#[]⟩] 55 (0, 0)) := by rw [← hw8]; exact heap_alloc_new w7 _
  have y8 := lt_of_block s8
  have r8 : w8.heap[w5.heap.size]? = some (.cells #[.bool true, .int .i64 g.v0, .int .i64 g.v1, .int .i64 g.v2, .int .i64 g.v3, .int .i64 g.v4, .int .i64 g.v5, .int .i64 g.v6, .int .i64 g.v7, .string b] 55 (0, 0)) := by rw [← hw8]; exact (Below.heap_alloc _ _ _ (by omega)).trans r7
  have HR8 : Hid _ := And.intro r8 s8
  have hfl := flush_any P F3 S4 w8 ON8.out.plate hl4
  generalize flushE S4 = E4 at *
  have HW8 : Hid (_ = w8) := hw8
  clear on7 r7 r8 s8 hw8
  go_wp2_with fail
  try rw [HW8.out]
  refine hfl.mono ?_
  rintro e w9 ⟨rfl, hp9, ht9⟩
  clear HW8
  have ON9 : Hid (BkOn w w9 F3 G2 P B (flushP S4) V w.heap.size g) := ON8.out.touch ht9 hp9
  have HR9 : Hid _ := And.intro ((ht9.2 _ (by omega) (hF4 _ z5)).trans HR8.out.1) ((ht9.2 _ y8 (hF4 _ (by omega))).trans HR8.out.2)
  have z9 : w8.heap.size ≤ w9.heap.size := ht9.size
  clear hfl hp9 ht9 ON8 HR8
  have hsp := spoil_any P F3 (flushP S4) (p : Nat) w9 ON9.out.plate
  generalize spoilE (flushP S4) (p : Nat) = E5 at *
  go_wp2_with fail
  refine hsp.mono ?_
  rintro e w10 ⟨rfl, hp10, ht10⟩
  have ON10 : Hid (BkOn w w10 F3 G2 P B (spoilP (flushP S4) (p : Nat)) V w.heap.size g) := ON9.out.touch ht10 hp10
  have HR10 : Hid _ := And.intro ((ht10.2 _ (by omega) (hF4 _ z5)).trans HR9.out.1) ((ht10.2 _ (by omega) (hF4 _ (by omega))).trans HR9.out.2)
  have z10 : w9.heap.size ≤ w10.heap.size := ht10.size
  clear hsp hp10 ht10 ON9 HR9
  have hload := bload_any P B F3 G2 (spoilP (flushP S4) (p : Nat)) V a w10 ON10.out.plate hlf ON10.out.err ON10.out.noE ON10.out.ideal hVl ON10.out.apart fun k hk => (ON10.out.low k hk).2
  rw [A3] at hload
  clear A1 A2 A3 hlf
  generalize spoilP (flushP S4) (p : Nat) = S5 at *
  have hq : ((p : Int).tdiv 8) = ((p / 8 : Nat) : Int) := by rw [Int.tdiv_eq_ediv_of_nonneg (by omega)]; omega
  obtain ⟨q, hqd⟩ : ∃ q : Nat, q = p / 8 := ⟨_, rfl⟩
  rw [← hqd] at hq
  have hq2 : (p : Int) / 8 = (q : Int) := by omega
  have hq3 : IntKind.i64.wrap (q : Int) = q := by rw [IntKind.wrap_i64]; omega
  by_cases hqa : p / 8 = a
  · rw [if_pos hqa] at hload
    simp only [noneA, readA, Hd.zero] at hload
    obtain rfl : q = a := hqd.trans hqa
    clear hqd hqa
    go_wp2_with fail
    refine hload.mono ?_
    rintro e w11 ⟨rfl, hp11, ht11⟩
    have on11 := ON10.out.touch ht11 hp11
    have HR11 : Hid _ := And.intro ((ht11.2 _ (by omega) (hF4 _ z5)).trans HR10.out.1) ((ht11.2 _ (by omega) (hF4 _ (by omega))).trans HR10.out.2)
    have z11 : w10.heap.size ≤ w11.heap.size := ht11.size
    clear hload hp11 ht11 ON10 HR10
    obtain ⟨w12, hw12⟩ : ∃ w12, w11.alloc (.cells #[.bool false, .int .i64 0, .int .i64 0, .int .i64 0, .int .i64 0, .int .i64 0, .int .i64 0, .int .i64 0, .int .i64 0, .string ⟨#[]⟩] 55) = w12 := ⟨_, rfl⟩
    have ON12 : Hid (BkOn w w12 F3 G2 P B (bget S5 (q : Int)).2 V w.heap.size g) := by rw [← hw12]; exact on11.alloc _
    have t12 : w12.heap[w11.heap.size]? = some (.cells #[.bool false, .int .i64 0, .int .i64 0, .int .i64 0, .int .i64 0, .int .i64 0, .int .i64 0, .int .i64 0, .int .i64 0, .string ⟨#[]⟩] 55 (0, 0)) := by rw [← hw12]; exact heap_alloc_new w11 _
    have r12 := (show w12.heap[w5.heap.size]? = w11.heap[w5.heap.size]? by rw [← hw12]; exact Below.heap_alloc _ _ _ (by omega)).trans HR11.out.1
    have s12 := (show w12.heap[w7.heap.size]? = w11.heap[w7.heap.size]? by rw [← hw12]; exact Below.heap_alloc _ _ _ (by omega)).trans HR11.out.2
    have HW12 : Hid (_ = w12) := hw12
    have y12 := lt_of_block t12
    have HT12 : Hid _ := And.intro t12 (And.intro r12 s12)
    clear hw12 t12 r12 s12 on11 HR11
    go_wp2_with fail
    try rw [HW12.out]
    clear HW12
    obtain ⟨t0, t1, t2, t3, t4, t5, t6, t7, t8, t9⟩ := rz_cells HT12.out.1
    obtain ⟨r0, r1, r2, r3, r4, r5, r6, r7, r8, r9⟩ := rc_cells HT12.out.2.1
    have s0 := (rz_cells HT12.out.2.2).1
    obtain ⟨c0, c1, c2, c3, c4, c5, c6, c7⟩ := hd_cells ON12.out.head
    have lh := lt_of_block ON12.out.head
    have hqe : ∀ w', (binOp .eql 46 (.agg #[.int .i64 g.v0, .int .i64 g.v1, .int .i64 g.v2, .int .i64 g.v3, .int .i64 g.v4, .int .i64 g.v5, .int .i64 g.v6, .int .i64 g.v7]) (.agg #[.int .i64 g.v0, .int .i64 g.v1, .int .i64 g.v2, .int .i64 g.v3, .int .i64 g.v4, .int .i64 g.v5, .int .i64 g.v6, .int .i64 g.v7])).run Tryz.prog w' = .ok (.bool true) w' := fun w' => by rw [eql_hd]; simp
    have hqn := eql_none
    clear HT12
    go_region_held3 (fun w' => w'.cell? ⟨w5.heap.size, 0, none⟩ = some (.bool true) ∧ w'.cell? ⟨w5.heap.size, 1, none⟩ = some (.int .i64 g.v0) ∧ w'.cell? ⟨w5.heap.size, 2, none⟩ = some (.int .i64 g.v1) ∧ w'.cell? ⟨w5.heap.size, 3, none⟩ = some (.int .i64 g.v2) ∧ w'.cell? ⟨w5.heap.size, 4, none⟩ = some (.int .i64 g.v3) ∧ w'.cell? ⟨w5.heap.size, 5, none⟩ = some (.int .i64 g.v4) ∧ w'.cell? ⟨w5.heap.size, 6, none⟩ = some (.int .i64 g.v5) ∧ w'.cell? ⟨w5.heap.size, 7, none⟩ = some (.int .i64 g.v6) ∧ w'.cell? ⟨w5.heap.size, 8, none⟩ = some (.int .i64 g.v7) ∧ w'.cell? ⟨w5.heap.size, 9, none⟩ = some (.string b) ∧ w'.cell? ⟨w7.heap.size, 0, none⟩ = some (.bool false) ∧ w'.cell? ⟨w11.heap.size, 0, none⟩ = some (.bool false) ∧ w'.cell? ⟨w11.heap.size, 1, none⟩ = some (.int .i64 0) ∧ w'.cell? ⟨w11.heap.size, 2, none⟩ = some (.int .i64 0) ∧ w'.cell? ⟨w11.heap.size, 3, none⟩ = some (.int .i64 0) ∧ w'.cell? ⟨w11.heap.size, 4, none⟩ = some (.int .i64 0) ∧ w'.cell? ⟨w11.heap.size, 5, none⟩ = some (.int .i64 0) ∧ w'.cell? ⟨w11.heap.size, 6, none⟩ = some (.int .i64 0) ∧ w'.cell? ⟨w11.heap.size, 7, none⟩ = some (.int .i64 0) ∧ w'.cell? ⟨w11.heap.size, 8, none⟩ = some (.int .i64 0) ∧ w'.cell? ⟨w11.heap.size, 9, none⟩ = some (.string ⟨#[]⟩) ∧ w'.cell? ⟨w.heap.size, 0, none⟩ = some (.int .i64 g.v0) ∧ w'.cell? ⟨w.heap.size, 1, none⟩ = some (.int .i64 g.v1) ∧ w'.cell? ⟨w.heap.size, 2, none⟩ = some (.int .i64 g.v2) ∧ w'.cell? ⟨w.heap.size, 3, none⟩ = some (.int .i64 g.v3) ∧ w'.cell? ⟨w.heap.size, 4, none⟩ = some (.int .i64 g.v4) ∧ w'.cell? ⟨w.heap.size, 5, none⟩ = some (.int .i64 g.v5) ∧ w'.cell? ⟨w.heap.size, 6, none⟩ = some (.int .i64 g.v6) ∧ w'.cell? ⟨w.heap.size, 7, none⟩ = some (.int .i64 g.v7)) (simp [go_sem, *])
      (first | (go_at_call 24; refine (hbd _).mono ?_; rintro e wA ⟨rfl, hbA⟩; have kA : ∀ a : Addr, a.block < w12.heap.size → wA.cell? a = w12.cell? a := (fun a ha => hbA.cell (p := a) ha); have y1 : ∀ i, wA.cell? ⟨w5.heap.size, i, none⟩ = w12.cell? ⟨w5.heap.size, i, none⟩ := (fun i => kA _ (by show w5.heap.size < _; omega)); have y2 := (kA ⟨w7.heap.size, 0, none⟩ (by show w7.heap.size < _; omega)); have y3 : ∀ i, wA.cell? ⟨w11.heap.size, i, none⟩ = w12.cell? ⟨w11.heap.size, i, none⟩ := (fun i => kA _ (by show w11.heap.size < _; omega)); have y4 : ∀ i, wA.cell? ⟨w.heap.size, i, none⟩ = w12.cell? ⟨w.heap.size, i, none⟩ := (fun i => kA _ lh)) | (go_at_call 8; refine (bawake_any _).mono ?_; rintro e wz ⟨rfl, hbz⟩; have kz : ∀ a : Addr, a.block < w12.heap.size → wz.cell? a = w12.cell? a := (fun a ha => (hbz.cell (p := a) (Nat.lt_of_lt_of_le ha hbA.size)).trans (kA a ha)); have y1 : ∀ i, wz.cell? ⟨w5.heap.size, i, none⟩ = w12.cell? ⟨w5.heap.size, i, none⟩ := (fun i => kz _ (by show w5.heap.size < _; omega)); have y2 := (kz ⟨w7.heap.size, 0, none⟩ (by show w7.heap.size < _; omega)); have y3 : ∀ i, wz.cell? ⟨w11.heap.size, i, none⟩ = w12.cell? ⟨w11.heap.size, i, none⟩ := (fun i => kz _ (by show w11.heap.size < _; omega)); have y4 : ∀ i, wz.cell? ⟨w.heap.size, i, none⟩ = w12.cell? ⟨w.heap.size, i, none⟩ := (fun i => kz _ lh)))
    have HF : Hid (Below w.heap.size w wz) := ON12.out.below.drew.trans ((hbA.trans (hbz.mono hbA.size)).mono ON12.out.below.size)
    clear hbA hbz kA kz y1 y2 y3 y4
    go_wp2
    go_ret
    exact ⟨rfl, HF.out⟩
  · rw [if_neg hqa] at hload
    simp only [readA] at hload
    have hqa2 : ((q : Int) != (a : Int)) = true := bne_iff_ne.2 (by omega)
    have hqa3 : ¬ (q : Int) = (a : Int) := by omega
    clear hqd hqa
    go_wp2_with fail
    refine hload.mono ?_
    rintro e w11 ⟨rfl, hp11, ht11⟩
    have on11 := ON10.out.touch ht11 hp11
    have HR11 : Hid _ := And.intro ((ht11.2 _ (by omega) (hF4 _ z5)).trans HR10.out.1) ((ht11.2 _ (by omega) (hF4 _ (by omega))).trans HR10.out.2)
    have z11 : w10.heap.size ≤ w11.heap.size := ht11.size
    clear hload hp11 ht11 ON10 HR10
    obtain ⟨w12, hw12⟩ : ∃ w12, w11.alloc (.cells #[.bool true, .int .i64 g.v0, .int .i64 g.v1, .int .i64 g.v2, .int .i64 g.v3, .int .i64 g.v4, .int .i64 g.v5, .int .i64 g.v6, .int .i64 g.v7, .string b] 55) = w12 := ⟨_, rfl⟩
    have ON12 : Hid (BkOn w w12 F3 G2 P B (bget S5 (a : Int)).2 V w.heap.size g) := by rw [← hw12]; exact on11.alloc _
    have t12 : w12.heap[w11.heap.size]? = some (.cells #[.bool true, .int .i64 g.v0, .int .i64 g.v1, .int .i64 g.v2, .int .i64 g.v3, .int .i64 g.v4, .int .i64 g.v5, .int .i64 g.v6, .int .i64 g.v7, .string b] 55 (0, 0)) := by rw [← hw12]; exact heap_alloc_new w11 _
    have r12 := (show w12.heap[w5.heap.size]? = w11.heap[w5.heap.size]? by rw [← hw12]; exact Below.heap_alloc _ _ _ (by omega)).trans HR11.out.1
    have s12 := (show w12.heap[w7.heap.size]? = w11.heap[w7.heap.size]? by rw [← hw12]; exact Below.heap_alloc _ _ _ (by omega)).trans HR11.out.2
    have y12 := lt_of_block t12
    have lh := lt_of_block ON12.out.head
    have HS : Hid (∀ w' : World, (∀ a : Addr, a.block < w12.heap.size → w'.cell? a = w12.cell? a) → w'.cell? ⟨w5.heap.size, 0, none⟩ = some (.bool true) ∧ w'.cell? ⟨w5.heap.size, 1, none⟩ = some (.int .i64 g.v0) ∧ w'.cell? ⟨w5.heap.size, 2, none⟩ = some (.int .i64 g.v1) ∧ w'.cell? ⟨w5.heap.size, 3, none⟩ = some (.int .i64 g.v2) ∧ w'.cell? ⟨w5.heap.size, 4, none⟩ = some (.int .i64 g.v3) ∧ w'.cell? ⟨w5.heap.size, 5, none⟩ = some (.int .i64 g.v4) ∧ w'.cell? ⟨w5.heap.size, 6, none⟩ = some (.int .i64 g.v5) ∧ w'.cell? ⟨w5.heap.size, 7, none⟩ = some (.int .i64 g.v6) ∧ w'.cell? ⟨w5.heap.size, 8, none⟩ = some (.int .i64 g.v7) ∧ w'.cell? ⟨w5.heap.size, 9, none⟩ = some (.string b) ∧ w'.cell? ⟨w7.heap.size, 0, none⟩ = some (.bool false) ∧ w'.cell? ⟨w11.heap.size, 0, none⟩ = some (.bool true) ∧ w'.cell? ⟨w.heap.size, 0, none⟩ = some (.int .i64 g.v0) ∧ w'.cell? ⟨w.heap.size, 1, none⟩ = some (.int .i64 g.v1) ∧ w'.cell? ⟨w.heap.size, 2, none⟩ = some (.int .i64 g.v2) ∧ w'.cell? ⟨w.heap.size, 3, none⟩ = some (.int .i64 g.v3) ∧ w'.cell? ⟨w.heap.size, 4, none⟩ = some (.int .i64 g.v4) ∧ w'.cell? ⟨w.heap.size, 5, none⟩ = some (.int .i64 g.v5) ∧ w'.cell? ⟨w.heap.size, 6, none⟩ = some (.int .i64 g.v6) ∧ w'.cell? ⟨w.heap.size, 7, none⟩ = some (.int .i64 g.v7)) := fun w' hk => by
      obtain ⟨r0, r1, r2, r3, r4, r5, r6, r7, r8, r9⟩ := rc_cells r12
      obtain ⟨c0, c1, c2, c3, c4, c5, c6, c7⟩ := hd_cells ON12.out.head
      have k5 : ∀ i, w'.cell? ⟨w5.heap.size, i, none⟩ = w12.cell? ⟨w5.heap.size, i, none⟩ := fun i => hk _ (by show w5.heap.size < _; omega)
      have kh : ∀ i, w'.cell? ⟨w.heap.size, i, none⟩ = w12.cell? ⟨w.heap.size, i, none⟩ := fun i => hk _ lh
      exact ⟨(k5 _).trans r0, (k5 _).trans r1, (k5 _).trans r2, (k5 _).trans r3, (k5 _).trans r4, (k5 _).trans r5, (k5 _).trans r6, (k5 _).trans r7, (k5 _).trans r8, (k5 _).trans r9, (hk ⟨w7.heap.size, 0, none⟩ (by show w7.heap.size < _; omega)).trans (rz_cells s12).1, (hk ⟨w11.heap.size, 0, none⟩ y12).trans (rc_cells t12).1, (kh _).trans c0, (kh _).trans c1, (kh _).trans c2, (kh _).trans c3, (kh _).trans c4, (kh _).trans c5, (kh _).trans c6, (kh _).trans c7⟩
    have HW12 : Hid (_ = w12) := hw12
    clear hw12 t12 r12 s12 on11 HR11
    go_wp2_with fail
    try rw [HW12.out]
    clear HW12
    have hqe : ∀ w', (binOp .eql 46 (.agg #[.int .i64 g.v0, .int .i64 g.v1, .int .i64 g.v2, .int .i64 g.v3, .int .i64 g.v4, .int .i64 g.v5, .int .i64 g.v6, .int .i64 g.v7]) (.agg #[.int .i64 g.v0, .int .i64 g.v1, .int .i64 g.v2, .int .i64 g.v3, .int .i64 g.v4, .int .i64 g.v5, .int .i64 g.v6, .int .i64 g.v7])).run Tryz.prog w' = .ok (.bool true) w' := fun w' => by rw [eql_hd]; simp
    have hS0 := HS.out w12.drew fun _ _ => rfl
    refine wp_region_held_drew (S := fun w' => w'.cell? ⟨w5.heap.size, 0, none⟩ = some (.bool true) ∧ w'.cell? ⟨w5.heap.size, 1, none⟩ = some (.int .i64 g.v0) ∧ w'.cell? ⟨w5.heap.size, 2, none⟩ = some (.int .i64 g.v1) ∧ w'.cell? ⟨w5.heap.size, 3, none⟩ = some (.int .i64 g.v2) ∧ w'.cell? ⟨w5.heap.size, 4, none⟩ = some (.int .i64 g.v3) ∧ w'.cell? ⟨w5.heap.size, 5, none⟩ = some (.int .i64 g.v4) ∧ w'.cell? ⟨w5.heap.size, 6, none⟩ = some (.int .i64 g.v5) ∧ w'.cell? ⟨w5.heap.size, 7, none⟩ = some (.int .i64 g.v6) ∧ w'.cell? ⟨w5.heap.size, 8, none⟩ = some (.int .i64 g.v7) ∧ w'.cell? ⟨w5.heap.size, 9, none⟩ = some (.string b) ∧ w'.cell? ⟨w7.heap.size, 0, none⟩ = some (.bool false) ∧ w'.cell? ⟨w11.heap.size, 0, none⟩ = some (.bool true) ∧ w'.cell? ⟨w.heap.size, 0, none⟩ = some (.int .i64 g.v0) ∧ w'.cell? ⟨w.heap.size, 1, none⟩ = some (.int .i64 g.v1) ∧ w'.cell? ⟨w.heap.size, 2, none⟩ = some (.int .i64 g.v2) ∧ w'.cell? ⟨w.heap.size, 3, none⟩ = some (.int .i64 g.v3) ∧ w'.cell? ⟨w.heap.size, 4, none⟩ = some (.int .i64 g.v4) ∧ w'.cell? ⟨w.heap.size, 5, none⟩ = some (.int .i64 g.v5) ∧ w'.cell? ⟨w.heap.size, 6, none⟩ = some (.int .i64 g.v6) ∧ w'.cell? ⟨w.heap.size, 7, none⟩ = some (.int .i64 g.v7)) (by kernel_rfl) hS0 (fun _ => ?_)
    refine wpAnyH_take (i := 0) (v := .int .i64 0) (by simp only [List.getElem?_toArray, List.getElem?_cons_zero]; rfl) (by kernel_rfl) (by kernel_rfl) (by kernel_rfl) (by exact fun _ _ _ h => h) (Or.inl ⟨by rfl, fun w' _ => by go_simp⟩) hS0 ?_
    try simp only [Act.put, List.setIfInBounds_toArray, List.set_cons_zero, List.set_cons_succ]
    refine wpAnyH_take (i := 1) (v := .bool true) (by simp only [List.getElem?_toArray, List.getElem?_cons_zero, List.getElem?_cons_succ]; rfl) (by kernel_rfl) (by kernel_rfl) (by kernel_rfl) (by exact fun _ _ _ h => h) (Or.inl ⟨by rfl, fun w' _ => by go_simp⟩) hS0 ?_
    try simp only [Act.put, List.setIfInBounds_toArray, List.set_cons_zero, List.set_cons_succ]
    refine wpAnyH_take (i := 2) (v := .bool true) (by simp only [List.getElem?_toArray, List.getElem?_cons_zero, List.getElem?_cons_succ]; rfl) (by kernel_rfl) (by kernel_rfl) (by kernel_rfl) (by exact fun _ _ _ h => h) (Or.inl ⟨by rfl, fun w' _ => by go_simp⟩) hS0 ?_
    try simp only [Act.put, List.setIfInBounds_toArray, List.set_cons_zero, List.set_cons_succ]
    refine wpAnyH_take (i := 3) (v := .pointer (some ⟨w5.heap.size, 0, none⟩)) (by simp only [List.getElem?_toArray, List.getElem?_cons_zero, List.getElem?_cons_succ]; rfl) (by kernel_rfl) (by kernel_rfl) (by kernel_rfl) (by exact fun _ _ _ h => h) (Or.inl ⟨by rfl, fun w' _ => by go_simp⟩) hS0 ?_
    try simp only [Act.put, List.setIfInBounds_toArray, List.set_cons_zero, List.set_cons_succ]
    refine wpAnyH_take (i := 4) (v := .bool true) (by simp only [List.getElem?_toArray, List.getElem?_cons_zero, List.getElem?_cons_succ]; rfl) (by kernel_rfl) (by kernel_rfl) (by kernel_rfl) (by exact fun _ _ _ h => h) (Or.inl ⟨by rfl, fun w' hS => by obtain ⟨r0, r1, r2, r3, r4, r5, r6, r7, r8, r9, s0, t0, c0, c1, c2, c3, c4, c5, c6, c7⟩ := hS; simp [go_sem, *]⟩) hS0 ?_
    try simp only [Act.put, List.setIfInBounds_toArray, List.set_cons_zero, List.set_cons_succ]
    refine wpAnyH_take (i := 5) (v := .bool true) (by simp only [List.getElem?_toArray, List.getElem?_cons_zero, List.getElem?_cons_succ]; rfl) (by kernel_rfl) (by kernel_rfl) (by kernel_rfl) (by exact fun _ _ _ h => h) (Or.inl ⟨by rfl, fun w' _ => by go_simp⟩) hS0 ?_
    try simp only [Act.put, List.setIfInBounds_toArray, List.set_cons_zero, List.set_cons_succ]
    refine wpAnyH_take (i := 6) (v := .bool true) (by simp only [List.getElem?_toArray, List.getElem?_cons_zero, List.getElem?_cons_succ]; rfl) (by kernel_rfl) (by kernel_rfl) (by kernel_rfl) (by exact fun _ _ _ h => h) (Or.inl ⟨by rfl, fun w' _ => by go_simp⟩) hS0 ?_
    try simp only [Act.put, List.setIfInBounds_toArray, List.set_cons_zero, List.set_cons_succ]
    refine wpAnyH_take (i := 7) (v := .pointer (some ⟨w5.heap.size, 1, none⟩)) (by simp only [List.getElem?_toArray, List.getElem?_cons_zero, List.getElem?_cons_succ]; rfl) (by kernel_rfl) (by kernel_rfl) (by kernel_rfl) (by exact fun _ _ _ h => h) (Or.inl ⟨by rfl, fun w' _ => by go_simp⟩) hS0 ?_
    try simp only [Act.put, List.setIfInBounds_toArray, List.set_cons_zero, List.set_cons_succ]
    refine wpAnyH_take (i := 8) (v := .agg #[.int .i64 g.v0, .int .i64 g.v1, .int .i64 g.v2, .int .i64 g.v3, .int .i64 g.v4, .int .i64 g.v5, .int .i64 g.v6, .int .i64 g.v7]) (by simp only [List.getElem?_toArray, List.getElem?_cons_zero, List.getElem?_cons_succ]; rfl) (by kernel_rfl) (by kernel_rfl) (by kernel_rfl) (by exact fun _ _ _ h => h) (Or.inl ⟨by rfl, fun w' hS => by obtain ⟨r0, r1, r2, r3, r4, r5, r6, r7, r8, r9, s0, t0, c0, c1, c2, c3, c4, c5, c6, c7⟩ := hS; simp [go_sem, *]⟩) hS0 ?_
    try simp only [Act.put, List.setIfInBounds_toArray, List.set_cons_zero, List.set_cons_succ]
    refine wpAnyH_take (i := 9) (v := .agg #[.int .i64 g.v0, .int .i64 g.v1, .int .i64 g.v2, .int .i64 g.v3, .int .i64 g.v4, .int .i64 g.v5, .int .i64 g.v6, .int .i64 g.v7]) (by simp only [List.getElem?_toArray, List.getElem?_cons_zero, List.getElem?_cons_succ]; rfl) (by kernel_rfl) (by kernel_rfl) (by kernel_rfl) (by exact fun _ _ _ h => h) (Or.inl ⟨by rfl, fun w' hS => by obtain ⟨r0, r1, r2, r3, r4, r5, r6, r7, r8, r9, s0, t0, c0, c1, c2, c3, c4, c5, c6, c7⟩ := hS; simp [go_sem, *]⟩) hS0 ?_
    try simp only [Act.put, List.setIfInBounds_toArray, List.set_cons_zero, List.set_cons_succ]
    refine wpAnyH_take (i := 10) (v := .bool true) (by simp only [List.getElem?_toArray, List.getElem?_cons_zero, List.getElem?_cons_succ]; rfl) (by kernel_rfl) (by kernel_rfl) (by kernel_rfl) (by exact fun _ _ _ h => h) (Or.inl ⟨by rfl, fun w' _ => by go_simp⟩) hS0 ?_
    try simp only [Act.put, List.setIfInBounds_toArray, List.set_cons_zero, List.set_cons_succ]
    refine wpAnyH_take (i := 11) (v := .bool true) (by simp only [List.getElem?_toArray, List.getElem?_cons_zero, List.getElem?_cons_succ]; rfl) (by kernel_rfl) (by kernel_rfl) (by kernel_rfl) (by exact fun _ _ _ h => h) (Or.inl ⟨by rfl, fun w' _ => by go_simp⟩) hS0 ?_
    try simp only [Act.put, List.setIfInBounds_toArray, List.set_cons_zero, List.set_cons_succ]
    refine wpAnyH_take (i := 12) (v := .bool true) (by simp only [List.getElem?_toArray, List.getElem?_cons_zero, List.getElem?_cons_succ]; rfl) (by kernel_rfl) (by kernel_rfl) (by kernel_rfl) (by exact fun _ _ _ h => h) (Or.inl ⟨by rfl, fun w' _ => by go_simp⟩) hS0 ?_
    try simp only [Act.put, List.setIfInBounds_toArray, List.set_cons_zero, List.set_cons_succ]
    refine wpAnyH_take (i := 13) (v := .pointer (some ⟨w5.heap.size, 9, none⟩)) (by simp only [List.getElem?_toArray, List.getElem?_cons_zero, List.getElem?_cons_succ]; rfl) (by kernel_rfl) (by kernel_rfl) (by kernel_rfl) (by exact fun _ _ _ h => h) (Or.inl ⟨by rfl, fun w' _ => by go_simp⟩) hS0 ?_
    try simp only [Act.put, List.setIfInBounds_toArray, List.set_cons_zero, List.set_cons_succ]
    refine wpAnyH_take (i := 14) (v := .string b) (by simp only [List.getElem?_toArray, List.getElem?_cons_zero, List.getElem?_cons_succ]; rfl) (by kernel_rfl) (by kernel_rfl) (by kernel_rfl) (by exact fun _ _ _ h => h) (Or.inl ⟨by rfl, fun w' hS => by obtain ⟨r0, r1, r2, r3, r4, r5, r6, r7, r8, r9, s0, t0, c0, c1, c2, c3, c4, c5, c6, c7⟩ := hS; simp [go_sem, *]⟩) hS0 ?_
    try simp only [Act.put, List.setIfInBounds_toArray, List.set_cons_zero, List.set_cons_succ]
    refine wpAnyH_take (i := 15) (v := .string s) (by simp only [List.getElem?_toArray, List.getElem?_cons_zero, List.getElem?_cons_succ]; rfl) (by kernel_rfl) (by kernel_rfl) (by kernel_rfl) (by exact fun _ _ _ h => h) (Or.inl ⟨by rfl, fun w' _ => by go_simp⟩) hS0 ?_
    try simp only [Act.put, List.setIfInBounds_toArray, List.set_cons_zero, List.set_cons_succ]
    refine wpAnyH_ready (rs := [16]) (by kernel_rfl) (by simp) (AllReadyH.cons (by simp only [List.getElem?_toArray, List.getElem?_cons_zero, List.getElem?_cons_succ]; rfl) (fun K hK => ?_) AllReadyH.nil)
    rw [if_pos (by rfl)]
    go_simp
    refine (hbd _).mono ?_
    rintro e wA ⟨rfl, hbA⟩
    have kA : ∀ a : Addr, a.block < w12.heap.size → wA.cell? a = w12.cell? a := (fun a ha => hbA.cell (p := a) ha)
    have hS1 := HS.out wA kA
    refine hK.out _ _ hS1 (fun _ => ?_)
    try simp only [Act.put, List.setIfInBounds_toArray, List.set_cons_zero, List.set_cons_succ]
    refine wpAnyH_take (i := 17) (v := .bool true) (by simp only [List.getElem?_toArray, List.getElem?_cons_zero, List.getElem?_cons_succ]; rfl) (by kernel_rfl) (by kernel_rfl) (by kernel_rfl) (by exact fun _ _ _ h => h) (Or.inl ⟨by rfl, fun w' _ => by go_simp⟩) hS1 ?_
    try simp only [Act.put, List.setIfInBounds_toArray, List.set_cons_zero, List.set_cons_succ]
    refine wpAnyH_take (i := 18) (v := .bool true) (by simp only [List.getElem?_toArray, List.getElem?_cons_zero, List.getElem?_cons_succ]; rfl) (by kernel_rfl) (by kernel_rfl) (by kernel_rfl) (by exact fun _ _ _ h => h) (Or.inl ⟨by rfl, fun w' _ => by go_simp⟩) hS1 ?_
    try simp only [Act.put, List.setIfInBounds_toArray, List.set_cons_zero, List.set_cons_succ]
    refine wpAnyH_take (i := 19) (v := .bool true) (by simp only [List.getElem?_toArray, List.getElem?_cons_zero, List.getElem?_cons_succ]; rfl) (by kernel_rfl) (by kernel_rfl) (by kernel_rfl) (by exact fun _ _ _ h => h) (Or.inl ⟨by rfl, fun w' _ => by go_simp⟩) hS1 ?_
    try simp only [Act.put, List.setIfInBounds_toArray, List.set_cons_zero, List.set_cons_succ]
    refine wpAnyH_take (i := 20) (v := .pointer (some ⟨w7.heap.size, 0, none⟩)) (by simp only [List.getElem?_toArray, List.getElem?_cons_zero, List.getElem?_cons_succ]; rfl) (by kernel_rfl) (by kernel_rfl) (by kernel_rfl) (by exact fun _ _ _ h => h) (Or.inl ⟨by rfl, fun w' _ => by go_simp⟩) hS1 ?_
    try simp only [Act.put, List.setIfInBounds_toArray, List.set_cons_zero, List.set_cons_succ]
    refine wpAnyH_take (i := 21) (v := .bool false) (by simp only [List.getElem?_toArray, List.getElem?_cons_zero, List.getElem?_cons_succ]; rfl) (by kernel_rfl) (by kernel_rfl) (by kernel_rfl) (by exact fun _ _ _ h => h) (Or.inl ⟨by rfl, fun w' hS => by obtain ⟨r0, r1, r2, r3, r4, r5, r6, r7, r8, r9, s0, t0, c0, c1, c2, c3, c4, c5, c6, c7⟩ := hS; simp [go_sem, *]⟩) hS1 ?_
    try simp only [Act.put, List.setIfInBounds_toArray, List.set_cons_zero, List.set_cons_succ]
    refine wpAnyH_take (i := 22) (v := .bool true) (by simp only [List.getElem?_toArray, List.getElem?_cons_zero, List.getElem?_cons_succ]; rfl) (by kernel_rfl) (by kernel_rfl) (by kernel_rfl) (by exact fun _ _ _ h => h) (Or.inl ⟨by rfl, fun w' _ => by go_simp⟩) hS1 ?_
    try simp only [Act.put, List.setIfInBounds_toArray, List.set_cons_zero, List.set_cons_succ]
    refine wpAnyH_take (i := 23) (v := .bool true) (by simp only [List.getElem?_toArray, List.getElem?_cons_zero, List.getElem?_cons_succ]; rfl) (by kernel_rfl) (by kernel_rfl) (by kernel_rfl) (by exact fun _ _ _ h => h) (Or.inl ⟨by rfl, fun w' _ => by go_simp⟩) hS1 ?_
    try simp only [Act.put, List.setIfInBounds_toArray, List.set_cons_zero, List.set_cons_succ]
    refine wpAnyH_take (i := 24) (v := .bool true) (by simp only [List.getElem?_toArray, List.getElem?_cons_zero, List.getElem?_cons_succ]; rfl) (by kernel_rfl) (by kernel_rfl) (by kernel_rfl) (by exact fun _ _ _ h => h) (Or.inl ⟨by rfl, fun w' _ => by go_simp⟩) hS1 ?_
    try simp only [Act.put, List.setIfInBounds_toArray, List.set_cons_zero, List.set_cons_succ]
    refine wpAnyH_take (i := 25) (v := .pointer (some ⟨w11.heap.size, 0, none⟩)) (by simp only [List.getElem?_toArray, List.getElem?_cons_zero, List.getElem?_cons_succ]; rfl) (by kernel_rfl) (by kernel_rfl) (by kernel_rfl) (by exact fun _ _ _ h => h) (Or.inl ⟨by rfl, fun w' _ => by go_simp⟩) hS1 ?_
    try simp only [Act.put, List.setIfInBounds_toArray, List.set_cons_zero, List.set_cons_succ]
    refine wpAnyH_take (i := 26) (v := .bool true) (by simp only [List.getElem?_toArray, List.getElem?_cons_zero, List.getElem?_cons_succ]; rfl) (by kernel_rfl) (by kernel_rfl) (by kernel_rfl) (by exact fun _ _ _ h => h) (Or.inl ⟨by rfl, fun w' hS => by obtain ⟨r0, r1, r2, r3, r4, r5, r6, r7, r8, r9, s0, t0, c0, c1, c2, c3, c4, c5, c6, c7⟩ := hS; simp [go_sem, *]⟩) hS1 ?_
    try simp only [Act.put, List.setIfInBounds_toArray, List.set_cons_zero, List.set_cons_succ]
    refine wpAnyH_take (i := 27) (v := .int .i64 (p : Int)) (by simp only [List.getElem?_toArray, List.getElem?_cons_zero, List.getElem?_cons_succ]; rfl) (by kernel_rfl) (by kernel_rfl) (by kernel_rfl) (by exact fun _ _ _ h => h) (Or.inl ⟨by rfl, fun w' _ => by go_simp⟩) hS1 ?_
    try simp only [Act.put, List.setIfInBounds_toArray, List.set_cons_zero, List.set_cons_succ]
    refine wpAnyH_take (i := 28) (v := .int .i64 (q : Int)) (by simp only [List.getElem?_toArray, List.getElem?_cons_zero, List.getElem?_cons_succ]; rfl) (by kernel_rfl) (by kernel_rfl) (by kernel_rfl) (by exact fun _ _ _ h => h) (Or.inl ⟨by rfl, fun w' _ => by go_simp⟩) hS1 ?_
    try simp only [Act.put, List.setIfInBounds_toArray, List.set_cons_zero, List.set_cons_succ]
    refine wpAnyH_take (i := 29) (v := .int .i64 (a : Int)) (by simp only [List.getElem?_toArray, List.getElem?_cons_zero, List.getElem?_cons_succ]; rfl) (by kernel_rfl) (by kernel_rfl) (by kernel_rfl) (by exact fun _ _ _ h => h) (Or.inl ⟨by rfl, fun w' _ => by go_simp⟩) hS1 ?_
    try simp only [Act.put, List.setIfInBounds_toArray, List.set_cons_zero, List.set_cons_succ]
    refine wpAnyH_take (i := 30) (v := .bool true) (by simp only [List.getElem?_toArray, List.getElem?_cons_zero, List.getElem?_cons_succ]; rfl) (by kernel_rfl) (by kernel_rfl) (by kernel_rfl) (by exact fun _ _ _ h => h) (Or.inl ⟨by rfl, fun w' _ => by go_simp⟩) hS1 ?_
    try simp only [Act.put, List.setIfInBounds_toArray, List.set_cons_zero, List.set_cons_succ]
    refine wpAnyH_take (i := 31) (v := .bool true) (by simp only [List.getElem?_toArray, List.getElem?_cons_zero, List.getElem?_cons_succ]; rfl) (by kernel_rfl) (by kernel_rfl) (by kernel_rfl) (by exact fun _ _ _ h => h) (Or.inl ⟨by rfl, fun w' _ => by go_simp⟩) hS1 ?_
    try simp only [Act.put, List.setIfInBounds_toArray, List.set_cons_zero, List.set_cons_succ]
    refine wpAnyH_take (i := 32) (v := .bool true) (by simp only [List.getElem?_toArray, List.getElem?_cons_zero, List.getElem?_cons_succ]; rfl) (by kernel_rfl) (by kernel_rfl) (by kernel_rfl) (by exact fun _ _ _ h => h) (Or.inl ⟨by rfl, fun w' _ => by go_simp⟩) hS1 ?_
    try simp only [Act.put, List.setIfInBounds_toArray, List.set_cons_zero, List.set_cons_succ]
    refine wpAnyH_take (i := 33) (v := .bool true) (by simp only [List.getElem?_toArray, List.getElem?_cons_zero, List.getElem?_cons_succ]; rfl) (by kernel_rfl) (by kernel_rfl) (by kernel_rfl) (by exact fun _ _ _ h => h) (Or.inl ⟨by rfl, fun w' _ => by go_simp⟩) hS1 ?_
    try simp only [Act.put, List.setIfInBounds_toArray, List.set_cons_zero, List.set_cons_succ]
    refine wpAnyH_take (i := 34) (v := .pointer (some ⟨w11.heap.size, 0, none⟩)) (by simp only [List.getElem?_toArray, List.getElem?_cons_zero, List.getElem?_cons_succ]; rfl) (by kernel_rfl) (by kernel_rfl) (by kernel_rfl) (by exact fun _ _ _ h => h) (Or.inl ⟨by rfl, fun w' _ => by go_simp⟩) hS1 ?_
    try simp only [Act.put, List.setIfInBounds_toArray, List.set_cons_zero, List.set_cons_succ]
    refine wpAnyH_take (i := 35) (v := .bool true) (by simp only [List.getElem?_toArray, List.getElem?_cons_zero, List.getElem?_cons_succ]; rfl) (by kernel_rfl) (by kernel_rfl) (by kernel_rfl) (by exact fun _ _ _ h => h) (Or.inl ⟨by rfl, fun w' hS => by obtain ⟨r0, r1, r2, r3, r4, r5, r6, r7, r8, r9, s0, t0, c0, c1, c2, c3, c4, c5, c6, c7⟩ := hS; simp [go_sem, *]⟩) hS1 ?_
    try simp only [Act.put, List.setIfInBounds_toArray, List.set_cons_zero, List.set_cons_succ]
    refine wpAnyH_take (i := 36) (v := .bool true) (by simp only [List.getElem?_toArray, List.getElem?_cons_zero, List.getElem?_cons_succ]; rfl) (by kernel_rfl) (by kernel_rfl) (by kernel_rfl) (by exact fun _ _ _ h => h) (Or.inl ⟨by rfl, fun w' _ => by go_simp⟩) hS1 ?_
    try simp only [Act.put, List.setIfInBounds_toArray, List.set_cons_zero, List.set_cons_succ]
    refine wpAnyH_take (i := 37) (v := undef) (by simp only [List.getElem?_toArray, List.getElem?_cons_zero, List.getElem?_cons_succ]; rfl) (by kernel_rfl) (by kernel_rfl) (by kernel_rfl) (by exact fun _ _ _ h => h) (Or.inr ⟨by rfl, rfl⟩) hS1 ?_
    try simp only [Act.put, List.setIfInBounds_toArray, List.set_cons_zero, List.set_cons_succ]
    refine wpAnyH_take (i := 38) (v := undef) (by simp only [List.getElem?_toArray, List.getElem?_cons_zero, List.getElem?_cons_succ]; rfl) (by kernel_rfl) (by kernel_rfl) (by kernel_rfl) (by exact fun _ _ _ h => h) (Or.inr ⟨by rfl, rfl⟩) hS1 ?_
    try simp only [Act.put, List.setIfInBounds_toArray, List.set_cons_zero, List.set_cons_succ]
    refine wpAnyH_take (i := 39) (v := undef) (by simp only [List.getElem?_toArray, List.getElem?_cons_zero, List.getElem?_cons_succ]; rfl) (by kernel_rfl) (by kernel_rfl) (by kernel_rfl) (by exact fun _ _ _ h => h) (Or.inr ⟨by rfl, rfl⟩) hS1 ?_
    try simp only [Act.put, List.setIfInBounds_toArray, List.set_cons_zero, List.set_cons_succ]
    refine wpAnyH_take (i := 40) (v := .bool true) (by simp only [List.getElem?_toArray, List.getElem?_cons_zero, List.getElem?_cons_succ]; rfl) (by kernel_rfl) (by kernel_rfl) (by kernel_rfl) (by exact fun _ _ _ h => h) (Or.inl ⟨by rfl, fun w' _ => by go_simp⟩) hS1 ?_
    try simp only [Act.put, List.setIfInBounds_toArray, List.set_cons_zero, List.set_cons_succ]
    refine wpAnyH_take (i := 41) (v := .bool true) (by simp only [List.getElem?_toArray, List.getElem?_cons_zero, List.getElem?_cons_succ]; rfl) (by kernel_rfl) (by kernel_rfl) (by kernel_rfl) (by exact fun _ _ _ h => h) (Or.inl ⟨by rfl, fun w' _ => by go_simp⟩) hS1 ?_
    try simp only [Act.put, List.setIfInBounds_toArray, List.set_cons_zero, List.set_cons_succ]
    refine wpAnyH_take (i := 42) (v := .bool true) (by simp only [List.getElem?_toArray, List.getElem?_cons_zero, List.getElem?_cons_succ]; rfl) (by kernel_rfl) (by kernel_rfl) (by kernel_rfl) (by exact fun _ _ _ h => h) (Or.inl ⟨by rfl, fun w' _ => by go_simp⟩) hS1 ?_
    try simp only [Act.put, List.setIfInBounds_toArray, List.set_cons_zero, List.set_cons_succ]
    refine wpAnyH_ready (rs := [43]) (by kernel_rfl) (by simp) (AllReadyH.cons (by simp only [List.getElem?_toArray, List.getElem?_cons_zero, List.getElem?_cons_succ]; rfl) (fun K hK => ?_) AllReadyH.nil)
    rw [if_pos (by rfl)]
    go_simp
    refine (bawake_any _).mono ?_
    rintro e wz ⟨rfl, hbz⟩
    have kz : ∀ a : Addr, a.block < w12.heap.size → wz.cell? a = w12.cell? a := (fun a ha => (hbz.cell (p := a) (Nat.lt_of_lt_of_le ha hbA.size)).trans (kA a ha))
    have hS2 := HS.out wz kz
    have HF : Hid (Below w.heap.size w wz) := ON12.out.below.drew.trans ((hbA.trans (hbz.mono hbA.size)).mono ON12.out.below.size)
    refine hK.out _ _ hS2 (fun _ => ?_)
    try simp only [Act.put, List.setIfInBounds_toArray, List.set_cons_zero, List.set_cons_succ]
    refine wpAnyH_take (i := 44) (v := .bool true) (by simp only [List.getElem?_toArray, List.getElem?_cons_zero, List.getElem?_cons_succ]; rfl) (by kernel_rfl) (by kernel_rfl) (by kernel_rfl) (by exact fun _ _ _ h => h) (Or.inl ⟨by rfl, fun w' _ => by go_simp⟩) hS2 ?_
    try simp only [Act.put, List.setIfInBounds_toArray, List.set_cons_zero, List.set_cons_succ]
    refine wpAnyH_take (i := 45) (v := .bool true) (by simp only [List.getElem?_toArray, List.getElem?_cons_zero, List.getElem?_cons_succ]; rfl) (by kernel_rfl) (by kernel_rfl) (by kernel_rfl) (by exact fun _ _ _ h => h) (Or.inl ⟨by rfl, fun w' _ => by go_simp⟩) hS2 ?_
    try simp only [Act.put, List.setIfInBounds_toArray, List.set_cons_zero, List.set_cons_succ]
    refine wpAnyH_done (by kernel_rfl) ?_ _
    clear hbA hbz kA kz hS0 hS1 hS2 HS
    go_wp2
    go_ret
    exact ⟨rfl, HF.out⟩
end Go.Proofs.YtdcooepeehamnaaGreatDoor
