/- Lists that came in: of numbers. · block's zeros at 512, and At: what an image has at an address. · block's All: what stands on a device, block by block. · What All's blocks have: 512 bytes each; and views of its image. · The law BlockAlls, called with any number of sectors, any marks and any address, where package errors holds what it is laid with, returns true, and changes nothing that was there: the walk. -/
import Derived.Test.YtcmoagphbpjenaaGreatDoorMg01
import Derived.Deep.Slices
import Derived.WideShapes
import Derived.ProofKit
import Derived.ChangeOld
import Derived.Test.YtcmoagphbpjenaaGreatDoorMg02
import Derived.Test.YtcmoagphbpjenaaGreatDoorMg43
import Derived.Test.YtcmoagphbpjenaaGreatDoorMg44
import Derived.Test.YtcmoagphbpjenaaGreatDoorMg10
import Derived.Test.YtcmoagphbpjenaaGreatDoorMg48
namespace Go.Proofs.YtcmoagphbpjenaaGreatDoor
set_option maxRecDepth 20000
open Go.ChangeShapes Go.WideShapes Go.RowKit Go.Deep

theorem cell_kept_1 {w w' : World} {b : Nat} (h : w'.heap[b]? = w.heap[b]?) (i : Nat) : w'.cell? ⟨b, i, none⟩ = w.cell? ⟨b, i, none⟩ := World.cell?_of_block (a := ⟨b, i, none⟩) h
/-- A list whose elements lie in one cell each. -/
def List1 {α : Type} (f : α → Value) (W : World) (v : Value) (l : List α) : Prop := (∃ oa cap, v = .slice oa 0 cap ∧ l = []) ∨ ∃ g o cap, v = .slice (some ⟨g, o, none⟩) l.length cap ∧ g < W.heap.size ∧ ∀ i x, l[i]? = some x → W.cell? ⟨g, o + i, none⟩ = some (f x)
theorem List1.form {α : Type} {f : α → Value} {W : World} {v : Value} {l : List α} (h : List1 f W v l) : ∃ oa cap, v = .slice oa l.length cap := by
  rcases h with ⟨oa, cap, rfl, rfl⟩ | ⟨g, o, cap, rfl, _⟩
  · exact ⟨oa, cap, rfl⟩
  · exact ⟨_, cap, rfl⟩
theorem List1.get {α : Type} {f : α → Value} {W : World} {oa : Option Addr} {cap : Nat} {l : List α} (h : List1 f W (.slice oa l.length cap) l) {i : Nat} (hi : i < l.length) : ∃ g o, oa = some ⟨g, o, none⟩ ∧ g < W.heap.size ∧ ∀ j x, l[j]? = some x → W.cell? ⟨g, o + j, none⟩ = some (f x) := by
  rcases h with ⟨oa', cap', e, rfl⟩ | ⟨g, o, cap', e, hg, hx⟩
  · simp at hi
  · simp only [Value.slice.injEq] at e
    exact ⟨g, o, e.1, hg, hx⟩
section
variable {H : Type} {enc : TypeId × Value → H} {W : World}
theorem list1_of_trod {α : Type} {f : α → Value} {P : α → Prop} {t e : TypeId} (hu : Tryz.prog.underlying t = some (.slice e)) (hc : Tryz.prog.cellsOf e = 1) (hr : ∀ n c x, DataW.trod enc Tryz.prog W 0 (fun _ => true) true n e [c] = some x → ∃ a, c = f a ∧ P a)
    {v : Value} {d : DataW H} {p : List MemPlace} {base : Nat} (hok : Value.okWide Tryz.prog W .any base t v) (h : DataW.Trod enc Tryz.prog W 0 (fun _ => true) true t v d p) : ∃ l, List1 f W v l ∧ ∀ x ∈ l, P x := by
  obtain ⟨a0, len, cap, rfl⟩ := okWide_slice hu hok
  obtain ⟨fuel, hf⟩ := h
  have hlt := DataW.trod_lt fuel _ _ _ hf
  rcases open_slice1 hu hc hf with ⟨hcs, hx⟩ | ⟨a, len', cap', m, n, V, D, Pl, hcs, _, hl, hm, hmm, hx0, hx⟩
  · simp [Value.cells] at hcs
    obtain ⟨rfl, rfl, rfl⟩ := hcs
    exact ⟨[], .inl ⟨none, 0, rfl, rfl⟩, by simp⟩
  · simp [Value.cells] at hcs
    obtain ⟨rfl, rfl, rfl⟩ := hcs
    simp only [if_true] at hmm
    by_cases h0 : len = 0
    · subst h0; exact ⟨[], .inl ⟨_, _, rfl, rfl⟩, by simp⟩
    simp only [Prod.mk.injEq] at hx0
    obtain ⟨hd0, hp0⟩ := hx0
    have hV : ∀ i, i < len → ∃ b : α, W.cell? (a.add i) = some (f b) ∧ P b := fun i hi => by
      obtain ⟨h1, h2⟩ := hx i (by omega)
      obtain ⟨b, hb, hp⟩ := hr _ _ _ h2
      exact ⟨b, by rw [h1, hb], hp⟩
    haveI : Inhabited α := ⟨(hV 0 (by omega)).choose⟩
    obtain ⟨F, hF⟩ := choose_lt hV
    obtain ⟨b, off, spot⟩ := a
    have hspot : spot = none := by simpa [Addr.add] using World.cell?_spot (hF 0 (by omega)).1
    subst hspot
    have hbW : b < W.heap.size := hlt (.cell b off) (by rw [hp0]; exact List.mem_append_left _ (MemPlace.mem_row.2 ⟨0, by omega, by simp⟩))
    refine ⟨(List.range len).map F, .inr ⟨b, off, cap, by simp, hbW, fun i u hu => ?_⟩, fun x hx => ?_⟩
    · rw [List.getElem?_map] at hu
      have hi : i < len := by
        by_cases hi : i < len
        · exact hi
        · rw [List.getElem?_eq_none (by simp; omega)] at hu; cases hu
      rw [List.getElem?_range hi] at hu
      simp only [Option.map_some, Option.some.injEq] at hu
      rw [← hu]
      have hadd : (⟨b, off, none⟩ : Addr).add i = ⟨b, off + i, none⟩ := by unfold Addr.add; split <;> simp_all
      rw [← hadd]
      exact (hF i hi).1
    · obtain ⟨i, hi, rfl⟩ := List.mem_map.1 hx
      exact (hF i (List.mem_range.1 hi)).2
theorem ints_of_trod {v : Value} {d : DataW H} {p : List MemPlace} {base : Nat} (hok : Value.okWide Tryz.prog W .any base 45 v) (h : DataW.Trod enc Tryz.prog W 0 (fun _ => true) true 45 v d p) : ∃ l, List1 (Value.int .i64) W v l ∧ ∀ x ∈ l, (Lit.int .i64 x).wf = true := by
  exact list1_of_trod (f := Value.int .i64) (P := fun x => (Lit.int .i64 x).wf = true) Tryz.underlying45 (by kernel_rfl) (fun n c x hx => by
    obtain ⟨b, hb, _, hw⟩ := DataW.trod_int Tryz.underlying3 hx
    simp only [List.cons.injEq, and_true] at hb
    exact ⟨b, hb, hw⟩) hok h
theorem wf_int {x : Int} (h : (Lit.int .i64 x).wf = true) : -9223372036854775808 ≤ x ∧ x < 9223372036854775808 := by
  simp [Lit.wf, IntKind.min, IntKind.max, IntKind.signed, IntKind.bits] at h
  omega
end
end Go.Proofs.YtcmoagphbpjenaaGreatDoor

namespace Go.Proofs.YtcmoagphbpjenaaGreatDoor
set_option maxRecDepth 20000
open Go.RowKit

theorem repeatL_one : ∀ n : Nat, Lib.repeatL ([0] : List UInt8) n = List.replicate n 0
  | 0 => rfl
  | n + 1 => by
    rw [List.replicate_succ, ← repeatL_one n]
    rfl
theorem blank512_eq : (⟨(Lib.repeatL (⟨#[0]⟩ : ByteArray).data.toList 512).toArray⟩ : ByteArray) = fillS 0 512 := by
  rw [show (⟨#[0]⟩ : ByteArray).data.toList = ([0] : List UInt8) from rfl, repeatL_one]
  unfold fillS strOfNums
  rw [List.map_replicate, List.map_replicate]
  rfl
theorem zeros512_any (w : World) : Calls Tryz.prog 38 #[.int .i64 512] w fun e w' => e = .returned (.string (fillS 0 512)) ∧ Below w.heap.size w w' := by
  have hr : ∀ w, Calls Tryz.prog 44 #[.string ⟨#[0]⟩, .int .i64 512] w fun e w' => e = .returned (.string (fillS 0 512)) ∧ Below w.heap.size w w' := fun w => by
    have h := Any.strings_Repeat pl_lays105 pl_Builder_Extra_105 ⟨#[0]⟩ 512 w (by decide) (by decide)
    rw [blank512_eq] at h
    exact h
  generalize fillS 0 512 = z at *
  go_enter Tryz.func38, Tryz.ntmps38
  go_wp2_with fail
  refine (hr _).mono ?_
  rintro e w1 ⟨rfl, hb⟩
  have HB : Hid _ := hb
  clear hb hr
  go_wp2
  go_ret
  exact ⟨rfl, HB.out⟩
/-- What an image has at an address. -/
def atB (raws : List ByteArray) (masks : List Int) (a : Int) : Bool := decide (0 ≤ a ∧ a < (raws.length : Nat) ∧ a < (masks.length : Nat) ∧ (raws.getD a.toNat ⟨#[]⟩).size = 512)
def atS (raws : List ByteArray) (masks : List Int) (a : Int) : ByteArray := if atB raws masks a then raws.getD a.toNat ⟨#[]⟩ else fillS 0 512
def atM (raws : List ByteArray) (masks : List Int) (a : Int) : Int := if atB raws masks a then masks.getD a.toNat 0 else 255
set_option maxHeartbeats 4000000 in
theorem at_any (w : World) (oa ob : Option Addr) (ca cb : Nat) (raws : List ByteArray) (masks : List Int) (a : Int) (h1 : List1 Value.string w (.slice oa raws.length ca) raws) (h2 : List1 (Value.int .i64) w (.slice ob masks.length cb) masks) :
    Calls Tryz.prog 21 #[.agg #[.slice oa raws.length ca, .slice ob masks.length cb], .int .i64 a] w fun e w' => e = .returned (.tuple #[.string (atS raws masks a), .int .i64 (atM raws masks a)]) ∧ Below w.heap.size w w' := by
  have hb0 : Below w.heap.size w (w.alloc (.cells #[.slice oa raws.length ca, .slice ob masks.length cb] 47)) := (Below.refl _ _).alloc (Nat.le_refl _) _
  have hr0 : Row (w.alloc (.cells #[.slice oa raws.length ca, .slice ob masks.length cb] 47)) w.heap.size 47 [.slice oa raws.length ca, .slice ob masks.length cb] := heap_alloc_new w _
  obtain ⟨rl, hrl⟩ : ∃ rl, rl = raws.length := ⟨_, rfl⟩
  obtain ⟨ml, hml⟩ : ∃ ml, ml = masks.length := ⟨_, rfl⟩
  have HL : Hid (rl = raws.length ∧ ml = masks.length) := ⟨hrl, hml⟩
  have H12 : Hid (List1 Value.string w (.slice oa raws.length ca) raws ∧ List1 (Value.int .i64) w (.slice ob masks.length cb) masks) := ⟨h1, h2⟩
  rw [← hrl, ← hml] at hb0 hr0 ⊢
  have hz := fun w => zeros512_any w
  obtain ⟨z, hzz⟩ : ∃ z, z = fillS 0 512 := ⟨_, rfl⟩
  have HZ : Hid (z = fillS 0 512) := hzz
  rw [← hzz] at hz
  clear hzz h1 h2
  obtain ⟨w1, hw1⟩ : ∃ w1, w.alloc (.cells #[.slice oa rl ca, .slice ob ml cb] 47) = w1 := ⟨_, rfl⟩
  rw [hw1] at hb0 hr0
  have c0 : w1.cell? ⟨w.heap.size, 0, none⟩ = some (.slice oa rl ca) := hr0.cell 0
  have c1 : w1.cell? ⟨w.heap.size, 1, none⟩ = some (.slice ob ml cb) := hr0.cell 1
  have HB0 : Hid (Below w.heap.size w w1) := hb0
  by_cases hin : 0 ≤ a ∧ a < (rl : Nat) ∧ a < (ml : Nat)
  · obtain ⟨i, rfl⟩ : ∃ i : Nat, a = i := ⟨a.toNat, by omega⟩
    obtain ⟨x, hx⟩ : ∃ x, raws[i]? = some x := ⟨_, List.getElem?_eq_getElem (by omega)⟩
    obtain ⟨y, hy⟩ : ∃ y, masks[i]? = some y := ⟨_, List.getElem?_eq_getElem (by omega)⟩
    obtain ⟨g, o, rfl, hg, hxs⟩ := H12.out.1.get (i := i) (by omega)
    obtain ⟨g2, o2, rfl, hg2, hys⟩ := H12.out.2.get (i := i) (by omega)
    have d0 : w1.cell? ⟨g, o + i, none⟩ = some (.string x) := (cell_kept_1 (HB0.out.block g hg) _).trans (hxs i x hx)
    have d1 : w1.cell? ⟨g2, o2 + i, none⟩ = some (.int .i64 y) := (cell_kept_1 (HB0.out.block g2 hg2) _).trans (hys i y hy)
    have i1 : (i : Int) < (rl : Nat) := hin.2.1
    have i2 : (i : Int) < (ml : Nat) := hin.2.2
    have n1 : decide (rl ≤ i) = false := decide_eq_false (by omega)
    have n2 : decide (ml ≤ i) = false := decide_eq_false (by omega)
    have hwh := fun w => whole_any x w
    have hgd : raws.getD i ⟨#[]⟩ = x := by rw [List.getD_eq_getElem?_getD, hx]; rfl
    have hgm : masks.getD i 0 = y := by rw [List.getD_eq_getElem?_getD, hy]; rfl
    by_cases h512 : x.size = 512
    · have hyes : atB raws masks (i : Int) = true := decide_eq_true ⟨by omega, by rw [← hrl]; exact hin.2.1, by rw [← hml]; exact hin.2.2, by rw [Int.toNat_natCast, hgd]; exact h512⟩
      have HF : Hid (atS raws masks (i : Int) = x ∧ atM raws masks (i : Int) = y) := ⟨by unfold atS; rw [hyes, Int.toNat_natCast, hgd]; rfl, by unfold atM; rw [hyes, Int.toNat_natCast, hgm]; rfl⟩
      rw [HF.out.1, HF.out.2]
      rw [decide_eq_true h512] at hwh
      have hcl := fun w => clone_any x w (by omega)
      have HX : Hid (∀ w', Below w1.heap.size w1 w' → w'.cell? ⟨w.heap.size, 0, none⟩ = some (.slice (some ⟨g, o, none⟩) rl ca) ∧ w'.cell? ⟨w.heap.size, 1, none⟩ = some (.slice (some ⟨g2, o2, none⟩) ml cb) ∧ w'.cell? ⟨g, o + i, none⟩ = some (.string x) ∧ w'.cell? ⟨g2, o2 + i, none⟩ = some (.int .i64 y)) := fun w' hb => by
        have hz1 := HB0.out.size
        exact ⟨(cell_kept_1 (hb.block _ hr0.lt) _).trans c0, (cell_kept_1 (hb.block _ hr0.lt) _).trans c1, (cell_kept_1 (hb.block g (by omega)) _).trans d0, (cell_kept_1 (hb.block g2 (by omega)) _).trans d1⟩
      clear hrl hml hb0 hr0 hin hx hy hxs hys hgd hgm hyes h512 hz H12
      go_enter Tryz.func21, Tryz.ntmps21
      go_wp2_with fail
      refine (hwh _).mono ?_
      rintro e w2 ⟨rfl, rfl⟩
      clear hwh
      go_wp2_with fail
      go_region_held3 (fun w' => w'.cell? ⟨w.heap.size, 0, none⟩ = some (.slice (some ⟨g, o, none⟩) rl ca) ∧ w'.cell? ⟨w.heap.size, 1, none⟩ = some (.slice (some ⟨g2, o2, none⟩) ml cb) ∧ w'.cell? ⟨g, o + i, none⟩ = some (.string x) ∧ w'.cell? ⟨g2, o2 + i, none⟩ = some (.int .i64 y)) (first | exact hSc | exact ⟨c0, c1, d0, d1⟩ | simp [go_sem, *]) (first | (go_at_call 33; refine (hcl _).mono ?_; rintro e wc ⟨rfl, hbc⟩; have hSc := HX.out wc ((Below.refl _ _).drew.trans hbc)))
      have HF2 : Hid (Below w.heap.size w wc) := HB0.out.drew.trans (hbc.mono HB0.out.size)
      clear hbc hSc HX hw1
      go_wp2
      go_ret2
      exact ⟨rfl, HF2.out⟩
    · have hno : atB raws masks (i : Int) = false := decide_eq_false fun h => h512 (by have := h.2.2.2; rwa [Int.toNat_natCast, hgd] at this)
      have HF : Hid (atS raws masks (i : Int) = z ∧ atM raws masks (i : Int) = 255) := ⟨by unfold atS; rw [hno, HZ.out]; rfl, by unfold atM; rw [hno]; rfl⟩
      rw [HF.out.1, HF.out.2]
      rw [decide_eq_false h512] at hwh
      clear hrl hml hb0 hr0 hin hx hy hxs hys hgd hgm hno h512 H12
      go_enter Tryz.func21, Tryz.ntmps21
      go_wp2_with fail
      refine (hwh _).mono ?_
      rintro e w2 ⟨rfl, rfl⟩
      clear hwh
      go_wp2_with fail
      refine (hz _).mono ?_
      rintro e w3 ⟨rfl, hb3⟩
      have HF2 : Hid (Below w.heap.size w w3) := HB0.out.trans (hb3.mono HB0.out.size)
      clear hb3 hz hw1
      go_wp2
      go_ret2
      exact ⟨rfl, HF2.out⟩
  · have hno : atB raws masks a = false := by
      refine decide_eq_false fun h => hin ⟨h.1, ?_, ?_⟩
      · rw [hrl]; exact h.2.1
      · rw [hml]; exact h.2.2.1
    have HF : Hid (atS raws masks a = z ∧ atM raws masks a = 255) := ⟨by unfold atS; rw [hno, HZ.out]; rfl, by unfold atM; rw [hno]; rfl⟩
    rw [HF.out.1, HF.out.2]
    clear hrl hml hno hb0 hr0
    by_cases ha0 : a < 0
    · clear hin
      go_enter Tryz.func21, Tryz.ntmps21
      go_wp2_with fail
      refine (hz _).mono ?_
      rintro e w2 ⟨rfl, hb2⟩
      have HF2 : Hid (Below w.heap.size w w2) := HB0.out.trans (hb2.mono HB0.out.size)
      clear hb2 hz
      go_wp2
      go_ret2
      exact ⟨rfl, HF2.out⟩
    · have n0 : decide (a < 0) = false := decide_eq_false ha0
      by_cases hr : (rl : Int) ≤ a
      · clear hin
        go_enter Tryz.func21, Tryz.ntmps21
        go_wp2_with fail
        refine (hz _).mono ?_
        rintro e w2 ⟨rfl, hb2⟩
        have HF2 : Hid (Below w.heap.size w w2) := HB0.out.trans (hb2.mono HB0.out.size)
        clear hb2 hz
        go_wp2
        go_ret2
        exact ⟨rfl, HF2.out⟩
      · have n1 : decide ((rl : Int) ≤ a) = false := decide_eq_false hr
        have n2 : (ml : Int) ≤ a := by omega
        clear hin
        go_enter Tryz.func21, Tryz.ntmps21
        go_wp2_with fail
        refine (hz _).mono ?_
        rintro e w2 ⟨rfl, hb2⟩
        have HF2 : Hid (Below w.heap.size w w2) := HB0.out.trans (hb2.mono HB0.out.size)
        clear hb2 hz
        go_wp2
        go_ret2
        exact ⟨rfl, HF2.out⟩
end Go.Proofs.YtcmoagphbpjenaaGreatDoor

namespace Go.Proofs.YtcmoagphbpjenaaGreatDoor
set_option maxRecDepth 20000
open Go.RowKit

theorem getGo_keeps (a : Nat) : ∀ (n j : Nat) (S : PS) (t : ByteArray) (m : Nat), (getGo a n j S t m).2.wait = S.wait ∧ (getGo a n j S t m).2.kept.length = S.kept.length
  | 0, _, _, _, _ => ⟨rfl, rfl⟩
  | n + 1, j, S, t, m => by
    have hr := readP_len S ((8 * a + j : Nat) : Int)
    unfold getGo
    split
    · have := getGo_keeps a n (j + 1) (readP S ((8 * a + j : Nat) : Int)) (t ++ readS S ((8 * a + j : Nat) : Int)) m
      exact ⟨this.1.trans hr.2, this.2.trans hr.1⟩
    · split
      · have := getGo_keeps a n (j + 1) (readP S ((8 * a + j : Nat) : Int)) (t ++ fillS 0 64) (m + 2 ^ j)
        exact ⟨this.1.trans hr.2, this.2.trans hr.1⟩
      · exact ⟨hr.2, hr.1⟩
theorem bget_keeps (S : PS) (a : Int) : (bget S a).2.wait = S.wait ∧ (bget S a).2.kept.length = S.kept.length := by
  unfold bget
  split
  · exact getGo_keeps _ _ _ _ _ _
  · exact ⟨rfl, rfl⟩
/-- The device behind j readings; what the j-th comes to. -/
def stA (S : PS) : Nat → PS
  | 0 => S
  | j + 1 => (bget (stA S j) ((j : Nat) : Int)).2
def rawA (S : PS) (j : Nat) : ByteArray := if (bget (stA S j) ((j : Nat) : Int)).1.2.2 = 0 then (bget (stA S j) ((j : Nat) : Int)).1.1 else fillS 0 512
def maskA (S : PS) (j : Nat) : Int := if (bget (stA S j) ((j : Nat) : Int)).1.2.2 = 0 then (((bget (stA S j) ((j : Nat) : Int)).1.2.1 : Nat) : Int) else 255
theorem stA_keeps (S : PS) : ∀ j, (stA S j).wait = S.wait ∧ (stA S j).kept.length = S.kept.length
  | 0 => ⟨rfl, rfl⟩
  | j + 1 => by
    have h1 := bget_keeps (stA S j) ((j : Nat) : Int)
    have h2 := stA_keeps S j
    exact ⟨h1.1.trans h2.1, h1.2.trans h2.2⟩
def rawsTo (S : PS) (j : Nat) : List ByteArray := (List.range j).map (rawA S)
def masksTo (S : PS) (j : Nat) : List Int := (List.range j).map (maskA S)
theorem rawsTo_succ (S : PS) (j : Nat) : rawsTo S (j + 1) = rawsTo S j ++ [rawA S j] := by simp [rawsTo, List.range_succ]
theorem masksTo_succ (S : PS) (j : Nat) : masksTo S (j + 1) = masksTo S j ++ [maskA S j] := by simp [masksTo, List.range_succ]
theorem rawsTo_length (S : PS) (j : Nat) : (rawsTo S j).length = j := by simp [rawsTo]
theorem masksTo_length (S : PS) (j : Nat) : (masksTo S j).length = j := by simp [masksTo]
/-- An image that grows. -/
structure ImgMid (base : Nat) (w : World) (M : Nat) (rv mv : Value) (raws : List ByteArray) (masks : List Int) : Prop where
  row : Row w M 47 [rv, mv]
  raws : w.ownsRow 0 9 1 rv raws.length (raws.map Value.string)
  masks : w.ownsRow 0 3 1 mv masks.length (masks.map (Value.int .i64))
  low : base ≤ M
  fR : ∀ g, rv.ownBlock = some g → base ≤ g
  fM : ∀ g, mv.ownBlock = some g → base ≤ g
  rM : Apart rv M
  mM : Apart mv M
  rm : Apart2 rv mv
theorem ImgMid.keep {base : Nat} {w w' : World} {M : Nat} {rv mv : Value} {raws : List ByteArray} {masks : List Int} (h : ImgMid base w M rv mv raws masks) (hb : ∀ k, base ≤ k → k < w.heap.size → w'.heap[k]? = w.heap[k]?) : ImgMid base w' M rv mv raws masks :=
  { h with row := (hb M h.low h.row.lt).trans h.row, raws := owns_keep h.raws fun g hg => hb g (h.fR g hg) (owns_lt h.raws g hg), masks := owns_keep h.masks fun g hg => hb g (h.fM g hg) (owns_lt h.masks g hg) }
theorem ImgMid.low_mono {base b2 : Nat} {w : World} {M : Nat} {rv mv : Value} {raws : List ByteArray} {masks : List Int} (h : ImgMid base w M rv mv raws masks) (hb : b2 ≤ base) : ImgMid b2 w M rv mv raws masks :=
  { h with low := Nat.le_trans hb h.low, fR := fun g hg => Nat.le_trans hb (h.fR g hg), fM := fun g hg => Nat.le_trans hb (h.fM g hg) }
theorem ImgMid.growR {base : Nat} {w w' : World} {M : Nat} {rv mv v' : Value} {raws : List ByteArray} {masks : List Int} {x : ByteArray} (h : ImgMid base w M rv mv raws masks) (hbase : base ≤ w.heap.size) (hown : w'.ownsRow 0 9 1 v' (raws.length + 1) (raws.map Value.string ++ [.string x])) (hg : w.grownBy w' rv.ownBlock) (hat : v'.ownBlock = rv.ownBlock ∨ v'.ownBlock = some w.heap.size) :
    w'.cell? ⟨M, 0, none⟩ = some rv ∧ w'.frozen? ⟨M, 0, none⟩ = false ∧ ImgMid base (w'.setCell ⟨M, 0, none⟩ v') M v' mv (raws ++ [x]) masks := by
  have hB := h.row.lt
  have r1 : Row w' M _ _ := (hg.block M h.row.lt (fun e => h.rM e.symm)).trans h.row
  have r3 := owns_keep (w' := w') h.masks fun g hg' => hg.block g (owns_lt h.masks g hg') (fun e => h.rm g e.symm hg')
  have nB : Apart v' M := by
    rcases hat with e | e
    · unfold Apart; rw [e]; exact h.rM
    · unfold Apart; rw [e]; intro e2; cases e2; omega
  have nD : Apart2 v' mv := fun g hg' e2 => by
    rcases hat with e | e
    · exact h.rm g (by rw [← e]; exact hg') e2
    · rw [e] at hg'; cases hg'; have := owns_lt h.masks _ e2; omega
  refine ⟨r1.cell 0, r1.frozen 0, r1.setL 0 v', ?_, owns_off r3 h.mM _ _, h.low, fun g hg' => ?_, h.fM, nB, h.mM, nD⟩
  · have := owns_off hown nB 0 v'
    rw [List.length_append, List.map_append]
    exact this
  · rcases hat with e | e
    · exact h.fR g (by rw [← e]; exact hg')
    · rw [e] at hg'; cases hg'; exact hbase
theorem ImgMid.growM {base : Nat} {w w' : World} {M : Nat} {rv mv v' : Value} {raws : List ByteArray} {masks : List Int} {x : Int} (h : ImgMid base w M rv mv raws masks) (hbase : base ≤ w.heap.size) (hown : w'.ownsRow 0 3 1 v' (masks.length + 1) (masks.map (Value.int .i64) ++ [.int .i64 x])) (hg : w.grownBy w' mv.ownBlock) (hat : v'.ownBlock = mv.ownBlock ∨ v'.ownBlock = some w.heap.size) :
    w'.cell? ⟨M, 1, none⟩ = some mv ∧ w'.frozen? ⟨M, 1, none⟩ = false ∧ ImgMid base (w'.setCell ⟨M, 1, none⟩ v') M rv v' raws (masks ++ [x]) := by
  have hB := h.row.lt
  have r1 : Row w' M _ _ := (hg.block M h.row.lt (fun e => h.mM e.symm)).trans h.row
  have r3 := owns_keep (w' := w') h.raws fun g hg' => hg.block g (owns_lt h.raws g hg') (fun e => h.rm g hg' e.symm)
  have nB : Apart v' M := by
    rcases hat with e | e
    · unfold Apart; rw [e]; exact h.mM
    · unfold Apart; rw [e]; intro e2; cases e2; omega
  have nD : Apart2 rv v' := fun g hg' e2 => by
    rcases hat with e | e
    · exact h.rm g hg' (by rw [← e]; exact e2)
    · rw [e] at e2; cases e2; have := owns_lt h.raws _ hg'; omega
  refine ⟨r1.cell 1, r1.frozen 1, r1.setL 1 v', owns_off r3 h.rM _ _, ?_, h.low, h.fR, fun g hg' => ?_, h.rM, nB, nD⟩
  · have := owns_off hown nB 1 v'
    rw [List.length_append, List.map_append]
    exact this
  · rcases hat with e | e
    · exact h.fM g (by rw [← e]; exact hg')
    · rw [e] at hg'; cases hg'; exact hbase
theorem zero_image (w : World) : (zeroValue 47).run Tryz.prog w = .ok (.agg #[.slice none 0 0, .slice none 0 0]) w := (zero_of_info (n := 2) (by kernel_rfl)).1 w
set_option maxHeartbeats 4000000 in
theorem all_any (B : Nat) (F : Nat → Prop) (S : PS) (w : World) (hp : Plate w F B S) (hw : S.wait.length ≤ 1000000) (hg : ErrT w) (hF : ¬ F 0) (hlt : ∀ k, F k → k < w.heap.size) :
    Calls Tryz.prog 20 #[.pointer (some ⟨B, 0, none⟩)] w fun e w' => ∃ oa ca ob cb, e = .returned (.agg #[.slice oa (S.kept.length / 8) ca, .slice ob (S.kept.length / 8) cb]) ∧ (∃ M, ImgMid w.heap.size w' M (.slice oa (S.kept.length / 8) ca) (.slice ob (S.kept.length / 8) cb) (rawsTo S (S.kept.length / 8)) (masksTo S (S.kept.length / 8))) ∧ Plate w' F B (stA S (S.kept.length / 8)) ∧ Touch F w w' := by
  obtain ⟨nb, hnb⟩ : ∃ nb, nb = S.kept.length / 8 := ⟨_, rfl⟩
  have hm : S.kept.length ≤ 32768 := by obtain ⟨K, N, wv, h⟩ := hp; exact h.most
  have hnb2 : nb ≤ 4096 := by omega
  have HP : Hid (Plate w F B S ∧ ErrT w) := ⟨hp, hg⟩
  have hlt0 := lt_of_cell_ hg
  rw [← hnb]
  have HNB : Hid (nb = S.kept.length / 8) := hnb
  have hz := zero_image
  clear hp hg hm hnb
  go_enter Tryz.func20, Tryz.ntmps20
  go_wp2_with fail
  obtain ⟨w1, hw1⟩ : ∃ w1, (w.alloc (.cells #[.slice none 0 0, .slice none 0 0] 47)).alloc (.cells #[.slice none 0 0, .slice none 0 0] 47) = w1 := ⟨_, rfl⟩
  have HI : Hid (ImgMid (w.heap.size + 1) w1 (w.heap.size + 1) (.slice none 0 0) (.slice none 0 0) (rawsTo S 0) (masksTo S 0) ∧ Row w1 w.heap.size 47 [.slice none 0 0, .slice none 0 0] ∧ Plate w1 F B (stA S 0) ∧ Touch F w w1) := by
    have e1 : (w.alloc (.cells #[.slice none 0 0, .slice none 0 0] 47)).heap.size = w.heap.size + 1 := by simp
    have hb : Below w.heap.size w w1 := by rw [← hw1]; exact ((Below.refl _ _).alloc (Nat.le_refl _) _).alloc (by rw [e1]; omega) _
    refine ⟨⟨?_, World.ownsRow_nil _ _ _ _, World.ownsRow_nil _ _ _ _, Nat.le_refl _, fun g hg => (by cases hg), fun g hg => (by cases hg), by simp [Apart, Value.ownBlock], by simp [Apart, Value.ownBlock], fun g hg => (by cases hg)⟩, ?_, HP.out.1.keep fun k hk _ => hb.block k hk, Touch.of_below hb⟩
    · rw [← hw1, ← e1]; exact heap_alloc_new _ _
    · rw [← hw1]; exact (Below.heap_alloc _ _ _ (by rw [e1]; omega)).trans (heap_alloc_new w _)
  rw [hw1]
  have hbl := blocks_any B F S w1 HI.out.2.2.1
  rw [← HNB.out] at hbl
  obtain ⟨i0, hi0, hz0, hz1, hz2⟩ := info_parts info_string
  obtain ⟨q0, hq0, hy0, hy1, hy2⟩ := info_parts info_int
  clear hw1
  refine hbl.mono ?_
  rintro e w2 ⟨rfl, rfl⟩
  clear hbl
  go_wp2_with fail
  go_loopw [10] (fun jv wr => ∃ (j : Nat) (oa : Option Addr) (ca : Nat) (ob : Option Addr) (cb : Nat), j ≤ nb ∧ jv = .int .i64 (j : Int) ∧ ImgMid (w.heap.size + 1) wr (w.heap.size + 1) (.slice oa j ca) (.slice ob j cb) (rawsTo S j) (masksTo S j) ∧ Row wr w.heap.size 47 [.slice none 0 0, .slice none 0 0] ∧ Plate wr F B (stA S j) ∧ Touch F w wr) (fun jv _ => nb - (intOf jv).toNat)
  case atStart => exact ⟨0, none, 0, none, 0, Nat.zero_le _, rfl, HI.out⟩
  case round =>
    clear HI
    obtain ⟨j, oa, ca, ob, cb, hj, rfl, him, hres, hpj, htj⟩ := hrel
    by_cases hjl : j < nb
    · have j1 : (j : Int) < (nb : Nat) := by omega
      have hEr : ErrT wr := (cell_kept_1 (htj.2 _ hlt0 hF) _).trans HP.out.2
      have hgt := bget_any B F (stA S j) ((j : Nat) : Int) wr hpj (by rw [(stA_keeps S j).1]; exact hw) hEr hF
      have hJ1 := rawsTo_length S j
      have hJ2 := masksTo_length S j
      have hJ3 := rawsTo_succ S j
      have hJ4 := masksTo_succ S j
      have hJ5 : stA S (j + 1) = (bget (stA S j) ((j : Nat) : Int)).2 := rfl
      have hra : rawA S j = if (bget (stA S j) ((j : Nat) : Int)).1.2.2 = 0 then (bget (stA S j) ((j : Nat) : Int)).1.1 else fillS 0 512 := rfl
      have hma : maskA S j = if (bget (stA S j) ((j : Nat) : Int)).1.2.2 = 0 then (((bget (stA S j) ((j : Nat) : Int)).1.2.1 : Nat) : Int) else 255 := rfl
      generalize (bget (stA S j) ((j : Nat) : Int)).1.1 = t at *
      generalize (bget (stA S j) ((j : Nat) : Int)).1.2.1 = mk at *
      generalize (bget (stA S j) ((j : Nat) : Int)).1.2.2 = er at *
      generalize (bget (stA S j) ((j : Nat) : Int)).2 = Sk at *
      generalize rawsTo S j = raws at *
      generalize masksTo S j = masks at *
      have HM : Hid (ImgMid (w.heap.size + 1) wr (w.heap.size + 1) (.slice oa j ca) (.slice ob j cb) raws masks ∧ Row wr w.heap.size 47 [.slice none 0 0, .slice none 0 0] ∧ Touch F w wr) := ⟨him, hres, htj⟩
      clear him hres hpj htj hEr
      by_cases he : er = 0
      · rw [if_pos he] at hra hma
        have HJ : Hid (raws.length = j ∧ masks.length = j ∧ rawsTo S (j + 1) = raws ++ [t] ∧ masksTo S (j + 1) = masks ++ [(mk : Int)] ∧ stA S (j + 1) = Sk) := ⟨hJ1, hJ2, by rw [hJ3, hra], by rw [hJ4, hma], hJ5⟩
        subst he
        clear hJ1 hJ2 hJ3 hJ4 hJ5 hra hma
        go_wp2_with fail
        refine hgt.mono ?_
        rintro e w4 ⟨rfl, p4, t3⟩
        have h4 := HM.out.1.keep (w' := w4) fun k hk hk2 => t3.2 k hk2 fun hf => by have := hlt k hf; omega
        have r4 : Row w4 w.heap.size 47 [.slice none 0 0, .slice none 0 0] := (t3.2 _ HM.out.2.1.lt fun hf => by have := hlt _ hf; omega).trans HM.out.2.1
        have t4 : Touch F w w4 := HM.out.2.2.trans (t3.mono fun _ h => .inl h)
        have hz4 : w.heap.size + 1 < w4.heap.size := h4.row.lt
        clear hgt t3 HM
        have h4' := h4.keep (w' := w4.alloc (.cells #[.string t] 9)) fun k _ hk => Below.heap_alloc w4 _ k hk
        have hnew : (w4.alloc (.cells #[.string t] 9)).heap[w4.heap.size]? = some (.cells #[.string t] 9 (0, 0)) := heap_alloc_new w4 _
        have hone : ∀ u ∈ ([.string t] : List Value), u.oneCell' = true := by intro u hu; simp at hu; rw [hu]; rfl
        have hownC := h4'.raws
        have c0 : w4.cell? ⟨w.heap.size + 1, 0, none⟩ = some (.slice oa j ca) := h4.row.cell 0
        rw [HJ.out.1] at hownC
        have hsz4 : w.heap.size + 1 ≤ (w4.alloc (.cells #[.string t] 9)).heap.size := by simp; omega
        have HA : Hid (ImgMid (w.heap.size + 1) (w4.alloc (.cells #[.string t] 9)) (w.heap.size + 1) (.slice oa j ca) (.slice ob j cb) raws masks ∧ Row (w4.alloc (.cells #[.string t] 9)) w.heap.size 47 [.slice none 0 0, .slice none 0 0] ∧ Plate (w4.alloc (.cells #[.string t] 9)) F B Sk ∧ Touch F w (w4.alloc (.cells #[.string t] 9))) := ⟨h4', (Below.heap_alloc w4 _ _ r4.lt).trans r4, p4.keep fun k hk _ => Below.heap_alloc w4 _ k hk, t4.trans (Touch.of_below ((Below.refl _ _).alloc (Nat.le_refl _) _))⟩
        clear h4 h4' r4 p4 t4
        go_wp2_with (first | (at_builtin; (refine wpList_append_own_at _ rfl _ _ 36 rfl 0 9 i0 (.string ⟨#[]⟩) 1 16 Tryz.underlying36 hi0 hz0 hz1 hz2 rfl (by decide) (.slice oa j ca) j (raws.map Value.string) rfl hownC ⟨w4.heap.size, 0, none⟩ 1 1 [.string t] rfl rfl (World.news_of_block hnew) hone (by unfold maxLen; omega) (by omega) (Nat.zero_le _) ?_)))
        intro v1 wB hown1 hgrow1 _ hat1
        obtain ⟨g1, cap1, rfl, _, _⟩ := owns_form hown1 (by omega)
        obtain ⟨e1, e2, h5⟩ := HA.out.1.growR hsz4 (by rw [HJ.out.1]; exact hown1) hgrow1 (by first | exact hat1 | simpa using hat1)
        have hRne : ∀ k, (Value.slice oa j ca).ownBlock = some k → w.heap.size + 1 ≤ k := HA.out.1.fR
        have keepB : ∀ k, k ≤ w.heap.size → k < (w4.alloc (.cells #[.string t] 9)).heap.size → wB.heap[k]? = (w4.alloc (.cells #[.string t] 9)).heap[k]? := fun k hk hk2 => hgrow1.block k hk2 (fun e => by have := hRne k e.symm; omega)
        have r5 : Row (wB.setCell ⟨w.heap.size + 1, 0, none⟩ (.slice (some ⟨g1, 0, none⟩) (j + 1) cap1)) w.heap.size 47 [.slice none 0 0, .slice none 0 0] := Row.off ((keepB _ (Nat.le_refl _) HA.out.2.1.lt).trans HA.out.2.1) (by omega) _ _
        have p5 : Plate (wB.setCell ⟨w.heap.size + 1, 0, none⟩ (.slice (some ⟨g1, 0, none⟩) (j + 1) cap1)) F B Sk := HA.out.2.2.1.keep fun k hk hf => (Below.heap_setCell wB ⟨w.heap.size + 1, 0, none⟩ _ k (by have := hlt k hf; show k ≠ w.heap.size + 1; omega)).trans (keepB k (by have := hlt k hf; omega) hk)
        have t5 : Touch F w (wB.setCell ⟨w.heap.size + 1, 0, none⟩ (.slice (some ⟨g1, 0, none⟩) (j + 1) cap1)) := by
          have hb := (Below.refl (w.heap.size + 1) (w4.alloc (.cells #[.string t] 9))).grown hgrow1 hsz4 fun k hk => hRne k hk
          refine Touch.setCell ⟨HA.out.2.2.2.1.trans (hb.mono (Nat.zero_le _)), fun k hk hn => (hb.block k (by omega)).trans (HA.out.2.2.2.2 k hk hn)⟩ _ _ _ (.inr (by omega))
        obtain ⟨w5, hw5⟩ : ∃ w5, wB.setCell ⟨w.heap.size + 1, 0, none⟩ (.slice (some ⟨g1, 0, none⟩) (j + 1) cap1) = w5 := ⟨_, rfl⟩
        rw [hw5] at h5 r5 p5 t5
        have hz5 : w.heap.size + 1 < w5.heap.size := h5.row.lt
        clear HA hownC hnew hone hown1 hgrow1 hat1 hRne keepB c0 hsz4
        have h5' := h5.keep (w' := w5.alloc (.cells #[.int .i64 (mk : Int)] 3)) fun k _ hk => Below.heap_alloc w5 _ k hk
        have hnew : (w5.alloc (.cells #[.int .i64 (mk : Int)] 3)).heap[w5.heap.size]? = some (.cells #[.int .i64 (mk : Int)] 3 (0, 0)) := heap_alloc_new w5 _
        have hone : ∀ u ∈ ([.int .i64 (mk : Int)] : List Value), u.oneCell' = true := by intro u hu; simp at hu; rw [hu]; rfl
        have hownD := h5'.masks
        have c1 : w5.cell? ⟨w.heap.size + 1, 1, none⟩ = some (.slice ob j cb) := h5.row.cell 1
        rw [HJ.out.2.1] at hownD
        have hsz5 : w.heap.size + 1 ≤ (w5.alloc (.cells #[.int .i64 (mk : Int)] 3)).heap.size := by simp; omega
        have HA : Hid (ImgMid (w.heap.size + 1) (w5.alloc (.cells #[.int .i64 (mk : Int)] 3)) (w.heap.size + 1) (.slice (some ⟨g1, 0, none⟩) (j + 1) cap1) (.slice ob j cb) (raws ++ [t]) masks ∧ Row (w5.alloc (.cells #[.int .i64 (mk : Int)] 3)) w.heap.size 47 [.slice none 0 0, .slice none 0 0] ∧ Plate (w5.alloc (.cells #[.int .i64 (mk : Int)] 3)) F B Sk ∧ Touch F w (w5.alloc (.cells #[.int .i64 (mk : Int)] 3))) := ⟨h5', (Below.heap_alloc w5 _ _ r5.lt).trans r5, p5.keep fun k hk _ => Below.heap_alloc w5 _ k hk, t5.trans (Touch.of_below ((Below.refl _ _).alloc (Nat.le_refl _) _))⟩
        have HW5 : Hid (wB.setCell ⟨w.heap.size + 1, 0, none⟩ (.slice (some ⟨g1, 0, none⟩) (j + 1) cap1) = w5) := hw5
        clear h5 h5' r5 p5 t5
        go_wp2_with (first | (at_builtin; (refine wpList_append_own_at _ rfl _ _ 45 rfl 0 3 q0 (.int .i64 0) 1 8 Tryz.underlying45 hq0 hy0 hy1 hy2 rfl (by decide) (.slice ob j cb) j (masks.map (Value.int .i64)) rfl hownD ⟨w5.heap.size, 0, none⟩ 1 1 [.int .i64 (mk : Int)] rfl rfl (World.news_of_block hnew) hone (by unfold maxLen; omega) (by omega) (Nat.zero_le _) ?_)))
        intro v2 wC hown2 hgrow2 _ hat2
        obtain ⟨g2, cap2, rfl, _, _⟩ := owns_form hown2 (by omega)
        obtain ⟨f1, f2, h6⟩ := HA.out.1.growM hsz5 (by rw [HJ.out.2.1]; exact hown2) hgrow2 (by first | exact hat2 | simpa using hat2)
        have hRne : ∀ k, (Value.slice ob j cb).ownBlock = some k → w.heap.size + 1 ≤ k := HA.out.1.fM
        have keepB : ∀ k, k ≤ w.heap.size → k < (w5.alloc (.cells #[.int .i64 (mk : Int)] 3)).heap.size → wC.heap[k]? = (w5.alloc (.cells #[.int .i64 (mk : Int)] 3)).heap[k]? := fun k hk hk2 => hgrow2.block k hk2 (fun e => by have := hRne k e.symm; omega)
        have HF : Hid (ImgMid (w.heap.size + 1) (wC.setCell ⟨w.heap.size + 1, 1, none⟩ (.slice (some ⟨g2, 0, none⟩) (j + 1) cap2)) (w.heap.size + 1) (.slice (some ⟨g1, 0, none⟩) (j + 1) cap1) (.slice (some ⟨g2, 0, none⟩) (j + 1) cap2) (rawsTo S (j + 1)) (masksTo S (j + 1)) ∧ Row (wC.setCell ⟨w.heap.size + 1, 1, none⟩ (.slice (some ⟨g2, 0, none⟩) (j + 1) cap2)) w.heap.size 47 [.slice none 0 0, .slice none 0 0] ∧ Plate (wC.setCell ⟨w.heap.size + 1, 1, none⟩ (.slice (some ⟨g2, 0, none⟩) (j + 1) cap2)) F B (stA S (j + 1)) ∧ Touch F w (wC.setCell ⟨w.heap.size + 1, 1, none⟩ (.slice (some ⟨g2, 0, none⟩) (j + 1) cap2))) := by
          have hb := (Below.refl (w.heap.size + 1) (w5.alloc (.cells #[.int .i64 (mk : Int)] 3))).grown hgrow2 hsz5 fun k hk => hRne k hk
          refine ⟨?_, Row.off ((keepB _ (Nat.le_refl _) HA.out.2.1.lt).trans HA.out.2.1) (by omega) _ _, ?_, Touch.setCell ⟨HA.out.2.2.2.1.trans (hb.mono (Nat.zero_le _)), fun k hk hn => (hb.block k (by omega)).trans (HA.out.2.2.2.2 k hk hn)⟩ _ _ _ (.inr (by omega))⟩
          · rw [HJ.out.2.2.1, HJ.out.2.2.2.1]
            exact h6
          · rw [HJ.out.2.2.2.2]
            exact HA.out.2.2.1.keep fun k hk hf => (Below.heap_setCell wC ⟨w.heap.size + 1, 1, none⟩ _ k (by have := hlt k hf; show k ≠ w.heap.size + 1; omega)).trans (keepB k (by have := hlt k hf; omega) hk)
        clear HA hownD hnew hone hown2 hgrow2 hat2 hRne keepB c1 hsz5 h6 hw5 HW5
        go_wp2
        go_roundw
        case rel => exact ⟨j + 1, some ⟨g1, 0, none⟩, cap1, some ⟨g2, 0, none⟩, cap2, by omega, by go_num, HF.out⟩
        case measure => simp [intOf]; omega
      · rw [if_neg he] at hra hma
        have hez : (er == 0) = false := by simp [he]
        have hzz := fun w => zeros512_any w
        have HJ : Hid (raws.length = j ∧ masks.length = j ∧ rawsTo S (j + 1) = raws ++ [fillS 0 512] ∧ masksTo S (j + 1) = masks ++ [255] ∧ stA S (j + 1) = Sk) := ⟨hJ1, hJ2, by rw [hJ3, hra], by rw [hJ4, hma], hJ5⟩
        generalize fillS 0 512 = zz at *
        clear hJ1 hJ2 hJ3 hJ4 hJ5 hra hma
        go_wp2_with fail
        refine hgt.mono ?_
        rintro e w3 ⟨rfl, p3, t3⟩
        have h3 := HM.out.1.keep (w' := w3) fun k hk hk2 => t3.2 k hk2 fun hf => by have := hlt k hf; omega
        have r3 : Row w3 w.heap.size 47 [.slice none 0 0, .slice none 0 0] := (t3.2 _ HM.out.2.1.lt fun hf => by have := hlt _ hf; omega).trans HM.out.2.1
        have H3 : Hid (ImgMid (w.heap.size + 1) w3 (w.heap.size + 1) (.slice oa j ca) (.slice ob j cb) raws masks ∧ Row w3 w.heap.size 47 [.slice none 0 0, .slice none 0 0] ∧ Plate w3 F B Sk ∧ Touch F w w3) := ⟨h3, r3, p3, HM.out.2.2.trans (t3.mono fun _ h => .inl h)⟩
        clear hgt t3 HM h3 r3 p3
        go_wp2_with fail
        refine (hzz _).mono ?_
        rintro e w4 ⟨rfl, hb4⟩
        have h4 := H3.out.1.keep (w' := w4) fun k _ hk => hb4.block k hk
        have r4 : Row w4 w.heap.size 47 [.slice none 0 0, .slice none 0 0] := (hb4.block _ H3.out.2.1.lt).trans H3.out.2.1
        have p4 : Plate w4 F B Sk := H3.out.2.2.1.keep fun k hk _ => hb4.block k hk
        have t4 : Touch F w w4 := H3.out.2.2.2.trans (Touch.of_below hb4)
        have hz4 : w.heap.size + 1 < w4.heap.size := h4.row.lt
        clear hzz hb4 H3 he hez
        have h4' := h4.keep (w' := w4.alloc (.cells #[.string zz] 9)) fun k _ hk => Below.heap_alloc w4 _ k hk
        have hnew : (w4.alloc (.cells #[.string zz] 9)).heap[w4.heap.size]? = some (.cells #[.string zz] 9 (0, 0)) := heap_alloc_new w4 _
        have hone : ∀ u ∈ ([.string zz] : List Value), u.oneCell' = true := by intro u hu; simp at hu; rw [hu]; rfl
        have hownC := h4'.raws
        have c0 : w4.cell? ⟨w.heap.size + 1, 0, none⟩ = some (.slice oa j ca) := h4.row.cell 0
        rw [HJ.out.1] at hownC
        have hsz4 : w.heap.size + 1 ≤ (w4.alloc (.cells #[.string zz] 9)).heap.size := by simp; omega
        have HA : Hid (ImgMid (w.heap.size + 1) (w4.alloc (.cells #[.string zz] 9)) (w.heap.size + 1) (.slice oa j ca) (.slice ob j cb) raws masks ∧ Row (w4.alloc (.cells #[.string zz] 9)) w.heap.size 47 [.slice none 0 0, .slice none 0 0] ∧ Plate (w4.alloc (.cells #[.string zz] 9)) F B Sk ∧ Touch F w (w4.alloc (.cells #[.string zz] 9))) := ⟨h4', (Below.heap_alloc w4 _ _ r4.lt).trans r4, p4.keep fun k hk _ => Below.heap_alloc w4 _ k hk, t4.trans (Touch.of_below ((Below.refl _ _).alloc (Nat.le_refl _) _))⟩
        clear h4 h4' r4 p4 t4
        go_wp2_with (first | (at_builtin; (refine wpList_append_own_at _ rfl _ _ 36 rfl 0 9 i0 (.string ⟨#[]⟩) 1 16 Tryz.underlying36 hi0 hz0 hz1 hz2 rfl (by decide) (.slice oa j ca) j (raws.map Value.string) rfl hownC ⟨w4.heap.size, 0, none⟩ 1 1 [.string zz] rfl rfl (World.news_of_block hnew) hone (by unfold maxLen; omega) (by omega) (Nat.zero_le _) ?_)))
        intro v1 wB hown1 hgrow1 _ hat1
        obtain ⟨g1, cap1, rfl, _, _⟩ := owns_form hown1 (by omega)
        obtain ⟨e1, e2, h5⟩ := HA.out.1.growR hsz4 (by rw [HJ.out.1]; exact hown1) hgrow1 (by first | exact hat1 | simpa using hat1)
        have hRne : ∀ k, (Value.slice oa j ca).ownBlock = some k → w.heap.size + 1 ≤ k := HA.out.1.fR
        have keepB : ∀ k, k ≤ w.heap.size → k < (w4.alloc (.cells #[.string zz] 9)).heap.size → wB.heap[k]? = (w4.alloc (.cells #[.string zz] 9)).heap[k]? := fun k hk hk2 => hgrow1.block k hk2 (fun e => by have := hRne k e.symm; omega)
        have r5 : Row (wB.setCell ⟨w.heap.size + 1, 0, none⟩ (.slice (some ⟨g1, 0, none⟩) (j + 1) cap1)) w.heap.size 47 [.slice none 0 0, .slice none 0 0] := Row.off ((keepB _ (Nat.le_refl _) HA.out.2.1.lt).trans HA.out.2.1) (by omega) _ _
        have p5 : Plate (wB.setCell ⟨w.heap.size + 1, 0, none⟩ (.slice (some ⟨g1, 0, none⟩) (j + 1) cap1)) F B Sk := HA.out.2.2.1.keep fun k hk hf => (Below.heap_setCell wB ⟨w.heap.size + 1, 0, none⟩ _ k (by have := hlt k hf; show k ≠ w.heap.size + 1; omega)).trans (keepB k (by have := hlt k hf; omega) hk)
        have t5 : Touch F w (wB.setCell ⟨w.heap.size + 1, 0, none⟩ (.slice (some ⟨g1, 0, none⟩) (j + 1) cap1)) := by
          have hb := (Below.refl (w.heap.size + 1) (w4.alloc (.cells #[.string zz] 9))).grown hgrow1 hsz4 fun k hk => hRne k hk
          refine Touch.setCell ⟨HA.out.2.2.2.1.trans (hb.mono (Nat.zero_le _)), fun k hk hn => (hb.block k (by omega)).trans (HA.out.2.2.2.2 k hk hn)⟩ _ _ _ (.inr (by omega))
        obtain ⟨w5, hw5⟩ : ∃ w5, wB.setCell ⟨w.heap.size + 1, 0, none⟩ (.slice (some ⟨g1, 0, none⟩) (j + 1) cap1) = w5 := ⟨_, rfl⟩
        rw [hw5] at h5 r5 p5 t5
        have hz5 : w.heap.size + 1 < w5.heap.size := h5.row.lt
        clear HA hownC hnew hone hown1 hgrow1 hat1 hRne keepB c0 hsz4
        have h5' := h5.keep (w' := w5.alloc (.cells #[.int .i64 255] 3)) fun k _ hk => Below.heap_alloc w5 _ k hk
        have hnew : (w5.alloc (.cells #[.int .i64 255] 3)).heap[w5.heap.size]? = some (.cells #[.int .i64 255] 3 (0, 0)) := heap_alloc_new w5 _
        have hone : ∀ u ∈ ([.int .i64 255] : List Value), u.oneCell' = true := by intro u hu; simp at hu; rw [hu]; rfl
        have hownD := h5'.masks
        have c1 : w5.cell? ⟨w.heap.size + 1, 1, none⟩ = some (.slice ob j cb) := h5.row.cell 1
        rw [HJ.out.2.1] at hownD
        have hsz5 : w.heap.size + 1 ≤ (w5.alloc (.cells #[.int .i64 255] 3)).heap.size := by simp; omega
        have HA : Hid (ImgMid (w.heap.size + 1) (w5.alloc (.cells #[.int .i64 255] 3)) (w.heap.size + 1) (.slice (some ⟨g1, 0, none⟩) (j + 1) cap1) (.slice ob j cb) (raws ++ [zz]) masks ∧ Row (w5.alloc (.cells #[.int .i64 255] 3)) w.heap.size 47 [.slice none 0 0, .slice none 0 0] ∧ Plate (w5.alloc (.cells #[.int .i64 255] 3)) F B Sk ∧ Touch F w (w5.alloc (.cells #[.int .i64 255] 3))) := ⟨h5', (Below.heap_alloc w5 _ _ r5.lt).trans r5, p5.keep fun k hk _ => Below.heap_alloc w5 _ k hk, t5.trans (Touch.of_below ((Below.refl _ _).alloc (Nat.le_refl _) _))⟩
        have HW5 : Hid (wB.setCell ⟨w.heap.size + 1, 0, none⟩ (.slice (some ⟨g1, 0, none⟩) (j + 1) cap1) = w5) := hw5
        clear h5 h5' r5 p5 t5
        go_wp2_with (first | (at_builtin; (refine wpList_append_own_at _ rfl _ _ 45 rfl 0 3 q0 (.int .i64 0) 1 8 Tryz.underlying45 hq0 hy0 hy1 hy2 rfl (by decide) (.slice ob j cb) j (masks.map (Value.int .i64)) rfl hownD ⟨w5.heap.size, 0, none⟩ 1 1 [.int .i64 255] rfl rfl (World.news_of_block hnew) hone (by unfold maxLen; omega) (by omega) (Nat.zero_le _) ?_)))
        intro v2 wC hown2 hgrow2 _ hat2
        obtain ⟨g2, cap2, rfl, _, _⟩ := owns_form hown2 (by omega)
        obtain ⟨f1, f2, h6⟩ := HA.out.1.growM hsz5 (by rw [HJ.out.2.1]; exact hown2) hgrow2 (by first | exact hat2 | simpa using hat2)
        have hRne : ∀ k, (Value.slice ob j cb).ownBlock = some k → w.heap.size + 1 ≤ k := HA.out.1.fM
        have keepB : ∀ k, k ≤ w.heap.size → k < (w5.alloc (.cells #[.int .i64 255] 3)).heap.size → wC.heap[k]? = (w5.alloc (.cells #[.int .i64 255] 3)).heap[k]? := fun k hk hk2 => hgrow2.block k hk2 (fun e => by have := hRne k e.symm; omega)
        have HF : Hid (ImgMid (w.heap.size + 1) (wC.setCell ⟨w.heap.size + 1, 1, none⟩ (.slice (some ⟨g2, 0, none⟩) (j + 1) cap2)) (w.heap.size + 1) (.slice (some ⟨g1, 0, none⟩) (j + 1) cap1) (.slice (some ⟨g2, 0, none⟩) (j + 1) cap2) (rawsTo S (j + 1)) (masksTo S (j + 1)) ∧ Row (wC.setCell ⟨w.heap.size + 1, 1, none⟩ (.slice (some ⟨g2, 0, none⟩) (j + 1) cap2)) w.heap.size 47 [.slice none 0 0, .slice none 0 0] ∧ Plate (wC.setCell ⟨w.heap.size + 1, 1, none⟩ (.slice (some ⟨g2, 0, none⟩) (j + 1) cap2)) F B (stA S (j + 1)) ∧ Touch F w (wC.setCell ⟨w.heap.size + 1, 1, none⟩ (.slice (some ⟨g2, 0, none⟩) (j + 1) cap2))) := by
          have hb := (Below.refl (w.heap.size + 1) (w5.alloc (.cells #[.int .i64 255] 3))).grown hgrow2 hsz5 fun k hk => hRne k hk
          refine ⟨?_, Row.off ((keepB _ (Nat.le_refl _) HA.out.2.1.lt).trans HA.out.2.1) (by omega) _ _, ?_, Touch.setCell ⟨HA.out.2.2.2.1.trans (hb.mono (Nat.zero_le _)), fun k hk hn => (hb.block k (by omega)).trans (HA.out.2.2.2.2 k hk hn)⟩ _ _ _ (.inr (by omega))⟩
          · rw [HJ.out.2.2.1, HJ.out.2.2.2.1]
            exact h6
          · rw [HJ.out.2.2.2.2]
            exact HA.out.2.2.1.keep fun k hk hf => (Below.heap_setCell wC ⟨w.heap.size + 1, 1, none⟩ _ k (by have := hlt k hf; show k ≠ w.heap.size + 1; omega)).trans (keepB k (by have := hlt k hf; omega) hk)
        clear HA hownD hnew hone hown2 hgrow2 hat2 hRne keepB c1 hsz5 h6 hw5 HW5
        go_wp2
        go_roundw
        case rel => exact ⟨j + 1, some ⟨g1, 0, none⟩, cap1, some ⟨g2, 0, none⟩, cap2, by omega, by go_num, HF.out⟩
        case measure => simp [intOf]; omega
    · obtain rfl : j = nb := by omega
      have j1 : ¬ (j : Int) < j := by omega
      have c0 : wr.cell? ⟨w.heap.size + 1, 0, none⟩ = some (.slice oa j ca) := him.row.cell 0
      have c1 : wr.cell? ⟨w.heap.size + 1, 1, none⟩ = some (.slice ob j cb) := him.row.cell 1
      have d0 : wr.cell? ⟨w.heap.size, 0, none⟩ = some (.slice none 0 0) := hres.cell 0
      have d1 : wr.cell? ⟨w.heap.size, 1, none⟩ = some (.slice none 0 0) := hres.cell 1
      have f0 := hres.frozen 0
      have f1 := hres.frozen 1
      have HF : Hid (ImgMid (w.heap.size + 1) wr (w.heap.size + 1) (.slice oa j ca) (.slice ob j cb) (rawsTo S j) (masksTo S j) ∧ Row wr w.heap.size 47 [.slice none 0 0, .slice none 0 0] ∧ Plate wr F B (stA S j) ∧ Touch F w wr) := ⟨him, hres, hpj, htj⟩
      clear him hres hpj htj
      have HG : Hid (((wr.setCell ⟨w.heap.size, 0, none⟩ (.slice oa j ca)).setCell ⟨w.heap.size, 1, none⟩ (.slice ob j cb)).heap[w.heap.size]? = some (.cells #[.slice oa j ca, .slice ob j cb] 47 (0, 0))) := (HF.out.2.1.setL 0 (.slice oa j ca)).setL 1 (.slice ob j cb)
      have hk2 : ∀ k, k ≠ w.heap.size → ((wr.setCell ⟨w.heap.size, 0, none⟩ (.slice oa j ca)).setCell ⟨w.heap.size, 1, none⟩ (.slice ob j cb)).heap[k]? = wr.heap[k]? := fun k hk => (Below.heap_setCell _ ⟨w.heap.size, 1, none⟩ _ k hk).trans (Below.heap_setCell _ ⟨w.heap.size, 0, none⟩ _ k hk)
      have HE : Hid ((∃ M, ImgMid w.heap.size ((wr.setCell ⟨w.heap.size, 0, none⟩ (.slice oa j ca)).setCell ⟨w.heap.size, 1, none⟩ (.slice ob j cb)) M (.slice oa j ca) (.slice ob j cb) (rawsTo S j) (masksTo S j)) ∧ Plate ((wr.setCell ⟨w.heap.size, 0, none⟩ (.slice oa j ca)).setCell ⟨w.heap.size, 1, none⟩ (.slice ob j cb)) F B (stA S j) ∧ Touch F w ((wr.setCell ⟨w.heap.size, 0, none⟩ (.slice oa j ca)).setCell ⟨w.heap.size, 1, none⟩ (.slice ob j cb))) := by
        refine ⟨⟨w.heap.size + 1, (HF.out.1.keep fun k hk _ => hk2 k (by omega)).low_mono (Nat.le_succ _)⟩, HF.out.2.2.1.keep fun k _ hf => hk2 k (by have := hlt k hf; omega), (HF.out.2.2.2.setCell _ _ _ (.inr (Nat.le_refl _))).setCell _ _ _ (.inr (Nat.le_refl _))⟩
      clear hk2
      go_wp2_with fail
      exact bodyPost_ret (v := .agg #[.slice oa j ca, .slice ob j cb]) (results_cell_row Tryz.results20 _ _ w.heap.size 47 _ (0, 0) _ rfl HG.out Tryz.underlying47 rfl (by kernel_rfl)) rfl ⟨_, _, _, _, rfl, HE.out⟩
end Go.Proofs.YtcmoagphbpjenaaGreatDoor

namespace Go.Proofs.YtcmoagphbpjenaaGreatDoor
set_option maxRecDepth 20000
open Go.RowKit

def Sound (S : PS) : Prop := (∀ p ∈ S.wait, p.2.size = 64) ∧ ∀ s ∈ S.kept, s.size = 0 ∨ s.size = 64
theorem Plate.sound {w : World} {F : Nat → Prop} {B : Nat} {S : PS} (hp : Plate w F B S) : Sound S := by
  obtain ⟨K, N, wv, h⟩ := hp
  exact ⟨fun p hp => (h.ats p hp).2, h.texts⟩
theorem readS_64 (S : PS) (hS : Sound S) (x : Int) (h : readE S x = 0) : (readS S x).size = 64 := by
  unfold readE at h
  unfold readS
  by_cases hu : S.up = true
  · rw [if_pos hu] at h ⊢
    by_cases hb : hasB S x = true
    · rw [if_pos hb] at h ⊢
      cases ht : textOf S.wait x.toNat with
      | some u => exact hS.1 (x.toNat, u) (List.mem_reverse.1 (textR_mem ht))
      | none =>
        rw [ht] at h
        have h2 : heldE S x = 0 := by simpa using h
        unfold heldE at h2
        rw [if_pos hb] at h2
        have h3 : ¬ (keptS S x).size = 0 := fun e => by rw [if_pos e] at h2; cases h2
        have hx := hasB_true hb
        have hm : keptS S x ∈ S.kept := by
          unfold keptS
          rw [List.getD_eq_getElem?_getD, List.getElem?_eq_getElem (by omega)]
          exact List.getElem_mem _
        have h4 := hS.2 _ hm
        show (heldS S x).size = 64
        unfold heldS
        rw [if_pos hb]
        omega
    · rw [if_neg hb] at h; cases h
  · rw [if_neg hu] at h; cases h
theorem readP_same (S : PS) (x : Int) : (readP S x).kept = S.kept ∧ (readP S x).wait = S.wait := by
  unfold readP
  split
  · split
    · exact ⟨rfl, rfl⟩
    · exact ⟨rfl, rfl⟩
  · exact ⟨rfl, rfl⟩
theorem Sound.read {S : PS} (h : Sound S) (x : Int) : Sound (readP S x) := by
  unfold Sound
  rw [(readP_same S x).1, (readP_same S x).2]
  exact h
theorem fill64_size : (fillS 0 64).size = 64 := by decide +kernel
theorem fill512_size : (fillS 0 512).size = 512 := by decide +kernel
theorem getGo_size (a : Nat) : ∀ (n j : Nat) (S : PS) (t : ByteArray) (m : Nat), Sound S → Sound (getGo a n j S t m).2 ∧ ((getGo a n j S t m).1.2.2 = 0 → (getGo a n j S t m).1.1.size = t.size + 64 * n)
  | 0, _, _, _, _, hS => ⟨hS, fun _ => rfl⟩
  | n + 1, j, S, t, m, hS => by
    unfold getGo
    split
    · rename_i h
      have h1 := getGo_size a n (j + 1) (readP S ((8 * a + j : Nat) : Int)) (t ++ readS S ((8 * a + j : Nat) : Int)) m (hS.read _)
      refine ⟨h1.1, fun h2 => ?_⟩
      rw [h1.2 h2, ByteArray.size_append, readS_64 S hS _ h]
      omega
    · split
      · have h1 := getGo_size a n (j + 1) (readP S ((8 * a + j : Nat) : Int)) (t ++ fillS 0 64) (m + 2 ^ j) (hS.read _)
        refine ⟨h1.1, fun h2 => ?_⟩
        rw [h1.2 h2, ByteArray.size_append, fill64_size]
        omega
      · rename_i h _
        exact ⟨hS.read _, fun h2 => absurd h2 h⟩
theorem bget_size (S : PS) (hS : Sound S) (a : Int) : Sound (bget S a).2 ∧ ((bget S a).1.2.2 = 0 → (bget S a).1.1.size = 512) := by
  unfold bget
  split
  · have h := getGo_size a.toNat 8 0 S ⟨#[]⟩ 0 hS
    exact ⟨h.1, fun h2 => h.2 h2⟩
  · exact ⟨hS, fun h => by cases h⟩
theorem stA_sound (S : PS) (hS : Sound S) : ∀ j, Sound (stA S j)
  | 0 => hS
  | j + 1 => (bget_size (stA S j) (stA_sound S hS j) _).1
theorem rawA_size (S : PS) (hS : Sound S) (j : Nat) : (rawA S j).size = 512 := by
  unfold rawA
  split
  · rename_i h; exact (bget_size (stA S j) (stA_sound S hS j) _).2 h
  · exact fill512_size
theorem rawsTo_get (S : PS) (n j : Nat) (h : j < n) : (rawsTo S n)[j]? = some (rawA S j) := by simp [rawsTo, h]
theorem masksTo_get (S : PS) (n j : Nat) (h : j < n) : (masksTo S n)[j]? = some (maskA S j) := by simp [masksTo, h]
theorem list1_of_owns {α : Type} {f : α → Value} {w : World} {e : TypeId} {v : Value} {l : List α} (h : w.ownsRow 0 e 1 v l.length (l.map f)) : List1 f w v l := by
  rcases h.2 with ⟨rfl, hn⟩ | ⟨g, cap, cur, rfl, _, hg, _⟩
  · exact .inl ⟨none, 0, rfl, List.length_eq_zero_iff.1 hn⟩
  · exact .inr ⟨g, 0, cap, rfl, lt_of_block hg, fun i x hx => by rw [Nat.zero_add]; exact owns_cell h (by rw [List.getElem?_map, hx]; rfl)⟩
/-- What is told of an address: within, and without. -/
theorem at_in (S : PS) (hS : Sound S) (n j : Nat) (h : j < n) : atS (rawsTo S n) (masksTo S n) (j : Nat) = rawA S j ∧ atM (rawsTo S n) (masksTo S n) (j : Nat) = maskA S j := by
  have h1 : (rawsTo S n).getD j ⟨#[]⟩ = rawA S j := by rw [List.getD_eq_getElem?_getD, rawsTo_get S n j h]; rfl
  have h2 : (masksTo S n).getD j 0 = maskA S j := by rw [List.getD_eq_getElem?_getD, masksTo_get S n j h]; rfl
  have hb : atB (rawsTo S n) (masksTo S n) (j : Nat) = true := decide_eq_true ⟨by omega, by rw [rawsTo_length]; omega, by rw [masksTo_length]; omega, by rw [Int.toNat_natCast, h1]; exact rawA_size S hS j⟩
  unfold atS atM
  rw [hb, Int.toNat_natCast, h1, h2]
  exact ⟨rfl, rfl⟩
theorem at_out (S : PS) (n : Nat) (a : Int) (h : a < 0 ∨ (n : Int) ≤ a) : atS (rawsTo S n) (masksTo S n) a = fillS 0 512 ∧ atM (rawsTo S n) (masksTo S n) a = 255 := by
  have hb : atB (rawsTo S n) (masksTo S n) a = false := decide_eq_false fun hh => by
    have := hh.2.1
    rw [rawsTo_length] at this
    have := hh.1
    omega
  unfold atS atM
  rw [hb]
  exact ⟨rfl, rfl⟩
/-- An image laid into a place of its own. -/
theorem ImgMid.laid {base : Nat} {w : World} {M : Nat} {rv mv : Value} {raws : List ByteArray} {masks : List Int} (h : ImgMid base w M rv mv raws masks) :
    ImgMid base (w.alloc (.cells #[rv, mv] 47)) w.heap.size rv mv raws masks ∧ Below w.heap.size w (w.alloc (.cells #[rv, mv] 47)) := by
  have hb : Below w.heap.size w (w.alloc (.cells #[rv, mv] 47)) := (Below.refl _ _).alloc (Nat.le_refl _) _
  have hr : Row (w.alloc (.cells #[rv, mv] 47)) w.heap.size 47 [rv, mv] := heap_alloc_new w _
  have hl := h.low
  have hlt := h.row.lt
  refine ⟨⟨hr, owns_keep h.raws fun g hg => hb.block g (owns_lt h.raws g hg), owns_keep h.masks fun g hg => hb.block g (owns_lt h.masks g hg), by omega, h.fR, h.fM, fun e => ?_, fun e => ?_, h.rm⟩, hb⟩
  · have := owns_lt h.raws _ e; omega
  · have := owns_lt h.masks _ e; omega
theorem ImgMid.views {base : Nat} {w : World} {M n : Nat} {oa ob : Option Addr} {ca cb : Nat} {raws : List ByteArray} {masks : List Int} (h : ImgMid base w M (.slice oa n ca) (.slice ob n cb) raws masks) (h1 : raws.length = n) (h2 : masks.length = n) : List1 Value.string w (.slice oa raws.length ca) raws ∧ List1 (Value.int .i64) w (.slice ob masks.length cb) masks := by
  refine ⟨?_, ?_⟩
  · rw [h1]; exact list1_of_owns h.raws
  · rw [h2]; exact list1_of_owns h.masks
end Go.Proofs.YtcmoagphbpjenaaGreatDoor

namespace Go.Proofs.YtcmoagphbpjenaaGreatDoor
set_option maxRecDepth 20000
open Go.RowKit

theorem fill_zero512 (wq : World) : (convert 31 9 (.slice (some ⟨wq.heap.size, 0, none⟩) 512 512)).run Tryz.prog (wq.alloc (.cells (madeCells #[.int .u8 0] 512) 5)) = .ok (.string (fillS 0 512)) (wq.alloc (.cells (madeCells #[.int .u8 0] 512) 5)) := by
  have hr : Row (wq.alloc (.cells (madeCells #[.int .u8 0] 512) 5)) wq.heap.size 5 (List.replicate 512 (.int .u8 0)) := made_row (heap_alloc_new wq _)
  exact run_convert_bytes_arg (P := Tryz.prog) _ 31 5 Tryz.underlying31 Tryz.underlying5 wq.heap.size 0 512 512 ((List.replicate 512 0).map fun (x : Nat) => (x : Int)) (by simp) (fun i hi => by
    have hi' : i < 512 := by simpa using hi
    rw [Nat.zero_add, hr.cell, fill_get 512 0 i hi', List.getElem?_replicate, if_pos hi']
    rfl) 9 Tryz.underlying9
theorem make_zero512 (wq : World) : (Instr.makeSlice 31 (.int .i64 512) (.int .i64 512)).run Tryz.prog wq = .ok (.slice (some ⟨wq.heap.size, 0, none⟩) 512 512) (wq.alloc (.cells (madeCells #[.int .u8 0] 512) 5)) := run_make_row' (P := Tryz.prog) 31 5 (.int .u8 0) 1 Tryz.underlying31 info_u8 rfl .i64 .i64 512 (by omega) (by omega) wq
set_option maxHeartbeats 8000000 in
theorem walk_blockAlls (n : Int) (v : Value) (l : List MarkV) (at_ : Int) (off : Bool) (w : World) (hv : MarkVs w v l ∧ ∀ x ∈ l, x.Ok) (hE : ErrT w) :
    Calls Tryz.prog 5 #[.int .i64 n, v, .int .i64 at_, .bool off] w fun e w' => e = .returned (.bool true) ∧ Below w.heap.size w w' := by
  by_cases hn : n < 0 ∨ 32768 < n
  · go_enter Tryz.func5, Tryz.ntmps5
    go_wp2_with fail
    refine (both_bad n hn v _).mono ?_
    rintro e w1 ⟨rfl, rfl⟩
    go_wp2_with fail
    refine (bawake_any _).mono ?_
    rintro e w3 ⟨rfl, hb3⟩
    go_wp2
    go_ret
    exact ⟨rfl, hb3⟩
  · obtain ⟨m, rfl⟩ : ∃ m : Nat, n = m := ⟨n.toNat, by omega⟩
    have hm : m ≤ 32768 := by omega
    have hf := both_any m hm v l w hv
    have hlt0 := lt_of_cell_ hE
    have HE : Hid (ErrT w) := hE
    clear hn hv hE
    go_enter Tryz.func5, Tryz.ntmps5
    go_wp2_with fail
    refine hf.mono ?_
    rintro e w1 ⟨⟨B1, B2, S, rfl, hpr, hwt, hkl⟩, hb1⟩
    have HP : Hid (Pr w.heap.size w1 B1 B2 S S ∧ Below w.heap.size w w1) := ⟨hpr, hb1⟩
    have hz1 := hb1.size
    clear hf hpr hb1 hkl
    by_cases h80 : 80 < m
    · have m1 : (80 : Int) < (m : Int) := by omega
      go_wp2_with fail
      refine (bawake_any _).mono ?_
      rintro e w5 ⟨rfl, hb5⟩
      have HB5 : Hid (Below w.heap.size w w5) := HP.out.2.trans (hb5.mono HP.out.2.size)
      clear hb5 HP
      go_wp2
      go_ret
      exact ⟨rfl, HB5.out⟩
    · have m1 : decide ((80 : Int) < (m : Int)) = false := decide_eq_false (by omega)
      have m2 : decide (80 < m) = false := decide_eq_false h80
      cases off
      case' false =>
        generalize w1 = wt at *
        generalize S = St at *
        have hwt2 : St.wait.length ≤ 1000 := by omega
        go_wp2_with fail
      case' true =>
        have hmk := make_zero
        have hcv := fill_zero
        have ha1 := HP.out.1.left (f := 8) (args := #[.pointer (some ⟨B1, 0, none⟩), .int .i64 0]) (R := fun e => e = .returned (.int .i64 (armE S 0))) hz1 fun F1 _ h => (arm_any B1 F1 S 0 (by decide) w1 h).mono fun _ _ ⟨he, h1, h2⟩ => ⟨he, plate_grow h1, h2⟩
        generalize armE S 0 = ae at *
        go_wp2_with fail
        refine ha1.mono ?_
        rintro e w2 ⟨rfl, hp2, hb2⟩
        have hz2 := hb2.size
        have HB2 : Hid (Below w.heap.size w w2) := HP.out.2.trans hb2
        have ha2 := hp2.right (f := 9) (args := #[.pointer (some ⟨B2, 0, none⟩), .int .i64 0]) (R := fun e => e = .returned (.int .i64 (armE S 0))) (by omega) fun F1 h => (rarm_any B2 F1 S 0 (by decide) w2 h).mono fun _ _ ⟨he, h1, h2⟩ => ⟨he, ref_grow h1, h2⟩
        generalize armE S 0 = ae2 at *
        clear ha1 hp2 hb2 HP
        go_wp2_with fail
        refine ha2.mono ?_
        rintro e w3 ⟨rfl, hp3, hb3⟩
        have hz3 := hb3.size
        have HB3 : Hid (Below w.heap.size w w3) := HB2.out.trans hb3
        have hwa : (armP S 0).wait.length ≤ 41 := by rw [(armP_wait S 0).1]; omega
        obtain ⟨S3, hS3⟩ : ∃ S3, S3 = armP S 0 := ⟨_, rfl⟩
        rw [← hS3] at hp3 hwa
        have hA : Below w3.heap.size w3 (w3.alloc (.cells (madeCells #[.int .u8 0] 64) 5)) := (Below.refl _ _).alloc (Nat.le_refl _) _
        have hp3' := hp3.below hA
        have HB3' : Hid (Below w.heap.size w (w3.alloc (.cells (madeCells #[.int .u8 0] 64) 5))) := HB3.out.trans (hA.mono (by omega))
        have hw1 := hp3'.left (f := 10) (args := #[.pointer (some ⟨B1, 0, none⟩), .int .i64 0, .string (fillS 0 64)]) (R := fun e => e = .returned (.int .i64 (writeE S3 0 (fillS 0 64)))) (by have := HB3'.out.size; omega) fun F1 _ h => write_any B1 F1 S3 0 (fillS 0 64) _ h (by omega)
        generalize writeE S3 0 (fillS 0 64) = we at *
        have HFS : Hid ((writeP S3 0 (fillS 0 64)).wait.length ≤ 1000) := by have := (writeP_wait S3 0 (fillS 0 64)).1; show _ ≤ _; omega
        clear ha2 hp3 hb3 hA hp3' hS3
        obtain ⟨z64, hz64⟩ : ∃ z, z = fillS 0 64 := ⟨_, rfl⟩
        have HZ : Hid (z64 = fillS 0 64) := hz64
        rw [← hz64] at hw1 HFS
        simp only [← hz64] at hcv
        clear hz64
        go_wp2_with fail
        refine hw1.mono ?_
        rintro e w4 ⟨rfl, hp4, hb4⟩
        have hz4 := hb4.size
        have HB4 : Hid (Below w.heap.size w w4) := HB3'.out.trans hb4
        have hA : Below w4.heap.size w4 (w4.alloc (.cells (madeCells #[.int .u8 0] 64) 5)) := (Below.refl _ _).alloc (Nat.le_refl _) _
        have hp4' := hp4.below hA
        have HB4' : Hid (Below w.heap.size w (w4.alloc (.cells (madeCells #[.int .u8 0] 64) 5))) := HB4.out.trans (hA.mono HB4.out.size)
        have hw2 := hp4'.right (f := 11) (args := #[.pointer (some ⟨B2, 0, none⟩), .int .i64 0, .string z64]) (R := fun e => e = .returned (.int .i64 (writeE S3 0 z64))) (by have := HB4'.out.size; omega) fun F1 h => rwrite_any B2 F1 S3 0 z64 _ h (by omega)
        generalize writeE S3 0 z64 = we2 at *
        clear hw1 hp4 hb4 hA hp4'
        go_wp2_with fail
        refine hw2.mono ?_
        rintro e wt ⟨rfl, hp5, hb5⟩
        obtain ⟨St, hSt⟩ : ∃ St, St = writeP S3 0 z64 := ⟨_, rfl⟩
        rw [← hSt] at hp5 HFS
        have HP : Hid (Pr w.heap.size wt B1 B2 St St ∧ Below w.heap.size w wt) := ⟨hp5, HB4'.out.trans hb5⟩
        have hz1 := HP.out.2.size
        have hwt2 : St.wait.length ≤ 1000 := HFS.out
        clear hw2 hp5 hb5 hSt hmk hcv HB2 HB3 HB3' HB4 HB4' hz2 hz3 hz4 hwa HFS
        go_wp2_with fail
      all_goals
        obtain ⟨F1, F2, q1, q2, s1, s2, dj, sz⟩ := HP.out.1
        have hsnd := q1.sound
        have hal := all_any B1 F1 St wt q1 (by omega) (HE.out.below HP.out.2 hlt0) (fun hh => by have := s1 _ hh; omega) (fun k hk => sz k (.inl hk))
        obtain ⟨nb, hnb⟩ : ∃ nb, nb = St.kept.length / 8 := ⟨_, rfl⟩
        rw [← hnb] at hal
        refine hal.mono ?_
        rintro e wa ⟨oa, ca, ob, cb, rfl, ⟨M, him⟩, _, hta⟩
        have HBa : Hid (Below w.heap.size w wa) := HP.out.2.trans (hta.below hz1 s1)
        have q2a : RefP wa F2 B2 St := q2.keep fun k hk hf => hta.2 k hk fun h1 => dj k h1 hf
        have hF2 : ∀ k, F2 k → k < wt.heap.size := fun k hk => sz k (.inr hk)
        have hba : wt.heap.size ≤ wa.heap.size := hta.1.size
        have HS2 : Hid (∀ k, F2 k → w.heap.size ≤ k) := s2
        obtain ⟨him2, hb2⟩ := him.laid
        have hz := zero_image
        obtain ⟨w2, hw2⟩ : ∃ w2, wa.alloc (.cells #[.slice oa nb ca, .slice ob nb cb] 47) = w2 := ⟨_, rfl⟩
        rw [hw2] at him2 hb2
        have q22 : RefP w2 F2 B2 St := q2a.keep fun k hk _ => hb2.block k hk
        obtain ⟨oq, cq, k0, hkm⟩ := q22.c0
        have c0 : w2.cell? ⟨wa.heap.size, 0, none⟩ = some (.slice oa nb ca) := him2.row.cell 0
        have c1 : w2.cell? ⟨wa.heap.size, 1, none⟩ = some (.slice ob nb cb) := him2.row.cell 1
        have HI : Hid (ImgMid wt.heap.size w2 wa.heap.size (.slice oa nb ca) (.slice ob nb cb) (rawsTo St nb) (masksTo St nb) ∧ RefP w2 F2 B2 St ∧ Below w.heap.size w w2) := ⟨him2, q22, HBa.out.trans (hb2.mono HBa.out.size)⟩
        obtain ⟨kl, hkl⟩ : ∃ kl, kl = St.kept.length := ⟨_, rfl⟩
        rw [← hkl] at k0 hnb hkm
        have d8 : (kl : Int) / 8 = (nb : Int) := by omega
        have hnb2 : nb ≤ 4096 := by omega
        have HW2 : Hid (wa.alloc (.cells #[.slice oa nb ca, .slice ob nb cb] 47) = w2) := hw2
        clear hal him hta q1 q2 q2a s1 s2 dj sz him2 hb2 q22 HP HBa hkl hnb hw2
        go_wp2_with fail
        rw [HW2.out]
        clear HW2 hz
        go_quiet (fail)
        clear k0 d8 hkm
        go_wp2_with fail
        go_loopw [12] (fun iv wr => ∃ j : Nat, j ≤ nb ∧ iv = .int .i64 (j : Int) ∧ ImgMid wt.heap.size wr wa.heap.size (.slice oa nb ca) (.slice ob nb cb) (rawsTo St nb) (masksTo St nb) ∧ RefP wr F2 B2 (stA St j) ∧ Below w.heap.size w wr) (fun iv _ => nb - (intOf iv).toNat)
        case atStart => exact ⟨0, Nat.zero_le _, rfl, HI.out.1.keep fun _ _ _ => rfl, HI.out.2.1.keep fun _ _ _ => rfl, HI.out.2.2.trans ⟨rfl, rfl, rfl, Nat.le_refl _, fun _ _ => rfl⟩⟩
        case round =>
          clear HI c0 c1
          obtain ⟨j, hj, rfl, him, hrf, hbj⟩ := hrel
          have c0 : wr.cell? ⟨wa.heap.size, 0, none⟩ = some (.slice oa nb ca) := him.row.cell 0
          have c1 : wr.cell? ⟨wa.heap.size, 1, none⟩ = some (.slice ob nb cb) := him.row.cell 1
          by_cases hjl : j < nb
          · have j1 : (j : Int) < (nb : Nat) := by omega
            have j2 : decide (nb ≤ j) = false := decide_eq_false (by omega)
            have hgt := rbget_any B2 F2 (stA St j) ((j : Nat) : Int) wr hrf (by rw [(stA_keeps St j).1]; omega)
            have hra : rawA St j = if (bget (stA St j) ((j : Nat) : Int)).1.2.2 = 0 then (bget (stA St j) ((j : Nat) : Int)).1.1 else fillS 0 512 := rfl
            have hma : maskA St j = if (bget (stA St j) ((j : Nat) : Int)).1.2.2 = 0 then (((bget (stA St j) ((j : Nat) : Int)).1.2.1 : Nat) : Int) else 255 := rfl
            have hJ5 : stA St (j + 1) = (bget (stA St j) ((j : Nat) : Int)).2 := rfl
            have hg1 := rawsTo_get St nb j hjl
            have hg2 := masksTo_get St nb j hjl
            have HL : Hid ((rawsTo St nb).length = nb ∧ (masksTo St nb).length = nb) := ⟨rawsTo_length St nb, masksTo_length St nb⟩
            generalize (bget (stA St j) ((j : Nat) : Int)).1.1 = t at *
            generalize (bget (stA St j) ((j : Nat) : Int)).1.2.1 = mk at *
            generalize (bget (stA St j) ((j : Nat) : Int)).1.2.2 = er at *
            generalize (bget (stA St j) ((j : Nat) : Int)).2 = Sk at *
            have HM : Hid (ImgMid wt.heap.size wr wa.heap.size (.slice oa nb ca) (.slice ob nb cb) (rawsTo St nb) (masksTo St nb) ∧ Below w.heap.size w wr ∧ stA St (j + 1) = Sk) := ⟨him, hbj, hJ5⟩
            clear him hrf hbj hJ5
            go_wp2_with fail
            refine hgt.mono ?_
            rintro e w4 ⟨rfl, p4, t4⟩
            have h4 := HM.out.1.keep (w' := w4) fun k hk hk2 => t4.2 k hk2 fun hf => by have := hF2 k hf; omega
            have hv := h4.views HL.out.1 HL.out.2
            rw [HL.out.1] at hv
            have hv2 := hv.2
            rw [HL.out.2] at hv2
            obtain ⟨g, o, hoa, hgl, hx⟩ : ∃ g o, oa = some ⟨g, o, none⟩ ∧ g < w4.heap.size ∧ ∀ i x, (rawsTo St nb)[i]? = some x → w4.cell? ⟨g, o + i, none⟩ = some (.string x) := List1.get (l := rawsTo St nb) (cap := ca) (by rw [HL.out.1]; exact hv.1) (i := j) (by rw [HL.out.1]; exact hjl)
            obtain ⟨g2, o2, hob, hgl2, hy⟩ : ∃ g o, ob = some ⟨g, o, none⟩ ∧ g < w4.heap.size ∧ ∀ i x, (masksTo St nb)[i]? = some x → w4.cell? ⟨g, o + i, none⟩ = some (.int .i64 x) := List1.get (l := masksTo St nb) (cap := cb) (by rw [HL.out.2]; exact hv2) (i := j) (by rw [HL.out.2]; exact hjl)
            have d0 := hx j _ hg1
            have d1 := hy j _ hg2
            have c0 : w4.cell? ⟨wa.heap.size, 0, none⟩ = some (.slice oa nb ca) := h4.row.cell 0
            have c1 : w4.cell? ⟨wa.heap.size, 1, none⟩ = some (.slice ob nb cb) := h4.row.cell 1
            have hwl : wa.heap.size < w4.heap.size := h4.row.lt
            subst hoa hob
            have H4 : Hid (ImgMid wt.heap.size w4 wa.heap.size (.slice (some ⟨g, o, none⟩) nb ca) (.slice (some ⟨g2, o2, none⟩) nb cb) (rawsTo St nb) (masksTo St nb) ∧ RefP w4 F2 B2 (stA St (j + 1)) ∧ Below w.heap.size w w4) := ⟨h4, by rw [HM.out.2.2]; exact p4, HM.out.2.1.trans (t4.below HM.out.2.1.size HS2.out)⟩
            clear hgt t4 p4 h4 hv hv2 hx hy hg1 hg2 HM HL
            by_cases he : er = 0
            · rw [if_pos he] at hra hma
              rw [hra] at d0
              rw [hma] at d1
              subst he
              clear hra hma
              have hct := text_is t
              go_wp2
              go_roundw
              case rel => exact ⟨j + 1, by omega, by go_num, H4.out⟩
              case measure => simp [intOf]; omega
            · rw [if_neg he] at hra hma
              rw [hra] at d0
              rw [hma] at d1
              have hez : (er == 0) = false := by simp [he]
              have hmk := make_zero512
              have hcv := fill_zero512
              generalize fillS 0 512 = zz at *
              have hct := text_is zz
              have HF : Hid (ImgMid wt.heap.size (w4.alloc (.cells (madeCells #[.int .u8 0] 512) 5)) wa.heap.size (.slice (some ⟨g, o, none⟩) nb ca) (.slice (some ⟨g2, o2, none⟩) nb cb) (rawsTo St nb) (masksTo St nb) ∧ RefP (w4.alloc (.cells (madeCells #[.int .u8 0] 512) 5)) F2 B2 (stA St (j + 1)) ∧ Below w.heap.size w (w4.alloc (.cells (madeCells #[.int .u8 0] 512) 5))) := by
                have hA : Below w4.heap.size w4 (w4.alloc (.cells (madeCells #[.int .u8 0] 512) 5)) := (Below.refl _ _).alloc (Nat.le_refl _) _
                exact ⟨H4.out.1.keep fun k _ hk => hA.block k hk, H4.out.2.1.keep fun k hk _ => hA.block k hk, H4.out.2.2.trans (hA.mono H4.out.2.2.size)⟩
              clear hra hma H4 he
              go_wp2
              go_roundw
              case rel => exact ⟨j + 1, by omega, by go_num, HF.out⟩
              case measure => simp [intOf]; omega
          · obtain rfl : j = nb := by omega
            have j1 : ¬ (j : Int) < j := by omega
            have hv := him.views (rawsTo_length St j) (masksTo_length St j)
            have hat := at_any wr oa ob ca cb (rawsTo St j) (masksTo St j) at_ hv.1 hv.2
            rw [rawsTo_length, masksTo_length] at hat
            have HX : Hid (ImgMid wt.heap.size wr wa.heap.size (.slice oa j ca) (.slice ob j cb) (rawsTo St j) (masksTo St j) ∧ Below w.heap.size w wr) := ⟨him, hbj⟩
            clear hrf hbj him hv
            by_cases hout : at_ < 0 ∨ (j : Int) ≤ at_
            · have ho := at_out St j at_ hout
              rw [ho.1, ho.2] at hat
              clear ho
              have hmk := make_zero512
              have hcv := fill_zero512
              generalize fillS 0 512 = zz at *
              have hct := text_is zz
              by_cases hneg : at_ < 0
              · clear hout
                go_wp2_with fail
                refine hat.mono ?_
                rintro e w5 ⟨rfl, hb5⟩
                have c0 : w5.cell? ⟨wa.heap.size, 0, none⟩ = some (.slice oa j ca) := (hb5.cell (p := ⟨wa.heap.size, 0, none⟩) HX.out.1.row.lt).trans c0
                have HB5 : Hid (Below w.heap.size w (w5.alloc (.cells (madeCells #[.int .u8 0] 512) 5))) := by
                  have hb : Below w.heap.size w w5 := HX.out.2.trans (hb5.mono HX.out.2.size)
                  exact hb.alloc hb.size _
                clear hb5 hat HX
                go_wp2_with fail
                refine (bawake_any _).mono ?_
                rintro e w6 ⟨rfl, hb6⟩
                have HF : Hid (Below w.heap.size w w6) := HB5.out.trans (hb6.mono HB5.out.size)
                clear hb6 HB5
                go_wp2
                go_ret
                exact ⟨rfl, HF.out⟩
              · have n0 : decide (at_ < 0) = false := decide_eq_false hneg
                have n1 : (j : Int) ≤ at_ := by omega
                clear hout
                go_wp2_with fail
                refine hat.mono ?_
                rintro e w5 ⟨rfl, hb5⟩
                have c0 : w5.cell? ⟨wa.heap.size, 0, none⟩ = some (.slice oa j ca) := (hb5.cell (p := ⟨wa.heap.size, 0, none⟩) HX.out.1.row.lt).trans c0
                have HB5 : Hid (Below w.heap.size w (w5.alloc (.cells (madeCells #[.int .u8 0] 512) 5))) := by
                  have hb : Below w.heap.size w w5 := HX.out.2.trans (hb5.mono HX.out.2.size)
                  exact hb.alloc hb.size _
                clear hb5 hat HX
                go_wp2_with fail
                refine (bawake_any _).mono ?_
                rintro e w6 ⟨rfl, hb6⟩
                have HF : Hid (Below w.heap.size w w6) := HB5.out.trans (hb6.mono HB5.out.size)
                clear hb6 HB5
                go_wp2
                go_ret
                exact ⟨rfl, HF.out⟩
            · obtain ⟨i, rfl⟩ : ∃ i : Nat, at_ = i := ⟨at_.toNat, by omega⟩
              have hij : i < j := by omega
              have ho := at_in St hsnd j i hij
              rw [ho.1, ho.2] at hat
              have HG : Hid ((rawsTo St j)[i]? = some (rawA St i) ∧ (masksTo St j)[i]? = some (maskA St i)) := ⟨rawsTo_get St j i hij, masksTo_get St j i hij⟩
              generalize rawA St i = ra at *
              generalize maskA St i = ma at *
              have n1 : decide (j ≤ i) = false := decide_eq_false (by omega)
              have i1 : (i : Int) < (j : Nat) := by omega
              have hct := text_is ra
              clear ho hout
              go_wp2_with fail
              refine hat.mono ?_
              rintro e w5 ⟨rfl, hb5⟩
              have h5 := HX.out.1.keep (w' := w5) fun k _ hk => hb5.block k hk
              have HB5 : Hid (Below w.heap.size w w5) := HX.out.2.trans (hb5.mono HX.out.2.size)
              have hv := h5.views (rawsTo_length St j) (masksTo_length St j)
              obtain ⟨g, o, hoa, hgl, hx⟩ := hv.1.get (i := i) (by rw [rawsTo_length]; exact hij)
              obtain ⟨g2, o2, hob, hgl2, hy⟩ := hv.2.get (i := i) (by rw [masksTo_length]; exact hij)
              have d0 := hx i _ HG.out.1
              have d1 := hy i _ HG.out.2
              have c0 : w5.cell? ⟨wa.heap.size, 0, none⟩ = some (.slice oa j ca) := h5.row.cell 0
              have c1 : w5.cell? ⟨wa.heap.size, 1, none⟩ = some (.slice ob j cb) := h5.row.cell 1
              subst hoa hob
              clear hb5 hat HX h5 hv hx hy HG
              go_wp2_with fail
              refine (bawake_any _).mono ?_
              rintro e w6 ⟨rfl, hb6⟩
              have HF : Hid (Below w.heap.size w w6) := HB5.out.trans (hb6.mono HB5.out.size)
              clear hb6 HB5
              go_wp2
              go_ret
              exact ⟨rfl, HF.out⟩
end Go.Proofs.YtcmoagphbpjenaaGreatDoor
