/- The law VaultReals, over what sum and box tell: called with any texts, number and script, it returns true, and changes nothing that was there. · The document's low and right: a number's word; a word turned to the right; and its 64 numbers k. -/
import Derived.Test.YtfmaajfohieneaaGreatDoorMg33
import Derived.Test.YtfmaajfohieneaaGreatDoorMg34
import Derived.Test.YtfmaajfohieneaaGreatDoorMg07
import Derived.Test.YtfmaajfohieneaaGreatDoorMg10
import Derived.WalkKit
import Derived.Laws.BitsAllLaws
import Derived.Laws.BitsLemmas
namespace Go.Proofs.YtfmaajfohieneaaGreatDoor
set_option maxRecDepth 20000
open Go.RowKit

theorem after_alloc {w W : World} {o : Obj} (h : Below (w.alloc o).heap.size (w.alloc o) W) : W.heap[w.heap.size]? = some o ∧ Below w.heap.size w W := by
  have e : (w.alloc o).heap.size = w.heap.size + 1 := by simp
  refine ⟨(h.block w.heap.size (by omega)).trans (heap_map_new w o), ((Below.refl w.heap.size w).alloc (Nat.le_refl _) o).trans (h.mono (by omega))⟩
theorem below_drew {w W : World} (h : Below w.drew.heap.size w.drew W) : Below w.heap.size w W := (Below.refl _ _).drew.trans h

set_option maxHeartbeats 1000000 in
theorem step_real {Tab : World → Prop} {f : PF} (P : Prims Tab f) (Q : RPrims f) (hdr : ∀ w, Tab w → Tab w.drew) (B1 B2 : Nat) (key : ByteArray) (hk : key.size = 32) (x : OpV) (hx : x.Ok) (w : World) (ht : Tab w) (h1 : RealV w B1 key) (h2 : RefR w B2 key) :
    Calls Tryz.prog 8 #[.pointer (some ⟨B1, 0, none⟩), .pointer (some ⟨B2, 0, none⟩), .agg x.cells.toArray] w fun e w' => e = .returned (.bool true) ∧ Below w.heap.size w w' := by
  have z6 : ∀ s, (cutI s 600).size ≤ 600 := fun s => cutI_size s 600
  have z1 : ∀ s, (cutI s 100).size ≤ 100 := fun s => cutI_size s 100
  have z4 : ∀ s, (cutI s 40).size ≤ 40 := fun s => cutI_size s 40
  have hk2 : key.size ≤ 1048576 := by omega
  obtain ⟨k, z, n, l, t, g⟩ := x
  have hg : g.size ≤ maxLen := len_ok hx.tag
  have q6 := z6 t
  have q1 := z1 l
  have q4 := z4 g
  have size5 : (cutI t 600 ++ cutI g 40).size ≤ 1048576 := by rw [ByteArray.size_append]; omega
  have hb : ∀ o : Obj, Below w.heap.size w (w.alloc o) := fun o => (Below.refl w.heap.size w).alloc (Nat.le_refl _) o
  simp only [OpV.cells]
  by_cases k1 : k = 1
  · subst k1
    have hT := P.tab ht (hb (.cells #[.int .i64 1, .int .i64 z, .string n, .string l, .string t, .string g] 34))
    have hR := h1.below (hb (.cells #[.int .i64 1, .int .i64 z, .string n, .string l, .string t, .string g] 34))
    have hF := h2.keep (hb (.cells #[.int .i64 1, .int .i64 z, .string n, .string l, .string t, .string g] 34))
    refine (step_k1 B1 B2 z n l t g w (f.sum (cutI t 600)) (fun W => Below (w.alloc (.cells #[.int .i64 1, .int .i64 z, .string n, .string l, .string t, .string g] 34)).heap.size (w.alloc (.cells #[.int .i64 1, .int .i64 z, .string n, .string l, .string t, .string g] 34)) W) (fun W => Below (w.alloc (.cells #[.int .i64 1, .int .i64 z, .string n, .string l, .string t, .string g] 34)).heap.size (w.alloc (.cells #[.int .i64 1, .int .i64 z, .string n, .string l, .string t, .string g] 34)) W) (rvhash_any P B1 key (cutI t 600) (by omega) _ hT hR) (fun W hM => (rrhash_any Q B2 key (cutI t 600) (by omega) W (hF.keep hM)).mono fun e w' ⟨he, hB⟩ => ⟨he, hM.trans (hB.mono hM.size)⟩)).mono fun e w' ⟨he, hB⟩ => ⟨he, (after_alloc hB).2⟩
  by_cases k2 : k = 2
  · subst k2
    have hT := P.tab ht (hb (.cells #[.int .i64 2, .int .i64 z, .string n, .string l, .string t, .string g] 34))
    have hR := h1.below (hb (.cells #[.int .i64 2, .int .i64 z, .string n, .string l, .string t, .string g] 34))
    have hF := h2.keep (hb (.cells #[.int .i64 2, .int .i64 z, .string n, .string l, .string t, .string g] 34))
    refine (step_k2 B1 B2 z n l t g w (macR f key (cutI l 100) (cutI t 600)) (fun W => Below (w.alloc (.cells #[.int .i64 2, .int .i64 z, .string n, .string l, .string t, .string g] 34)).heap.size (w.alloc (.cells #[.int .i64 2, .int .i64 z, .string n, .string l, .string t, .string g] 34)) W) (fun W => Below (w.alloc (.cells #[.int .i64 2, .int .i64 z, .string n, .string l, .string t, .string g] 34)).heap.size (w.alloc (.cells #[.int .i64 2, .int .i64 z, .string n, .string l, .string t, .string g] 34)) W) (rvmac_any P B1 key (cutI l 100) (cutI t 600) hk2 (by omega) (by omega) _ hT hR) (fun W hM => (rrmac_any Q B2 key (cutI l 100) (cutI t 600) hk2 (by omega) (by omega) W (hF.keep hM)).mono fun e w' ⟨he, hB⟩ => ⟨he, hM.trans (hB.mono hM.size)⟩)).mono fun e w' ⟨he, hB⟩ => ⟨he, (after_alloc hB).2⟩
  by_cases k3 : k = 3
  · subst k3
    have hT := P.tab ht (hb (.cells #[.int .i64 3, .int .i64 z, .string n, .string l, .string t, .string g] 34))
    have hR := h1.below (hb (.cells #[.int .i64 3, .int .i64 z, .string n, .string l, .string t, .string g] 34))
    have hF := h2.keep (hb (.cells #[.int .i64 3, .int .i64 z, .string n, .string l, .string t, .string g] 34))
    refine (step_k3 B1 B2 z n l t g w (decide (g = macR f key (cutI l 100) (cutI t 600))) (fun W => Below (w.alloc (.cells #[.int .i64 3, .int .i64 z, .string n, .string l, .string t, .string g] 34)).heap.size (w.alloc (.cells #[.int .i64 3, .int .i64 z, .string n, .string l, .string t, .string g] 34)) W) (fun W => Below (w.alloc (.cells #[.int .i64 3, .int .i64 z, .string n, .string l, .string t, .string g] 34)).heap.size (w.alloc (.cells #[.int .i64 3, .int .i64 z, .string n, .string l, .string t, .string g] 34)) W) ((rvmade_any P B1 key (cutI l 100) (cutI t 600) g hk2 (by omega) (by omega) hg _ (hdr _ hT) (hR.below (Below.refl _ _).drew)).mono fun e w' ⟨he, hB⟩ => ⟨he, below_drew hB⟩) (fun W hM => (rrmade_any Q B2 key (cutI l 100) (cutI t 600) g hk2 (by omega) (by omega) W (hF.keep hM)).mono fun e w' ⟨he, hB⟩ => ⟨he, hM.trans (hB.mono hM.size)⟩) (fun W hM => (after_alloc hM).1) (fun W hM => (after_alloc hM).1)).mono fun e w' ⟨he, hB⟩ => ⟨he, (after_alloc hB).2⟩
  by_cases k4 : k = 4
  · subst k4
    have hT := P.tab ht (hb (.cells #[.int .i64 4, .int .i64 z, .string n, .string l, .string t, .string g] 34))
    have hR := h1.below (hb (.cells #[.int .i64 4, .int .i64 z, .string n, .string l, .string t, .string g] 34))
    have hF := h2.keep (hb (.cells #[.int .i64 4, .int .i64 z, .string n, .string l, .string t, .string g] 34))
    refine (step_k4 B1 B2 z n l t g w (sealRS f key z n (cutI l 100) (cutI t 600)) (sealRE f key z n) (fun W => Below (w.alloc (.cells #[.int .i64 4, .int .i64 z, .string n, .string l, .string t, .string g] 34)).heap.size (w.alloc (.cells #[.int .i64 4, .int .i64 z, .string n, .string l, .string t, .string g] 34)) W) (fun W => Below (w.alloc (.cells #[.int .i64 4, .int .i64 z, .string n, .string l, .string t, .string g] 34)).heap.size (w.alloc (.cells #[.int .i64 4, .int .i64 z, .string n, .string l, .string t, .string g] 34)) W) (rvseal_any P B1 key z n (cutI l 100) (cutI t 600) hk2 (by omega) (by omega) _ hT hR) (fun W hM => (rrseal_any Q B2 key z n (cutI l 100) (cutI t 600) hk2 (by omega) (by omega) W (hF.keep hM)).mono fun e w' ⟨he, hB⟩ => ⟨he, hM.trans (hB.mono hM.size)⟩) (fun W hM => (after_alloc hM).1)).mono fun e w' ⟨he, hB⟩ => ⟨he, (after_alloc hB).2⟩
  by_cases k5 : k = 5
  · subst k5
    have hT := P.tab ht (hb (.cells #[.int .i64 5, .int .i64 z, .string n, .string l, .string t, .string g] 34))
    have hR := h1.below (hb (.cells #[.int .i64 5, .int .i64 z, .string n, .string l, .string t, .string g] 34))
    have hF := h2.keep (hb (.cells #[.int .i64 5, .int .i64 z, .string n, .string l, .string t, .string g] 34))
    refine (step_k5 B1 B2 z n l t g w (openRS f key z n (cutI l 100) (cutI t 600 ++ cutI g 40)) (openRE f key z n (cutI l 100) (cutI t 600 ++ cutI g 40)) (fun W => Below (w.alloc (.cells #[.int .i64 5, .int .i64 z, .string n, .string l, .string t, .string g] 34)).heap.size (w.alloc (.cells #[.int .i64 5, .int .i64 z, .string n, .string l, .string t, .string g] 34)) W) (fun W => Below (w.alloc (.cells #[.int .i64 5, .int .i64 z, .string n, .string l, .string t, .string g] 34)).heap.size (w.alloc (.cells #[.int .i64 5, .int .i64 z, .string n, .string l, .string t, .string g] 34)) W) (rvopen_any P B1 key z n (cutI l 100) (cutI t 600 ++ cutI g 40) hk2 (by omega) size5 _ hT hR) (fun W hM => (rropen_any Q B2 key z n (cutI l 100) (cutI t 600 ++ cutI g 40) hk2 (by omega) size5 W (hF.keep hM)).mono fun e w' ⟨he, hB⟩ => ⟨he, hM.trans (hB.mono hM.size)⟩) (fun W hM => (after_alloc hM).1)).mono fun e w' ⟨he, hB⟩ => ⟨he, (after_alloc hB).2⟩
  exact step_k0 B1 B2 k z n l t g w (by omega)

set_option maxRecDepth 100000 in
set_option maxHeartbeats 4000000 in
theorem walk_vaultReals_gen {Tab : World → Prop} {f : PF} (P : Prims Tab f) (Q : RPrims f) (hdr : ∀ w, Tab w → Tab w.drew)
    (hst : ∀ (pass salt : ByteArray) (rounds : Int), pass.size ≤ 100 → salt.size ≤ 100 → ∃ (X : ByteArray) (c : Int), (c = 0 → X.size = 32) ∧ (∀ w, Tab w → Calls Tryz.prog 9 #[.string pass, .string salt, .int .i64 rounds, .int .i64 32] w fun e w' => e = .returned (.tuple #[.string X, .int .i64 c]) ∧ Below w.heap.size w w') ∧ ∀ w, Calls Tryz.prog 10 #[.string pass, .string salt, .int .i64 rounds, .int .i64 32] w fun e w' => e = .returned (.tuple #[.string X, .int .i64 c]) ∧ Below w.heap.size w w')
    (pass salt : ByteArray) (rounds : Int) (v3 : Value) (l : List OpV) (w : World) (ht : Tab w) (hl : OpsV w v3 l) :
    Calls Tryz.prog 3 #[.string pass, .string salt, .int .i64 rounds, v3] w fun e w' => e = .returned (.bool true) ∧ Below w.heap.size w w' := by
  obtain ⟨oa, ca, rfl⟩ := hl.form
  have HOK : Hid (∀ x ∈ l, x.Ok) := hl.1
  have HL : Hid (OpsV w (.slice oa l.length ca) l) := hl
  clear hl
  obtain ⟨J, hJ, hcase⟩ : ∃ J, (J ≤ l.length ∧ J ≤ 6) ∧ ((¬ (J : Int) < (l.length : Nat)) ∨ ((J : Int) < (l.length : Nat) ∧ ¬ (J : Int) < 6)) := ⟨min l.length 6, by omega, by omega⟩
  have HOP : Hid (∀ j, j < J → (∃ g o, oa = some ⟨g, o, none⟩ ∧ g < w.heap.size ∧ OpVAt w g (o + j * 6) (l.getD j default)) ∧ (l.getD j default).Ok) := fun j hj => by
    obtain ⟨g, o, e, hg, hx⟩ := HL.out.get (by omega)
    rw [List.getD_eq_getElem?_getD, List.getElem?_eq_getElem (by omega)]
    exact ⟨⟨g, o, e, hg, hx j _ (List.getElem?_eq_getElem (by omega))⟩, HOK.out _ (List.getElem_mem _)⟩
  clear HL HOK
  have hc1 := fun W => cutI_any pass 100 (by decide) W
  have hc2 := fun W => cutI_any salt 100 (by decide) W
  have z1 : (cutI pass 100).size ≤ 100 := cutI_size pass 100
  have z2 : (cutI salt 100).size ≤ 100 := cutI_size salt 100
  have HST : Hid (∀ r : Int, ∃ (X : ByteArray) (c : Int), (c = 0 → X.size = 32) ∧ (∀ w, Tab w → Calls Tryz.prog 9 #[.string (cutI pass 100), .string (cutI salt 100), .int .i64 r, .int .i64 32] w fun e w' => e = .returned (.tuple #[.string X, .int .i64 c]) ∧ Below w.heap.size w w') ∧ ∀ w, Calls Tryz.prog 10 #[.string (cutI pass 100), .string (cutI salt 100), .int .i64 r, .int .i64 32] w fun e w' => e = .returned (.tuple #[.string X, .int .i64 c]) ∧ Below w.heap.size w w') := fun r => hst _ _ r z1 z2
  generalize cutI pass 100 = p at *
  generalize cutI salt 100 = q at *
  have HT : Hid (∀ W, Below w.heap.size w W → Tab W) := fun W hW => P.tab ht hW
  have HSP : Hid (∀ (B1 B2 : Nat) (key : ByteArray), key.size = 32 → ∀ (x : OpV), x.Ok → ∀ W, Tab W → RealV W B1 key → RefR W B2 key → Calls Tryz.prog 8 #[.pointer (some ⟨B1, 0, none⟩), .pointer (some ⟨B2, 0, none⟩), .agg x.cells.toArray] W fun e w' => e = .returned (.bool true) ∧ Below W.heap.size W w') := fun B1 B2 key hk x hx W hW h1 h2 => step_real P Q hdr B1 B2 key hk x hx W hW h1 h2
  clear hst z1 z2 P Q hdr ht
  obtain ⟨r, hr⟩ : ∃ r : Int, (3 < rounds ∧ rounds ≤ 1000 ∧ r = 3) ∨ ((rounds ≤ 3 ∨ 1000 < rounds) ∧ r = rounds) := by
    by_cases h : 3 < rounds ∧ rounds ≤ 1000
    · exact ⟨3, .inl ⟨h.1, h.2, rfl⟩⟩
    · exact ⟨rounds, .inr ⟨by omega, rfl⟩⟩
  obtain ⟨X, c, hX, hS1, hS2⟩ := HST.out r
  clear HST
  by_cases hc : c = 0
  case neg =>
    have hreal := fun W hW => real_no (X := X) W hc (hS1 W hW)
    have hrreal := fun W => rreal_no (X := X) W hc (hS2 W)
    have hcb1 : (c != 0) = true := by simpa using hc
    have hcb2 : (c == 0) = false := beq_false_of_ne hc
    have hcc : (c == c) = true := by simp
    clear hS1 hS2 hX hc HSP HOP hcase
    have hR : (decide (3 < rounds) = true ∧ decide (rounds ≤ 1000) = true ∧ r = 3) ∨ (decide (3 < rounds) = false ∧ r = rounds) ∨ (decide (3 < rounds) = true ∧ decide (rounds ≤ 1000) = false ∧ r = rounds) := by
      rcases hr with ⟨a, b, c⟩ | ⟨a, b⟩
      · exact .inl ⟨by simp [a], by simp [b], c⟩
      · rcases a with a | a
        · exact .inr (.inl ⟨by simp; omega, b⟩)
        · exact .inr (.inr ⟨by simp; omega, by simp; omega, b⟩)
    clear hr
    rcases hR with ⟨r1, r2, rfl⟩ | ⟨r1, rfl⟩ | ⟨r1, r2, rfl⟩
    all_goals
      go_enter Tryz.func3, Tryz.ntmps3
      go_wp2_with fail
      refine (hc1 _).mono ?_
      rintro e wc ⟨rfl, rfl⟩
      go_wp2_with fail
      refine (hc2 _).mono ?_
      rintro e wc ⟨rfl, rfl⟩
      clear hc1 hc2
      have h1 := hreal wc (HT.out _ (Below.refl _ _))
      clear hreal
      go_wp2_with fail
      refine h1.mono ?_
      rintro e w1 ⟨rfl, hb1⟩
      clear h1
      go_wp2_with fail
      refine (hrreal _).mono ?_
      rintro e w2 ⟨rfl, hb2⟩
      have HB : Hid (Below wc.heap.size wc w2) := hb1.trans (hb2.mono hb1.size)
      clear hrreal hb1 hb2 HT
      go_wp2_with fail
      refine (awake_any _).mono ?_
      rintro e w3 ⟨rfl, hb3⟩
      have HF : Hid (Below wc.heap.size wc w3) := HB.out.trans (hb3.mono HB.out.size)
      clear HB hb3
      go_wp2
      go_ret
      exact ⟨rfl, HF.out⟩
  subst hc
  have HX : Hid (X.size = 32) := hX rfl
  clear hX
  have hreal := fun W hW => real_yes (X := X) W (hS1 W hW)
  have hrreal := fun W => rreal_yes (X := X) W (hS2 W)
  clear hS1 hS2
  have hR : (decide (3 < rounds) = true ∧ decide (rounds ≤ 1000) = true ∧ r = 3) ∨ (decide (3 < rounds) = false ∧ r = rounds) ∨ (decide (3 < rounds) = true ∧ decide (rounds ≤ 1000) = false ∧ r = rounds) := by
    rcases hr with ⟨a, b, c⟩ | ⟨a, b⟩
    · exact .inl ⟨by simp [a], by simp [b], c⟩
    · rcases a with a | a
      · exact .inr (.inl ⟨by simp; omega, b⟩)
      · exact .inr (.inr ⟨by simp; omega, by simp; omega, b⟩)
  clear hr
  rcases hR with ⟨r1, r2, rfl⟩ | ⟨r1, rfl⟩ | ⟨r1, r2, rfl⟩
  all_goals
    rcases hcase with hcs | ⟨hcs, hcs2⟩
  all_goals
    go_enter Tryz.func3, Tryz.ntmps3
    go_wp2_with fail
    refine (hc1 _).mono ?_
    rintro e wc ⟨rfl, rfl⟩
    go_wp2_with fail
    refine (hc2 _).mono ?_
    rintro e wc ⟨rfl, rfl⟩
    clear hc1 hc2
    have h1 := hreal wc (HT.out _ (Below.refl _ _))
    clear hreal
    go_wp2_with fail
    refine h1.mono ?_
    rintro e w1 ⟨B, rfl, hR1, hb1⟩
    clear h1
    go_wp2_with fail
    refine (hrreal _).mono ?_
    rintro e w2 ⟨C, rfl, hR2, hb2⟩
    have HB : Hid ((RealV w2 B X ∧ RefR w2 C X) ∧ Below wc.heap.size wc w2) := ⟨⟨hR1.below hb2, hR2⟩, hb1.trans (hb2.mono hb1.size)⟩
    clear hrreal hb1 hb2 hR1 hR2
    go_wp2_with fail
    go_loopw [13] (fun v wr => ∃ j : Nat, j ≤ J ∧ v = .int .i64 j ∧ (RealV wr B X ∧ RefR wr C X) ∧ Below wc.heap.size wc wr) (fun v _ => J - (intOf v).toNat)
    case atStart => exact ⟨0, Nat.zero_le _, rfl, HB.out.1, HB.out.2⟩
    case round =>
      clear HB
      obtain ⟨j, hj, rfl, hp, hT⟩ := hrel
      by_cases hlt : j < J
      · have j1 : (j : Int) < (l.length : Nat) := by omega
        have j2 : (j : Int) < 6 := by omega
        obtain ⟨⟨g, o, rfl, hg, hx0⟩, hok⟩ := HOP.out j hlt
        have hx := hx0.later hg hT
        have hst := HSP.out B C X HX.out (l.getD j default) hok wr (HT.out _ hT) hp.1 hp.2
        generalize l.getD j default = x at *
        obtain ⟨k, z, a, b, c, d⟩ := x
        obtain ⟨c0, c1, c2, c3, c4, c5⟩ := hx
        simp only [OpV.cells] at c0 c1 c2 c3 c4 c5 hst
        have HTT : Hid ((RealV wr B X ∧ RefR wr C X) ∧ Below wc.heap.size wc wr) := ⟨hp, hT⟩
        clear hx0 hok hp hT
        go_wp2_with fail
        refine hst.mono ?_
        rintro e wi ⟨rfl, hbi⟩
        have HF : Hid ((RealV wi B X ∧ RefR wi C X) ∧ Below wc.heap.size wc wi) := ⟨⟨HTT.out.1.1.below hbi, HTT.out.1.2.keep hbi⟩, HTT.out.2.trans (hbi.mono HTT.out.2.size)⟩
        clear hst hbi HTT c0 c1 c2 c3 c4 c5
        go_wp2
        go_roundw
        case rel => exact ⟨j + 1, by omega, by go_num, HF.out.1, HF.out.2⟩
        case measure => simp [intOf]; omega
      · obtain rfl : j = J := by omega
        have HTT : Hid (Below wc.heap.size wc wr) := hT
        clear hp hT HOP HSP HT
        go_wp2_with fail
        refine (awake_any _).mono ?_
        rintro e wz ⟨rfl, hk⟩
        have HF : Hid (Below wc.heap.size wc wz) := HTT.out.trans (hk.mono HTT.out.size)
        clear hk HTT
        go_wp2
        go_ret
        exact ⟨rfl, HF.out⟩
end Go.Proofs.YtfmaajfohieneaaGreatDoor

namespace Go.Proofs.YtfmaajfohieneaaGreatDoor.Sm
set_option maxRecDepth 20000
open Go.RowKit

theorem wraps_i64 (n : Int) (h0 : 0 ≤ n) (h1 : n < 2 ^ 63) : IntKind.i64.wrap n = n := by rw [IntKind.wrap_i64]; omega
theorem i64_and_nat (a b : Nat) (ha : a < 9223372036854775808) (hb : b < 9223372036854775808) : bits .and .i64 (a : Int) (b : Int) = ((a &&& b : Nat) : Int) := (bits_nat .i64 63 (by decide) wraps_i64 a b ha hb).1
theorem i64_or_nat (a b : Nat) (ha : a < 9223372036854775808) (hb : b < 9223372036854775808) : bits .or .i64 (a : Int) (b : Int) = ((a ||| b : Nat) : Int) := (bits_nat .i64 63 (by decide) wraps_i64 a b ha hb).2
theorem i64_xor_nat (a b : Nat) (ha : a < 9223372036854775808) (hb : b < 9223372036854775808) : bits .xor .i64 (a : Int) (b : Int) = ((a ^^^ b : Nat) : Int) := by
  have hx : a ^^^ b < 2 ^ 63 := Nat.xor_lt_two_pow ha hb
  show IntKind.i64.wrap ((BitVec.ofInt 64 (a : Int) ^^^ BitVec.ofInt 64 (b : Int)).toNat : Int) = _
  rw [BitVec.toNat_xor, ofInt_u64 a (by omega), ofInt_u64 b (by omega)]
  exact wraps_i64 _ (Int.natCast_nonneg _) (by exact_mod_cast hx)

theorem low_any (n : Nat) (h : n < 9223372036854775808) (w : World) :
    Calls Tryz.prog 47 #[.int .i64 n] w fun e w' => e = .returned (.int .i64 ((n % 4294967296 : Nat) : Int)) ∧ w' = w := by
  have hb : bits .and .i64 (n : Int) 4294967295 = ((n % 4294967296 : Nat) : Int) := by
    rw [show (4294967295 : Int) = ((4294967295 : Nat) : Int) from rfl, i64_and_nat n _ h (by decide), nat_mask32]
  go_enter Tryz.func47, Tryz.ntmps47
  go_wp2
  go_ret
  exact ⟨congrArg (fun z => Ending.returned (.int .i64 z)) (by first | rfl | exact hb), rfl⟩

theorem low_z (z : Int) (n : Nat) (hz : z = (n : Int)) (h : n < 9223372036854775808) (w : World) :
    Calls Tryz.prog 47 #[.int .i64 z] w fun e w' => e = .returned (.int .i64 ((n % 4294967296 : Nat) : Int)) ∧ w' = w := by
  subst hz
  exact low_any n h w
theorem turn_lt (x n : Nat) (hx : x < 4294967296) (h1 : 2 ≤ n) : x * 2 ^ (32 - n) < 4611686018427387904 := by
  have h2 : 2 ^ (32 - n) ≤ 2 ^ 30 := Nat.pow_le_pow_right (by decide) (by omega)
  have h3 : x * 2 ^ (32 - n) ≤ x * 2 ^ 30 := Nat.mul_le_mul_left x h2
  have h4 : (2 : Nat) ^ 30 = 1073741824 := by decide
  rw [h4] at h3
  omega
theorem turn_bits (x n : Nat) (hx : x < 4294967296) (h1 : 2 ≤ n) : bits .or .i64 ((x : Int) / 2 ^ n) (IntKind.i64.wrap ((x : Int) * 2 ^ (32 - n))) = ((x / 2 ^ n ||| x * 2 ^ (32 - n) : Nat) : Int) := by
  have hl := turn_lt x n hx h1
  have e1 : (x : Int) / 2 ^ n = ((x / 2 ^ n : Nat) : Int) := by rw [Int.natCast_ediv, Int.natCast_pow]; rfl
  have e2 : (x : Int) * 2 ^ (32 - n) = ((x * 2 ^ (32 - n) : Nat) : Int) := by rw [Int.natCast_mul, Int.natCast_pow]; rfl
  have hd : x / 2 ^ n ≤ x := Nat.div_le_self _ _
  rw [e1, e2, wraps_i64 _ (Int.natCast_nonneg _) (by omega), i64_or_nat _ _ (by omega) (by omega)]

set_option maxHeartbeats 400000 in
theorem rright_any (x n : Nat) (hx : x < 4294967296) (h1 : 2 ≤ n) (h2 : n ≤ 31) (w : World) :
    Calls Tryz.prog 46 #[.int .i64 x, .int .i64 n] w fun e w' => e = .returned (.int .i64 (rotr x n : Nat)) ∧ w' = w.drew := by
  have hlt : x / 2 ^ n ||| x * 2 ^ (32 - n) < 9223372036854775808 := by
    have h1' := turn_lt x n hx h1
    have hd : x / 2 ^ n ≤ x := Nat.div_le_self _ _
    exact Nat.or_lt_two_pow (n := 63) (by omega) (by omega)
  have e1 : IntKind.i64.wrap (32 - (n : Int)) = ((32 - n : Nat) : Int) := by rw [IntKind.wrap_i64]; omega
  have e2 : ¬ (n : Int) < 0 := by omega
  have e3 : ¬ ((32 - n : Nat) : Int) < 0 := by omega
  have e4 : (0 : Int) ≤ ((32 - n : Nat) : Int) := by omega
  go_enter Tryz.func46, Tryz.ntmps46
  go_wp2_with fail
  go_region_held3 (fun _ => True) (simp [go_sem, *]) (first | (go_at_call 47; refine (low_z _ (x / 2 ^ n ||| x * 2 ^ (32 - n)) (turn_bits x n hx h1) hlt _).mono ?_; rintro e w1 ⟨rfl, rfl⟩))
  go_wp2
  go_ret
  exact ⟨rfl, rfl⟩

theorem keys_any (w : World) :
    Calls Tryz.prog 44 #[] w fun e w' => e = .returned (.slice (some ⟨w.heap.size, 0, none⟩) 64 64) ∧ Row w' w.heap.size 3 (keyL.map fun (x : Nat) => Value.int .i64 (x : Int)) ∧ Below w.heap.size w w' := by
  go_enter Tryz.func44, Tryz.ntmps44
  go_wp2
  go_ret
  exact ⟨rfl, heap_alloc_new w _, (Below.refl _ _).alloc (Nat.le_refl _) _⟩
end Go.Proofs.YtfmaajfohieneaaGreatDoor.Sm
