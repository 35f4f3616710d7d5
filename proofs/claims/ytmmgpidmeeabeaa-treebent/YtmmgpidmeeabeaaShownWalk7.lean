/- The law TreeShown, called with any list of texts and any place, returns true, and changes nothing that was there. -/
import Derived.Test.YtmmgpidmeeabeaaTrPath
import Derived.Test.YtmmgpidmeeabeaaUnlikeWalk7
namespace Go.Proofs.Ytmmgpidmeeabeaa
set_option maxRecDepth 20000
open Go.RowKit

theorem pathOf_same {D : ByteArray → Prop} {h h' : ByteArray → ByteArray} {l : List ByteArray} {i : Nat} (hT : TreeInK D h l (hgt l.length)) (e : ∀ x, D x → h' x = h x) : pathOf h' l i = pathOf h l i :=
  List.map_congr_left fun k hk => by rw [rowAt_sameK hT e k (by have := List.mem_range.1 hk; omega)]
theorem shown_chk {σ : Type} {K : HK σ} (o : HKOk K) {S S6 S7 : σ} {l : List ByteArray} {i : Nat} (hi : i < l.length) (hl : l.length ≤ 200) (tin : TreeInK (K.D S) (K.h S) l (hgt l.length)) (x6 : K.ext S S6) (d6 : K.D S6 (rootT l.length (topS (K.h S6) l))) (x7 : K.ext S6 S7) (n6 : K.n S6 ≤ 2000000) (n7 : K.n S7 ≤ 2000000) :
    chkB (K.h S7) (K.h S6 (rootT l.length (topS (K.h S6) l))) (l.length : Nat) (i : Nat) l[i] (pathOf (K.h S) l i) = true := by
  have x57 := HK.ext_trans x6 x7
  have tin7 := tin.mono x57
  have e1 : pathOf (K.h S7) l i = pathOf (K.h S) l i := pathOf_same tin fun x hx => (x57 x hx).2
  have e2 : topS (K.h S7) l = topS (K.h S6) l := by
    have t6 : TreeIn (K.D S6) (K.h S6) l := tin.mono x6
    exact top_same t6 fun x hx => (x7 x hx).2
  have h32 := o.size S6 _ d6 n6
  have hd : leadB l.length i (pathOf (K.h S7) l i) = true := leadB_iff.2 (path_leads tin7 (fun x hx => o.size S7 x hx n7) i hi)
  unfold chkB okB
  rw [← e1, Int.toNat_natCast, Int.toNat_natCast, hd, path_top, h32, e2, (x7 _ d6).2]
  simp
  omega
theorem sides_len (h : ByteArray → ByteArray) (l : List ByteArray) (i : Nat) : ∀ s, s ∈ pathOf h l i → s.sides.length ≤ 1000000 := fun s hs => by
  obtain ⟨k, _, rfl⟩ := List.mem_map.1 hs
  show ((grp (rowAt h l k) (iK i k / 4)).eraseIdx (iK i k % 4)).length ≤ _
  have h1 := List.length_eraseIdx_le (grp (rowAt h l k) (iK i k / 4)) (iK i k % 4)
  have h2 := grp_length (rowAt h l k) (iK i k / 4)
  omega
set_option maxHeartbeats 4000000 in
theorem walk_treeShown (v : Value) (l0 : List ByteArray) (i : Int) (w : World) (hv : StrsV w v l0) :
    Calls Try.prog 3 #[v, .int .i64 i] w fun e w' => e = .returned (.bool true) ∧ Below w.heap.size w w' := by
  have hs1 := some_any v l0 60 (by decide) w hv
  obtain ⟨l, hA⟩ : ∃ l, l = someL l0 60 := ⟨_, rfl⟩
  have hal : l.length ≤ 60 := by rw [hA, someL_length]; omega
  have haz : ∀ x, x ∈ l → x.size ≤ 64 := fun x hx => by rw [hA] at hx; exact someL_size l0 60 x hx
  rw [← hA] at hs1
  clear hv hA
  go_enter Try.func3, Try.ntmps3
  go_wp2_with fail
  refine hs1.mono ?_
  rintro e w1 ⟨⟨va1, rfl, ho1⟩, hb1⟩
  obtain ⟨oa, ca, rfl⟩ := OwnL.form ho1
  clear hs1
  go_wp2_with fail
  refine (ideal_any w1).mono ?_
  rintro e w2 ⟨B, rfl, hp2, hb2⟩
  have hz1 := hb1.size
  have hz2 := hb2.size
  have oA : OwnL w2 w.heap.size (.slice oa l.length ca) l := OwnL.keep ho1 fun k _ hk _ => hb2.block k hk
  have nA : ∀ k, (Value.slice oa l.length ca).ownBlock = some k → k < w1.heap.size := fun k hk => (OwnL.lt ho1 hk).2
  have hnw := new_on idealOk (w0 := w) (w := w2) (F := fun k => w1.heap.size ≤ k ∧ k < w2.heap.size) (G := fun k => w1.heap.size ≤ k ∧ k < w2.heap.size) (B := B) (S := newV) oa ca l (oA.lv fun k hk hg => absurd (nA k hk) (by omega)) (by omega) (fun x hx => by have := haz x hx; omega) (by decide) (fun k hk => by omega) (fun k hk => by omega) ⟨hp2, fun _ h => h⟩ (hb1.trans (hb2.mono hz1))
  clear hb1 hb2 ho1 hp2
  obtain ⟨n, hn⟩ : ∃ n, n = l.length := ⟨_, rfl⟩
  have HN : Hid (n = l.length) := hn
  have HOA : Hid (OwnL w2 w.heap.size (.slice oa l.length ca) l) := oA
  rw [← hn] at hnw hal nA ⊢
  clear oA hn
  go_wp2_with fail
  refine hnw.mono ?_
  rintro e w3 ⟨S3, T, rfl, on3, t3, x3, n3⟩
  have n3' : idealK.n S3 ≤ 40200 := by have : idealK.n newV = 0 := rfl; omega
  have HG : Hid (∀ k, (fun k => w1.heap.size ≤ k ∧ k < w2.heap.size) k → k < w2.heap.size) := fun k hk => hk.2
  have HGA : Hid (∀ k, (Value.slice oa n ca).ownBlock = some k → ¬ (fun k => w1.heap.size ≤ k ∧ k < w2.heap.size) k) := fun k hk hg => absurd (nA k hk) (Nat.not_lt_of_le hg.1)
  have hz3 := t3.size
  generalize (fun k => w2.heap.size ≤ k ∧ k < w3.heap.size) = H at *
  generalize (fun k => w1.heap.size ≤ k ∧ k < w2.heap.size) = F at *
  clear hnw x3 n3
  by_cases hin : 0 ≤ i ∧ i < (n : Int)
  case neg =>
    have hpn := path_no on3 i (by rw [← HN.out]; exact hin)
    have HB3 : Hid (Below w.heap.size w w3) := on3.below
    have hway : i < 0 ∨ (¬ i < 0 ∧ (n : Int) ≤ i) := by omega
    clear on3 t3 hin
    rcases hway with h1 | ⟨h1, h2⟩
    all_goals
      go_wp2_with fail
      refine hpn.mono ?_
      rintro e w4 ⟨rfl, rfl⟩
      go_wp2_with fail
      refine (tawake_any _).mono ?_
      rintro e w8 ⟨rfl, hb8⟩
      have HF : Hid (Below w.heap.size w w8) := HB3.out.trans (hb8.mono HB3.out.size)
      clear hb8
      go_wp2
      go_ret
      exact ⟨rfl, HF.out⟩
  obtain ⟨k, rfl⟩ : ∃ k : Nat, i = k := ⟨i.toNat, by omega⟩
  have hk : k < l.length := by rw [← HN.out]; omega
  have hpy := path_yes on3 k (by rw [← HN.out]; omega) hk
  have i1 : ¬ (k : Int) < 0 := by omega
  have i2 : ¬ (n : Int) ≤ k := by omega
  have i3 : (k : Int) < n := by omega
  go_wp2_with fail
  refine hpy.mono ?_
  rintro e w4 ⟨⟨b, bs, rfl, hpo⟩, hb4⟩
  have on4 := on3.beneath idealOk hb4
  have t4 := t3.trans ((Touch.of_below hb4 : Touch (grow F w2 w3) w3 w4))
  obtain ⟨ga, rfl, _, la2, ca1, _⟩ := HOA.out.cell (List.getElem?_eq_getElem hk)
  have nga := HGA.out ga rfl
  have cA4 := (cell_kept_1 (t4.2 ga la2 nga) k).trans ca1
  have lA4 : ga < w4.heap.size := Nat.lt_of_lt_of_le la2 t4.size
  have HPI : Hid (PathIn w4 F (some ⟨b, 0, none⟩) (pathOf (idealK.h S3) l k)) := hpo.pathIn (fun j hj => Nat.lt_of_lt_of_le (HG.out j hj) hz3) (sides_len _ _ _)
  have hpl : (pathOf (idealK.h S3) l k).length ≤ 1000000 := by rw [pathOf_length]; have := hgt_le l.length; rw [← HN.out] at *; omega
  obtain ⟨P, hP⟩ : ∃ P, P = pathOf (idealK.h S3) l k := ⟨_, rfl⟩
  have HPP : Hid (P = pathOf (idealK.h S3) l k) := hP
  obtain ⟨x, hx⟩ : ∃ x, x = l[k] := ⟨_, rfl⟩
  have hxz : x.size ≤ 1000 := by rw [hx]; have := haz _ (List.getElem_mem hk); omega
  have HX : Hid (x = l[k]) := hx
  rw [← hP] at HPI hpl ⊢
  rw [← hx] at cA4
  have HON : Hid (TrOn idealK w w4 F F H B T S3 l) := on4
  have HON3 : Hid (TrOn idealK w w3 F F H B T S3 l) := on3
  have HCK : Hid (∀ wA S6, TrOn idealK w wA F F H B T S6 l ∧ PathIn wA F (some ⟨b, 0, none⟩) P → idealK.ext S3 S6 → idealK.D S6 (rootT l.length (topS (idealK.h S6) l)) → idealK.n S6 ≤ idealK.n S3 + 1 → Calls Try.prog 13 #[.pointer (some ⟨B, 0, none⟩), .string (idealK.h S6 (rootT l.length (topS (idealK.h S6) l))), .int .i64 (n : Int), .int .i64 (k : Int), .string x, .slice (some ⟨b, 0, none⟩) P.length P.length] wA fun e w' => e = .returned (.bool true) ∧ Below w.heap.size w w' ∧ Touch F wA w') := fun wA S6 h6 x6 d6 n6 => by
    refine (check_on idealOk h6.1 (idealK.h S6 (rootT l.length (topS (idealK.h S6) l))) (n : Int) (k : Int) x (some ⟨b, 0, none⟩) P.length P hpl h6.2 hxz (by omega)).mono ?_
    rintro e wB ⟨S7, rfl, on7, t7, x7, n7, _⟩
    refine ⟨?_, on7.below, t7⟩
    rw [hP, HX.out, HN.out, shown_chk idealOk hk (by rw [← HN.out]; omega) HON3.out.tin x6 d6 x7 (by omega) (by omega)]
  clear hpy hpo hb4 on3 t3 t4 on4 hP hx ca1
  go_wp2_with fail
  go_region_held3 (fun w' => w'.cell? ⟨ga, k, none⟩ = some (.string x)) (simp [go_sem, *])
    (first
      | (go_at_call 14; refine (root_on idealOk (HON.out.beneath idealOk (Below.refl _ _).drew) (by rw [← HN.out]; omega) (by omega)).mono ?_; rintro e wA ⟨S6, rfl, on6, t6, x6, d6, n6⟩; have hcA : wA.cell? ⟨ga, k, none⟩ = some (.string x) := (cell_kept_1 (t6.2 ga lA4 nga) k).trans cA4; have lA6 : ga < wA.heap.size := Nat.lt_of_lt_of_le lA4 t6.size; have HA6 : Hid (TrOn idealK w wA F F H B T S6 l ∧ PathIn wA F (some ⟨b, 0, none⟩) P) := ⟨on6, (HPI.out.touch (Touch.of_below (Below.refl _ _).drew)).touch t6⟩)
      | (go_at_call 13; refine (HCK.out _ _ HA6.out x6 d6 n6).mono ?_; rintro e wB ⟨rfl, hbB, tB⟩; have hcB : wB.cell? ⟨ga, k, none⟩ = some (.string x) := (cell_kept_1 (tB.2 ga lA6 nga) k).trans hcA; have lB6 : ga < wB.heap.size := Nat.lt_of_lt_of_le lA6 tB.size)
      | (go_at_call 12; refine (tawake_any _).mono ?_; rintro e wz ⟨rfl, hbz⟩; have hcz : wz.cell? ⟨ga, k, none⟩ = some (.string x) := (cell_kept_1 (hbz.block ga lB6) k).trans hcB))
  have HF : Hid (Below w.heap.size w wz) := hbB.trans (hbz.mono hbB.size)
  clear hbz hbB tB hcz hcB hcA HA6 HCK
  go_wp2
  go_ret
  exact ⟨rfl, HF.out⟩
end Go.Proofs.Ytmmgpidmeeabeaa
