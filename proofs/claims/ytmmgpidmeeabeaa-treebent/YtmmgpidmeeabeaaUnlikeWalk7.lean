/- The law TreeUnlike, called with any two lists of texts, returns true, and changes nothing that was there. -/
import Derived.Test.YtmmgpidmeeabeaaTrAwake
import Derived.BigQuiet
namespace Go.Proofs.Ytmmgpidmeeabeaa
set_option maxRecDepth 20000
open Go.RowKit

/-- A list of texts of one's own. -/
def OwnL (w : World) (base : Nat) (v : Value) (l : List ByteArray) : Prop := w.ownsRow base 9 1 v l.length (l.map Value.string)
theorem OwnL.keep {w w' : World} {base : Nat} {v : Value} {l : List ByteArray} (h : OwnL w base v l) (hb : ∀ k, base ≤ k → k < w.heap.size → v.ownBlock = some k → w'.heap[k]? = w.heap[k]?) : OwnL w' base v l := by
  refine ⟨h.1, ?_⟩
  rcases h.2 with hn | ⟨g, cap, cur, rfl, h0, hg, hr⟩
  · exact .inl hn
  · exact .inr ⟨g, cap, cur, rfl, h0, (hb g h0 (lt_of_block hg) rfl).trans hg, hr⟩
theorem OwnL.lt {w : World} {base : Nat} {v : Value} {l : List ByteArray} (h : OwnL w base v l) {k : Nat} (hk : v.ownBlock = some k) : base ≤ k ∧ k < w.heap.size := by
  rcases h.2 with ⟨rfl, _⟩ | ⟨g, cap, cur, rfl, h0, hg, hr⟩
  · cases hk
  · obtain rfl : g = k := Option.some.inj hk
    exact ⟨h0, lt_of_block hg⟩
theorem OwnL.form {w : World} {base : Nat} {v : Value} {l : List ByteArray} (h : OwnL w base v l) : ∃ oa cap, v = .slice oa l.length cap := owns_slice3 h
theorem OwnL.cell {w : World} {base : Nat} {oa : Option Addr} {cap : Nat} {l : List ByteArray} (h : OwnL w base (.slice oa l.length cap) l) {i : Nat} {x : ByteArray} (hx : l[i]? = some x) : ∃ g, oa = some ⟨g, 0, none⟩ ∧ base ≤ g ∧ g < w.heap.size ∧ w.cell? ⟨g, i, none⟩ = some (.string x) ∧ w.frozen? ⟨g, i, none⟩ = false := by
  have hl := (List.getElem?_eq_some_iff.1 hx).1
  rcases h.2 with ⟨e, h0⟩ | ⟨g, cap', cur, e, h0, hg, h1, h2, h3, h4⟩
  · omega
  · have e2 := (Value.slice.inj e).1
    refine ⟨g, e2, h0, lt_of_block hg, ?_, by simp [World.frozen?, hg]⟩
    have hc : (cur.toList.take (l.length * 1))[i]? = some (.string x) := by rw [h4, List.getElem?_map, hx]; rfl
    rw [List.getElem?_take_of_lt (by omega)] at hc
    rw [cell_of_row _ _ _ _ _ _ hg]
    simpa using hc
theorem OwnL.lv {w : World} {base : Nat} {oa : Option Addr} {cap : Nat} {l : List ByteArray} (h : OwnL w base (.slice oa l.length cap) l) {G : Nat → Prop} (hG : ∀ k, (Value.slice oa l.length cap).ownBlock = some k → ¬ G k) : Lv w G oa l := fun i x hx => by
  obtain ⟨g, rfl, _, h2, h3, _⟩ := h.cell hx
  exact ⟨g, 0, rfl, h2, hG g rfl, by rw [Nat.zero_add]; exact h3⟩
/-- Are the first of two lists one? -/
def isB (a b : List ByteArray) (j : Nat) : Bool := decide (a.length = b.length) && decide (a.take j = b.take j)
theorem isB_succ (a b : List ByteArray) (j : Nat) (ha : j < a.length) (hb : j < b.length) : isB a b (j + 1) = (isB a b j && decide (a[j] = b[j])) := by
  unfold isB
  rw [Bool.and_assoc]
  congr 1
  rw [List.take_add_one, List.take_add_one, List.getElem?_eq_getElem ha, List.getElem?_eq_getElem hb, ← Bool.decide_and]
  apply decide_eq_decide.2
  constructor
  · intro e
    have := List.append_inj' e (by simp)
    exact ⟨this.1, by simpa using this.2⟩
  · rintro ⟨e1, e2⟩
    rw [e1, e2]
theorem isB_all (a b : List ByteArray) : isB a b (min a.length b.length) = decide (a = b) := by
  unfold isB
  rw [← Bool.decide_and]
  apply decide_eq_decide.2
  constructor
  · rintro ⟨e1, e2⟩
    rw [← e1, Nat.min_self, List.take_length] at e2
    rw [e2, List.take_of_length_le (by omega)]
  · rintro rfl
    exact ⟨rfl, rfl⟩
theorem roots_cmp {S S' : VS} {a b : List ByteArray} (ha : a.length ≤ 200) (hb : b.length ≤ 200) (ta : TreeInK (idealK.D S) (idealK.h S) a (hgt a.length)) (da : idealK.D S (rootT a.length (topS (idealK.h S) a))) (hx : idealK.ext S S') (tb : TreeInK (idealK.D S') (idealK.h S') b (hgt b.length)) (db : idealK.D S' (rootT b.length (topS (idealK.h S') b))) (hn : idealK.n S' ≤ 2000000) : decide (idealK.h S (rootT a.length (topS (idealK.h S) a)) = idealK.h S' (rootT b.length (topS (idealK.h S') b))) = decide (a = b) := by
  have ta' : TreeIn (idealK.D S) (idealK.h S) a := ta
  have e1 := top_same ta' fun x h => (hx x h).2
  have e2 := (hx _ da).2
  rw [← e1] at e2 da
  have d2 := (hx _ da).1
  rw [← e1, ← (show idealK.h S' (rootT a.length (topS (idealK.h S') a)) = idealK.h S (rootT a.length (topS (idealK.h S') a)) from e2)]
  apply decide_eq_decide.2
  exact roots_unlike (ta'.mono hx) tb (fun x h => idealOk.size S' x h hn) (fun x y h1 h2 e => ideal_inj S' hn x y h1 h2 e) (by omega) (by omega) d2 db
set_option maxHeartbeats 4000000 in
theorem walk_treeUnlike (va : Value) (la : List ByteArray) (vb : Value) (lb : List ByteArray) (w : World) (ha : StrsV w va la) (hb : StrsV w vb lb) :
    Calls Try.prog 5 #[va, vb] w fun e w' => e = .returned (.bool true) ∧ Below w.heap.size w w' := by
  have hs1 := some_any va la 30 (by decide) w ha
  have HB : Hid (StrsV w vb lb) := hb
  obtain ⟨a, hA⟩ : ∃ a, a = someL la 30 := ⟨_, rfl⟩
  obtain ⟨b, hB⟩ : ∃ b, b = someL lb 30 := ⟨_, rfl⟩
  have hal : a.length ≤ 30 := by rw [hA, someL_length]; omega
  have hbl : b.length ≤ 30 := by rw [hB, someL_length]; omega
  have haz : ∀ x, x ∈ a → x.size ≤ 1000 := fun x hx => by rw [hA] at hx; have := someL_size la 30 x hx; omega
  have hbz : ∀ x, x ∈ b → x.size ≤ 1000 := fun x hx => by rw [hB] at hx; have := someL_size lb 30 x hx; omega
  rw [← hA] at hs1
  clear ha hA hb
  go_enter Try.func5, Try.ntmps5
  go_wp2_with fail
  refine hs1.mono ?_
  rintro e w1 ⟨⟨va1, rfl, ho1⟩, hb1⟩
  have HB1 : Hid (StrsV w1 vb lb) := by
    obtain ⟨h1, h2⟩ := HB.out
    refine ⟨h1, h2.imp id fun ⟨g, o, cap, e, hg, hc⟩ => ⟨g, o, cap, e, Nat.lt_of_lt_of_le hg hb1.size, fun i x hx => (hb1.cell (p := ⟨g, o + i, none⟩) hg).trans (hc i x hx)⟩⟩
  have hs2 := some_any vb lb 30 (by decide) w1 HB1.out
  rw [← hB] at hs2
  obtain ⟨oa, ca, rfl⟩ := OwnL.form ho1
  clear hs1 HB HB1 hB
  go_wp2_with fail
  refine hs2.mono ?_
  rintro e w2 ⟨⟨vb1, rfl, ho2⟩, hb2⟩
  obtain ⟨ob, cb, rfl⟩ := OwnL.form ho2
  clear hs2
  go_wp2_with fail
  refine (ideal_any w2).mono ?_
  rintro e w3 ⟨B, rfl, hp3, hb3⟩
  have hz1 := hb1.size
  have hz2 := hb2.size
  have hz3 := hb3.size
  have oA : OwnL w3 w.heap.size (.slice oa a.length ca) a := OwnL.keep ho1 fun k _ hk _ => (hb3.block k (by omega)).trans (hb2.block k hk)
  have oB : OwnL w3 w1.heap.size (.slice ob b.length cb) b := OwnL.keep ho2 fun k _ hk _ => hb3.block k hk
  have nA : ∀ k, (Value.slice oa a.length ca).ownBlock = some k → k < w2.heap.size := fun k hk => Nat.lt_of_lt_of_le (OwnL.lt ho1 hk).2 hz2
  have nB : ∀ k, (Value.slice ob b.length cb).ownBlock = some k → k < w2.heap.size := fun k hk => (OwnL.lt ho2 hk).2
  have HW3 : Hid (Below w.heap.size w w3) := hb1.trans ((hb2.mono hz1).trans (hb3.mono (by omega)))
  have HP3 : Hid (Ideal w3 (fun k => w2.heap.size ≤ k ∧ k < w3.heap.size) B newV) := hp3
  clear hb1 hb2 hb3 ho1 ho2 hp3
  have hI0 : (((a.length : Nat) : Int) == ((b.length : Nat) : Int)) = isB a b 0 := by
    unfold isB
    by_cases h : a.length = b.length
    · rw [h]; simp
    · have : (((a.length : Nat) : Int) == ((b.length : Nat) : Int)) = false := beq_false_of_ne (by omega)
      rw [this, decide_eq_false h]
      rfl
  obtain ⟨al, hla⟩ : ∃ al, al = a.length := ⟨_, rfl⟩
  obtain ⟨bl, hlb⟩ : ∃ bl, bl = b.length := ⟨_, rfl⟩
  have HLA : Hid (al = a.length ∧ bl = b.length) := ⟨hla, hlb⟩
  obtain ⟨m, hm⟩ : ∃ m, m = min al bl := ⟨_, rfl⟩
  have HMM : Hid (m = min al bl) := hm
  have hm1 : m ≤ al := by omega
  have hm2 : m ≤ bl := by omega
  have hm3 : m = al ∨ m = bl := by omega
  have HOA : Hid (OwnL w3 w.heap.size (.slice oa a.length ca) a ∧ OwnL w3 w1.heap.size (.slice ob b.length cb) b) := ⟨oA, oB⟩
  obtain ⟨i0, hi0⟩ : ∃ i0, i0 = isB a b 0 := ⟨_, rfl⟩
  have HI0 : Hid (i0 = isB a b 0) := hi0
  rw [← hla, ← hlb, ← hi0] at hI0
  rw [← hla] at hal nA ⊢
  rw [← hlb] at hbl nB ⊢
  clear oA oB hm hla hlb hi0
  go_wp2_with fail
  go_loopw [6, 7] (fun sv kv wr => ∃ j : Nat, j ≤ m ∧ kv = .int .i64 (j : Int) ∧ sv = .bool (isB a b j) ∧ Below w3.heap.size w3 wr) (fun _ kv _ => m - (intOf kv).toNat)
  case atStart => exact ⟨0, Nat.zero_le _, rfl, by rw [HI0.out], Below.refl _ _⟩
  case round =>
    clear HI0 hI0
    obtain ⟨j, hj, rfl, rfl, hbr⟩ := hrel
    by_cases hlt : j < m
    · have j1 : (j : Int) < al := by omega
      have j2 : (j : Int) < bl := by omega
      have hja : j < a.length := by rw [← HLA.out.1]; omega
      have hjb : j < b.length := by rw [← HLA.out.2]; omega
      obtain ⟨ga, rfl, _, la2, ca1, _⟩ := HOA.out.1.cell (List.getElem?_eq_getElem hja)
      obtain ⟨gb, rfl, _, lb2, cb1, _⟩ := HOA.out.2.cell (List.getElem?_eq_getElem hjb)
      have dA := (hbr.cell (p := ⟨ga, j, none⟩) la2).trans ca1
      have dB := (hbr.cell (p := ⟨gb, j, none⟩) lb2).trans cb1
      have hsu := isB_succ a b j hja hjb
      have hcm := cmp_is a[j] b[j]
      have HBR : Hid (Below w3.heap.size w3 wr) := hbr
      rw [← HLA.out.1, ← HLA.out.2] at *
      obtain ⟨xa, hxa⟩ : ∃ x, x = a[j] := ⟨_, rfl⟩
      obtain ⟨xb, hxb⟩ : ∃ x, x = b[j] := ⟨_, rfl⟩
      rw [← hxa] at dA hcm hsu
      rw [← hxb] at dB hcm hsu
      obtain ⟨q, hq⟩ : ∃ q, q = decide (xa = xb) := ⟨_, rfl⟩
      rw [← hq] at hcm hsu
      have HSU : Hid (isB a b (j + 1) = (isB a b j && q)) := hsu
      clear hsu hq hxa hxb ca1 cb1 hbr
      cases hr0 : isB a b j
      · rw [hr0] at HSU
        have HS2 : Hid (isB a b (j + 1) = false) := HSU.out
        clear hr0 HSU
        go_wp2_with fail
        go_quiet (fail)
        go_wp2
        go_roundw
        case rel => exact ⟨j + 1, by omega, by go_num, by rw [HS2.out], below_drewN HBR.out _⟩
        case measure => simp [intOf]; omega
      · rw [hr0] at HSU
        have HS2 : Hid (isB a b (j + 1) = q) := by rw [HSU.out]; cases q <;> rfl
        clear hr0 HSU
        go_wp2_with fail
        go_quiet (fail)
        go_wp2
        go_roundw
        case rel => exact ⟨j + 1, by omega, by go_num, by rw [HS2.out], below_drewN HBR.out _⟩
        case measure => simp [intOf]; omega
    · obtain rfl : j = m := by omega
      have HBR : Hid (Below w3.heap.size w3 wr) := hbr
      have HIS : Hid (isB a b j = decide (a = b)) := by rw [HMM.out, HLA.out.1, HLA.out.2]; exact isB_all a b
      have hzr := hbr.size
      have hna := new_on idealOk (w0 := w) (w := wr) (F := fun k => w2.heap.size ≤ k ∧ k < w3.heap.size) (G := fun k => w2.heap.size ≤ k ∧ k < w3.heap.size) (B := B) (S := newV) oa ca a (OwnL.lv (OwnL.keep HOA.out.1 fun k _ hk _ => hbr.block k hk) fun k hk hg => absurd (nA k (by rw [HLA.out.1]; exact hk)) (by omega)) (by rw [← HLA.out.1]; omega) haz (by decide) (fun k hk => by omega) (fun k hk => by have := HW3.out.size; omega) ⟨HP3.out.below hbr, fun _ h => h⟩ (HW3.out.trans (hbr.mono HW3.out.size))
      have HLB : Hid (Lv wr (fun k => w2.heap.size ≤ k ∧ k < w3.heap.size) ob b) := OwnL.lv (OwnL.keep HOA.out.2 fun k _ hk _ => hbr.block k hk) fun k hk hg => absurd (nB k (by rw [HLA.out.2]; exact hk)) (by omega)
      have hzw := HW3.out.size
      rw [← HLA.out.1] at hna
      have hjway : (¬ (j : Int) < al) ∨ ((j : Int) < al ∧ ¬ (j : Int) < bl) := by omega
      obtain ⟨q, hq⟩ : ∃ q, q = isB a b j := ⟨_, rfl⟩
      have HQ : Hid (q = decide (a = b)) := hq.trans HIS.out
      rw [← hq]
      clear hq HIS hbr
      rcases hjway with j1 | ⟨j1, j2⟩
      all_goals
        go_wp2_with fail
        refine hna.mono ?_
        rintro e w4 ⟨S4, T, rfl, on4, t4, x4, n4⟩
        have n4' : idealK.n S4 ≤ 40200 := by have : idealK.n newV = 0 := rfl; omega
        have hra := root_on idealOk on4 (by rw [← HLA.out.1]; omega) (by omega)
        clear hna x4 n4
        go_wp2_with fail
        refine hra.mono ?_
        rintro e w5 ⟨S5, rfl, on5, t5, x5, d5, n5⟩
        have z4 := t4.size
        have z5 := t5.size
        have hnb := new_on idealOk (w0 := w) (w := w5) (F := fun k => w2.heap.size ≤ k ∧ k < w3.heap.size) (G := fun k => w2.heap.size ≤ k ∧ k < w3.heap.size) (B := B) (S := S5) ob cb b ((HLB.out.touch t4).touch t5) (by rw [← HLA.out.2]; omega) hbz (by omega) (fun k hk => by omega) (fun k hk => by omega) on5.v on5.below
        rw [← HLA.out.2] at hnb
        obtain ⟨RA, hRA⟩ : ∃ R, R = idealK.h S5 (rootT a.length (topS (idealK.h S5) a)) := ⟨_, rfl⟩
        have HRA : Hid (RA = idealK.h S5 (rootT a.length (topS (idealK.h S5) a)) ∧ TreeInK (idealK.D S5) (idealK.h S5) a (hgt a.length) ∧ idealK.D S5 (rootT a.length (topS (idealK.h S5) a))) := ⟨hRA, on5.tin, d5⟩
        rw [← hRA]
        clear hra hRA d5 on5 on4 t4 t5
        go_wp2_with fail
        refine hnb.mono ?_
        rintro e w6 ⟨S6, T6, rfl, on6, t6, x6, n6⟩
        have hrb := root_on idealOk on6 (by rw [← HLA.out.2]; omega) (by omega)
        clear hnb t6
        go_wp2_with fail
        refine hrb.mono ?_
        rintro e w7 ⟨S7, rfl, on7, t7, x7, d7, n7⟩
        have hcm := cmp_is RA (idealK.h S7 (rootT b.length (topS (idealK.h S7) b)))
        have hde := roots_cmp (by rw [← HLA.out.1]; omega) (by rw [← HLA.out.2]; omega) HRA.out.2.1 HRA.out.2.2 (HK.ext_trans x6 x7) on7.tin d7 (by omega)
        rw [← HRA.out.1, ← HQ.out] at hde
        rw [hde] at hcm
        have HB7 : Hid (Below w.heap.size w w7) := on7.below
        generalize idealK.h S7 (rootT b.length (topS (idealK.h S7) b)) = RB at *
        clear hrb hde on7 on6 t7 x5 x6 x7 d7 n5 n6 n7 n4' HQ HRA
        cases q
        all_goals
          go_wp2_with fail
          refine (tawake_any _).mono ?_
          rintro e w8 ⟨rfl, hb8⟩
          have HF : Hid (Below w.heap.size w w8) := HB7.out.trans (hb8.mono HB7.out.size)
          clear hb8
          go_wp2
          go_ret
          exact ⟨rfl, HF.out⟩
end Go.Proofs.Ytmmgpidmeeabeaa
