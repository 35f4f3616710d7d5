/- The law PlatePlays, called with any number and any script, returns true, and changes nothing that was there. -/
import Derived.Test.YtmnojmcbghdciaaPlStands
import Derived.Test.YtmnojmcbghdciaaPlCopy
namespace Go.Proofs.Ytmnojmcbghdciaa
open Go.RowKit

def playS (S : PS) (l : List OpT) : Nat → PS
  | 0 => S
  | j + 1 => stepP (playS S l j) (l.getD j default)
theorem play_wait (S : PS) (l : List OpT) (h : S.wait.length = 0) : ∀ j, (playS S l j).wait.length ≤ j
  | 0 => by simp [playS, h]
  | j + 1 => by
    have := play_wait S l h j
    have := step_wait (playS S l j) (l.getD j default)
    show (stepP _ _).wait.length ≤ j + 1
    omega
theorem lay_wait (S : PS) (at_ : Int) (s : ByteArray) : (layP S at_ s).wait = S.wait := by
  unfold layP
  repeat' split
  all_goals rfl
theorem pair_new {w w1 w2 : World} {B1 B2 n : Nat} (h1 : Plate w1 (fun k => w.heap.size ≤ k ∧ k < w1.heap.size) B1 (newP n)) (hb1 : Below w.heap.size w w1) (h2 : RefP w2 (fun k => w1.heap.size ≤ k ∧ k < w2.heap.size) B2 (newP n)) (hb2 : Below w1.heap.size w1 w2) : PairF w2 (fun k => w.heap.size ≤ k) B1 B2 (newP n) (newP n) := by
  have := hb1.size
  have := hb2.size
  exact ⟨_, _, h1.below hb2, h2, fun k h => h.1, fun k h => by have := h.1; omega, fun k h1 h2 => by have := h1.2; have := h2.1; omega, fun k h => by
    rcases h with h | h
    · have := h.2; omega
    · exact h.2⟩

set_option maxRecDepth 10000 in
set_option maxHeartbeats 4000000 in
theorem walk_platePlays (a0 : Int) (v1 : Value) (l : List OpT) (_ : (Lit.int .i64 a0).wf = true) (w : World) (hl : Ops w v1 l) :
    Calls Try.prog 3 #[.int .i64 a0, v1] w fun e w' => e = .returned (.bool true) ∧ Below w.heap.size w w' := by
  obtain ⟨oa, ca, rfl⟩ := hl.form
  by_cases h0 : a0 < 0 ∨ 32768 < a0
  · clear hl
    go_enter Try.func3, Try.ntmps3
    go_wp2_with fail
    refine (new_bad a0 h0 w).mono ?_
    rintro e w1 ⟨rfl, rfl⟩
    go_wp2_with fail
    refine (rnew_bad a0 h0 _).mono ?_
    rintro e w2 ⟨rfl, rfl⟩
    go_wp2_with fail
    refine (awake_any _).mono ?_
    rintro e w2 ⟨rfl, hb2⟩
    go_wp2
    go_ret
    exact ⟨rfl, hb2⟩
  obtain ⟨n, rfl⟩ : ∃ n : Nat, a0 = n := ⟨a0.toNat, by omega⟩
  have hn : n ≤ 32768 := by omega
  clear h0
  by_cases h1 : (40 : Int) < n
  · clear hl
    go_enter Try.func3, Try.ntmps3
    go_wp2_with fail
    refine (new_any n hn w).mono ?_
    rintro e w1 ⟨B, rfl, hp, hb⟩
    go_wp2_with fail
    refine (rnew_any n hn w1).mono ?_
    rintro e w2 ⟨B2, rfl, hp2, hb2⟩
    go_wp2_with fail
    refine (awake_any _).mono ?_
    rintro e w3 ⟨rfl, hb3⟩
    have hb12 := hb.trans (hb2.mono hb.size)
    have HT : Hid (Below w.heap.size w w3) := hb12.trans (hb3.mono hb12.size)
    clear hp hb hb2 hp2 hb3 hb12
    go_wp2
    go_ret
    exact ⟨rfl, HT.out⟩
  have HL : Hid (Ops w (.slice oa l.length ca) l) := hl
  clear hl
  obtain ⟨J, hJ, hcase⟩ : ∃ J, (J ≤ l.length ∧ J ≤ 120) ∧ ((¬ (J : Int) < (l.length : Nat)) ∨ ((J : Int) < (l.length : Nat) ∧ ¬ (J : Int) < 120)) := ⟨min l.length 120, by omega, by omega⟩
  have HOP : Hid (∀ j, j < J → ∃ g o, oa = some ⟨g, o, none⟩ ∧ g < w.heap.size ∧ OpAt w g (o + j * 5) (l.getD j default)) := fun j hj => by
    obtain ⟨g, o, e, hg, hx⟩ := HL.out.get (by omega)
    exact ⟨g, o, e, hg, hx j _ (by rw [List.getD_eq_getElem?_getD, List.getElem?_eq_getElem (by omega)]; rfl)⟩
  have HW : Hid (∀ j, (playS (newP n) l j).wait.length ≤ j) := play_wait _ l (by simp [newP])
  have hb7 : ∀ w, Calls Try.prog 14 #[.int .u8 7, .int .i64 64] w fun e w' => e = .returned (.string (fillS 7 64)) ∧ Below w.heap.size w w' := bytes_any 7 64 (by decide)
  have hb8 : ∀ w, Calls Try.prog 14 #[.int .u8 8, .int .i64 64] w fun e w' => e = .returned (.string (fillS 8 64)) ∧ Below w.heap.size w w' := bytes_any 8 64 (by decide)
  obtain ⟨s7, hs7⟩ : ∃ s7, s7 = fillS 7 64 := ⟨_, rfl⟩
  obtain ⟨s8, hs8⟩ : ∃ s8, s8 = fillS 8 64 := ⟨_, rfl⟩
  rw [← hs7] at hb7
  rw [← hs8] at hb8
  clear hs7 hs8
  rcases hcase with hcs | ⟨hcs, hcs2⟩
  all_goals
    go_enter Try.func3, Try.ntmps3
    go_wp2_with fail
    refine (new_any n hn w).mono ?_
    rintro e wa ⟨B, rfl, hp, hb⟩
    go_wp2_with fail
    refine (rnew_any n hn wa).mono ?_
    rintro e wb ⟨B2, rfl, hp2, hb2⟩
    have HB : Hid (PairF wb (fun k => w.heap.size ≤ k) B B2 (playS (newP n) l 0) (playS (newP n) l 0) ∧ Below w.heap.size w wb) := ⟨pair_new hp hb hp2 hb2, hb.trans (hb2.mono hb.size)⟩
    clear hp hb hp2 hb2
    go_wp2_with fail
    go_loopw [5, 9] (fun u v wr => ∃ (j B1 : Nat), j ≤ J ∧ u = .pointer (some ⟨B1, 0, none⟩) ∧ v = .int .i64 j ∧ PairF wr (fun k => w.heap.size ≤ k) B1 B2 (playS (newP n) l j) (playS (newP n) l j) ∧ Below w.heap.size w wr) (fun _ v _ => J - (intOf v).toNat)
    case atStart => exact ⟨0, B, Nat.zero_le _, rfl, rfl, HB.out.1, HB.out.2⟩
    case round =>
      clear HB
      obtain ⟨j, B1, hj, rfl, rfl, hp, hT⟩ := hrel
      by_cases hlt : j < J
      · have j1 : (j : Int) < (l.length : Nat) := by omega
        have j2 : (j : Int) < 120 := by omega
        have hle := HW.out j
        obtain ⟨g, o, rfl, hg, hop⟩ := HOP.out j hlt
        obtain ⟨x, hx⟩ : ∃ x, x = l.getD j default := ⟨_, rfl⟩
        rw [← hx] at hop
        have HN : Hid (playS (newP n) l (j + 1) = stepP (playS (newP n) l j) x) := by rw [hx]; rfl
        have HX : Hid (∀ w', Below w.heap.size w w' → w'.cell? ⟨g, o + j * 5, none⟩ = some (.int .i64 x.kind) ∧ w'.cell? ⟨g, o + j * 5 + 1, none⟩ = some (.int .i64 x.at_) ∧ w'.cell? ⟨g, o + j * 5 + 2, none⟩ = some (.int .i64 x.len) ∧ w'.cell? ⟨g, o + j * 5 + 3, none⟩ = some (.int .u8 (x.v : Nat)) ∧ w'.cell? ⟨g, o + j * 5 + 4, none⟩ = some x.kv) := fun w' h => hop.later hg h
        have HKB : Hid (∀ w', Below w.heap.size w w' → Bools w' (fun k => w.heap.size ≤ k) x.kv x.keep) := fun w' h => bools_far hop.bools (fun k hk _ => h.block k hk) h.size fun _ _ hf => hf
        have hat : x.at_ < 9223372036854775808 := by
          have := hop.wat
          simp [Lit.wf, IntKind.min, IntKind.max, IntKind.signed, IntKind.bits] at this
          omega
        obtain ⟨ok, ck, hkv⟩ := hop.bools.form
        clear hop hx hg
        generalize hS : playS (newP n) l j = S at *
        clear hS
        obtain ⟨kd, at_, len, v, kv, keep⟩ := x
        have hkv : kv = .slice ok keep.length ck := hkv
        subst hkv
        have HST : Hid (∀ B1 wc, PairF wc (fun k => w.heap.size ≤ k) B1 B2 S S → Below w.heap.size w wc → Calls Try.prog 17 #[.pointer (some ⟨B1, 0, none⟩), .pointer (some ⟨B2, 0, none⟩), .agg #[.int .i64 kd, .int .i64 at_, .int .i64 len, .int .u8 (v : Nat), .slice ok keep.length ck]] wc fun e w' => e = .returned (.bool true) ∧ PairF w' (fun k => w.heap.size ≤ k) B1 B2 (playS (newP n) l (j + 1)) (playS (newP n) l (j + 1)) ∧ Below w.heap.size w w') := fun B1 wc hpc hTc => by
          refine (step_any B1 B2 S ⟨kd, at_, len, v, .slice ok keep.length ck, keep⟩ hat _ wc hpc (by omega) (HKB.out wc hTc)).mono fun e w' ⟨he, h1, h2⟩ => ⟨he, ?_, hTc.trans (h2.below hTc.size fun _ h => h)⟩
          rw [HN.out]
          have := hTc.size
          exact h1.mono fun k _ hk => hk.elim id fun x => by have := x.1; omega
        by_cases h9 : kd = 9
        · subst h9
          obtain ⟨c0, _⟩ := HX.out wr hT
          obtain ⟨F1, F2, q1, q2, s1, s2, dj, lt⟩ := hp
          have hcp := copy_any B1 F1 S wr q1 (by omega)
          go_wp2_with fail
          refine hcp.mono ?_
          rintro e wc ⟨B', rfl, hpc, hbc⟩
          clear hcp
          have hO := q1.below hbc
          obtain ⟨Fc, hFc⟩ : ∃ Fc : Nat → Prop, Fc = fun k => F2 k ∨ (wr.heap.size ≤ k ∧ k < wc.heap.size) := ⟨_, rfl⟩
          have hQ : PairF wc Fc B' B2 S S := by
            rw [hFc]
            exact ⟨_, F2, hpc, q2.keep fun k hk _ => hbc.block k hk, fun _ h => .inr h, fun _ h => .inl h, fun k h1 h2 => by have := lt k (.inr h2); have := h1.1; omega, fun k h => by
              have := hbc.size
              rcases h with h | h
              · exact h.2
              · have := lt k (.inr h); omega⟩
          have hD : ∀ k, F1 k → ¬ Fc k := by
            rw [hFc]
            intro k h1 h2
            rcases h2 with h2 | h2
            · exact dj k h1 h2
            · have := lt k (.inl h1); have := h2.1; omega
          have hL1 : ∀ k, Fc k → k < wc.heap.size ∧ w.heap.size ≤ k := by
            rw [hFc]
            intro k h
            have := hbc.size
            have := hT.size
            rcases h with h | h
            · have := lt k (.inr h); exact ⟨by omega, s2 k h⟩
            · exact ⟨h.2, by have := h.1; omega⟩
          have HD : Hid (∀ k, F1 k → ¬ Fc k) := hD
          have HL1 : Hid (∀ k, Fc k → k < wc.heap.size ∧ w.heap.size ≤ k) := hL1
          clear hD hL1 hFc
          have hTc := hT.trans (hbc.mono hT.size)
          have HS1 : Hid (∀ k, F1 k → w.heap.size ≤ k) := s1
          clear hpc hbc q1 q2 s2 dj lt hT c0
          go_wp2_with fail
          refine (hb7 _).mono ?_
          rintro e wd ⟨rfl, hd⟩
          have hOd := hO.below hd
          have hQd := hQ.keep hd.size fun k hk _ => hd.block k hk
          have hTd := hTc.trans (hd.mono hTc.size)
          have hzd : wc.heap.size ≤ wd.heap.size := hd.size
          clear hO hQ hTc hd
          go_wp2_with fail
          refine (lay_any B1 F1 S 0 s7 wd hOd).mono ?_
          rintro e we ⟨rfl, hOe, hte⟩
          have hQe := hQd.keep hte.size fun k hk hf => hte.2 k hk fun h1 => HD.out k h1 hf
          have hTe := hTd.trans (hte.below hTd.size HS1.out)
          have hze : wc.heap.size ≤ we.heap.size := Nat.le_trans hzd hte.size
          have hwl : (layP S 0 s7).wait.length ≤ 1000000 := by rw [lay_wait]; omega
          generalize layP S 0 s7 = S7 at *
          generalize layE S 0 s7 = z7
          clear hOd hQd hTd hte hzd
          go_wp2_with fail
          refine (hb8 _).mono ?_
          rintro e wf ⟨rfl, hf⟩
          have hOf := hOe.below hf
          have hQf := hQe.keep hf.size fun k hk _ => hf.block k hk
          have hTf := hTe.trans (hf.mono hTe.size)
          have hzf : wc.heap.size ≤ wf.heap.size := Nat.le_trans hze hf.size
          clear hOe hQe hTe hf hze
          go_wp2_with fail
          refine (write_any B1 F1 S7 0 s8 wf hOf hwl).mono ?_
          rintro e wg ⟨rfl, hOg, htg⟩
          have hQg := hQf.keep htg.size fun k hk hf => htg.2 k hk fun h1 => HD.out k h1 hf
          have hTg := hTf.trans (htg.below hTf.size HS1.out)
          have hsf := hTf.size
          have HGR : Hid (∀ k, grow F1 wf wg k → w.heap.size ≤ k ∧ ¬ Fc k) := fun k hk => by
            rcases hk with h | h
            · exact ⟨HS1.out k h, HD.out k h⟩
            · exact ⟨by have := h.1; omega, fun hf => by have := (HL1.out k hf).1; have := h.1; omega⟩
          generalize writeP S7 0 s8 = S8 at *
          generalize writeE S7 0 s8 = z8
          generalize grow F1 wf wg = Fg at *
          clear hOf hQf hTf htg hzf hsf
          go_wp2_with fail
          refine (spoil_any B1 Fg S8 1 wg hOg).mono ?_
          rintro e wh ⟨rfl, hOh, hth⟩
          have hQh := hQg.keep hth.size fun k hk hf => hth.2 k hk fun h1 => (HGR.out k h1).2 hf
          have hTh := hTg.trans (hth.below hTg.size fun k h => (HGR.out k h).1)
          have hQn : PairF wh (fun k => w.heap.size ≤ k) B' B2 S S := hQh.mono fun k _ hf => (HL1.out k hf).2
          generalize spoilE S8 1 = z9
          clear hOg hQg hTg hOh hth hQh hb7 hb8
          obtain ⟨d0, d1, d2, d3, d4⟩ := HX.out wh hTh
          have hst := HST.out B' wh hQn hTh
          clear hQn hTh
          go_wp2_with fail
          refine hst.mono ?_
          rintro e wi ⟨rfl, hpi, hTi⟩
          have HF : Hid (PairF wi (fun k => w.heap.size ≤ k) B' B2 (playS (newP n) l (j + 1)) (playS (newP n) l (j + 1)) ∧ Below w.heap.size w wi) := ⟨hpi, hTi⟩
          clear hst hpi hTi
          go_wp2
          go_roundw
          case rel => exact ⟨j + 1, B', by omega, rfl, by go_num, HF.out.1, HF.out.2⟩
          case measure => simp [intOf]; omega
        · obtain ⟨d0, d1, d2, d3, d4⟩ := HX.out wr hT
          have hst := HST.out B1 wr hp hT
          clear hp hT hb7 hb8
          go_wp2_with fail
          refine hst.mono ?_
          rintro e wi ⟨rfl, hpi, hTi⟩
          have HF : Hid (PairF wi (fun k => w.heap.size ≤ k) B1 B2 (playS (newP n) l (j + 1)) (playS (newP n) l (j + 1)) ∧ Below w.heap.size w wi) := ⟨hpi, hTi⟩
          clear hst hpi hTi
          go_wp2
          go_roundw
          case rel => exact ⟨j + 1, B1, by omega, rfl, by go_num, HF.out.1, HF.out.2⟩
          case measure => simp [intOf]; omega
      · obtain rfl : j = J := by omega
        have hst := stands_any B1 B2 _ _ wr hp
        have HT : Hid (Below w.heap.size w wr) := hT
        clear hp hT hb7 hb8 HL HOP HW
        go_wp2_with fail
        refine hst.mono ?_
        rintro e ws ⟨rfl, hs⟩
        have hTs := HT.out.trans (hs.mono HT.out.size)
        clear hst hs
        go_wp2_with fail
        refine (awake_any _).mono ?_
        rintro e wz ⟨rfl, hk⟩
        have HF : Hid (Below w.heap.size w wz) := hTs.trans (hk.mono hTs.size)
        clear hTs hk
        go_wp2
        go_ret
        exact ⟨rfl, HF.out⟩
end Go.Proofs.Ytmnojmcbghdciaa
