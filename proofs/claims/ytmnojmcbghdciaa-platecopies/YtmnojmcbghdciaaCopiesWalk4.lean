/- The law PlateCopies, called with any number and any three scripts, returns true, and changes nothing that was there. -/
import Derived.Test.YtmnojmcbghdciaaPlaysWalk4
import Derived.Test.YtmnojmcbghdciaaPlRefCopy
namespace Go.Proofs.Ytmnojmcbghdciaa
open Go.RowKit

/-- Two pairs of devices, all apart. -/
def Duo (base : Nat) (w : World) (B1 B2 B3 B4 : Nat) (S T : PS) : Prop := ∃ Fa Fb, PairF w Fa B1 B2 S S ∧ PairF w Fb B3 B4 T T ∧ (∀ k, Fa k → base ≤ k ∧ k < w.heap.size) ∧ (∀ k, Fb k → base ≤ k ∧ k < w.heap.size) ∧ ∀ k, Fa k → ¬ Fb k
theorem Duo.base {base B1 B2 B3 B4 : Nat} {w : World} {S T : PS} (h : Duo base w B1 B2 B3 B4 S T) : base ≤ w.heap.size := by
  obtain ⟨Fa, Fb, ⟨F1, F2, h1, _, s1, _⟩, _, ha, _⟩ := h
  obtain ⟨K, N, wv, hp⟩ := h1
  have := ha _ (s1 _ hp.fB)
  omega
theorem Duo.swap {base B1 B2 B3 B4 : Nat} {w : World} {S T : PS} (h : Duo base w B1 B2 B3 B4 S T) : Duo base w B3 B4 B1 B2 T S := by
  obtain ⟨Fa, Fb, h1, h2, ha, hb, dj⟩ := h
  exact ⟨Fb, Fa, h2, h1, hb, ha, fun k x y => dj k y x⟩
theorem duo_step (base B1 B2 B3 B4 : Nat) (S T : PS) (x : OpT) (hat : x.at_ < 9223372036854775808) (w : World) (hp : Duo base w B1 B2 B3 B4 S T) (hw : S.wait.length ≤ 1000000) (hk : Bools w (fun k => base ≤ k) x.kv x.keep) :
    Calls Try.prog 17 #[.pointer (some ⟨B1, 0, none⟩), .pointer (some ⟨B2, 0, none⟩), opV x] w fun e w' => e = .returned (.bool true) ∧ Duo base w' B1 B2 B3 B4 (stepP S x) T ∧ Below base w w' := by
  have hb := hp.base
  obtain ⟨Fa, Fb, h1, h2, ha, hbb, dj⟩ := hp
  refine (step_any B1 B2 S x hat Fa w h1 hw (hk.mono fun k _ h => (ha k h).1)).mono fun e w' ⟨he, q1, q2⟩ => ⟨he, ⟨_, Fb, q1, h2.keep q2.size fun k hk' hf => q2.2 k hk' fun hx => dj k hx hf, fun k hx => ?_, fun k hx => ?_, fun k hx hf => ?_⟩, q2.below hb fun k hx => (ha k hx).1⟩
  · have := q2.size
    rcases hx with h | h
    · have := ha k h; omega
    · omega
  · have := q2.size
    have := hbb k hx
    omega
  · rcases hx with h | h
    · exact dj k h hf
    · have := hbb k hf; omega
def playT (S : PS) (l : List OpT) : Nat → PS
  | 0 => S
  | j + 1 => if j < l.length then stepP (playT S l j) (l.getD j default) else playT S l j
theorem playT_wait (S : PS) (l : List OpT) (h : S.wait.length ≤ 40) : ∀ j, (playT S l j).wait.length ≤ 40 + j
  | 0 => h
  | j + 1 => by
    have := playT_wait S l h j
    have h2 := step_wait (playT S l j) (l.getD j default)
    simp only [playT]
    split <;> omega
/-- What a script says at a place, in a later world of the call. -/
structure Says (w : World) (oa : Option Addr) (l : List OpT) (j : Nat) : Prop where
  step : ∃ g o, oa = some ⟨g, o, none⟩ ∧ ∃ kd at_ len v ok ck keep, l.getD j default = ⟨kd, at_, len, v, .slice ok (keep : List Bool).length ck, keep⟩ ∧ at_ < 9223372036854775808 ∧ ∀ w', Below w.heap.size w w' → (w'.cell? ⟨g, o + j * 5, none⟩ = some (.int .i64 kd) ∧ w'.cell? ⟨g, o + j * 5 + 1, none⟩ = some (.int .i64 at_) ∧ w'.cell? ⟨g, o + j * 5 + 2, none⟩ = some (.int .i64 len) ∧ w'.cell? ⟨g, o + j * 5 + 3, none⟩ = some (.int .u8 (v : Nat)) ∧ w'.cell? ⟨g, o + j * 5 + 4, none⟩ = some (.slice ok keep.length ck)) ∧ Bools w' (fun k => w.heap.size ≤ k) (.slice ok keep.length ck) keep
theorem says_of {w : World} {oa : Option Addr} {ca j : Nat} {l : List OpT} (h : Ops w (.slice oa l.length ca) l) (hj : j < l.length) : Says w oa l j := by
  obtain ⟨g, o, e, hg, hx⟩ := h.get (by omega)
  have hop := hx j _ (show l[j]? = some (l.getD j default) by rw [List.getD_eq_getElem?_getD, List.getElem?_eq_getElem hj]; rfl)
  obtain ⟨x, hxe⟩ : ∃ x, l.getD j default = x := ⟨_, rfl⟩
  rw [hxe] at hop
  obtain ⟨kd, at_, len, v, kv, keep⟩ := x
  obtain ⟨ok, ck, hkv⟩ := hop.bools.form
  have hkv : kv = .slice ok keep.length ck := hkv
  subst hkv
  have hat : at_ < 9223372036854775808 := by
    have := hop.wat
    simp [Lit.wf, IntKind.min, IntKind.max, IntKind.signed, IntKind.bits] at this
    omega
  exact ⟨g, o, e, kd, at_, len, v, ok, ck, keep, hxe, hat, fun w' hb => ⟨hop.later hg hb, bools_far hop.bools (fun k hk _ => hb.block k hk) hb.size fun _ _ hf => hf⟩⟩

set_option maxRecDepth 10000 in
set_option maxHeartbeats 4000000 in
theorem walk_plateCopies (a0 : Int) (v1 : Value) (l1 : List OpT) (v2 : Value) (l2 : List OpT) (v3 : Value) (l3 : List OpT) (_ : (Lit.int .i64 a0).wf = true) (w : World) (hl1 : Ops w v1 l1) (hl2 : Ops w v2 l2) (hl3 : Ops w v3 l3) :
    Calls Try.prog 8 #[.int .i64 a0, v1, v2, v3] w fun e w' => e = .returned (.bool true) ∧ Below w.heap.size w w' := by
  obtain ⟨o1, c1, rfl⟩ := hl1.form
  obtain ⟨o2, c2, rfl⟩ := hl2.form
  obtain ⟨o3, c3, rfl⟩ := hl3.form
  by_cases h0 : a0 < 0 ∨ 32768 < a0
  · clear hl1 hl2 hl3
    go_enter Try.func8, Try.ntmps8
    go_wp2_with fail
    refine (new_bad a0 h0 w).mono ?_
    rintro e w1 ⟨rfl, rfl⟩
    go_wp2_with fail
    refine (rnew_bad a0 h0 _).mono ?_
    rintro e w2 ⟨rfl, rfl⟩
    go_wp2_with fail
    refine (awake_any _).mono ?_
    rintro e w2 ⟨rfl, hb2⟩
    go_wp2
    go_ret
    exact ⟨rfl, hb2⟩
  obtain ⟨n, rfl⟩ : ∃ n : Nat, a0 = n := ⟨a0.toNat, by omega⟩
  have hn : n ≤ 32768 := by omega
  clear h0
  by_cases h1 : (20 : Int) < n
  · clear hl1 hl2 hl3
    go_enter Try.func8, Try.ntmps8
    go_wp2_with fail
    refine (new_any n hn w).mono ?_
    rintro e w1 ⟨B, rfl, hp, hb⟩
    go_wp2_with fail
    refine (rnew_any n hn w1).mono ?_
    rintro e w2 ⟨B2, rfl, hp2, hb2⟩
    go_wp2_with fail
    refine (awake_any _).mono ?_
    rintro e w3 ⟨rfl, hb3⟩
    have hb12 := hb.trans (hb2.mono hb.size)
    have HT : Hid (Below w.heap.size w w3) := hb12.trans (hb3.mono hb12.size)
    clear hp hb hb2 hp2 hb3 hb12
    go_wp2
    go_ret
    exact ⟨rfl, HT.out⟩
  have H1 : Hid (∀ j, j < l1.length → Says w o1 l1 j) := fun j hj => says_of hl1 hj
  have H2 : Hid (∀ j, j < l2.length → Says w o2 l2 j) := fun j hj => says_of hl2 hj
  have H3 : Hid (∀ j, j < l3.length → Says w o3 l3 j) := fun j hj => says_of hl3 hj
  clear hl1 hl2 hl3
  obtain ⟨J, hJ, hcase⟩ : ∃ J, (J ≤ l1.length ∧ J ≤ 40) ∧ ((¬ (J : Int) < (l1.length : Nat)) ∨ ((J : Int) < (l1.length : Nat) ∧ ¬ (J : Int) < 40)) := ⟨min l1.length 40, by omega, by omega⟩
  have HW : Hid (∀ j, (playS (newP n) l1 j).wait.length ≤ j) := play_wait _ l1 (by simp [newP])
  rcases hcase with hcs | ⟨hcs, hcs2⟩
  all_goals
    go_enter Try.func8, Try.ntmps8
    go_wp2_with fail
    refine (new_any n hn w).mono ?_
    rintro e wa ⟨B1, rfl, hp, hb⟩
    go_wp2_with fail
    refine (rnew_any n hn wa).mono ?_
    rintro e wb ⟨B2, rfl, hp2, hb2⟩
    have HB : Hid (PairF wb (fun k => w.heap.size ≤ k) B1 B2 (playS (newP n) l1 0) (playS (newP n) l1 0) ∧ Below w.heap.size w wb) := ⟨pair_new hp hb hp2 hb2, hb.trans (hb2.mono hb.size)⟩
    clear hp hb hp2 hb2
    go_wp2_with fail
    go_loopw [13] (fun v wr => ∃ j : Nat, j ≤ J ∧ v = .int .i64 j ∧ PairF wr (fun k => w.heap.size ≤ k) B1 B2 (playS (newP n) l1 j) (playS (newP n) l1 j) ∧ Below w.heap.size w wr) (fun v _ => J - (intOf v).toNat)
    case atStart => exact ⟨0, Nat.zero_le _, rfl, HB.out.1, HB.out.2⟩
    case round =>
      clear HB
      obtain ⟨j, hj, rfl, hp, hT⟩ := hrel
      by_cases hlt : j < J
      · have j1 : (j : Int) < (l1.length : Nat) := by omega
        have j2 : (j : Int) < 40 := by omega
        have hle := HW.out j
        obtain ⟨g, o, rfl, kd, at_, len, v, ok, ck, keep, hxe, hat, hlater⟩ := (H1.out j (by omega)).step
        obtain ⟨⟨d0, d1, d2, d3, d4⟩, hbo⟩ := hlater wr hT
        have hst : Calls Try.prog 17 #[.pointer (some ⟨B1, 0, none⟩), .pointer (some ⟨B2, 0, none⟩), .agg #[.int .i64 kd, .int .i64 at_, .int .i64 len, .int .u8 (v : Nat), .slice ok keep.length ck]] wr fun e w' => e = .returned (.bool true) ∧ PairF w' (fun k => w.heap.size ≤ k) B1 B2 (playS (newP n) l1 (j + 1)) (playS (newP n) l1 (j + 1)) ∧ Below w.heap.size w w' := by
          refine (step_any B1 B2 _ ⟨kd, at_, len, v, .slice ok keep.length ck, keep⟩ hat _ wr hp (by omega) hbo).mono fun e w' ⟨he, h1, h2⟩ => ⟨he, ?_, hT.trans (h2.below hT.size fun _ h => h)⟩
          have hts := hT.size
          show PairF w' _ B1 B2 (stepP (playS (newP n) l1 j) (l1.getD j default)) (stepP (playS (newP n) l1 j) (l1.getD j default))
          rw [hxe]
          exact h1.mono fun k _ hk => hk.elim id fun x => by have := x.1; omega
        clear hp hT hbo hlater hxe
        go_wp2_with fail
        refine hst.mono ?_
        rintro e wi ⟨rfl, hpi, hTi⟩
        have HF : Hid (PairF wi (fun k => w.heap.size ≤ k) B1 B2 (playS (newP n) l1 (j + 1)) (playS (newP n) l1 (j + 1)) ∧ Below w.heap.size w wi) := ⟨hpi, hTi⟩
        clear hst hpi hTi
        go_wp2
        go_roundw
        case rel => exact ⟨j + 1, by omega, by go_num, HF.out.1, HF.out.2⟩
        case measure => simp [intOf]; omega
      · obtain rfl : j = J := by omega
        have hle := HW.out j
        generalize playS (newP n) l1 j = S at *
        obtain ⟨F1, F2, q1, q2, s1, s2, dj, lt⟩ := hp
        have hcp := copy_any B1 F1 S wr q1 (by omega)
        clear HW H1
        go_wp2_with fail
        refine hcp.mono ?_
        rintro e wc ⟨B3, rfl, hpc, hbc⟩
        clear hcp
        have hq2 : RefP wc F2 B2 S := q2.keep fun k hk _ => hbc.block k hk
        have hrc := rcopy_any B2 F2 S wc hq2 (by omega)
        go_wp2_with fail
        refine hrc.mono ?_
        rintro e wd ⟨B4, rfl, hpd, hbd⟩
        clear hrc
        have z1 := hbc.size
        have z2 := hbd.size
        have z3 := hT.size
        have HD : Hid (Duo w.heap.size wd B1 B2 B3 B4 (playT S l2 0) (playT S l3 0) ∧ Below w.heap.size w wd) := by
          have hTd : Below w.heap.size w wd := (hT.trans (hbc.mono hT.size)).trans (hbd.mono (Nat.le_trans z3 z1))
          refine ⟨⟨fun k => F1 k ∨ F2 k, fun k => wr.heap.size ≤ k ∧ k < wd.heap.size, ⟨F1, F2, (q1.below hbc).below hbd, hq2.keep fun k hk _ => hbd.block k hk, fun _ h => .inl h, fun _ h => .inr h, dj, fun k h => by have := lt k h; omega⟩, ⟨_, _, hpc.below hbd, hpd, fun k h => ⟨h.1, by have := h.2; omega⟩, fun k h => ⟨by have := h.1; omega, h.2⟩, fun k h1 h2 => by have := h1.2; have := h2.1; omega, fun k h => ?_⟩, fun k h => ?_, fun k h => ⟨by have := h.1; omega, h.2⟩, fun k h h2 => ?_⟩, hTd⟩
          · rcases h with h | h
            · have := h.2; omega
            · exact h.2
          · have := lt k h
            rcases h with h | h
            · exact ⟨s1 k h, by omega⟩
            · exact ⟨s2 k h, by omega⟩
          · have := lt k h
            have := h2.1
            omega
        clear q1 q2 s1 s2 dj lt hpc hbc hq2 hpd hbd hT z1 z2 z3
        have HWT : Hid ((∀ m, (playT S l2 m).wait.length ≤ 40 + m) ∧ ∀ m, (playT S l3 m).wait.length ≤ 40 + m) := ⟨playT_wait S l2 (by omega), playT_wait S l3 (by omega)⟩
        generalize wr = wr0 at *
        go_wp2_with fail
        go_loopw [16] (fun v wq => ∃ m : Nat, m ≤ 40 ∧ v = .int .i64 m ∧ Duo w.heap.size wq B1 B2 B3 B4 (playT S l2 m) (playT S l3 m) ∧ Below w.heap.size w wq) (fun v _ => 40 - (intOf v).toNat)
        case atStart => exact ⟨0, Nat.zero_le _, rfl, HD.out.1, HD.out.2⟩
        case round =>
          clear HD
          obtain ⟨m, hm, rfl, hd, hT⟩ := hrel
          by_cases hlt : m < 40
          · have m1 : (m : Int) < 40 := by omega
            obtain ⟨hw2, hw3⟩ := HWT.out
            have hw2 := hw2 m
            have hw3 := hw3 m
            by_cases hm2 : m < l2.length
            case' pos =>
              have k1 : (m : Int) < (l2.length : Nat) := by omega
              obtain ⟨g, o, rfl, kd, at_, len, v, ok, ck, keep, hxe, hat, hlater⟩ := (H2.out m hm2).step
              obtain ⟨⟨d0, d1, d2, d3, d4⟩, hbo⟩ := hlater wr hT
              have hst : Calls Try.prog 17 #[.pointer (some ⟨B1, 0, none⟩), .pointer (some ⟨B2, 0, none⟩), .agg #[.int .i64 kd, .int .i64 at_, .int .i64 len, .int .u8 (v : Nat), .slice ok keep.length ck]] wr fun e w' => e = .returned (.bool true) ∧ Duo w.heap.size w' B1 B2 B3 B4 (playT S l2 (m + 1)) (playT S l3 m) ∧ Below w.heap.size w w' := by
                refine (duo_step _ B1 B2 B3 B4 _ _ ⟨kd, at_, len, v, .slice ok keep.length ck, keep⟩ hat wr hd (by omega) hbo).mono fun e w' ⟨he, h1, h2⟩ => ⟨he, ?_, hT.trans h2⟩
                rw [show playT S l2 (m + 1) = stepP (playT S l2 m) (l2.getD m default) by simp only [playT, hm2, if_true], hxe]
                exact h1
              clear hd hT hbo hlater hxe
              go_wp2_with fail
              refine hst.mono ?_
              rintro e wi ⟨rfl, hdi, hTi⟩
              clear hst d0 d1 d2 d3 d4
            case' neg =>
              have k1 : ¬ (m : Int) < (l2.length : Nat) := by omega
              have hdi : Duo w.heap.size wr B1 B2 B3 B4 (playT S l2 (m + 1)) (playT S l3 m) := by
                rw [show playT S l2 (m + 1) = playT S l2 m by simp only [playT, hm2, if_false]]
                exact hd
              have hTi := hT
              clear hd hT
              generalize wr = wi at *
            all_goals
              by_cases hm3 : m < l3.length
              · have k2 : (m : Int) < (l3.length : Nat) := by omega
                obtain ⟨g', o', rfl, kd', at', len', v', ok', ck', keep', hxe', hat', hlater'⟩ := (H3.out m hm3).step
                obtain ⟨⟨d0', d1', d2', d3', d4'⟩, hbo'⟩ := hlater' wi hTi
                have hst' : Calls Try.prog 17 #[.pointer (some ⟨B3, 0, none⟩), .pointer (some ⟨B4, 0, none⟩), .agg #[.int .i64 kd', .int .i64 at', .int .i64 len', .int .u8 (v' : Nat), .slice ok' keep'.length ck']] wi fun e w' => e = .returned (.bool true) ∧ Duo w.heap.size w' B1 B2 B3 B4 (playT S l2 (m + 1)) (playT S l3 (m + 1)) ∧ Below w.heap.size w w' := by
                  refine (duo_step _ B3 B4 B1 B2 _ _ ⟨kd', at', len', v', .slice ok' keep'.length ck', keep'⟩ hat' wi hdi.swap (by omega) hbo').mono fun e w' ⟨he, h1, h2⟩ => ⟨he, ?_, hTi.trans h2⟩
                  rw [show playT S l3 (m + 1) = stepP (playT S l3 m) (l3.getD m default) by simp only [playT, hm3, if_true], hxe']
                  exact h1.swap
                clear hdi hTi hbo' hlater' hxe'
                go_wp2_with fail
                refine hst'.mono ?_
                rintro e wk ⟨rfl, hdk, hTk⟩
                have HF : Hid (Duo w.heap.size wk B1 B2 B3 B4 (playT S l2 (m + 1)) (playT S l3 (m + 1)) ∧ Below w.heap.size w wk) := ⟨hdk, hTk⟩
                clear hst' hdk hTk
                go_wp2
                go_roundw
                case rel => exact ⟨m + 1, by omega, by go_num, HF.out.1, HF.out.2⟩
                case measure => simp [intOf]; omega
              · have k2 : ¬ (m : Int) < (l3.length : Nat) := by omega
                have HF : Hid (Duo w.heap.size wi B1 B2 B3 B4 (playT S l2 (m + 1)) (playT S l3 (m + 1)) ∧ Below w.heap.size w wi) := ⟨by
                  rw [show playT S l3 (m + 1) = playT S l3 m by simp only [playT, hm3, if_false]]
                  exact hdi, hTi⟩
                clear hdi hTi
                go_wp2
                go_roundw
                case rel => exact ⟨m + 1, by omega, by go_num, HF.out.1, HF.out.2⟩
                case measure => simp [intOf]; omega
          · obtain rfl : m = 40 := by omega
            obtain ⟨Fa, Fb, p1, p2, _⟩ := hd
            have hs1 := stands_any B1 B2 _ _ wr p1
            have HT : Hid (Below w.heap.size w wr ∧ PairF wr Fb B3 B4 (playT S l3 40) (playT S l3 40)) := ⟨hT, p2⟩
            clear hT p1 p2 H2 H3 HWT
            go_wp2_with fail
            refine hs1.mono ?_
            rintro e ws ⟨rfl, hs⟩
            have hTs := HT.out.1.trans (hs.mono HT.out.1.size)
            have hs2 := stands_any B3 B4 _ _ ws (HT.out.2.keep hs.size fun k hk _ => hs.block k hk)
            clear hs1 hs
            go_wp2_with fail
            refine hs2.mono ?_
            rintro e wt ⟨rfl, hs⟩
            have hTt := hTs.trans (hs.mono hTs.size)
            clear hs2 hs hTs
            go_wp2_with fail
            refine (awake_any _).mono ?_
            rintro e wz ⟨rfl, hk⟩
            have HF : Hid (Below w.heap.size w wz) := hTt.trans (hk.mono hTt.size)
            clear hTt hk
            go_wp2
            go_ret
            exact ⟨rfl, HF.out⟩
end Go.Proofs.Ytmnojmcbghdciaa
