/- tree's leads and below. -/
import Derived.Test.YtgokehbdappcdaaDoorMg12
import Derived.Laws.AppendOwnNone
import Derived.OwnWalk
namespace Go.Proofs.YtgokehbdappcdaaDoor
set_option maxRecDepth 20000
open Go.RowKit

instance : Inhabited Stp := ⟨⟨0, []⟩⟩
def leadGo : Nat → Nat → List Stp → Bool
  | _, _, [] => true
  | n, i, s :: p => fitsB s n i && leadGo (upN n) (i / 4) p
theorem leadGo_iff : ∀ (p : List Stp) (n i : Nat), leadGo n i p = true ↔ ∀ (k : Nat) (s : Stp), p[k]? = some s → fitP s (upK n k) (iK i k)
  | [], n, i => by simp [leadGo]
  | s :: p, n, i => by
    rw [leadGo, Bool.and_eq_true, fitsB_iff, leadGo_iff p]
    constructor
    · rintro ⟨h1, h2⟩ k t ht
      cases k with
      | zero => obtain rfl := Option.some.inj ht; exact h1
      | succ k => rw [upK_succ, iK_succ]; exact h2 k t ht
    · intro h
      refine ⟨h 0 s rfl, fun k t ht => ?_⟩
      rw [← upK_succ, ← iK_succ]
      exact h (k + 1) t ht
def leadB (n i : Nat) (p : List Stp) : Bool := decide (p.length = hgt n) && leadGo n i p
theorem leadB_iff {n i : Nat} {p : List Stp} : leadB n i p = true ↔ leadP n i p := by
  unfold leadB leadP
  rw [Bool.and_eq_true, decide_eq_true_eq, leadGo_iff]
/-- A step in memory; a path. -/
def StepIn (w : World) (G : Nat → Prop) (bk o : Nat) (s : Stp) : Prop := w.cell? ⟨bk, o, none⟩ = some (.int .i64 s.at_) ∧ ∃ ob cb, w.cell? ⟨bk, o + 1, none⟩ = some (.slice ob s.sides.length cb) ∧ s.sides.length ≤ cb ∧ cb ≤ 140737488355328 ∧ (ob = none → cb = 0) ∧ ∀ i x, s.sides[i]? = some x → ∃ b2 o2, ob = some ⟨b2, o2, none⟩ ∧ b2 < w.heap.size ∧ ¬ G b2 ∧ w.cell? ⟨b2, o2 + i, none⟩ = some (.string x)
def PathIn (w : World) (G : Nat → Prop) (oa : Option Addr) (p : List Stp) : Prop := ∀ k s, p[k]? = some s → ∃ bk o, oa = some ⟨bk, o, none⟩ ∧ bk < w.heap.size ∧ ¬ G bk ∧ StepIn w G bk (o + k * 2) s
theorem StepIn.touch {w w' : World} {G : Nat → Prop} {bk o : Nat} {s : Stp} (h : StepIn w G bk o s) (t : Touch G w w') (hb : bk < w.heap.size) (hg : ¬ G bk) : StepIn w' G bk o s := by
  obtain ⟨h1, ob, cb, h2, h3, h4, h5, h6⟩ := h
  refine ⟨(World.cell?_of_block (a := ⟨bk, o, none⟩) (t.2 bk hb hg)).trans h1, ob, cb, (World.cell?_of_block (a := ⟨bk, o + 1, none⟩) (t.2 bk hb hg)).trans h2, h3, h4, h5, fun i x hx => ?_⟩
  obtain ⟨b2, o2, e1, e2, e3, e4⟩ := h6 i x hx
  exact ⟨b2, o2, e1, Nat.lt_of_lt_of_le e2 t.size, e3, (World.cell?_of_block (a := ⟨b2, o2 + i, none⟩) (t.2 b2 e2 e3)).trans e4⟩
theorem PathIn.touch {w w' : World} {G : Nat → Prop} {oa : Option Addr} {p : List Stp} (h : PathIn w G oa p) (t : Touch G w w') : PathIn w' G oa p := fun k s hs => by
  obtain ⟨bk, o, h1, h2, h3, h4⟩ := h k s hs
  exact ⟨bk, o, h1, Nat.lt_of_lt_of_le h2 t.size, h3, h4.touch t h2 h3⟩
theorem cell_kept_2 {w w' : World} {b : Nat} (h : w'.heap[b]? = w.heap[b]?) (i : Nat) : w'.cell? ⟨b, i, none⟩ = w.cell? ⟨b, i, none⟩ := World.cell?_of_block (a := ⟨b, i, none⟩) h
theorem owns_slice3 {w : World} {b : Nat} {e : TypeId} {z n : Nat} {v : Value} {xs : List Value} (h : w.ownsRow b e z v n xs) : ∃ oa cap, v = .slice oa n cap := by
  rcases h.2 with ⟨rfl, rfl⟩ | ⟨g, cap, cur, rfl, _⟩
  · exact ⟨none, 0, rfl⟩
  · exact ⟨_, cap, rfl⟩
theorem drop_step {p : List Stp} {k : Nat} {s : Stp} (h : p[k]? = some s) : p.drop k = s :: p.drop (k + 1) := by
  obtain ⟨hk, e⟩ := List.getElem?_eq_some_iff.1 h
  rw [List.drop_eq_getElem_cons hk, e]
set_option maxHeartbeats 1000000 in
theorem leads_any (n i : Nat) (hn : n ≤ 1000000) (hi : i < n) (G : Nat → Prop) (oa : Option Addr) (c : Nat) (p : List Stp) (hp : p.length ≤ 1000000) (w : World) (hP : PathIn w G oa p) :
    Calls Tryd.prog 28 #[.int .i64 (n : Int), .int .i64 (i : Int), .slice oa p.length c] w fun e w' => e = .returned (.bool (leadB n i p)) ∧ Below w.heap.size w w' := by
  have hh := fun w => height_any n (by omega) w
  obtain ⟨m, hm⟩ : ∃ m, m = p.length := ⟨_, rfl⟩
  have HM : Hid (m = p.length) := hm
  have HL : Hid (leadB n i p = (decide (m = hgt n) && leadGo n i p)) := by rw [hm]; rfl
  rw [← hm] at hp ⊢
  generalize leadB n i p = R at *
  clear hm
  have hgl := hgt_le n
  by_cases hmn : m = hgt n
  case neg =>
    obtain rfl : R = false := by rw [HL.out, decide_eq_false hmn]; rfl
    have h2 : (((m : Nat) : Int) != (hgt n : Nat)) = true := bne_iff_ne.2 (by omega)
    generalize hgt n = q at *
    clear HL
    go_enter Tryd.func28, Tryd.ntmps28
    go_wp2_with fail
    refine (hh _).mono ?_
    rintro e w1 ⟨rfl, rfl⟩
    go_wp2
    go_ret
    exact ⟨rfl, Below.refl _ _⟩
  have HL2 : Hid (leadGo n i p = R) := by rw [HL.out, decide_eq_true hmn]; rfl
  rw [← hmn] at hh
  clear HL hmn hgl
  go_enter Tryd.func28, Tryd.ntmps28
  go_wp2_with fail
  refine (hh _).mono ?_
  rintro e w1 ⟨rfl, rfl⟩
  clear hh
  go_wp2_with fail
  go_loopw [0, 1, 15] (fun nv iv kv wr => ∃ k : Nat, k ≤ m ∧ kv = .int .i64 (k : Int) ∧ nv = .int .i64 (upK n k : Nat) ∧ iv = .int .i64 (iK i k : Nat) ∧ leadGo (upK n k) (iK i k) (p.drop k) = R ∧ Below w1.heap.size w1 wr) (fun _ _ kv _ => m - (intOf kv).toNat)
  case atStart => exact ⟨0, Nat.zero_le _, rfl, rfl, rfl, HL2.out, Below.refl _ _⟩
  case round =>
    clear HL2
    obtain ⟨k, hk, rfl, rfl, rfl, hgo, hb⟩ := hrel
    by_cases hlt : k < m
    · have k1 : (k : Int) < m := by omega
      have hkl : k < p.length := by rw [← HM.out]; exact hlt
      obtain ⟨s, hs⟩ : ∃ s, p[k]? = some s := ⟨_, List.getElem?_eq_getElem hkl⟩
      obtain ⟨bk, of, rfl, hbk, hgk, hst⟩ := hP k s hs
      have hst2 : StepIn wr (fun _ => False) bk (of + k * 2) s := by
        obtain ⟨h1, ob, cb, h2, h3, h4, h5, h6⟩ := hst
        exact StepIn.touch (G := fun _ => False) ⟨h1, ob, cb, h2, h3, h4, h5, fun i x hx => by obtain ⟨b2, o2, e1, e2, e3, e4⟩ := h6 i x hx; exact ⟨b2, o2, e1, e2, fun h => h, e4⟩⟩ (Touch.of_below hb) hbk fun h => h
      obtain ⟨c1, ob, cb, c2, h3, h4, h5, h6⟩ := hst2
      have hul := upK_le n k
      have hil := iK_lt hi k
      have hft := fits_any s ob cb (upK n k) (iK i k) (by omega) hil (by omega) wr fun j x hx => by
        obtain ⟨b2, o2, e1, e2, _, e4⟩ := h6 j x hx
        exact ⟨b2, o2, e1, e2, e4⟩
      rw [drop_step hs] at hgo
      have HGO : Hid ((fitsB s (upK n k) (iK i k) && leadGo (upK n (k + 1)) (iK i (k + 1)) (p.drop (k + 1))) = R) := hgo
      have ha := fun w => above_any (upK n k) (by omega) w
      have m1 : ((iK i k : Nat) : Int).tdiv 4 = ((iK i (k + 1) : Nat) : Int) := by rw [Int.tdiv_eq_ediv_of_nonneg (by omega)]; show _ = ((iK i k / 4 : Nat) : Int); omega
      have m2 : ((iK i k : Nat) : Int) / 4 = ((iK i (k + 1) : Nat) : Int) := by show _ = ((iK i k / 4 : Nat) : Int); omega
      have m3 : IntKind.i64.wrap ((iK i (k + 1) : Nat) : Int) = ((iK i (k + 1) : Nat) : Int) := by
        have : iK i (k + 1) ≤ iK i k := Nat.div_le_self _ _
        rw [IntKind.wrap_i64]
        omega
      have eu : upN (upK n k) = upK n (k + 1) := rfl
      rw [eu] at ha
      have HB : Hid (Below w1.heap.size w1 wr) := hb
      generalize fitsB s (upK n k) (iK i k) = fb at *
      generalize s.sides.length = sl at *
      generalize s.at_ = sa at *
      obtain ⟨n1, hn1⟩ : ∃ x, x = upK n (k + 1) := ⟨_, rfl⟩
      obtain ⟨i1, hi1⟩ : ∃ x, x = iK i (k + 1) := ⟨_, rfl⟩
      have HN1 : Hid (n1 = upK n (k + 1) ∧ i1 = iK i (k + 1)) := ⟨hn1, hi1⟩
      rw [← hn1] at ha
      rw [← hi1] at m1 m2 m3
      generalize upK n k = nk at *
      generalize iK i k = ik at *
      clear hst h6 hgo hb eu hn1 hi1 h5 hP hs
      cases fb
      · obtain rfl : R = false := HGO.out.symm
        clear HGO
        go_wp2_with fail
        refine hft.mono ?_
        rintro e w2 ⟨rfl, hb2⟩
        have HF : Hid (Below w1.heap.size w1 w2) := HB.out.trans (hb2.mono HB.out.size)
        clear hb2
        go_wp2
        go_ret
        exact ⟨rfl, HF.out⟩
      · go_wp2_with fail
        refine hft.mono ?_
        rintro e w2 ⟨rfl, hb2⟩
        have HF : Hid (Below w1.heap.size w1 w2) := HB.out.trans (hb2.mono HB.out.size)
        clear hb2
        go_wp2_with fail
        refine (ha _).mono ?_
        rintro e w3 ⟨rfl, rfl⟩
        go_wp2
        go_roundw
        case rel => exact ⟨k + 1, by omega, by go_num, by rw [HN1.out.1], by rw [HN1.out.2], HGO.out, HF.out⟩
        case measure => simp [intOf]; omega
    · obtain rfl : k = m := by omega
      have k1 : ¬ (k : Int) < k := by omega
      have hd : p.drop k = [] := List.drop_of_length_le (by rw [HM.out]; exact Nat.le_refl _)
      rw [hd] at hgo
      obtain rfl : R = true := hgo.symm
      have HB : Hid (Below w1.heap.size w1 wr) := hb
      clear hgo hb
      generalize upK n k = nk at *
      generalize iK i k = ik at *
      go_wp2
      go_ret
      exact ⟨rfl, HB.out⟩
set_option maxHeartbeats 1000000 in
theorem below_any (s : Stp) (x : ByteArray) (ob : Option Addr) (cb m : Nat) (hm : s.at_ = (m : Nat)) (hml : m ≤ s.sides.length) (hl : s.sides.length ≤ 3) (hcb : s.sides.length ≤ cb) (hcb2 : cb ≤ 140737488355328) (hob : ob = none → cb = 0) (w : World) (hs : Sd w ob s.sides) :
    Calls Tryd.prog 30 #[.agg #[.int .i64 s.at_, .slice ob s.sides.length cb], .string x] w fun e w' => (∃ g cap, e = .returned (.slice (some ⟨g, 0, none⟩) (below s x).length cap) ∧ (below s x).length ≤ cap ∧ g < w'.heap.size ∧ ∀ j y, (below s x)[j]? = some y → w'.cell? ⟨g, 0 + j, none⟩ = some (.string y)) ∧ Below w.heap.size w w' := by
  obtain ⟨i0, hi, hz0, hz1, hz2⟩ := info_parts tr_info_string
  have HBl : Hid (below s x = s.sides.take m ++ x :: s.sides.drop m) := by show _ = _; unfold below; rw [hm, Int.toNat_natCast]
  have HFin : Hid (∀ bb w' v, w'.ownsRow bb 9 1 v (below s x).length ((below s x).map Value.string) → Below w.heap.size w w' → (∃ g cap, v = .slice (some ⟨g, 0, none⟩) (below s x).length cap ∧ (below s x).length ≤ cap ∧ g < w'.heap.size ∧ ∀ j y, (below s x)[j]? = some y → w'.cell? ⟨g, 0 + j, none⟩ = some (.string y)) ∧ Below w.heap.size w w') := fun bb w' v ho hb => by
    have hpos : 0 < (below s x).length := by rw [below_length]; omega
    have ho' : w'.ownsRow 0 9 1 v (below s x).length ((below s x).map Value.string) := by
      refine ⟨ho.1, ?_⟩
      rcases ho.2 with hn | ⟨g, cap, cur, rfl, h0, hg, hr⟩
      · exact .inl hn
      · exact .inr ⟨g, cap, cur, rfl, Nat.zero_le _, hg, hr⟩
    obtain ⟨g, cap, e, hc, hcell⟩ := owns_form ho' hpos
    refine ⟨⟨g, cap, e, hc, owns_lt ho' g (by rw [e]; rfl), fun j y hy => ?_⟩, hb⟩
    rw [Nat.zero_add]
    exact hcell j _ (by rw [List.getElem?_map, hy]; rfl)
  generalize below s x = Bl at *
  obtain ⟨w0, hw0⟩ : ∃ w0, w.alloc (.cells #[.int .i64 (m : Int), .slice ob s.sides.length cb] 41) = w0 := ⟨_, rfl⟩
  have g0 : w0.heap[w.heap.size]? = some (.cells #[.int .i64 (m : Int), .slice ob s.sides.length cb] 41 (0, 0)) := by rw [← hw0]; exact heap_alloc_new w _
  have hb0 : Below w.heap.size w w0 := by rw [← hw0]; exact (Below.refl _ _).alloc (Nat.le_refl _) _
  have HB0 : Hid (Below w.heap.size w w0) := hb0
  rw [hm]
  clear hb0
  cases ob with
  | none =>
    obtain rfl : cb = 0 := hob rfl
    have hn0 : s.sides.length = 0 := by omega
    have hn1 : s.sides = [] := List.eq_nil_of_length_eq_zero hn0
    obtain rfl : m = 0 := by omega
    rw [hn0] at g0 hw0 ⊢
    rw [show ((0 : Nat) : Int) = 0 from rfl] at g0 hw0 ⊢
    rw [hn1] at HBl
    clear hs hob hn0 hn1 hcb hcb2 hml hl hm
    have c0 : w0.cell? ⟨w.heap.size, 0, none⟩ = some (.int .i64 0) := cell_of_row _ _ _ _ _ _ g0
    have c1 : w0.cell? ⟨w.heap.size, 1, none⟩ = some (.slice none 0 0) := cell_of_row _ _ _ _ _ _ g0
    have l0 := lt_of_block g0
    go_enter Tryd.func30, Tryd.ntmps30
    go_wp2_with (at_make; refine wpList_make_own w0 rfl _ _ 22 rfl w.heap.size 9 i0 (.string ⟨#[]⟩) 1 Tryd.underlying22 hi hz0 hz1 .i64 .i64 4 4 rfl rfl rfl ?a1 ?a2 ?a3 ?_)
    case a1 => rw [hz2]; decide
    case a2 => decide
    case a3 => exact Nat.le_of_lt l0
    intro w1 hown1 hgrow1
    have hb1 : Below w0.heap.size w0 w1 := (Below.refl _ _).grown hgrow1 (Nat.le_refl _) (fun k hk => by simp at hk)
    replace c0 := (cell_kept_2 (hb1.block _ l0) 0).trans c0
    replace c1 := (cell_kept_2 (hb1.block _ l0) 1).trans c1
    have hw1 : Below w.heap.size w w1 := HB0.out.trans (hb1.mono HB0.out.size)
    have HW1 : Hid (Below w.heap.size w w1) := hw1
    have hl1 : w.heap.size < w1.heap.size := Nat.lt_of_lt_of_le l0 hb1.size
    clear hb1 hgrow1 hw0 g0 hw1
    obtain ⟨w2, hw2⟩ : ∃ w2, w1.alloc (.cells #[.string x] 9) = w2 := ⟨_, rfl⟩
    have hown2 : w2.ownsRow w.heap.size 9 1 (.slice (some ⟨w0.heap.size, 0, none⟩) 0 4) 0 [] := by rw [← hw2]; exact hown1.alloc _
    have hnews : ∀ j u, ([.string x] : List Value)[j]? = some u → w2.cell? ((⟨w1.heap.size, 0, none⟩ : Addr).add j) = some u := by rw [← hw2]; exact cell_one_new w1 (.string x) 9
    have hone : ∀ u ∈ ([.string x] : List Value), u.oneCell' = true := by intro u hu; simp at hu; rw [hu]; rfl
    have hb2 : Below w1.heap.size w1 w2 := by rw [← hw2]; exact (Below.refl _ _).alloc (Nat.le_refl _) _
    have l2 : w.heap.size ≤ w2.heap.size := Nat.le_trans (Nat.le_of_lt hl1) hb2.size
    clear hown1
    go_wp2_with (at_builtin; refine wpList_append_own _ rfl _ _ 22 rfl w.heap.size 9 i0 (.string ⟨#[]⟩) 1 16 Tryd.underlying22 hi hz0 hz1 hz2 rfl (by decide) _ 0 [] rfl hown2 ⟨w1.heap.size, 0, none⟩ 1 1 [.string x] rfl rfl ?b1 hone ?b2 ?b3 ?b4 ?_)
    case b1 => exact hnews
    case b2 => decide
    case b3 => decide
    case b4 => exact l2
    intro v3 w3 hown3 hgrow3 _
    have hb3 : Below w.heap.size w w3 := (HW1.out.trans (hb2.mono (Nat.le_of_lt hl1))).grown hgrow3 l2 (fun k hk => by
      rcases hown2.2 with ⟨e, _⟩ | ⟨g', cap, cur, e, hg', _⟩
      · cases e
      · simp [Value.ownBlock] at hk
        have e2 := Value.slice.inj e
        have e3 := congrArg Addr.block (Option.some.inj e2.1)
        simp at e3
        omega)
    have HB3 : Hid (Below w.heap.size w w3) := hb3
    replace c0 := (cell_kept_2 ((hgrow3.block _ (Nat.lt_of_lt_of_le hl1 hb2.size) (fun e => by simp [Value.ownBlock] at e; omega)).trans (hb2.block _ hl1)) 0).trans c0
    replace c1 := (cell_kept_2 ((hgrow3.block _ (Nat.lt_of_lt_of_le hl1 hb2.size) (fun e => by simp [Value.ownBlock] at e; omega)).trans (hb2.block _ hl1)) 1).trans c1
    have hBl1 : Bl = [x] := HBl.out
    obtain ⟨ov, cv, rfl⟩ := owns_slice3 hown3
    have HR : Hid _ := HFin.out _ w3 (.slice ov (0 + 1) cv) (by rw [hBl1]; exact hown3) hb3
    clear hgrow3 hb3 hb2 hown2 hnews hone hw2 HBl HFin hBl1
    go_wp2_with (at_builtin; refine wpList_append_own_none rfl _ _ 22 rfl w.heap.size 9 i0 1 Tryd.underlying22 hi (.slice ov 1 cv) 1 [.string x] rfl hown3 rfl ?_)
    go_wp2
    go_ret
    obtain ⟨⟨gg, cap, e, r⟩, hb⟩ := HR.out
    exact ⟨⟨gg, cap, congrArg Ending.returned e, r⟩, hb⟩
  | some ad =>
    obtain ⟨b2, o2, sp⟩ := ad
    obtain ⟨L, hL⟩ : ∃ L, L = s.sides.map Value.string := ⟨_, rfl⟩
    obtain ⟨n, hn⟩ : ∃ n, n = s.sides.length := ⟨_, rfl⟩
    have hLl : L.length = n := by rw [hL, hn, List.length_map]
    have HN : Hid (∀ w', Below w.heap.size w w' → ∀ j u, L[j]? = some u → w'.cell? ((⟨b2, o2, sp⟩ : Addr).add j) = some u) := fun w' hb j u hu => by
      rw [hL, List.getElem?_map] at hu
      obtain ⟨y, hy, rfl⟩ := Option.map_eq_some_iff.1 hu
      obtain ⟨b, of, e, hlt, hc⟩ := hs j y hy
      obtain ⟨rfl, rfl, rfl⟩ := Addr.mk.inj (Option.some.inj e)
      have h0 := (hb.cell (p := ⟨b2, o2 + j, none⟩) hlt).trans hc
      rw [Addr.add_lit]
      exact h0
    have h1c : ∀ u ∈ L, u.oneCell' = true := fun u hu => by
      rw [hL] at hu
      obtain ⟨y, _, rfl⟩ := List.mem_map.1 hu
      rfl
    have HBm : Hid (Bl.map Value.string = L.take m ++ [.string x] ++ L.drop m ∧ Bl.length = m + 1 + (n - m)) := by
      rw [HBl.out, hL, hn]
      refine ⟨by simp, by simp; omega⟩
    rw [← hn] at g0 hw0 hml hl hcb ⊢
    have HSP : Hid (∀ j u, L[j]? = some u → sp = none) := fun j u hu => by
      rw [hL, List.getElem?_map] at hu
      obtain ⟨y, hy, rfl⟩ := Option.map_eq_some_iff.1 hu
      obtain ⟨b, of, e, hlt, hc⟩ := hs j y hy
      exact (Addr.mk.inj (Option.some.inj e)).2.2
    clear hs hob hL hn HBl hm
    have c0 : w0.cell? ⟨w.heap.size, 0, none⟩ = some (.int .i64 (m : Int)) := cell_of_row _ _ _ _ _ _ g0
    have c1 : w0.cell? ⟨w.heap.size, 1, none⟩ = some (.slice (some ⟨b2, o2, sp⟩) n cb) := cell_of_row _ _ _ _ _ _ g0
    have l0 := lt_of_block g0
    have HK : Hid (∀ ww, Below w0.heap.size w0 ww → ww.cell? ⟨w.heap.size, 0, none⟩ = some (.int .i64 (m : Int)) ∧ ww.cell? ⟨w.heap.size, 1, none⟩ = some (.slice (some ⟨b2, o2, sp⟩) n cb)) := fun ww hb => ⟨(cell_kept_2 (hb.block _ l0) 0).trans c0, (cell_kept_2 (hb.block _ l0) 1).trans c1⟩
    have HW : Hid (∀ ww, Below w0.heap.size w0 ww → Below w.heap.size w ww) := fun ww hb => HB0.out.trans (hb.mono HB0.out.size)
    have hoB : ∀ (v : Value) (ww : World) (k nn : Nat) (xs : List Value), ww.ownsRow w0.heap.size 9 1 v nn xs → v.ownBlock = some k → w0.heap.size ≤ k := fun v ww k nn xs ho hk => by
      rcases ho.2 with ⟨rfl, _⟩ | ⟨g', cap, cur, rfl, hg', _⟩
      · simp [Value.ownBlock] at hk
      · simp [Value.ownBlock] at hk
        omega
    have HOB : Hid _ := hoB
    have q1 : (m : Int) ≤ (n : Int) := by omega
    have q2 : (n : Int) ≤ (cb : Int) := by omega
    have q3 : (m : Int) ≤ (cb : Int) := by omega
    clear hoB
    go_enter Tryd.func30, Tryd.ntmps30
    go_wp2_with (at_make; refine wpList_make_own w0 rfl _ _ 22 rfl w0.heap.size 9 i0 (.string ⟨#[]⟩) 1 Tryd.underlying22 hi hz0 hz1 .i64 .i64 4 4 rfl rfl rfl ?a1 ?a2 ?a3 ?_)
    case a1 => rw [hz2]; decide
    case a2 => decide
    case a3 => exact Nat.le_refl _
    intro w1 hown1 hgrow1
    have hb1 : Below w0.heap.size w0 w1 := (Below.refl _ _).grown hgrow1 (Nat.le_refl _) (fun k hk => by simp at hk)
    obtain ⟨c0, c1⟩ := HK.out w1 hb1
    have HB1 : Hid (Below w0.heap.size w0 w1) := hb1
    clear hb1 hgrow1 hw0 g0
    have hn1 : ∀ j u, (L.take m)[j]? = some u → w1.cell? ((⟨b2, o2, sp⟩ : Addr).add j) = some u := fun j u hu => HN.out w1 (HW.out _ HB1.out) j u (by
      rw [List.getElem?_take] at hu
      split at hu
      · exact hu
      · cases hu)
    have ht1 : (L.take m).length = m * 1 := by rw [List.length_take, hLl]; omega
    have ho1 : ∀ u ∈ L.take m, u.oneCell' = true := fun u hu => h1c u (List.mem_of_mem_take hu)
    go_wp2_with (at_builtin; refine wpList_append_own _ rfl _ _ 22 rfl w0.heap.size 9 i0 (.string ⟨#[]⟩) 1 16 Tryd.underlying22 hi hz0 hz1 hz2 rfl (by decide) _ 0 [] rfl hown1 ⟨b2, o2, sp⟩ m cb (L.take m) rfl ht1 hn1 ho1 ?b2 ?b3 ?b4 ?_)
    case b2 => unfold maxLen; omega
    case b3 => omega
    case b4 => exact HB1.out.size
    intro v2 w2 hown2 hgrow2 _
    have hb2 : Below w0.heap.size w0 w2 := HB1.out.grown hgrow2 HB1.out.size (fun k hk => HOB.out _ w1 k _ _ hown1 hk)
    obtain ⟨d0, d1⟩ := HK.out w2 hb2
    have HB2 : Hid (Below w0.heap.size w0 w2) := hb2
    obtain ⟨w3, hw3⟩ : ∃ w3, w2.alloc (.cells #[.string x] 9) = w3 := ⟨_, rfl⟩
    have hb3 : Below w0.heap.size w0 w3 := by rw [← hw3]; exact hb2.alloc hb2.size _
    obtain ⟨ov, cv, rfl⟩ := owns_slice3 hown2
    have hown3 : w3.ownsRow w0.heap.size 9 1 (.slice ov m cv) m (L.take m) := by
      have := hown2.alloc (.cells #[.string x] 9)
      rw [hw3] at this
      simpa using this
    have hn3 : ∀ j u, ([.string x] : List Value)[j]? = some u → w3.cell? ((⟨w2.heap.size, 0, none⟩ : Addr).add j) = some u := by rw [← hw3]; exact cell_one_new w2 (.string x) 9
    have ho3 : ∀ u ∈ ([.string x] : List Value), u.oneCell' = true := by intro u hu; simp at hu; rw [hu]; rfl
    have HB3 : Hid (Below w0.heap.size w0 w3) := hb3
    clear hown1 hgrow2 hn1 ht1 ho1 hb2 hb3 c0 c1 hown2
    go_wp2_with (at_builtin; refine wpList_append_own _ rfl _ _ 22 rfl w0.heap.size 9 i0 (.string ⟨#[]⟩) 1 16 Tryd.underlying22 hi hz0 hz1 hz2 rfl (by decide) (.slice ov m cv) m (L.take m) rfl hown3 ⟨w2.heap.size, 0, none⟩ 1 1 [.string x] rfl rfl hn3 ho3 ?b2 ?b3 ?b4 ?_)
    case b2 => unfold maxLen; omega
    case b3 => omega
    case b4 => exact HB3.out.size
    intro v4 w4 hown4 hgrow4 _
    have hb4 : Below w0.heap.size w0 w4 := HB3.out.grown hgrow4 HB3.out.size (fun k hk => HOB.out _ w3 k _ _ hown3 hk)
    obtain ⟨c0, c1⟩ := HK.out w4 hb4
    have HB4 : Hid (Below w0.heap.size w0 w4) := hb4
    obtain ⟨oz, cz, rfl⟩ := owns_slice3 hown4
    have hn4 : ∀ (ad : Addr), (∀ j u, L[m + j]? = some u → ad.add j = (⟨b2, o2, sp⟩ : Addr).add (m + j)) → ∀ j u, (L.drop m)[j]? = some u → w4.cell? (ad.add j) = some u := fun ad had j u hu => by
      rw [List.getElem?_drop] at hu
      rw [had j u hu]
      exact HN.out w4 (HW.out _ HB4.out) (m + j) u hu
    have ht4 : (L.drop m).length = (n - m) * 1 := by rw [List.length_drop, hLl]; omega
    have ho4 : ∀ u ∈ L.drop m, u.oneCell' = true := fun u hu => h1c u (List.mem_of_mem_drop hu)
    clear hown3 hgrow4 hn3 ho3 hb4 hw3 d0 d1
    by_cases hcm : cb = m
    · have hnm : n = m := by omega
      have hLd : L.drop m = [] := List.drop_of_length_le (by omega)
      go_wp2_with (at_builtin; refine wpList_append_own _ rfl _ _ 22 rfl w0.heap.size 9 i0 (.string ⟨#[]⟩) 1 16 Tryd.underlying22 hi hz0 hz1 hz2 rfl (by decide) (.slice oz (m + 1) cz) (m + 1) (L.take m ++ [.string x]) rfl hown4 ⟨b2, o2, sp⟩ 0 0 [] rfl rfl (fun j u hu => by simp at hu) (fun u hu => by simp at hu) ?b2 ?b3 ?b4 ?_)
      case b2 => unfold maxLen; omega
      case b3 => omega
      case b4 => exact HB4.out.size
      intro v5 w5 hown5 hgrow5 _
      have hb5 : Below w0.heap.size w0 w5 := HB4.out.grown hgrow5 HB4.out.size (fun k hk => HOB.out _ w4 k _ _ hown4 hk)
      obtain ⟨oy, cy, rfl⟩ := owns_slice3 hown5
      have HR : Hid _ := HFin.out _ w5 _ (by rw [HBm.out.1, HBm.out.2]; rw [hLd, hnm, Nat.sub_self]; simpa using hown5) (HW.out _ hb5)
      clear hown5 hgrow5 hb5 hown4 c0 c1
      go_wp2
      go_ret
      obtain ⟨⟨gg, cap, e, r⟩, hb⟩ := HR.out
      exact ⟨⟨gg, cap, congrArg Ending.returned e, r⟩, hb⟩
    · have hn5 := hn4 ((⟨b2, o2, sp⟩ : Addr).add m) fun j u hu => by
        obtain rfl := HSP.out _ _ hu
        rw [Addr.add_lit, Addr.add_lit, Addr.add_lit, Nat.add_assoc]
      go_wp2_with (at_builtin; refine wpList_append_own _ rfl _ _ 22 rfl w0.heap.size 9 i0 (.string ⟨#[]⟩) 1 16 Tryd.underlying22 hi hz0 hz1 hz2 rfl (by decide) (.slice oz (m + 1) cz) (m + 1) (L.take m ++ [.string x]) rfl hown4 ((⟨b2, o2, sp⟩ : Addr).add m) (n - m) (cb - m) (L.drop m) rfl ht4 hn5 ho4 ?b2 ?b3 ?b4 ?_)
      case b2 => unfold maxLen; omega
      case b3 => omega
      case b4 => exact HB4.out.size
      intro v5 w5 hown5 hgrow5 _
      have hb5 : Below w0.heap.size w0 w5 := HB4.out.grown hgrow5 HB4.out.size (fun k hk => HOB.out _ w4 k _ _ hown4 hk)
      obtain ⟨oy, cy, rfl⟩ := owns_slice3 hown5
      have HR : Hid _ := HFin.out _ w5 _ (by rw [HBm.out.1, HBm.out.2, List.append_assoc]; exact hown5) (HW.out _ hb5)
      clear hown5 hgrow5 hb5 hown4 c0 c1
      go_wp2
      go_ret
      obtain ⟨⟨gg, cap, e, r⟩, hb⟩ := HR.out
      exact ⟨⟨gg, cap, congrArg Ending.returned e, r⟩, hb⟩
end Go.Proofs.YtgokehbdappcdaaDoor
