/- The document's reduced: a number of at most 26 digits modulo 2^130 - 5, as 13 digits. -/
import Derived.Test.YtdhiopbomnfmnaaGreatDoorMg42
import Derived.Deep.OwnRows
namespace Go.Proofs.YtdhiopbomnfmnaaGreatDoor.Bx
set_option maxRecDepth 20000
open Go.RowKit

theorem CellsF.lift {w w' : World} {g n : Nat} {f : Nat → Value} (h : CellsF w g n f) (hb : Below w.heap.size w w') : CellsF w' g n f := h.below hb h.lt
theorem cells_made (w : World) (n : Nat) : CellsF (w.alloc (.cells (madeCells #[.int .i64 0] n) 3)) w.heap.size n (fun _ => .int .i64 0) := by
  have h : (w.alloc (.cells (madeCells #[.int .i64 0] n) 3)).heap[w.heap.size]? = some (.cells (madeCells #[.int .i64 0] n) 3 (0, 0)) := heap_alloc_new w _
  have hr : Row (w.alloc (.cells (madeCells #[.int .i64 0] n) 3)) w.heap.size 3 (List.replicate n (.int .i64 0)) := by
    rw [Row, ← toList_madeCells_one]; exact h
  exact ⟨hr.lt, fun i hi => by rw [hr.cell, List.getElem?_replicate, if_pos hi], fun i _ => hr.frozen i⟩
theorem CellsF.own {w : World} {base g n : Nat} {L : List Nat} (h : CellsF w g n (fun k => .int .i64 (L.getD k 0 : Nat))) (hl : L.length = n) (hb : base ≤ g) (hm : n ≤ maxLen) : OwnC w base g n n (intV L) :=
  ⟨by simp [intV, hl], hb, h.lt, Nat.le_refl _, hm, fun i hi => by rw [h.cells i hi]; rfl, h.free, fun i u hu => by
    have hi : i < L.length := by have := (List.getElem?_eq_some_iff.1 hu).1; simpa [intV] using this
    rw [intV_at L i hi] at hu
    rw [h.cells i (by omega), ← hu]⟩
theorem ints_other {w : World} {g go n i : Nat} {L : List Nat} {v : Value} (h : IntsN w g n L) (hne : g ≠ go) : IntsN (w.setCell ⟨go, i, none⟩ v) g n L := by
  have hk := Below.heap_setCell w ⟨go, i, none⟩ v g hne
  exact ⟨by simpa using h.lt, fun j hj => by rw [World.cell?_of_block (a := ⟨g, j, none⟩) hk]; exact h.cells j hj, fun j hj => by rw [World.frozen?_of_block (a := ⟨g, j, none⟩) hk]; exact h.free j hj⟩
theorem IntsN.drewN {w : World} {g n : Nat} {L : List Nat} (h : IntsN w g n L) (k : Nat) : IntsN (w.drewN k) g n L := ⟨h.lt, h.cells, h.free⟩

set_option maxRecDepth 10000 in
set_option maxHeartbeats 4000000 in
theorem rreduced_any (T : List Nat) (hT : Small T) (hl : T.length ≤ 26) (g0 cap0 : Nat) (hc0 : T.length ≤ cap0) (w : World) (ht : IntsN w g0 T.length T) :
    Calls Tryz.prog 87 #[.slice (some ⟨g0, 0, none⟩) T.length cap0] w fun e w' => ∃ g cap, e = .returned (.slice (some ⟨g, 0, none⟩) 13 cap) ∧ IntsN w' g 13 (digL (bigN T % polyP) 13) ∧ w.heap.size ≤ g ∧ Below w.heap.size w w' := by
  obtain ⟨i0, hi, hz0, hz1, hz2⟩ := info_parts info_int
  have hm : ∀ W, (Instr.makeSlice 91 (.int .i64 13) (.int .i64 13)).run Tryz.prog W = .ok (.slice (some ⟨W.heap.size, 0, none⟩) 13 13) (W.alloc (.cells (madeCells #[.int .i64 0] 13) 3)) := run_make_row' (P := Tryz.prog) 91 3 (.int .i64 0) 8 Tryz.underlying91 info_int rfl .i64 .i64 13 (by omega) (by omega)
  have HCM : Hid (∀ W : World, CellsF (W.alloc (.cells (madeCells #[.int .i64 0] 13) 3)) W.heap.size 13 (fun _ => .int .i64 0)) := fun W => cells_made W 13
  obtain ⟨ms, hms⟩ : ∃ ms, madeCells #[.int .i64 0] 13 = ms := ⟨_, rfl⟩
  rw [hms] at HCM
  simp only [hms] at hm
  clear hms
  have HSM : Hid (∀ k, Small (stL T k) ∧ (stL T k).length ≤ 26 ∧ turnL (turnN (stL T k)) = stL T (k + 1)) := fun k => ⟨stL_small hT k, stL_length hl k, stL_next T k⟩
  have HE : Hid (∃ X, stL T 8 = turnL X ∧ X < 1024 ^ 13 ∧ X % polyP = bigN T % polyP) := eight T hT
  have H0 : Hid (IntsN w g0 (stL T 0).length (stL T 0) ∧ (stL T 0).length ≤ cap0) := ⟨ht, hc0⟩
  have e0 : T.length = (stL T 0).length := rfl
  rw [e0]
  clear ht hc0 e0
  go_enter Tryz.func87, Tryz.ntmps87
  go_wp2_with fail
  go_loopw [0, 3] (fun u v wr => ∃ k g cap : Nat, k ≤ 8 ∧ u = .slice (some ⟨g, 0, none⟩) (stL T k).length cap ∧ v = .int .i64 k ∧ IntsN wr g (stL T k).length (stL T k) ∧ (stL T k).length ≤ cap ∧ (k = 0 ∨ w.heap.size ≤ g) ∧ Below w.heap.size w wr) (fun _ v _ => 8 - (intOf v).toNat)
  case atStart => exact ⟨0, g0, cap0, Nat.zero_le _, rfl, rfl, H0.out.1, H0.out.2, .inl rfl, Below.refl _ _⟩
  case round =>
    clear H0
    obtain ⟨k, g, cap, hk, rfl, rfl, hI, hcap, hg, hb⟩ := hrel
    by_cases hlt : k < 8
    · have k8 : (k : Int) < 8 := by omega
      obtain ⟨hS, hL26, hNx⟩ := HSM.out k
      obtain ⟨L, hLe⟩ : ∃ L, L = stL T k := ⟨_, rfl⟩
      rw [← hLe] at hI hcap hS hL26 hNx
      rw [← hLe]
      have HNX : Hid (turnL (turnN L) = stL T (k + 1)) := hNx
      have HS : Hid (Small L) := hS
      have hc1 := HCM.out wr
      have hb1 : Below w.heap.size w (wr.alloc (.cells ms 3)) := hb.alloc hb.size _
      have hI1 : IntsN (wr.alloc (.cells ms 3)) g L.length L := hI.below ((Below.refl wr.heap.size wr).alloc (Nat.le_refl _) _) hI.lt
      have hgo : g ≠ wr.heap.size := by have := hI.lt; omega
      have hbo : w.heap.size ≤ wr.heap.size := hb.size
      obtain ⟨w1, hw1⟩ : ∃ w1, wr.alloc (.cells ms 3) = w1 := ⟨_, rfl⟩
      rw [hw1] at hc1 hb1 hI1
      obtain ⟨go, hgoe⟩ : ∃ go, wr.heap.size = go := ⟨_, rfl⟩
      rw [hgoe] at hc1 hgo hbo
      have HA : Hid (CellsF w1 go 13 (fun k => .int .i64 (foldF L 0 k : Nat)) ∧ IntsN w1 g L.length L ∧ Below w.heap.size w w1) := ⟨hc1.congr fun q _ => by rw [foldF_init]; rfl, hI1, hb1⟩
      clear hS hNx hLe hI hb hc1 hb1 hI1 hg
      go_wp2_with fail
      generalize wr = wr0 at *
      go_loopw [5] (fun v wq => ∃ i : Nat, i ≤ L.length ∧ v = .int .i64 i ∧ CellsF wq go 13 (fun k => .int .i64 (foldF L i k : Nat)) ∧ IntsN wq g L.length L ∧ Below w.heap.size w wq) (fun v _ => L.length - (intOf v).toNat)
      case atStart => exact ⟨0, Nat.zero_le _, rfl, HA.out.1, HA.out.2.1, HA.out.2.2⟩
      case round =>
        clear HA
        obtain ⟨i, hi', rfl, hC, hI, hb⟩ := hrel
        by_cases hil : i < L.length
        · have il : (i : Int) < (L.length : Nat) := by omega
          have ct := hI.cells i hil
          have hxl := small_getD HS.out i
          by_cases hi13 : i < 13
          · have i13 : (i : Int) < 13 := by omega
            have co : wr.cell? ⟨go, i, none⟩ = some (.int .i64 0) := by rw [hC.cells i hi13, foldF_zero L i]; rfl
            have fo := hC.free i hi13
            have HF : Hid (∀ q, CellsF ((wr.setCell ⟨go, i, none⟩ (.int .i64 (L.getD i 0 : Nat))).drewN q) go 13 (fun k => .int .i64 (foldF L (i + 1) k : Nat)) ∧ IntsN ((wr.setCell ⟨go, i, none⟩ (.int .i64 (L.getD i 0 : Nat))).drewN q) g L.length L ∧ Below w.heap.size w ((wr.setCell ⟨go, i, none⟩ (.int .i64 (L.getD i 0 : Nat))).drewN q)) := fun q => ⟨((hC.set i (.int .i64 (L.getD i 0 : Nat)) hi13).congr fun k _ => by
              rw [foldF_low L i k hi13]
              split <;> rfl).drewN q, (ints_other hI hgo).drewN q, below_drewN (hb.setCell (p := ⟨go, i, none⟩) hbo _) q⟩
            generalize L.getD i 0 = x at *
            have wx : IntKind.i64.wrap (0 + (x : Int)) = x := by rw [IntKind.wrap_i64]; omega
            have wx' : IntKind.i64.wrap (x : Int) = x := by rw [IntKind.wrap_i64]; omega
            clear hC hI hb
            go_wp2_with fail
            go_region
            all_goals
              go_wp2
              go_roundw
              case rel => exact ⟨i + 1, by omega, by go_num, (HF.out 1).1, (HF.out 1).2.1, (HF.out 1).2.2⟩
              case measure => simp [intOf]; omega
          · obtain ⟨q, rfl⟩ : ∃ q, i = q + 13 := ⟨i - 13, by omega⟩
            have hq13 : q < 13 := by omega
            have co := hC.cells q hq13
            have fo := hC.free q hq13
            have hol := foldF_lt HS.out (q + 13) q
            have HF : Hid (∀ n, CellsF ((wr.setCell ⟨go, q, none⟩ (.int .i64 ((foldF L (q + 13) q + 5 * L.getD (q + 13) 0 : Nat) : Int))).drewN n) go 13 (fun k => .int .i64 (foldF L (q + 13 + 1) k : Nat)) ∧ IntsN ((wr.setCell ⟨go, q, none⟩ (.int .i64 ((foldF L (q + 13) q + 5 * L.getD (q + 13) 0 : Nat) : Int))).drewN n) g L.length L ∧ Below w.heap.size w ((wr.setCell ⟨go, q, none⟩ (.int .i64 ((foldF L (q + 13) q + 5 * L.getD (q + 13) 0 : Nat) : Int))).drewN n)) := fun n => ⟨((hC.set q (.int .i64 ((foldF L (q + 13) q + 5 * L.getD (q + 13) 0 : Nat) : Int)) hq13).congr fun k hk => by
              rw [foldF_high L (q + 13) k (by omega) hk, show q + 13 - 13 = q by omega]
              split <;> rfl).drewN n, (ints_other hI hgo).drewN n, below_drewN (hb.setCell (p := ⟨go, q, none⟩) hbo _) n⟩
            generalize L.getD (q + 13) 0 = x at *
            generalize foldF L (q + 13) q = y at *
            obtain ⟨s, hs⟩ : ∃ s, s = y + 5 * x := ⟨_, rfl⟩
            rw [← hs] at HF
            have w1' : IntKind.i64.wrap ((5 : Int) * (x : Int)) = ((5 * x : Nat) : Int) := by rw [IntKind.wrap_i64]; omega
            have w2' : IntKind.i64.wrap ((y : Int) + 5 * (x : Int)) = (s : Int) := by rw [IntKind.wrap_i64]; omega
            have w3' : IntKind.i64.wrap ((q : Int) + 13 - 13) = (q : Int) := by rw [IntKind.wrap_i64]; omega
            have t1 : (q : Int).tmod 13 = (q : Int) := by rw [Int.tmod_eq_emod_of_nonneg (by omega)]; omega
            have t2 : (q : Int) % 13 = (q : Int) := by omega
            have q13 : (q : Int) < 13 := by omega
            have q0 : ¬ (q : Int) + 13 < 13 := by omega
            clear hC hI hb hs
            go_wp2_with fail
            go_region
            all_goals
              go_wp2
              go_roundw
              case rel => exact ⟨q + 13 + 1, by omega, by go_num, (HF.out 1).1, (HF.out 1).2.1, (HF.out 1).2.2⟩
              case measure => simp [intOf]; omega
        · obtain rfl : i = L.length := by omega
          obtain ⟨f, hf⟩ : ∃ f, f = foldF L L.length := ⟨_, rfl⟩
          have HFL : Hid (∀ i, f i < 6442450944) := fun i => by rw [hf]; exact foldF_lt HS.out _ _
          have HFA : Hid ((∀ k, k < 13 → carryD f 13 k = (digL (turnN L) 13).getD k 0) ∧ carryC f 13 = turnN L / 1024 ^ 13) := ⟨fun k hk => by rw [hf]; exact carryD_all L k hk, by rw [hf]; exact carry_last L⟩
          have hC' : CellsF wr go 13 (fun k => .int .i64 (carryD f 0 k : Nat)) := hC.congr fun k _ => by rw [hf]; rfl
          have HA : Hid (CellsF wr go 13 (fun k => .int .i64 (carryD f 0 k : Nat)) ∧ Below w.heap.size w wr) := ⟨hC', hb⟩
          clear hC hC' hI hb hf
          go_wp2_with fail
          generalize wr = wr1 at *
          go_loopw [6, 7] (fun u v wq => ∃ i : Nat, i ≤ 13 ∧ u = .int .i64 (carryC f i : Nat) ∧ v = .int .i64 i ∧ CellsF wq go 13 (fun k => .int .i64 (carryD f i k : Nat)) ∧ Below w.heap.size w wq) (fun _ v _ => 13 - (intOf v).toNat)
          case atStart => exact ⟨0, Nat.zero_le _, rfl, rfl, HA.out.1, HA.out.2⟩
          case round =>
            clear HA
            obtain ⟨i, hi', rfl, rfl, hC, hb⟩ := hrel
            by_cases hi13 : i < 13
            · have i13 : (i : Int) < 13 := by omega
              have co : wr.cell? ⟨go, i, none⟩ = some (.int .i64 (f i : Nat)) := by
                rw [hC.cells i hi13]
                unfold carryD
                rw [if_neg (by omega)]
              have fo := hC.free i hi13
              have hcl := carryC_lt HFL.out i
              have hfl := HFL.out i
              obtain ⟨r, hr⟩ : ∃ r, r = (carryC f i + f i) % 1024 := ⟨_, rfl⟩
              have HF : Hid (carryC f (i + 1) = (carryC f i + f i) / 1024 ∧ CellsF (wr.setCell ⟨go, i, none⟩ (.int .i64 (r : Nat))) go 13 (fun k => .int .i64 (carryD f (i + 1) k : Nat)) ∧ Below w.heap.size w (wr.setCell ⟨go, i, none⟩ (.int .i64 (r : Nat)))) := ⟨rfl, (hC.set i (.int .i64 (r : Nat)) hi13).congr fun k _ => by
                rw [carryD_step f i k, hr]
                split <;> rfl, hb.setCell (p := ⟨go, i, none⟩) hbo _⟩
              generalize carryC f i = c at *
              generalize f i = x at *
              have s1 : IntKind.i64.wrap ((c : Int) + (x : Int)) = (c : Int) + x := by rw [IntKind.wrap_i64]; omega
              have s2 : ((c : Int) + x) % 1024 = (r : Int) := by omega
              have s3 : ((c : Int) + x).tmod 1024 = (r : Int) := by rw [Int.tmod_eq_emod_of_nonneg (by omega)]; exact s2
              obtain ⟨d, hd⟩ : ∃ d, d = (c + x) / 1024 := ⟨_, rfl⟩
              have s4 : ((c : Int) + x) / 1024 = (d : Int) := by omega
              have s5 : ((c : Int) + x).tdiv 1024 = (d : Int) := by rw [Int.tdiv_eq_ediv_of_nonneg (by omega)]; exact s4
              rw [← hd] at HF
              clear hC hb hr hd
              go_wp2
              go_roundw
              case rel => exact ⟨i + 1, by omega, by rw [HF.out.1], by go_num, HF.out.2.1, HF.out.2.2⟩
              case measure => simp [intOf]; omega
            · obtain rfl : i = 13 := by omega
              have hOw : OwnC wr w.heap.size go 13 13 (intV (digL (turnN L) 13)) := CellsF.own (hC.congr fun k hk => by rw [HFA.out.1 k hk]) (digL_length _ _) hbo (by decide)
              have hcl := carryC_lt HFL.out 13
              have hcv := HFA.out.2
              generalize carryC f 13 = c at *
              obtain ⟨r1, hr1⟩ : ∃ r1, r1 = c % 1024 := ⟨_, rfl⟩
              obtain ⟨d1, hd1⟩ : ∃ d1, d1 = c / 1024 := ⟨_, rfl⟩
              obtain ⟨r2, hr2⟩ : ∃ r2, r2 = d1 % 1024 := ⟨_, rfl⟩
              obtain ⟨r3, hr3⟩ : ∃ r3, r3 = c / 1048576 := ⟨_, rfl⟩
              have HNW : Hid (intV (digL (turnN L) 13) ++ [.int .i64 (r1 : Nat), .int .i64 (r2 : Nat), .int .i64 (r3 : Nat)] = intV (stL T (k + 1))) := by
                show _ = _
                rw [← HNX.out, turnL, ← hcv, hr1, hr2, hd1, hr3]
                simp [intV]
              have a1 : (c : Int) % 1024 = (r1 : Int) := by omega
              have a2 : (c : Int).tmod 1024 = (r1 : Int) := by rw [Int.tmod_eq_emod_of_nonneg (by omega)]; exact a1
              have a3 : (c : Int) / 1024 = (d1 : Int) := by omega
              have a4 : (c : Int).tdiv 1024 = (d1 : Int) := by rw [Int.tdiv_eq_ediv_of_nonneg (by omega)]; exact a3
              have a5 : (d1 : Int) % 1024 = (r2 : Int) := by omega
              have a6 : (d1 : Int).tmod 1024 = (r2 : Int) := by rw [Int.tmod_eq_emod_of_nonneg (by omega)]; exact a5
              have a7 : (c : Int) / 1048576 = (r3 : Int) := by omega
              have a8 : (c : Int).tdiv 1048576 = (r3 : Int) := by rw [Int.tdiv_eq_ediv_of_nonneg (by omega)]; exact a7
              have HO : Hid (OwnC wr w.heap.size go 13 13 (intV (digL (turnN L) 13)) ∧ Below w.heap.size w wr) := ⟨hOw, hb⟩
              clear hC hb hOw hcv hr1 hr2 hr3 hd1
              go_wp2_with (first | (at_builtin; refine wpList_appendC _ rfl _ _ 91 rfl w.heap.size 3 i0 (.int .i64 0) 8 Tryz.underlying91 hi hz0 hz1 hz2 rfl go 13 13 (intV (digL (turnN L) 13)) rfl (HO.out.1.alloc _) ⟨wr.heap.size, 0, none⟩ 3 3 [.int .i64 (r1 : Nat), .int .i64 (r2 : Nat), .int .i64 (r3 : Nat)] rfl rfl (World.news_of_block (heap_alloc_new _ _)) ?c2 ?c3 ?c4 ?c5 ?_))
              case c2 => intro u hu; simp only [List.mem_cons, List.not_mem_nil, or_false] at hu; rcases hu with rfl | rfl | rfl <;> rfl
              case c3 => decide
              case c4 => decide
              case c5 => have := HO.out.2.size; simp; omega
              intro g2 cap2 w2 hown2 hgrow2 _
              have hb2 : Below w.heap.size w w2 := (HO.out.2.alloc HO.out.2.size _).grown hgrow2 (by have := HO.out.2.size; simp; omega) (fun x hx => by obtain rfl : go = x := (by simpa using hx); exact hbo)
              rw [HNW.out] at hown2
              have hl16 : (stL T (k + 1)).length = 16 := by rw [stL, turnL_length]
              have HF : Hid (IntsN w2 g2 (stL T (k + 1)).length (stL T (k + 1)) ∧ (stL T (k + 1)).length ≤ cap2 ∧ w.heap.size ≤ g2 ∧ Below w.heap.size w w2) := ⟨by rw [hl16]; exact IntsN.of hown2 hl16, by rw [hl16]; exact hown2.room, hown2.low, hb2⟩
              clear hown2 hgrow2 hb2 HO HNW
              go_wp2
              go_roundw
              case rel => exact ⟨k + 1, g2, cap2, by omega, by rw [hl16], by go_num, HF.out.1, HF.out.2.1, .inr HF.out.2.2.1, HF.out.2.2.2⟩
              case measure => simp [intOf]; omega
    · obtain rfl : k = 8 := by omega
      obtain ⟨X, hX, hXlt, hXm⟩ := HE.out
      have hl16 : (stL T 8).length = 16 := by rw [hX, turnL_length]
      have hg' : w.heap.size ≤ g := by
        rcases hg with h | h
        · omega
        · exact h
      have hC : CellsF wr g 13 (fun k => .int .i64 ((digL X 13).getD k 0 : Nat)) := ⟨hI.lt, fun i hi' => by rw [hI.cells i (by omega), hX, turnL_low X i hi', digL_at X 13 i hi'], fun i hi' => hI.free i (by omega)⟩
      rw [hl16] at hcap
      rw [hl16]
      have hcap' : (13 : Int) ≤ cap := by omega
      have HB : Hid (CellsF wr g 13 (fun k => .int .i64 ((digL X 13).getD k 0 : Nat)) ∧ Below w.heap.size w wr) := ⟨hC, hb⟩
      have HX : Hid (X < 1024 ^ 13 ∧ X % polyP = bigN T % polyP) := ⟨hXlt, hXm⟩
      clear hI hb hg hC hX hXlt hXm HE HSM HCM hm
      go_wp2_with fail
      refine (rprime_any _).mono ?_
      rintro e w2 ⟨gp, cp, rfl, hip, hgp, hb2⟩
      have hC2 := HB.out.1.lift hb2
      have hT2 := HB.out.2.trans (hb2.mono HB.out.2.size)
      have hne : g ≠ gp := by have := HB.out.1.lt; omega
      have hls := rless_any (digL X 13) primeL (digL_digs X 13) (by unfold Digs primeL; decide) (digL_length X 13) rfl g gp cap cp w2 ⟨hC2.lt, hC2.cells, hC2.free⟩ hip
      rw [dN_digL, prime_num, Nat.mod_eq_of_lt HX.out.1] at hls
      have HC2 : Hid (CellsF w2 g 13 (fun k => .int .i64 ((digL X 13).getD k 0 : Nat)) ∧ IntsN w2 gp 13 primeL ∧ Below w.heap.size w w2) := ⟨hC2, hip, hT2⟩
      clear hC2 hip hT2 hb2
      by_cases hlp : X < polyP
      · rw [decide_eq_true hlp] at hls
        go_wp2_with fail
        refine hls.mono ?_
        rintro e w3 ⟨rfl, nn, rfl⟩
        have HF : Hid (IntsN (w2.drewN nn) g 13 (digL (bigN T % polyP) 13) ∧ Below w.heap.size w (w2.drewN nn)) := by
          refine ⟨?_, below_drewN HC2.out.2.2 nn⟩
          rw [← HX.out.2, Nat.mod_eq_of_lt hlp]
          exact IntsN.drewN ⟨HC2.out.1.lt, HC2.out.1.cells, HC2.out.1.free⟩ nn
        clear hls
        go_wp2
        go_ret
        exact ⟨g, cap, rfl, HF.out.1, hg', HF.out.2⟩
      · rw [decide_eq_false hlp] at hls
        obtain ⟨y, hy, hdg⟩ := over X (by omega) HX.out.1
        have HY : Hid (y = bigN T % polyP) := by rw [← HX.out.2]; exact hy.symm
        have HDG : Hid (∀ i, i < 13 → (digL X 13).getD i 0 = primeL.getD i 0 + (digL y 13).getD i 0) := hdg
        clear hy hdg
        go_wp2_with fail
        refine hls.mono ?_
        rintro e w3 ⟨rfl, nn, rfl⟩
        have HD3 : Hid (CellsF (w2.drewN nn) g 13 (fun k => .int .i64 ((if k < 0 then (digL y 13).getD k 0 else (digL X 13).getD k 0 : Nat) : Int)) ∧ IntsN (w2.drewN nn) gp 13 primeL ∧ Below w.heap.size w (w2.drewN nn)) := ⟨(HC2.out.1.drewN nn).congr fun q _ => by rw [if_neg (Nat.not_lt_zero q)], HC2.out.2.1.drewN nn, below_drewN HC2.out.2.2 nn⟩
        clear hls
        generalize w2.drewN nn = w3 at *
        clear HC2
        go_wp2_with fail
        generalize wr = wr0 at *
        go_loopw [9, 10] (fun u v wq => ∃ i : Nat, i ≤ 13 ∧ u = .int .i64 0 ∧ v = .int .i64 i ∧ CellsF wq g 13 (fun k => .int .i64 ((if k < i then (digL y 13).getD k 0 else (digL X 13).getD k 0 : Nat) : Int)) ∧ IntsN wq gp 13 primeL ∧ Below w.heap.size w wq) (fun _ v _ => 13 - (intOf v).toNat)
        case atStart => exact ⟨0, Nat.zero_le _, rfl, rfl, HD3.out.1, HD3.out.2.1, HD3.out.2.2⟩
        case round =>
          clear HD3
          obtain ⟨i, hi', rfl, rfl, hC, hP, hb⟩ := hrel
          by_cases hi13 : i < 13
          · have i13 : (i : Int) < 13 := by omega
            have ct : wr.cell? ⟨g, i, none⟩ = some (.int .i64 ((primeL.getD i 0 + (digL y 13).getD i 0 : Nat) : Int)) := by rw [hC.cells i hi13, if_neg (Nat.lt_irrefl i), HDG.out i hi13]
            have cpp := hP.cells i hi13
            have fo := hC.free i hi13
            have HF : Hid (∀ n, CellsF ((wr.drewN n).setCell ⟨g, i, none⟩ (.int .i64 ((digL y 13).getD i 0 : Nat))) g 13 (fun k => .int .i64 ((if k < i + 1 then (digL y 13).getD k 0 else (digL X 13).getD k 0 : Nat) : Int)) ∧ IntsN ((wr.drewN n).setCell ⟨g, i, none⟩ (.int .i64 ((digL y 13).getD i 0 : Nat))) gp 13 primeL ∧ Below w.heap.size w ((wr.drewN n).setCell ⟨g, i, none⟩ (.int .i64 ((digL y 13).getD i 0 : Nat)))) := fun n => ⟨((hC.drewN n).set i (.int .i64 ((digL y 13).getD i 0 : Nat)) hi13).congr fun k _ => by
              by_cases e : k = i
              · subst e; rw [if_pos rfl, if_pos (by omega)]
              · rw [if_neg e]
                by_cases h : k < i
                · rw [if_pos h, if_pos (by omega)]
                · rw [if_neg h, if_neg (by omega)], ints_other (hP.drewN n) (Ne.symm hne), (below_drewN hb n).setCell (p := ⟨g, i, none⟩) hg' _⟩
            have hpl : primeL.getD i 0 < 1024 := getD_lt (by decide) (by unfold primeL; decide) i
            have hyl : (digL y 13).getD i 0 < 1024 := getD_lt (by decide) (digL_digs y 13) i
            generalize primeL.getD i 0 = pp at *
            generalize (digL y 13).getD i 0 = yy at *
            obtain ⟨x, hx⟩ : ∃ x, x = pp + yy := ⟨_, rfl⟩
            rw [← hx] at ct
            have s1 : IntKind.i64.wrap ((x : Int) - (pp : Int)) = (yy : Int) := by rw [IntKind.wrap_i64]; omega
            have s2 : IntKind.i64.wrap ((yy : Int) + 0) = (yy : Int) := by rw [IntKind.wrap_i64]; omega
            have s3 : (x : Int) - (pp : Int) = (yy : Int) := by omega
            have s4 : ¬ (yy : Int) < 0 := by omega
            have ct' : ∀ n, (wr.drewN n).cell? ⟨g, i, none⟩ = some (.int .i64 (x : Nat)) := fun _ => ct
            have fo' : ∀ n, (wr.drewN n).frozen? ⟨g, i, none⟩ = false := fun _ => fo
            clear hC hP hb hx
            go_wp2_with fail
            go_quiet (fail)
            go_wp2
            go_roundw
            case rel => exact ⟨i + 1, by omega, rfl, by go_num, (HF.out _).1, (HF.out _).2.1, (HF.out _).2.2⟩
            case measure => simp [intOf]; omega
          · obtain rfl : i = 13 := by omega
            have HF : Hid (IntsN wr g 13 (digL (bigN T % polyP) 13) ∧ Below w.heap.size w wr) := ⟨by
              rw [← HY.out]
              exact ⟨hC.lt, fun k hk => by rw [hC.cells k hk, if_pos hk], hC.free⟩, hb⟩
            clear hC hP hb
            go_wp2
            go_ret
            exact ⟨g, cap, rfl, HF.out.1, hg', HF.out.2⟩
end Go.Proofs.YtdhiopbomnfmnaaGreatDoor.Bx
