/- The document's reduced: a number of at most 26 digits modulo 2^130 - 5, as 13 digits. · The document's times: the product of two numbers of 13 digits modulo 2^130 - 5. · What the document's Tag adds and cuts into bits; nothing of the program. -/
import Derived.Test.YtoopaigpjefonaaGreatDoorMg44
import Derived.Deep.OwnRows
import Derived.BigRegion
namespace Go.Proofs.YtoopaigpjefonaaGreatDoor.Bx
set_option maxRecDepth 20000
open Go.RowKit

theorem CellsF.lift {w w' : World} {g n : Nat} {f : Nat → Value} (h : CellsF w g n f) (hb : Below w.heap.size w w') : CellsF w' g n f := h.below hb h.lt
theorem cells_made (w : World) (n : Nat) : CellsF (w.alloc (.cells (madeCells #[.int .i64 0] n) 3)) w.heap.size n (fun _ => .int .i64 0) := by
  have h : (w.alloc (.cells (madeCells #[.int .i64 0] n) 3)).heap[w.heap.size]? = some (.cells (madeCells #[.int .i64 0] n) 3 (0, 0)) := heap_alloc_new w _
  have hr : Row (w.alloc (.cells (madeCells #[.int .i64 0] n) 3)) w.heap.size 3 (List.replicate n (.int .i64 0)) := by
    rw [Row, ← toList_madeCells_one]; exact h
  exact ⟨hr.lt, fun i hi => by rw [hr.cell, List.getElem?_replicate, if_pos hi], fun i _ => hr.frozen i⟩
theorem CellsF.own {w : World} {base g n : Nat} {L : List Nat} (h : CellsF w g n (fun k => .int .i64 (L.getD k 0 : Nat))) (hl : L.length = n) (hb : base ≤ g) (hm : n ≤ maxLen) : OwnC w base g n n (intV L) :=
  ⟨by simp [intV, hl], hb, h.lt, Nat.le_refl _, hm, fun i hi => by rw [h.cells i hi]; rfl, h.free, fun i u hu => by
    have hi : i < L.length := by have := (List.getElem?_eq_some_iff.1 hu).1; simpa [intV] using this
    rw [intV_at L i hi] at hu
    rw [h.cells i (by omega), ← hu]⟩
theorem ints_other {w : World} {g go n i : Nat} {L : List Nat} {v : Value} (h : IntsN w g n L) (hne : g ≠ go) : IntsN (w.setCell ⟨go, i, none⟩ v) g n L := by
  have hk := Below.heap_setCell w ⟨go, i, none⟩ v g hne
  exact ⟨by simpa using h.lt, fun j hj => by rw [World.cell?_of_block (a := ⟨g, j, none⟩) hk]; exact h.cells j hj, fun j hj => by rw [World.frozen?_of_block (a := ⟨g, j, none⟩) hk]; exact h.free j hj⟩
theorem IntsN.drewN {w : World} {g n : Nat} {L : List Nat} (h : IntsN w g n L) (k : Nat) : IntsN (w.drewN k) g n L := ⟨h.lt, h.cells, h.free⟩

set_option maxRecDepth 10000 in
set_option maxHeartbeats 4000000 in
theorem rreduced_any (T : List Nat) (hT : Small T) (hl : T.length ≤ 26) (g0 cap0 : Nat) (hc0 : T.length ≤ cap0) (w : World) (ht : IntsN w g0 T.length T) :
    Calls Tryz.prog 203 #[.slice (some ⟨g0, 0, none⟩) T.length cap0] w fun e w' => ∃ g cap, e = .returned (.slice (some ⟨g, 0, none⟩) 13 cap) ∧ IntsN w' g 13 (digL (bigN T % polyP) 13) ∧ w.heap.size ≤ g ∧ Below w.heap.size w w' := by
  obtain ⟨i0, hi, hz0, hz1, hz2⟩ := info_parts info_int
  have hm : ∀ W, (Instr.makeSlice 92 (.int .i64 13) (.int .i64 13)).run Tryz.prog W = .ok (.slice (some ⟨W.heap.size, 0, none⟩) 13 13) (W.alloc (.cells (madeCells #[.int .i64 0] 13) 3)) := run_make_row' (P := Tryz.prog) 92 3 (.int .i64 0) 8 Tryz.underlying92 info_int rfl .i64 .i64 13 (by omega) (by omega)
  have HCM : Hid (∀ W : World, CellsF (W.alloc (.cells (madeCells #[.int .i64 0] 13) 3)) W.heap.size 13 (fun _ => .int .i64 0)) := fun W => cells_made W 13
  obtain ⟨ms, hms⟩ : ∃ ms, madeCells #[.int .i64 0] 13 = ms := ⟨_, rfl⟩
  rw [hms] at HCM
  simp only [hms] at hm
  clear hms
  have HSM : Hid (∀ k, Small (stL T k) ∧ (stL T k).length ≤ 26 ∧ turnL (turnN (stL T k)) = stL T (k + 1)) := fun k => ⟨stL_small hT k, stL_length hl k, stL_next T k⟩
  have HE : Hid (∃ X, stL T 8 = turnL X ∧ X < 1024 ^ 13 ∧ X % polyP = bigN T % polyP) := eight T hT
  have H0 : Hid (IntsN w g0 (stL T 0).length (stL T 0) ∧ (stL T 0).length ≤ cap0) := ⟨ht, hc0⟩
  have e0 : T.length = (stL T 0).length := rfl
  rw [e0]
  clear ht hc0 e0
  go_enter Tryz.func203, Tryz.ntmps203
  go_wp2_with fail
  go_loopw [0, 3] (fun u v wr => ∃ k g cap : Nat, k ≤ 8 ∧ u = .slice (some ⟨g, 0, none⟩) (stL T k).length cap ∧ v = .int .i64 k ∧ IntsN wr g (stL T k).length (stL T k) ∧ (stL T k).length ≤ cap ∧ (k = 0 ∨ w.heap.size ≤ g) ∧ Below w.heap.size w wr) (fun _ v _ => 8 - (intOf v).toNat)
  case atStart => exact ⟨0, g0, cap0, Nat.zero_le _, rfl, rfl, H0.out.1, H0.out.2, .inl rfl, Below.refl _ _⟩
  case round =>
    clear H0
    obtain ⟨k, g, cap, hk, rfl, rfl, hI, hcap, hg, hb⟩ := hrel
    by_cases hlt : k < 8
    · have k8 : (k : Int) < 8 := by omega
      obtain ⟨hS, hL26, hNx⟩ := HSM.out k
      obtain ⟨L, hLe⟩ : ∃ L, L = stL T k := ⟨_, rfl⟩
      rw [← hLe] at hI hcap hS hL26 hNx
      rw [← hLe]
      have HNX : Hid (turnL (turnN L) = stL T (k + 1)) := hNx
      have HS : Hid (Small L) := hS
      have hc1 := HCM.out wr
      have hb1 : Below w.heap.size w (wr.alloc (.cells ms 3)) := hb.alloc hb.size _
      have hI1 : IntsN (wr.alloc (.cells ms 3)) g L.length L := hI.below ((Below.refl wr.heap.size wr).alloc (Nat.le_refl _) _) hI.lt
      have hgo : g ≠ wr.heap.size := by have := hI.lt; omega
      have hbo : w.heap.size ≤ wr.heap.size := hb.size
      obtain ⟨w1, hw1⟩ : ∃ w1, wr.alloc (.cells ms 3) = w1 := ⟨_, rfl⟩
      rw [hw1] at hc1 hb1 hI1
      obtain ⟨go, hgoe⟩ : ∃ go, wr.heap.size = go := ⟨_, rfl⟩
      rw [hgoe] at hc1 hgo hbo
      have HA : Hid (CellsF w1 go 13 (fun k => .int .i64 (foldF L 0 k : Nat)) ∧ IntsN w1 g L.length L ∧ Below w.heap.size w w1) := ⟨hc1.congr fun q _ => by rw [foldF_init]; rfl, hI1, hb1⟩
      clear hS hNx hLe hI hb hc1 hb1 hI1 hg
      go_wp2_with fail
      generalize wr = wr0 at *
      go_loopw [5] (fun v wq => ∃ i : Nat, i ≤ L.length ∧ v = .int .i64 i ∧ CellsF wq go 13 (fun k => .int .i64 (foldF L i k : Nat)) ∧ IntsN wq g L.length L ∧ Below w.heap.size w wq) (fun v _ => L.length - (intOf v).toNat)
      case atStart => exact ⟨0, Nat.zero_le _, rfl, HA.out.1, HA.out.2.1, HA.out.2.2⟩
      case round =>
        clear HA
        obtain ⟨i, hi', rfl, hC, hI, hb⟩ := hrel
        by_cases hil : i < L.length
        · have il : (i : Int) < (L.length : Nat) := by omega
          have ct := hI.cells i hil
          have hxl := small_getD HS.out i
          by_cases hi13 : i < 13
          · have i13 : (i : Int) < 13 := by omega
            have co : wr.cell? ⟨go, i, none⟩ = some (.int .i64 0) := by rw [hC.cells i hi13, foldF_zero L i]; rfl
            have fo := hC.free i hi13
            have HF : Hid (∀ q, CellsF ((wr.setCell ⟨go, i, none⟩ (.int .i64 (L.getD i 0 : Nat))).drewN q) go 13 (fun k => .int .i64 (foldF L (i + 1) k : Nat)) ∧ IntsN ((wr.setCell ⟨go, i, none⟩ (.int .i64 (L.getD i 0 : Nat))).drewN q) g L.length L ∧ Below w.heap.size w ((wr.setCell ⟨go, i, none⟩ (.int .i64 (L.getD i 0 : Nat))).drewN q)) := fun q => ⟨((hC.set i (.int .i64 (L.getD i 0 : Nat)) hi13).congr fun k _ => by
              rw [foldF_low L i k hi13]
              split <;> rfl).drewN q, (ints_other hI hgo).drewN q, below_drewN (hb.setCell (p := ⟨go, i, none⟩) hbo _) q⟩
            generalize L.getD i 0 = x at *
            have wx : IntKind.i64.wrap (0 + (x : Int)) = x := by rw [IntKind.wrap_i64]; omega
            have wx' : IntKind.i64.wrap (x : Int) = x := by rw [IntKind.wrap_i64]; omega
            clear hC hI hb
            go_wp2_with fail
            go_region
            all_goals
              go_wp2
              go_roundw
              case rel => exact ⟨i + 1, by omega, by go_num, (HF.out 1).1, (HF.out 1).2.1, (HF.out 1).2.2⟩
              case measure => simp [intOf]; omega
          · obtain ⟨q, rfl⟩ : ∃ q, i = q + 13 := ⟨i - 13, by omega⟩
            have hq13 : q < 13 := by omega
            have co := hC.cells q hq13
            have fo := hC.free q hq13
            have hol := foldF_lt HS.out (q + 13) q
            have HF : Hid (∀ n, CellsF ((wr.setCell ⟨go, q, none⟩ (.int .i64 ((foldF L (q + 13) q + 5 * L.getD (q + 13) 0 : Nat) : Int))).drewN n) go 13 (fun k => .int .i64 (foldF L (q + 13 + 1) k : Nat)) ∧ IntsN ((wr.setCell ⟨go, q, none⟩ (.int .i64 ((foldF L (q + 13) q + 5 * L.getD (q + 13) 0 : Nat) : Int))).drewN n) g L.length L ∧ Below w.heap.size w ((wr.setCell ⟨go, q, none⟩ (.int .i64 ((foldF L (q + 13) q + 5 * L.getD (q + 13) 0 : Nat) : Int))).drewN n)) := fun n => ⟨((hC.set q (.int .i64 ((foldF L (q + 13) q + 5 * L.getD (q + 13) 0 : Nat) : Int)) hq13).congr fun k hk => by
              rw [foldF_high L (q + 13) k (by omega) hk, show q + 13 - 13 = q by omega]
              split <;> rfl).drewN n, (ints_other hI hgo).drewN n, below_drewN (hb.setCell (p := ⟨go, q, none⟩) hbo _) n⟩
            generalize L.getD (q + 13) 0 = x at *
            generalize foldF L (q + 13) q = y at *
            obtain ⟨s, hs⟩ : ∃ s, s = y + 5 * x := ⟨_, rfl⟩
            rw [← hs] at HF
            have w1' : IntKind.i64.wrap ((5 : Int) * (x : Int)) = ((5 * x : Nat) : Int) := by rw [IntKind.wrap_i64]; omega
            have w2' : IntKind.i64.wrap ((y : Int) + 5 * (x : Int)) = (s : Int) := by rw [IntKind.wrap_i64]; omega
            have w3' : IntKind.i64.wrap ((q : Int) + 13 - 13) = (q : Int) := by rw [IntKind.wrap_i64]; omega
            have t1 : (q : Int).tmod 13 = (q : Int) := by rw [Int.tmod_eq_emod_of_nonneg (by omega)]; omega
            have t2 : (q : Int) % 13 = (q : Int) := by omega
            have q13 : (q : Int) < 13 := by omega
            have q0 : ¬ (q : Int) + 13 < 13 := by omega
            clear hC hI hb hs
            go_wp2_with fail
            go_region
            all_goals
              go_wp2
              go_roundw
              case rel => exact ⟨q + 13 + 1, by omega, by go_num, (HF.out 1).1, (HF.out 1).2.1, (HF.out 1).2.2⟩
              case measure => simp [intOf]; omega
        · obtain rfl : i = L.length := by omega
          obtain ⟨f, hf⟩ : ∃ f, f = foldF L L.length := ⟨_, rfl⟩
          have HFL : Hid (∀ i, f i < 6442450944) := fun i => by rw [hf]; exact foldF_lt HS.out _ _
          have HFA : Hid ((∀ k, k < 13 → carryD f 13 k = (digL (turnN L) 13).getD k 0) ∧ carryC f 13 = turnN L / 1024 ^ 13) := ⟨fun k hk => by rw [hf]; exact carryD_all L k hk, by rw [hf]; exact carry_last L⟩
          have hC' : CellsF wr go 13 (fun k => .int .i64 (carryD f 0 k : Nat)) := hC.congr fun k _ => by rw [hf]; rfl
          have HA : Hid (CellsF wr go 13 (fun k => .int .i64 (carryD f 0 k : Nat)) ∧ Below w.heap.size w wr) := ⟨hC', hb⟩
          clear hC hC' hI hb hf
          go_wp2_with fail
          generalize wr = wr1 at *
          go_loopw [6, 7] (fun u v wq => ∃ i : Nat, i ≤ 13 ∧ u = .int .i64 (carryC f i : Nat) ∧ v = .int .i64 i ∧ CellsF wq go 13 (fun k => .int .i64 (carryD f i k : Nat)) ∧ Below w.heap.size w wq) (fun _ v _ => 13 - (intOf v).toNat)
          case atStart => exact ⟨0, Nat.zero_le _, rfl, rfl, HA.out.1, HA.out.2⟩
          case round =>
            clear HA
            obtain ⟨i, hi', rfl, rfl, hC, hb⟩ := hrel
            by_cases hi13 : i < 13
            · have i13 : (i : Int) < 13 := by omega
              have co : wr.cell? ⟨go, i, none⟩ = some (.int .i64 (f i : Nat)) := by
                rw [hC.cells i hi13]
                unfold carryD
                rw [if_neg (by omega)]
              have fo := hC.free i hi13
              have hcl := carryC_lt HFL.out i
              have hfl := HFL.out i
              obtain ⟨r, hr⟩ : ∃ r, r = (carryC f i + f i) % 1024 := ⟨_, rfl⟩
              have HF : Hid (carryC f (i + 1) = (carryC f i + f i) / 1024 ∧ CellsF (wr.setCell ⟨go, i, none⟩ (.int .i64 (r : Nat))) go 13 (fun k => .int .i64 (carryD f (i + 1) k : Nat)) ∧ Below w.heap.size w (wr.setCell ⟨go, i, none⟩ (.int .i64 (r : Nat)))) := ⟨rfl, (hC.set i (.int .i64 (r : Nat)) hi13).congr fun k _ => by
                rw [carryD_step f i k, hr]
                split <;> rfl, hb.setCell (p := ⟨go, i, none⟩) hbo _⟩
              generalize carryC f i = c at *
              generalize f i = x at *
              have s1 : IntKind.i64.wrap ((c : Int) + (x : Int)) = (c : Int) + x := by rw [IntKind.wrap_i64]; omega
              have s2 : ((c : Int) + x) % 1024 = (r : Int) := by omega
              have s3 : ((c : Int) + x).tmod 1024 = (r : Int) := by rw [Int.tmod_eq_emod_of_nonneg (by omega)]; exact s2
              obtain ⟨d, hd⟩ : ∃ d, d = (c + x) / 1024 := ⟨_, rfl⟩
              have s4 : ((c : Int) + x) / 1024 = (d : Int) := by omega
              have s5 : ((c : Int) + x).tdiv 1024 = (d : Int) := by rw [Int.tdiv_eq_ediv_of_nonneg (by omega)]; exact s4
              rw [← hd] at HF
              clear hC hb hr hd
              go_wp2
              go_roundw
              case rel => exact ⟨i + 1, by omega, by rw [HF.out.1], by go_num, HF.out.2.1, HF.out.2.2⟩
              case measure => simp [intOf]; omega
            · obtain rfl : i = 13 := by omega
              have hOw : OwnC wr w.heap.size go 13 13 (intV (digL (turnN L) 13)) := CellsF.own (hC.congr fun k hk => by rw [HFA.out.1 k hk]) (digL_length _ _) hbo (by decide)
              have hcl := carryC_lt HFL.out 13
              have hcv := HFA.out.2
              generalize carryC f 13 = c at *
              obtain ⟨r1, hr1⟩ : ∃ r1, r1 = c % 1024 := ⟨_, rfl⟩
              obtain ⟨d1, hd1⟩ : ∃ d1, d1 = c / 1024 := ⟨_, rfl⟩
              obtain ⟨r2, hr2⟩ : ∃ r2, r2 = d1 % 1024 := ⟨_, rfl⟩
              obtain ⟨r3, hr3⟩ : ∃ r3, r3 = c / 1048576 := ⟨_, rfl⟩
              have HNW : Hid (intV (digL (turnN L) 13) ++ [.int .i64 (r1 : Nat), .int .i64 (r2 : Nat), .int .i64 (r3 : Nat)] = intV (stL T (k + 1))) := by
                show _ = _
                rw [← HNX.out, turnL, ← hcv, hr1, hr2, hd1, hr3]
                simp [intV]
              have a1 : (c : Int) % 1024 = (r1 : Int) := by omega
              have a2 : (c : Int).tmod 1024 = (r1 : Int) := by rw [Int.tmod_eq_emod_of_nonneg (by omega)]; exact a1
              have a3 : (c : Int) / 1024 = (d1 : Int) := by omega
              have a4 : (c : Int).tdiv 1024 = (d1 : Int) := by rw [Int.tdiv_eq_ediv_of_nonneg (by omega)]; exact a3
              have a5 : (d1 : Int) % 1024 = (r2 : Int) := by omega
              have a6 : (d1 : Int).tmod 1024 = (r2 : Int) := by rw [Int.tmod_eq_emod_of_nonneg (by omega)]; exact a5
              have a7 : (c : Int) / 1048576 = (r3 : Int) := by omega
              have a8 : (c : Int).tdiv 1048576 = (r3 : Int) := by rw [Int.tdiv_eq_ediv_of_nonneg (by omega)]; exact a7
              have HO : Hid (OwnC wr w.heap.size go 13 13 (intV (digL (turnN L) 13)) ∧ Below w.heap.size w wr) := ⟨hOw, hb⟩
              clear hC hb hOw hcv hr1 hr2 hr3 hd1
              go_wp2_with (first | (at_builtin; refine wpList_appendC _ rfl _ _ 92 rfl w.heap.size 3 i0 (.int .i64 0) 8 Tryz.underlying92 hi hz0 hz1 hz2 rfl go 13 13 (intV (digL (turnN L) 13)) rfl (HO.out.1.alloc _) ⟨wr.heap.size, 0, none⟩ 3 3 [.int .i64 (r1 : Nat), .int .i64 (r2 : Nat), .int .i64 (r3 : Nat)] rfl rfl (World.news_of_block (heap_alloc_new _ _)) ?c2 ?c3 ?c4 ?c5 ?_))
              case c2 => intro u hu; simp only [List.mem_cons, List.not_mem_nil, or_false] at hu; rcases hu with rfl | rfl | rfl <;> rfl
              case c3 => decide
              case c4 => decide
              case c5 => have := HO.out.2.size; simp; omega
              intro g2 cap2 w2 hown2 hgrow2 _
              have hb2 : Below w.heap.size w w2 := (HO.out.2.alloc HO.out.2.size _).grown hgrow2 (by have := HO.out.2.size; simp; omega) (fun x hx => by obtain rfl : go = x := (by simpa using hx); exact hbo)
              rw [HNW.out] at hown2
              have hl16 : (stL T (k + 1)).length = 16 := by rw [stL, turnL_length]
              have HF : Hid (IntsN w2 g2 (stL T (k + 1)).length (stL T (k + 1)) ∧ (stL T (k + 1)).length ≤ cap2 ∧ w.heap.size ≤ g2 ∧ Below w.heap.size w w2) := ⟨by rw [hl16]; exact IntsN.of hown2 hl16, by rw [hl16]; exact hown2.room, hown2.low, hb2⟩
              clear hown2 hgrow2 hb2 HO HNW
              go_wp2
              go_roundw
              case rel => exact ⟨k + 1, g2, cap2, by omega, by rw [hl16], by go_num, HF.out.1, HF.out.2.1, .inr HF.out.2.2.1, HF.out.2.2.2⟩
              case measure => simp [intOf]; omega
    · obtain rfl : k = 8 := by omega
      obtain ⟨X, hX, hXlt, hXm⟩ := HE.out
      have hl16 : (stL T 8).length = 16 := by rw [hX, turnL_length]
      have hg' : w.heap.size ≤ g := by
        rcases hg with h | h
        · omega
        · exact h
      have hC : CellsF wr g 13 (fun k => .int .i64 ((digL X 13).getD k 0 : Nat)) := ⟨hI.lt, fun i hi' => by rw [hI.cells i (by omega), hX, turnL_low X i hi', digL_at X 13 i hi'], fun i hi' => hI.free i (by omega)⟩
      rw [hl16] at hcap
      rw [hl16]
      have hcap' : (13 : Int) ≤ cap := by omega
      have HB : Hid (CellsF wr g 13 (fun k => .int .i64 ((digL X 13).getD k 0 : Nat)) ∧ Below w.heap.size w wr) := ⟨hC, hb⟩
      have HX : Hid (X < 1024 ^ 13 ∧ X % polyP = bigN T % polyP) := ⟨hXlt, hXm⟩
      clear hI hb hg hC hX hXlt hXm HE HSM HCM hm
      go_wp2_with fail
      refine (rprime_any _).mono ?_
      rintro e w2 ⟨gp, cp, rfl, hip, hgp, hb2⟩
      have hC2 := HB.out.1.lift hb2
      have hT2 := HB.out.2.trans (hb2.mono HB.out.2.size)
      have hne : g ≠ gp := by have := HB.out.1.lt; omega
      have hls := rless_any (digL X 13) primeL (digL_digs X 13) (by unfold Digs primeL; decide) (digL_length X 13) rfl g gp cap cp w2 ⟨hC2.lt, hC2.cells, hC2.free⟩ hip
      rw [dN_digL, prime_num, Nat.mod_eq_of_lt HX.out.1] at hls
      have HC2 : Hid (CellsF w2 g 13 (fun k => .int .i64 ((digL X 13).getD k 0 : Nat)) ∧ IntsN w2 gp 13 primeL ∧ Below w.heap.size w w2) := ⟨hC2, hip, hT2⟩
      clear hC2 hip hT2 hb2
      by_cases hlp : X < polyP
      · rw [decide_eq_true hlp] at hls
        go_wp2_with fail
        refine hls.mono ?_
        rintro e w3 ⟨rfl, nn, rfl⟩
        have HF : Hid (IntsN (w2.drewN nn) g 13 (digL (bigN T % polyP) 13) ∧ Below w.heap.size w (w2.drewN nn)) := by
          refine ⟨?_, below_drewN HC2.out.2.2 nn⟩
          rw [← HX.out.2, Nat.mod_eq_of_lt hlp]
          exact IntsN.drewN ⟨HC2.out.1.lt, HC2.out.1.cells, HC2.out.1.free⟩ nn
        clear hls
        go_wp2
        go_ret
        exact ⟨g, cap, rfl, HF.out.1, hg', HF.out.2⟩
      · rw [decide_eq_false hlp] at hls
        obtain ⟨y, hy, hdg⟩ := over X (by omega) HX.out.1
        have HY : Hid (y = bigN T % polyP) := by rw [← HX.out.2]; exact hy.symm
        have HDG : Hid (∀ i, i < 13 → (digL X 13).getD i 0 = primeL.getD i 0 + (digL y 13).getD i 0) := hdg
        clear hy hdg
        go_wp2_with fail
        refine hls.mono ?_
        rintro e w3 ⟨rfl, nn, rfl⟩
        have HD3 : Hid (CellsF (w2.drewN nn) g 13 (fun k => .int .i64 ((if k < 0 then (digL y 13).getD k 0 else (digL X 13).getD k 0 : Nat) : Int)) ∧ IntsN (w2.drewN nn) gp 13 primeL ∧ Below w.heap.size w (w2.drewN nn)) := ⟨(HC2.out.1.drewN nn).congr fun q _ => by rw [if_neg (Nat.not_lt_zero q)], HC2.out.2.1.drewN nn, below_drewN HC2.out.2.2 nn⟩
        clear hls
        generalize w2.drewN nn = w3 at *
        clear HC2
        go_wp2_with fail
        generalize wr = wr0 at *
        go_loopw [9, 10] (fun u v wq => ∃ i : Nat, i ≤ 13 ∧ u = .int .i64 0 ∧ v = .int .i64 i ∧ CellsF wq g 13 (fun k => .int .i64 ((if k < i then (digL y 13).getD k 0 else (digL X 13).getD k 0 : Nat) : Int)) ∧ IntsN wq gp 13 primeL ∧ Below w.heap.size w wq) (fun _ v _ => 13 - (intOf v).toNat)
        case atStart => exact ⟨0, Nat.zero_le _, rfl, rfl, HD3.out.1, HD3.out.2.1, HD3.out.2.2⟩
        case round =>
          clear HD3
          obtain ⟨i, hi', rfl, rfl, hC, hP, hb⟩ := hrel
          by_cases hi13 : i < 13
          · have i13 : (i : Int) < 13 := by omega
            have ct : wr.cell? ⟨g, i, none⟩ = some (.int .i64 ((primeL.getD i 0 + (digL y 13).getD i 0 : Nat) : Int)) := by rw [hC.cells i hi13, if_neg (Nat.lt_irrefl i), HDG.out i hi13]
            have cpp := hP.cells i hi13
            have fo := hC.free i hi13
            have HF : Hid (∀ n, CellsF ((wr.drewN n).setCell ⟨g, i, none⟩ (.int .i64 ((digL y 13).getD i 0 : Nat))) g 13 (fun k => .int .i64 ((if k < i + 1 then (digL y 13).getD k 0 else (digL X 13).getD k 0 : Nat) : Int)) ∧ IntsN ((wr.drewN n).setCell ⟨g, i, none⟩ (.int .i64 ((digL y 13).getD i 0 : Nat))) gp 13 primeL ∧ Below w.heap.size w ((wr.drewN n).setCell ⟨g, i, none⟩ (.int .i64 ((digL y 13).getD i 0 : Nat)))) := fun n => ⟨((hC.drewN n).set i (.int .i64 ((digL y 13).getD i 0 : Nat)) hi13).congr fun k _ => by
              by_cases e : k = i
              · subst e; rw [if_pos rfl, if_pos (by omega)]
              · rw [if_neg e]
                by_cases h : k < i
                · rw [if_pos h, if_pos (by omega)]
                · rw [if_neg h, if_neg (by omega)], ints_other (hP.drewN n) (Ne.symm hne), (below_drewN hb n).setCell (p := ⟨g, i, none⟩) hg' _⟩
            have hpl : primeL.getD i 0 < 1024 := getD_lt (by decide) (by unfold primeL; decide) i
            have hyl : (digL y 13).getD i 0 < 1024 := getD_lt (by decide) (digL_digs y 13) i
            generalize primeL.getD i 0 = pp at *
            generalize (digL y 13).getD i 0 = yy at *
            obtain ⟨x, hx⟩ : ∃ x, x = pp + yy := ⟨_, rfl⟩
            rw [← hx] at ct
            have s1 : IntKind.i64.wrap ((x : Int) - (pp : Int)) = (yy : Int) := by rw [IntKind.wrap_i64]; omega
            have s2 : IntKind.i64.wrap ((yy : Int) + 0) = (yy : Int) := by rw [IntKind.wrap_i64]; omega
            have s3 : (x : Int) - (pp : Int) = (yy : Int) := by omega
            have s4 : ¬ (yy : Int) < 0 := by omega
            have ct' : ∀ n, (wr.drewN n).cell? ⟨g, i, none⟩ = some (.int .i64 (x : Nat)) := fun _ => ct
            have fo' : ∀ n, (wr.drewN n).frozen? ⟨g, i, none⟩ = false := fun _ => fo
            clear hC hP hb hx
            go_wp2_with fail
            go_quiet (fail)
            go_wp2
            go_roundw
            case rel => exact ⟨i + 1, by omega, rfl, by go_num, (HF.out _).1, (HF.out _).2.1, (HF.out _).2.2⟩
            case measure => simp [intOf]; omega
          · obtain rfl : i = 13 := by omega
            have HF : Hid (IntsN wr g 13 (digL (bigN T % polyP) 13) ∧ Below w.heap.size w wr) := ⟨by
              rw [← HY.out]
              exact ⟨hC.lt, fun k hk => by rw [hC.cells k hk, if_pos hk], hC.free⟩, hb⟩
            clear hC hP hb
            go_wp2
            go_ret
            exact ⟨g, cap, rfl, HF.out.1, hg', HF.out.2⟩
end Go.Proofs.YtoopaigpjefonaaGreatDoor.Bx

namespace Go.Proofs.YtoopaigpjefonaaGreatDoor.Bx
set_option maxRecDepth 20000
open Go.RowKit

theorem sumF_set (f : Nat → Nat) (m v : Nat) : ∀ n, sumF (fun k => if k = m then f k + v else f k) n = sumF f n + if m < n then v * 1024 ^ m else 0
  | 0 => by simp [sumF]
  | n + 1 => by
    rw [sumF, sumF, sumF_set f m v n]
    by_cases h : m < n
    · have h1 : ¬ n = m := by omega
      have h2 : m < n + 1 := by omega
      rw [if_pos h, if_neg h1, if_pos h2]
      omega
    · by_cases e : n = m
      · subst e
        have h2 : n < n + 1 := by omega
        rw [if_neg h, if_pos rfl, if_pos h2, Nat.add_mul]
        omega
      · have h2 : ¬ m < n + 1 := by omega
        rw [if_neg h, if_neg e, if_neg h2]
        omega
/-- One row of a product, as far as the first j. -/
def rowP (f : Nat → Nat) (x : Nat) (b : Nat → Nat) (i j k : Nat) : Nat := f k + if i ≤ k ∧ k < i + j then x * b (k - i) else 0
theorem rowP_zero (f : Nat → Nat) (x : Nat) (b : Nat → Nat) (i k : Nat) : rowP f x b i 0 k = f k := by
  unfold rowP
  rw [if_neg (by omega)]
  rfl
theorem rowP_step (f : Nat → Nat) (x : Nat) (b : Nat → Nat) (i j k : Nat) : rowP f x b i (j + 1) k = if k = i + j then rowP f x b i j k + x * b j else rowP f x b i j k := by
  unfold rowP
  by_cases e : k = i + j
  · subst e
    rw [if_pos (by omega), if_pos rfl, if_neg (by omega), show i + j - i = j by omega]
    omega
  · rw [if_neg e]
    by_cases h : i ≤ k ∧ k < i + j
    · rw [if_pos h, if_pos (by omega)]
    · rw [if_neg h, if_neg (by omega)]
theorem rowP_sum (f : Nat → Nat) (x : Nat) (b : Nat → Nat) (i : Nat) (hi : i ≤ 13) : ∀ j, j ≤ 13 → sumF (rowP f x b i j) 26 = sumF f 26 + x * sumF b j * 1024 ^ i
  | 0, _ => by
    rw [sumF_congr 26 fun k _ => rowP_zero f x b i k, show sumF b 0 = 0 from rfl]
    omega
  | j + 1, h => by
    rw [sumF_congr 26 fun k _ => rowP_step f x b i j k, sumF_set, rowP_sum f x b i hi j (by omega), if_pos (by omega), show sumF b (j + 1) = sumF b j + b j * 1024 ^ j from rfl, Nat.pow_add, Nat.mul_add, Nat.add_mul, Nat.mul_comm (1024 ^ i), ← Nat.mul_assoc, ← Nat.mul_assoc]
    omega
/-- The product's digits, as far as the first i rows. -/
def prodP (a b : Nat → Nat) : Nat → Nat → Nat
  | 0, _ => 0
  | i + 1, k => rowP (prodP a b i) (a i) b i 13 k
theorem prodP_sum (a b : Nat → Nat) : ∀ i, i ≤ 13 → sumF (prodP a b i) 26 = sumF a i * sumF b 13
  | 0, _ => by simp [sumF, prodP]
  | i + 1, h => by
    rw [sumF_congr 26 fun k _ => show prodP a b (i + 1) k = rowP (prodP a b i) (a i) b i 13 k from rfl, rowP_sum _ _ _ _ (by omega) 13 (by omega), prodP_sum a b i (by omega), show sumF a (i + 1) = sumF a i + a i * 1024 ^ i from rfl, Nat.add_mul]
    generalize sumF b 13 = s
    generalize 1024 ^ i = p
    rw [Nat.mul_assoc (a i) s p, Nat.mul_assoc (a i) p s, Nat.mul_comm p s]
theorem rowP_le (f : Nat → Nat) (x : Nat) (b : Nat → Nat) (i j k : Nat) (hx : x ≤ 1023) (hb : ∀ q, b q ≤ 1023) : rowP f x b i j k ≤ f k + 1046529 := by
  unfold rowP
  have h : x * b (k - i) ≤ 1023 * 1023 := Nat.mul_le_mul hx (hb _)
  split <;> omega
theorem prodP_le (a b : Nat → Nat) (ha : ∀ q, a q ≤ 1023) (hb : ∀ q, b q ≤ 1023) (k : Nat) : ∀ i, prodP a b i k ≤ i * 1046529
  | 0 => Nat.zero_le _
  | i + 1 => by
    have h := prodP_le a b ha hb k i
    have h2 := rowP_le (prodP a b i) (a i) b i 13 k (ha i) hb
    show rowP (prodP a b i) (a i) b i 13 k ≤ _
    omega
def prodL (A B : Nat) : List Nat := (List.range 26).map (prodP (fun k => (digL A 13).getD k 0) (fun k => (digL B 13).getD k 0) 13)
theorem prodL_length (A B : Nat) : (prodL A B).length = 26 := by simp [prodL]
theorem prodL_at (A B k : Nat) (h : k < 26) : (prodL A B).getD k 0 = prodP (fun k => (digL A 13).getD k 0) (fun k => (digL B 13).getD k 0) 13 k := by
  rw [List.getD_eq_getElem?_getD, prodL, List.getElem?_map, List.getElem?_range h]
  rfl
theorem dig_le (A q : Nat) : (digL A 13).getD q 0 ≤ 1023 := by
  have := getD_lt (by decide) (digL_digs A 13) q
  omega
theorem prodL_small (A B : Nat) : Small (prodL A B) := fun x hx => by
  obtain ⟨k, _, rfl⟩ := List.mem_map.1 hx
  have := prodP_le _ _ (dig_le A) (dig_le B) k 13
  omega
theorem sum_dig (A : Nat) (h : A < 1024 ^ 13) : sumF (fun k => (digL A 13).getD k 0) 13 = A := by
  rw [sumF_congr 13 fun k hk => digL_at A 13 k hk, sumF_digits, Nat.mod_eq_of_lt h]
theorem prodL_big (A B : Nat) (hA : A < 1024 ^ 13) (hB : B < 1024 ^ 13) : bigN (prodL A B) = A * B := by
  have h := prodP_sum (fun k => (digL A 13).getD k 0) (fun k => (digL B 13).getD k 0) 13 (by omega)
  rw [sum_dig A hA, sum_dig B hB, show (26 : Nat) = 13 + 13 from rfl, sumF_split] at h
  rw [← h, bigN, sumF_congr 13 fun k hk => prodL_at A B k (by omega), sumF_congr (n := 13) (f := fun k => (prodL A B).getD (k + 13) 0) fun k hk => (prodL_at A B (k + 13) (by omega)).trans (by rw [Nat.add_comm k 13])]

set_option maxRecDepth 10000 in
set_option maxHeartbeats 4000000 in
theorem rtimes_any (A B : Nat) (hA : A < 1024 ^ 13) (hB : B < 1024 ^ 13) (ga gb ca cb : Nat) (w : World) (ia : IntsN w ga 13 (digL A 13)) (ib : IntsN w gb 13 (digL B 13)) :
    Calls Tryz.prog 202 #[.slice (some ⟨ga, 0, none⟩) 13 ca, .slice (some ⟨gb, 0, none⟩) 13 cb] w fun e w' => ∃ g cap, e = .returned (.slice (some ⟨g, 0, none⟩) 13 cap) ∧ IntsN w' g 13 (digL (A * B % polyP) 13) ∧ w.heap.size ≤ g ∧ Below w.heap.size w w' := by
  have hm : ∀ W, (Instr.makeSlice 92 (.int .i64 26) (.int .i64 26)).run Tryz.prog W = .ok (.slice (some ⟨W.heap.size, 0, none⟩) 26 26) (W.alloc (.cells (madeCells #[.int .i64 0] 26) 3)) := run_make_row' (P := Tryz.prog) 92 3 (.int .i64 0) 8 Tryz.underlying92 info_int rfl .i64 .i64 26 (by omega) (by omega)
  have hc := cells_made w 26
  have hb0 := (Below.refl w.heap.size w).alloc (Nat.le_refl _) (.cells (madeCells #[.int .i64 0] 26) 3)
  have ia0 : IntsN (w.alloc (.cells (madeCells #[.int .i64 0] 26) 3)) ga 13 (digL A 13) := ia.below hb0 ia.lt
  have ib0 : IntsN (w.alloc (.cells (madeCells #[.int .i64 0] 26) 3)) gb 13 (digL B 13) := ib.below hb0 ib.lt
  have hga : ga ≠ w.heap.size := by have := ia.lt; omega
  have hgb : gb ≠ w.heap.size := by have := ib.lt; omega
  obtain ⟨ms, hms⟩ : ∃ ms, madeCells #[.int .i64 0] 26 = ms := ⟨_, rfl⟩
  rw [hms] at hc hb0 ia0 ib0
  simp only [hms] at hm
  clear hms ia ib
  have HBIG : Hid (Small (prodL A B) ∧ (prodL A B).length = 26 ∧ bigN (prodL A B) = A * B ∧ ∀ k, k < 26 → (prodL A B).getD k 0 = prodP (fun k => (digL A 13).getD k 0) (fun k => (digL B 13).getD k 0) 13 k) := ⟨prodL_small A B, prodL_length A B, prodL_big A B hA hB, prodL_at A B⟩
  have hal := dig_le A
  have hbl := dig_le B
  generalize A * B = AB at *
  generalize prodL A B = PL at *
  obtain ⟨a, ea⟩ : ∃ a : Nat → Nat, a = fun k => (digL A 13).getD k 0 := ⟨_, rfl⟩
  obtain ⟨b, eb⟩ : ∃ b : Nat → Nat, b = fun k => (digL B 13).getD k 0 := ⟨_, rfl⟩
  rw [← ea, ← eb] at HBIG
  have HLA : Hid (∀ q, a q ≤ 1023) := fun q => by rw [ea]; exact hal q
  have HLB : Hid (∀ q, b q ≤ 1023) := fun q => by rw [eb]; exact hbl q
  have HEA : Hid (∀ q, (digL A 13).getD q 0 = a q) := fun q => by rw [ea]
  have HEB : Hid (∀ q, (digL B 13).getD q 0 = b q) := fun q => by rw [eb]
  clear hal hbl ea eb hA hB
  generalize digL A 13 = LA at *
  generalize digL B 13 = LB at *
  obtain ⟨gt, hgt⟩ : ∃ gt, gt = w.heap.size := ⟨_, rfl⟩
  rw [← hgt] at hc hga hgb
  have HG : Hid (gt = w.heap.size) := hgt
  have hgt' : w.heap.size = gt := hgt.symm
  have hlow : w.heap.size ≤ gt := by omega
  have HA : Hid (CellsF (w.alloc (.cells ms 3)) gt 26 (fun k => .int .i64 (prodP a b 0 k : Nat)) ∧ IntsN (w.alloc (.cells ms 3)) ga 13 LA ∧ IntsN (w.alloc (.cells ms 3)) gb 13 LB ∧ Below w.heap.size w (w.alloc (.cells ms 3))) := ⟨hc, ia0, ib0, hb0⟩
  clear hc ia0 ib0 hb0 hgt
  go_enter Tryz.func202, Tryz.ntmps202
  go_wp2_with fail
  go_loopw [6] (fun v wr => ∃ i : Nat, i ≤ 13 ∧ v = .int .i64 i ∧ CellsF wr gt 26 (fun k => .int .i64 (prodP a b i k : Nat)) ∧ IntsN wr ga 13 LA ∧ IntsN wr gb 13 LB ∧ Below w.heap.size w wr) (fun v _ => 13 - (intOf v).toNat)
  case atStart => exact ⟨0, Nat.zero_le _, rfl, HA.out⟩
  case round =>
    clear HA hm
    obtain ⟨i, hi, rfl, hC, iA, iB, hb⟩ := hrel
    by_cases hlt : i < 13
    · have i13 : (i : Int) < 13 := by omega
      have HB : Hid (CellsF wr gt 26 (fun k => .int .i64 (rowP (prodP a b i) (a i) b i 0 k : Nat)) ∧ IntsN wr ga 13 LA ∧ IntsN wr gb 13 LB ∧ Below w.heap.size w wr) := ⟨hC.congr fun k _ => by rw [rowP_zero], iA, iB, hb⟩
      have HPL : Hid (∀ k, prodP a b i k ≤ i * 1046529) := fun k => prodP_le a b HLA.out HLB.out k i
      have HN : Hid (∀ k, prodP a b (i + 1) k = rowP (prodP a b i) (a i) b i 13 k) := fun _ => rfl
      generalize prodP a b i = f at *
      clear hC iA iB hb
      go_wp2_with fail
      generalize wr = wr0 at *
      go_loopw [7] (fun v wq => ∃ j : Nat, j ≤ 13 ∧ v = .int .i64 j ∧ CellsF wq gt 26 (fun k => .int .i64 (rowP f (a i) b i j k : Nat)) ∧ IntsN wq ga 13 LA ∧ IntsN wq gb 13 LB ∧ Below w.heap.size w wq) (fun v _ => 13 - (intOf v).toNat)
      case atStart => exact ⟨0, Nat.zero_le _, rfl, HB.out⟩
      case round =>
        clear HB
        obtain ⟨j, hj, rfl, hC, iA, iB, hb⟩ := hrel
        by_cases hjl : j < 13
        · have j13 : (j : Int) < 13 := by omega
          have cA := iA.cells i hlt
          rw [HEA.out i] at cA
          have cB := iB.cells j hjl
          rw [HEB.out j] at cB
          have cT := hC.cells (i + j) (by omega)
          have fT := hC.free (i + j) (by omega)
          have hpl := HPL.out (i + j)
          have hrl := rowP_le f (a i) b i j (i + j) (HLA.out i) HLB.out
          have hxy : a i * b j ≤ 1023 * 1023 := Nat.mul_le_mul (HLA.out i) (HLB.out j)
          have HF : Hid (∀ n, CellsF ((wr.setCell ⟨gt, i + j, none⟩ (.int .i64 ((rowP f (a i) b i j (i + j) + a i * b j : Nat) : Int))).drewN n) gt 26 (fun k => .int .i64 (rowP f (a i) b i (j + 1) k : Nat)) ∧ IntsN ((wr.setCell ⟨gt, i + j, none⟩ (.int .i64 ((rowP f (a i) b i j (i + j) + a i * b j : Nat) : Int))).drewN n) ga 13 LA ∧ IntsN ((wr.setCell ⟨gt, i + j, none⟩ (.int .i64 ((rowP f (a i) b i j (i + j) + a i * b j : Nat) : Int))).drewN n) gb 13 LB ∧ Below w.heap.size w ((wr.setCell ⟨gt, i + j, none⟩ (.int .i64 ((rowP f (a i) b i j (i + j) + a i * b j : Nat) : Int))).drewN n)) := fun n => ⟨((hC.set (i + j) (.int .i64 ((rowP f (a i) b i j (i + j) + a i * b j : Nat) : Int)) (by omega)).congr fun k _ => by
            rw [rowP_step f (a i) b i j k]
            by_cases e : k = i + j
            · subst e; rw [if_pos rfl, if_pos rfl]
            · rw [if_neg e, if_neg e]).drewN n, (ints_other iA hga).drewN n, (ints_other iB hgb).drewN n, below_drewN (hb.setCell (p := ⟨gt, i + j, none⟩) hlow _) n⟩
          generalize rowP f (a i) b i j (i + j) = t at *
          obtain ⟨z, hz⟩ : ∃ z, z = t + a i * b j := ⟨_, rfl⟩
          rw [← hz] at HF
          have w0 : IntKind.i64.wrap ((i : Int) + (j : Int)) = (i : Int) + j := by rw [IntKind.wrap_i64]; omega
          obtain ⟨xy, hxye⟩ : ∃ xy, xy = a i * b j := ⟨_, rfl⟩
          rw [← hxye] at hz hxy
          have w1 : IntKind.i64.wrap ((a i : Int) * (b j : Int)) = (xy : Int) := by rw [← Int.natCast_mul, ← hxye, IntKind.wrap_i64]; omega
          have w2 : IntKind.i64.wrap ((t : Int) + (xy : Int)) = (z : Int) := by rw [IntKind.wrap_i64]; omega
          have s26 : (i : Int) + j < 26 := by omega
          have s0 : (0 : Int) ≤ (i : Int) + j := by omega
          have st : ((i : Int) + j).toNat = i + j := by omega
          clear hxye hz
          generalize a i = x at *
          generalize b j = y at *
          clear hC iA iB hb hpl hrl hxy HLA HLB HPL
          go_wp2_with fail
          go_region
          all_goals
            go_wp2
            go_roundw
            case rel => exact ⟨j + 1, by omega, by go_num, HF.out 1⟩
            case measure => simp [intOf]; omega
        · obtain rfl : j = 13 := by omega
          have HF : Hid (CellsF wr gt 26 (fun k => .int .i64 (prodP a b (i + 1) k : Nat)) ∧ IntsN wr ga 13 LA ∧ IntsN wr gb 13 LB ∧ Below w.heap.size w wr) := ⟨hC.congr fun k _ => by rw [HN.out], iA, iB, hb⟩
          clear hC iA iB hb
          go_wp2
          go_roundw
          case rel => exact ⟨i + 1, by omega, by go_num, HF.out⟩
          case measure => simp [intOf]; omega
    · obtain rfl : i = 13 := by omega
      obtain ⟨hS, hL, hBig, hAt⟩ := HBIG.out
      have hIn : IntsN wr gt PL.length PL := by
        rw [hL]
        exact ⟨hC.lt, fun k hk => by rw [hC.cells k hk, hAt k hk], hC.free⟩
      have hred := rreduced_any PL hS (by omega) gt 26 (by omega) wr hIn
      rw [hL, hBig] at hred
      have HF : Hid (Below w.heap.size w wr) := hb
      clear hC iA iB hb hIn hS hL hBig hAt HBIG HLA HLB HEA HEB
      go_wp2_with fail
      refine hred.mono ?_
      rintro e w2 ⟨g, cap, rfl, hr, hg, hb2⟩
      have HR : Hid (IntsN w2 g 13 (digL (AB % polyP) 13) ∧ w.heap.size ≤ g ∧ Below w.heap.size w w2) := ⟨hr, Nat.le_trans HF.out.size hg, HF.out.trans (hb2.mono HF.out.size)⟩
      clear hred hr hg hb2
      go_wp2
      go_ret
      exact ⟨g, cap, rfl, HR.out⟩
end Go.Proofs.YtoopaigpjefonaaGreatDoor.Bx

namespace Go.Proofs.YtoopaigpjefonaaGreatDoor.Bx
set_option maxRecDepth 20000

/-- A number's first bits. -/
def bitL (V n : Nat) : List Nat := (List.range n).map fun t => V / 2 ^ t % 2
theorem bitL_length (V n : Nat) : (bitL V n).length = n := by simp [bitL]
theorem bitL_snoc (V n : Nat) : intV (bitL V (n + 1)) = intV (bitL V n) ++ [.int .i64 ((V / 2 ^ n % 2 : Nat) : Int)] := by
  rw [bitL, List.range_succ, List.map_append, intV, List.map_append]
  rfl
theorem bitL_at (V n t : Nat) (h : t < n) : (bitL V n).getD t 0 = V / 2 ^ t % 2 := by
  rw [List.getD_eq_getElem?_getD, bitL, List.getElem?_map, List.getElem?_range h]
  rfl
theorem bit_ten (y r : Nat) (hr : r < 10) : y % 1024 / 2 ^ r % 2 = y / 2 ^ r % 2 := by
  have : r = 0 ∨ r = 1 ∨ r = 2 ∨ r = 3 ∨ r = 4 ∨ r = 5 ∨ r = 6 ∨ r = 7 ∨ r = 8 ∨ r = 9 := by omega
  rcases this with rfl | rfl | rfl | rfl | rfl | rfl | rfl | rfl | rfl | rfl <;> simp only [Nat.reducePow] <;> omega
theorem bit_dig (V i j : Nat) (hj : j < 10) : V / 1024 ^ i % 1024 / 2 ^ j % 2 = V / 2 ^ (10 * i + j) % 2 := by
  rw [bit_ten _ _ hj, Nat.div_div_eq_div_mul, Nat.pow_add, Nat.pow_mul]
theorem and_one10 (b r : Nat) (h : b < 1024) : bits .and .i64 ((b : Int) / 2 ^ r) 1 = ((b / 2 ^ r % 2 : Nat) : Int) := by
  have e2 : (b : Int) / 2 ^ r = ((b / 2 ^ r : Nat) : Int) := by rw [Int.natCast_ediv, Int.natCast_pow]; rfl
  have hd : b / 2 ^ r ≤ b := Nat.div_le_self _ _
  rw [e2, show (1 : Int) = ((1 : Nat) : Int) from rfl, i64_and_nat _ _ (by omega) (by decide), Nat.and_one_is_mod]
/-- Two numbers' digits, added one by one. -/
def addF (W H k : Nat) : Nat := (digL W 14).getD k 0 + if k < 13 then (digL H 13).getD k 0 else 0
def addT (W H : Nat) : List Nat := (List.range 14).map (addF W H)
theorem addT_length (W H : Nat) : (addT W H).length = 14 := by simp [addT]
theorem addT_at (W H k : Nat) (h : k < 14) : (addT W H).getD k 0 = addF W H k := by
  rw [List.getD_eq_getElem?_getD, addT, List.getElem?_map, List.getElem?_range h]
  rfl
theorem dig14_lt (W k : Nat) : (digL W 14).getD k 0 < 1024 := getD_lt (by decide) (digL_digs W 14) k
theorem dig13_lt (W k : Nat) : (digL W 13).getD k 0 < 1024 := getD_lt (by decide) (digL_digs W 13) k
theorem addF_lt (W H k : Nat) : addF W H k < 2048 := by
  have h1 := dig14_lt W k
  have h2 := dig13_lt H k
  unfold addF
  split <;> omega
theorem addT_small (W H : Nat) : Small (addT W H) := fun x hx => by
  obtain ⟨k, _, rfl⟩ := List.mem_map.1 hx
  have := addF_lt W H k
  omega
theorem addT_high (W H k : Nat) : (addT W H).getD (k + 13) 0 = [W / 1024 ^ 13 % 1024].getD k 0 := by
  cases k with
  | zero =>
    rw [addT_at W H 13 (by omega), addF, digL_at W 14 13 (by omega), if_neg (by omega)]
    rfl
  | succ k =>
    rw [getD_beyond _ _ (by rw [addT_length]; omega)]
    rfl
theorem addT_big (W H : Nat) (hW : W < 1024 ^ 14) (hH : H < 1024 ^ 13) : bigN (addT W H) = H + W := by
  have h1 : sumF (fun k => (addT W H).getD k 0) 13 = W % 1024 ^ 13 + 1 * (H % 1024 ^ 13) := by
    rw [← sumF_digits W 13, ← sumF_digits H 13, ← sumF_add]
    refine sumF_congr 13 fun k hk => ?_
    rw [addT_at W H k (by omega), addF, digL_at W 14 k (by omega), if_pos hk, digL_at H 13 k hk, Nat.one_mul]
  have h2 : sumF (fun k => (addT W H).getD (k + 13) 0) 13 = W / 1024 ^ 13 % 1024 := by
    rw [sumF_congr 13 fun i _ => addT_high W H i]
    simp [sumF]
  rw [bigN, h1, h2, Nat.mod_eq_of_lt hH]
  have h3 : W / 1024 ^ 13 < 1024 := by
    rw [Nat.div_lt_iff_lt_mul (by decide)]
    rw [Nat.pow_succ] at hW
    omega
  rw [Nat.mod_eq_of_lt h3]
  have := Nat.mod_add_div W (1024 ^ 13)
  omega
theorem step_times (r h : Nat) (piece : List Nat) : (h + leN (piece ++ [1])) % polyP * r % polyP = polyStep r h piece := by
  rw [polyStep, Nat.mod_mul_mod]
/-- The key's second half and the number: their digits' sums, what is carried. -/
def lastF (H S k : Nat) : Nat := (digL H 13).getD k 0 + (digL S 13).getD k 0
theorem lastF_lt (H S k : Nat) : lastF H S k < 2048 := by
  have h1 := dig13_lt H k
  have h2 := dig13_lt S k
  unfold lastF
  omega
theorem last_carry (H S : Nat) : ∀ i, carryC (lastF H S) i < 2
  | 0 => by simp [carryC]
  | i + 1 => by
    have := last_carry H S i
    have h1 := dig13_lt H i
    have h2 := dig13_lt S i
    rw [carryC, lastF]
    omega
theorem last_sum (H S : Nat) (hH : H < 1024 ^ 13) (hS : S < 1024 ^ 13) : sumF (lastF H S) 13 = H + S := by
  have h := sumF_add (fun k => (digL H 13).getD k 0) (fun k => (digL S 13).getD k 0) 1 13
  rw [sum_dig H hH, sum_dig S hS, Nat.one_mul] at h
  rw [← h]
  exact sumF_congr 13 fun k _ => by rw [lastF, Nat.one_mul]
theorem last_dig (H S i : Nat) (hi : i < 13) (hH : H < 1024 ^ 13) (hS : S < 1024 ^ 13) : (carryC (lastF H S) i + lastF H S i) % 1024 = (H + S) / 1024 ^ i % 1024 := by
  rw [carryD_eq (lastF H S) i (12 - i), show i + 1 + (12 - i) = 13 by omega, last_sum H S hH hS]
theorem last_bytes (V i : Nat) (hi : i < 16) : V % 340282366920938463463374607431768211456 / 2 ^ (8 * i) % 256 = V / 2 ^ (8 * i) % 256 := by
  have : i = 0 ∨ i = 1 ∨ i = 2 ∨ i = 3 ∨ i = 4 ∨ i = 5 ∨ i = 6 ∨ i = 7 ∨ i = 8 ∨ i = 9 ∨ i = 10 ∨ i = 11 ∨ i = 12 ∨ i = 13 ∨ i = 14 ∨ i = 15 := by omega
  rcases this with rfl | rfl | rfl | rfl | rfl | rfl | rfl | rfl | rfl | rfl | rfl | rfl | rfl | rfl | rfl | rfl <;> simp only [Nat.reducePow, Nat.reduceMul] <;> omega
theorem last_leB (V : Nat) : leB 16 (V % 340282366920938463463374607431768211456) = leB 16 V := by
  unfold leB
  refine List.map_congr_left fun i hi => ?_
  exact last_bytes V i (List.mem_range.1 hi)
theorem small_13 : ∀ V, V < 340282366920938463463374607431768211456 → V < 1024 ^ 13 := fun V h => Nat.lt_trans h (by decide)
end Go.Proofs.YtoopaigpjefonaaGreatDoor.Bx
