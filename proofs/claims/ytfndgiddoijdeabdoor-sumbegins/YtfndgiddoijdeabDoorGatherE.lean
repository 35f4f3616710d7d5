/- sum.gather over the closure grapnel/sum.Expand$1: the first n bytes of its pieces. -/
import Derived.Test.YtfndgiddoijdeabDoorGatherBase
namespace Go.Proofs.YtfndgiddoijdeabDoor
open Go.RowKit

set_option maxRecDepth 10000 in
set_option maxHeartbeats 1000000 in
theorem gatherE (n : Nat) (hn : n ≤ 8160) (c0 c1 c2 : Value) (LB : Nat) (D : Nat → List Nat) (hD : ∀ i, (D i).length = 32) (Inv : Nat → World → Prop) (w : World) (hLB : LB < w.heap.size) (h0 : Inv 0 w)
    (hst : ∀ i w1 w2, Inv i w1 → Below w.heap.size w1 w2 → Inv i w2)
    (hcall : ∀ i w1, i < (n + 31) / 32 → Inv i w1 → w.heap.size ≤ w1.heap.size → Calls Tryd.prog 17 #[.int .i64 ((i : Int) + 1), c0, c1, c2] w1 fun e w2 => e = .returned (.agg (byV (D i)).toArray) ∧ Inv (i + 1) w2 ∧ Only LB w1 w2) :
    Calls Tryd.prog 16 #[.int .i64 n, .func (.func 17) #[] #[c0, c1, c2]] w fun e w' => e = .returned (.string (strOfNums (((catD D ((n + 31) / 32)).take n).map fun (x : Nat) => (x : Int)))) ∧ Inv ((n + 31) / 32) w' ∧ Only LB w w' := by
  obtain ⟨i0, hi, hz0, hz1, hz2⟩ := info_parts info_b8
  obtain ⟨m, hm⟩ : ∃ m, m = (n + 31) / 32 := ⟨_, rfl⟩
  have hm1 : m ≤ 255 := by omega
  have hmn : n ≤ 32 * m := by omega
  have hnm : 32 * m ≤ n + 31 := by omega
  have q1 : IntKind.i64.wrap ((n : Int) + 32) = n + 32 := by rw [IntKind.wrap_i64]; omega
  have q2 : IntKind.i64.wrap ((n : Int) + 32 - 1) = n + 31 := by rw [IntKind.wrap_i64]; omega
  have q3 : ((n : Int) + 31) / 32 = m := by omega
  rw [← hm] at hcall
  rw [← hm]
  obtain ⟨zd, hzd⟩ : ∃ zd : Array Value, zd = (digV []).toArray := ⟨_, rfl⟩
  have hdv : ∀ w, (zeroValue 49).run Tryd.prog w = .ok (.agg zd) w := by rw [hzd]; exact (zero_of_info (n := 32) (by kernel_rfl)).1
  have hzd32 : zd.size = 32 := by rw [hzd]; rfl
  have HC : Hid (∀ i w1, i < m → Inv i w1 → w.heap.size ≤ w1.heap.size → Calls Tryd.prog 17 #[.int .i64 ((i : Int) + 1), c0, c1, c2] w1 fun e w2 => e = .returned (.agg (byV (D i)).toArray) ∧ Inv (i + 1) w2 ∧ Only LB w1 w2) := hcall
  have HST : Hid (∀ i w1 w2, Inv i w1 → Below w.heap.size w1 w2 → Inv i w2) := hst
  have HD : Hid (∀ i, (D i).length = 32) := hD
  have HM : Hid (m = (n + 31) / 32) := hm
  clear hcall hst hzd hm hD
  go_enter Tryd.func16, Tryd.ntmps16
  go_wp2_with fail
  rw [q3]
  go_loopw [5, 12] (fun v i wr => ∃ j : Nat, j ≤ m ∧ i = .int .i64 j ∧ wr.ownsRow w.heap.size 5 1 v (32 * j) (byV (catD D j)) ∧ Inv j wr ∧ Only LB w wr) (fun _ i _ => m - (intOf i).toNat)
  case atStart => exact ⟨0, Nat.zero_le _, rfl, World.ownsRow_nil _ _ _ _, h0, Only.refl _ _⟩
  case round =>
    clear h0
    obtain ⟨j, hj, rfl, hown, hinv, ho⟩ := hrel
    by_cases hlt : j < m
    · have j1 : (j : Int) < m := by omega
      have HR : Hid (wr.ownsRow w.heap.size 5 1 u5 (32 * j) (byV (catD D j)) ∧ Inv j wr ∧ Only LB w wr) := ⟨hown, hinv, ho⟩
      clear hown hinv ho
      go_wp2_with fail
      refine (HC.out j wr hlt HR.out.2.1 HR.out.2.2.size).mono ?_
      rintro e w3 ⟨rfl, hinv3, ho3⟩
      obtain ⟨ds, hds⟩ : ∃ ds, ds = (byV (D j)).toArray := ⟨_, rfl⟩
      have hsz2 : ds.size = 32 := by rw [hds]; simp [byV, HD.out]
      have hone : ds.all (·.oneCell') = true := by rw [hds]; simp [byV, Value.oneCell']
      have hinfo : (Tryd.prog.info? 49).map (·.size) = some ds.size := by rw [hsz2]; kernel_rfl
      have hz32 : zd.size = ds.size := by rw [hzd32, hsz2]
      rw [← hds]
      have hown3 : w3.ownsRow w.heap.size 5 1 u5 (32 * j) (byV (catD D j)) := owns_only HR.out.1 ho3 (fun k hk => by have := (HR.out.1.lt k hk).1; omega)
      have HDS : Hid (ds = (byV (D j)).toArray) := hds
      clear hds
      have hset : (w3.alloc (.cells zd 49)).setRow w3.heap.size ds = w3.alloc (.cells ds 49) := World.setRow_alloc_new _ _ _ _
      have hrow4 : Row (w3.alloc (.cells ds 49)) w3.heap.size 49 (byV (D j)) := by rw [HDS.out]; exact heap_alloc_new w3 _
      have hown4 := hown3.alloc (.cells ds 49)
      have hle3 : w.heap.size ≤ w3.heap.size := Nat.le_trans HR.out.2.2.size ho3.size
      have hb4 : Below w.heap.size w3 (w3.alloc (.cells ds 49)) := (Below.refl _ _).alloc hle3 _
      obtain ⟨w4, hw4⟩ : ∃ w4, w4 = w3.alloc (.cells ds 49) := ⟨_, rfl⟩
      rw [← hw4] at hset hrow4 hown4 hb4
      clear hw4
      have hl32 : (byV (D j)).length = 32 := by simp [byV, HD.out]
      have H4 : Hid (w4.ownsRow w.heap.size 5 1 u5 (32 * j) (byV (catD D j)) ∧ Row w4 w3.heap.size 49 (byV (D j)) ∧ Below w.heap.size w3 w4 ∧ Inv (j + 1) w3 ∧ Only LB w w3 ∧ w.heap.size ≤ w4.heap.size) := ⟨hown4, hrow4, hb4, hinv3, HR.out.2.2.trans ho3, Nat.le_trans hle3 hb4.size⟩
      clear hown3 hown4 hrow4 hb4 hinv3 ho3 HDS HR
      go_wp2_with (first | (at_builtin; refine wpList_append_own _ rfl _ _ 51 rfl w.heap.size 5 i0 (.int .u8 0) 1 1 Tryd.underlying51 hi hz0 hz1 hz2 rfl (by decide) u5 (32 * j) _ rfl H4.out.1 ⟨w3.heap.size, 0, none⟩ 32 32 (byV (D j)) rfl ?c1 (World.news_of_block H4.out.2.1) (byV_one _) ?c3 ?c4 H4.out.2.2.2.2.2 ?_) | (refine wpList_store_row rfl 49 _ _ rfl w3.heap.size ds rfl rfl 49 _ (heap_alloc_new w3 _) hinfo hz32 hone ?_; rw [hset]))
      case c1 => rw [hl32]
      case c3 => unfold maxLen; omega
      case c4 => omega
      intro v' w5 hown5 hgrow5 _
      have hb5 : Below w.heap.size w3 w5 := H4.out.2.2.1.grown hgrow5 H4.out.2.2.2.2.2 (fun k hk => (H4.out.1.lt k hk).1)
      have HF : Hid (w5.ownsRow w.heap.size 5 1 v' (32 * (j + 1)) (byV (catD D (j + 1))) ∧ Inv (j + 1) w5 ∧ Only LB w w5) := ⟨by
        rw [catD, byV_append]; exact hown5, HST.out _ _ _ H4.out.2.2.2.1 hb5, only_below H4.out.2.2.2.2.1 hb5⟩
      clear hown5 hgrow5 hb5 H4 hl32
      go_wp2
      go_roundw
      case rel => exact ⟨j + 1, by omega, by go_num, HF.out.1, HF.out.2.1, HF.out.2.2⟩
      case measure => simp [intOf]; omega
    · obtain rfl : j = m := by omega
      by_cases hn0 : n = 0
      · subst hn0
        obtain rfl : j = 0 := by omega
        have hv : u5 = .slice none 0 0 ∨ ∃ g cap, u5 = .slice (some ⟨g, 0, none⟩) 0 cap := by
          rcases hown.2 with ⟨h, _⟩ | ⟨g, cap, cur, h, _⟩
          · exact .inl h
          · exact .inr ⟨g, cap, h⟩
        have HF : Hid (Inv 0 wr ∧ Only LB w wr ∧ strOfNums (((catD D 0).take 0).map fun (x : Nat) => (x : Int)) = ByteArray.empty) := ⟨hinv, ho, rfl⟩
        clear hown hinv ho
        rcases hv with rfl | ⟨g, cap, rfl⟩
        · have hcv := fun W => run_convert_bytes_nil (P := Tryd.prog) W 51 5 Tryd.underlying51 Tryd.underlying5 0 0 9 Tryd.underlying9
          go_wp2
          first
            | (rw [hcv]; go_wp2)
            | skip
          go_ret
          exact ⟨rfl, HF.out.1, HF.out.2.1⟩
        · have hcv := fun W => run_convert_bytes_arg (P := Tryd.prog) W 51 5 Tryd.underlying51 Tryd.underlying5 g 0 0 cap [] rfl (fun i hi => absurd hi (Nat.not_lt_zero i)) 9 Tryd.underlying9
          have hc0 : (0 : Int) ≤ cap := by omega
          go_wp2
          first
            | (rw [hcv]; go_wp2)
            | skip
          go_ret
          exact ⟨rfl, HF.out.1, HF.out.2.1⟩
      · obtain ⟨g, cap, rfl, _, _⟩ := hown.form (by omega)
        have hcl : 32 * j ≤ cap := by
          rcases hown.2 with ⟨h, _⟩ | ⟨g', cap', cur, h, _, _, hc, _⟩
          · simp at h
          · simp only [Value.slice.injEq, Option.some.injEq, Addr.mk.injEq, and_true, true_and] at h
            omega
        have hnc : (n : Int) ≤ cap := by omega
        have hcl2 : (catD D j).length = 32 * j := catD_length D HD.out j
        have hcv := run_convert_bytes_arg (P := Tryd.prog) wr 51 5 Tryd.underlying51 Tryd.underlying5 g 0 n cap (((catD D j).take n).map fun (x : Nat) => (x : Int)) (by simp; omega) (fun i hi => by
          rw [Nat.zero_add, hown.cellAt i (by omega), byV_get _ _ (by omega), getD_at _ _ (by omega)]
          have h1 : i < ((catD D j).take n).length := by simp; omega
          rw [List.getD_eq_getElem?_getD, List.getElem?_map, List.getElem?_eq_getElem h1, List.getElem_take]; rfl) 9 Tryd.underlying9
        have HF : Hid (Inv j wr ∧ Only LB w wr) := ⟨hinv, ho⟩
        clear hown hinv ho
        obtain ⟨X, hX⟩ : ∃ X, X = strOfNums (((catD D j).take n).map fun (x : Nat) => (x : Int)) := ⟨_, rfl⟩
        rw [← hX] at hcv
        have HX : Hid (X = strOfNums (((catD D j).take n).map fun (x : Nat) => (x : Int))) := hX
        clear hX
        go_wp2
        first
          | (rw [hcv]; go_wp2)
          | skip
        go_ret
        exact ⟨by first | (rw [HX.out]; rfl) | (rw [HX.out, List.map_take]; rfl), HF.out.1, HF.out.2⟩
end Go.Proofs.YtfndgiddoijdeabDoor
