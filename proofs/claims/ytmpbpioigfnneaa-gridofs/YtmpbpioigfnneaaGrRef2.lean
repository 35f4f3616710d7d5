/- The document's grid: Free and Body. -/
import Derived.Test.YtmpbpioigfnneaaGrRef
namespace Go.Proofs.Ytmpbpioigfnneaa
set_option maxRecDepth 20000
open Go.RowKit

set_option maxHeartbeats 2000000 in
theorem rfree_any (w : World) (b n : Nat) (u : Nat → Bool) (h : BoolsAt w b n u) (hn : n ≤ 3584) (f k : Int) :
    Calls Try.prog 21 #[.slice (some ⟨b, 0, none⟩) n n, .int .i64 f, .int .i64 k] w fun e w' => ∃ v, e = .returned v ∧ IntsAt w' w.heap.size v (freeTo u f k n) ∧ Below w.heap.size w w' := by
  obtain ⟨i0, hi0, hz0, hz1, hz2⟩ := info_parts gr_info_int
  have HC : Hid (∀ wr, Below w.heap.size w wr → ∀ i, i < n → wr.cell? ⟨b, i, none⟩ = some (.bool (u i))) := fun wr hb i hi => (h.keep (hb.block b h.lt)).cell i hi
  clear h
  go_enter Try.func21, Try.ntmps21
  go_wp2_with fail
  go_loopw [7, 8] (fun pv v wr => ∃ (j : Nat) (ad : Option Addr) (c : Nat), j ≤ n ∧ v = .int .i64 (j : Int) ∧ pv = .slice ad (freeTo u f k j).length c ∧ IntsAt wr w.heap.size pv (freeTo u f k j) ∧ Below w.heap.size w wr) (fun _ v _ => n - (intOf v).toNat)
  case atStart => exact ⟨0, none, 0, Nat.zero_le _, rfl, rfl, World.ownsRow_nil _ _ _ _, Below.refl _ _⟩
  case round =>
    obtain ⟨j, ad, c, hj, rfl, rfl, hown, hb⟩ := hrel
    have hbs := hb.size
    by_cases hlt : j < n
    · have j1 : (j : Int) < (n : Nat) := by omega
      have hc := HC.out wr hb j hlt
      have hlen := freeTo_len u f k j
      have hsu := freeTo_succ u f k j
      have HI : Hid (wr.ownsRow w.heap.size 3 1 (.slice ad (freeTo u f k j).length c) (freeTo u f k j).length (intV (freeTo u f k j)) ∧ Below w.heap.size w wr) := ⟨hown, hb⟩
      have HS : Hid (freeTo u f k (j + 1) = if u j = false ∧ f ≤ (j : Int) ∧ ((freeTo u f k j).length : Int) < k then freeTo u f k j ++ [j] else freeTo u f k j) := hsu
      clear hown hb hsu
      obtain ⟨L, hL⟩ : ∃ L, L = freeTo u f k j := ⟨_, rfl⟩
      rw [← hL] at HI HS hlen ⊢
      clear hL
      generalize u j = y at *
      obtain ⟨len, hle⟩ : ∃ len, len = L.length := ⟨_, rfl⟩
      rw [← hle] at hlen HI HS ⊢
      have HE : Hid (len = L.length) := hle
      clear hle
      have hno : ∀ (hn : ¬ (y = false ∧ f ≤ (j : Int) ∧ (len : Int) < k)), IntsAt wr w.heap.size (.slice ad (freeTo u f k (j + 1)).length c) (freeTo u f k (j + 1)) ∧ Below w.heap.size w wr ∧ (freeTo u f k (j + 1)).length = len := fun hn => by
        rw [HS.out, if_neg hn]
        unfold IntsAt
        rw [← HE.out]
        exact ⟨HI.out.1, HI.out.2, rfl⟩
      cases y
      · by_cases h1 : f ≤ (j : Int)
        · by_cases h2 : (len : Int) < k
          · have hnew : (wr.alloc (.cells #[.int .i64 (j : Int)] 3)).heap[wr.heap.size]? = some (.cells #[.int .i64 (j : Int)] 3 (0, 0)) := heap_alloc_new wr _
            have hownC := HI.out.1.alloc (.cells #[.int .i64 (j : Int)] 3)
            have hone : ∀ u ∈ ([.int .i64 (j : Int)] : List Value), u.oneCell' = true := by intro u hu; simp at hu; rw [hu]; rfl
            clear hno
            go_wp2_with (first | (at_builtin; (refine wpList_append_own _ rfl _ _ 44 rfl w.heap.size 3 i0 (.int .i64 0) 1 8 Try.underlying44 hi0 hz0 hz1 hz2 rfl (by decide) (.slice ad len c) len (intV L) rfl hownC ⟨wr.heap.size, 0, none⟩ 1 1 [.int .i64 (j : Int)] rfl rfl (World.news_of_block hnew) hone (by unfold maxLen; omega) (by omega) (by simp; omega) ?_)))
            intro v1 wB hown1 hgrow1 _
            have hTB : Below w.heap.size w wB := (HI.out.2.alloc hbs _).grown hgrow1 (by simp; omega) fun k hk => (HI.out.1.lt k hk).1
            obtain ⟨g1, cap1, rfl⟩ : ∃ g1 cap1, v1 = .slice (some ⟨g1, 0, none⟩) (len + 1) cap1 := by obtain ⟨g1, c1, e1, _⟩ := World.ownsRow.form hown1 (by omega); exact ⟨g1, c1, e1⟩
            have HF : Hid (IntsAt wB w.heap.size (.slice (some ⟨g1, 0, none⟩) (freeTo u f k (j + 1)).length cap1) (freeTo u f k (j + 1)) ∧ Below w.heap.size w wB ∧ (freeTo u f k (j + 1)).length = len + 1) := by
              unfold IntsAt
              rw [HS.out, if_pos (by first | exact ⟨rfl, h1, h2⟩ | exact ⟨trivial, h1, h2⟩), List.length_append, ← HE.out, intV_append]
              exact ⟨hown1, hTB, rfl⟩
            clear hownC hnew hown1 hgrow1 hTB hone hc
            go_wp2
            go_roundw
            case rel => exact ⟨j + 1, some ⟨g1, 0, none⟩, cap1, by omega, by go_num, by rw [HF.out.2.2], by rw [← HF.out.2.2]; exact HF.out.1, HF.out.2.1⟩
            case measure => simp [intOf]; omega
          · have HF : Hid _ := hno fun e => h2 e.2.2
            have h2' : decide ((len : Int) < k) = false := decide_eq_false h2
            clear hno h2
            go_wp2
            go_roundw
            case rel => exact ⟨j + 1, ad, c, by omega, by go_num, by rw [HF.out.2.2], by rw [← HF.out.2.2]; exact HF.out.1, HF.out.2.1⟩
            case measure => simp [intOf]; omega
        · have HF : Hid _ := hno fun e => h1 e.2.1
          have h1' : decide (f ≤ (j : Int)) = false := decide_eq_false h1
          clear hno h1
          go_wp2
          go_roundw
          case rel => exact ⟨j + 1, ad, c, by omega, by go_num, by rw [HF.out.2.2], by rw [← HF.out.2.2]; exact HF.out.1, HF.out.2.1⟩
          case measure => simp [intOf]; omega
      · have HF : Hid _ := hno fun e => by cases e.1
        clear hno
        go_wp2
        go_roundw
        case rel => exact ⟨j + 1, ad, c, by omega, by go_num, by rw [HF.out.2.2], by rw [← HF.out.2.2]; exact HF.out.1, HF.out.2.1⟩
        case measure => simp [intOf]; omega
    · obtain rfl : j = n := by omega
      have j1 : ¬ (j : Int) < j := by omega
      have HF : Hid (IntsAt wr w.heap.size (.slice ad (freeTo u f k j).length c) (freeTo u f k j) ∧ Below w.heap.size w wr) := ⟨hown, hb⟩
      obtain ⟨len, hle⟩ : ∃ len, len = (freeTo u f k j).length := ⟨_, rfl⟩
      rw [← hle] at HF ⊢
      clear hown hb hle
      go_wp2
      go_ret
      exact ⟨_, rfl, HF.out⟩
/-- The first j bools. -/
def cutU (u : Nat → Bool) (j : Nat) : Nat → Bool := fun i => decide (i < j) && u i
theorem cutU_zero (u : Nat → Bool) : cutU u 0 = noneU := by funext i; simp [cutU, noneU]
theorem cutU_all (u : Nat → Bool) (n : Nat) (h : ∀ i, n ≤ i → u i = false) : cutU u n = u := by
  funext i
  by_cases e : i < n
  · simp [cutU, e]
  · simp [cutU, e, h i (by omega)]
theorem cutU_succ (u : Nat → Bool) (j : Nat) : cutU u (j + 1) = putU (cutU u j) j (u j) := by
  funext i
  unfold putU cutU
  by_cases e : i = j
  · rw [if_pos e, e]; simp
  · rw [if_neg e]
    congr 1
    by_cases h : i < j
    · simp [h]; omega
    · simp [h]; omega
theorem cutU_at (u : Nat → Bool) (j : Nat) : cutU u j j = false := by simp [cutU]
theorem gB_add : ∀ b0 b1 b2 b3 b4 b5 b6 b7 : Bool, ∀ j : Fin 8, pick8 b0 b1 b2 b3 b4 b5 b6 b7 j.val = false → gB b0 b1 b2 b3 b4 b5 b6 b7 + 2 ^ j.val = gB b0 b1 b2 b3 b4 b5 b6 b7 ||| 2 ^ j.val := by decide +kernel
theorem gByte_add (u : Nat → Bool) (i : Nat) (h : u i = false) : gByte u (i / 8) + 2 ^ (i % 8) = gByte (putU u i true) (i / 8) := by
  have h1 := gByte_or u (i / 8) (i % 8) (by omega)
  rw [show 8 * (i / 8) + i % 8 = i by omega] at h1
  rw [← h1]
  refine gB_add _ _ _ _ _ _ _ _ ⟨i % 8, by omega⟩ ?_
  rw [pick8_at u (i / 8) (i % 8) (by omega), show 8 * (i / 8) + i % 8 = i by omega]
  exact h
def ByteRow (w : World) (g : Nat) (u : Nat → Bool) : Prop := Row w g 5 (rowF 448 fun k => .int .u8 ((gByte u k : Nat) : Int))
theorem ByteRow.set {w : World} {g : Nat} {u : Nat → Bool} (h : ByteRow w g u) (i : Nat) (b : Bool) (x : Nat) (hx : x = gByte (putU u i b) (i / 8)) : ByteRow (w.setCell ⟨g, i / 8, none⟩ (.int .u8 (x : Int))) g (putU u i b) := by
  refine Row.congr (Row.setF h (i / 8) _) (rowF_congr fun k _ => ?_)
  by_cases e : k = i / 8
  · rw [if_pos e, e, hx]
  · rw [if_neg e, gByte_far _ _ _ _ e]
theorem u8_add : ∀ x : Fin 256, ∀ j : Fin 8, x.val + 2 ^ j.val < 256 → (((x.val : Nat) : Int) + 2 ^ j.val % 256) % 256 = ((x.val + 2 ^ j.val : Nat) : Int) := by decide +kernel
theorem made_bytes (w : World) : ByteRow (w.alloc (.cells (madeCells #[.int .u8 0] 448) 5)) w.heap.size noneU := by
  have e : (rowF 448 fun k => Value.int .u8 ((gByte noneU k : Nat) : Int)) = List.replicate 448 (.int .u8 0) := by
    rw [rowF]
    simp only [gByte_none]
    rw [List.map_const', List.length_range]
    rfl
  unfold ByteRow
  rw [e, Row, ← toList_madeCells_one]
  exact heap_alloc_new w _
set_option maxHeartbeats 2000000 in
theorem rbody_any (w : World) (b n : Nat) (u : Nat → Bool) (h : BoolsAt w b n u) (hn : n ≤ 3584) (hu : ∀ i, n ≤ i → u i = false) :
    Calls Try.prog 15 #[.slice (some ⟨b, 0, none⟩) n n] w fun e w' => e = .returned (.string (bodyU u)) ∧ Below w.heap.size w w' := by
  have hmk : (Instr.makeSlice 60 (.int .i64 448) (.int .i64 448)).run Try.prog w = .ok (.slice (some ⟨w.heap.size, 0, none⟩) 448 448) (w.alloc (.cells (madeCells #[.int .u8 0] 448) 5)) := run_make_row' (P := Try.prog) 60 5 (.int .u8 0) 1 Try.underlying60 info_u8 rfl .i64 .i64 448 (by omega) (by omega) w
  obtain ⟨w1, hw1⟩ : ∃ w1, w.alloc (.cells (madeCells #[.int .u8 0] 448) 5) = w1 := ⟨_, rfl⟩
  have HR : Hid (ByteRow w1 w.heap.size (cutU u 0) ∧ Below w.heap.size w w1) := by rw [← hw1, cutU_zero]; exact ⟨made_bytes w, (Below.refl _ _).alloc (Nat.le_refl _) _⟩
  rw [hw1] at hmk
  have HC : Hid (∀ wr, Below w.heap.size w wr → ∀ i, i < n → wr.cell? ⟨b, i, none⟩ = some (.bool (u i))) := fun wr hb i hi => (h.keep (hb.block b h.lt)).cell i hi
  clear h hw1
  go_enter Try.func15, Try.ntmps15
  go_wp2_with fail
  go_loopw [4] (fun v wr => ∃ j : Nat, j ≤ n ∧ v = .int .i64 (j : Int) ∧ ByteRow wr w.heap.size (cutU u j) ∧ Below w.heap.size w wr) (fun v _ => n - (intOf v).toNat)
  case atStart => exact ⟨0, Nat.zero_le _, rfl, HR.out⟩
  case round =>
    clear HR hmk
    obtain ⟨j, hj, rfl, hr, hb⟩ := hrel
    by_cases hlt : j < n
    · have j1 : (j : Int) < (n : Nat) := by omega
      have hc := HC.out wr hb j hlt
      have HS : Hid (cutU u (j + 1) = putU (cutU u j) j (u j)) := cutU_succ u j
      obtain ⟨y, hy⟩ : ∃ y, y = u j := ⟨_, rfl⟩
      rw [← hy] at hc HS
      cases y
      · have HF : Hid (ByteRow wr w.heap.size (cutU u (j + 1)) ∧ Below w.heap.size w wr) := by
          rw [HS.out]
          have e := putU_self (cutU u j) j
          rw [cutU_at] at e
          rw [e]
          exact ⟨hr, hb⟩
        clear hr hb hy
        go_wp2
        go_roundw
        case rel => exact ⟨j + 1, by omega, by go_num, HF.out⟩
        case measure => simp [intOf]; omega
      · have cb : wr.cell? ⟨w.heap.size, j / 8, none⟩ = some (.int .u8 ((gByte (cutU u j) (j / 8) : Nat) : Int)) := Row.cellF hr (j / 8) (by omega)
        have cf : wr.frozen? ⟨w.heap.size, j / 8, none⟩ = false := Row.frozen hr (j / 8)
        have hadd := gByte_add (cutU u j) j (cutU_at u j)
        have hlt2 := gByte_lt (putU (cutU u j) j true) (j / 8)
        have hlt1 := gByte_lt (cutU u j) (j / 8)
        have HF : Hid (∀ x : Int, x = ((gByte (cutU u j) (j / 8) + 2 ^ (j % 8) : Nat) : Int) → ByteRow (wr.setCell ⟨w.heap.size, j / 8, none⟩ (.int .u8 x)).drew w.heap.size (cutU u (j + 1)) ∧ Below w.heap.size w (wr.setCell ⟨w.heap.size, j / 8, none⟩ (.int .u8 x)).drew) := fun x hx => by
          rw [HS.out, hx]
          exact ⟨hr.set j true _ hadd, (hb.setCell (p := ⟨w.heap.size, j / 8, none⟩) (Nat.le_refl _) _).drew⟩
        obtain ⟨x, hx⟩ : ∃ x, x = gByte (cutU u j) (j / 8) := ⟨_, rfl⟩
        rw [← hx] at cb hadd hlt1 HF
        have hua : ((x : Int) + 2 ^ (j % 8) % 256) % 256 = ((x + 2 ^ (j % 8) : Nat) : Int) := u8_add ⟨x, hlt1⟩ ⟨j % 8, by omega⟩ (by rw [show (⟨x, hlt1⟩ : Fin 256).val + 2 ^ (⟨j % 8, by omega⟩ : Fin 8).val = x + 2 ^ (j % 8) from rfl, hadd]; exact hlt2)
        clear hr hb hy hx hadd hlt2 hlt1
        go_wp2_with fail
        go_region
        have HG : Hid _ := HF.out ((x : Int) + 2 ^ (j % 8)) (by simp)
        generalize ((x : Int) + 2 ^ (j % 8)) = z at *
        clear HF hua cb cf
        go_wp2
        go_roundw
        case rel => exact ⟨j + 1, by omega, by go_num, HG.out⟩
        case measure => simp [intOf]; omega
    · obtain rfl : j = n := by omega
      have j1 : ¬ (j : Int) < j := by omega
      rw [cutU_all u j hu] at hr
      have hcv := run_convert_bytes_arg (P := Try.prog) wr 60 5 Try.underlying60 Try.underlying5 w.heap.size 0 448 448 (((List.range 448).map (gByte u)).map fun (x : Nat) => (x : Int)) (by simp) (fun i hi => by
        have hi' : i < 448 := by simpa using hi
        rw [Nat.zero_add, Row.cellF hr i hi']
        simp [List.getD, hi']) 9 Try.underlying9
      rw [show strOfNums (((List.range 448).map (gByte u)).map fun (x : Nat) => (x : Int)) = bodyU u from rfl] at hcv
      clear hr
      go_wp2
      go_ret
      exact ⟨rfl, hb⟩
end Go.Proofs.Ytmpbpioigfnneaa
