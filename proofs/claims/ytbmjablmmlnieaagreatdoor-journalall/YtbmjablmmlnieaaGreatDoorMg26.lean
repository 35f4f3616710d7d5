/- journal's headed and together. · A device and a vault that lie apart; calls on one of them. -/
import Derived.Test.YtbmjablmmlnieaaGreatDoorMg23
import Derived.Laws.Small
import Derived.Test.YtbmjablmmlnieaaGreatDoorMg20
import Derived.Test.YtbmjablmmlnieaaGreatDoorMg17
namespace Go.Proofs.YtbmjablmmlnieaaGreatDoor
set_option maxRecDepth 20000
open Go.RowKit

set_option maxHeartbeats 4000000 in
theorem headed_any (a : Int) (r : ByteArray) (w : World) :
    Calls Tryz.prog 73 #[.agg #[.int .i64 a, .string r]] w fun e w' => e = .returned (.bool (hdB ⟨a, r⟩)) ∧ Below w.heap.size w w' := by
  have hb0 : Below w.heap.size w (w.alloc (.cells #[.int .i64 a, .string r] 48)) := (Below.refl _ _).alloc (Nat.le_refl _) _
  by_cases hr : r.size = 512
  case neg =>
    have h1 : ((r.size : Int) != 512) = true := by simp; omega
    have e1 : hdB ⟨a, r⟩ = false := by simp [hdB, hr]
    rw [e1]
    have HB : Hid _ := hb0
    clear hb0 hr e1
    go_enter Tryz.func73, Tryz.ntmps73
    go_wp2
    go_ret
    exact ⟨rfl, HB.out⟩
  have h1 : ((r.size : Int) != 512) = false := by simp; omega
  have h48 : (48 : Int) ≤ r.size := by omega
  have hh := fun w => bheadOf_any (r.extract 0 48) w
  have HD : Hid (hdB ⟨a, r⟩ = decide (headE (r.extract 0 48) = 0 ∧ (hdOf (r.extract 0 48)).v1 = a)) := by
    show hdB ⟨a, r⟩ = _
    simp [hdB, hr]
  generalize hdB ⟨a, r⟩ = D at *
  generalize hx : r.extract 0 48 = x at *
  generalize hdOf x = h at *
  generalize headE x = E at *
  clear hr
  go_enter Tryz.func73, Tryz.ntmps73
  go_wp2_with fail
  try rw [hx]
  refine (hh _).mono ?_
  rintro e w2 ⟨rfl, hb2⟩
  have g0 := (hb2.block w.heap.size (by simp)).trans (heap_alloc_new w _)
  have hbw : Below w.heap.size w w2 := hb0.trans (hb2.mono hb0.size)
  have hlt := lt_of_block g0
  have c0 : (w2.alloc (.cells #[.int .i64 h.v0, .int .i64 h.v1, .int .i64 h.v2, .int .i64 h.v3, .int .i64 h.v4, .int .i64 h.v5, .int .i64 h.v6, .int .i64 h.v7] 79)).cell? ⟨w.heap.size, 0, none⟩ = some (.int .i64 a) := cell_of_row _ _ 0 _ _ _ ((Below.heap_alloc _ _ _ hlt).trans g0)
  have HB : Hid (Below w.heap.size w (w2.alloc (.cells #[.int .i64 h.v0, .int .i64 h.v1, .int .i64 h.v2, .int .i64 h.v3, .int .i64 h.v4, .int .i64 h.v5, .int .i64 h.v6, .int .i64 h.v7] 79))) := hbw.alloc (by omega) _
  clear hh hb2 g0 hbw hb0
  by_cases hE : E = 0
  · subst hE
    by_cases ha : h.v1 = a
    · have k1 : (h.v1 == a) = true := by simp [ha]
      have eD : Hid (D = true) := by show D = true; rw [HD.out]; simp [ha]
      clear HD ha
      go_wp2
      go_ret
      exact ⟨by rw [eD.out]; rfl, HB.out⟩
    · have k1 : (h.v1 == a) = false := by simp [ha]
      have eD : Hid (D = false) := by show D = false; rw [HD.out]; simp [ha]
      clear HD ha
      go_wp2
      go_ret
      exact ⟨by rw [eD.out]; rfl, HB.out⟩
  · have k1 : (E == 0) = false := by simp [hE]
    have eD : Hid (D = false) := by show D = false; rw [HD.out]; simp [hE]
    clear HD
    go_wp2
    go_ret
    exact ⟨by rw [eD.out]; rfl, HB.out⟩
/-- What a round of together knows. -/
structure TgR (w : World) (n q s2 t : Nat) (l : List Wt) (j : Nat) (least : Int) (wr : World) : Prop where
  b : togB 27 (n : Int) l = togB least (n : Int) (l.drop j)
  lo : 27 ≤ least ∧ least ≤ 100000
  below : Below w.heap.size w wr
  row : wr.heap[w.heap.size]? = some (.cells (layA n q s2 t) 71 (0, 0))
set_option maxHeartbeats 4000000 in
theorem together_any (n q s2 t : Nat) (v : Value) (l : List Wt) (w : World) (hv : Wts w v l) (hll : l.length ≤ 1000) (hn : n ≤ 1024) :
    Calls Tryz.prog 39 #[.agg (layA n q s2 t), v] w fun e w' => e = .returned (.bool (togB 27 (n : Int) l)) ∧ Below w.heap.size w w' := by
  obtain ⟨oa, ca, rfl⟩ := hv.form
  have HV : Hid (Wts w (.slice oa l.length ca) l) := hv
  have HI : Hid (TgR w n q s2 t l 0 27 (w.alloc (.cells (layA n q s2 t) 71))) := ⟨rfl, by omega, (Below.refl _ _).alloc (Nat.le_refl _) _, heap_alloc_new w _⟩
  have e3 : (w.alloc (.cells (layA n q s2 t) 71)).cell? ⟨w.heap.size, 3, none⟩ = some (.int .i64 27) := cell_of_row _ _ 3 _ _ _ (heap_alloc_new w _)
  obtain ⟨X, hX⟩ : ∃ X, X = togB 27 (n : Int) l := ⟨_, rfl⟩
  have HX : Hid (X = togB 27 (n : Int) l) := hX
  rw [← hX]
  clear hv hX
  obtain ⟨A, hA⟩ : ∃ A, A = layA n q s2 t := ⟨_, rfl⟩
  rw [← hA] at e3 ⊢
  have HA : Hid (A = layA n q s2 t) := hA
  rw [← hA] at HI
  clear hA
  go_enter Tryz.func39, Tryz.ntmps39
  go_wp2_with fail
  clear e3
  go_loopw [5, 12] (fun lv iv wr => ∃ (j : Nat) (least : Int), j ≤ l.length ∧ iv = .int .i64 (j : Int) ∧ lv = .int .i64 least ∧ Hid (TgR w n q s2 t l j least wr)) (fun _ iv _ => l.length - (intOf iv).toNat)
  case atStart => exact ⟨0, 27, Nat.zero_le _, rfl, rfl, HI⟩
  case round =>
    clear HI HA
    obtain ⟨j, least, hj, rfl, rfl, HR⟩ := hrel
    by_cases hlt : j < l.length
    · have j1 : (j : Int) < l.length := by omega
      obtain ⟨g, o, rfl, hg, hc⟩ := HV.out.at hlt
      have hgw := Nat.lt_of_lt_of_le hg HR.out.below.size
      obtain ⟨c0, c1⟩ := hc.keep (HR.out.below.block g hg)
      have hd : l.drop j = l[j] :: l.drop (j + 1) := List.drop_eq_getElem_cons hlt
      have HE : Hid (X = (decide (least ≤ l[j].at_ ∧ l[j].at_ < (n : Int)) && hdB l[j] && togB (l[j].at_ + 1) (n : Int) (l.drop (j + 1))) ∧ togB 27 (n : Int) l = (decide (least ≤ l[j].at_ ∧ l[j].at_ < (n : Int)) && hdB l[j] && togB (l[j].at_ + 1) (n : Int) (l.drop (j + 1)))) := by
        have := HR.out.b
        rw [hd] at this
        exact ⟨HX.out.trans this, this⟩
      clear hc hd
      generalize l[j] = x at *
      obtain ⟨a, r⟩ := x
      simp only at c0 c1 HE
      have hlo := HR.out.lo
      have hzl := lt_of_block HR.out.row
      have hh := fun w => headed_any a r w
      have HRow : Hid ((wr.alloc (.cells #[.int .i64 a, .string r] 48)).heap[w.heap.size]? = some (.cells (layA n q s2 t) 71 (0, 0)) ∧ Below w.heap.size w (wr.alloc (.cells #[.int .i64 a, .string r] 48))) := ⟨(Below.heap_alloc _ _ _ hzl).trans HR.out.row, HR.out.below.alloc HR.out.below.size _⟩
      have d0 : (wr.alloc (.cells #[.int .i64 a, .string r] 48)).cell? ⟨w.heap.size, 0, none⟩ = some (.int .i64 (n : Int)) := cell_of_row _ _ 0 _ _ _ HRow.out.1
      clear HR hg
      by_cases k1 : a < least
      · have HF : Hid (X = false) := by
          show X = false
          rw [HE.out.1, decide_eq_false (by omega)]
          rfl
        have k1' : decide (a < least) = true := by simpa using k1
        clear HE hh d0
        go_wp2
        go_ret
        exact ⟨by rw [HF.out]; rfl, HRow.out.2⟩
      · have k1' : decide (a < least) = false := by simpa using k1
        by_cases k2 : (n : Int) ≤ a
        · have HF : Hid (X = false) := by
            show X = false
            rw [HE.out.1, decide_eq_false (by omega)]
            rfl
          have k2' : decide (a ≥ (n : Int)) = true := by simpa using k2
          have k2'' : decide ((n : Int) ≤ a) = true := by simpa using k2
          clear HE hh k1
          go_wp2
          go_ret
          exact ⟨by rw [HF.out]; rfl, HRow.out.2⟩
        · have k2'' : decide ((n : Int) ≤ a) = false := by simpa using k2
          have HE2 : Hid (X = (hdB ⟨a, r⟩ && togB (a + 1) (n : Int) (l.drop (j + 1))) ∧ togB 27 (n : Int) l = (hdB ⟨a, r⟩ && togB (a + 1) (n : Int) (l.drop (j + 1)))) := by
            have := HE.out
            rw [decide_eq_true (show least ≤ a ∧ a < (n : Int) by omega)] at this
            show _ ∧ _
            simpa using this
          have kk : 27 ≤ a ∧ a ≤ 1024 := by omega
          clear HE k1
          generalize hdB ⟨a, r⟩ = B at *
          go_wp2_with fail
          refine (hh _).mono ?_
          rintro e w2 ⟨rfl, hb2⟩
          have hz2 : wr.heap.size < w2.heap.size := by have := hb2.size; simp at this; omega
          have hrow2 := (hb2.block w.heap.size (by simp; omega)).trans HRow.out.1
          have f0 : w2.cell? ⟨wr.heap.size, 0, none⟩ = some (.int .i64 a) := cell_of_row _ _ 0 _ _ _ ((hb2.block wr.heap.size (by simp)).trans (heap_alloc_new wr _))
          have HB2 : Hid (Below w.heap.size w w2) := HRow.out.2.trans (hb2.mono HRow.out.2.size)
          cases B with
          | false =>
            have HF : Hid (X = false) := HE2.out.1
            clear HE2 hh hb2 d0
            go_wp2
            go_ret
            exact ⟨by rw [HF.out]; rfl, HB2.out⟩
          | true =>
            have HF : Hid (TgR w n q s2 t l (j + 1) (a + 1) w2) := ⟨by rw [HE2.out.2]; rfl, by omega, HB2.out, hrow2⟩
            clear HE2 hh hb2 d0 hrow2
            go_wp2
            go_roundw
            case rel => exact ⟨j + 1, a + 1, by omega, by go_num, by go_num, HF⟩
            case measure => simp [intOf]; omega
    · have j1 : ¬ (j : Int) < l.length := by omega
      have hd : l.drop j = [] := List.drop_eq_nil_of_le (by omega)
      have HF : Hid (X = true ∧ Below w.heap.size w wr) := by
        refine ⟨?_, HR.out.below⟩
        have := HR.out.b
        rw [hd] at this
        exact HX.out.trans this
      clear hd HR
      go_wp2
      go_ret
      exact ⟨by rw [HF.out.1]; rfl, HF.out.2⟩
end Go.Proofs.YtbmjablmmlnieaaGreatDoor

namespace Go.Proofs.YtbmjablmmlnieaaGreatDoor
set_option maxRecDepth 20000
open Go.RowKit

/-- What is kept where nothing below a place is changed. -/
def Stb (base : Nat) (P : World → Prop) : Prop := ∀ w1 w2, P w1 → Below base w1 w2 → P w2
/-- A vault behind a call that began at w. -/
def VOut (K : VK) (F : Nat → Prop) (w : World) (S : K.σ) (w' : World) : Prop := K.lies w' (fun k => F k ∧ k < w.heap.size) S ∧ Touch F w w'
theorem VOut.stb {K : VK} (HK : VKOk K) {F : Nat → Prop} {w : World} {S : K.σ} : Stb w.heap.size (VOut K F w S) := fun _ _ h hb => ⟨HK.keep h.1 fun k _ hF => hb.block k hF.2, h.2.1.trans (hb.mono (Nat.zero_le _)), fun k hk hn => (hb.block k hk).trans (h.2.2 k hk hn)⟩
theorem VOut.lies {K : VK} (HK : VKOk K) {F : Nat → Prop} {w w' : World} {S : K.σ} (h : VOut K F w S w') : K.lies w' F S := HK.mono h.1 fun _ _ hF => hF.1
theorem VOut.start {K : VK} (HK : VKOk K) {F : Nat → Prop} {w w' : World} {S : K.σ} (h : K.lies w F S) (hb : Below w.heap.size w w') : VOut K F w S w' := ⟨HK.below (HK.mono h fun _ hk hF => ⟨hF, hk⟩) hb, Touch.of_below hb⟩
/-- What lies in a stretch of blocks is kept. -/
def Kept (base : Nat) (w' w'' : World) : Prop := ∀ k, base ≤ k → k < w'.heap.size → w''.heap[k]? = w'.heap[k]?
theorem VOut.seal_ {K : VK} (HK : VKOk K) {F : Nat → Prop} {S : K.σ} (h : Hd) (s : ByteArray) {w w' : World} (hr : K.room S 1) (hl : VOut K F w S w') :
    Calls Tryz.prog 78 #[K.v, .agg h.arr, .string s] w' fun e w'' => e = .returned (.tuple #[.string (K.sS S h s), .int .i64 (bsealE h s)]) ∧ VOut K F w (K.sP S h s) w'' ∧ Kept w.heap.size w' w'' ∧ w'.heap.size ≤ w''.heap.size :=
  (HK.seal_ _ S h s w' hr hl.1).mono fun e w'' ⟨he, hl2, ht⟩ => ⟨he, ⟨hl2, hl.2.1.trans ht.1, fun k hk hn => (ht.2 k (Nat.lt_of_lt_of_le hk hl.2.size) fun hF => hn hF.1).trans (hl.2.2 k hk hn)⟩, fun k hk hk2 => ht.2 k hk2 fun hF => by omega, ht.size⟩
theorem VOut.hash {K : VK} (HK : VKOk K) {F : Nat → Prop} {S : K.σ} (s : ByteArray) {w w' : World} (hs : s.size ≤ 1000000) (hr : K.room S 1) (hl : VOut K F w S w') :
    Calls Tryz.prog 76 #[K.v, .string s] w' fun e w'' => e = .returned (.string (K.hS S s)) ∧ VOut K F w (K.hP S s) w'' ∧ Kept w.heap.size w' w'' ∧ w'.heap.size ≤ w''.heap.size :=
  (HK.hash _ S s w' hs hr hl.1).mono fun e w'' ⟨he, hl2, ht⟩ => ⟨he, ⟨hl2, hl.2.1.trans ht.1, fun k hk hn => (ht.2 k (Nat.lt_of_lt_of_le hk hl.2.size) fun hF => hn hF.1).trans (hl.2.2 k hk hn)⟩, fun k hk hk2 => ht.2 k hk2 fun hF => by omega, ht.size⟩

structure DuoAt (K : VK) (w : World) (F F1 F2 : Nat → Prop) (B : Nat) (P : PS) (S : K.σ) : Prop where
  plate : Plate w F1 B P
  vault : K.lies w F2 S
  apart : ∀ k, F1 k → ¬ F2 k
  in1 : ∀ k, F1 k → F k
  in2 : ∀ k, F2 k → F k
  lt : ∀ k, F k → k < w.heap.size
def Duo (K : VK) (w : World) (F : Nat → Prop) (B : Nat) (P : PS) (S : K.σ) : Prop := ∃ F1 F2, DuoAt K w F F1 F2 B P S
theorem Duo.lt {K : VK} {w : World} {F : Nat → Prop} {B : Nat} {P : PS} {S : K.σ} (h : Duo K w F B P S) : ∀ k, F k → k < w.heap.size := by
  obtain ⟨F1, F2, h⟩ := h
  exact h.lt
theorem Duo.out {K : VK} {w : World} {F : Nat → Prop} {B : Nat} {P : PS} {S : K.σ} (h : Duo K w F B P S) {k : Nat} (hk : w.heap.size ≤ k) : ¬ F k := fun hF => by have := h.lt k hF; omega
theorem Duo.keep {K : VK} (HK : VKOk K) {w w' : World} {F : Nat → Prop} {B : Nat} {P : PS} {S : K.σ} (h : Duo K w F B P S) (hs : w.heap.size ≤ w'.heap.size) (hk : ∀ k, k < w.heap.size → F k → w'.heap[k]? = w.heap[k]?) : Duo K w' F B P S := by
  obtain ⟨F1, F2, h⟩ := h
  exact ⟨F1, F2, h.plate.keep fun k hk1 hF => hk k hk1 (h.in1 k hF), HK.keep h.vault fun k hk1 hF => hk k hk1 (h.in2 k hF), h.apart, h.in1, h.in2, fun k hF => Nat.lt_of_lt_of_le (h.lt k hF) hs⟩
theorem Duo.below {K : VK} (HK : VKOk K) {w w' : World} {F : Nat → Prop} {B : Nat} {P : PS} {S : K.σ} (h : Duo K w F B P S) (hb : Below w.heap.size w w') : Duo K w' F B P S := h.keep HK hb.size fun k hk _ => hb.block k hk
theorem Duo.mono {K : VK} {w : World} {F F' : Nat → Prop} {B : Nat} {P : PS} {S : K.σ} (h : Duo K w F B P S) (hF : ∀ k, F k → F' k) (hl : ∀ k, F' k → k < w.heap.size) : Duo K w F' B P S := by
  obtain ⟨F1, F2, h⟩ := h
  exact ⟨F1, F2, h.plate, h.vault, h.apart, fun k hk => hF k (h.in1 k hk), fun k hk => hF k (h.in2 k hk), hl⟩
theorem Duo.up {K : VK} {w : World} {F : Nat → Prop} {B : Nat} {P : PS} {S : K.σ} (h : Duo K w F B P S) : Calls Tryz.prog 40 #[.pointer (some ⟨B, 0, none⟩)] w fun e w' => e = .returned (.bool P.up) ∧ w' = w := by
  obtain ⟨F1, F2, h⟩ := h
  exact up_any B F1 P w h.plate
theorem Duo.sectors {K : VK} {w : World} {F : Nat → Prop} {B : Nat} {P : PS} {S : K.σ} (h : Duo K w F B P S) : Calls Tryz.prog 60 #[.pointer (some ⟨B, 0, none⟩)] w fun e w' => e = .returned (.int .i64 (P.kept.length : Nat)) ∧ w' = w := by
  obtain ⟨F1, F2, h⟩ := h
  exact sectors_any B F1 P w h.plate
/-- A call on the device. -/
theorem Duo.plateC {K : VK} (HK : VKOk K) {w : World} {F : Nat → Prop} {B : Nat} {P : PS} {S : K.σ} (h : Duo K w F B P S) {f : FuncId} {args : Array Value} {E : Ending → Prop} {P' : PS}
    (hc : ∀ F1, Plate w F1 B P → (∀ k, F1 k → F k) → Calls Tryz.prog f args w fun e w' => E e ∧ Plate w' (grow F1 w w') B P' ∧ Touch F1 w w') :
    Calls Tryz.prog f args w fun e w' => E e ∧ Duo K w' (grow F w w') B P' S ∧ Touch F w w' := by
  obtain ⟨F1, F2, h⟩ := h
  refine (hc F1 h.plate h.in1).mono fun e w' ⟨he, hp, ht⟩ => ⟨he, ⟨grow F1 w w', F2, hp, HK.keep h.vault fun k hk hF => ht.2 k hk fun h1 => h.apart k h1 hF, fun k h1 h2 => ?_, fun k h1 => ?_, fun k h2 => .inl (h.in2 k h2), fun k hF => ?_⟩, ht.mono h.in1⟩
  · rcases h1 with h1 | h1
    · exact h.apart k h1 h2
    · have := h.lt k (h.in2 k h2); omega
  · rcases h1 with h1 | h1
    · exact .inl (h.in1 k h1)
    · exact .inr h1
  · rcases hF with hF | hF
    · exact Nat.lt_of_lt_of_le (h.lt k hF) ht.size
    · exact hF.2
/-- A call on the vault. -/
theorem Duo.vaultC {K : VK} {w : World} {F : Nat → Prop} {B : Nat} {P : PS} {S : K.σ} (h : Duo K w F B P S) {f : FuncId} {args : Array Value} {E : Ending → Prop} {S' : K.σ}
    (hc : ∀ F2, K.lies w F2 S → (∀ k, F2 k → F k) → Calls Tryz.prog f args w fun e w' => E e ∧ K.lies w' F2 S' ∧ Touch F2 w w') :
    Calls Tryz.prog f args w fun e w' => E e ∧ Duo K w' F B P S' ∧ Touch F w w' := by
  obtain ⟨F1, F2, h⟩ := h
  exact (hc F2 h.vault h.in2).mono fun e w' ⟨he, hp, ht⟩ => ⟨he, ⟨F1, F2, h.plate.keep fun k hk hF => ht.2 k hk (h.apart k hF), hp, h.apart, h.in1, h.in2, fun k hF => Nat.lt_of_lt_of_le (h.lt k hF) ht.size⟩, ht.mono h.in2⟩
/-- A call that looks alone. -/
theorem Duo.lookC {K : VK} {w : World} {F : Nat → Prop} {B : Nat} {P : PS} {S : K.σ} (h : Duo K w F B P S) {Q : Prop} (hc : ∀ F2, K.lies w F2 S → Q) : Q := by
  obtain ⟨F1, F2, h⟩ := h
  exact hc F2 h.vault
end Go.Proofs.YtbmjablmmlnieaaGreatDoor
