/- A step of journal: blocks that are written one behind the other, and flushed. · A device and a vault that lie apart; calls on one of them. -/
import Derived.Test.YtdngoicpcocnnaaGreatDoorMg27
import Derived.Test.YtdngoicpcocnnaaGreatDoorMg18
import Derived.Test.YtdngoicpcocnnaaGreatDoorMg22
import Derived.Test.YtdngoicpcocnnaaGreatDoorMg14
namespace Go.Proofs.YtdngoicpcocnnaaGreatDoor
set_option maxRecDepth 20000
open Go.RowKit

def takeE : List Wt → PS → Int
  | [], S => flushE S
  | x :: l, S => if bputE S x.at_ x.raw = 0 then takeE l (bputP S x.at_ x.raw) else bputE S x.at_ x.raw
def takeP : List Wt → PS → PS
  | [], S => flushP S
  | x :: l, S => if bputE S x.at_ x.raw = 0 then takeP l (bputP S x.at_ x.raw) else bputP S x.at_ x.raw
theorem putGo_wait (r : ByteArray) (a : Nat) : ∀ (n j : Nat) (S : PS), (putGo r a n j S).2.wait.length ≤ S.wait.length + n ∧ (putGo r a n j S).2.kept.length = S.kept.length
  | 0, _, S => ⟨Nat.le_refl _, rfl⟩
  | n + 1, j, S => by
    have h := writeP_len S ((8 * a + j : Nat) : Int) (secS r j)
    unfold putGo
    split
    · have := putGo_wait r a n (j + 1) (writeP S ((8 * a + j : Nat) : Int) (secS r j)); omega
    · simp only; omega
theorem bput_wait (S : PS) (a : Int) (r : ByteArray) : (bputP S a r).wait.length ≤ S.wait.length + 8 ∧ (bputP S a r).kept.length = S.kept.length := by
  unfold bputP
  split
  · split
    · exact putGo_wait _ _ _ _ _
    · exact ⟨by omega, rfl⟩
  · exact ⟨by omega, rfl⟩
/-- What a round of a step knows. -/
structure StR (w : World) (F : Nat → Prop) (B : Nat) (l : List Wt) (S : PS) (j : Nat) (wr : World) (T : PS) : Prop where
  e : takeE l S = takeE (l.drop j) T
  p : takeP l S = takeP (l.drop j) T
  plate : Plate wr (grow F w wr) B T
  touch : Touch F w wr
  wait : T.wait.length ≤ S.wait.length + 8 * j
  err : ErrT wr
theorem ErrT.lt {w : World} (h : ErrT w) : 0 < w.heap.size := lt_of_cell_ h
theorem ErrT.touch {w w' : World} {F : Nat → Prop} (h : ErrT w) (ht : Touch F w w') (hF : ¬ F 0) : ErrT w' := (World.cell?_of_block (a := ⟨0, 0, none⟩) (ht.2 _ h.lt hF)).trans h
set_option maxHeartbeats 4000000 in
theorem take_any (v : Value) (l : List Wt) (B : Nat) (F : Nat → Prop) (S : PS) (w : World) (hv : Wts w v l) (ho : l ≠ [] → Wts.Out v F) (hp : Plate w F B S) (hw : S.wait.length + 8 * l.length ≤ 900000) (hg : ErrT w) (hF : ¬ F 0) :
    Calls Tryz.prog 72 #[v, .pointer (some ⟨B, 0, none⟩)] w fun e w' => e = .returned (.int .i64 (takeE l S)) ∧ Plate w' (grow F w w') B (takeP l S) ∧ Touch F w w' := by
  obtain ⟨oa, ca, rfl⟩ := hv.form
  obtain ⟨X, hX⟩ : ∃ X, X = takeE l S := ⟨_, rfl⟩
  obtain ⟨Y, hY⟩ : ∃ Y, Y = takeP l S := ⟨_, rfl⟩
  rw [← hX, ← hY]
  have HX : Hid (X = takeE l S ∧ Y = takeP l S) := ⟨hX, hY⟩
  have HV : Hid (Wts w (.slice oa l.length ca) l ∧ (l ≠ [] → Wts.Out (.slice oa l.length ca) F) ∧ ErrT w ∧ ¬ F 0 ∧ S.wait.length + 8 * l.length ≤ 900000) := ⟨hv, ho, hg, hF, hw⟩
  have HI : Hid (StR w F B l S 0 w S) := ⟨rfl, rfl, hp.mono fun k _ h => .inl h, Touch.refl _ _, by omega, hg⟩
  have hll : l.length ≤ 900000 := by omega
  clear hX hY hv ho hp hg hF hw
  go_enter Tryz.func72, Tryz.ntmps72
  go_wp2_with fail
  go_loopw [10] (fun iv wr => ∃ (j : Nat) (T : PS), j ≤ l.length ∧ iv = .int .i64 (j : Int) ∧ Hid (StR w F B l S j wr T)) (fun iv _ => l.length - (intOf iv).toNat)
  case atStart => exact ⟨0, S, Nat.zero_le _, rfl, HI⟩
  case round =>
    clear HI
    obtain ⟨j, T, hj, rfl, HR⟩ := hrel
    by_cases hlt : j < l.length
    · have j1 : (j : Int) < l.length := by omega
      obtain ⟨gb, o, rfl, hgb, hc⟩ := HV.out.1.at (i := j) hlt
      have hnF := HV.out.2.1 (fun h => by rw [h] at hlt; simp at hlt) _ _ _ _ rfl
      obtain ⟨c0, c1⟩ := hc.keep (HR.out.touch.2 gb hgb hnF)
      have hgw := Nat.lt_of_lt_of_le hgb HR.out.touch.size
      have hd : l.drop j = l[j] :: l.drop (j + 1) := List.drop_eq_getElem_cons hlt
      have HE : Hid (X = takeE (l[j] :: l.drop (j + 1)) T ∧ Y = takeP (l[j] :: l.drop (j + 1)) T) := by rw [← hd, HX.out.1, HX.out.2]; exact ⟨HR.out.e, HR.out.p⟩
      have HE2 : Hid (takeE l S = takeE (l[j] :: l.drop (j + 1)) T ∧ takeP l S = takeP (l[j] :: l.drop (j + 1)) T) := by rw [← hd]; exact ⟨HR.out.e, HR.out.p⟩
      clear hc hd
      generalize l[j] = x at *
      obtain ⟨a, r⟩ := x
      simp only at c0 c1
      have hb1 : Below wr.heap.size wr (wr.alloc (.cells #[.int .i64 a, .string r] 48)) := (Below.refl _ _).alloc (Nat.le_refl _) _
      have hput := bput_any B (grow F w wr) T a r _ (HR.out.plate.below hb1) (by have := HR.out.wait; have := HV.out.2.2.2.2; omega) (HR.out.err.touch (Touch.of_below hb1 (F := F)) HV.out.2.2.2.1) (fun h => by
        rcases h with h | h
        · exact HV.out.2.2.2.1 h
        · have := HV.out.2.2.1.lt; omega)
      have HW := bput_wait T a r
      go_wp2_with fail
      refine hput.mono ?_
      rintro e w2 ⟨rfl, hp2, ht2⟩
      clear hput
      have ht3 : Touch F w w2 := HR.out.touch.trans (Touch.trans (Touch.of_below hb1) (ht2.mono fun k h => .inl h))
      have hp3 : Plate w2 (grow F w w2) B (bputP T a r) := hp2.mono fun k hk h => by
        rcases h with h | h
        · rcases h with h | h
          · exact .inl h
          · exact .inr ⟨h.1, by have := hb1.size; have := ht2.size; omega⟩
        · exact .inr ⟨by have := HR.out.touch.size; have := hb1.size; omega, hk⟩
      have H2 : Hid (Touch F w w2 ∧ Plate w2 (grow F w w2) B (bputP T a r)) := ⟨ht3, hp3⟩
      clear hp2 ht2 ht3 hp3 hb1
      by_cases hz : bputE T a r = 0
      · have HF : Hid (StR w F B l S (j + 1) w2 (bputP T a r)) := ⟨by rw [HE2.out.1, takeE, if_pos hz], by rw [HE2.out.2, takeP, if_pos hz], H2.out.2, H2.out.1, by have := HR.out.wait; omega, HV.out.2.2.1.touch H2.out.1 HV.out.2.2.2.1⟩
        rw [hz]
        clear HE HE2 H2
        go_wp2
        go_roundw
        case rel => exact ⟨j + 1, _, by omega, by go_num, HF⟩
        case measure => simp [intOf]; omega
      · have HF : Hid (X = bputE T a r ∧ Y = bputP T a r) := by rw [HE.out.1, HE.out.2, takeE, takeP, if_neg hz, if_neg hz]; exact ⟨rfl, rfl⟩
        have hz1 : (bputE T a r != 0) = true := by simpa using hz
        clear HE HE2
        generalize bputE T a r = y at *
        go_wp2
        go_ret
        exact ⟨by rw [HF.out.1]; rfl, by rw [HF.out.2]; exact H2.out.2, H2.out.1⟩
    · have j1 : ¬ (j : Int) < l.length := by omega
      have hd : l.drop j = [] := List.drop_eq_nil_of_le (by omega)
      have HE : Hid (X = flushE T ∧ Y = flushP T) := by
        have e := HR.out.e
        have p := HR.out.p
        rw [hd] at e p
        rw [HX.out.1, HX.out.2, e, p]
        exact ⟨rfl, rfl⟩
      have hf := flush_any B (grow F w wr) T wr HR.out.plate (by have := HR.out.wait; have := HV.out.2.2.2.2; omega)
      clear hd
      go_wp2_with fail
      refine hf.mono ?_
      rintro e w2 ⟨rfl, hp2, ht2⟩
      have HF : Hid (Plate w2 (grow F w w2) B Y ∧ Touch F w w2) := ⟨by
        rw [HE.out.2]
        exact hp2.mono fun k hk h => by
          rcases h with h | h
          · exact .inl h
          · exact .inr ⟨h.1, hk⟩, HR.out.touch.trans ht2⟩
      rw [← HE.out.1]
      clear hf hp2 ht2
      go_wp2
      go_ret
      exact ⟨rfl, HF.out.1, HF.out.2⟩
end Go.Proofs.YtdngoicpcocnnaaGreatDoor

namespace Go.Proofs.YtdngoicpcocnnaaGreatDoor
set_option maxRecDepth 20000
open Go.RowKit

/-- What is kept where nothing below a place is changed. -/
def Stb (base : Nat) (P : World → Prop) : Prop := ∀ w1 w2, P w1 → Below base w1 w2 → P w2
/-- A vault behind a call that began at w. -/
def VOut (K : VK) (F : Nat → Prop) (w : World) (S : K.σ) (w' : World) : Prop := K.lies w' (fun k => F k ∧ k < w.heap.size) S ∧ Touch F w w'
theorem VOut.stb {K : VK} (HK : VKOk K) {F : Nat → Prop} {w : World} {S : K.σ} : Stb w.heap.size (VOut K F w S) := fun _ _ h hb => ⟨HK.keep h.1 fun k _ hF => hb.block k hF.2, h.2.1.trans (hb.mono (Nat.zero_le _)), fun k hk hn => (hb.block k hk).trans (h.2.2 k hk hn)⟩
theorem VOut.lies {K : VK} (HK : VKOk K) {F : Nat → Prop} {w w' : World} {S : K.σ} (h : VOut K F w S w') : K.lies w' F S := HK.mono h.1 fun _ _ hF => hF.1
theorem VOut.start {K : VK} (HK : VKOk K) {F : Nat → Prop} {w w' : World} {S : K.σ} (h : K.lies w F S) (hb : Below w.heap.size w w') : VOut K F w S w' := ⟨HK.below (HK.mono h fun _ hk hF => ⟨hF, hk⟩) hb, Touch.of_below hb⟩
/-- What lies in a stretch of blocks is kept. -/
def Kept (base : Nat) (w' w'' : World) : Prop := ∀ k, base ≤ k → k < w'.heap.size → w''.heap[k]? = w'.heap[k]?
theorem VOut.seal_ {K : VK} (HK : VKOk K) {F : Nat → Prop} {S : K.σ} (h : Hd) (s : ByteArray) {w w' : World} (hr : K.room S 1) (hl : VOut K F w S w') :
    Calls Tryz.prog 78 #[K.v, .agg h.arr, .string s] w' fun e w'' => e = .returned (.tuple #[.string (K.sS S h s), .int .i64 (bsealE h s)]) ∧ VOut K F w (K.sP S h s) w'' ∧ Kept w.heap.size w' w'' ∧ w'.heap.size ≤ w''.heap.size :=
  (HK.seal_ _ S h s w' hr hl.1).mono fun e w'' ⟨he, hl2, ht⟩ => ⟨he, ⟨hl2, hl.2.1.trans ht.1, fun k hk hn => (ht.2 k (Nat.lt_of_lt_of_le hk hl.2.size) fun hF => hn hF.1).trans (hl.2.2 k hk hn)⟩, fun k hk hk2 => ht.2 k hk2 fun hF => by omega, ht.size⟩
theorem VOut.hash {K : VK} (HK : VKOk K) {F : Nat → Prop} {S : K.σ} (s : ByteArray) {w w' : World} (hs : s.size ≤ 1000000) (hr : K.room S 1) (hl : VOut K F w S w') :
    Calls Tryz.prog 76 #[K.v, .string s] w' fun e w'' => e = .returned (.string (K.hS S s)) ∧ VOut K F w (K.hP S s) w'' ∧ Kept w.heap.size w' w'' ∧ w'.heap.size ≤ w''.heap.size :=
  (HK.hash _ S s w' hs hr hl.1).mono fun e w'' ⟨he, hl2, ht⟩ => ⟨he, ⟨hl2, hl.2.1.trans ht.1, fun k hk hn => (ht.2 k (Nat.lt_of_lt_of_le hk hl.2.size) fun hF => hn hF.1).trans (hl.2.2 k hk hn)⟩, fun k hk hk2 => ht.2 k hk2 fun hF => by omega, ht.size⟩

structure DuoAt (K : VK) (w : World) (F F1 F2 : Nat → Prop) (B : Nat) (P : PS) (S : K.σ) : Prop where
  plate : Plate w F1 B P
  vault : K.lies w F2 S
  apart : ∀ k, F1 k → ¬ F2 k
  in1 : ∀ k, F1 k → F k
  in2 : ∀ k, F2 k → F k
  lt : ∀ k, F k → k < w.heap.size
def Duo (K : VK) (w : World) (F : Nat → Prop) (B : Nat) (P : PS) (S : K.σ) : Prop := ∃ F1 F2, DuoAt K w F F1 F2 B P S
theorem Duo.lt {K : VK} {w : World} {F : Nat → Prop} {B : Nat} {P : PS} {S : K.σ} (h : Duo K w F B P S) : ∀ k, F k → k < w.heap.size := by
  obtain ⟨F1, F2, h⟩ := h
  exact h.lt
theorem Duo.out {K : VK} {w : World} {F : Nat → Prop} {B : Nat} {P : PS} {S : K.σ} (h : Duo K w F B P S) {k : Nat} (hk : w.heap.size ≤ k) : ¬ F k := fun hF => by have := h.lt k hF; omega
theorem Duo.keep {K : VK} (HK : VKOk K) {w w' : World} {F : Nat → Prop} {B : Nat} {P : PS} {S : K.σ} (h : Duo K w F B P S) (hs : w.heap.size ≤ w'.heap.size) (hk : ∀ k, k < w.heap.size → F k → w'.heap[k]? = w.heap[k]?) : Duo K w' F B P S := by
  obtain ⟨F1, F2, h⟩ := h
  exact ⟨F1, F2, h.plate.keep fun k hk1 hF => hk k hk1 (h.in1 k hF), HK.keep h.vault fun k hk1 hF => hk k hk1 (h.in2 k hF), h.apart, h.in1, h.in2, fun k hF => Nat.lt_of_lt_of_le (h.lt k hF) hs⟩
theorem Duo.below {K : VK} (HK : VKOk K) {w w' : World} {F : Nat → Prop} {B : Nat} {P : PS} {S : K.σ} (h : Duo K w F B P S) (hb : Below w.heap.size w w') : Duo K w' F B P S := h.keep HK hb.size fun k hk _ => hb.block k hk
theorem Duo.mono {K : VK} {w : World} {F F' : Nat → Prop} {B : Nat} {P : PS} {S : K.σ} (h : Duo K w F B P S) (hF : ∀ k, F k → F' k) (hl : ∀ k, F' k → k < w.heap.size) : Duo K w F' B P S := by
  obtain ⟨F1, F2, h⟩ := h
  exact ⟨F1, F2, h.plate, h.vault, h.apart, fun k hk => hF k (h.in1 k hk), fun k hk => hF k (h.in2 k hk), hl⟩
theorem Duo.up {K : VK} {w : World} {F : Nat → Prop} {B : Nat} {P : PS} {S : K.σ} (h : Duo K w F B P S) : Calls Tryz.prog 40 #[.pointer (some ⟨B, 0, none⟩)] w fun e w' => e = .returned (.bool P.up) ∧ w' = w := by
  obtain ⟨F1, F2, h⟩ := h
  exact up_any B F1 P w h.plate
theorem Duo.sectors {K : VK} {w : World} {F : Nat → Prop} {B : Nat} {P : PS} {S : K.σ} (h : Duo K w F B P S) : Calls Tryz.prog 60 #[.pointer (some ⟨B, 0, none⟩)] w fun e w' => e = .returned (.int .i64 (P.kept.length : Nat)) ∧ w' = w := by
  obtain ⟨F1, F2, h⟩ := h
  exact sectors_any B F1 P w h.plate
/-- A call on the device. -/
theorem Duo.plateC {K : VK} (HK : VKOk K) {w : World} {F : Nat → Prop} {B : Nat} {P : PS} {S : K.σ} (h : Duo K w F B P S) {f : FuncId} {args : Array Value} {E : Ending → Prop} {P' : PS}
    (hc : ∀ F1, Plate w F1 B P → (∀ k, F1 k → F k) → Calls Tryz.prog f args w fun e w' => E e ∧ Plate w' (grow F1 w w') B P' ∧ Touch F1 w w') :
    Calls Tryz.prog f args w fun e w' => E e ∧ Duo K w' (grow F w w') B P' S ∧ Touch F w w' := by
  obtain ⟨F1, F2, h⟩ := h
  refine (hc F1 h.plate h.in1).mono fun e w' ⟨he, hp, ht⟩ => ⟨he, ⟨grow F1 w w', F2, hp, HK.keep h.vault fun k hk hF => ht.2 k hk fun h1 => h.apart k h1 hF, fun k h1 h2 => ?_, fun k h1 => ?_, fun k h2 => .inl (h.in2 k h2), fun k hF => ?_⟩, ht.mono h.in1⟩
  · rcases h1 with h1 | h1
    · exact h.apart k h1 h2
    · have := h.lt k (h.in2 k h2); omega
  · rcases h1 with h1 | h1
    · exact .inl (h.in1 k h1)
    · exact .inr h1
  · rcases hF with hF | hF
    · exact Nat.lt_of_lt_of_le (h.lt k hF) ht.size
    · exact hF.2
/-- A call on the vault. -/
theorem Duo.vaultC {K : VK} {w : World} {F : Nat → Prop} {B : Nat} {P : PS} {S : K.σ} (h : Duo K w F B P S) {f : FuncId} {args : Array Value} {E : Ending → Prop} {S' : K.σ}
    (hc : ∀ F2, K.lies w F2 S → (∀ k, F2 k → F k) → Calls Tryz.prog f args w fun e w' => E e ∧ K.lies w' F2 S' ∧ Touch F2 w w') :
    Calls Tryz.prog f args w fun e w' => E e ∧ Duo K w' F B P S' ∧ Touch F w w' := by
  obtain ⟨F1, F2, h⟩ := h
  exact (hc F2 h.vault h.in2).mono fun e w' ⟨he, hp, ht⟩ => ⟨he, ⟨F1, F2, h.plate.keep fun k hk hF => ht.2 k hk (h.apart k hF), hp, h.apart, h.in1, h.in2, fun k hF => Nat.lt_of_lt_of_le (h.lt k hF) ht.size⟩, ht.mono h.in2⟩
/-- A call that looks alone. -/
theorem Duo.lookC {K : VK} {w : World} {F : Nat → Prop} {B : Nat} {P : PS} {S : K.σ} (h : Duo K w F B P S) {Q : Prop} (hc : ∀ F2, K.lies w F2 S → Q) : Q := by
  obtain ⟨F1, F2, h⟩ := h
  exact hc F2 h.vault
end Go.Proofs.YtdngoicpcocnnaaGreatDoor
