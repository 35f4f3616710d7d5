/- Writes: an address and bytes; lists of them. · A step of journal: blocks that are written one behind the other, and flushed. · journal's follow: steps till one fails. · A device whose power does not fail: which block is seen where; arithmetic, nothing of the program's calls. -/
import Derived.Test.YtbmjablmmlnieaaGreatDoorMg04
import Derived.Test.YtbmjablmmlnieaaGreatDoorMg10
import Derived.Deep.AppendLies
import Derived.Test.YtbmjablmmlnieaaGreatDoorMg12
import Derived.Test.YtbmjablmmlnieaaGreatDoorMg15
import Derived.Test.YtbmjablmmlnieaaGreatDoorMg14
import Derived.Test.YtbmjablmmlnieaaGreatDoorMg16
namespace Go.Proofs.YtbmjablmmlnieaaGreatDoor
set_option maxRecDepth 20000
open Go.RowKit

structure Wt where
  at_ : Int
  raw : ByteArray
instance : Inhabited Wt := ⟨⟨0, ⟨#[]⟩⟩⟩
def Wt.cells (x : Wt) : List Value := [.int .i64 x.at_, .string x.raw]
structure WtAt (W : World) (g o : Nat) (x : Wt) : Prop where
  c0 : W.cell? ⟨g, o, none⟩ = some (.int .i64 x.at_)
  c1 : W.cell? ⟨g, o + 1, none⟩ = some (.string x.raw)
/-- A list of writes that lies. -/
def Wts (W : World) (v : Value) (l : List Wt) : Prop := (∃ oa cap, v = .slice oa 0 cap ∧ l = []) ∨ ∃ g o cap, v = .slice (some ⟨g, o, none⟩) l.length cap ∧ g < W.heap.size ∧ ∀ i x, l[i]? = some x → WtAt W g (o + i * 2) x
theorem Wts.form {W : World} {v : Value} {l : List Wt} (h : Wts W v l) : ∃ oa cap, v = .slice oa l.length cap := by
  rcases h with ⟨oa, cap, rfl, rfl⟩ | ⟨g, o, cap, rfl, _⟩
  · exact ⟨oa, cap, rfl⟩
  · exact ⟨_, cap, rfl⟩
theorem Wts.get {W : World} {oa : Option Addr} {cap : Nat} {l : List Wt} (h : Wts W (.slice oa l.length cap) l) {i : Nat} (hi : i < l.length) : ∃ g o, oa = some ⟨g, o, none⟩ ∧ g < W.heap.size ∧ ∀ j x, l[j]? = some x → WtAt W g (o + j * 2) x := by
  rcases h with ⟨oa', cap', e, rfl⟩ | ⟨g, o, cap', e, hg, hx⟩
  · simp at hi
  · simp only [Value.slice.injEq] at e
    exact ⟨g, o, e.1, hg, hx⟩
theorem WtAt.keep {W W' : World} {g o : Nat} {x : Wt} (h : WtAt W g o x) (k : W'.heap[g]? = W.heap[g]?) : WtAt W' g o x := ⟨(World.cell?_of_block (a := ⟨g, o, none⟩) k).trans h.c0, (World.cell?_of_block (a := ⟨g, o + 1, none⟩) k).trans h.c1⟩
theorem Wts.at {W : World} {oa : Option Addr} {cap : Nat} {l : List Wt} (h : Wts W (.slice oa l.length cap) l) {i : Nat} (hi : i < l.length) : ∃ g o, oa = some ⟨g, o, none⟩ ∧ g < W.heap.size ∧ WtAt W g (o + i * 2) l[i] := by
  obtain ⟨g, o, e, hg, hx⟩ := h.get hi
  exact ⟨g, o, e, hg, hx i _ (List.getElem?_eq_getElem hi)⟩
theorem Wts.below {w w' : World} {v : Value} {l : List Wt} (h : Wts w v l) (hb : Below w.heap.size w w') : Wts w' v l := by
  rcases h with h | ⟨g, o, cap, e, hg, hx⟩
  · exact .inl h
  · exact .inr ⟨g, o, cap, e, Nat.lt_of_lt_of_le hg hb.size, fun i x hi => (hx i x hi).keep (hb.block g hg)⟩
/-- The block in which a list of writes lies, if it has one. -/
def Wts.Out (v : Value) (F : Nat → Prop) : Prop := ∀ g o len cap, v = .slice (some ⟨g, o, none⟩) len cap → ¬ F g
theorem Wts.touch {w w' : World} {v : Value} {l : List Wt} {F : Nat → Prop} (h : Wts w v l) (ht : Touch F w w') (ho : Wts.Out v F) : Wts w' v l := by
  rcases h with h | ⟨g, o, cap, e, hg, hx⟩
  · exact .inl h
  · exact .inr ⟨g, o, cap, e, Nat.lt_of_lt_of_le hg ht.1.size, fun i x hi => (hx i x hi).keep (ht.2 g hg (ho _ _ _ _ e))⟩
end Go.Proofs.YtbmjablmmlnieaaGreatDoor

namespace Go.Proofs.YtbmjablmmlnieaaGreatDoor
set_option maxRecDepth 20000
open Go.RowKit

def takeE : List Wt → PS → Int
  | [], S => flushE S
  | x :: l, S => if bputE S x.at_ x.raw = 0 then takeE l (bputP S x.at_ x.raw) else bputE S x.at_ x.raw
def takeP : List Wt → PS → PS
  | [], S => flushP S
  | x :: l, S => if bputE S x.at_ x.raw = 0 then takeP l (bputP S x.at_ x.raw) else bputP S x.at_ x.raw
theorem putGo_wait (r : ByteArray) (a : Nat) : ∀ (n j : Nat) (S : PS), (putGo r a n j S).2.wait.length ≤ S.wait.length + n ∧ (putGo r a n j S).2.kept.length = S.kept.length
  | 0, _, S => ⟨Nat.le_refl _, rfl⟩
  | n + 1, j, S => by
    have h := writeP_len S ((8 * a + j : Nat) : Int) (secS r j)
    unfold putGo
    split
    · have := putGo_wait r a n (j + 1) (writeP S ((8 * a + j : Nat) : Int) (secS r j)); omega
    · simp only; omega
theorem bput_wait (S : PS) (a : Int) (r : ByteArray) : (bputP S a r).wait.length ≤ S.wait.length + 8 ∧ (bputP S a r).kept.length = S.kept.length := by
  unfold bputP
  split
  · split
    · exact putGo_wait _ _ _ _ _
    · exact ⟨by omega, rfl⟩
  · exact ⟨by omega, rfl⟩
/-- What a round of a step knows. -/
structure StR (w : World) (F : Nat → Prop) (B : Nat) (l : List Wt) (S : PS) (j : Nat) (wr : World) (T : PS) : Prop where
  e : takeE l S = takeE (l.drop j) T
  p : takeP l S = takeP (l.drop j) T
  plate : Plate wr (grow F w wr) B T
  touch : Touch F w wr
  wait : T.wait.length ≤ S.wait.length + 8 * j
  err : ErrT wr
theorem ErrT.lt {w : World} (h : ErrT w) : 0 < w.heap.size := lt_of_cell_ h
theorem ErrT.touch {w w' : World} {F : Nat → Prop} (h : ErrT w) (ht : Touch F w w') (hF : ¬ F 0) : ErrT w' := (World.cell?_of_block (a := ⟨0, 0, none⟩) (ht.2 _ h.lt hF)).trans h
set_option maxHeartbeats 4000000 in
theorem take_any (v : Value) (l : List Wt) (B : Nat) (F : Nat → Prop) (S : PS) (w : World) (hv : Wts w v l) (ho : l ≠ [] → Wts.Out v F) (hp : Plate w F B S) (hw : S.wait.length + 8 * l.length ≤ 900000) (hg : ErrT w) (hF : ¬ F 0) :
    Calls Tryz.prog 72 #[v, .pointer (some ⟨B, 0, none⟩)] w fun e w' => e = .returned (.int .i64 (takeE l S)) ∧ Plate w' (grow F w w') B (takeP l S) ∧ Touch F w w' := by
  obtain ⟨oa, ca, rfl⟩ := hv.form
  obtain ⟨X, hX⟩ : ∃ X, X = takeE l S := ⟨_, rfl⟩
  obtain ⟨Y, hY⟩ : ∃ Y, Y = takeP l S := ⟨_, rfl⟩
  rw [← hX, ← hY]
  have HX : Hid (X = takeE l S ∧ Y = takeP l S) := ⟨hX, hY⟩
  have HV : Hid (Wts w (.slice oa l.length ca) l ∧ (l ≠ [] → Wts.Out (.slice oa l.length ca) F) ∧ ErrT w ∧ ¬ F 0 ∧ S.wait.length + 8 * l.length ≤ 900000) := ⟨hv, ho, hg, hF, hw⟩
  have HI : Hid (StR w F B l S 0 w S) := ⟨rfl, rfl, hp.mono fun k _ h => .inl h, Touch.refl _ _, by omega, hg⟩
  have hll : l.length ≤ 900000 := by omega
  clear hX hY hv ho hp hg hF hw
  go_enter Tryz.func72, Tryz.ntmps72
  go_wp2_with fail
  go_loopw [10] (fun iv wr => ∃ (j : Nat) (T : PS), j ≤ l.length ∧ iv = .int .i64 (j : Int) ∧ Hid (StR w F B l S j wr T)) (fun iv _ => l.length - (intOf iv).toNat)
  case atStart => exact ⟨0, S, Nat.zero_le _, rfl, HI⟩
  case round =>
    clear HI
    obtain ⟨j, T, hj, rfl, HR⟩ := hrel
    by_cases hlt : j < l.length
    · have j1 : (j : Int) < l.length := by omega
      obtain ⟨gb, o, rfl, hgb, hc⟩ := HV.out.1.at (i := j) hlt
      have hnF := HV.out.2.1 (fun h => by rw [h] at hlt; simp at hlt) _ _ _ _ rfl
      obtain ⟨c0, c1⟩ := hc.keep (HR.out.touch.2 gb hgb hnF)
      have hgw := Nat.lt_of_lt_of_le hgb HR.out.touch.size
      have hd : l.drop j = l[j] :: l.drop (j + 1) := List.drop_eq_getElem_cons hlt
      have HE : Hid (X = takeE (l[j] :: l.drop (j + 1)) T ∧ Y = takeP (l[j] :: l.drop (j + 1)) T) := by rw [← hd, HX.out.1, HX.out.2]; exact ⟨HR.out.e, HR.out.p⟩
      have HE2 : Hid (takeE l S = takeE (l[j] :: l.drop (j + 1)) T ∧ takeP l S = takeP (l[j] :: l.drop (j + 1)) T) := by rw [← hd]; exact ⟨HR.out.e, HR.out.p⟩
      clear hc hd
      generalize l[j] = x at *
      obtain ⟨a, r⟩ := x
      simp only at c0 c1
      have hb1 : Below wr.heap.size wr (wr.alloc (.cells #[.int .i64 a, .string r] 48)) := (Below.refl _ _).alloc (Nat.le_refl _) _
      have hput := bput_any B (grow F w wr) T a r _ (HR.out.plate.below hb1) (by have := HR.out.wait; have := HV.out.2.2.2.2; omega) (HR.out.err.touch (Touch.of_below hb1 (F := F)) HV.out.2.2.2.1) (fun h => by
        rcases h with h | h
        · exact HV.out.2.2.2.1 h
        · have := HV.out.2.2.1.lt; omega)
      have HW := bput_wait T a r
      go_wp2_with fail
      refine hput.mono ?_
      rintro e w2 ⟨rfl, hp2, ht2⟩
      clear hput
      have ht3 : Touch F w w2 := HR.out.touch.trans (Touch.trans (Touch.of_below hb1) (ht2.mono fun k h => .inl h))
      have hp3 : Plate w2 (grow F w w2) B (bputP T a r) := hp2.mono fun k hk h => by
        rcases h with h | h
        · rcases h with h | h
          · exact .inl h
          · exact .inr ⟨h.1, by have := hb1.size; have := ht2.size; omega⟩
        · exact .inr ⟨by have := HR.out.touch.size; have := hb1.size; omega, hk⟩
      have H2 : Hid (Touch F w w2 ∧ Plate w2 (grow F w w2) B (bputP T a r)) := ⟨ht3, hp3⟩
      clear hp2 ht2 ht3 hp3 hb1
      by_cases hz : bputE T a r = 0
      · have HF : Hid (StR w F B l S (j + 1) w2 (bputP T a r)) := ⟨by rw [HE2.out.1, takeE, if_pos hz], by rw [HE2.out.2, takeP, if_pos hz], H2.out.2, H2.out.1, by have := HR.out.wait; omega, HV.out.2.2.1.touch H2.out.1 HV.out.2.2.2.1⟩
        rw [hz]
        clear HE HE2 H2
        go_wp2
        go_roundw
        case rel => exact ⟨j + 1, _, by omega, by go_num, HF⟩
        case measure => simp [intOf]; omega
      · have HF : Hid (X = bputE T a r ∧ Y = bputP T a r) := by rw [HE.out.1, HE.out.2, takeE, takeP, if_neg hz, if_neg hz]; exact ⟨rfl, rfl⟩
        have hz1 : (bputE T a r != 0) = true := by simpa using hz
        clear HE HE2
        generalize bputE T a r = y at *
        go_wp2
        go_ret
        exact ⟨by rw [HF.out.1]; rfl, by rw [HF.out.2]; exact H2.out.2, H2.out.1⟩
    · have j1 : ¬ (j : Int) < l.length := by omega
      have hd : l.drop j = [] := List.drop_eq_nil_of_le (by omega)
      have HE : Hid (X = flushE T ∧ Y = flushP T) := by
        have e := HR.out.e
        have p := HR.out.p
        rw [hd] at e p
        rw [HX.out.1, HX.out.2, e, p]
        exact ⟨rfl, rfl⟩
      have hf := flush_any B (grow F w wr) T wr HR.out.plate (by have := HR.out.wait; have := HV.out.2.2.2.2; omega)
      clear hd
      go_wp2_with fail
      refine hf.mono ?_
      rintro e w2 ⟨rfl, hp2, ht2⟩
      have HF : Hid (Plate w2 (grow F w w2) B Y ∧ Touch F w w2) := ⟨by
        rw [HE.out.2]
        exact hp2.mono fun k hk h => by
          rcases h with h | h
          · exact .inl h
          · exact .inr ⟨h.1, hk⟩, HR.out.touch.trans ht2⟩
      rw [← HE.out.1]
      clear hf hp2 ht2
      go_wp2
      go_ret
      exact ⟨rfl, HF.out.1, HF.out.2⟩
end Go.Proofs.YtbmjablmmlnieaaGreatDoor

namespace Go.Proofs.YtbmjablmmlnieaaGreatDoor
set_option maxRecDepth 20000
open Go.RowKit

def folE : List (List Wt) → PS → Int
  | [], _ => 0
  | l :: r, S => if takeE l S = 0 then folE r (takeP l S) else takeE l S
def folP : List (List Wt) → PS → PS
  | [], S => S
  | l :: r, S => if takeE l S = 0 then folP r (takeP l S) else takeP l S
/-- Why steps ended, as an error. -/
def stopV (k : Int) (y : Int) : Value := .iface 146 (.agg #[.int .i64 k, .int .i64 y])
def total (ls : List (List Wt)) : Nat := (ls.map List.length).sum
theorem flush_wait (S : PS) : (flushP S).wait.length ≤ S.wait.length := by
  unfold flushP
  split
  · simp [settleP]
  · exact Nat.le_refl _
theorem take_wait : ∀ (l : List Wt) (S : PS), (takeP l S).wait.length ≤ S.wait.length + 8 * l.length
  | [], S => by have := flush_wait S; unfold takeP; simpa using this
  | x :: l, S => by
    have h := (bput_wait S x.at_ x.raw).1
    unfold takeP
    split
    · have := take_wait l (bputP S x.at_ x.raw); rw [List.length_cons]; omega
    · rw [List.length_cons]; omega
theorem Wts.touch2 {w w' : World} {v : Value} {l : List Wt} {F : Nat → Prop} (h : Wts w v l) (ht : Touch F w w') (ho : l ≠ [] → Wts.Out v F) : Wts w' v l := by
  by_cases hl : l = []
  · obtain ⟨oa, cap, rfl⟩ := h.form
    subst hl
    exact .inl ⟨oa, cap, rfl, rfl⟩
  · exact h.touch ht (ho hl)
/-- Steps that lie: a slice of slices of writes, none of them in F. -/
structure Steps (w : World) (F : Nat → Prop) (g o : Nat) (ls : List (List Wt)) : Prop where
  lt : g < w.heap.size
  out : ¬ F g
  el : ∀ i l, ls[i]? = some l → ∃ u, w.cell? ⟨g, o + i, none⟩ = some u ∧ Wts w u l ∧ (l ≠ [] → Wts.Out u F)
theorem Steps.touch {w w' : World} {F : Nat → Prop} {g o : Nat} {ls : List (List Wt)} (h : Steps w F g o ls) (ht : Touch F w w') : Steps w' F g o ls :=
  ⟨Nat.lt_of_lt_of_le h.lt ht.size, h.out, fun i l hl => by
    obtain ⟨u, h1, h2, h3⟩ := h.el i l hl
    exact ⟨u, (World.cell?_of_block (a := ⟨g, o + i, none⟩) (ht.2 g h.lt h.out)).trans h1, h2.touch2 ht h3, h3⟩⟩
/-- A list's block is not among what a plate has grown by. -/
theorem Wts.out_grow {w w' : World} {v : Value} {l : List Wt} {F : Nat → Prop} (h : Wts w v l) (ho : l ≠ [] → Wts.Out v F) (hl : l ≠ []) : Wts.Out v (grow F w w') := by
  rcases h with ⟨_, _, _, h⟩ | ⟨g, o, cap, e, hg, hx⟩
  · exact absurd h hl
  · intro g' o' len cap' e' hF
    have e2 := e'
    rw [e] at e'
    simp only [Value.slice.injEq, Option.some.injEq, Addr.mk.injEq] at e'
    obtain ⟨⟨rfl, _⟩, _⟩ := e'
    rcases hF with hF | hF
    · exact ho hl _ _ _ _ e hF
    · omega
/-- What follow tells: nothing, or why it ended. -/
def RetV (X : Int) (v : Value) : Prop := (v = .nilIface ∧ X = 0) ∨ ∃ k, ¬ X = 0 ∧ v = stopV k X
structure FoR (w : World) (F : Nat → Prop) (B : Nat) (ls : List (List Wt)) (S : PS) (j : Nat) (wr : World) (T : PS) : Prop where
  e : folE ls S = folE (ls.drop j) T
  p : folP ls S = folP (ls.drop j) T
  plate : Plate wr (grow F w wr) B T
  touch : Touch F w wr
  wait : T.wait.length + 8 * total (ls.drop j) ≤ 900000
theorem total_drop {ls : List (List Wt)} {j : Nat} (h : j < ls.length) : total (ls.drop j) = ls[j].length + total (ls.drop (j + 1)) := by
  unfold total
  rw [List.drop_eq_getElem_cons h, List.map_cons, List.sum_cons]
set_option maxHeartbeats 4000000 in
theorem follow_any (g o cap : Nat) (ls : List (List Wt)) (B : Nat) (F : Nat → Prop) (S : PS) (w : World) (hv : Steps w F g o ls) (hls : ls.length ≤ 1000) (hp : Plate w F B S) (hw : S.wait.length + 8 * total ls ≤ 900000) (hg : ErrT w) (hF : ¬ F 0) :
    Calls Tryz.prog 37 #[.pointer (some ⟨B, 0, none⟩), .slice (some ⟨g, o, none⟩) ls.length cap] w fun e w' => (∃ v, e = .returned v ∧ RetV (folE ls S) v) ∧ Plate w' (grow F w w') B (folP ls S) ∧ Touch F w w' := by
  obtain ⟨X, hX⟩ : ∃ X, X = folE ls S := ⟨_, rfl⟩
  obtain ⟨Y, hY⟩ : ∃ Y, Y = folP ls S := ⟨_, rfl⟩
  rw [← hX, ← hY]
  have HX : Hid (X = folE ls S ∧ Y = folP ls S) := ⟨hX, hY⟩
  have HV : Hid (Steps w F g o ls ∧ ErrT w ∧ ¬ F 0) := ⟨hv, hg, hF⟩
  have HI : Hid (FoR w F B ls S 0 w S) := ⟨rfl, rfl, hp.mono fun k _ h => .inl h, Touch.refl _ _, hw⟩
  clear hX hY hv hp hg hF hw
  go_enter Tryz.func37, Tryz.ntmps37
  go_wp2_with fail
  go_loopw [10] (fun iv wr => ∃ (j : Nat) (T : PS), j ≤ ls.length ∧ iv = .int .i64 (j : Int) ∧ Hid (FoR w F B ls S j wr T)) (fun iv _ => ls.length - (intOf iv).toNat)
  case atStart => exact ⟨0, S, Nat.zero_le _, rfl, HI⟩
  case round =>
    clear HI
    obtain ⟨j, T, hj, rfl, HR⟩ := hrel
    by_cases hlt : j < ls.length
    · have j1 : (j : Int) < ls.length := by omega
      obtain ⟨u, c0, hu, huo⟩ := (HV.out.1.touch HR.out.touch).el j _ (List.getElem?_eq_getElem hlt)
      have hgw := (HV.out.1.touch HR.out.touch).lt
      have hd : ls.drop j = ls[j] :: ls.drop (j + 1) := List.drop_eq_getElem_cons hlt
      have htd := total_drop hlt
      have HE : Hid ((X = folE (ls[j] :: ls.drop (j + 1)) T ∧ Y = folP (ls[j] :: ls.drop (j + 1)) T) ∧ folE ls S = folE (ls[j] :: ls.drop (j + 1)) T ∧ folP ls S = folP (ls[j] :: ls.drop (j + 1)) T) := by rw [← hd, HX.out.1, HX.out.2]; exact ⟨⟨HR.out.e, HR.out.p⟩, HR.out.e, HR.out.p⟩
      have HW : Hid (T.wait.length + 8 * (ls[j].length + total (ls.drop (j + 1))) ≤ 900000) := by rw [← htd]; exact HR.out.wait
      clear hd htd
      obtain ⟨u0, c00, hu0, huo0⟩ := HV.out.1.el j _ (List.getElem?_eq_getElem hlt)
      have huu : u0 = u := by
        have := (World.cell?_of_block (a := ⟨g, o + j, none⟩) (HR.out.touch.2 g HV.out.1.lt HV.out.1.out)).trans c00
        rw [c0] at this
        exact (Option.some.inj this).symm
      subst huu
      have hnE : ¬ grow F w wr 0 := fun h => by
        rcases h with h | h
        · exact HV.out.2.2 h
        · have := HV.out.2.1.lt; omega
      have htake : Calls Tryz.prog 72 #[u0, .pointer (some ⟨B, 0, none⟩)] wr fun e w' => e = .returned (.int .i64 (takeE ls[j] T)) ∧ Plate w' (grow (grow F w wr) wr w') B (takeP ls[j] T) ∧ Touch (grow F w wr) wr w' := by
        exact take_any u0 _ B _ T wr hu (fun hl => hu0.out_grow huo0 hl) HR.out.plate (by have := HW.out; omega) (HV.out.2.1.touch HR.out.touch HV.out.2.2) hnE
      clear hu huo c00 hu0 huo0 hnE
      have HTW := take_wait ls[j] T
      generalize ls[j] = l at *
      go_wp2_with fail
      refine htake.mono ?_
      rintro e w2 ⟨rfl, hp2, ht2⟩
      clear htake
      have H2 : Hid (Touch F w w2 ∧ Plate w2 (grow F w w2) B (takeP l T)) := ⟨HR.out.touch.trans ht2, hp2.mono fun k hk h => by
        rcases h with h | h
        · rcases h with h | h
          · exact .inl h
          · exact .inr ⟨h.1, hk⟩
        · exact .inr ⟨by have := HR.out.touch.size; omega, hk⟩⟩
      clear hp2 ht2
      by_cases hz : takeE l T = 0
      · have HF : Hid (FoR w F B ls S (j + 1) w2 (takeP l T)) := ⟨by rw [HE.out.2.1, folE, if_pos hz], by rw [HE.out.2.2, folP, if_pos hz], H2.out.2, H2.out.1, by have := HW.out; omega⟩
        rw [hz]
        clear HE H2
        go_wp2
        go_roundw
        case rel => exact ⟨j + 1, _, by omega, by go_num, HF⟩
        case measure => simp [intOf]; omega
      · have HF : Hid (X = takeE l T ∧ Y = takeP l T ∧ ¬ X = 0) := by rw [HE.out.1.1, HE.out.1.2, folE, folP, if_neg hz, if_neg hz]; exact ⟨rfl, rfl, hz⟩
        have hz1 : (takeE l T != 0) = true := by simpa using hz
        clear HE
        generalize takeE l T = y at *
        go_wp2
        go_ret
        exact ⟨⟨_, rfl, .inr ⟨(j : Int), HF.out.2.2, by rw [HF.out.1]; rfl⟩⟩, by rw [HF.out.2.1]; exact H2.out.2, H2.out.1⟩
    · have j1 : ¬ (j : Int) < ls.length := by omega
      have hd : ls.drop j = [] := List.drop_eq_nil_of_le (by omega)
      have HE : Hid (X = 0 ∧ Y = T) := by
        have e := HR.out.e
        have p := HR.out.p
        rw [hd] at e p
        rw [HX.out.1, HX.out.2, e, p]
        exact ⟨rfl, rfl⟩
      clear hd
      go_wp2
      go_ret
      exact ⟨⟨_, rfl, .inl ⟨rfl, HE.out.1⟩⟩, by rw [HE.out.2]; exact HR.out.plate, HR.out.touch⟩
end Go.Proofs.YtbmjablmmlnieaaGreatDoor

namespace Go.Proofs.YtbmjablmmlnieaaGreatDoor
set_option maxRecDepth 20000
open Go.RowKit

structure Fine (S : PS) (n : Nat) : Prop where
  up : S.up = true
  fuse : S.fuse = -1
  len : S.kept.length = n
structure Seen (S : PS) (a : Nat) (r : ByteArray) : Prop where
  lt : 8 * a + 8 ≤ S.kept.length
  sec : ∀ i, i < 8 → (textOf S.wait (8 * a + i)).or S.kept[8 * a + i]? = some (secS r i)
theorem Fine.alike {S S' : PS} {n : Nat} (h : Fine S n) (k : Alike S S') : Fine S' n := ⟨k.1.trans h.up, k.2.2.2.trans h.fuse, by rw [k.2.1]; exact h.len⟩
theorem Seen.alike {S S' : PS} {a : Nat} {r : ByteArray} (h : Seen S a r) (k : Alike S S') : Seen S' a r := ⟨by rw [k.2.1]; exact h.lt, fun i hi => by rw [k.2.2.1, k.2.1]; exact h.sec i hi⟩
theorem textOf_other (r : ByteArray) (a b : Nat) (h : a ≠ b) : ∀ (n j i : Nat), j + n ≤ 8 → i < 8 → textOf (secsW r b j n) (8 * a + i) = none
  | 0, j, i, _, _ => rfl
  | n + 1, j, i, hj, hi => by
    rw [show secsW r b j (n + 1) = [(8 * b + j, secS r j)] ++ secsW r b (j + 1) n from rfl, textOf_append, textOf_other r a b h n (j + 1) i (by omega) hi]
    simp [textOf, textR]
    omega
theorem put_fine {S : PS} {n : Nat} {r : ByteArray} {a : Nat} (h : Fine S n) (hr : r.size = 512) (ha : 8 * a + 8 ≤ n) :
    bputE S (a : Int) r = 0 ∧ Fine (bputP S (a : Int) r) n ∧ Seen (bputP S (a : Int) r) a r ∧ ∀ b x, b ≠ a → Seen S b x → Seen (bputP S (a : Int) r) b x := by
  have hl := h.len
  have hB : bhasB S (a : Int) = true := by simp [bhasB, hl]; omega
  obtain ⟨w', h'⟩ := putGo_all r a hr 8 0 S (by omega) h.up h.fuse (by omega)
  have hP : bputP S (a : Int) r = { S with writes := w', wait := S.wait ++ secsW r a 0 8 } := by
    unfold bputP
    rw [if_pos hr, if_pos hB, Int.toNat_natCast, h']
  refine ⟨?_, ?_, ?_, ?_⟩
  · unfold bputE
    rw [if_pos hr, if_pos hB, Int.toNat_natCast, h']
  · rw [hP]
    exact ⟨h.up, h.fuse, h.len⟩
  · rw [hP]
    refine ⟨by show 8 * a + 8 ≤ S.kept.length; omega, fun i hi => ?_⟩
    show (textOf (S.wait ++ secsW r a 0 8) (8 * a + i)).or S.kept[8 * a + i]? = _
    rw [textOf_append, textOf_secs, if_pos (by omega)]
    rfl
  · intro b x hb hx
    rw [hP]
    refine ⟨hx.lt, fun i hi => ?_⟩
    show (textOf (S.wait ++ secsW r a 0 8) (8 * b + i)).or S.kept[8 * b + i]? = _
    rw [textOf_append, textOf_other r b a hb 8 0 i (by omega) hi]
    exact hx.sec i hi
theorem flush_fine {S : PS} {n : Nat} (h : Fine S n) : flushE S = 0 ∧ Fine (flushP S) n ∧ (flushP S).wait = [] ∧ ∀ b x, Seen S b x → Seen (flushP S) b x := by
  have e : flushP S = settleP (fun _ => true) S := by unfold flushP; rw [if_pos h.up]
  refine ⟨by unfold flushE; rw [if_pos h.up], ?_, by rw [e]; rfl, fun b x hx => ?_⟩
  · rw [e]
    exact ⟨h.up, h.fuse, (keptAt_length _ _ _ _).trans h.len⟩
  · have hl : (flushP S).kept.length = S.kept.length := by rw [e]; exact keptAt_length _ _ _ _
    refine ⟨by rw [hl]; exact hx.lt, fun i hi => ?_⟩
    have hlt : 8 * b + i < S.kept.length := by have := hx.lt; omega
    obtain ⟨h1, _, h3, _⟩ := flush_kept S h.up (8 * b + i) hlt
    have hs := hx.sec i hi
    rw [h3, h1]
    show some _ = _
    rw [List.getElem?_eq_getElem hlt] at hs
    cases ht : textOf S.wait (8 * b + i) with
    | none => rw [ht] at hs; exact hs
    | some t => rw [ht] at hs; exact hs
/-- The last bytes that a list of writes has for an address. -/
def lastW : List Wt → Int → Option ByteArray
  | [], _ => none
  | x :: l, b => (lastW l b).or (if x.at_ = b then some x.raw else none)
theorem lastW_append (l m : List Wt) (b : Int) : lastW (l ++ m) b = (lastW m b).or (lastW l b) := by
  induction l with
  | nil => simp [lastW]
  | cons x l ih =>
    rw [List.cons_append, lastW, ih, lastW]
    cases lastW m b <;> rfl
/-- What is seen behind writes. -/
def SeenL (l : List Wt) (S : PS) (b : Nat) (x : ByteArray) : Prop := match lastW l b with | some r => r = x | none => Seen S b x
structure FitW (n : Nat) (x : Wt) : Prop where
  ad : ∃ a : Nat, x.at_ = (a : Int) ∧ 8 * a + 8 ≤ n
  size : x.raw.size = 512
theorem take_fine : ∀ (l : List Wt) {S : PS} {n : Nat}, Fine S n → (∀ x ∈ l, FitW n x) → takeE l S = 0 ∧ Fine (takeP l S) n ∧ (takeP l S).wait = [] ∧ ∀ b x, SeenL l S b x → Seen (takeP l S) b x
  | [], S, n, h, _ => by
    obtain ⟨h1, h2, h3, h4⟩ := flush_fine h
    exact ⟨h1, h2, h3, fun b x hx => h4 b x hx⟩
  | y :: l, S, n, h, hf => by
    obtain ⟨⟨a, ea, ha⟩, hr⟩ := hf y (List.mem_cons_self ..)
    obtain ⟨p1, p2, p3, p4⟩ := put_fine (r := y.raw) h hr ha
    obtain ⟨q1, q2, q3, q4⟩ := take_fine l p2 fun x hx => hf x (List.mem_cons_of_mem _ hx)
    unfold takeE takeP
    rw [ea, if_pos p1, if_pos p1]
    refine ⟨q1, q2, q3, fun b x hx => q4 b x ?_⟩
    unfold SeenL at hx ⊢
    rw [lastW, ea] at hx
    cases hl : lastW l (b : Int) with
    | some r => rw [hl] at hx; exact hx
    | none =>
      rw [hl] at hx
      show Seen _ b x
      by_cases e : (a : Int) = (b : Int)
      · rw [if_pos e] at hx
        have hx : y.raw = x := hx
        have e' : a = b := by omega
        subst e'
        rw [← hx]
        exact p3
      · rw [if_neg e] at hx
        exact p4 b x (fun h => e (by rw [h])) hx
theorem fol_fine : ∀ (ls : List (List Wt)) {S : PS} {n : Nat}, Fine S n → S.wait = [] → (∀ l ∈ ls, ∀ x ∈ l, FitW n x) → folE ls S = 0 ∧ Fine (folP ls S) n ∧ (folP ls S).wait = [] ∧ ∀ b x, SeenL ls.flatten S b x → Seen (folP ls S) b x
  | [], S, n, h, hw, _ => ⟨rfl, h, hw, fun b x hx => hx⟩
  | l :: ls, S, n, h, hw, hf => by
    obtain ⟨p1, p2, p3, p4⟩ := take_fine l h (hf l (List.mem_cons_self ..))
    obtain ⟨q1, q2, q3, q4⟩ := fol_fine ls p2 p3 fun l' hl => hf l' (List.mem_cons_of_mem _ hl)
    unfold folE folP
    rw [if_pos p1, if_pos p1]
    refine ⟨q1, q2, q3, fun b x hx => q4 b x ?_⟩
    unfold SeenL at hx ⊢
    rw [List.flatten_cons, lastW_append] at hx
    cases hl : lastW ls.flatten (b : Int) with
    | some r => rw [hl] at hx; exact hx
    | none =>
      rw [hl] at hx
      exact p4 b x hx
theorem seen_get {S : PS} {n a : Nat} {r : ByteArray} (h : Fine S n) (hs : Seen S a r) (hr : r.size = 512) : (bget S (a : Int)).1 = (r, 0, 0) := by
  have hB : bhasB S (a : Int) = true := by have := hs.lt; simp [bhasB]; omega
  unfold bget
  rw [if_pos hB, Int.toNat_natCast, getGo_all a r 8 0 S ⟨#[]⟩ 0 fun i _ hi => by
    have hlt : 8 * a + i < S.kept.length := by have := hs.lt; omega
    have hh : hasB S ((8 * a + i : Nat) : Int) = true := by simp [hasB]; omega
    have hx := hs.sec i (by omega)
    have hz : (secS r i).size = 64 := by simp [secS, hr]; omega
    unfold readE readS heldE heldS
    rw [if_pos h.up, if_pos hh, if_pos h.up, if_pos hh]
    simp only [Int.toNat_natCast, hh, if_true]
    rcases Option.eq_none_or_eq_some (textOf S.wait (8 * a + i)) with ht | ⟨t, ht⟩
    · rw [ht] at hx
      have hx : S.kept[8 * a + i]? = some (secS r i) := hx
      have hk : keptS S ((8 * a + i : Nat) : Int) = secS r i := by
        unfold keptS
        rw [Int.toNat_natCast, List.getD_eq_getElem?_getD, hx]
        rfl
      simp only [ht, hk, hz]
      exact ⟨rfl, rfl⟩
    · rw [ht] at hx
      have hx : some t = some (secS r i) := hx
      simp [ht]
      exact Option.some.inj hx]
  show ((⟨#[]⟩ : ByteArray) ++ r.extract 0 512, _, _) = _
  rw [← hr, ByteArray.extract_zero_size]
  exact congrArg (fun x => (x, 0, 0)) ByteArray.empty_append
theorem jbget_alike (S : PS) (at_ : Int) : Alike S (bget S at_).2 := by
  unfold bget
  split
  · exact getGo_alike _ _ _ _ _ _
  · exact ⟨rfl, rfl, rfl, rfl⟩
theorem stA_alike (S : PS) : ∀ j, Alike S (stA S j)
  | 0 => ⟨rfl, rfl, rfl, rfl⟩
  | j + 1 => (stA_alike S j).trans (jbget_alike _ _)
theorem seen_at {S : PS} {n a : Nat} {r : ByteArray} (h : Fine S n) (hs : Seen S a r) (hr : r.size = 512) : atS (rawsTo S (S.kept.length / 8)) (masksTo S (S.kept.length / 8)) (a : Int) = r ∧ atM (rawsTo S (S.kept.length / 8)) (masksTo S (S.kept.length / 8)) (a : Int) = 0 := by
  have hlt : a < S.kept.length / 8 := by have := hs.lt; omega
  have hg := seen_get (h.alike (stA_alike S a)) (hs.alike (stA_alike S a)) hr
  have e1 : rawA S a = r := by unfold rawA; rw [hg, if_pos rfl]
  have e2 : maskA S a = 0 := by unfold maskA; rw [hg, if_pos rfl]; rfl
  have g1 : (rawsTo S (S.kept.length / 8)).getD ((a : Int).toNat) ⟨#[]⟩ = r := by
    simp [rawsTo, List.getD_eq_getElem?_getD, hlt, e1]
  have g2 : (masksTo S (S.kept.length / 8)).getD ((a : Int).toNat) 0 = 0 := by
    simp [masksTo, List.getD_eq_getElem?_getD, hlt, e2]
  have hB : atB (rawsTo S (S.kept.length / 8)) (masksTo S (S.kept.length / 8)) (a : Int) = true := by
    unfold atB
    rw [g1, rawsTo_length, masksTo_length]
    simp [hr]
    omega
  unfold atS atM
  rw [if_pos hB, if_pos hB]
  exact ⟨g1, g2⟩
end Go.Proofs.YtbmjablmmlnieaaGreatDoor
