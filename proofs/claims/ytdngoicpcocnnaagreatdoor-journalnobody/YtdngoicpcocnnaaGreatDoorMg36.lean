/- journal's follow: steps till one fails. · A device whose power does not fail: which block is seen where; arithmetic, nothing of the program's calls. -/
import Derived.Test.YtdngoicpcocnnaaGreatDoorMg31
import Derived.Test.YtdngoicpcocnnaaGreatDoorMg35
import Derived.Test.YtdngoicpcocnnaaGreatDoorMg23
namespace Go.Proofs.YtdngoicpcocnnaaGreatDoor
set_option maxRecDepth 20000
open Go.RowKit

def folE : List (List Wt) → PS → Int
  | [], _ => 0
  | l :: r, S => if takeE l S = 0 then folE r (takeP l S) else takeE l S
def folP : List (List Wt) → PS → PS
  | [], S => S
  | l :: r, S => if takeE l S = 0 then folP r (takeP l S) else takeP l S
/-- Why steps ended, as an error. -/
def stopV (k : Int) (y : Int) : Value := .iface 146 (.agg #[.int .i64 k, .int .i64 y])
def total (ls : List (List Wt)) : Nat := (ls.map List.length).sum
theorem flush_wait (S : PS) : (flushP S).wait.length ≤ S.wait.length := by
  unfold flushP
  split
  · simp [settleP]
  · exact Nat.le_refl _
theorem take_wait : ∀ (l : List Wt) (S : PS), (takeP l S).wait.length ≤ S.wait.length + 8 * l.length
  | [], S => by have := flush_wait S; unfold takeP; simpa using this
  | x :: l, S => by
    have h := (bput_wait S x.at_ x.raw).1
    unfold takeP
    split
    · have := take_wait l (bputP S x.at_ x.raw); rw [List.length_cons]; omega
    · rw [List.length_cons]; omega
theorem Wts.touch2 {w w' : World} {v : Value} {l : List Wt} {F : Nat → Prop} (h : Wts w v l) (ht : Touch F w w') (ho : l ≠ [] → Wts.Out v F) : Wts w' v l := by
  by_cases hl : l = []
  · obtain ⟨oa, cap, rfl⟩ := h.form
    subst hl
    exact .inl ⟨oa, cap, rfl, rfl⟩
  · exact h.touch ht (ho hl)
/-- Steps that lie: a slice of slices of writes, none of them in F. -/
structure Steps (w : World) (F : Nat → Prop) (g o : Nat) (ls : List (List Wt)) : Prop where
  lt : g < w.heap.size
  out : ¬ F g
  el : ∀ i l, ls[i]? = some l → ∃ u, w.cell? ⟨g, o + i, none⟩ = some u ∧ Wts w u l ∧ (l ≠ [] → Wts.Out u F)
theorem Steps.touch {w w' : World} {F : Nat → Prop} {g o : Nat} {ls : List (List Wt)} (h : Steps w F g o ls) (ht : Touch F w w') : Steps w' F g o ls :=
  ⟨Nat.lt_of_lt_of_le h.lt ht.size, h.out, fun i l hl => by
    obtain ⟨u, h1, h2, h3⟩ := h.el i l hl
    exact ⟨u, (World.cell?_of_block (a := ⟨g, o + i, none⟩) (ht.2 g h.lt h.out)).trans h1, h2.touch2 ht h3, h3⟩⟩
/-- A list's block is not among what a plate has grown by. -/
theorem Wts.out_grow {w w' : World} {v : Value} {l : List Wt} {F : Nat → Prop} (h : Wts w v l) (ho : l ≠ [] → Wts.Out v F) (hl : l ≠ []) : Wts.Out v (grow F w w') := by
  rcases h with ⟨_, _, _, h⟩ | ⟨g, o, cap, e, hg, hx⟩
  · exact absurd h hl
  · intro g' o' len cap' e' hF
    have e2 := e'
    rw [e] at e'
    simp only [Value.slice.injEq, Option.some.injEq, Addr.mk.injEq] at e'
    obtain ⟨⟨rfl, _⟩, _⟩ := e'
    rcases hF with hF | hF
    · exact ho hl _ _ _ _ e hF
    · omega
/-- What follow tells: nothing, or why it ended. -/
def RetV (X : Int) (v : Value) : Prop := (v = .nilIface ∧ X = 0) ∨ ∃ k, ¬ X = 0 ∧ v = stopV k X
structure FoR (w : World) (F : Nat → Prop) (B : Nat) (ls : List (List Wt)) (S : PS) (j : Nat) (wr : World) (T : PS) : Prop where
  e : folE ls S = folE (ls.drop j) T
  p : folP ls S = folP (ls.drop j) T
  plate : Plate wr (grow F w wr) B T
  touch : Touch F w wr
  wait : T.wait.length + 8 * total (ls.drop j) ≤ 900000
theorem total_drop {ls : List (List Wt)} {j : Nat} (h : j < ls.length) : total (ls.drop j) = ls[j].length + total (ls.drop (j + 1)) := by
  unfold total
  rw [List.drop_eq_getElem_cons h, List.map_cons, List.sum_cons]
set_option maxHeartbeats 4000000 in
theorem follow_any (g o cap : Nat) (ls : List (List Wt)) (B : Nat) (F : Nat → Prop) (S : PS) (w : World) (hv : Steps w F g o ls) (hls : ls.length ≤ 1000) (hp : Plate w F B S) (hw : S.wait.length + 8 * total ls ≤ 900000) (hg : ErrT w) (hF : ¬ F 0) :
    Calls Tryz.prog 37 #[.pointer (some ⟨B, 0, none⟩), .slice (some ⟨g, o, none⟩) ls.length cap] w fun e w' => (∃ v, e = .returned v ∧ RetV (folE ls S) v) ∧ Plate w' (grow F w w') B (folP ls S) ∧ Touch F w w' := by
  obtain ⟨X, hX⟩ : ∃ X, X = folE ls S := ⟨_, rfl⟩
  obtain ⟨Y, hY⟩ : ∃ Y, Y = folP ls S := ⟨_, rfl⟩
  rw [← hX, ← hY]
  have HX : Hid (X = folE ls S ∧ Y = folP ls S) := ⟨hX, hY⟩
  have HV : Hid (Steps w F g o ls ∧ ErrT w ∧ ¬ F 0) := ⟨hv, hg, hF⟩
  have HI : Hid (FoR w F B ls S 0 w S) := ⟨rfl, rfl, hp.mono fun k _ h => .inl h, Touch.refl _ _, hw⟩
  clear hX hY hv hp hg hF hw
  go_enter Tryz.func37, Tryz.ntmps37
  go_wp2_with fail
  go_loopw [10] (fun iv wr => ∃ (j : Nat) (T : PS), j ≤ ls.length ∧ iv = .int .i64 (j : Int) ∧ Hid (FoR w F B ls S j wr T)) (fun iv _ => ls.length - (intOf iv).toNat)
  case atStart => exact ⟨0, S, Nat.zero_le _, rfl, HI⟩
  case round =>
    clear HI
    obtain ⟨j, T, hj, rfl, HR⟩ := hrel
    by_cases hlt : j < ls.length
    · have j1 : (j : Int) < ls.length := by omega
      obtain ⟨u, c0, hu, huo⟩ := (HV.out.1.touch HR.out.touch).el j _ (List.getElem?_eq_getElem hlt)
      have hgw := (HV.out.1.touch HR.out.touch).lt
      have hd : ls.drop j = ls[j] :: ls.drop (j + 1) := List.drop_eq_getElem_cons hlt
      have htd := total_drop hlt
      have HE : Hid ((X = folE (ls[j] :: ls.drop (j + 1)) T ∧ Y = folP (ls[j] :: ls.drop (j + 1)) T) ∧ folE ls S = folE (ls[j] :: ls.drop (j + 1)) T ∧ folP ls S = folP (ls[j] :: ls.drop (j + 1)) T) := by rw [← hd, HX.out.1, HX.out.2]; exact ⟨⟨HR.out.e, HR.out.p⟩, HR.out.e, HR.out.p⟩
      have HW : Hid (T.wait.length + 8 * (ls[j].length + total (ls.drop (j + 1))) ≤ 900000) := by rw [← htd]; exact HR.out.wait
      clear hd htd
      obtain ⟨u0, c00, hu0, huo0⟩ := HV.out.1.el j _ (List.getElem?_eq_getElem hlt)
      have huu : u0 = u := by
        have := (World.cell?_of_block (a := ⟨g, o + j, none⟩) (HR.out.touch.2 g HV.out.1.lt HV.out.1.out)).trans c00
        rw [c0] at this
        exact (Option.some.inj this).symm
      subst huu
      have hnE : ¬ grow F w wr 0 := fun h => by
        rcases h with h | h
        · exact HV.out.2.2 h
        · have := HV.out.2.1.lt; omega
      have htake : Calls Tryz.prog 72 #[u0, .pointer (some ⟨B, 0, none⟩)] wr fun e w' => e = .returned (.int .i64 (takeE ls[j] T)) ∧ Plate w' (grow (grow F w wr) wr w') B (takeP ls[j] T) ∧ Touch (grow F w wr) wr w' := by
        exact take_any u0 _ B _ T wr hu (fun hl => hu0.out_grow huo0 hl) HR.out.plate (by have := HW.out; omega) (HV.out.2.1.touch HR.out.touch HV.out.2.2) hnE
      clear hu huo c00 hu0 huo0 hnE
      have HTW := take_wait ls[j] T
      generalize ls[j] = l at *
      go_wp2_with fail
      refine htake.mono ?_
      rintro e w2 ⟨rfl, hp2, ht2⟩
      clear htake
      have H2 : Hid (Touch F w w2 ∧ Plate w2 (grow F w w2) B (takeP l T)) := ⟨HR.out.touch.trans ht2, hp2.mono fun k hk h => by
        rcases h with h | h
        · rcases h with h | h
          · exact .inl h
          · exact .inr ⟨h.1, hk⟩
        · exact .inr ⟨by have := HR.out.touch.size; omega, hk⟩⟩
      clear hp2 ht2
      by_cases hz : takeE l T = 0
      · have HF : Hid (FoR w F B ls S (j + 1) w2 (takeP l T)) := ⟨by rw [HE.out.2.1, folE, if_pos hz], by rw [HE.out.2.2, folP, if_pos hz], H2.out.2, H2.out.1, by have := HW.out; omega⟩
        rw [hz]
        clear HE H2
        go_wp2
        go_roundw
        case rel => exact ⟨j + 1, _, by omega, by go_num, HF⟩
        case measure => simp [intOf]; omega
      · have HF : Hid (X = takeE l T ∧ Y = takeP l T ∧ ¬ X = 0) := by rw [HE.out.1.1, HE.out.1.2, folE, folP, if_neg hz, if_neg hz]; exact ⟨rfl, rfl, hz⟩
        have hz1 : (takeE l T != 0) = true := by simpa using hz
        clear HE
        generalize takeE l T = y at *
        go_wp2
        go_ret
        exact ⟨⟨_, rfl, .inr ⟨(j : Int), HF.out.2.2, by rw [HF.out.1]; rfl⟩⟩, by rw [HF.out.2.1]; exact H2.out.2, H2.out.1⟩
    · have j1 : ¬ (j : Int) < ls.length := by omega
      have hd : ls.drop j = [] := List.drop_eq_nil_of_le (by omega)
      have HE : Hid (X = 0 ∧ Y = T) := by
        have e := HR.out.e
        have p := HR.out.p
        rw [hd] at e p
        rw [HX.out.1, HX.out.2, e, p]
        exact ⟨rfl, rfl⟩
      clear hd
      go_wp2
      go_ret
      exact ⟨⟨_, rfl, .inl ⟨rfl, HE.out.1⟩⟩, by rw [HE.out.2]; exact HR.out.plate, HR.out.touch⟩
end Go.Proofs.YtdngoicpcocnnaaGreatDoor

namespace Go.Proofs.YtdngoicpcocnnaaGreatDoor
set_option maxRecDepth 20000
open Go.RowKit

structure Fine (S : PS) (n : Nat) : Prop where
  up : S.up = true
  fuse : S.fuse = -1
  len : S.kept.length = n
structure Seen (S : PS) (a : Nat) (r : ByteArray) : Prop where
  lt : 8 * a + 8 ≤ S.kept.length
  sec : ∀ i, i < 8 → (textOf S.wait (8 * a + i)).or S.kept[8 * a + i]? = some (secS r i)
theorem Fine.alike {S S' : PS} {n : Nat} (h : Fine S n) (k : Alike S S') : Fine S' n := ⟨k.1.trans h.up, k.2.2.2.trans h.fuse, by rw [k.2.1]; exact h.len⟩
theorem Seen.alike {S S' : PS} {a : Nat} {r : ByteArray} (h : Seen S a r) (k : Alike S S') : Seen S' a r := ⟨by rw [k.2.1]; exact h.lt, fun i hi => by rw [k.2.2.1, k.2.1]; exact h.sec i hi⟩
theorem textOf_other (r : ByteArray) (a b : Nat) (h : a ≠ b) : ∀ (n j i : Nat), j + n ≤ 8 → i < 8 → textOf (secsW r b j n) (8 * a + i) = none
  | 0, j, i, _, _ => rfl
  | n + 1, j, i, hj, hi => by
    rw [show secsW r b j (n + 1) = [(8 * b + j, secS r j)] ++ secsW r b (j + 1) n from rfl, textOf_append, textOf_other r a b h n (j + 1) i (by omega) hi]
    simp [textOf, textR]
    omega
theorem put_fine {S : PS} {n : Nat} {r : ByteArray} {a : Nat} (h : Fine S n) (hr : r.size = 512) (ha : 8 * a + 8 ≤ n) :
    bputE S (a : Int) r = 0 ∧ Fine (bputP S (a : Int) r) n ∧ Seen (bputP S (a : Int) r) a r ∧ ∀ b x, b ≠ a → Seen S b x → Seen (bputP S (a : Int) r) b x := by
  have hl := h.len
  have hB : bhasB S (a : Int) = true := by simp [bhasB, hl]; omega
  obtain ⟨w', h'⟩ := putGo_all r a hr 8 0 S (by omega) h.up h.fuse (by omega)
  have hP : bputP S (a : Int) r = { S with writes := w', wait := S.wait ++ secsW r a 0 8 } := by
    unfold bputP
    rw [if_pos hr, if_pos hB, Int.toNat_natCast, h']
  refine ⟨?_, ?_, ?_, ?_⟩
  · unfold bputE
    rw [if_pos hr, if_pos hB, Int.toNat_natCast, h']
  · rw [hP]
    exact ⟨h.up, h.fuse, h.len⟩
  · rw [hP]
    refine ⟨by show 8 * a + 8 ≤ S.kept.length; omega, fun i hi => ?_⟩
    show (textOf (S.wait ++ secsW r a 0 8) (8 * a + i)).or S.kept[8 * a + i]? = _
    rw [textOf_append, textOf_secs, if_pos (by omega)]
    rfl
  · intro b x hb hx
    rw [hP]
    refine ⟨hx.lt, fun i hi => ?_⟩
    show (textOf (S.wait ++ secsW r a 0 8) (8 * b + i)).or S.kept[8 * b + i]? = _
    rw [textOf_append, textOf_other r b a hb 8 0 i (by omega) hi]
    exact hx.sec i hi
theorem flush_fine {S : PS} {n : Nat} (h : Fine S n) : flushE S = 0 ∧ Fine (flushP S) n ∧ (flushP S).wait = [] ∧ ∀ b x, Seen S b x → Seen (flushP S) b x := by
  have e : flushP S = settleP (fun _ => true) S := by unfold flushP; rw [if_pos h.up]
  refine ⟨by unfold flushE; rw [if_pos h.up], ?_, by rw [e]; rfl, fun b x hx => ?_⟩
  · rw [e]
    exact ⟨h.up, h.fuse, (keptAt_length _ _ _ _).trans h.len⟩
  · have hl : (flushP S).kept.length = S.kept.length := by rw [e]; exact keptAt_length _ _ _ _
    refine ⟨by rw [hl]; exact hx.lt, fun i hi => ?_⟩
    have hlt : 8 * b + i < S.kept.length := by have := hx.lt; omega
    obtain ⟨h1, _, h3, _⟩ := flush_kept S h.up (8 * b + i) hlt
    have hs := hx.sec i hi
    rw [h3, h1]
    show some _ = _
    rw [List.getElem?_eq_getElem hlt] at hs
    cases ht : textOf S.wait (8 * b + i) with
    | none => rw [ht] at hs; exact hs
    | some t => rw [ht] at hs; exact hs
/-- The last bytes that a list of writes has for an address. -/
def lastW : List Wt → Int → Option ByteArray
  | [], _ => none
  | x :: l, b => (lastW l b).or (if x.at_ = b then some x.raw else none)
theorem lastW_append (l m : List Wt) (b : Int) : lastW (l ++ m) b = (lastW m b).or (lastW l b) := by
  induction l with
  | nil => simp [lastW]
  | cons x l ih =>
    rw [List.cons_append, lastW, ih, lastW]
    cases lastW m b <;> rfl
/-- What is seen behind writes. -/
def SeenL (l : List Wt) (S : PS) (b : Nat) (x : ByteArray) : Prop := match lastW l b with | some r => r = x | none => Seen S b x
structure FitW (n : Nat) (x : Wt) : Prop where
  ad : ∃ a : Nat, x.at_ = (a : Int) ∧ 8 * a + 8 ≤ n
  size : x.raw.size = 512
theorem take_fine : ∀ (l : List Wt) {S : PS} {n : Nat}, Fine S n → (∀ x ∈ l, FitW n x) → takeE l S = 0 ∧ Fine (takeP l S) n ∧ (takeP l S).wait = [] ∧ ∀ b x, SeenL l S b x → Seen (takeP l S) b x
  | [], S, n, h, _ => by
    obtain ⟨h1, h2, h3, h4⟩ := flush_fine h
    exact ⟨h1, h2, h3, fun b x hx => h4 b x hx⟩
  | y :: l, S, n, h, hf => by
    obtain ⟨⟨a, ea, ha⟩, hr⟩ := hf y (List.mem_cons_self ..)
    obtain ⟨p1, p2, p3, p4⟩ := put_fine (r := y.raw) h hr ha
    obtain ⟨q1, q2, q3, q4⟩ := take_fine l p2 fun x hx => hf x (List.mem_cons_of_mem _ hx)
    unfold takeE takeP
    rw [ea, if_pos p1, if_pos p1]
    refine ⟨q1, q2, q3, fun b x hx => q4 b x ?_⟩
    unfold SeenL at hx ⊢
    rw [lastW, ea] at hx
    cases hl : lastW l (b : Int) with
    | some r => rw [hl] at hx; exact hx
    | none =>
      rw [hl] at hx
      show Seen _ b x
      by_cases e : (a : Int) = (b : Int)
      · rw [if_pos e] at hx
        have hx : y.raw = x := hx
        have e' : a = b := by omega
        subst e'
        rw [← hx]
        exact p3
      · rw [if_neg e] at hx
        exact p4 b x (fun h => e (by rw [h])) hx
theorem fol_fine : ∀ (ls : List (List Wt)) {S : PS} {n : Nat}, Fine S n → S.wait = [] → (∀ l ∈ ls, ∀ x ∈ l, FitW n x) → folE ls S = 0 ∧ Fine (folP ls S) n ∧ (folP ls S).wait = [] ∧ ∀ b x, SeenL ls.flatten S b x → Seen (folP ls S) b x
  | [], S, n, h, hw, _ => ⟨rfl, h, hw, fun b x hx => hx⟩
  | l :: ls, S, n, h, hw, hf => by
    obtain ⟨p1, p2, p3, p4⟩ := take_fine l h (hf l (List.mem_cons_self ..))
    obtain ⟨q1, q2, q3, q4⟩ := fol_fine ls p2 p3 fun l' hl => hf l' (List.mem_cons_of_mem _ hl)
    unfold folE folP
    rw [if_pos p1, if_pos p1]
    refine ⟨q1, q2, q3, fun b x hx => q4 b x ?_⟩
    unfold SeenL at hx ⊢
    rw [List.flatten_cons, lastW_append] at hx
    cases hl : lastW ls.flatten (b : Int) with
    | some r => rw [hl] at hx; exact hx
    | none =>
      rw [hl] at hx
      exact p4 b x hx
theorem seen_get {S : PS} {n a : Nat} {r : ByteArray} (h : Fine S n) (hs : Seen S a r) (hr : r.size = 512) : (bget S (a : Int)).1 = (r, 0, 0) := by
  have hB : bhasB S (a : Int) = true := by have := hs.lt; simp [bhasB]; omega
  unfold bget
  rw [if_pos hB, Int.toNat_natCast, getGo_all a r 8 0 S ⟨#[]⟩ 0 fun i _ hi => by
    have hlt : 8 * a + i < S.kept.length := by have := hs.lt; omega
    have hh : hasB S ((8 * a + i : Nat) : Int) = true := by simp [hasB]; omega
    have hx := hs.sec i (by omega)
    have hz : (secS r i).size = 64 := by simp [secS, hr]; omega
    unfold readE readS heldE heldS
    rw [if_pos h.up, if_pos hh, if_pos h.up, if_pos hh]
    simp only [Int.toNat_natCast, hh, if_true]
    rcases Option.eq_none_or_eq_some (textOf S.wait (8 * a + i)) with ht | ⟨t, ht⟩
    · rw [ht] at hx
      have hx : S.kept[8 * a + i]? = some (secS r i) := hx
      have hk : keptS S ((8 * a + i : Nat) : Int) = secS r i := by
        unfold keptS
        rw [Int.toNat_natCast, List.getD_eq_getElem?_getD, hx]
        rfl
      simp only [ht, hk, hz]
      exact ⟨rfl, rfl⟩
    · rw [ht] at hx
      have hx : some t = some (secS r i) := hx
      simp [ht]
      exact Option.some.inj hx]
  show ((⟨#[]⟩ : ByteArray) ++ r.extract 0 512, _, _) = _
  rw [← hr, ByteArray.extract_zero_size]
  exact congrArg (fun x => (x, 0, 0)) ByteArray.empty_append
theorem jbget_alike (S : PS) (at_ : Int) : Alike S (bget S at_).2 := by
  unfold bget
  split
  · exact getGo_alike _ _ _ _ _ _
  · exact ⟨rfl, rfl, rfl, rfl⟩
theorem stA_alike (S : PS) : ∀ j, Alike S (stA S j)
  | 0 => ⟨rfl, rfl, rfl, rfl⟩
  | j + 1 => (stA_alike S j).trans (jbget_alike _ _)
theorem seen_at {S : PS} {n a : Nat} {r : ByteArray} (h : Fine S n) (hs : Seen S a r) (hr : r.size = 512) : atS (rawsTo S (S.kept.length / 8)) (masksTo S (S.kept.length / 8)) (a : Int) = r ∧ atM (rawsTo S (S.kept.length / 8)) (masksTo S (S.kept.length / 8)) (a : Int) = 0 := by
  have hlt : a < S.kept.length / 8 := by have := hs.lt; omega
  have hg := seen_get (h.alike (stA_alike S a)) (hs.alike (stA_alike S a)) hr
  have e1 : rawA S a = r := by unfold rawA; rw [hg, if_pos rfl]
  have e2 : maskA S a = 0 := by unfold maskA; rw [hg, if_pos rfl]; rfl
  have g1 : (rawsTo S (S.kept.length / 8)).getD ((a : Int).toNat) ⟨#[]⟩ = r := by
    simp [rawsTo, List.getD_eq_getElem?_getD, hlt, e1]
  have g2 : (masksTo S (S.kept.length / 8)).getD ((a : Int).toNat) 0 = 0 := by
    simp [masksTo, List.getD_eq_getElem?_getD, hlt, e2]
  have hB : atB (rawsTo S (S.kept.length / 8)) (masksTo S (S.kept.length / 8)) (a : Int) = true := by
    unfold atB
    rw [g1, rawsTo_length, masksTo_length]
    simp [hr]
    omega
  unfold atS atM
  rw [if_pos hB, if_pos hB]
  exact ⟨g1, g2⟩
end Go.Proofs.YtdngoicpcocnnaaGreatDoor
