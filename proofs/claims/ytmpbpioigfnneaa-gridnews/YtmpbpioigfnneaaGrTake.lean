/- grid's unused and Take: the first k that are not used, from a place on. -/
import Derived.Test.YtmpbpioigfnneaaGrNext
import Derived.Test.YtmpbpioigfnneaaTouchBase
import Derived.Maps.AppendAt
import Derived.Deep.OwnRows
import Derived.Deep.AppendLies
namespace Go.Proofs.Ytmpbpioigfnneaa
set_option maxRecDepth 20000
open Go.RowKit

/-- Those below m, from f on, that are not used: k of them at most. -/
def freeTo (u : Nat → Bool) (f k : Int) : Nat → List Nat
  | 0 => []
  | i + 1 => if u i = false ∧ f ≤ (i : Int) ∧ ((freeTo u f k i).length : Int) < k then freeTo u f k i ++ [i] else freeTo u f k i
theorem freeTo_succ (u : Nat → Bool) (f k : Int) (i : Nat) : freeTo u f k (i + 1) = if u i = false ∧ f ≤ (i : Int) ∧ ((freeTo u f k i).length : Int) < k then freeTo u f k i ++ [i] else freeTo u f k i := rfl
theorem freeTo_below (u : Nat → Bool) (f k : Int) : ∀ m : Nat, (m : Int) ≤ f → freeTo u f k m = []
  | 0, _ => rfl
  | m + 1, h => by
    show (if _ then _ else _) = _
    rw [if_neg (fun e => by have := e.2.1; omega)]
    exact freeTo_below u f k m (by omega)
theorem freeTo_skip (u : Nat → Bool) (f k : Int) (a : Nat) : ∀ d, (∀ i, a ≤ i → i < a + d → u i = true) → freeTo u f k (a + d) = freeTo u f k a
  | 0, _ => rfl
  | d + 1, h => by
    rw [← Nat.add_assoc, freeTo_succ]
    rw [if_neg (fun e => by rw [h (a + d) (by omega) (by omega)] at e; cases e.1)]
    exact freeTo_skip u f k a d fun i h1 h2 => h i h1 (by omega)
theorem freeTo_full (u : Nat → Bool) (f k : Int) (a : Nat) (hk : k ≤ ((freeTo u f k a).length : Int)) : ∀ d, freeTo u f k (a + d) = freeTo u f k a
  | 0 => rfl
  | d + 1 => by
    rw [← Nat.add_assoc, freeTo_succ]
    rw [freeTo_full u f k a hk d, if_neg (fun e => by have := e.2.2; omega)]
theorem freeTo_len (u : Nat → Bool) (f k : Int) : ∀ m : Nat, (freeTo u f k m).length ≤ m
  | 0 => Nat.le_refl _
  | m + 1 => by
    have := freeTo_len u f k m
    show (if _ then _ else _ : List Nat).length ≤ _
    split
    · simp; omega
    · omega
theorem freeTo_hit (u : Nat → Bool) (f k : Int) (m i : Nat) (hm : m ≤ i) (hu : ∀ j, m ≤ j → j < i → u j = true) (hi : u i = false) (hf : f ≤ (i : Int)) (hk : ((freeTo u f k m).length : Int) < k) : freeTo u f k (i + 1) = freeTo u f k m ++ [i] := by
  have e := freeTo_skip u f k m (i - m) fun j h1 h2 => hu j h1 (by omega)
  rw [show m + (i - m) = i by omega] at e
  show (if _ then _ else _) = _
  rw [e, if_pos ⟨hi, hf, hk⟩]
theorem freeTo_mem (u : Nat → Bool) (f k : Int) : ∀ m i, i ∈ freeTo u f k m → i < m ∧ f ≤ (i : Int) ∧ u i = false
  | 0, i, h => by cases h
  | m + 1, i, h => by
    have h' : i ∈ (if u m = false ∧ f ≤ (m : Int) ∧ ((freeTo u f k m).length : Int) < k then freeTo u f k m ++ [m] else freeTo u f k m) := h
    split at h'
    · rename_i hc
      rcases List.mem_append.1 h' with h1 | h1
      · have := freeTo_mem u f k m i h1; exact ⟨by omega, this.2⟩
      · simp at h1; subst h1; exact ⟨by omega, hc.2.1, hc.1⟩
    · have := freeTo_mem u f k m i h'; exact ⟨by omega, this.2⟩
theorem freeTo_rise (u : Nat → Bool) (f k : Int) : ∀ m, (freeTo u f k m).Pairwise (· < ·)
  | 0 => List.Pairwise.nil
  | m + 1 => by
    show (if _ then _ else _ : List Nat).Pairwise _
    split
    · refine List.pairwise_append.2 ⟨freeTo_rise u f k m, List.pairwise_singleton _ _, fun a ha b hb => ?_⟩
      simp at hb
      subst hb
      exact (freeTo_mem u f k _ a ha).1
    · exact freeTo_rise u f k m
theorem freeTo_most (u : Nat → Bool) (f k : Int) (hk : 0 ≤ k) : ∀ m, ((freeTo u f k m).length : Int) ≤ k
  | 0 => hk
  | m + 1 => by
    have := freeTo_most u f k hk m
    show ((if _ then _ else _ : List Nat).length : Int) ≤ _
    split
    · rename_i hc
      rw [List.length_append]
      have := hc.2.2
      simp
      omega
    · exact this
/-- Numbers as values. -/
def intV (l : List Nat) : List Value := l.map fun (x : Nat) => Value.int .i64 (x : Int)
theorem intV_length (l : List Nat) : (intV l).length = l.length := List.length_map _
theorem intV_append (l m : List Nat) : intV (l ++ m) = intV l ++ intV m := List.map_append
theorem gr_info_int : (Try.prog.info? 3).map (fun i => (i.zero, i.size, i.bytes)) = some (some (.int .i64 0), 1, 8) := by kernel_rfl
/-- A slice in blocks from base on that holds these numbers. -/
def IntsAt (w : World) (base : Nat) (v : Value) (l : List Nat) : Prop := w.ownsRow base 3 1 v l.length (intV l)
set_option maxHeartbeats 2000000 in
theorem unused_any (w : World) (B n : Nat) (u : Nat → Bool) (h : GridAt w B n u) (hn : n ≤ 3584) (k f : Int) (hf : f < 2 ^ 63) :
    Calls Try.prog 28 #[.pointer (some ⟨B, 0, none⟩), .int .i64 k, .int .i64 f] w fun e w' => ∃ v, e = .returned v ∧ IntsAt w' w.heap.size v (freeTo u f k n) ∧ Below w.heap.size w w' := by
  obtain ⟨i0, hi0, hz0, hz1, hz2⟩ := info_parts gr_info_int
  have HG : Hid (GridAt w B n u) := h
  have hB := h.lt
  clear h
  go_enter Try.func28, Try.ntmps28
  go_wp2_with fail
  go_loopw [2, 7] (fun fv pv wr => ∃ (g : Int) (ad : Option Addr) (c : Nat), fv = .int .i64 g ∧ pv = .slice ad (freeTo u f k g.toNat).length c ∧ g < 2 ^ 63 ∧ (g = f ∨ (f ≤ g ∧ 0 ≤ g ∧ g ≤ (n : Int))) ∧ IntsAt wr w.heap.size pv (freeTo u f k g.toNat) ∧ Below w.heap.size w wr) (fun fv _ _ => n - (intOf fv).toNat)
  case atStart =>
    have e : freeTo u f k f.toNat = [] := by
      by_cases h0 : 0 ≤ f
      · exact freeTo_below u f k f.toNat (by omega)
      · rw [show f.toNat = 0 by omega]; rfl
    refine ⟨f, none, 0, rfl, by rw [e]; rfl, hf, .inl rfl, ?_, Below.refl _ _⟩
    rw [e]
    exact World.ownsRow_nil _ _ _ _
  case round =>
    obtain ⟨g, ad, c, rfl, rfl, hg, hgn, hown, hb⟩ := hrel
    obtain ⟨L, hL⟩ : ∃ L, L = freeTo u f k g.toNat := ⟨_, rfl⟩
    have hll : L.length ≤ 3584 := by
      rcases hgn with h0 | ⟨_, h1, h2⟩
      · have e : freeTo u f k g.toNat = [] := by
          by_cases h0 : 0 ≤ f
          · exact freeTo_below u f k g.toNat (by omega)
          · rw [show g.toNat = 0 by omega]; rfl
        rw [hL, e]
        exact Nat.zero_le _
      · have := freeTo_len u f k g.toNat
        rw [hL]
        omega
    by_cases hlt : (L.length : Int) < k
    · have hnx := next_any wr B n u (HG.out.keep (hb.block B hB)) hn g hg
      have HI : Hid (wr.ownsRow w.heap.size 3 1 (.slice ad L.length c) L.length (intV L) ∧ Below w.heap.size w wr ∧ L = freeTo u f k g.toNat ∧ g < 2 ^ 63 ∧ (g = f ∨ (f ≤ g ∧ 0 ≤ g ∧ g ≤ (n : Int)))) := by rw [hL] at *; exact ⟨hown, hb, rfl, hg, hgn⟩
      rw [← hL]
      have HL : Hid (((freeTo u f k g.toNat).length : Int) < k) := by rw [← hL]; exact hlt
      have hbs := hb.size
      clear hown hb hL hg hgn
      generalize hlen : L.length = len at *
      have HN : Hid (L.length = len) := hlen
      clear hlen
      go_wp2_with fail
      refine hnx.mono ?_
      rintro e w1 ⟨hres, rfl⟩
      rcases hres with ⟨i, hfi, rfl⟩ | ⟨hno, rfl⟩
      · have hgrow : f ≤ (i : Int) := by have := HI.out.2.2.2.2; have := hfi.1; omega
        have hin := hfi.2.1
        have HH : Hid (freeTo u f k (i + 1) = L ++ [i]) := by
          rw [HI.out.2.2.1]
          exact freeTo_hit u f k g.toNat i hfi.1 (fun j h1 h2 => hfi.2.2.2 j h1 h2) hfi.2.2.1 hgrow HL.out
        have HGI : Hid (g.toNat ≤ i) := hfi.1
        have hnew : (w1.alloc (.cells #[.int .i64 (i : Int)] 3)).heap[w1.heap.size]? = some (.cells #[.int .i64 (i : Int)] 3 (0, 0)) := heap_alloc_new w1 _
        have hownC := HI.out.1.alloc (.cells #[.int .i64 (i : Int)] 3)
        have hone : ∀ u ∈ ([.int .i64 (i : Int)] : List Value), u.oneCell' = true := by intro u hu; simp at hu; rw [hu]; rfl
        have hi3 : i < 3584 := by omega
        clear hnx hfi
        go_wp2_with (first | (at_builtin; (refine wpList_append_own _ rfl _ _ 44 rfl w.heap.size 3 i0 (.int .i64 0) 1 8 Try.underlying44 hi0 hz0 hz1 hz2 rfl (by decide) (.slice ad len c) len (intV L) rfl hownC ⟨w1.heap.size, 0, none⟩ 1 1 [.int .i64 (i : Int)] rfl rfl (World.news_of_block hnew) hone (by unfold maxLen; omega) (by omega) (by simp; omega) ?_)))
        intro v1 wB hown1 hgrow1 _
        have hTB : Below w.heap.size w wB := (HI.out.2.1.alloc hbs _).grown hgrow1 (by simp; omega) fun k hk => (HI.out.1.lt k hk).1
        obtain ⟨g1, cap1, rfl⟩ : ∃ g1 cap1, v1 = .slice (some ⟨g1, 0, none⟩) (len + 1) cap1 := by obtain ⟨g1, c1, e1, _⟩ := World.ownsRow.form hown1 (by omega); exact ⟨g1, c1, e1⟩
        have HF : Hid (IntsAt wB w.heap.size (.slice (some ⟨g1, 0, none⟩) (freeTo u f k (i + 1)).length cap1) (freeTo u f k (i + 1)) ∧ Below w.heap.size w wB ∧ (freeTo u f k (i + 1)).length = len + 1) := by
          unfold IntsAt
          rw [HH.out, List.length_append, HN.out, intV_append]
          exact ⟨hown1, hTB, rfl⟩
        clear hownC hnew hown1 hgrow1 hTB hone
        go_wp2
        go_roundw
        case rel =>
          refine ⟨((i + 1 : Nat) : Int), some ⟨g1, 0, none⟩, cap1, by go_num, ?_, by omega, .inr ⟨by omega, by omega, by omega⟩, ?_, HF.out.2.1⟩
          · rw [Int.toNat_natCast, HF.out.2.2]
          · rw [Int.toNat_natCast, ← HF.out.2.2]
            exact HF.out.1
        case measure =>
          have := HGI.out
          simp [intOf]
          omega
      · have HF : Hid (IntsAt w1 w.heap.size (.slice ad len c) (freeTo u f k n) ∧ Below w.heap.size w w1) := by
          have e : freeTo u f k n = L := by
            rw [HI.out.2.2.1]
            rcases Nat.lt_or_ge n g.toNat with h1 | h1
            · have : g = f := by have := HI.out.2.2.2.2; omega
              rw [freeTo_below u f k n (by omega), freeTo_below u f k g.toNat (by omega)]
            · have := freeTo_skip u f k g.toNat (n - g.toNat) fun j h2 h3 => hno j h2 (by omega)
              rwa [show g.toNat + (n - g.toNat) = n by omega] at this
          unfold IntsAt
          rw [e, HN.out]
          have := HI.out.1
          exact ⟨this, HI.out.2.1⟩
        clear hnx hno HI
        go_wp2
        go_ret
        exact ⟨_, rfl, HF.out⟩
    · have HF : Hid (IntsAt wr w.heap.size (.slice ad L.length c) (freeTo u f k n) ∧ Below w.heap.size w wr) := by
        have e : freeTo u f k n = L := by
          rw [hL]
          rcases Nat.lt_or_ge n g.toNat with h1 | h1
          · have : g = f := by omega
            rw [freeTo_below u f k n (by omega), freeTo_below u f k g.toNat (by omega)]
          · have := freeTo_full u f k g.toNat (by rw [← hL]; omega) (n - g.toNat)
            rwa [show g.toNat + (n - g.toNat) = n by omega] at this
        unfold IntsAt
        rw [e, hL]
        exact ⟨hown, hb⟩
      rw [← hL]
      clear hown hb hL hgn hg
      generalize L.length = len at *
      go_wp2
      go_ret
      exact ⟨_, rfl, HF.out⟩
theorem IntsAt.keep {w w' : World} {base : Nat} {v : Value} {l : List Nat} (h : IntsAt w base v l) (hk : ∀ k, base ≤ k → k < w.heap.size → w'.heap[k]? = w.heap[k]?) : IntsAt w' base v l := by
  refine ⟨h.1, ?_⟩
  rcases h.2 with h0 | ⟨g, cap, cur, e, h0, hg, h1, h2, h3, h4⟩
  · exact .inl h0
  · exact .inr ⟨g, cap, cur, e, h0, (hk g h0 (lt_of_block hg)).trans hg, h1, h2, h3, h4⟩
theorem IntsAt.form {w : World} {base : Nat} {v : Value} {l : List Nat} (h : IntsAt w base v l) : ∃ oa cap, v = .slice oa l.length cap := by
  rcases h.2 with ⟨e, h0⟩ | ⟨g, cap, cur, e, _⟩
  · exact ⟨none, 0, by rw [e, h0]⟩
  · exact ⟨_, _, e⟩
theorem IntsAt.cell {w : World} {base : Nat} {oa : Option Addr} {len cap : Nat} {l : List Nat} (h : IntsAt w base (.slice oa len cap) l) {i x : Nat} (hx : l[i]? = some x) : ∃ g, oa = some ⟨g, 0, none⟩ ∧ base ≤ g ∧ g < w.heap.size ∧ w.cell? ⟨g, i, none⟩ = some (.int .i64 (x : Int)) := by
  have hi := (List.getElem?_eq_some_iff.1 hx).1
  rcases h.2 with ⟨e, h0⟩ | ⟨g, cap', cur, e, h0, hg, h1, h2, h3, h4⟩
  · omega
  · obtain ⟨e1, e2, e3⟩ := Value.slice.inj e
    subst e1 e2 e3
    refine ⟨g, rfl, h0, lt_of_block hg, ?_⟩
    have := h.cellAt i (by omega)
    rw [this, intV, List.getElem?_map, hx]
    rfl
/-- All of these said to be used. -/
def putL (u : Nat → Bool) (l : List Nat) : Nat → Bool := l.foldl (fun u i => putU u i true) u
theorem putL_step (u : Nat → Bool) (l : List Nat) (j x : Nat) (h : l[j]? = some x) : putL u (l.take (j + 1)) = putU (putL u (l.take j)) x true := by
  obtain ⟨hj, e⟩ := List.getElem?_eq_some_iff.1 h
  rw [List.take_add_one, h]
  unfold putL
  rw [List.foldl_append]
  rfl
def takeE (u : Nat → Bool) (n : Nat) (k f : Int) : Int := if k < 0 then 1 else if ((freeTo u f k n).length : Int) < k then 6 else 0
def takeL (u : Nat → Bool) (n : Nat) (k f : Int) : List Nat := if takeE u n k f = 0 then freeTo u f k n else []
theorem take_neg (w : World) (B : Nat) (k f : Int) (hk : k < 0) :
    Calls Try.prog 20 #[.pointer (some ⟨B, 0, none⟩), .int .i64 k, .int .i64 f] w fun e w' => e = .returned (.tuple #[.slice none 0 0, .int .i64 1]) ∧ w' = w := by
  go_enter Try.func20, Try.ntmps20
  go_wp2
  go_ret2
  exact ⟨rfl, rfl⟩
theorem take_nil (w : World) (k f : Int) :
    Calls Try.prog 20 #[.pointer none, .int .i64 k, .int .i64 f] w fun e w' => e = .returned (.tuple #[.slice none 0 0, .int .i64 1]) ∧ w' = w := by
  go_enter Try.func20, Try.ntmps20
  go_wp2
  go_ret2
  exact ⟨rfl, rfl⟩
set_option maxHeartbeats 2000000 in
theorem take_all (w : World) (B n : Nat) (u : Nat → Bool) (h : GridAt w B n u) (hn : n ≤ 3584) (k f : Int) (hf : f < 2 ^ 63) :
    Calls Try.prog 20 #[.pointer (some ⟨B, 0, none⟩), .int .i64 k, .int .i64 f] w fun e w' => ∃ v, e = .returned (.tuple #[v, .int .i64 (takeE u n k f)]) ∧ IntsAt w' w.heap.size v (takeL u n k f) ∧ GridAt w' B n (putL u (takeL u n k f)) ∧ Only B w w' := by
  by_cases hk : k < 0
  · have e1 : takeE u n k f = 1 := if_pos hk
    have e2 : takeL u n k f = [] := if_neg (by rw [e1]; decide)
    rw [e1, e2]
    refine (take_neg w B k f hk).mono ?_
    rintro e w' ⟨rfl, rfl⟩
    exact ⟨_, rfl, World.ownsRow_nil _ _ _ _, h, Only.refl _ _⟩
  · have hun := unused_any w B n u h hn k f hf
    have HG : Hid (GridAt w B n u) := h
    have hB := h.lt
    have hk0 : ¬ k < 0 := hk
    by_cases hl : ((freeTo u f k n).length : Int) < k
    · have e1 : takeE u n k f = 6 := by unfold takeE; rw [if_neg hk, if_pos hl]
      have e2 : takeL u n k f = [] := if_neg (by rw [e1]; decide)
      rw [e1, e2]
      clear h e1 e2
      obtain ⟨L, hL⟩ : ∃ L, L = freeTo u f k n := ⟨_, rfl⟩
      rw [← hL] at hun hl
      clear hL
      go_enter Try.func20, Try.ntmps20
      go_wp2_with fail
      refine hun.mono ?_
      rintro e w1 ⟨v, rfl, hv, hb⟩
      obtain ⟨oa, cap, rfl⟩ := hv.form
      have HF : Hid (GridAt w1 B n u ∧ Only B w w1) := ⟨HG.out.keep (hb.block B hB), Only.of_below hb⟩
      clear hun hv hb
      generalize L.length = len at *
      go_wp2
      go_ret2
      exact ⟨_, rfl, World.ownsRow_nil _ _ _ _, HF.out⟩
    · have e1 : takeE u n k f = 0 := by unfold takeE; rw [if_neg hk, if_neg hl]
      have e2 : takeL u n k f = freeTo u f k n := if_pos e1
      rw [e1, e2]
      have hmem : ∀ i, i ∈ freeTo u f k n → i < n := fun i hi => (freeTo_mem u f k n i hi).1
      have hlen := freeTo_len u f k n
      clear h e1 e2
      obtain ⟨L, hL⟩ : ∃ L, L = freeTo u f k n := ⟨_, rfl⟩
      rw [← hL] at hun hl hmem hlen ⊢
      clear hL
      have HL : Hid (∀ i, i ∈ L → i < n) := hmem
      clear hmem
      obtain ⟨len, hle⟩ : ∃ len, len = L.length := ⟨_, rfl⟩
      have HE : Hid (len = L.length) := hle
      rw [← hle] at hl hlen
      clear hle
      have hlen3 : len ≤ 3584 := by omega
      go_enter Try.func20, Try.ntmps20
      go_wp2_with fail
      refine hun.mono ?_
      rintro e w1 ⟨v, rfl, hv, hb⟩
      obtain ⟨oa, cap, rfl⟩ := hv.form
      have HF : Hid (IntsAt w1 w.heap.size (.slice oa len cap) L ∧ GridAt w1 B n u ∧ Only B w w1) := by rw [HE.out]; exact ⟨hv, HG.out.keep (hb.block B hB), Only.of_below hb⟩
      have hw1 := hb.size
      rw [← HE.out]
      clear hun hv hb
      go_wp2_with fail
      go_loopw [27] (fun iv wr => ∃ j : Nat, j ≤ len ∧ iv = .int .i64 (j : Int) ∧ IntsAt wr w.heap.size (.slice oa len cap) L ∧ GridAt wr B n (putL u (L.take j)) ∧ Only B w wr) (fun iv _ => len - (intOf iv).toNat)
      case atStart => exact ⟨0, Nat.zero_le _, rfl, HF.out⟩
      case round =>
        clear HF
        obtain ⟨j, hj, rfl, hI, hG, hO⟩ := hrel
        by_cases hlt : j < len
        · have j1 : (j : Int) < (len : Nat) := by omega
          obtain ⟨x, hx⟩ : ∃ x, L[j]? = some x := ⟨_, List.getElem?_eq_getElem (by rw [← HE.out]; exact hlt)⟩
          have hxn := HL.out x (List.mem_of_getElem? hx)
          obtain ⟨g, rfl, hg1, hg2, hc⟩ := hI.cell hx
          have hp := put_any wr B n _ hG x true hn hxn
          rw [← putL_step u L j x hx] at hp
          have HI : Hid (IntsAt wr w.heap.size (.slice (some ⟨g, 0, none⟩) len cap) L ∧ Only B w wr) := ⟨hI, hO⟩
          clear hI hG hO hx
          go_wp2_with fail
          refine hp.mono ?_
          rintro e w2 ⟨rfl, hG2, hO2⟩
          have HF : Hid (IntsAt w2 w.heap.size (.slice (some ⟨g, 0, none⟩) len cap) L ∧ GridAt w2 B n (putL u (L.take (j + 1))) ∧ Only B w w2) := ⟨HI.out.1.keep fun q h1 h2 => hO2.2 q h2 (by omega), hG2, HI.out.2.trans hO2⟩
          clear hp hG2 hO2 HI hc
          go_wp2
          go_roundw
          case rel => exact ⟨j + 1, by omega, by go_num, HF.out⟩
          case measure => simp [intOf]; omega
        · obtain rfl : j = len := by omega
          have j1 : ¬ (j : Int) < j := by omega
          have HF : Hid (IntsAt wr w.heap.size (.slice oa j cap) L ∧ GridAt wr B n (putL u L) ∧ Only B w wr) := by
            rw [HE.out, List.take_length] at hG
            exact ⟨hI, hG, hO⟩
          clear hI hG hO
          go_wp2
          go_ret2
          exact ⟨_, rfl, HF.out⟩
end Go.Proofs.Ytmpbpioigfnneaa
