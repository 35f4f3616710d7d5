/- Counting: the number of a thing, the next one, if it comes first; and whether a tag is the number of a thing that came ahead. -/
import Derived.Test.YtkopbpbmfdogfaaDoorVtKeys
namespace Go.Proofs.YtkopbpbmfdogfaaDoor
set_option maxRecDepth 20000
open Go.RowKit Go.Maps

theorem str_ne {a b : ByteArray} (h : a ≠ b) : (a.toList == b.toList) = false := beq_false_of_ne fun e => h (ByteArray.ext (Array.toList_inj.1 (by rw [← ByteArray.toList_eq, ← ByteArray.toList_eq]; exact e)))

set_option maxHeartbeats 1000000 in
theorem countS_old (m : Nat) (l : List (Four)) (x : Four) (hx : fitF x) (h0 : ¬ numOf l x = 0) (w : World) (h : Nums keyS 146 w m l) :
    Calls Tryd.prog 95 #[.map (some m), keyS x] w fun e w' => e = .returned (.int .i64 (numOf l x : Nat)) ∧ Below w.heap.size w w' := by
  obtain ⟨kl, hk⟩ := key_seal hx
  obtain ⟨D, hown, hs, hall⟩ := h
  obtain ⟨hh, hat⟩ := hall x kl hk
  have hh2 : Maps.has D kl = true := by rw [hh]; simp [h0]
  obtain ⟨n, hn⟩ : ∃ n, n = numOf l x := ⟨_, rfl⟩
  rw [← hn] at hat ⊢
  clear hall hx hs hh h0 hn
  obtain ⟨z, a, b, c⟩ := x
  have hb := (Below.refl w.heap.size w).alloc (Nat.le_refl _) (.cells #[.int .i64 z, .string a, .string b, .string c] 146)
  have hown1 := hown.alloc (.cells #[.int .i64 z, .string a, .string b, .string c] 146)
  simp only [keyS] at hk ⊢
  clear hown
  go_enter Tryd.func95, Tryd.ntmps95
  go_wp2_with (first | (at_lookup; refine wpList_lookup_own_ok_int _ rfl _ _ 57 rfl 146 3 .i64 law_seal Tryd.underlying57 Tryd.underlying3 (zero_int _) m _ D rfl hown1 _ _ rfl hk ?_; intro c hat2 _; rw [hat] at hat2; cases hat2; rw [hh2]))
  go_ret
  exact ⟨rfl, hb⟩

set_option maxRecDepth 10000 in
set_option maxHeartbeats 1000000 in
theorem countS_new (m : Nat) (l : List (Four)) (x : Four) (hx : fitF x) (hl : l.length ≤ 1000000) (h0 : numOf l x = 0) (w : World) (h : Nums keyS 146 w m l) :
    Calls Tryd.prog 95 #[.map (some m), keyS x] w fun e w' => e = .returned (.int .i64 (l.length + 1 : Nat)) ∧ Nums keyS 146 w' m (l ++ [x]) ∧ Only m w w' := by
  obtain ⟨kl, hk⟩ := key_seal hx
  obtain ⟨D, hown, hs, hall⟩ := h
  obtain ⟨hh, hat⟩ := hall x kl hk
  have hh2 : Maps.has D kl = false := by rw [hh]; simp [h0]
  rw [h0] at hat
  have HP : Hid _ := nums_put (n := l.length + 1) law_seal keyS_inj hown.isMap (hown.tidy law_seal) hs h0 hk rfl hall
  have hmw := hown.lt
  suffices HS : Calls Tryd.prog 95 #[.map (some m), keyS x] w fun e w' => e = .returned (.int .i64 (l.length + 1 : Nat)) ∧ w'.ownsMap Tryd.prog 146 (plainElem Tryd.prog 3) m (l.length + 1) (D.put kl (.lit (.int .i64 ((l.length : Int) + 1)))) ∧ Only m w w' by
    exact HS.mono fun e w' ⟨h1, h2, h3⟩ => ⟨h1, ⟨_, by rw [List.length_append]; exact h2, HP.out.1, HP.out.2⟩, h3⟩
  clear hall hh h0 HP
  have hcl := fun W => cloneS_any x hx W
  obtain ⟨z, a, b, c⟩ := x
  have hb := (Below.refl w.heap.size w).alloc (Nat.le_refl _) (.cells #[.int .i64 z, .string a, .string b, .string c] 146)
  have hown1 := hown.alloc (.cells #[.int .i64 z, .string a, .string b, .string c] 146)
  have hm : ∀ w : World, (method 258 146 (.agg #[.int .i64 z, .string a, .string b, .string c]) "grapnel/vault.clone").run Tryd.prog w = .ok (99, .agg #[.int .i64 z, .string a, .string b, .string c]) w := fun _ => by kernel_rfl
  simp only [keyS] at hk hcl ⊢
  clear hown hx
  go_enter Tryd.func95, Tryd.ntmps95
  go_wp2_with (first | (at_lookup; refine wpList_lookup_own_ok_int _ rfl _ _ 57 rfl 146 3 .i64 law_seal Tryd.underlying57 Tryd.underlying3 (zero_int _) m _ D rfl hown1 _ _ rfl hk ?_; intro c hat2 _; rw [hat] at hat2; cases hat2; rw [hh2]) | (at_len; refine wpList_len_own _ rfl _ 57 rfl 146 3 Tryd.underlying57 _ m _ D rfl hown1 ?_; rw [hs]))
  refine (hcl _).mono ?_
  rintro e w1 ⟨rfl, hb1⟩
  have hown2 := owns_at hown1 (hb1.block m (by simp; omega))
  have hO := Only.of_below (b := m) (hb.trans (hb1.mono (by simp)))
  clear hown1 hb hb1 hcl
  go_wp2_with (first | (at_mapUpdate; refine wpList_mapUpdate_own _ rfl _ _ _ 57 rfl 146 3 law_seal Tryd.underlying57 _ m l.length D rfl hown2 (by unfold maxLen; omega) _ _ kl rfl rfl hk _ [] (plainElem_int Tryd.underlying3 (WalkArith.wf_i64 (by omega))) ?_; intro w2 hown3 hgrow3))
  have HN : Hid _ := hown3
  have HO := hO.trans (Only.of_grown hgrow3)
  go_ret
  exact ⟨by go_num, HN.out, HO⟩

set_option maxRecDepth 10000 in
set_option maxHeartbeats 1000000 in
theorem countedS_any (m : Nat) (l : List (Four)) (x : Four) (tag : ByteArray) (hx : fitF x) (hl : l.length ≤ 1000000) (w : World) (h : Nums keyS 146 w m l) :
    Calls Tryd.prog 93 #[.map (some m), keyS x, .string tag] w fun e w' => e = .returned (.bool (decide (numOf l x ≠ 0 ∧ tag = wideS (numOf l x) 16))) ∧ Below w.heap.size w w' := by
  obtain ⟨kl, hk⟩ := key_seal hx
  obtain ⟨D, hown, hs, hall⟩ := h
  obtain ⟨hh, hat⟩ := hall x kl hk
  have hle := numOf_le x l
  have hw := fun W => wide_any (numOf l x) 16 (by omega) (by decide) (by decide) W
  obtain ⟨n, hn⟩ : ∃ n, n = numOf l x := ⟨_, rfl⟩
  rw [← hn] at hat hh hw ⊢
  clear hall hx hs hn hle
  obtain ⟨z, a, b, c⟩ := x
  have hb := (Below.refl w.heap.size w).alloc (Nat.le_refl _) (.cells #[.int .i64 z, .string a, .string b, .string c] 146)
  have hown1 := hown.alloc (.cells #[.int .i64 z, .string a, .string b, .string c] 146)
  simp only [keyS] at hk ⊢
  clear hown
  by_cases h0 : n = 0
  · have hh2 : Maps.has D kl = false := by rw [hh]; simp [h0]
    have hr : decide (n ≠ 0 ∧ tag = wideS n 16) = false := by simp [h0]
    rw [hr]
    clear hr hw hh
    go_enter Tryd.func93, Tryd.ntmps93
    go_wp2_with (first | (at_lookup; refine wpList_lookup_own_ok_int _ rfl _ _ 57 rfl 146 3 .i64 law_seal Tryd.underlying57 Tryd.underlying3 (zero_int _) m _ D rfl hown1 _ _ rfl hk ?_; intro c hat2 _; rw [hat] at hat2; cases hat2; rw [hh2]))
    go_ret
    exact ⟨rfl, hb⟩
  · have hh2 : Maps.has D kl = true := by rw [hh]; simp [h0]
    have hr : decide (n ≠ 0 ∧ tag = wideS n 16) = decide (tag = wideS n 16) := by simp [h0]
    rw [hr]
    obtain ⟨u, hu⟩ : ∃ u, u = wideS n 16 := ⟨_, rfl⟩
    simp only [← hu] at hw ⊢
    clear hr hh hu
    by_cases e : tag = u
    · subst e
      go_enter Tryd.func93, Tryd.ntmps93
      go_wp2_with (first | (at_lookup; refine wpList_lookup_own_ok_int _ rfl _ _ 57 rfl 146 3 .i64 law_seal Tryd.underlying57 Tryd.underlying3 (zero_int _) m _ D rfl hown1 _ _ rfl hk ?_; intro c hat2 _; rw [hat] at hat2; cases hat2; rw [hh2]))
      refine (hw _).mono ?_
      rintro e w1 ⟨rfl, hb1⟩
      have HB : Hid (Below w.heap.size w w1) := hb.trans (hb1.mono (by simp))
      clear hb hb1 hw
      go_wp2
      go_ret
      exact ⟨by simp, HB.out⟩
    · have ne : (tag.toList == u.toList) = false := str_ne e
      go_enter Tryd.func93, Tryd.ntmps93
      go_wp2_with (first | (at_lookup; refine wpList_lookup_own_ok_int _ rfl _ _ 57 rfl 146 3 .i64 law_seal Tryd.underlying57 Tryd.underlying3 (zero_int _) m _ D rfl hown1 _ _ rfl hk ?_; intro c hat2 _; rw [hat] at hat2; cases hat2; rw [hh2]))
      refine (hw _).mono ?_
      rintro e w1 ⟨rfl, hb1⟩
      have HB : Hid (Below w.heap.size w w1) := hb.trans (hb1.mono (by simp))
      clear hb hb1 hw
      go_wp2
      go_ret
      exact ⟨by simp [e], HB.out⟩

/-- count, whatever it is handed. -/
theorem countS_any (m : Nat) (l : List (Four)) (x : Four) (hx : fitF x) (hl : l.length ≤ 1000000) (w : World) (h : Nums keyS 146 w m l) :
    Calls Tryd.prog 95 #[.map (some m), keyS x] w fun e w' => e = .returned (.int .i64 (numOf (addN l x) x : Nat)) ∧ Nums keyS 146 w' m (addN l x) ∧ Only m w w' := by
  by_cases h0 : numOf l x = 0
  · rw [numOf_add, if_pos h0, addN_new h0]
    exact countS_new m l x hx hl h0 w h
  · rw [numOf_add, if_neg h0, addN_old h0]
    exact (countS_old m l x hx h0 w h).mono fun e w' ⟨he, hb⟩ => ⟨he, h.keep (hb.block m h.lt), Only.of_below hb⟩
end Go.Proofs.YtkopbpbmfdogfaaDoor
