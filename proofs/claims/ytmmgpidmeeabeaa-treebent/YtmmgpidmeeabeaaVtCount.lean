/- Counting: the number of a thing, the next one, if it comes first; and whether a tag is the number of a thing that came ahead. -/
import Derived.Test.YtmmgpidmeeabeaaVtKeys
namespace Go.Proofs.Ytmmgpidmeeabeaa
set_option maxRecDepth 20000
open Go.RowKit Go.Maps

theorem str_ne {a b : ByteArray} (h : a ≠ b) : (a.toList == b.toList) = false := beq_false_of_ne fun e => h (ByteArray.ext (Array.toList_inj.1 (by rw [← ByteArray.toList_eq, ← ByteArray.toList_eq]; exact e)))

set_option maxHeartbeats 1000000 in
theorem countT_old (m : Nat) (l : List (ByteArray)) (x : ByteArray) (hx : fitT x) (h0 : ¬ numOf l x = 0) (w : World) (h : Nums keyT 109 w m l) :
    Calls Try.prog 67 #[.map (some m), keyT x] w fun e w' => e = .returned (.int .i64 (numOf l x : Nat)) ∧ Below w.heap.size w w' := by
  obtain ⟨kl, hk⟩ := key_text hx
  obtain ⟨D, hown, hs, hall⟩ := h
  obtain ⟨hh, hat⟩ := hall x kl hk
  have hh2 : Maps.has D kl = true := by rw [hh]; simp [h0]
  obtain ⟨n, hn⟩ : ∃ n, n = numOf l x := ⟨_, rfl⟩
  rw [← hn] at hat ⊢
  clear hall hx hs hh h0 hn
  have hb := (Below.refl w.heap.size w).alloc (Nat.le_refl _) (.cells #[.string x] 109)
  have hown1 := hown.alloc (.cells #[.string x] 109)
  simp only [keyT] at hk ⊢
  clear hown
  go_enter Try.func67, Try.ntmps67
  go_wp2_with (first | (at_lookup; refine wpList_lookup_own_ok_int _ rfl _ _ 64 rfl 109 3 .i64 law_text Try.underlying64 Try.underlying3 (zero_int _) m _ D rfl hown1 _ _ rfl hk ?_; intro c hat2 _; rw [hat] at hat2; cases hat2; rw [hh2]))
  go_ret
  exact ⟨rfl, hb⟩

set_option maxRecDepth 10000 in
set_option maxHeartbeats 1000000 in
theorem countT_new (m : Nat) (l : List (ByteArray)) (x : ByteArray) (hx : fitT x) (hl : l.length ≤ 1000000) (h0 : numOf l x = 0) (w : World) (h : Nums keyT 109 w m l) :
    Calls Try.prog 67 #[.map (some m), keyT x] w fun e w' => e = .returned (.int .i64 (l.length + 1 : Nat)) ∧ Nums keyT 109 w' m (l ++ [x]) ∧ Only m w w' := by
  obtain ⟨kl, hk⟩ := key_text hx
  obtain ⟨D, hown, hs, hall⟩ := h
  obtain ⟨hh, hat⟩ := hall x kl hk
  have hh2 : Maps.has D kl = false := by rw [hh]; simp [h0]
  rw [h0] at hat
  have HP : Hid _ := nums_put (n := l.length + 1) law_text keyT_inj hown.isMap (hown.tidy law_text) hs h0 hk rfl hall
  have hmw := hown.lt
  suffices HS : Calls Try.prog 67 #[.map (some m), keyT x] w fun e w' => e = .returned (.int .i64 (l.length + 1 : Nat)) ∧ w'.ownsMap Try.prog 109 (plainElem Try.prog 3) m (l.length + 1) (D.put kl (.lit (.int .i64 ((l.length : Int) + 1)))) ∧ Only m w w' by
    exact HS.mono fun e w' ⟨h1, h2, h3⟩ => ⟨h1, ⟨_, by rw [List.length_append]; exact h2, HP.out.1, HP.out.2⟩, h3⟩
  clear hall hh h0 HP
  have hcl := fun W => cloneT_any x hx W
  have hb := (Below.refl w.heap.size w).alloc (Nat.le_refl _) (.cells #[.string x] 109)
  have hown1 := hown.alloc (.cells #[.string x] 109)
  have hm : ∀ w : World, (method 223 109 (.agg #[.string x]) "grapnel/vault.clone").run Try.prog w = .ok (72, .agg #[.string x]) w := fun _ => by kernel_rfl
  simp only [keyT] at hk hcl ⊢
  clear hown hx
  go_enter Try.func67, Try.ntmps67
  go_wp2_with (first | (at_lookup; refine wpList_lookup_own_ok_int _ rfl _ _ 64 rfl 109 3 .i64 law_text Try.underlying64 Try.underlying3 (zero_int _) m _ D rfl hown1 _ _ rfl hk ?_; intro c hat2 _; rw [hat] at hat2; cases hat2; rw [hh2]) | (at_len; refine wpList_len_own _ rfl _ 64 rfl 109 3 Try.underlying64 _ m _ D rfl hown1 ?_; rw [hs]))
  refine (hcl _).mono ?_
  rintro e w1 ⟨rfl, hb1⟩
  have hown2 := owns_at hown1 (hb1.block m (by simp; omega))
  have hO := Only.of_below (b := m) (hb.trans (hb1.mono (by simp)))
  clear hown1 hb hb1 hcl
  go_wp2_with (first | (at_mapUpdate; refine wpList_mapUpdate_own _ rfl _ _ _ 64 rfl 109 3 law_text Try.underlying64 _ m l.length D rfl hown2 (by unfold maxLen; omega) _ _ kl rfl rfl hk _ [] (plainElem_int Try.underlying3 (WalkArith.wf_i64 (by omega))) ?_; intro w2 hown3 hgrow3))
  have HN : Hid _ := hown3
  have HO := hO.trans (Only.of_grown hgrow3)
  go_ret
  exact ⟨by go_num, HN.out, HO⟩

/-- count, whatever it is handed. -/
theorem countT_any (m : Nat) (l : List (ByteArray)) (x : ByteArray) (hx : fitT x) (hl : l.length ≤ 1000000) (w : World) (h : Nums keyT 109 w m l) :
    Calls Try.prog 67 #[.map (some m), keyT x] w fun e w' => e = .returned (.int .i64 (numOf (addN l x) x : Nat)) ∧ Nums keyT 109 w' m (addN l x) ∧ Only m w w' := by
  by_cases h0 : numOf l x = 0
  · rw [numOf_add, if_pos h0, addN_new h0]
    exact countT_new m l x hx hl h0 w h
  · rw [numOf_add, if_neg h0, addN_old h0]
    exact (countT_old m l x hx h0 w h).mono fun e w' ⟨he, hb⟩ => ⟨he, h.keep (hb.block m h.lt), Only.of_below hb⟩

end Go.Proofs.Ytmmgpidmeeabeaa
