/- box's tagger.take: a text more, behind whole pieces. -/
import Derived.Test.YtfmaajfohieneaaDoorMg46
namespace Go.Proofs.YtfmaajfohieneaaDoor.Bx
set_option maxRecDepth 20000
open Go.RowKit

theorem wordAt_top (l : List Nat) (hb : Bytes l) (o : Nat) (ho : o + 8 ≤ l.length) (h : l.getD (o + 7) 0 < 16) : wordAt l o < 1152921504606846976 := by
  have e : (l.drop o).take 8 = (l.drop o).take 7 ++ [l.getD (o + 7) 0] := by
    rw [List.take_succ_eq_append_getElem (by simp; omega), getD_at _ _ (by omega)]
    simp
  have h7 : ((l.drop o).take 7).length = 7 := by simp; omega
  have h1 := leN_lt ((l.drop o).take 7) ((hb.drop o).take 7)
  unfold wordAt
  rw [e, leN_append, h7]
  rw [h7] at h1
  simp only [leN]
  omega
theorem clamp_top (key : List Nat) (hb : Bytes key) : wordAt (clampL key) 0 < 1152921504606846976 ∧ wordAt (clampL key) 8 < 1152921504606846976 := by
  have hl := clampL_length key
  have hc := clampL_bytes key hb
  have g : ∀ i, i < 16 → i % 4 = 3 → (clampL key).getD i 0 < 16 := fun i hi h3 => by
    rw [List.getD_eq_getElem?_getD, clampL, List.getElem?_map, List.getElem?_range hi]
    show clampB i _ < 16
    unfold clampB
    rw [if_pos h3]
    omega
  exact ⟨wordAt_top _ hc 0 (by omega) (g 7 (by decide) (by decide)), wordAt_top _ hc 8 (by omega) (g 15 (by decide) (by decide))⟩

/-- The tagger in block B, under a key, has taken the bytes l. -/
def TagIn (w : World) (B : Nat) (key l : List Nat) : Prop := ∃ h0 h1 h2 : Nat, h0 < 18446744073709551616 ∧ h1 < 18446744073709551616 ∧ h2 ≤ 4 ∧ (h0 + h1 * 18446744073709551616 + h2 * 340282366920938463463374607431768211456) % polyP = polyN (polyR key) l ∧
  Row w B 114 (tagC (wordAt (clampL key) 0) (wordAt (clampL key) 8) (wordAt (key.drop 16) 0) (wordAt (key.drop 16) 8) h0 h1 h2)
theorem TagIn.below {w w' : World} {B : Nat} {key l : List Nat} (h : TagIn w B key l) {C : Nat} (hb : Below C w w') (hB : B < C) : TagIn w' B key l := by
  obtain ⟨h0, h1, h2, l0, l1, l2, e, hr⟩ := h
  exact ⟨h0, h1, h2, l0, l1, l2, e, hr.below hb hB⟩
theorem TagIn.only {w w' : World} {B g : Nat} {key l : List Nat} (h : TagIn w B key l) (ho : Only g w w') (hB : B ≠ g) : TagIn w' B key l := by
  obtain ⟨h0, h1, h2, l0, l1, l2, e, hr⟩ := h
  exact ⟨h0, h1, h2, l0, l1, l2, e, hr.only ho hB⟩
theorem TagIn.lt {w : World} {B : Nat} {key l : List Nat} (h : TagIn w B key l) : B < w.heap.size := by
  obtain ⟨h0, h1, h2, l0, l1, l2, e, hr⟩ := h
  exact hr.lt

/-- One piece more, laid as sixteen bytes and a bit: the piece's bytes and a byte 1 behind have that number. -/
theorem add_step (key : List Nat) (hk : Bytes key) (l m a : List Nat) (high : Nat) (hh : high ≤ 1) (hl : l.length % 16 = 0) (hm0 : 0 < m.length) (hm : m.length ≤ 16) (ha : a.length = 16) (hab : Bytes a) (hv : leN a + high * 340282366920938463463374607431768211456 = leN (m ++ [1]))
    (B g t : Nat) (w : World) (hT : TagIn w B key l) (hg : Row w g t (byV a)) :
    Calls Tryd.prog 80 #[.pointer (some ⟨B, 0, none⟩), .pointer (some ⟨g, 0, none⟩), .int .u64 high] w fun e w' => e = .returned (.tuple #[]) ∧ TagIn w' B key (l ++ m) ∧ Only B w w' := by
  obtain ⟨h0, h1, h2, l0, l1, l2, e, hr⟩ := hT
  obtain ⟨hr0, hr1⟩ := clamp_top key hk
  obtain ⟨x, y, z, lx, ly, lz, hmod, hadd⟩ := add_any _ _ (wordAt (key.drop 16) 0) (wordAt (key.drop 16) 8) h0 h1 h2 hr0 hr1 l0 l1 l2 a ha hab high hh
  refine (hadd B g t w hr hg).mono ?_
  rintro e' w' ⟨rfl, hr', ho⟩
  refine ⟨rfl, ⟨x, y, z, lx, ly, lz, ?_, hr'⟩, ho⟩
  rw [hmod, polyN_snoc _ l m (l.length / 16) (by omega) hm0 hm, polyStep, ← e, polyR, leN_words (clampL key) (clampL_length key), Nat.add_assoc _ (leN a), hv]
  rw [Nat.mul_mod, Nat.mul_mod (_ % polyP + _), Nat.mod_add_mod]

theorem piece_full (m : List Nat) (hm : m.length = 16) : leN m + 1 * 340282366920938463463374607431768211456 = leN (m ++ [1]) := by
  rw [leN_append, hm]
  simp [leN]
theorem leN_zeros (n : Nat) : leN (List.replicate n 0) = 0 := by
  induction n with
  | zero => rfl
  | succ n ih => rw [List.replicate_succ, leN, ih]
theorem piece_part (m : List Nat) (n : Nat) : leN (m ++ 1 :: List.replicate n 0) + 0 * 340282366920938463463374607431768211456 = leN (m ++ [1]) := by
  rw [leN_append, leN_append, leN, leN, leN_zeros]
  simp [leN]

theorem extract_extract (s : ByteArray) (p q : Nat) : (s.extract p s.size).extract q (s.extract p s.size).size = s.extract (p + q) s.size := by
  rw [ByteArray.extract_extract]
  congr 1
  simp
  omega

set_option maxRecDepth 10000 in
set_option maxHeartbeats 1000000 in
theorem take_any (key : List Nat) (hk : Bytes key) (B : Nat) (l : List Nat) (hl : l.length % 16 = 0) (s : ByteArray) (w : World) (hT : TagIn w B key l) :
    Calls Tryd.prog 79 #[.pointer (some ⟨B, 0, none⟩), .string s] w fun e w' => e = .returned (.tuple #[]) ∧ TagIn w' B key (l ++ numsOf s) ∧ Only B w w' := by
  have HT : Hid (TagIn w B key l) := hT
  clear hT
  go_enter Tryd.func79, Tryd.ntmps79
  go_wp2_with fail
  go_loopw [1] (fun v wr => ∃ p : Nat, p % 16 = 0 ∧ p ≤ s.size ∧ v = .string (s.extract p s.size) ∧ TagIn wr B key (l ++ (numsOf s).take p) ∧ Only B w wr) (fun v _ => strSize v)
  case atStart => exact ⟨0, rfl, Nat.zero_le _, by simp, by simpa using HT.out, Only.refl _ _⟩
  case round =>
    clear HT
    obtain ⟨p, hp, hps, rfl, hT, ho⟩ := hrel
    obtain ⟨u, hu⟩ : ∃ u, u = s.extract p s.size := ⟨_, rfl⟩
    have hus : u.size = s.size - p := by rw [hu]; simp
    have hun : numsOf u = (numsOf s).drop p := by rw [hu, numsOf_extract, List.take_of_length_le (by simp [numsOf_length])]
    have hlp : (l ++ (numsOf s).take p).length % 16 = 0 := by rw [List.length_append, List.length_take, numsOf_length]; omega
    have hub := numsOf_bytes u
    have hul := numsOf_length u
    have hBlt := hT.lt
    rw [← hu]
    obtain ⟨w0, hw0⟩ : ∃ w0, wr.alloc (.cells #[.int .u8 0, .int .u8 0, .int .u8 0, .int .u8 0, .int .u8 0, .int .u8 0, .int .u8 0, .int .u8 0, .int .u8 0, .int .u8 0, .int .u8 0, .int .u8 0, .int .u8 0, .int .u8 0, .int .u8 0, .int .u8 0] 127) = w0 := ⟨_, rfl⟩
    have a1 : Row w0 wr.heap.size 127 (byV (List.replicate 16 0)) := by
      rw [← hw0]
      have := heap_alloc_new wr (.cells #[.int .u8 0, .int .u8 0, .int .u8 0, .int .u8 0, .int .u8 0, .int .u8 0, .int .u8 0, .int .u8 0, .int .u8 0, .int .u8 0, .int .u8 0, .int .u8 0, .int .u8 0, .int .u8 0, .int .u8 0, .int .u8 0] 127)
      simpa [Row, byV] using this
    have ab : Below wr.heap.size wr w0 := by rw [← hw0]; exact (Below.refl _ _).alloc (Nat.le_refl _) _
    obtain ⟨w1, hcp1, b1, o1⟩ := copy_row w0 wr.heap.size 127 16 _ rfl a1 u
    have hB1 : Below wr.heap.size wr w1 := ab.trans (o1.below (Nat.le_of_lt a1.lt))
    have hT1 : TagIn w1 B key (l ++ (numsOf s).take p) := hT.below hB1 hBlt
    have ho1 : Only B w w1 := ho.trans (Only.of_below hB1)
    have HT0 : Hid (TagIn wr B key (l ++ (numsOf s).take p) ∧ Only B w wr) := ⟨hT, ho⟩
    clear ab o1 a1 hT ho
    by_cases h16 : p + 16 ≤ s.size
    · have hx := extract_extract s p 16
      rw [← hu] at hx
      rw [show min u.size 16 = 16 by omega, show List.drop 16 (byV (List.replicate 16 0)) = [] from rfl, List.append_nil] at b1
      rw [show min u.size 16 = 16 by omega] at hcp1
      have hm : ((numsOf u).take 16).length = 16 := by rw [List.length_take]; omega
      have HA := add_step key hk _ ((numsOf u).take 16) _ 1 (by decide) hlp (by omega) (by omega) hm (hub.take 16) (piece_full _ hm) B wr.heap.size _ w1 hT1 b1
      have e : l ++ (numsOf s).take p ++ (numsOf u).take 16 = l ++ (numsOf s).take (p + 16) := by rw [hun, List.append_assoc, List.take_add]
      rw [e] at HA
      have c1 : (16 : Int) ≤ u.size := by omega
      have HX : Hid (u.extract 16 u.size = s.extract (p + 16) s.size ∧ u.size = s.size - p ∧ Only B w w1) := ⟨hx, hus, ho1⟩
      clear hx hus ho1 hu hun hlp hub hul hm e b1 hT1 hBlt hB1 HT0
      go_wp2_with fail
      refine HA.mono ?_
      rintro e w2 ⟨rfl, hT2, ho2⟩
      clear HA hcp1 hw0
      go_wp2
      go_roundw
      case rel => exact ⟨p + 16, by omega, h16, by rw [HX.out.1], hT2, HX.out.2.2.trans ho2⟩
      case measure => simp [strSize]; have := HX.out.2.1; omega
    · have hmin : min u.size 16 = u.size := by omega
      rw [hmin] at hcp1 b1
      have c1 : ¬ (16 : Int) ≤ u.size := by omega
      by_cases h0 : u.size = 0
      · have c2 : ¬ (0 : Int) < u.size := by omega
        have e : (numsOf s).take p = numsOf s := List.take_of_length_le (by rw [numsOf_length]; omega)
        rw [e] at HT0
        clear hcp1 b1 hT1 ho1 hw0 hlp hub hul hun hu hB1
        go_wp2_with fail
        go_end0
        exact ⟨rfl, HT0.out⟩
      · have c2 : (0 : Int) < u.size := by omega
        have c3 : (u.size : Int) < 16 := by omega
        have hn : (numsOf u).take 16 = numsOf u := List.take_of_length_le (by omega)
        have hz : List.drop u.size (byV (List.replicate 16 0)) = Value.int .u8 0 :: byV (List.replicate (15 - u.size) 0) := by
          rw [byV_zeros, byV_zeros, List.drop_replicate, show 16 - u.size = (15 - u.size) + 1 by omega, List.replicate_succ]
        rw [hn, hz] at b1
        have b2 : Row w1 wr.heap.size 127 (byV (numsOf u) ++ [.int .u8 0] ++ byV (List.replicate (15 - u.size) 0)) := by simpa using b1
        have d1 : w1.cell? ⟨wr.heap.size, u.size, none⟩ = some (.int .u8 0) := by
          rw [b2.cell, List.append_assoc, List.getElem?_append_right (by simp [byV, hul]), show u.size - (byV (numsOf u)).length = 0 by simp [byV, hul]]
          rfl
        have d2 : w1.frozen? ⟨wr.heap.size, u.size, none⟩ = false := b2.frozen _
        have b3 := b2.set (n := u.size) (.int .u8 1) (by simp [byV, hul])
        have b4 : Row (w1.setCell ⟨wr.heap.size, u.size, none⟩ (.int .u8 1)) wr.heap.size 127 (byV (numsOf u ++ 1 :: List.replicate (15 - u.size) 0)) := by
          rw [byV_append]
          simpa [byV] using b3
        have o3 : Only wr.heap.size w1 (w1.setCell ⟨wr.heap.size, u.size, none⟩ (.int .u8 1)) := (Only.refl _ _).setCell _ _
        have hT3 := hT1.only o3 (by omega)
        have hB3 : Only B w (w1.setCell ⟨wr.heap.size, u.size, none⟩ (.int .u8 1)) := HT0.out.2.trans (Only.of_below (hB1.setCell (p := ⟨wr.heap.size, u.size, none⟩) (Nat.le_refl _) _))
        have HA := add_step key hk _ (numsOf u) _ 0 (by decide) hlp (by omega) (by omega) (by rw [List.length_append, List.length_cons, List.length_replicate]; omega) (hub.append (Bytes.cons (by decide) (Bytes.zeros _))) (piece_part _ _) B wr.heap.size _ _ hT3 b4
        have e : l ++ (numsOf s).take p ++ numsOf u = l ++ numsOf s := by rw [hun, List.append_assoc, List.take_append_drop]
        rw [e] at HA
        have HO : Hid (Only B w (w1.setCell ⟨wr.heap.size, u.size, none⟩ (.int .u8 1))) := hB3
        clear hB3 hT3 o3 b4 b3 b2 b1 hn hz e hT1 ho1 HT0 hB1 hlp hub hul hun hu hus
        go_wp2_with fail
        refine HA.mono ?_
        rintro e w2 ⟨rfl, hT2, ho2⟩
        clear HA hcp1 hw0 d1 d2
        go_wp2_with fail
        go_end0
        exact ⟨rfl, hT2, HO.out.trans ho2⟩
end Go.Proofs.YtfmaajfohieneaaDoor.Bx
