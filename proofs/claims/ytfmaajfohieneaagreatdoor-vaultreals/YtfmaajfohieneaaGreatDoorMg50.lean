/- The document's stream. · The document's mark. -/
import Derived.Test.YtfmaajfohieneaaGreatDoorBxRefBlock
import Derived.Test.YtfmaajfohieneaaGreatDoorBxRefTag
import Derived.Test.YtfmaajfohieneaaGreatDoorBxBoxSeal
import Derived.Deep.RegionHeld3
namespace Go.Proofs.YtfmaajfohieneaaGreatDoor.Bx
set_option maxRecDepth 20000
open Go.RowKit

theorem ownsRow_below {w w' : World} {base : Nat} {e : TypeId} {size : Nat} {v : Value} {n : Nat} {xs : List Value} (hb : Below w.heap.size w w') (h : w.ownsRow base e size v n xs) : w'.ownsRow base e size v n xs := by
  obtain ⟨h1, h2⟩ := h
  refine ⟨h1, ?_⟩
  rcases h2 with h2 | ⟨g, cap, cur, hv, hg, hh, r⟩
  · exact .inl h2
  · exact .inr ⟨g, cap, cur, hv, hg, by rw [hb.block g (lt_of_block hh)]; exact hh, r⟩
theorem rStream_bad (key nonce s : ByteArray) (at_ : Int) (h : ¬ (key.size = 32 ∧ nonce.size = 12)) (w : World) :
    Calls Tryz.prog 51 #[.string key, .string nonce, .int .i64 at_, .string s] w fun e w' => e = .returned (.tuple #[.string ⟨#[]⟩, .int .i64 1]) ∧ w' = w := by
  by_cases h1 : key.size = 32
  · have h2 : ¬ nonce.size = 12 := fun hh => h ⟨h1, hh⟩
    have h3 : ¬ (nonce.size : Int) = 12 := by omega
    clear h
    go_enter Tryz.func51, Tryz.ntmps51
    go_wp2
    go_ret2
    exact ⟨rfl, rfl⟩
  · have h3 : ¬ (key.size : Int) = 32 := by omega
    clear h
    go_enter Tryz.func51, Tryz.ntmps51
    go_wp2
    go_ret2
    exact ⟨rfl, rfl⟩
set_option maxRecDepth 10000 in
set_option maxHeartbeats 1000000 in
theorem rStream_range (key nonce s : ByteArray) (hk : key.size = 32) (hn : nonce.size = 12) (hs : s.size ≤ 1048576) (at_ : Int) (h : strmB at_ s.size) (w : World) :
    Calls Tryz.prog 51 #[.string key, .string nonce, .int .i64 at_, .string s] w fun e w' => e = .returned (.tuple #[.string ⟨#[]⟩, .int .i64 2]) ∧ w' = w := by
  by_cases h1 : at_ < 0
  · clear h
    go_enter Tryz.func51, Tryz.ntmps51
    go_wp2
    go_ret2
    exact ⟨rfl, rfl⟩
  · by_cases h2 : 4294967295 < at_
    · clear h
      go_enter Tryz.func51, Tryz.ntmps51
      go_wp2
      go_ret2
      exact ⟨rfl, rfl⟩
    · obtain ⟨a, rfl⟩ : ∃ a : Nat, at_ = a := ⟨at_.toNat, by omega⟩
      have h3 : (4294967296 : Int) - a < ((s.size + 63) / 64 : Nat) := by
        rcases h with h | h | h
        · omega
        · omega
        · exact h
      have h4 : (4294967296 : Int) - a < ((s.size : Int) + 63) / 64 := by omega
      have ha : (a : Int) ≤ 4294967295 := by omega
      clear h h3
      go_enter Tryz.func51, Tryz.ntmps51
      go_wp2
      go_ret2
      exact ⟨rfl, rfl⟩

/-- The block at hand before byte j. -/
def keyAt (K N : List Nat) (a j : Nat) : Value := .string (strN (chaL K N (a + j / 64)))
theorem chaS_at (K N : List Nat) (a : Nat) (l : List Nat) (j : Nat) (h : j < l.length) : (chaS K N a l).getD j 0 = l.getD j 0 ^^^ (chaL K N (a + j / 64)).getD (j % 64) 0 := by
  rw [List.getD_eq_getElem?_getD, chaS, List.getElem?_map, List.getElem?_range h]
  rfl
theorem chaL_bytes (K N : List Nat) (n : Nat) : Bytes (chaL K N n) := blkL_bytes _

set_option maxRecDepth 10000 in
set_option maxHeartbeats 1000000 in
theorem rStream_ok (key nonce s : ByteArray) (hk : key.size = 32) (hn : nonce.size = 12) (hs : s.size ≤ 1048576) (a : Nat) (h : ¬ strmB a s.size) (w : World) :
    Calls Tryz.prog 51 #[.string key, .string nonce, .int .i64 a, .string s] w fun e w' => e = .returned (.tuple #[.string (strN (chaS (numsOf key) (numsOf nonce) a (numsOf s))), .int .i64 0]) ∧ Below w.heap.size w w' := by
  obtain ⟨i1, hj, hy0, hy1, hy2⟩ := info_parts info_u8
  have ha : (a : Int) ≤ 4294967295 := by unfold strmB at h; omega
  have h1 : ¬ (a : Int) < 0 := by omega
  have h2 : ¬ (4294967295 : Int) < a := by omega
  have h3 : a + (s.size + 63) / 64 ≤ 4294967296 := by unfold strmB at h; omega
  have h4 : ¬ (4294967296 : Int) - a < ((s.size : Int) + 63) / 64 := by omega
  have HBL : Hid (∀ n : Nat, n < 4294967296 → ∀ w, Calls Tryz.prog 56 #[.string key, .string nonce, .int .i64 n] w fun e w' => e = .returned (.string (strN (chaL (numsOf key) (numsOf nonce) n))) ∧ Below w.heap.size w w') := fun n hn' w => rBlock_any key nonce hk hn n hn' w
  have HTV : Hid (∀ j, j < s.size → (chaS (numsOf key) (numsOf nonce) a (numsOf s)).getD j 0 = (numsOf s).getD j 0 ^^^ (chaL (numsOf key) (numsOf nonce) (a + j / 64)).getD (j % 64) 0) := fun j hj => chaS_at _ _ _ _ j (by rw [numsOf_length]; exact hj)
  have HTL : Hid ((chaS (numsOf key) (numsOf nonce) a (numsOf s)).length = s.size) := by show _ = _; rw [chaS_length, numsOf_length]
  have H3 : Hid (a + (s.size + 63) / 64 ≤ 4294967296) := h3
  generalize numsOf key = K at *
  generalize numsOf nonce = N at *
  generalize chaS K N a (numsOf s) = T at *
  clear h h3
  go_enter Tryz.func51, Tryz.ntmps51
  go_wp2_with fail
  go_loopw [10, 11, 12] (fun v kv i wz => ∃ j : Nat, j ≤ s.size ∧ i = .int .i64 j ∧ wz.ownsRow w.heap.size 5 1 v j (byV (T.take j)) ∧ Below w.heap.size w wz ∧ (j = 0 → v = .slice none 0 0) ∧ (j ≠ 0 → kv = keyAt K N a (j - 1))) (fun _ _ i _ => s.size - (intOf i).toNat)
  case atStart => exact ⟨0, Nat.zero_le _, rfl, World.ownsRow_nil _ _ _ _, Below.refl _ _, fun _ => rfl, fun h => absurd rfl h⟩
  case round =>
    obtain ⟨j, hjs, rfl, hown, hb, hz, hkv⟩ := hrel
    by_cases hlt : j < s.size
    · have hlti : (j : Int) < s.size := by omega
      have HBN : Hid (numsOf (strN (chaL K N (a + j / 64))) = chaL K N (a + j / 64)) := numsOf_strN _ (chaL_bytes _ _ _)
      have HBS : Hid ((strN (chaL K N (a + j / 64))).size = 64) := by show _ = _; rw [strN_size, chaL_length]
      have HNX : Hid (Value.string (strN (chaL K N (a + j / 64))) = keyAt K N a (j + 1 - 1)) := rfl
      have HTJ : Hid (T.getD j 0 = (numsOf s).getD j 0 ^^^ (chaL K N (a + j / 64)).getD (j % 64) 0) := HTV.out j hlt
      clear HTV
      by_cases hr : j % 64 = 0
      · have hri : (j : Int) % 64 = 0 := by omega
        have hbl := HBL.out (a + j / 64) (by have := H3.out; omega)
        have hai : IntKind.i64.wrap ((a : Int) + (j : Int) / 64) = ((a + j / 64 : Nat) : Int) := by rw [IntKind.wrap_i64]; omega
        have HHB : Hid (wr.ownsRow w.heap.size 5 1 u10 j (byV (T.take j)) ∧ Below w.heap.size w wr) := ⟨hown, hb⟩
        have HR : Hid (j % 64 = 0) := hr
        clear hown hb hz hkv HBL hr
        generalize strN (chaL K N (a + j / 64)) = B at *
        generalize a + j / 64 = m at *
        · go_wp2_with fail
          refine (hbl _).mono ?_
          rintro e wq ⟨rfl, hbq⟩
          have hown : wq.ownsRow w.heap.size 5 1 u10 j (byV (T.take j)) := ownsRow_below hbq HHB.out.1
          have hb := HHB.out.2.trans (hbq.mono HHB.out.2.size)
          clear hbl hbq HHB hai
          have b0 : 0 < B.size := by rw [HBS.out]; omega
          have i0' : ((0 : Nat) : Int) < B.size := by rw [HBS.out]; omega
          have vx := u8_xor_nat s[j].toNat (B[0]'b0).toNat s[j].toNat_lt (B[0]'b0).toNat_lt
          have HV : Hid (s[j].toNat ^^^ (B[0]'b0).toNat = T.getD j 0) := by
            show _ = _
            rw [HTJ.out, ← nums_at s j hlt, ← nums_at B 0 b0, HBN.out, HR.out]
          generalize s[j].toNat ^^^ (B[0]'b0).toNat = v at *
          have HB : Hid (byV (T.take (j + 1)) = byV (T.take j) ++ [.int .u8 (v : Nat)]) := by
            show _ = _
            rw [List.take_succ_eq_append_getElem (by have := HTL.out; omega), byV_append, HV.out, getD_at _ _ (by have := HTL.out; omega)]
            rfl
          have HO : Hid (∀ o, ((wq.alloc o).drew).ownsRow w.heap.size 5 1 u10 j (byV (T.take j)) ∧ Below w.heap.size w ((wq.alloc o).drew)) := fun o => ⟨(hown.alloc o).drew, (hb.alloc hb.size o).drew⟩
          have HNE : Hid (∀ g', u10.ownBlock = some g' → w.heap.size ≤ g') := fun g' hg' => (hown.lt g' hg').1
          clear hown hb HTJ HV
          have htm : (j : Int).tmod 64 = 0 := by rw [Int.tmod_eq_emod_of_nonneg (by omega)]; exact hri
          have n1 : (0 : Int) < B.size := by rw [HBS.out]; decide
          have n2 : 0 < B.size := by rw [HBS.out]; decide
          go_wp2_with fail
          go_region_held3 (fun _ => True) (simp [go_sem, *]) (first | (refine step_append_lies _ rfl _ _ 71 rfl _ 5 i1 (.int .u8 0) 1 1 Tryz.underlying71 hj hy0 hy1 hy2 rfl (by decide) u10 j _ rfl (HO.out _).1 ⟨wq.heap.size, 0, none⟩ 1 1 [.int .u8 (v : Nat)] rfl rfl (World.news_of_block (heap_alloc_new wq _)) (by intro u hu; rw [List.mem_singleton] at hu; rw [hu]; rfl) (by decide) (by unfold maxLen; omega) (by omega) (HO.out _).2.size _ rfl ?_; intro g1 cap1 w1 hown1 hgrow1 hat1 hlt1))
          all_goals
            have hb2 := (HO.out _).2.grown hgrow1 (HO.out _).2.size (fun g hg => HNE.out g hg)
            have hown2 := HB.out ▸ hown1
            have HF : Hid (_ ∧ _) := ⟨hown2, hb2⟩
            clear hown1 hown2 hgrow1 hat1 hlt1 hb2
            go_wp2
            go_roundw
            case rel => exact ⟨j + 1, by omega, by go_num, HF.out.1, HF.out.2, fun h => by omega, fun h => HNX.out⟩
            case measure => simp [intOf]; omega

      · obtain ⟨r, hrr⟩ : ∃ r, r = j % 64 := ⟨_, rfl⟩
        have hri : (j : Int) % 64 = (r : Int) := by omega
        have hr64 : r < 64 := by omega
        have hr0 : ¬ (r : Int) = 0 := by omega
        have hr0' : ¬ r = 0 := by omega
        have hkv' := hkv (by omega)
        have hd : (j - 1) / 64 = j / 64 := by omega
        rw [keyAt, hd] at hkv'
        have HR : Hid (r = j % 64) := hrr
        clear hz hkv HBL hr hd hrr
        generalize strN (chaL K N (a + j / 64)) = B at *
        generalize a + j / 64 = m at *
        subst hkv'
        obtain ⟨wq, hwq⟩ : ∃ v, v = wr := ⟨_, rfl⟩
        subst hwq
        · skip
          have b0 : r < B.size := by rw [HBS.out]; omega
          have i0' : ((r : Nat) : Int) < B.size := by rw [HBS.out]; omega
          have vx := u8_xor_nat s[j].toNat (B[r]'b0).toNat s[j].toNat_lt (B[r]'b0).toNat_lt
          have HV : Hid (s[j].toNat ^^^ (B[r]'b0).toNat = T.getD j 0) := by
            show _ = _
            rw [HTJ.out, ← nums_at s j hlt, ← nums_at B r b0, HBN.out, HR.out]
          generalize s[j].toNat ^^^ (B[r]'b0).toNat = v at *
          have HB : Hid (byV (T.take (j + 1)) = byV (T.take j) ++ [.int .u8 (v : Nat)]) := by
            show _ = _
            rw [List.take_succ_eq_append_getElem (by have := HTL.out; omega), byV_append, HV.out, getD_at _ _ (by have := HTL.out; omega)]
            rfl
          have HO : Hid (∀ o, ((wq.alloc o).drew).ownsRow w.heap.size 5 1 u10 j (byV (T.take j)) ∧ Below w.heap.size w ((wq.alloc o).drew)) := fun o => ⟨(hown.alloc o).drew, (hb.alloc hb.size o).drew⟩
          have HNE : Hid (∀ g', u10.ownBlock = some g' → w.heap.size ≤ g') := fun g' hg' => (hown.lt g' hg').1
          clear hown hb HTJ HV
          have htm : (j : Int).tmod 64 = (r : Int) := by rw [Int.tmod_eq_emod_of_nonneg (by omega)]; exact hri
          go_wp2_with fail
          go_region_held3 (fun _ => True) (simp [go_sem, *]) (first | (refine step_append_lies _ rfl _ _ 71 rfl _ 5 i1 (.int .u8 0) 1 1 Tryz.underlying71 hj hy0 hy1 hy2 rfl (by decide) u10 j _ rfl (HO.out _).1 ⟨wq.heap.size, 0, none⟩ 1 1 [.int .u8 (v : Nat)] rfl rfl (World.news_of_block (heap_alloc_new wq _)) (by intro u hu; rw [List.mem_singleton] at hu; rw [hu]; rfl) (by decide) (by unfold maxLen; omega) (by omega) (HO.out _).2.size _ rfl ?_; intro g1 cap1 w1 hown1 hgrow1 hat1 hlt1))
          all_goals
            have hb2 := (HO.out _).2.grown hgrow1 (HO.out _).2.size (fun g hg => HNE.out g hg)
            have hown2 := HB.out ▸ hown1
            have HF : Hid (_ ∧ _) := ⟨hown2, hb2⟩
            clear hown1 hown2 hgrow1 hat1 hlt1 hb2
            go_wp2
            go_roundw
            case rel => exact ⟨j + 1, by omega, by go_num, HF.out.1, HF.out.2, fun h => by omega, fun h => HNX.out⟩
            case measure => simp [intOf]; omega

    · obtain rfl : j = s.size := by omega
      clear HBL HTV
      rw [List.take_of_length_le (by have := HTL.out; omega)] at hown
      have HF : Hid (Below w.heap.size w wr) := hb
      by_cases h0 : s.size = 0
      · obtain rfl := hz h0
        have hT : strN T = ⟨#[]⟩ := by
          obtain rfl : T = [] := List.eq_nil_of_length_eq_zero (by have := HTL.out; omega)
          rfl
        have hcv := fun W => run_convert_bytes_nil (P := Tryz.prog) W 71 5 Tryz.underlying71 Tryz.underlying5 0 0 9 Tryz.underlying9
        clear hown hb hz hkv
        have HT : Hid (strN T = ⟨#[]⟩) := hT
        clear hT
        go_wp2
        first
          | (rw [hcv]; go_wp2)
          | skip
        go_ret2
        exact ⟨by rw [HT.out]; rfl, HF.out⟩
      · obtain ⟨g, cap, rfl, _, _⟩ := hown.form (by omega)
        have hcv := run_convert_bytes_arg (P := Tryz.prog) wr 71 5 Tryz.underlying71 Tryz.underlying5 g 0 s.size cap (T.map fun (x : Nat) => (x : Int)) (by simp; exact HTL.out) (fun i hi => by
          have hl := HTL.out
          rw [Nat.zero_add, hown.cellAt i (by omega), byV_get _ _ (by omega), getD_at _ _ (by omega)]
          rw [List.getD_eq_getElem?_getD, List.getElem?_map, List.getElem?_eq_getElem (by omega)]; rfl) 9 Tryz.underlying9
        rw [show strOfNums (T.map fun (x : Nat) => (x : Int)) = strN T from rfl] at hcv
        clear hown hb hz hkv
        go_wp2
        first
          | (rw [hcv]; go_wp2)
          | skip
        go_ret2
        exact ⟨rfl, HF.out⟩

theorem rStream_any (key nonce s : ByteArray) (hs : s.size ≤ 1048576) (at_ : Int) (w : World) :
    Calls Tryz.prog 51 #[.string key, .string nonce, .int .i64 at_, .string s] w fun e w' => e = .returned (.tuple #[.string (strmS key nonce at_ s), .int .i64 (strmE key nonce at_ s : Nat)]) ∧ Below w.heap.size w w' := by
  by_cases h : key.size = 32 ∧ nonce.size = 12
  · by_cases hb : strmB at_ s.size
    · have e : strmE key nonce at_ s = 2 := by unfold strmE; rw [if_neg (fun hh => hh h), if_pos hb]
      unfold strmS
      rw [e, if_neg (by decide)]
      refine (rStream_range key nonce s h.1 h.2 hs at_ hb w).mono ?_
      rintro e w' ⟨rfl, rfl⟩
      exact ⟨rfl, Below.refl _ _⟩
    · have e : strmE key nonce at_ s = 0 := by unfold strmE; rw [if_neg (fun hh => hh h), if_neg hb]
      unfold strmS
      rw [e, if_pos rfl]
      obtain ⟨a, rfl⟩ : ∃ a : Nat, at_ = a := ⟨at_.toNat, by unfold strmB at hb; omega⟩
      exact rStream_ok key nonce s h.1 h.2 hs a hb w
  · have e : strmE key nonce at_ s = 1 := by unfold strmE; rw [if_pos h]
    unfold strmS
    rw [e, if_neg (by decide)]
    refine (rStream_bad key nonce s at_ h w).mono ?_
    rintro e w' ⟨rfl, rfl⟩
    exact ⟨rfl, Below.refl _ _⟩
end Go.Proofs.YtfmaajfohieneaaGreatDoor.Bx

namespace Go.Proofs.YtfmaajfohieneaaGreatDoor.Bx
set_option maxRecDepth 20000
open Go.RowKit

theorem numsOf_add (a b : ByteArray) : numsOf (a ++ b) = numsOf a ++ numsOf b := by simp [numsOf, ByteArray.data_append]

set_option maxRecDepth 10000 in
set_option maxHeartbeats 4000000 in
theorem rmark_any (key nonce ad c : ByteArray) (hk : key.size = 32) (hn : nonce.size = 12) (had : ad.size ≤ 1048576) (hc : c.size ≤ 1048576) (w : World) :
    Calls Tryz.prog 52 #[.string key, .string nonce, .string ad, .string c] w fun e w' => e = .returned (.string (strN (sealG key nonce ad (numsOf c)))) ∧ Below w.heap.size w w' := by
  have hB := fun W => rBlock_any key nonce hk hn 0 (by decide) W
  have hBl : (chaL (numsOf key) (numsOf nonce) 0).length = 64 := chaL_length _ _ _
  have hBb : Bytes (chaL (numsOf key) (numsOf nonce) 0) := chaL_bytes _ _ _
  have hG : sealG key nonce ad (numsOf c) = polyT ((chaL (numsOf key) (numsOf nonce) 0).take 32) (fill16 (numsOf ad) ++ fill16 (numsOf c) ++ (leB 8 ad.size ++ leB 8 c.size)) := by
    rw [sealG, sealT, sealM, numsOf_length, numsOf_length]
  rw [hG]
  clear hG
  generalize chaL (numsOf key) (numsOf nonce) 0 = BL at *
  have hBs : (strN BL).size = 64 := by rw [strN_size]; exact hBl
  have hKn : numsOf ((strN BL).extract 0 32) = BL.take 32 := by rw [numsOf_extract, numsOf_strN _ hBb]; rfl
  have hKs : ((strN BL).extract 0 32).size = 32 := by simp; omega
  obtain ⟨E, hEe⟩ : ∃ E : ByteArray → ByteArray, E = fun s => strN (fill16 (numsOf s)) := ⟨_, rfl⟩
  obtain ⟨L, hLe⟩ : ∃ L : Nat → ByteArray, L = fun n => strN (leB 8 n) := ⟨_, rfl⟩
  have hE : ∀ s : ByteArray, s.size ≤ 1048576 → ∀ W, Calls Tryz.prog 58 #[.string s] W fun e w' => e = .returned (.string (E s)) ∧ Below W.heap.size W w' := fun s hs W => by
    rw [hEe]
    exact (reven_any s hs W).mono fun e w' ⟨h, h2⟩ => ⟨h, by rw [h2]; exact Below.refl _ _⟩
  have hL : ∀ n : Nat, n ≤ 1048576 → ∀ W, Calls Tryz.prog 59 #[.int .i64 n] W fun e w' => e = .returned (.string (L n)) ∧ Below W.heap.size W w' := fun n hn W => by
    rw [hLe]
    exact rlong_any n (by omega) W
  have z1 : (E ad).size ≤ 1048592 := by rw [hEe]; show (strN (fill16 (numsOf ad))).size ≤ _; rw [strN_size, fill16]; simp [numsOf_length]; omega
  have z2 : (E c).size ≤ 1048592 := by rw [hEe]; show (strN (fill16 (numsOf c))).size ≤ _; rw [strN_size, fill16]; simp [numsOf_length]; omega
  have z3 : (L ad.size).size = 8 := by rw [hLe]; show (strN (leB 8 ad.size)).size = _; rw [strN_size, leB_length]
  have z4 : (L c.size).size = 8 := by rw [hLe]; show (strN (leB 8 c.size)).size = _; rw [strN_size, leB_length]
  have n1 : numsOf (E ad) = fill16 (numsOf ad) := by rw [hEe]; exact numsOf_strN _ (fill16_bytes _ (numsOf_bytes ad))
  have n2 : numsOf (E c) = fill16 (numsOf c) := by rw [hEe]; exact numsOf_strN _ (fill16_bytes _ (numsOf_bytes c))
  have n3 : numsOf (L ad.size) = leB 8 ad.size := by rw [hLe]; exact numsOf_strN _ (leB_bytes _ _)
  have n4 : numsOf (L c.size) = leB 8 c.size := by rw [hLe]; exact numsOf_strN _ (leB_bytes _ _)
  rw [← n1, ← n2, ← n3, ← n4]
  clear n1 n2 n3 n4 hEe hLe
  have hM : numsOf (E ad) ++ numsOf (E c) ++ (numsOf (L ad.size) ++ numsOf (L c.size)) = numsOf (E ad ++ E c ++ L ad.size ++ L c.size) := by
    rw [numsOf_add, numsOf_add, numsOf_add, List.append_assoc (numsOf (E ad) ++ numsOf (E c))]
  rw [hM, ← hKn]
  clear hM hKn
  have y1 : (E ad ++ E c).size ≤ 2097184 := by rw [ByteArray.size_append]; omega
  have y2 : (E ad ++ E c ++ L ad.size).size ≤ 2097192 := by rw [ByteArray.size_append]; omega
  have y3 : (E ad ++ E c ++ L ad.size ++ L c.size).size ≤ 2097200 := by rw [ByteArray.size_append]; omega
  have a1 : ∀ w', (Op.stringOp .add (E ad) (E c)).run Tryz.prog w' = .ok (.string (E ad ++ E c)) w' := fun w' => run_string_add_sum (P := Tryz.prog) (w := w') _ _ (by omega)
  have a2 : ∀ w', (Op.stringOp .add (E ad ++ E c) (L ad.size)).run Tryz.prog w' = .ok (.string (E ad ++ E c ++ L ad.size)) w' := fun w' => run_string_add_sum (P := Tryz.prog) (w := w') _ _ (by omega)
  have a3 : ∀ w', (Op.stringOp .add (E ad ++ E c ++ L ad.size) (L c.size)).run Tryz.prog w' = .ok (.string (E ad ++ E c ++ L ad.size ++ L c.size)) w' := fun w' => run_string_add_sum (P := Tryz.prog) (w := w') _ _ (by omega)
  have hT := fun W => rTag_any ((strN BL).extract 0 32) (E ad ++ E c ++ L ad.size ++ L c.size) (by omega) W
  have hTS : tagS ((strN BL).extract 0 32) (E ad ++ E c ++ L ad.size ++ L c.size) = strN (polyT (numsOf ((strN BL).extract 0 32)) (numsOf (E ad ++ E c ++ L ad.size ++ L c.size))) := by unfold tagS; rw [if_pos hKs]
  have hTE : tagE ((strN BL).extract 0 32) = 0 := by unfold tagE; rw [if_pos hKs]
  rw [← hTS]
  simp only [hTE] at hT
  generalize tagS ((strN BL).extract 0 32) (E ad ++ E c ++ L ad.size ++ L c.size) = T at *
  generalize E ad ++ E c ++ L ad.size ++ L c.size = X3 at *
  generalize E ad ++ E c ++ L ad.size = X2 at *
  generalize E ad ++ E c = X1 at *
  generalize strN BL = BS at *
  have xk : BS.extract 0 32 = BS.extract 0 32 := rfl
  clear z1 z2 z3 z4 y1 y2 y3 hTS hTE hBl hBb hKs xk
  have s64 : (32 : Int) ≤ (BS.size : Int) := by omega
  go_enter Tryz.func52, Tryz.ntmps52
  go_wp2_with fail
  go_region_held3 (fun _ => True) (exact trivial) (first | (go_at_call 56; refine (hB _).mono ?_; rintro e wA ⟨rfl, hbA⟩; have hb := (Below.refl w.heap.size w).drew.trans hbA) | (go_at_call 58; refine (hE _ (by first | exact had | exact hc) _).mono ?_; rintro e wB ⟨rfl, hbB⟩; have hb := hb.trans (hbB.mono hb.size)) | (go_at_call 59; refine (hL _ (by first | exact had | exact hc) _).mono ?_; rintro e wD ⟨rfl, hbD⟩; have hb := hb.trans (hbD.mono hb.size)) | (go_at_call 57; refine (hT _).mono ?_; rintro e wF ⟨rfl, hbF⟩; have hb := hb.trans (hbF.mono hb.size)))
  have HF : Hid (Below w.heap.size w wF) := hb
  clear hb
  go_wp2
  go_ret
  exact ⟨rfl, HF.out⟩
end Go.Proofs.YtfmaajfohieneaaGreatDoor.Bx
