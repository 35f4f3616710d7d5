/- The document's stream. · The document's mark. · The document's Seal and Open; what both sides tell. · What sum and box tell, of this program and of the document: the law BlockReals. · The document's device: how it lies in memory; the same plain words as of plate's. -/
import Derived.Test.YtldkdoddklfdlaaGreatDoorMg37
import Derived.Test.YtldkdoddklfdlaaGreatDoorMg35
import Derived.Test.YtldkdoddklfdlaaGreatDoorMg28
import Derived.Deep.RegionHeld3
import Derived.Test.YtldkdoddklfdlaaGreatDoorMg15
import Derived.Test.YtldkdoddklfdlaaGreatDoorMg23
import Derived.Test.YtldkdoddklfdlaaGreatDoorMg20
import Derived.Test.YtldkdoddklfdlaaGreatDoorMg30
import Derived.Test.YtldkdoddklfdlaaGreatDoorMg31
import Derived.Test.YtldkdoddklfdlaaGreatDoorMg32
import Derived.Test.YtldkdoddklfdlaaGreatDoorMg10
import Derived.Deep.AppendLies
namespace Go.Proofs.YtldkdoddklfdlaaGreatDoor.Bx
set_option maxRecDepth 20000
open Go.RowKit

theorem ownsRow_below {w w' : World} {base : Nat} {e : TypeId} {size : Nat} {v : Value} {n : Nat} {xs : List Value} (hb : Below w.heap.size w w') (h : w.ownsRow base e size v n xs) : w'.ownsRow base e size v n xs := by
  obtain ⟨h1, h2⟩ := h
  refine ⟨h1, ?_⟩
  rcases h2 with h2 | ⟨g, cap, cur, hv, hg, hh, r⟩
  · exact .inl h2
  · exact .inr ⟨g, cap, cur, hv, hg, by rw [hb.block g (lt_of_block hh)]; exact hh, r⟩
theorem rStream_bad (key nonce s : ByteArray) (at_ : Int) (h : ¬ (key.size = 32 ∧ nonce.size = 12)) (w : World) :
    Calls Tryz.prog 110 #[.string key, .string nonce, .int .i64 at_, .string s] w fun e w' => e = .returned (.tuple #[.string ⟨#[]⟩, .int .i64 1]) ∧ w' = w := by
  by_cases h1 : key.size = 32
  · have h2 : ¬ nonce.size = 12 := fun hh => h ⟨h1, hh⟩
    have h3 : ¬ (nonce.size : Int) = 12 := by omega
    clear h
    go_enter Tryz.func110, Tryz.ntmps110
    go_wp2
    go_ret2
    exact ⟨rfl, rfl⟩
  · have h3 : ¬ (key.size : Int) = 32 := by omega
    clear h
    go_enter Tryz.func110, Tryz.ntmps110
    go_wp2
    go_ret2
    exact ⟨rfl, rfl⟩
set_option maxRecDepth 10000 in
set_option maxHeartbeats 1000000 in
theorem rStream_range (key nonce s : ByteArray) (hk : key.size = 32) (hn : nonce.size = 12) (hs : s.size ≤ 1048576) (at_ : Int) (h : strmB at_ s.size) (w : World) :
    Calls Tryz.prog 110 #[.string key, .string nonce, .int .i64 at_, .string s] w fun e w' => e = .returned (.tuple #[.string ⟨#[]⟩, .int .i64 2]) ∧ w' = w := by
  by_cases h1 : at_ < 0
  · clear h
    go_enter Tryz.func110, Tryz.ntmps110
    go_wp2
    go_ret2
    exact ⟨rfl, rfl⟩
  · by_cases h2 : 4294967295 < at_
    · clear h
      go_enter Tryz.func110, Tryz.ntmps110
      go_wp2
      go_ret2
      exact ⟨rfl, rfl⟩
    · obtain ⟨a, rfl⟩ : ∃ a : Nat, at_ = a := ⟨at_.toNat, by omega⟩
      have h3 : (4294967296 : Int) - a < ((s.size + 63) / 64 : Nat) := by
        rcases h with h | h | h
        · omega
        · omega
        · exact h
      have h4 : (4294967296 : Int) - a < ((s.size : Int) + 63) / 64 := by omega
      have ha : (a : Int) ≤ 4294967295 := by omega
      clear h h3
      go_enter Tryz.func110, Tryz.ntmps110
      go_wp2
      go_ret2
      exact ⟨rfl, rfl⟩

/-- The block at hand before byte j. -/
def keyAt (K N : List Nat) (a j : Nat) : Value := .string (strN (chaL K N (a + j / 64)))
theorem chaS_at (K N : List Nat) (a : Nat) (l : List Nat) (j : Nat) (h : j < l.length) : (chaS K N a l).getD j 0 = l.getD j 0 ^^^ (chaL K N (a + j / 64)).getD (j % 64) 0 := by
  rw [List.getD_eq_getElem?_getD, chaS, List.getElem?_map, List.getElem?_range h]
  rfl
theorem chaL_bytes (K N : List Nat) (n : Nat) : Bytes (chaL K N n) := blkL_bytes _

set_option maxRecDepth 10000 in
set_option maxHeartbeats 1000000 in
theorem rStream_ok (key nonce s : ByteArray) (hk : key.size = 32) (hn : nonce.size = 12) (hs : s.size ≤ 1048576) (a : Nat) (h : ¬ strmB a s.size) (w : World) :
    Calls Tryz.prog 110 #[.string key, .string nonce, .int .i64 a, .string s] w fun e w' => e = .returned (.tuple #[.string (strN (chaS (numsOf key) (numsOf nonce) a (numsOf s))), .int .i64 0]) ∧ Below w.heap.size w w' := by
  obtain ⟨i1, hj, hy0, hy1, hy2⟩ := info_parts info_u8
  have ha : (a : Int) ≤ 4294967295 := by unfold strmB at h; omega
  have h1 : ¬ (a : Int) < 0 := by omega
  have h2 : ¬ (4294967295 : Int) < a := by omega
  have h3 : a + (s.size + 63) / 64 ≤ 4294967296 := by unfold strmB at h; omega
  have h4 : ¬ (4294967296 : Int) - a < ((s.size : Int) + 63) / 64 := by omega
  have HBL : Hid (∀ n : Nat, n < 4294967296 → ∀ w, Calls Tryz.prog 136 #[.string key, .string nonce, .int .i64 n] w fun e w' => e = .returned (.string (strN (chaL (numsOf key) (numsOf nonce) n))) ∧ Below w.heap.size w w') := fun n hn' w => rBlock_any key nonce hk hn n hn' w
  have HTV : Hid (∀ j, j < s.size → (chaS (numsOf key) (numsOf nonce) a (numsOf s)).getD j 0 = (numsOf s).getD j 0 ^^^ (chaL (numsOf key) (numsOf nonce) (a + j / 64)).getD (j % 64) 0) := fun j hj => chaS_at _ _ _ _ j (by rw [numsOf_length]; exact hj)
  have HTL : Hid ((chaS (numsOf key) (numsOf nonce) a (numsOf s)).length = s.size) := by show _ = _; rw [chaS_length, numsOf_length]
  have H3 : Hid (a + (s.size + 63) / 64 ≤ 4294967296) := h3
  generalize numsOf key = K at *
  generalize numsOf nonce = N at *
  generalize chaS K N a (numsOf s) = T at *
  clear h h3
  go_enter Tryz.func110, Tryz.ntmps110
  go_wp2_with fail
  go_loopw [10, 11, 12] (fun v kv i wz => ∃ j : Nat, j ≤ s.size ∧ i = .int .i64 j ∧ wz.ownsRow w.heap.size 5 1 v j (byV (T.take j)) ∧ Below w.heap.size w wz ∧ (j = 0 → v = .slice none 0 0) ∧ (j ≠ 0 → kv = keyAt K N a (j - 1))) (fun _ _ i _ => s.size - (intOf i).toNat)
  case atStart => exact ⟨0, Nat.zero_le _, rfl, World.ownsRow_nil _ _ _ _, Below.refl _ _, fun _ => rfl, fun h => absurd rfl h⟩
  case round =>
    obtain ⟨j, hjs, rfl, hown, hb, hz, hkv⟩ := hrel
    by_cases hlt : j < s.size
    · have hlti : (j : Int) < s.size := by omega
      have HBN : Hid (numsOf (strN (chaL K N (a + j / 64))) = chaL K N (a + j / 64)) := numsOf_strN _ (chaL_bytes _ _ _)
      have HBS : Hid ((strN (chaL K N (a + j / 64))).size = 64) := by show _ = _; rw [strN_size, chaL_length]
      have HNX : Hid (Value.string (strN (chaL K N (a + j / 64))) = keyAt K N a (j + 1 - 1)) := rfl
      have HTJ : Hid (T.getD j 0 = (numsOf s).getD j 0 ^^^ (chaL K N (a + j / 64)).getD (j % 64) 0) := HTV.out j hlt
      clear HTV
      by_cases hr : j % 64 = 0
      · have hri : (j : Int) % 64 = 0 := by omega
        have hbl := HBL.out (a + j / 64) (by have := H3.out; omega)
        have hai : IntKind.i64.wrap ((a : Int) + (j : Int) / 64) = ((a + j / 64 : Nat) : Int) := by rw [IntKind.wrap_i64]; omega
        have HHB : Hid (wr.ownsRow w.heap.size 5 1 u10 j (byV (T.take j)) ∧ Below w.heap.size w wr) := ⟨hown, hb⟩
        have HR : Hid (j % 64 = 0) := hr
        clear hown hb hz hkv HBL hr
        generalize strN (chaL K N (a + j / 64)) = B at *
        generalize a + j / 64 = m at *
        · go_wp2_with fail
          refine (hbl _).mono ?_
          rintro e wq ⟨rfl, hbq⟩
          have hown : wq.ownsRow w.heap.size 5 1 u10 j (byV (T.take j)) := ownsRow_below hbq HHB.out.1
          have hb := HHB.out.2.trans (hbq.mono HHB.out.2.size)
          clear hbl hbq HHB hai
          have b0 : 0 < B.size := by rw [HBS.out]; omega
          have i0' : ((0 : Nat) : Int) < B.size := by rw [HBS.out]; omega
          have vx := u8_xor_nat s[j].toNat (B[0]'b0).toNat s[j].toNat_lt (B[0]'b0).toNat_lt
          have HV : Hid (s[j].toNat ^^^ (B[0]'b0).toNat = T.getD j 0) := by
            show _ = _
            rw [HTJ.out, ← nums_at s j hlt, ← nums_at B 0 b0, HBN.out, HR.out]
          generalize s[j].toNat ^^^ (B[0]'b0).toNat = v at *
          have HB : Hid (byV (T.take (j + 1)) = byV (T.take j) ++ [.int .u8 (v : Nat)]) := by
            show _ = _
            rw [List.take_succ_eq_append_getElem (by have := HTL.out; omega), byV_append, HV.out, getD_at _ _ (by have := HTL.out; omega)]
            rfl
          have HO : Hid (∀ o, ((wq.alloc o).drew).ownsRow w.heap.size 5 1 u10 j (byV (T.take j)) ∧ Below w.heap.size w ((wq.alloc o).drew)) := fun o => ⟨(hown.alloc o).drew, (hb.alloc hb.size o).drew⟩
          have HNE : Hid (∀ g', u10.ownBlock = some g' → w.heap.size ≤ g') := fun g' hg' => (hown.lt g' hg').1
          clear hown hb HTJ HV
          have htm : (j : Int).tmod 64 = 0 := by rw [Int.tmod_eq_emod_of_nonneg (by omega)]; exact hri
          have n1 : (0 : Int) < B.size := by rw [HBS.out]; decide
          have n2 : 0 < B.size := by rw [HBS.out]; decide
          go_wp2_with fail
          go_region_held3 (fun _ => True) (simp [go_sem, *]) (first | (refine step_append_lies _ rfl _ _ 90 rfl _ 5 i1 (.int .u8 0) 1 1 Tryz.underlying90 hj hy0 hy1 hy2 rfl (by decide) u10 j _ rfl (HO.out _).1 ⟨wq.heap.size, 0, none⟩ 1 1 [.int .u8 (v : Nat)] rfl rfl (World.news_of_block (heap_alloc_new wq _)) (by intro u hu; rw [List.mem_singleton] at hu; rw [hu]; rfl) (by decide) (by unfold maxLen; omega) (by omega) (HO.out _).2.size _ rfl ?_; intro g1 cap1 w1 hown1 hgrow1 hat1 hlt1))
          all_goals
            have hb2 := (HO.out _).2.grown hgrow1 (HO.out _).2.size (fun g hg => HNE.out g hg)
            have hown2 := HB.out ▸ hown1
            have HF : Hid (_ ∧ _) := ⟨hown2, hb2⟩
            clear hown1 hown2 hgrow1 hat1 hlt1 hb2
            go_wp2
            go_roundw
            case rel => exact ⟨j + 1, by omega, by go_num, HF.out.1, HF.out.2, fun h => by omega, fun h => HNX.out⟩
            case measure => simp [intOf]; omega

      · obtain ⟨r, hrr⟩ : ∃ r, r = j % 64 := ⟨_, rfl⟩
        have hri : (j : Int) % 64 = (r : Int) := by omega
        have hr64 : r < 64 := by omega
        have hr0 : ¬ (r : Int) = 0 := by omega
        have hr0' : ¬ r = 0 := by omega
        have hkv' := hkv (by omega)
        have hd : (j - 1) / 64 = j / 64 := by omega
        rw [keyAt, hd] at hkv'
        have HR : Hid (r = j % 64) := hrr
        clear hz hkv HBL hr hd hrr
        generalize strN (chaL K N (a + j / 64)) = B at *
        generalize a + j / 64 = m at *
        subst hkv'
        obtain ⟨wq, hwq⟩ : ∃ v, v = wr := ⟨_, rfl⟩
        subst hwq
        · skip
          have b0 : r < B.size := by rw [HBS.out]; omega
          have i0' : ((r : Nat) : Int) < B.size := by rw [HBS.out]; omega
          have vx := u8_xor_nat s[j].toNat (B[r]'b0).toNat s[j].toNat_lt (B[r]'b0).toNat_lt
          have HV : Hid (s[j].toNat ^^^ (B[r]'b0).toNat = T.getD j 0) := by
            show _ = _
            rw [HTJ.out, ← nums_at s j hlt, ← nums_at B r b0, HBN.out, HR.out]
          generalize s[j].toNat ^^^ (B[r]'b0).toNat = v at *
          have HB : Hid (byV (T.take (j + 1)) = byV (T.take j) ++ [.int .u8 (v : Nat)]) := by
            show _ = _
            rw [List.take_succ_eq_append_getElem (by have := HTL.out; omega), byV_append, HV.out, getD_at _ _ (by have := HTL.out; omega)]
            rfl
          have HO : Hid (∀ o, ((wq.alloc o).drew).ownsRow w.heap.size 5 1 u10 j (byV (T.take j)) ∧ Below w.heap.size w ((wq.alloc o).drew)) := fun o => ⟨(hown.alloc o).drew, (hb.alloc hb.size o).drew⟩
          have HNE : Hid (∀ g', u10.ownBlock = some g' → w.heap.size ≤ g') := fun g' hg' => (hown.lt g' hg').1
          clear hown hb HTJ HV
          have htm : (j : Int).tmod 64 = (r : Int) := by rw [Int.tmod_eq_emod_of_nonneg (by omega)]; exact hri
          go_wp2_with fail
          go_region_held3 (fun _ => True) (simp [go_sem, *]) (first | (refine step_append_lies _ rfl _ _ 90 rfl _ 5 i1 (.int .u8 0) 1 1 Tryz.underlying90 hj hy0 hy1 hy2 rfl (by decide) u10 j _ rfl (HO.out _).1 ⟨wq.heap.size, 0, none⟩ 1 1 [.int .u8 (v : Nat)] rfl rfl (World.news_of_block (heap_alloc_new wq _)) (by intro u hu; rw [List.mem_singleton] at hu; rw [hu]; rfl) (by decide) (by unfold maxLen; omega) (by omega) (HO.out _).2.size _ rfl ?_; intro g1 cap1 w1 hown1 hgrow1 hat1 hlt1))
          all_goals
            have hb2 := (HO.out _).2.grown hgrow1 (HO.out _).2.size (fun g hg => HNE.out g hg)
            have hown2 := HB.out ▸ hown1
            have HF : Hid (_ ∧ _) := ⟨hown2, hb2⟩
            clear hown1 hown2 hgrow1 hat1 hlt1 hb2
            go_wp2
            go_roundw
            case rel => exact ⟨j + 1, by omega, by go_num, HF.out.1, HF.out.2, fun h => by omega, fun h => HNX.out⟩
            case measure => simp [intOf]; omega

    · obtain rfl : j = s.size := by omega
      clear HBL HTV
      rw [List.take_of_length_le (by have := HTL.out; omega)] at hown
      have HF : Hid (Below w.heap.size w wr) := hb
      by_cases h0 : s.size = 0
      · obtain rfl := hz h0
        have hT : strN T = ⟨#[]⟩ := by
          obtain rfl : T = [] := List.eq_nil_of_length_eq_zero (by have := HTL.out; omega)
          rfl
        have hcv := fun W => run_convert_bytes_nil (P := Tryz.prog) W 90 5 Tryz.underlying90 Tryz.underlying5 0 0 9 Tryz.underlying9
        clear hown hb hz hkv
        have HT : Hid (strN T = ⟨#[]⟩) := hT
        clear hT
        go_wp2
        first
          | (rw [hcv]; go_wp2)
          | skip
        go_ret2
        exact ⟨by rw [HT.out]; rfl, HF.out⟩
      · obtain ⟨g, cap, rfl, _, _⟩ := hown.form (by omega)
        have hcv := run_convert_bytes_arg (P := Tryz.prog) wr 90 5 Tryz.underlying90 Tryz.underlying5 g 0 s.size cap (T.map fun (x : Nat) => (x : Int)) (by simp; exact HTL.out) (fun i hi => by
          have hl := HTL.out
          rw [Nat.zero_add, hown.cellAt i (by omega), byV_get _ _ (by omega), getD_at _ _ (by omega)]
          rw [List.getD_eq_getElem?_getD, List.getElem?_map, List.getElem?_eq_getElem (by omega)]; rfl) 9 Tryz.underlying9
        rw [show strOfNums (T.map fun (x : Nat) => (x : Int)) = strN T from rfl] at hcv
        clear hown hb hz hkv
        go_wp2
        first
          | (rw [hcv]; go_wp2)
          | skip
        go_ret2
        exact ⟨rfl, HF.out⟩

theorem rStream_any (key nonce s : ByteArray) (hs : s.size ≤ 1048576) (at_ : Int) (w : World) :
    Calls Tryz.prog 110 #[.string key, .string nonce, .int .i64 at_, .string s] w fun e w' => e = .returned (.tuple #[.string (strmS key nonce at_ s), .int .i64 (strmE key nonce at_ s : Nat)]) ∧ Below w.heap.size w w' := by
  by_cases h : key.size = 32 ∧ nonce.size = 12
  · by_cases hb : strmB at_ s.size
    · have e : strmE key nonce at_ s = 2 := by unfold strmE; rw [if_neg (fun hh => hh h), if_pos hb]
      unfold strmS
      rw [e, if_neg (by decide)]
      refine (rStream_range key nonce s h.1 h.2 hs at_ hb w).mono ?_
      rintro e w' ⟨rfl, rfl⟩
      exact ⟨rfl, Below.refl _ _⟩
    · have e : strmE key nonce at_ s = 0 := by unfold strmE; rw [if_neg (fun hh => hh h), if_neg hb]
      unfold strmS
      rw [e, if_pos rfl]
      obtain ⟨a, rfl⟩ : ∃ a : Nat, at_ = a := ⟨at_.toNat, by unfold strmB at hb; omega⟩
      exact rStream_ok key nonce s h.1 h.2 hs a hb w
  · have e : strmE key nonce at_ s = 1 := by unfold strmE; rw [if_pos h]
    unfold strmS
    rw [e, if_neg (by decide)]
    refine (rStream_bad key nonce s at_ h w).mono ?_
    rintro e w' ⟨rfl, rfl⟩
    exact ⟨rfl, Below.refl _ _⟩
end Go.Proofs.YtldkdoddklfdlaaGreatDoor.Bx

namespace Go.Proofs.YtldkdoddklfdlaaGreatDoor.Bx
set_option maxRecDepth 20000
open Go.RowKit

theorem numsOf_add (a b : ByteArray) : numsOf (a ++ b) = numsOf a ++ numsOf b := by simp [numsOf, ByteArray.data_append]

set_option maxRecDepth 10000 in
set_option maxHeartbeats 4000000 in
theorem rmark_any (key nonce ad c : ByteArray) (hk : key.size = 32) (hn : nonce.size = 12) (had : ad.size ≤ 1048576) (hc : c.size ≤ 1048576) (w : World) :
    Calls Tryz.prog 111 #[.string key, .string nonce, .string ad, .string c] w fun e w' => e = .returned (.string (strN (sealG key nonce ad (numsOf c)))) ∧ Below w.heap.size w w' := by
  have hB := fun W => rBlock_any key nonce hk hn 0 (by decide) W
  have hBl : (chaL (numsOf key) (numsOf nonce) 0).length = 64 := chaL_length _ _ _
  have hBb : Bytes (chaL (numsOf key) (numsOf nonce) 0) := chaL_bytes _ _ _
  have hG : sealG key nonce ad (numsOf c) = polyT ((chaL (numsOf key) (numsOf nonce) 0).take 32) (fill16 (numsOf ad) ++ fill16 (numsOf c) ++ (leB 8 ad.size ++ leB 8 c.size)) := by
    rw [sealG, sealT, sealM, numsOf_length, numsOf_length]
  rw [hG]
  clear hG
  generalize chaL (numsOf key) (numsOf nonce) 0 = BL at *
  have hBs : (strN BL).size = 64 := by rw [strN_size]; exact hBl
  have hKn : numsOf ((strN BL).extract 0 32) = BL.take 32 := by rw [numsOf_extract, numsOf_strN _ hBb]; rfl
  have hKs : ((strN BL).extract 0 32).size = 32 := by simp; omega
  obtain ⟨E, hEe⟩ : ∃ E : ByteArray → ByteArray, E = fun s => strN (fill16 (numsOf s)) := ⟨_, rfl⟩
  obtain ⟨L, hLe⟩ : ∃ L : Nat → ByteArray, L = fun n => strN (leB 8 n) := ⟨_, rfl⟩
  have hE : ∀ s : ByteArray, s.size ≤ 1048576 → ∀ W, Calls Tryz.prog 138 #[.string s] W fun e w' => e = .returned (.string (E s)) ∧ Below W.heap.size W w' := fun s hs W => by
    rw [hEe]
    exact (reven_any s hs W).mono fun e w' ⟨h, h2⟩ => ⟨h, by rw [h2]; exact Below.refl _ _⟩
  have hL : ∀ n : Nat, n ≤ 1048576 → ∀ W, Calls Tryz.prog 139 #[.int .i64 n] W fun e w' => e = .returned (.string (L n)) ∧ Below W.heap.size W w' := fun n hn W => by
    rw [hLe]
    exact rlong_any n (by omega) W
  have z1 : (E ad).size ≤ 1048592 := by rw [hEe]; show (strN (fill16 (numsOf ad))).size ≤ _; rw [strN_size, fill16]; simp [numsOf_length]; omega
  have z2 : (E c).size ≤ 1048592 := by rw [hEe]; show (strN (fill16 (numsOf c))).size ≤ _; rw [strN_size, fill16]; simp [numsOf_length]; omega
  have z3 : (L ad.size).size = 8 := by rw [hLe]; show (strN (leB 8 ad.size)).size = _; rw [strN_size, leB_length]
  have z4 : (L c.size).size = 8 := by rw [hLe]; show (strN (leB 8 c.size)).size = _; rw [strN_size, leB_length]
  have n1 : numsOf (E ad) = fill16 (numsOf ad) := by rw [hEe]; exact numsOf_strN _ (fill16_bytes _ (numsOf_bytes ad))
  have n2 : numsOf (E c) = fill16 (numsOf c) := by rw [hEe]; exact numsOf_strN _ (fill16_bytes _ (numsOf_bytes c))
  have n3 : numsOf (L ad.size) = leB 8 ad.size := by rw [hLe]; exact numsOf_strN _ (leB_bytes _ _)
  have n4 : numsOf (L c.size) = leB 8 c.size := by rw [hLe]; exact numsOf_strN _ (leB_bytes _ _)
  rw [← n1, ← n2, ← n3, ← n4]
  clear n1 n2 n3 n4 hEe hLe
  have hM : numsOf (E ad) ++ numsOf (E c) ++ (numsOf (L ad.size) ++ numsOf (L c.size)) = numsOf (E ad ++ E c ++ L ad.size ++ L c.size) := by
    rw [numsOf_add, numsOf_add, numsOf_add, List.append_assoc (numsOf (E ad) ++ numsOf (E c))]
  rw [hM, ← hKn]
  clear hM hKn
  have y1 : (E ad ++ E c).size ≤ 2097184 := by rw [ByteArray.size_append]; omega
  have y2 : (E ad ++ E c ++ L ad.size).size ≤ 2097192 := by rw [ByteArray.size_append]; omega
  have y3 : (E ad ++ E c ++ L ad.size ++ L c.size).size ≤ 2097200 := by rw [ByteArray.size_append]; omega
  have a1 : ∀ w', (Op.stringOp .add (E ad) (E c)).run Tryz.prog w' = .ok (.string (E ad ++ E c)) w' := fun w' => run_string_add_sum (P := Tryz.prog) (w := w') _ _ (by omega)
  have a2 : ∀ w', (Op.stringOp .add (E ad ++ E c) (L ad.size)).run Tryz.prog w' = .ok (.string (E ad ++ E c ++ L ad.size)) w' := fun w' => run_string_add_sum (P := Tryz.prog) (w := w') _ _ (by omega)
  have a3 : ∀ w', (Op.stringOp .add (E ad ++ E c ++ L ad.size) (L c.size)).run Tryz.prog w' = .ok (.string (E ad ++ E c ++ L ad.size ++ L c.size)) w' := fun w' => run_string_add_sum (P := Tryz.prog) (w := w') _ _ (by omega)
  have hT := fun W => rTag_any ((strN BL).extract 0 32) (E ad ++ E c ++ L ad.size ++ L c.size) (by omega) W
  have hTS : tagS ((strN BL).extract 0 32) (E ad ++ E c ++ L ad.size ++ L c.size) = strN (polyT (numsOf ((strN BL).extract 0 32)) (numsOf (E ad ++ E c ++ L ad.size ++ L c.size))) := by unfold tagS; rw [if_pos hKs]
  have hTE : tagE ((strN BL).extract 0 32) = 0 := by unfold tagE; rw [if_pos hKs]
  rw [← hTS]
  simp only [hTE] at hT
  generalize tagS ((strN BL).extract 0 32) (E ad ++ E c ++ L ad.size ++ L c.size) = T at *
  generalize E ad ++ E c ++ L ad.size ++ L c.size = X3 at *
  generalize E ad ++ E c ++ L ad.size = X2 at *
  generalize E ad ++ E c = X1 at *
  generalize strN BL = BS at *
  have xk : BS.extract 0 32 = BS.extract 0 32 := rfl
  clear z1 z2 z3 z4 y1 y2 y3 hTS hTE hBl hBb hKs xk
  have s64 : (32 : Int) ≤ (BS.size : Int) := by omega
  go_enter Tryz.func111, Tryz.ntmps111
  go_wp2_with fail
  go_region_held3 (fun _ => True) (exact trivial) (first | (go_at_call 136; refine (hB _).mono ?_; rintro e wA ⟨rfl, hbA⟩; have hb := (Below.refl w.heap.size w).drew.trans hbA) | (go_at_call 138; refine (hE _ (by first | exact had | exact hc) _).mono ?_; rintro e wB ⟨rfl, hbB⟩; have hb := hb.trans (hbB.mono hb.size)) | (go_at_call 139; refine (hL _ (by first | exact had | exact hc) _).mono ?_; rintro e wD ⟨rfl, hbD⟩; have hb := hb.trans (hbD.mono hb.size)) | (go_at_call 137; refine (hT _).mono ?_; rintro e wF ⟨rfl, hbF⟩; have hb := hb.trans (hbF.mono hb.size)))
  have HF : Hid (Below w.heap.size w wF) := hb
  clear hb
  go_wp2
  go_ret
  exact ⟨rfl, HF.out⟩
end Go.Proofs.YtldkdoddklfdlaaGreatDoor.Bx

namespace Go.Proofs.YtldkdoddklfdlaaGreatDoor.Bx
set_option maxRecDepth 20000
open Go.RowKit

theorem strm_ok (key nonce s : ByteArray) (h : fitP key nonce) (hs : s.size ≤ 1048576) : strmE key nonce 1 s = 0 ∧ strmS key nonce 1 s = strN (chaS (numsOf key) (numsOf nonce) 1 (numsOf s)) := by
  have e1 : strmE key nonce 1 s = 0 := by
    unfold strmE
    rw [if_neg (fun hh => hh h), if_neg]
    unfold strmB
    omega
  refine ⟨e1, ?_⟩
  unfold strmS
  rw [if_pos e1]
  rfl
theorem strm_bad (key nonce s : ByteArray) (h : ¬ fitP key nonce) : strmE key nonce 1 s = 1 ∧ strmS key nonce 1 s = ⟨#[]⟩ := by
  have e1 : strmE key nonce 1 s = 1 := by
    unfold strmE
    exact if_pos h
  refine ⟨e1, ?_⟩
  unfold strmS
  rw [e1]
  rfl

set_option maxRecDepth 10000 in
set_option maxHeartbeats 1000000 in
theorem rSeal_ok (key nonce ad s : ByteArray) (h : fitP key nonce) (had : ad.size ≤ 1048576) (hs : s.size ≤ 1048576) (w : World) :
    Calls Tryz.prog 74 #[.string key, .string nonce, .string ad, .string s] w fun e w' => e = .returned (.tuple #[.string (strN (sealC key nonce s ++ sealG key nonce ad (sealC key nonce s))), .int .i64 0]) ∧ Below w.heap.size w w' := by
  have hSt := fun W => rStream_any key nonce s hs 1 W
  obtain ⟨e1, e2⟩ := strm_ok key nonce s h hs
  simp only [e1, e2] at hSt
  have hcb : Bytes (sealC key nonce s) := chaS_bytes _ _ _ _ (numsOf_bytes s)
  have hcl : (sealC key nonce s).length = s.size := by rw [sealC, chaS_length, numsOf_length]
  have hMk := fun W => rmark_any key nonce ad (strN (sealC key nonce s)) h.1 h.2 had (by rw [strN_size, hcl]; exact hs) W
  rw [numsOf_strN _ hcb] at hMk
  have hSt' : ∀ W, Calls Tryz.prog 110 #[.string key, .string nonce, .int .i64 1, .string s] W fun e w' => e = .returned (.tuple #[.string (strN (sealC key nonce s)), .int .i64 0]) ∧ Below W.heap.size W w' := hSt
  clear hSt
  have hgl : (sealG key nonce ad (sealC key nonce s)).length = 16 := polyT_length _ _
  rw [← strN_append]
  have hz1 : (strN (sealC key nonce s)).size = s.size := by rw [strN_size, hcl]
  have hz2 : (strN (sealG key nonce ad (sealC key nonce s))).size = 16 := by rw [strN_size, hgl]
  generalize strN (sealG key nonce ad (sealC key nonce s)) = G at *
  generalize strN (sealC key nonce s) = C at *
  obtain ⟨CG, hCG⟩ : ∃ CG, CG = C ++ G := ⟨_, rfl⟩
  have hadd : ∀ w', (Op.stringOp .add C G).run Tryz.prog w' = .ok (.string CG) w' := fun w' => by rw [hCG]; exact run_string_add_sum (P := Tryz.prog) (w := w') C G (by omega)
  rw [← hCG]
  clear hCG hcb hcl hgl e1 e2 h
  go_enter Tryz.func74, Tryz.ntmps74
  go_wp2_with fail
  refine (hSt' _).mono ?_
  rintro e w1 ⟨rfl, hb1⟩
  clear hSt'
  go_wp2_with fail
  refine (hMk _).mono ?_
  rintro e w2 ⟨rfl, hb2⟩
  have hb3 := hb1.trans (hb2.mono hb1.size)
  clear hMk hb1 hb2
  go_wp2
  go_ret2
  exact ⟨rfl, hb3⟩

set_option maxRecDepth 10000 in
set_option maxHeartbeats 1000000 in
theorem rSeal_bad (key nonce ad s : ByteArray) (h : ¬ fitP key nonce) (hs : s.size ≤ 1048576) (w : World) :
    Calls Tryz.prog 74 #[.string key, .string nonce, .string ad, .string s] w fun e w' => e = .returned (.tuple #[.string ⟨#[]⟩, .int .i64 1]) ∧ Below w.heap.size w w' := by
  have hSt := fun W => rStream_any key nonce s hs 1 W
  obtain ⟨e1, e2⟩ := strm_bad key nonce s h
  simp only [e1, e2] at hSt
  clear e1 e2 h
  go_enter Tryz.func74, Tryz.ntmps74
  go_wp2_with fail
  refine (hSt _).mono ?_
  rintro e w1 ⟨rfl, hb1⟩
  clear hSt
  go_wp2
  go_ret2
  exact ⟨rfl, hb1⟩
theorem rSeal_any (key nonce ad s : ByteArray) (had : ad.size ≤ 1048576) (hs : s.size ≤ 1048576) (w : World) :
    Calls Tryz.prog 74 #[.string key, .string nonce, .string ad, .string s] w fun e w' => e = .returned (.tuple #[.string (sealS key nonce ad s), .int .i64 (sealE key nonce : Nat)]) ∧ Below w.heap.size w w' := by
  unfold sealS sealE
  by_cases h : fitP key nonce
  · rw [if_pos h, if_pos h]
    exact rSeal_ok key nonce ad s h had hs w
  · rw [if_neg h, if_neg h]
    exact rSeal_bad key nonce ad s h hs w

end Go.Proofs.YtldkdoddklfdlaaGreatDoor.Bx

namespace Go.Proofs.YtldkdoddklfdlaaGreatDoor
set_option maxRecDepth 20000
open Go.RowKit

def realF : PF := ⟨fun s => Sm.shaS (Sm.numsOf s), Sm.macS, fun k i => Sm.expS k i 32, Bx.sealS, fun k n => (Bx.sealE k n : Nat), Bx.openS, fun k n a s => (Bx.openE k n a s : Nat)⟩
def TabR (w : World) : Prop := Sm.First w ∧ Sm.Cubes w
theorem macS_size (k s : ByteArray) : (Sm.macS k s).size = 32 := by
  unfold Sm.macS
  rw [strOfNums_size, List.length_map, Sm.macL_length]
theorem expS_size (k i : ByteArray) : (Sm.expS k i 32).size = 32 := by
  unfold Sm.expS Sm.expL
  rw [strOfNums_size, List.length_map, List.length_take, Sm.catD_length _ (fun j => Sm.expT_length _ _ j)]
  decide
theorem strS_size (p s : ByteArray) (r : Nat) : (Sm.strS p s r 32).size = 32 := by
  unfold Sm.strS
  rw [strOfNums_size, List.length_map, List.length_take, Sm.catD_length _ (fun j => Sm.strB_length _ _ _ _)]
  decide
theorem prims6 : Prims TabR realF where
  tab h hb := ⟨h.1.below hb h.1.1, h.2.below hb h.2.1⟩
  sum s hs w ht := Sm.sum_any s (by omega) w ht.1 ht.2
  macz := macS_size
  exp k i hk hi w ht := Sm.Expand_in k i 32 (by decide) (by omega) hi w ht.1 ht.2
  expz := expS_size
  shut k n a s ha hs w := Bx.Seal_any k n a s ha hs w
  opn k n a s ha hs w := Bx.Open_any k n a s ha hs w
  same a b ha w := Bx.same_any a b ha w
theorem backs6 : Backs6 realF where
  back k n a s hk hn ha hs := by
    obtain ⟨h1, h2, h3⟩ := Bx.back_math k n a s
    have hf : Bx.fitP k n := ⟨hk, hn⟩
    have e0 : Bx.sealS k n a s = Bx.strN (Bx.sealC k n s ++ Bx.sealG k n a (Bx.sealC k n s)) := by unfold Bx.sealS; rw [if_pos hf]
    have e1 : Bx.sealE k n = 0 := by unfold Bx.sealE; rw [if_pos hf]
    have e2 : Bx.openE k n a (Bx.sealS k n a s) = 0 := by unfold Bx.openE; rw [if_pos hf, e0, if_neg (by omega), if_pos h2]
    have e3 : Bx.openS k n a (Bx.sealS k n a s) = s := by unfold Bx.openS; rw [if_pos e2, e0, h3]
    refine ⟨?_, ?_, e3, ?_⟩
    · show ((Bx.sealE k n : Nat) : Int) = 0
      rw [e1]; rfl
    · show ((Bx.openE k n a (Bx.sealS k n a s) : Nat) : Int) = 0
      rw [e2]; rfl
    · show (Bx.sealS k n a s).size = s.size + 16
      rw [e0, h1]
theorem rprims6 : RPrims realF where
  sum s hs w := Sm.rsum_any s (by omega) w
  mac k s hk hs w := Sm.rMac_any k s (by omega) (by omega) w
  macz := macS_size
  exp k i hk hi w := Sm.rExpand_in k i 32 (by decide) (by omega) hi w
  expz := expS_size
  shut k n a s ha hs w := Bx.rSeal_any k n a s ha hs w
theorem stretch6 (pass : ByteArray) (hp : pass.size ≤ 64) : ∃ X : ByteArray, X.size = 32 ∧ (∀ w, TabR w → Calls Tryz.prog 25 #[.string pass, .string ⟨#[115]⟩, .int .i64 1, .int .i64 32] w fun e w' => e = .returned (.tuple #[.string X, .int .i64 0]) ∧ Below w.heap.size w w') ∧ ∀ w, Calls Tryz.prog 26 #[.string pass, .string ⟨#[115]⟩, .int .i64 1, .int .i64 32] w fun e w' => e = .returned (.tuple #[.string X, .int .i64 0]) ∧ Below w.heap.size w w' :=
  ⟨Sm.strS pass ⟨#[115]⟩ 1 32, strS_size _ _ _, fun w ht => Sm.Stretch_in pass ⟨#[115]⟩ 1 32 (by decide) (by decide) (by decide) (by omega) (by decide) w ht.1 ht.2, fun w => Sm.rStretch_in pass ⟨#[115]⟩ 1 32 (by decide) (by decide) (by decide) (by omega) (by decide) w⟩
end Go.Proofs.YtldkdoddklfdlaaGreatDoor

namespace Go.Proofs.YtldkdoddklfdlaaGreatDoor
set_option maxRecDepth 20000
open Go.RowKit

def refC (kv dv wv : Value) (S : PS) : List Value := [kv, dv, wv, .int .i64 S.fuse, .bool (!S.up), .int .i64 S.reads, .int .i64 S.writes]

structure RefAt (w : World) (F : Nat → Prop) (B : Nat) (kv dv wv : Value) (ks : List ByteArray) (ds : List Bool) (S : PS) : Prop where
  row : Row w B 75 (refC kv dv wv S)
  kept : w.ownsRow 0 9 1 kv S.kept.length (ks.map Value.string)
  dumb : w.ownsRow 0 4 1 dv S.kept.length (ds.map Value.bool)
  wait : w.ownsRow 0 329 2 wv S.wait.length (waitC S.wait)
  fB : F B
  fK : ∀ g, kv.ownBlock = some g → F g
  fD : ∀ g, dv.ownBlock = some g → F g
  fW : ∀ g, wv.ownBlock = some g → F g
  kB : Apart kv B
  dB : Apart dv B
  wB : Apart wv B
  kd : Apart2 kv dv
  kw : Apart2 kv wv
  dw : Apart2 dv wv
  most : S.kept.length ≤ 32768
  ats : ∀ p ∈ S.wait, p.1 < S.kept.length ∧ p.2.size = 64
  says : ∀ i, i < S.kept.length → S.kept[i]? = some (if ds.getD i false = true then ByteArray.empty else ks.getD i ByteArray.empty)
  texts : ∀ s ∈ ks, s.size = 64
  fuse : -1 ≤ S.fuse ∧ S.fuse < 9223372036854775808
def RefP (w : World) (F : Nat → Prop) (B : Nat) (S : PS) : Prop := ∃ kv dv wv ks ds, RefAt w F B kv dv wv ks ds S

theorem RefAt.lk {w : World} {F : Nat → Prop} {B : Nat} {kv dv wv : Value} {ks : List ByteArray} {ds : List Bool} {S : PS} (h : RefAt w F B kv dv wv ks ds S) : ks.length = S.kept.length := by simpa using h.kept.1
theorem RefAt.ld {w : World} {F : Nat → Prop} {B : Nat} {kv dv wv : Value} {ks : List ByteArray} {ds : List Bool} {S : PS} (h : RefAt w F B kv dv wv ks ds S) : ds.length = S.kept.length := by simpa using h.dumb.1
theorem RefAt.keep {w w' : World} {F : Nat → Prop} {B : Nat} {kv dv wv : Value} {ks : List ByteArray} {ds : List Bool} {S : PS} (h : RefAt w F B kv dv wv ks ds S) (hk : ∀ k, k < w.heap.size → F k → w'.heap[k]? = w.heap[k]?) : RefAt w' F B kv dv wv ks ds S :=
  { h with
    row := (hk B h.row.lt h.fB).trans h.row
    kept := owns_keep h.kept fun g hg => hk g (owns_lt h.kept g hg) (h.fK g hg)
    dumb := owns_keep h.dumb fun g hg => hk g (owns_lt h.dumb g hg) (h.fD g hg)
    wait := owns_keep h.wait fun g hg => hk g (owns_lt h.wait g hg) (h.fW g hg) }
theorem RefAt.mono {w : World} {F F' : Nat → Prop} {B : Nat} {kv dv wv : Value} {ks : List ByteArray} {ds : List Bool} {S : PS} (h : RefAt w F B kv dv wv ks ds S) (hF : ∀ k, k < w.heap.size → F k → F' k) : RefAt w F' B kv dv wv ks ds S :=
  { h with
    fB := hF _ h.row.lt h.fB
    fK := fun g hg => hF g (owns_lt h.kept g hg) (h.fK g hg)
    fD := fun g hg => hF g (owns_lt h.dumb g hg) (h.fD g hg)
    fW := fun g hg => hF g (owns_lt h.wait g hg) (h.fW g hg) }
theorem RefP.keep {w w' : World} {F : Nat → Prop} {B : Nat} {S : PS} (h : RefP w F B S) (hk : ∀ k, k < w.heap.size → F k → w'.heap[k]? = w.heap[k]?) : RefP w' F B S := by
  obtain ⟨kv, dv, wv, ks, ds, h⟩ := h
  exact ⟨kv, dv, wv, ks, ds, h.keep hk⟩
theorem RefP.mono {w : World} {F F' : Nat → Prop} {B : Nat} {S : PS} (h : RefP w F B S) (hF : ∀ k, k < w.heap.size → F k → F' k) : RefP w F' B S := by
  obtain ⟨kv, dv, wv, ks, ds, h⟩ := h
  exact ⟨kv, dv, wv, ks, ds, h.mono hF⟩

/-- One cell of an owned slice written anew. -/
theorem owns_set {w : World} {e : TypeId} {n g cap i : Nat} {xs : List Value} (h : w.ownsRow 0 e 1 (.slice (some ⟨g, 0, none⟩) n cap) n xs) (u : Value) : (w.setCell ⟨g, i, none⟩ u).ownsRow 0 e 1 (.slice (some ⟨g, 0, none⟩) n cap) n (xs.set i u) ∧ w.frozen? ⟨g, i, none⟩ = false := by
  rcases h.2 with ⟨hn, _⟩ | ⟨g', cap', cur, hv, h0, hg, hc, hm, hs, ht⟩
  · cases hn
  · cases hv
    refine ⟨⟨by rw [List.length_set]; exact h.1, .inr ⟨g, cap, _, rfl, h0, heap_setCell_same w g i cur e u hg, hc, hm, by simp [hs], ?_⟩⟩, by simp [World.frozen?, hg]⟩
    rw [← ht, Array.toList_setIfInBounds, List.take_set]
theorem owns_cell {w : World} {e : TypeId} {n g cap i : Nat} {xs : List Value} {u : Value} (h : w.ownsRow 0 e 1 (.slice (some ⟨g, 0, none⟩) n cap) n xs) (hi : xs[i]? = some u) : w.cell? ⟨g, i, none⟩ = some u := by
  obtain ⟨g', cap', e', _, hc⟩ := owns_form h (by have := (List.getElem?_eq_some_iff.1 hi).1; have := h.1; omega)
  cases e'
  exact hc i u hi

theorem RefAt.c0 {w : World} {F : Nat → Prop} {B : Nat} {kv dv wv : Value} {ks : List ByteArray} {ds : List Bool} {S : PS} (h : RefAt w F B kv dv wv ks ds S) : w.cell? ⟨B, 0, none⟩ = some kv := h.row.cell 0
theorem RefAt.c1 {w : World} {F : Nat → Prop} {B : Nat} {kv dv wv : Value} {ks : List ByteArray} {ds : List Bool} {S : PS} (h : RefAt w F B kv dv wv ks ds S) : w.cell? ⟨B, 1, none⟩ = some dv := h.row.cell 1
theorem RefAt.c2 {w : World} {F : Nat → Prop} {B : Nat} {kv dv wv : Value} {ks : List ByteArray} {ds : List Bool} {S : PS} (h : RefAt w F B kv dv wv ks ds S) : w.cell? ⟨B, 2, none⟩ = some wv := h.row.cell 2
theorem RefAt.c3 {w : World} {F : Nat → Prop} {B : Nat} {kv dv wv : Value} {ks : List ByteArray} {ds : List Bool} {S : PS} (h : RefAt w F B kv dv wv ks ds S) : w.cell? ⟨B, 3, none⟩ = some (.int .i64 S.fuse) := h.row.cell 3
theorem RefAt.c4 {w : World} {F : Nat → Prop} {B : Nat} {kv dv wv : Value} {ks : List ByteArray} {ds : List Bool} {S : PS} (h : RefAt w F B kv dv wv ks ds S) : w.cell? ⟨B, 4, none⟩ = some (.bool (!S.up)) := h.row.cell 4
theorem RefAt.c5 {w : World} {F : Nat → Prop} {B : Nat} {kv dv wv : Value} {ks : List ByteArray} {ds : List Bool} {S : PS} (h : RefAt w F B kv dv wv ks ds S) : w.cell? ⟨B, 5, none⟩ = some (.int .i64 S.reads) := h.row.cell 5
theorem RefAt.c6 {w : World} {F : Nat → Prop} {B : Nat} {kv dv wv : Value} {ks : List ByteArray} {ds : List Bool} {S : PS} (h : RefAt w F B kv dv wv ks ds S) : w.cell? ⟨B, 6, none⟩ = some (.int .i64 S.writes) := h.row.cell 6
theorem RefAt.setFuse {w : World} {F : Nat → Prop} {B : Nat} {kv dv wv : Value} {ks : List ByteArray} {ds : List Bool} {S : PS} (h : RefAt w F B kv dv wv ks ds S) (x : Int) (hx : -1 ≤ x ∧ x < 9223372036854775808) : RefAt (w.setCell ⟨B, 3, none⟩ (.int .i64 x)) F B kv dv wv ks ds { S with fuse := x } :=
  { h with row := h.row.setL 3 _, kept := owns_off h.kept h.kB _ _, dumb := owns_off h.dumb h.dB _ _, wait := owns_off h.wait h.wB _ _, fuse := hx }
theorem RefAt.setUp {w : World} {F : Nat → Prop} {B : Nat} {kv dv wv : Value} {ks : List ByteArray} {ds : List Bool} {S : PS} (h : RefAt w F B kv dv wv ks ds S) (x : Bool) : RefAt (w.setCell ⟨B, 4, none⟩ (.bool (!x))) F B kv dv wv ks ds { S with up := x } :=
  { h with row := h.row.setL 4 _, kept := owns_off h.kept h.kB _ _, dumb := owns_off h.dumb h.dB _ _, wait := owns_off h.wait h.wB _ _ }
theorem RefAt.setReads {w : World} {F : Nat → Prop} {B : Nat} {kv dv wv : Value} {ks : List ByteArray} {ds : List Bool} {S : PS} (h : RefAt w F B kv dv wv ks ds S) (x : Int) : RefAt (w.setCell ⟨B, 5, none⟩ (.int .i64 x)) F B kv dv wv ks ds { S with reads := x } :=
  { h with row := h.row.setL 5 _, kept := owns_off h.kept h.kB _ _, dumb := owns_off h.dumb h.dB _ _, wait := owns_off h.wait h.wB _ _ }
theorem RefAt.setWrites {w : World} {F : Nat → Prop} {B : Nat} {kv dv wv : Value} {ks : List ByteArray} {ds : List Bool} {S : PS} (h : RefAt w F B kv dv wv ks ds S) (x : Int) : RefAt (w.setCell ⟨B, 6, none⟩ (.int .i64 x)) F B kv dv wv ks ds { S with writes := x } :=
  { h with row := h.row.setL 6 _, kept := owns_off h.kept h.kB _ _, dumb := owns_off h.dumb h.dB _ _, wait := owns_off h.wait h.wB _ _ }
/-- Nothing waits any more. -/
theorem RefAt.setNone {w : World} {F : Nat → Prop} {B : Nat} {kv dv wv : Value} {ks : List ByteArray} {ds : List Bool} {S : PS} (h : RefAt w F B kv dv wv ks ds S) : RefAt (w.setCell ⟨B, 2, none⟩ (.slice none 0 0)) F B kv dv (.slice none 0 0) ks ds { S with wait := [] } :=
  { h with row := h.row.setL 2 _, kept := owns_off h.kept h.kB _ _, dumb := owns_off h.dumb h.dB _ _, wait := World.ownsRow_nil _ _ _ _, fW := fun g hg => (by cases hg), wB := by simp [Apart, Value.ownBlock], kw := fun g _ => by simp [Value.ownBlock], dw := fun g _ => by simp [Value.ownBlock], ats := fun p hp => by cases hp }
theorem getD_set {α : Type} (l : List α) (i j : Nat) (x d : α) (hi : i < l.length) : (l.set i x).getD j d = if j = i then x else l.getD j d := by
  rw [List.getD_eq_getElem?_getD, List.getElem?_set, List.getD_eq_getElem?_getD]
  by_cases e : j = i
  · subst e; simp [hi]
  · rw [if_neg (fun h => e h.symm), if_neg e]
/-- A sector cannot be read; a sector kept anew. -/
theorem RefAt.setDumb {w : World} {F : Nat → Prop} {B g cap i : Nat} {kv wv : Value} {ks : List ByteArray} {ds : List Bool} {S : PS} (h : RefAt w F B kv (.slice (some ⟨g, 0, none⟩) S.kept.length cap) wv ks ds S) (hi : i < S.kept.length) :
    RefAt (w.setCell ⟨g, i, none⟩ (.bool true)) F B kv (.slice (some ⟨g, 0, none⟩) S.kept.length cap) wv ks (ds.set i true) { S with kept := S.kept.set i ByteArray.empty } := by
  have hl : (S.kept.set i ByteArray.empty).length = S.kept.length := List.length_set
  have hd := (owns_set (i := i) h.dumb (.bool true)).1
  rw [← List.map_set] at hd
  refine { h with row := h.row.off (fun e => h.dB (by rw [e]; rfl)) _ _, kept := ?_, dumb := ?_, wait := owns_off h.wait (fun e => h.dw g rfl (by rw [e])) _ _, most := by show (S.kept.set i ByteArray.empty).length ≤ _; rw [hl]; exact h.most, ats := ?_, says := ?_ }
  · show World.ownsRow _ _ _ _ _ (S.kept.set i ByteArray.empty).length _
    rw [hl]
    exact owns_off h.kept (fun e => h.kd g e rfl) _ _
  · show World.ownsRow _ _ _ _ _ (S.kept.set i ByteArray.empty).length _
    rw [hl]
    exact hd
  · show ∀ p ∈ S.wait, p.1 < (S.kept.set i ByteArray.empty).length ∧ p.2.size = 64
    rw [hl]; exact h.ats
  · show ∀ j, j < (S.kept.set i ByteArray.empty).length → (S.kept.set i ByteArray.empty)[j]? = _
    rw [hl]
    intro j hj
    rw [getD_set _ _ _ _ _ (by rw [h.ld]; exact hi), List.getElem?_set]
    by_cases e : j = i
    · subst e; simp [hj]
    · rw [if_neg (fun x => e x.symm), if_neg e]; exact h.says j hj
theorem RefAt.setKept {w : World} {F : Nat → Prop} {B gk ck gd cd i : Nat} {wv : Value} {ks : List ByteArray} {ds : List Bool} {S : PS} {s : ByteArray} (h : RefAt w F B (.slice (some ⟨gk, 0, none⟩) S.kept.length ck) (.slice (some ⟨gd, 0, none⟩) S.kept.length cd) wv ks ds S) (hi : i < S.kept.length) (hs : s.size = 64) :
    RefAt ((w.setCell ⟨gk, i, none⟩ (.string s)).setCell ⟨gd, i, none⟩ (.bool false)) F B (.slice (some ⟨gk, 0, none⟩) S.kept.length ck) (.slice (some ⟨gd, 0, none⟩) S.kept.length cd) wv (ks.set i s) (ds.set i false) { S with kept := S.kept.set i s } := by
  have hl : (S.kept.set i s).length = S.kept.length := List.length_set
  have hne : gk ≠ gd := fun e => h.kd gk rfl (by rw [e]; rfl)
  have hk := (owns_set (i := i) h.kept (.string s)).1
  have hd := (owns_set (i := i) (owns_off h.dumb (b := gk) (fun e => hne (by cases e; rfl)) i (.string s)) (.bool false)).1
  rw [← List.map_set] at hk hd
  refine { h with row := (h.row.off (fun e => h.kB (by rw [e]; rfl)) _ _).off (fun e => h.dB (by rw [e]; rfl)) _ _, kept := ?_, dumb := ?_, wait := owns_off (owns_off h.wait (fun e => h.kw gk rfl (by rw [e])) _ _) (fun e => h.dw gd rfl (by rw [e])) _ _, most := by show (S.kept.set i s).length ≤ _; rw [hl]; exact h.most, ats := ?_, says := ?_, texts := ?_ }
  · show World.ownsRow _ _ _ _ _ (S.kept.set i s).length _
    rw [hl]
    exact owns_off hk (fun e => hne (by cases e; rfl)) _ _
  · show World.ownsRow _ _ _ _ _ (S.kept.set i s).length _
    rw [hl]
    exact hd
  · show ∀ p ∈ S.wait, p.1 < (S.kept.set i s).length ∧ p.2.size = 64
    rw [hl]; exact h.ats
  · show ∀ j, j < (S.kept.set i s).length → (S.kept.set i s)[j]? = _
    rw [hl]
    intro j hj
    rw [getD_set _ _ _ _ _ (by rw [h.ld]; exact hi), getD_set _ _ _ _ _ (by rw [h.lk]; exact hi), List.getElem?_set]
    by_cases e : j = i
    · subst e; simp [hj]
    · rw [if_neg (fun x => e x.symm), if_neg e, if_neg e]; exact h.says j hj
  · intro x hx
    rcases List.mem_or_eq_of_mem_set hx with hx | rfl
    · exact h.texts x hx
    · exact hs
end Go.Proofs.YtldkdoddklfdlaaGreatDoor
