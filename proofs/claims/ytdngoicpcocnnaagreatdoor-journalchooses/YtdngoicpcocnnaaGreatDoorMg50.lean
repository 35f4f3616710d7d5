/- The document's Get, called with any text and any two numbers, tells the number getN and the error getE, and changes nothing. · The document's read, called with a text, a place and a list of widths that fit the text there, tells the numbers, and changes nothing that was there; and sized. · The document's SuperOf, called with any text, tells the superblock superOC and the error superOE, and changes nothing that was there. · The document's Choose: the superblock of two slots' readings. · A list of readings that came in. · The law JournalChooses returns true. -/
import Derived.Test.YtdngoicpcocnnaaGreatDoorMg02
import Derived.Laws.Rows
import Derived.Deep.RegionHeld3
import Derived.Test.YtdngoicpcocnnaaGreatDoorMg25
import Derived.Test.YtdngoicpcocnnaaGreatDoorMg41
import Derived.Test.YtdngoicpcocnnaaGreatDoorMg38
import Derived.Test.YtdngoicpcocnnaaGreatDoorMg40
import Derived.Test.YtdngoicpcocnnaaGreatDoorMg49
namespace Go.Proofs.YtdngoicpcocnnaaGreatDoor
set_option maxRecDepth 20000
open Go.RowKit

theorem rget_noWidth (s : ByteArray) (a k : Int) (h : k < 1 ∨ 6 < k) (w : World) :
    Calls Tryz.prog 95 #[.string s, .int .i64 a, .int .i64 k] w fun e w' => e = .returned (.tuple #[.int .i64 0, .int .i64 1]) ∧ w' = w := by
  rcases h with h | h
  · go_enter Tryz.func95, Tryz.ntmps95
    go_wp2
    go_ret2
    exact ⟨rfl, rfl⟩
  · have h1 : ¬ k < 1 := by omega
    go_enter Tryz.func95, Tryz.ntmps95
    go_wp2
    go_ret2
    exact ⟨rfl, rfl⟩

theorem rget_short (s : ByteArray) (a : Int) (k : Nat) (h1 : 1 ≤ k) (h2 : k ≤ 6) (_hs : s.size ≤ maxLen) (h : a < 0 ∨ (s.size : Int) - k < a) (w : World) :
    Calls Tryz.prog 95 #[.string s, .int .i64 a, .int .i64 k] w fun e w' => e = .returned (.tuple #[.int .i64 0, .int .i64 3]) ∧ w' = w := by
  unfold maxLen at _hs
  have a1 : ¬ (k : Int) < 1 := by omega
  have a2 : ¬ (6 : Int) < k := by omega
  by_cases hn : a < 0
  · clear h
    go_enter Tryz.func95, Tryz.ntmps95
    go_wp2
    go_ret2
    exact ⟨rfl, rfl⟩
  · have h3 : (s.size : Int) - k < a := by omega
    clear h
    by_cases h4 : (s.size : Int) < a
    · go_enter Tryz.func95, Tryz.ntmps95
      go_wp2
      go_ret2
      exact ⟨rfl, rfl⟩
    · have h5 : (s.size : Int) - a < k := by omega
      go_enter Tryz.func95, Tryz.ntmps95
      go_wp2
      go_ret2
      exact ⟨rfl, rfl⟩

set_option maxHeartbeats 400000 in
theorem rget_ok (s : ByteArray) (a : Nat) (k : Nat) (h1 : 1 ≤ k) (h2 : k ≤ 6) (hs : s.size ≤ maxLen) (h : a + k ≤ s.size) (w : World) :
    Calls Tryz.prog 95 #[.string s, .int .i64 a, .int .i64 k] w fun e w' => e = .returned (.tuple #[.int .i64 (leVal ((s.data.toList.drop a).take k)), .int .i64 0]) ∧ w' = w := by
  unfold maxLen at hs
  have a1 : ¬ (k : Int) < 1 := by omega
  have a2 : ¬ (6 : Int) < k := by omega
  have a3 : ¬ (s.size : Int) < a := by omega
  have a4 : ¬ (s.size : Int) - a < k := by omega
  go_enter Tryz.func95, Tryz.ntmps95
  go_wp2
  go_loop [8, 9] (fun x i => ∃ j : Nat, j ≤ k ∧ i = .int .i64 ((j : Int) - 1) ∧ x = .int .i64 (leVal ((s.data.toList.drop (a + j)).take (k - j)))) (fun _ i => (intOf i + 1).toNat)
  case atStart => exact ⟨k, Nat.le_refl _, by go_num, by simp [leVal]⟩
  case round =>
    obtain ⟨j, hj, rfl, rfl⟩ := hrel
    obtain ⟨q, hq⟩ : ∃ q, q = leVal ((s.data.toList.drop (a + j)).take (k - j)) := ⟨_, rfl⟩
    have hq0 : 0 ≤ q := by rw [hq]; exact leVal_nonneg _
    have hqm : q < 281474976710656 := by rw [hq]; exact Int.lt_of_lt_of_le (numAt_lt s (a + j) (k - j)) (pow6 _ (by omega))
    rw [← hq]
    have HQ : Hid (q = leVal ((s.data.toList.drop (a + j)).take (k - j))) := hq
    clear hq
    by_cases hlt : 0 < j
    · obtain ⟨m, rfl⟩ : ∃ m, j = m + 1 := ⟨j - 1, by omega⟩
      rw [show ((m + 1 : Nat) : Int) - 1 = (m : Int) by omega]
      have hix : a + m < s.size := by omega
      have hbl := s[a + m].toNat_lt
      go_wp2
      go_roundw
      case rel =>
        refine ⟨m, by omega, rfl, ?_⟩
        rw [show k - m = (k - (m + 1)) + 1 by omega, numAt_cons s (a + m) _ hix, show a + m + 1 = a + (m + 1) by omega, ← HQ.out, Int.mul_comm, Int.add_comm]
      case measure => simp [intOf]
    · have hj0 : j = 0 := by omega
      subst hj0
      go_wp2
      go_ret2
      refine ⟨?_, rfl⟩
      show Ending.returned (.tuple #[.int .i64 q, .int .i64 0]) = _
      rw [HQ.out]
      rfl

/-- The document's Get, whatever it is handed. -/
theorem rget_any (s : ByteArray) (a k : Int) (hs : s.size ≤ maxLen) (w : World) :
    Calls Tryz.prog 95 #[.string s, .int .i64 a, .int .i64 k] w fun e w' => e = .returned (.tuple #[.int .i64 (getN s a k), .int .i64 (getE s a k)]) ∧ w' = w := by
  by_cases hk : k < 1 ∨ 6 < k
  · rw [getN_no (.inl hk), getE_noWidth hk]
    exact rget_noWidth s a k hk w
  · obtain ⟨m, rfl⟩ := Int.eq_ofNat_of_zero_le (show 0 ≤ k by omega)
    have h1 : 1 ≤ m := by omega
    have h2 : m ≤ 6 := by omega
    by_cases ha : a < 0 ∨ (s.size : Int) - m < a
    · rw [getN_no (.inr ha), getE_short (by omega) (by omega) ha]
      exact rget_short s a m h1 h2 hs ha w
    · obtain ⟨b, rfl⟩ := Int.eq_ofNat_of_zero_le (show 0 ≤ a by omega)
      have hb : b + m ≤ s.size := by omega
      rw [getN_ok h1 h2 hb, getE_ok h1 h2 hb]
      exact rget_ok s b m h1 h2 hs hb w
end Go.Proofs.YtdngoicpcocnnaaGreatDoor

namespace Go.Proofs.YtdngoicpcocnnaaGreatDoor
set_option maxRecDepth 20000
open Go.RowKit Go.Lib

theorem sized_any (s : ByteArray) (n : Nat) (w : World) :
    Calls Tryz.prog 63 #[.string s, .int .i64 n] w fun e w' => e = .returned (.int .i64 (if n < s.size then 4 else if s.size < n then 3 else 0)) ∧ w' = w := by
  by_cases h1 : n < s.size
  · have i1 : (n : Int) < s.size := by omega
    go_enter Tryz.func63, Tryz.ntmps63
    go_wp2
    go_ret
    exact ⟨rfl, rfl⟩
  have i1 : ¬ (n : Int) < s.size := by omega
  by_cases h2 : s.size < n
  · have i2 : (s.size : Int) < n := by omega
    go_enter Tryz.func63, Tryz.ntmps63
    go_wp2
    go_ret
    exact ⟨rfl, rfl⟩
  have i2 : ¬ (s.size : Int) < n := by omega
  go_enter Tryz.func63, Tryz.ntmps63
  go_wp2
  go_ret
  exact ⟨rfl, rfl⟩

theorem infoInt : (Tryz.prog.info? 3).map (fun i => (i.zero, i.size, i.bytes)) = some (some (.int .i64 0), 1, 8) := by kernel_rfl

/-- The numbers of a text from a place on, in their widths. -/
def readL (s : ByteArray) : Nat → List Nat → List Int
  | _, [] => []
  | a, k :: r => leVal ((s.data.toList.drop a).take k) :: readL s (a + k) r
theorem readL_length (s : ByteArray) : ∀ (ws : List Nat) (a : Nat), (readL s a ws).length = ws.length
  | [], _ => rfl
  | k :: r, a => by simp [readL, readL_length s r]
theorem readL_take (s : ByteArray) : ∀ (ws : List Nat) (a j : Nat) (h : j < ws.length), readL s a (ws.take (j + 1)) = readL s a (ws.take j) ++ [leVal ((s.data.toList.drop (a + (ws.take j).sum)).take ws[j])]
  | k :: r, a, 0, _ => by simp [readL]
  | k :: r, a, j + 1, h => by
    have ih := readL_take s r (a + k) j (by simpa using h)
    rw [List.take_succ_cons, List.take_succ_cons, readL, readL, ih]
    simp [Nat.add_assoc]
theorem sum_take (ws : List Nat) (j : Nat) (h : j < ws.length) : (ws.take (j + 1)).sum = (ws.take j).sum + ws[j] := by
  rw [List.take_succ_eq_append_getElem h, List.sum_append, List.sum_singleton]
theorem sum_take_le (ws : List Nat) (j : Nat) : (ws.take j).sum ≤ ws.sum := by
  have := congrArg List.sum (List.take_append_drop j ws)
  rw [List.sum_append] at this
  omega

set_option maxHeartbeats 1000000 in
theorem rread_any (s : ByteArray) (hs : s.size ≤ 4096) (a : Nat) (ws : List Nat) (hk : ∀ i (h : i < ws.length), 1 ≤ ws[i] ∧ ws[i] ≤ 6) (hf : a + ws.sum ≤ s.size) (n : Nat) (hn : ws.length = n) (hn2 : n ≤ 1000) (bb cb : Nat) (w : World) (hbb : bb < w.heap.size)
    (hcb : ∀ i (h : i < ws.length), w.cell? ⟨bb, i, none⟩ = some (.int .i64 (ws[i] : Nat))) :
    Calls Tryz.prog 65 #[.string s, .int .i64 a, .slice (some ⟨bb, 0, none⟩) n cb] w fun e w' =>
      ∃ v, e = .returned v ∧ w'.ownsRow w.heap.size 3 1 v n ((readL s a ws).map (Value.int .i64)) ∧ Below w.heap.size w w' := by
  have HCB : Hid (∀ i (h : i < ws.length), w.cell? ⟨bb, i, none⟩ = some (.int .i64 (ws[i] : Nat))) := hcb
  have HK : Hid (∀ i (h : i < ws.length), 1 ≤ ws[i] ∧ ws[i] ≤ 6) := hk
  have HF : Hid (a + ws.sum ≤ s.size) := hf
  have HN : Hid (ws.length = n) := hn
  clear hcb hk hf hn
  obtain ⟨i0, hi, hz0, hz1, hz2⟩ := info_parts infoInt
  go_enter Tryz.func65, Tryz.ntmps65
  go_wp2
  go_loopw [1, 7, 8] (fun p v i wr => ∃ j : Nat, j ≤ n ∧ i = .int .i64 j ∧ p = .int .i64 ((a + (ws.take j).sum : Nat) : Int) ∧ wr.ownsRow w.heap.size 3 1 v j ((readL s a (ws.take j)).map (Value.int .i64)) ∧ Below w.heap.size w wr) (fun _ _ i _ => n - (Go.RowKit.intOf i).toNat)
  case atStart => exact ⟨0, Nat.zero_le _, rfl, by simp, World.ownsRow_nil _ _ _ _, Below.refl _ _⟩
  case round =>
    obtain ⟨j, hj, rfl, rfl, hown, hb⟩ := hrel
    by_cases hlt : j < n
    · have hjl : j < ws.length := by rw [HN.out]; exact hlt
      obtain ⟨k, hkj⟩ : ∃ k, k = ws[j] := ⟨_, rfl⟩
      obtain ⟨q, hq⟩ : ∃ q, q = a + (ws.take j).sum := ⟨_, rfl⟩
      have c2 : wr.cell? ⟨bb, j, none⟩ = some (.int .i64 k) := by rw [hkj]; exact (hb.cell (p := ⟨bb, j, none⟩) hbb).trans (HCB.out j hjl)
      have hk1 := HK.out j hjl
      rw [← hkj] at hk1
      have hfit : q + k ≤ s.size := by
        have h1 := sum_take ws j hjl
        have h2 := sum_take_le ws (j + 1)
        have h3 := HF.out
        rw [← hkj] at h1
        omega
      have HX : Hid (k = ws[j] ∧ q = a + (ws.take j).sum) := ⟨hkj, hq⟩
      rw [← hq]
      clear hkj hq
      have i1 : (0 : Int) ≤ (j : Int) := by omega
      have i2 : (j : Int) < (n : Int) := by omega
      go_wp2_with fail
      refine (rget_ok s q k hk1.1 hk1.2 (by unfold maxLen; omega) hfit _).mono ?_
      rintro e w' ⟨rfl, rfl⟩
      obtain ⟨x, hx⟩ : ∃ x, x = leVal ((s.data.toList.drop q).take k) := ⟨_, rfl⟩
      rw [← hx]
      have HV : Hid (x = leVal ((s.data.toList.drop q).take k)) := hx
      clear hx
      go_wp2_with (at_builtin; refine wpList_append_own _ rfl _ _ 58 rfl w.heap.size 3 i0 (.int .i64 0) 1 8 Tryz.underlying58 hi hz0 hz1 hz2 rfl (by decide) _ _ _ rfl (hown.alloc _) ⟨w'.heap.size, 0, none⟩ 1 1 [.int .i64 x] rfl rfl ?c1 ?c2 ?c3 ?c4 ?c5 ?_)
      case c1 => intro i u hi; match i, hi with | 0, hi => simp at hi; subst hi; simp [Addr.add]
      case c2 => intro u hu; simp at hu; subst hu; rfl
      case c3 => unfold maxLen; omega
      case c4 => omega
      case c5 => have := hb.size; simp; omega
      intro v' w2 hown' hgrow _
      have hb2 : Below w.heap.size w w2 := (hb.alloc hb.size _).grown hgrow (by have := hb.size; simp; omega) (fun g hg => by
        rcases hown.2 with ⟨rfl, _⟩ | ⟨g', cap, cur, rfl, hg', _⟩
        · simp [Value.ownBlock] at hg
        · simp [Value.ownBlock] at hg; omega)
      clear c2 hown hgrow hb
      have c2 : w2.cell? ⟨bb, j, none⟩ = some (.int .i64 k) := by rw [HX.out.1]; exact (hb2.cell (p := ⟨bb, j, none⟩) hbb).trans (HCB.out j hjl)
      go_wp2
      go_roundw
      case rel =>
        refine ⟨j + 1, by omega, by go_num, ?_, ?_, hb2⟩
        · rw [sum_take ws j hjl, ← HX.out.1, ← Nat.add_assoc, ← HX.out.2]; go_num
        · rw [readL_take s ws a j hjl, List.map_append, ← HX.out.1, ← HX.out.2, ← HV.out]; exact hown'
      case measure => simp [Go.RowKit.intOf]; omega
    · obtain rfl : j = n := by omega
      have HT : Hid (ws.take j = ws) := List.take_of_length_le (by rw [HN.out]; exact Nat.le_refl _)
      go_wp2
      go_ret
      rw [HT.out] at hown
      exact ⟨_, rfl, hown, hb⟩
end Go.Proofs.YtdngoicpcocnnaaGreatDoor

namespace Go.Proofs.YtdngoicpcocnnaaGreatDoor
set_option maxRecDepth 20000
open Go.RowKit Go.Lib

theorem load_super (w : World) (g : Nat) (cs : Array Value) (hg : w.heap[g]? = some (.cells cs 33 (0, 0))) (hs : cs.size = 5) :
    (loadVar 33 ⟨g, 0, none⟩).run Tryz.prog w = .ok (.agg cs) w :=
  run_loadVar_row (P := Tryz.prog) w g 33 33 cs (0, 0) _ hg Tryz.underlying33 rfl (by rw [hs]; kernel_rfl)
theorem super_ret (tmps : Array Value) (w w' : World) (y : Int) (cs old : Array Value) (h1 : tmps.getD 2 undef = .pointer (some ⟨w.heap.size, 0, none⟩)) (h2 : tmps.getD 3 undef = .int .i64 y) (hg : w'.heap[w.heap.size]? = some (.cells old 33 (0, 0))) (hs : cs.size = 5) (hb : Below w.heap.size w w') :
    bodyPost Tryz.prog Tryz.f30 (fun e w'' => e = .returned (.tuple #[.agg cs, .int .i64 y]) ∧ Below w.heap.size w w'') .ret { tmps := tmps, defers := [] } (w'.setRow w.heap.size cs) := by
  have hr := load_super (w'.setRow w.heap.size cs) w.heap.size cs (setRow_heap _ _ _ _ _ _ hg) hs
  simp at h1 h2
  exact bodyPost_ret (v := .tuple #[.agg cs, .int .i64 y]) (by simp [results, Tryz.results30, asAddr, hr, h1, h2]) rfl ⟨rfl, hb.trans ⟨rfl, rfl, rfl, by simp [World.setRow], fun k hk => setRow_other _ _ _ _ (by omega)⟩⟩

set_option maxHeartbeats 1000000 in
theorem rsuperOf_size (s : ByteArray) (y : Int) (hne : (y != 0) = true) (hz : ∀ w, Calls Tryz.prog 63 #[.string s, .int .i64 448] w fun e w' => e = .returned (.int .i64 y) ∧ w' = w) (w : World) :
    Calls Tryz.prog 30 #[.string s] w fun e w' => e = .returned (.tuple #[.agg #[.int .i64 0, .int .i64 0, .int .i64 0, .int .i64 0, .string ⟨#[]⟩], .int .i64 y]) ∧ Below w.heap.size w w' := by
  have g0 := heap_alloc_new w (.cells #[.int .i64 0, .int .i64 0, .int .i64 0, .int .i64 0, .string ⟨#[]⟩] 33)
  go_enter Tryz.func30, Tryz.ntmps30
  go_wp2_with fail
  refine (hz _).mono ?_
  rintro e w' ⟨rfl, rfl⟩
  go_wp2_with (refine wpList_store_row rfl 33 _ _ rfl w.heap.size #[.int .i64 0, .int .i64 0, .int .i64 0, .int .i64 0, .string ⟨#[]⟩] rfl rfl 33 _ g0 (by kernel_rfl) rfl (by simp [Value.oneCell']) ?_)
  exact super_ret _ w _ y _ _ rfl rfl g0 rfl (below_newS w _)

theorem rset5 (w : World) (g : Nat) (t : TypeId) (v0 v1 v2 v3 v4 : Value) (h : w.heap[g]? = some (.cells #[.int .i64 0, .int .i64 0, .int .i64 0, .int .i64 0, .string ⟨#[]⟩] t (0, 0))) :
    (((((w.setCell ⟨g, 0, none⟩ v0).setCell ⟨g, 1, none⟩ v1).setCell ⟨g, 2, none⟩ v2).setCell ⟨g, 3, none⟩ v3).setCell ⟨g, 4, none⟩ v4).heap[g]? = some (.cells #[v0, v1, v2, v3, v4] t (0, 0)) := by
  have e0 := heap_setCell_same w g 0 _ t v0 h
  have e1 := heap_setCell_same _ g 1 _ t v1 e0
  have e2 := heap_setCell_same _ g 2 _ t v2 e1
  have e3 := heap_setCell_same _ g 3 _ t v3 e2
  have e4 := heap_setCell_same _ g 4 _ t v4 e3
  exact e4.trans (by simp)
theorem below5 {w w0 : World} {g : Nat} (h : Below g w0 w) (v0 v1 v2 v3 v4 : Value) : Below g w0 (((((w.setCell ⟨g, 0, none⟩ v0).setCell ⟨g, 1, none⟩ v1).setCell ⟨g, 2, none⟩ v2).setCell ⟨g, 3, none⟩ v3).setCell ⟨g, 4, none⟩ v4) :=
  ((((h.setCell (p := ⟨g, 0, none⟩) (Nat.le_refl _) v0).setCell (p := ⟨g, 1, none⟩) (Nat.le_refl _) v1).setCell (p := ⟨g, 2, none⟩) (Nat.le_refl _) v2).setCell (p := ⟨g, 3, none⟩) (Nat.le_refl _) v3).setCell (p := ⟨g, 4, none⟩) (Nat.le_refl _) v4
/-- The widths of a superblock's numbers. -/
def superWs : List Nat := [6, 6, 6, 4]
theorem superWs_fit : ∀ i (h : i < superWs.length), 1 ≤ superWs[i] ∧ superWs[i] ≤ 6 := by decide
theorem superWs_cells : ∀ i (h : i < superWs.length), (#[.int .i64 6, .int .i64 6, .int .i64 6, .int .i64 4] : Array Value)[i]? = some (.int .i64 (superWs[i] : Nat)) := by
  intro i h
  have h4 : i < 4 := h
  have : i = 0 ∨ i = 1 ∨ i = 2 ∨ i = 3 := by omega
  rcases this with rfl | rfl | rfl | rfl <;> rfl

set_option maxHeartbeats 1000000 in
theorem rsuperOf_rest (s : ByteArray) (h : s.size = 448) (hz : ((s.extract 54 448).toList == (noughtsS 394).toList) = false) (w : World) :
    Calls Tryz.prog 30 #[.string s] w fun e w' => e = .returned (.tuple #[.agg #[.int .i64 0, .int .i64 0, .int .i64 0, .int .i64 0, .string ⟨#[]⟩], .int .i64 5]) ∧ Below w.heap.size w w' := by
  have g0 := heap_alloc_new w (.cells #[.int .i64 0, .int .i64 0, .int .i64 0, .int .i64 0, .string ⟨#[]⟩] 33)
  have hb0 := below_newS w (.cells #[.int .i64 0, .int .i64 0, .int .i64 0, .int .i64 0, .string ⟨#[]⟩] 33)
  go_enter Tryz.func30, Tryz.ntmps30
  go_wp2_with fail
  refine (sized_any s 448 _).mono ?_
  rintro e w' ⟨rfl, rfl⟩
  rw [if_neg (by omega), if_neg (by omega)]
  have i1 : (54 : Int) ≤ s.size := by omega
  generalize w.alloc (.cells #[.int .i64 0, .int .i64 0, .int .i64 0, .int .i64 0, .string ⟨#[]⟩] 33) = w0 at *
  go_wp2_with fail
  go_region_held3 (fun _ => True) (simp [go_sem, *]) (first | (go_at_call 64; refine (noughts_any 394 (by decide) _).mono ?_; rintro e w1 ⟨rfl, hb1⟩))
  have hlt := lt_of_block g0
  have g1 : w1.heap[w.heap.size]? = _ := (hb1.block w.heap.size (by simp; omega)).trans g0
  have hbw : Below w.heap.size w w1 := by
    refine Below.trans ?_ (hb1.mono (by simp; omega))
    repeat (first | exact hb0 | apply Below.drew)
  clear g0 hb0 hb1
  go_wp2_with (refine wpList_store_row rfl 33 _ _ rfl w.heap.size #[.int .i64 0, .int .i64 0, .int .i64 0, .int .i64 0, .string ⟨#[]⟩] rfl rfl 33 _ g1 (by kernel_rfl) rfl (by simp [Value.oneCell']) ?_)
  exact super_ret _ w _ 5 _ _ rfl rfl g1 rfl hbw

set_option maxHeartbeats 2000000 in
theorem rsuperOf_full (s : ByteArray) (h : s.size = 448) (hz : ((s.extract 54 448).toList == (noughtsS 394).toList) = true) (w : World) :
    Calls Tryz.prog 30 #[.string s] w fun e w' => e = .returned (.tuple #[.agg (superCells s), .int .i64 0]) ∧ Below w.heap.size w w' := by
  have g0 := heap_alloc_new w (.cells #[.int .i64 0, .int .i64 0, .int .i64 0, .int .i64 0, .string ⟨#[]⟩] 33)
  have hb0 := below_newS w (.cells #[.int .i64 0, .int .i64 0, .int .i64 0, .int .i64 0, .string ⟨#[]⟩] 33)
  go_enter Tryz.func30, Tryz.ntmps30
  go_wp2_with fail
  refine (sized_any s 448 _).mono ?_
  rintro e w' ⟨rfl, rfl⟩
  rw [if_neg (by omega), if_neg (by omega)]
  have i1 : (54 : Int) ≤ s.size := by omega
  generalize w.alloc (.cells #[.int .i64 0, .int .i64 0, .int .i64 0, .int .i64 0, .string ⟨#[]⟩] 33) = w0 at *
  go_wp2_with fail
  go_region_held3 (fun _ => True) (simp [go_sem, *]) (first | (go_at_call 64; refine (noughts_any 394 (by decide) _).mono ?_; rintro e w1 ⟨rfl, hb1⟩))
  have hlt := lt_of_block g0
  have g1 : w1.heap[w.heap.size]? = _ := (hb1.block w.heap.size (by simp; omega)).trans g0
  have hbw : Below w.heap.size w w1 := by
    refine Below.trans ?_ (hb1.mono (by simp; omega))
    repeat (first | exact hb0 | apply Below.drew)
  clear g0 hb0 hb1
  have hlt1 := lt_of_block g1
  have hwi := heap_alloc_new w1 (.cells #[.int .i64 6, .int .i64 6, .int .i64 6, .int .i64 4] 3)
  have g2 := (Below.heap_alloc w1 (.cells #[.int .i64 6, .int .i64 6, .int .i64 6, .int .i64 4] 3) w.heap.size hlt1).trans g1
  have hbv := hbw.alloc (by omega) (.cells #[.int .i64 6, .int .i64 6, .int .i64 6, .int .i64 4] 3)
  have hsz : w1.heap.size < (w1.alloc (.cells #[.int .i64 6, .int .i64 6, .int .i64 6, .int .i64 4] 3)).heap.size := by simp
  clear g1 hbw
  go_wp2_with fail
  generalize w1.alloc (.cells #[.int .i64 6, .int .i64 6, .int .i64 6, .int .i64 4] 3) = w2 at *
  refine (rread_any s (by omega) 0 superWs superWs_fit (by rw [h]; decide) 4 rfl (by decide) w1.heap.size 4 _ hsz (fun i hi => by rw [cell_of_row _ _ _ _ _ _ hwi]; exact superWs_cells i hi)).mono ?_
  rintro e w3 ⟨v, rfl, hown, hb3⟩
  have hex : ∃ g cap, v = .slice (some ⟨g, 0, none⟩) 4 cap := by
    rcases hown.2 with ⟨_, h⟩ | ⟨g, cap, cur, h, _⟩
    · omega
    · exact ⟨g, cap, h⟩
  obtain ⟨g, cap, rfl⟩ := hex
  have hL : (readL s 0 superWs).map (Value.int .i64) = [.int .i64 (leVal ((s.data.toList.drop 0).take 6)), .int .i64 (leVal ((s.data.toList.drop 6).take 6)), .int .i64 (leVal ((s.data.toList.drop 12).take 6)), .int .i64 (leVal ((s.data.toList.drop 18).take 4))] := rfl
  rw [hL] at hown
  have g3 := (hb3.block w.heap.size (by omega)).trans g2
  have hb4 := hbv.trans (hb3.mono (by omega))
  have c0 := hown.cellAt 0 (by decide)
  have c1 := hown.cellAt 1 (by decide)
  have c2 := hown.cellAt 2 (by decide)
  have c3 := hown.cellAt 3 (by decide)
  have hgne : g ≠ w.heap.size := by
    rcases hown.2 with ⟨h', _⟩ | ⟨g', cap', cur, h', hb', _⟩
    · simp at h'
    · simp only [Value.slice.injEq, Option.some.injEq, Addr.mk.injEq, and_true, true_and] at h'
      have := h'.1
      omega
  have hgne' := hgne.symm
  clear hown hb3 hbv g2 hwi
  simp only [List.getElem?_cons_zero, List.getElem?_cons_succ] at c0 c1 c2 c3
  obtain ⟨x0, hx0⟩ : ∃ x, x = leVal ((s.data.toList.drop 0).take 6) := ⟨_, rfl⟩
  rw [← hx0] at c0
  obtain ⟨x1, hx1⟩ : ∃ x, x = leVal ((s.data.toList.drop 6).take 6) := ⟨_, rfl⟩
  rw [← hx1] at c1
  obtain ⟨x2, hx2⟩ : ∃ x, x = leVal ((s.data.toList.drop 12).take 6) := ⟨_, rfl⟩
  rw [← hx2] at c2
  obtain ⟨x3, hx3⟩ : ∃ x, x = leVal ((s.data.toList.drop 18).take 4) := ⟨_, rfl⟩
  rw [← hx3] at c3
  have HX : Hid (superCells s = #[.int .i64 x0, .int .i64 x1, .int .i64 x2, .int .i64 x3, .string (s.extract 22 54)]) := by
    show superCells s = _
    rw [hx0, hx1, hx2, hx3]; rfl
  clear hx0 hx1 hx2 hx3
  have i3 : (22 : Int) ≤ 54 := by decide
  have d0 : w3.cell? ⟨w.heap.size, 0, none⟩ = some (.int .i64 0) := by simp [World.cell?, g3]
  have d1 : w3.cell? ⟨w.heap.size, 1, none⟩ = some (.int .i64 0) := by simp [World.cell?, g3]
  have d2 : w3.cell? ⟨w.heap.size, 2, none⟩ = some (.int .i64 0) := by simp [World.cell?, g3]
  have d3 : w3.cell? ⟨w.heap.size, 3, none⟩ = some (.int .i64 0) := by simp [World.cell?, g3]
  have d4 : w3.cell? ⟨w.heap.size, 4, none⟩ = some (.string ⟨#[]⟩) := by simp [World.cell?, g3]
  have hfz : ∀ i, w3.frozen? ⟨w.heap.size, i, none⟩ = false := fun i => by simp [World.frozen?, g3]
  have i4 : (54 : Int) ≤ s.size := by omega
  go_wp2_with fail
  go_region_held3 (fun w' => w'.cell? ⟨g, 0, none⟩ = some (.int .i64 x0) ∧ w'.cell? ⟨g, 1, none⟩ = some (.int .i64 x1) ∧ w'.cell? ⟨g, 2, none⟩ = some (.int .i64 x2) ∧ w'.cell? ⟨g, 3, none⟩ = some (.int .i64 x3)) (simp [go_sem, *]) (fail)
  have k0 := rset5 w3 w.heap.size 33 (.int .i64 x0) (.int .i64 x1) (.int .i64 x2) (.int .i64 x3) (.string (s.extract 22 54)) g3
  rw [← HX.out] at k0
  have kb := below5 hb4 (.int .i64 x0) (.int .i64 x1) (.int .i64 x2) (.int .i64 x3) (.string (s.extract 22 54))
  clear hgne hgne' c0 c1 c2 c3 d0 d1 d2 d3 d4 hfz hb4 g3
  generalize (((((w3.setCell ⟨w.heap.size, 0, none⟩ (.int .i64 x0)).setCell ⟨w.heap.size, 1, none⟩ (.int .i64 x1)).setCell ⟨w.heap.size, 2, none⟩ (.int .i64 x2)).setCell ⟨w.heap.size, 3, none⟩ (.int .i64 x3)).setCell ⟨w.heap.size, 4, none⟩ (.string (s.extract 22 54))) = w4 at *
  go_wp2_with fail
  have hr := load_super w4.drew w.heap.size (superCells s) k0 rfl
  exact bodyPost_ret (v := .tuple #[.agg (superCells s), .int .i64 0]) (by simp [results, Tryz.results30, asAddr, hr]) rfl ⟨rfl, kb.drew⟩

theorem noughts_all (t : ByteArray) (n : Nat) (h : t.size = n) : (t.toList == (noughtsS n).toList) = allZ t := by
  have hl : t.data.toList.length = n := by simpa using h
  rw [Bool.eq_iff_iff]
  simp only [beq_iff_eq, ByteArray.toList_eq, allZ, List.all_eq_true]
  have hn : (noughtsS n).data.toList = List.replicate n 0 := by simp [noughtsS, strOfNums]
  rw [hn, List.eq_replicate_iff]
  constructor
  · rintro ⟨_, h⟩ x hx
    simpa using h x hx
  · intro h
    exact ⟨hl, fun x hx => by simpa using h x hx⟩

theorem rsuperOf_any (s : ByteArray) (w : World) :
    Calls Tryz.prog 30 #[.string s] w fun e w' => e = .returned (.tuple #[.agg (superOC s), .int .i64 (superOE s)]) ∧ Below w.heap.size w w' := by
  by_cases h1 : 448 < s.size
  · have he : superOE s = 4 := by simp [superOE, h1]
    rw [superOC_no (by rw [he]; decide), he]
    exact rsuperOf_size s 4 rfl (fun w => by have := sized_any s 448 w; rw [if_pos h1] at this; exact this) w
  by_cases h2 : s.size < 448
  · have he : superOE s = 3 := by simp [superOE, h1, h2]
    rw [superOC_no (by rw [he]; decide), he]
    exact rsuperOf_size s 3 rfl (fun w => by have := sized_any s 448 w; rw [if_neg h1, if_pos h2] at this; exact this) w
  have h48 : s.size = 448 := by omega
  have hq := noughts_all (s.extract 54 448) 394 (by simp [h48])
  by_cases h4 : allZ (s.extract 54 448) = true
  case neg =>
    have he : superOE s = 5 := by rw [superOE, if_neg h1, if_neg h2, if_neg h4]
    rw [superOC_no (by rw [he]; decide), he]
    exact rsuperOf_rest s h48 (by rw [hq]; exact Bool.eq_false_iff.2 h4) w
  have he : superOE s = 0 := by rw [superOE, if_neg h1, if_neg h2, if_pos h4]
  rw [superOC_yes he, he]
  exact rsuperOf_full s h48 (by rw [hq]; exact h4) w
end Go.Proofs.YtdngoicpcocnnaaGreatDoor

namespace Go.Proofs.YtdngoicpcocnnaaGreatDoor
set_option maxRecDepth 20000
open Go.RowKit

theorem rcho_ret (tmps : Array Value) (g : Nat) (w' : World) (cs : Array Value) (b : Bool) (R : Ending → World → Prop) (h1 : tmps.getD 4 undef = .pointer (some ⟨g, 0, none⟩)) (h2 : tmps.getD 5 undef = .bool b) (hg : w'.heap[g]? = some (.cells cs 33 (0, 0))) (hs : cs.size = 5) (hR : R (.returned (.tuple #[.agg cs, .bool b])) w') :
    bodyPost Tryz.prog Tryz.f12 R .ret { tmps := tmps, defers := [] } w' := by
  have hr := run_loadVar_row (P := Tryz.prog) w' g 33 33 cs (0, 0) _ hg Tryz.underlying33 rfl (by rw [hs]; kernel_rfl)
  simp at h1 h2
  exact bodyPost_ret (v := .tuple #[.agg cs, .bool b]) (by simp [results, Tryz.results12, asAddr, hr, h1, h2]) rfl hR
set_option maxHeartbeats 4000000 in
theorem rcho_any (v : Value) (l : List Rg) (live : Int) (w : World) (hv : Rgs w v l) :
    Calls Tryz.prog 12 #[v, .int .i64 live] w fun e w' => e = .returned (.tuple #[.agg (osp (chO l live)).arr, .bool (chO l live).isSome]) ∧ Below w.heap.size w w' := by
  obtain ⟨oa, ca, rfl⟩ := hv.form
  have HV : Hid (Rgs w (.slice oa l.length ca) l) := hv
  obtain ⟨m, hm⟩ : ∃ m : Nat, m = min 2 l.length := ⟨_, rfl⟩
  have HM : Hid (m = min 2 l.length ∧ chO l live = chN l live m) := ⟨hm, by rw [hm]; rfl⟩
  have hm2 : m ≤ 2 := by omega
  rw [HM.out.2]
  clear hv hm
  have HI : Hid (ChR w l live 0 ((w.alloc (.cells #[.int .i64 0, .int .i64 0, .int .i64 0, .int .i64 0, .string ⟨#[]⟩] 33)).alloc (.cells #[.int .i64 0, .int .i64 0, .int .i64 0, .int .i64 0, .string ⟨#[]⟩] 33)) false Sp.zero) := ⟨rfl, rfl, ((Below.refl _ _).alloc (Nat.le_refl _) _).alloc (by simp) _, heap_alloc2_old w _ _, heap_alloc2_new w _ _⟩
  obtain ⟨X, hX⟩ : ∃ X, X = osp (chN l live m) := ⟨_, rfl⟩
  obtain ⟨Y, hY⟩ : ∃ Y, Y = (chN l live m).isSome := ⟨_, rfl⟩
  rw [← hX, ← hY]
  have HX : Hid (X = osp (chN l live m) ∧ Y = (chN l live m).isSome) := ⟨hX, hY⟩
  clear hX hY
  go_enter Tryz.func12, Tryz.ntmps12
  go_wp2_with fail
  go_loopw [7, 8] (fun fv iv wr => ∃ (j : Nat) (fnd : Bool) (bs : Sp), j ≤ m ∧ iv = .int .i64 (j : Int) ∧ fv = .bool fnd ∧ Hid (ChR w l live j wr fnd bs)) (fun _ iv _ => m - (intOf iv).toNat)
  case atStart => exact ⟨0, false, Sp.zero, Nat.zero_le _, rfl, rfl, HI⟩
  case round =>
    clear HI
    obtain ⟨j, fnd, bs, hj, rfl, rfl, HR⟩ := hrel
    by_cases hlt : j < m
    · have hjl : j < l.length := by have := HM.out.1; omega
      have j1 : (j : Int) < l.length := by omega
      have j2 : (j : Int) < 2 := by omega
      obtain ⟨g, o, rfl, hg, hat⟩ := HV.out.at hjl
      have hgw := Nat.lt_of_lt_of_le hg HR.out.below.size
      obtain ⟨d0, _, _, d3, _, _, _, _, _, d9⟩ := hat.keep (HR.out.below.block g hg)
      have hs := fun W => rsuperOf_any l[j].body W
      simp only [superOC_arr] at hs
      have HL : Hid (l[j]? = some l[j]) := List.getElem?_eq_getElem hjl
      have HS : Hid (sinB l[j] (j : Int) live = decide (l[j].ok = true ∧ l[j].h.v2 = 1 ∧ superOE l[j].body = 0 ∧ (spOf l[j].body).ep.tmod 2 = (j : Int) ∧ (spOf l[j].body).lv = live)) := rfl
      have HY1 : Hid (∀ q, sinB l[j] (j : Int) live = q → q = true → fnd = false ∨ bs.ep < (spOf l[j].body).ep → chN l live (j + 1) = some (spOf l[j].body)) := fun q hq h h2 => chN_yes HL.out (hq.trans h) (by rw [← HR.out.fndE, ← HR.out.bsE]; exact h2)
      have HN1 : Hid (sinB l[j] (j : Int) live = false → chN l live (j + 1) = chN l live j) := fun h => chN_no HL.out (.inl h)
      have HN2 : Hid (fnd = true → ¬ bs.ep < (spOf l[j].body).ep → chN l live (j + 1) = chN l live j) := fun h h2 => chN_no HL.out (.inr ⟨by rw [← HR.out.fndE]; exact h, by rw [← HR.out.bsE]; exact h2⟩)
      clear hat HL
      generalize l[j].ok = ok at *
      generalize l[j].h.v2 = kd at *
      generalize hE : superOE l[j].body = E at *
      generalize spOf l[j].body = c at *
      generalize sinB l[j] (j : Int) live = q at *
      generalize l[j].body = bdy at *
      clear hE
      obtain ⟨c0, c1, c2, c3, rt⟩ := c
      simp only [Sp.arr] at hs
      have hway : q = true ∧ ok = true ∧ (kd != 1) = false ∧ (E != 0) = false ∧ (c1.tmod 2 != (j : Int)) = false ∧ (c3 != live) = false ∨ q = false ∧ (ok = false ∨ ok = true ∧ (kd != 1) = true ∨ ok = true ∧ (kd != 1) = false ∧ (E != 0) = true ∨ ok = true ∧ (kd != 1) = false ∧ (E != 0) = false ∧ (c1.tmod 2 != (j : Int)) = true ∨ ok = true ∧ (kd != 1) = false ∧ (E != 0) = false ∧ (c1.tmod 2 != (j : Int)) = false ∧ (c3 != live) = true) := by
        have hq := HS.out
        by_cases h1 : ok = true
        · by_cases h2 : kd = 1
          · by_cases h3 : E = 0
            · by_cases h4 : c1.tmod 2 = (j : Int)
              · by_cases h5 : c3 = live
                · exact .inl ⟨by rw [hq]; exact decide_eq_true ⟨h1, h2, h3, h4, h5⟩, h1, by simp [h2], by simp [h3], by simp [h4], by simp [h5]⟩
                · exact .inr ⟨by rw [hq]; exact decide_eq_false fun h => h5 h.2.2.2.2, .inr (.inr (.inr (.inr ⟨h1, by simp [h2], by simp [h3], by simp [h4], by simpa using h5⟩)))⟩
              · exact .inr ⟨by rw [hq]; exact decide_eq_false fun h => h4 h.2.2.2.1, .inr (.inr (.inr (.inl ⟨h1, by simp [h2], by simp [h3], by simpa using h4⟩)))⟩
            · exact .inr ⟨by rw [hq]; exact decide_eq_false fun h => h3 h.2.2.1, .inr (.inr (.inl ⟨h1, by simp [h2], by simpa using h3⟩))⟩
          · exact .inr ⟨by rw [hq]; exact decide_eq_false fun h => h2 h.2.1, .inr (.inl ⟨h1, by simpa using h2⟩)⟩
        · exact .inr ⟨by rw [hq]; exact decide_eq_false fun h => h1 h.1, .inl (by simpa using h1)⟩
      clear HS
      go_wp2_with fail
      refine (hs _).mono ?_
      rintro e w2 ⟨rfl, hb2⟩
      have e0 := (hb2.cell (p := ⟨g, o + j * 10, none⟩) hgw).trans d0
      have e3 := (hb2.cell (p := ⟨g, o + j * 10 + 3, none⟩) hgw).trans d3
      have hgw2 : g < w2.heap.size := Nat.lt_of_lt_of_le hgw hb2.size
      have hbw2 : Below w.heap.size w w2 := HR.out.below.trans (hb2.mono HR.out.below.size)
      have gres := (hb2.block _ (lt_of_block HR.out.res)).trans HR.out.res
      have gbest := (hb2.block _ (lt_of_block HR.out.best)).trans HR.out.best
      have HO : Hid (fnd = (chN l live j).isSome ∧ bs = osp (chN l live j)) := ⟨HR.out.fndE, HR.out.bsE⟩
      clear hs hb2 d0 d3 d9 HR HV
      obtain ⟨b0, b1, b2, b3, br⟩ := bs
      unfold Sp.arr at gbest
      have hlt2 := lt_of_block gbest
      have gc : (w2.alloc (.cells #[.int .i64 c0, .int .i64 c1, .int .i64 c2, .int .i64 c3, .string rt] 33)).heap[w2.heap.size]? = some (.cells #[.int .i64 c0, .int .i64 c1, .int .i64 c2, .int .i64 c3, .string rt] 33 (0, 0)) := heap_alloc_new w2 _
      have hb3 : Below w.heap.size w (w2.alloc (.cells #[.int .i64 c0, .int .i64 c1, .int .i64 c2, .int .i64 c3, .string rt] 33)) := hbw2.alloc (by omega) _
      have gr3 : (w2.alloc (.cells #[.int .i64 c0, .int .i64 c1, .int .i64 c2, .int .i64 c3, .string rt] 33)).heap[w.heap.size]? = some (.cells #[.int .i64 0, .int .i64 0, .int .i64 0, .int .i64 0, .string ⟨#[]⟩] 33 (0, 0)) := (Below.heap_alloc _ _ _ (by omega)).trans gres
      have gb3 : (w2.alloc (.cells #[.int .i64 c0, .int .i64 c1, .int .i64 c2, .int .i64 c3, .string rt] 33)).heap[w.heap.size + 1]? = some (.cells #[.int .i64 b0, .int .i64 b1, .int .i64 b2, .int .i64 b3, .string br] 33 (0, 0)) := (Below.heap_alloc _ _ _ hlt2).trans gbest
      have y0 : (w2.alloc (.cells #[.int .i64 c0, .int .i64 c1, .int .i64 c2, .int .i64 c3, .string rt] 33)).cell? ⟨g, o + j * 10, none⟩ = some (.bool ok) := (World.cell?_of_block (a := ⟨g, o + j * 10, none⟩) (Below.heap_alloc w2 _ g hgw2)).trans e0
      have y3 : (w2.alloc (.cells #[.int .i64 c0, .int .i64 c1, .int .i64 c2, .int .i64 c3, .string rt] 33)).cell? ⟨g, o + j * 10 + 3, none⟩ = some (.int .i64 kd) := (World.cell?_of_block (a := ⟨g, o + j * 10 + 3, none⟩) (Below.heap_alloc w2 _ g hgw2)).trans e3
      have z1 : (w2.alloc (.cells #[.int .i64 c0, .int .i64 c1, .int .i64 c2, .int .i64 c3, .string rt] 33)).cell? ⟨w.heap.size + 1, 1, none⟩ = some (.int .i64 b1) := cell_of_row _ _ 1 _ _ _ gb3
      have HN : Hid (chN l live (j + 1) = chN l live j → ChR w l live (j + 1) (w2.alloc (.cells #[.int .i64 c0, .int .i64 c1, .int .i64 c2, .int .i64 c3, .string rt] 33)) fnd ⟨b0, b1, b2, b3, br⟩) := fun h => ⟨by rw [h]; exact HO.out.1, by rw [h]; exact HO.out.2, hb3, gr3, gb3⟩
      have HYs : Hid (chN l live (j + 1) = some ⟨c0, c1, c2, c3, rt⟩ → ChR w l live (j + 1) ((w2.alloc (.cells #[.int .i64 c0, .int .i64 c1, .int .i64 c2, .int .i64 c3, .string rt] 33)).setRow (w.heap.size + 1) #[.int .i64 c0, .int .i64 c1, .int .i64 c2, .int .i64 c3, .string rt]) true ⟨c0, c1, c2, c3, rt⟩) := fun h => ⟨by rw [h]; rfl, by rw [h]; rfl, below_setRow hb3 (by omega) _, (setRow_other _ _ _ _ (by omega)).trans gr3, setRow_heap _ _ _ _ _ _ gb3⟩
      clear hbw2 gres gbest hb3 gr3 e0 e3
      rcases hway with ⟨hq, rfl, k2, k3, k4, k5⟩ | ⟨hq, hw⟩
      · have HYe : Hid _ := HY1.out q rfl hq
        cases fnd with
        | false =>
          have HF : Hid _ := HYs.out (HYe.out (.inl rfl))
          clear HN HYs HO HYe HY1 HN1 HN2 hq z1
          go_wp2_with (first | refine wpList_load_row rfl 33 _ rfl w2.heap.size rfl 33 _ (0, 0) _ gc Tryz.underlying33 rfl (by kernel_rfl) ?_ | refine wpList_store_row rfl 33 _ _ rfl (w.heap.size + 1) #[.int .i64 c0, .int .i64 c1, .int .i64 c2, .int .i64 c3, .string rt] rfl rfl 33 _ gb3 (by kernel_rfl) rfl (by simp [Value.oneCell']) ?_)
          go_roundw
          case rel => exact ⟨j + 1, true, ⟨c0, c1, c2, c3, rt⟩, by omega, by go_num, rfl, HF⟩
          case measure => simp [intOf]; omega
        | true =>
          by_cases hcmp : b1 < c1
          · have HF : Hid _ := HYs.out (HYe.out (.inr hcmp))
            have k1 : decide (b1 < c1) = true := by simpa using hcmp
            clear HN HYs HO HYe HY1 HN1 HN2 hq hcmp
            go_wp2_with (first | refine wpList_load_row rfl 33 _ rfl w2.heap.size rfl 33 _ (0, 0) _ gc Tryz.underlying33 rfl (by kernel_rfl) ?_ | refine wpList_store_row rfl 33 _ _ rfl (w.heap.size + 1) #[.int .i64 c0, .int .i64 c1, .int .i64 c2, .int .i64 c3, .string rt] rfl rfl 33 _ gb3 (by kernel_rfl) rfl (by simp [Value.oneCell']) ?_)
            go_roundw
            case rel => exact ⟨j + 1, true, ⟨c0, c1, c2, c3, rt⟩, by omega, by go_num, rfl, HF⟩
            case measure => simp [intOf]; omega
          · have HF : Hid _ := HN.out (HN2.out rfl (by simpa using hcmp))
            have k1 : decide (b1 < c1) = false := by simpa using hcmp
            clear HN HYs HO HYe HY1 HN1 HN2 hq hcmp gc gb3
            go_wp2
            go_roundw
            case rel => exact ⟨j + 1, true, ⟨b0, b1, b2, b3, br⟩, by omega, by go_num, rfl, HF⟩
            case measure => simp [intOf]; omega
      · have HF : Hid _ := HN.out (HN1.out hq)
        clear HN HYs HO HY1 HN1 HN2 hq gc gb3 z1
        rcases hw with rfl | ⟨rfl, k2⟩ | ⟨rfl, k2, k3⟩ | ⟨rfl, k2, k3, k4⟩ | ⟨rfl, k2, k3, k4, k5⟩
        all_goals
          go_wp2
          go_roundw
          case rel => exact ⟨j + 1, fnd, ⟨b0, b1, b2, b3, br⟩, by omega, by go_num, rfl, HF⟩
          case measure => simp [intOf]; omega
    · have hmj : m = j := by omega
      have gres := HR.out.res
      have gbest := HR.out.best
      have hway : (¬ (j : Int) < l.length) ∨ ((j : Int) < l.length ∧ ¬ (j : Int) < 2) := by have := HM.out.1; omega
      have HF : Hid (Below w.heap.size w wr ∧ bs = X ∧ fnd = Y) := ⟨HR.out.below, by rw [HX.out.1, hmj]; exact HR.out.bsE, by rw [HX.out.2, hmj]; exact HR.out.fndE⟩
      clear HR hmj hlt
      obtain ⟨b0, b1, b2, b3, br⟩ := bs
      unfold Sp.arr at gbest
      rcases hway with h1 | ⟨h1, h2⟩
      all_goals
        go_wp2_with (first | refine wpList_load_row rfl 33 _ rfl (w.heap.size + 1) rfl 33 _ (0, 0) _ gbest Tryz.underlying33 rfl (by kernel_rfl) ?_ | refine wpList_store_row rfl 33 _ _ rfl w.heap.size #[.int .i64 b0, .int .i64 b1, .int .i64 b2, .int .i64 b3, .string br] rfl rfl 33 _ gres (by kernel_rfl) rfl (by simp [Value.oneCell']) ?_)
        exact rcho_ret _ w.heap.size _ #[.int .i64 b0, .int .i64 b1, .int .i64 b2, .int .i64 b3, .string br] fnd _ rfl rfl (setRow_heap _ _ _ _ _ _ gres) rfl ⟨by rw [← HF.out.2.1, ← HF.out.2.2]; rfl, below_setRow HF.out.1 (Nat.le_refl _) _⟩
end Go.Proofs.YtdngoicpcocnnaaGreatDoor

namespace Go.Proofs.YtdngoicpcocnnaaGreatDoor
set_option maxRecDepth 20000
open Go.ChangeShapes Go.WideShapes Go.RowKit Go.Deep

instance : Inhabited Rg := ⟨Rg.zero⟩
theorem rgs_below {W W' : World} {v : Value} {l : List Rg} (h : Rgs W v l) (hb : Below W.heap.size W W') : Rgs W' v l := by
  rcases h with h | ⟨g, o, cap, e, hg, hx⟩
  · exact .inl h
  · exact .inr ⟨g, o, cap, e, Nat.lt_of_lt_of_le hg hb.size, fun i r hr => (hx i r hr).keep (hb.block g hg)⟩
section
variable {H : Type} {enc : TypeId × Value → H} {W : World}
theorem rg_add_plain (b o j : Nat) : (⟨b, o, none⟩ : Addr).add j = ⟨b, o + j, none⟩ := by unfold Addr.add; split <;> simp_all
set_option maxRecDepth 100000 in
theorem jhd_of_cells {fuel : Nat} {cs : List Value} {x : DataW H × List MemPlace} (h : DataW.trod enc Tryz.prog W 0 (fun _ => true) true fuel 79 cs = some x) : ∃ o : Hd, cs = o.arr.toList := by
  obtain ⟨xs, n, _, rfl, hl, hlen, hf⟩ := DataW.trod_struct Tryz.underlying79 h
  have h8 : Tryz.prog.cellsOf 79 = 8 := by kernel_rfl
  rw [h8] at hl
  match xs, hlen with
  | [y0, y1, y2, y3, y4, y5, y6, y7], _ =>
  match cs, hl with
  | [d0, d1, d2, d3, d4, d5, d6, d7], _ =>
  have g : ∀ (i o : Nat) (f : Field) (d : Value) (y : DataW H × List MemPlace), (match Tryz.prog.underlying 79 with | some (.struct fs) => fs[i]? | _ => none) = some f → f.type = 3 → f.offset = o → (([d0, d1, d2, d3, d4, d5, d6, d7] : List Value).drop o).take 1 = [d] → ([y0, y1, y2, y3, y4, y5, y6, y7] : List (DataW H × List MemPlace))[i]? = some y → DataW.trod enc Tryz.prog W 0 (fun _ => true) true n 3 [d] = some y := fun i o f d y h0 h1 h2 h4 h5 => by
    have h7 : Tryz.prog.cellsOf 3 = 1 := by kernel_rfl
    rw [Tryz.underlying79] at h0
    have := hf i f h0
    rw [h1, h2, h7, h4, h5] at this
    exact this
  have f0 := g 0 0 _ d0 y0 (by rw [Tryz.underlying79]; rfl) rfl rfl rfl rfl
  obtain ⟨k0, e0, _, _⟩ := DataW.trod_int Tryz.underlying3 f0
  have f1 := g 1 1 _ d1 y1 (by rw [Tryz.underlying79]; rfl) rfl rfl rfl rfl
  obtain ⟨k1, e1, _, _⟩ := DataW.trod_int Tryz.underlying3 f1
  have f2 := g 2 2 _ d2 y2 (by rw [Tryz.underlying79]; rfl) rfl rfl rfl rfl
  obtain ⟨k2, e2, _, _⟩ := DataW.trod_int Tryz.underlying3 f2
  have f3 := g 3 3 _ d3 y3 (by rw [Tryz.underlying79]; rfl) rfl rfl rfl rfl
  obtain ⟨k3, e3, _, _⟩ := DataW.trod_int Tryz.underlying3 f3
  have f4 := g 4 4 _ d4 y4 (by rw [Tryz.underlying79]; rfl) rfl rfl rfl rfl
  obtain ⟨k4, e4, _, _⟩ := DataW.trod_int Tryz.underlying3 f4
  have f5 := g 5 5 _ d5 y5 (by rw [Tryz.underlying79]; rfl) rfl rfl rfl rfl
  obtain ⟨k5, e5, _, _⟩ := DataW.trod_int Tryz.underlying3 f5
  have f6 := g 6 6 _ d6 y6 (by rw [Tryz.underlying79]; rfl) rfl rfl rfl rfl
  obtain ⟨k6, e6, _, _⟩ := DataW.trod_int Tryz.underlying3 f6
  have f7 := g 7 7 _ d7 y7 (by rw [Tryz.underlying79]; rfl) rfl rfl rfl rfl
  obtain ⟨k7, e7, _, _⟩ := DataW.trod_int Tryz.underlying3 f7
  simp only [List.cons.injEq, and_true] at e0 e1 e2 e3 e4 e5 e6 e7
  subst e0 e1 e2 e3 e4 e5 e6 e7
  exact ⟨⟨k0, k1, k2, k3, k4, k5, k6, k7⟩, rfl⟩
set_option maxRecDepth 100000 in
theorem rg_of_cells {fuel : Nat} {cs : List Value} {x : DataW H × List MemPlace} (h : DataW.trod enc Tryz.prog W 0 (fun _ => true) true fuel 81 cs = some x) : ∃ r : Rg, cs = r.arr.toList := by
  obtain ⟨xs, n, _, rfl, hl, hlen, hf⟩ := DataW.trod_struct Tryz.underlying81 h
  have h10 : Tryz.prog.cellsOf 81 = 10 := by kernel_rfl
  rw [h10] at hl
  match xs, hlen with
  | [y0, y1, y2], _ =>
  match cs, hl with
  | [d0, d1, d2, d3, d4, d5, d6, d7, d8, d9], _ =>
  have g : ∀ (i t o m : Nat) (f : Field) (ds : List Value) (y : DataW H × List MemPlace), (match Tryz.prog.underlying 81 with | some (.struct fs) => fs[i]? | _ => none) = some f → f.type = t → f.offset = o → Tryz.prog.cellsOf t = m → (([d0, d1, d2, d3, d4, d5, d6, d7, d8, d9] : List Value).drop o).take m = ds → ([y0, y1, y2] : List (DataW H × List MemPlace))[i]? = some y → DataW.trod enc Tryz.prog W 0 (fun _ => true) true n t ds = some y := fun i t o m f ds y h0 h1 h2 h3 h4 h5 => by
    rw [Tryz.underlying81] at h0
    have := hf i f h0
    rw [h1, h2, h3, h4, h5] at this
    exact this
  have f0 := g 0 4 0 1 _ [d0] y0 (by rw [Tryz.underlying81]; rfl) rfl rfl (by kernel_rfl) rfl rfl
  have f1 := g 1 79 1 8 _ [d1, d2, d3, d4, d5, d6, d7, d8] y1 (by rw [Tryz.underlying81]; rfl) rfl rfl (by kernel_rfl) rfl rfl
  have f2 := g 2 9 9 1 _ [d9] y2 (by rw [Tryz.underlying81]; rfl) rfl rfl (by kernel_rfl) rfl rfl
  obtain ⟨a0, h0', _⟩ := DataW.trod_bool Tryz.underlying4 f0
  obtain ⟨hh, h1'⟩ := jhd_of_cells f1
  obtain ⟨a2, h2', _⟩ := DataW.trod_string Tryz.underlying9 f2
  simp only [List.cons.injEq, and_true] at h0' h2'
  obtain ⟨v0, v1, v2, v3, v4, v5, v6, v7⟩ := hh
  simp only [Hd.arr, List.cons.injEq, and_true] at h1'
  obtain ⟨q1, q2, q3, q4, q5, q6, q7, q8⟩ := h1'
  subst h0' h2' q1 q2 q3 q4 q5 q6 q7 q8
  exact ⟨⟨a0, ⟨v0, v1, v2, v3, v4, v5, v6, v7⟩, _⟩, rfl⟩
set_option maxRecDepth 100000 in
theorem rgs_of_trod {v : Value} {d : DataW H} {p : List MemPlace} {base : Nat} (hok : Value.okWide Tryz.prog W .any base 31 v) (h : DataW.Trod enc Tryz.prog W 0 (fun _ => true) true 31 v d p) : ∃ l, Rgs W v l := by
  obtain ⟨a0, len, cap, rfl⟩ := okWide_slice Tryz.underlying31 hok
  obtain ⟨fuel, hf⟩ := h
  have hlt := DataW.trod_lt fuel _ _ _ hf
  have h6 : Tryz.prog.cellsOf 81 = 10 := by kernel_rfl
  rcases open_slice Tryz.underlying31 hf with ⟨hcs, hx⟩ | ⟨a, len', cap', m, n, D, Pl, hcs, _, hl, hm, hmm, hx0, hx⟩
  · simp [Value.cells] at hcs
    obtain ⟨rfl, rfl, rfl⟩ := hcs
    exact ⟨[], .inl ⟨none, 0, rfl, rfl⟩⟩
  · simp [Value.cells] at hcs
    obtain ⟨rfl, rfl, rfl⟩ := hcs
    simp only [if_true] at hmm
    by_cases h0 : len = 0
    · subst h0; exact ⟨[], .inl ⟨_, _, rfl, rfl⟩⟩
    rw [h6] at hx hx0
    simp only [Prod.mk.injEq] at hx0
    obtain ⟨hd0, hp0⟩ := hx0
    obtain ⟨b, off, spot⟩ := a
    have hsp : spot = none := by
      obtain ⟨cs', h1, h2⟩ := hx 0 (by omega)
      obtain ⟨_, hlen, hc⟩ := World.cells?_some h1
      have := hc 0 (by omega)
      rw [List.getElem?_eq_getElem (by omega)] at this
      simpa [Addr.add] using World.cell?_spot this
    subst hsp
    have hV : ∀ i, i < len → ∃ x : Rg, RgAt W b (off + i * 10) x := fun i hi => by
      obtain ⟨cs', h1, h2⟩ := hx i (by omega)
      obtain ⟨_, hlen, hc⟩ := World.cells?_some h1
      obtain ⟨x, rfl⟩ := rg_of_cells h2
      have g : ∀ c, c < 10 → W.cell? ⟨b, off + i * 10 + c, none⟩ = x.arr.toList[c]? := fun c hc6 => by
        rw [← hc c hc6, rg_add_plain, rg_add_plain]
      exact ⟨x, g 0 (by omega), g 1 (by omega), g 2 (by omega), g 3 (by omega), g 4 (by omega), g 5 (by omega), g 6 (by omega), g 7 (by omega), g 8 (by omega), g 9 (by omega)⟩
    obtain ⟨f, hf⟩ := choose_lt hV
    have hbW : b < W.heap.size := hlt (.cell b off) (by rw [hp0]; exact List.mem_append_left _ (MemPlace.mem_row.2 ⟨0, by omega, by simp⟩))
    refine ⟨(List.range len).map f, .inr ⟨b, off, cap, by simp, hbW, fun i u hu => ?_⟩⟩
    rw [List.getElem?_map] at hu
    have hi : i < len := by
      by_cases hi : i < len
      · exact hi
      · rw [List.getElem?_eq_none (by simp; omega)] at hu; cases hu
    rw [List.getElem?_range hi] at hu
    simp only [Option.map_some, Option.some.injEq] at hu
    rw [← hu]
    exact hf i hi
end
end Go.Proofs.YtdngoicpcocnnaaGreatDoor

namespace Go.Proofs.YtdngoicpcocnnaaGreatDoor
set_option maxRecDepth 20000
open Go.RowKit

set_option maxHeartbeats 4000000 in
theorem walk_journalChooses (v : Value) (l : List Rg) (live : Int) (w : World) (hv : Rgs w v l) (hg : ErrT w) : Calls Tryz.prog 4 #[v, .int .i64 live] w fun e w' => e = .returned (.bool true) ∧ Below w.heap.size w w' := by
  have h1 := jcho_any v l live w hv
  have HG : Hid (ErrT w ∧ Rgs w v l) := ⟨hg, hv⟩
  have hr := fun W (hW : Below w.heap.size w W) => rcho_any v l live W (rgs_below HG.out.2 hW)
  clear hg hv
  generalize osp (chO l live) = s at *
  generalize (chO l live).isSome = b at *
  obtain ⟨a0, a1, a2, a3, rt⟩ := s
  simp only [Sp.arr] at h1 hr
  go_enter Tryz.func4, Tryz.ntmps4
  go_wp2_with fail
  refine h1.mono ?_
  rintro e w1 ⟨rfl, hb1⟩
  have hb1' : Below w.heap.size w (w1.alloc (.cells #[.int .i64 a0, .int .i64 a1, .int .i64 a2, .int .i64 a3, .string rt] 33)) := hb1.alloc hb1.size _
  have h2 := hr _ hb1'
  have g1 := heap_alloc_new w1 (.cells #[.int .i64 a0, .int .i64 a1, .int .i64 a2, .int .i64 a3, .string rt] 33)
  have HB1 : Hid _ := hb1'
  clear h1 hr hb1 hb1'
  go_wp2_with fail
  refine h2.mono ?_
  rintro e w2 ⟨rfl, hb2⟩
  have hb2' : Below w.heap.size w w2 := HB1.out.trans (hb2.mono HB1.out.size)
  have g2 := (hb2.block w1.heap.size (by simp)).trans g1
  have g3 : (w2.alloc (.cells #[.int .i64 a0, .int .i64 a1, .int .i64 a2, .int .i64 a3, .string rt] 33)).heap[w1.heap.size]? = some (.cells #[.int .i64 a0, .int .i64 a1, .int .i64 a2, .int .i64 a3, .string rt] 33 (0, 0)) := (Below.heap_alloc _ _ _ (lt_of_block g2)).trans g2
  have g4 := heap_alloc_new w2 (.cells #[.int .i64 a0, .int .i64 a1, .int .i64 a2, .int .i64 a3, .string rt] 33)
  have HB2 : Hid (Below w.heap.size w (w2.alloc (.cells #[.int .i64 a0, .int .i64 a1, .int .i64 a2, .int .i64 a3, .string rt] 33))) := hb2'.alloc hb2'.size _
  have h3 := jawake_any _ (HG.out.1.bel HB2.out)
  have hbb : (b == b) = true := by cases b <;> rfl
  clear h2 hb2 hb2' g1 g2 HB1
  go_wp2_with (first | refine wpList_load_row rfl 33 _ rfl w1.heap.size rfl 33 _ (0, 0) _ g3 Tryz.underlying33 rfl (by kernel_rfl) ?_ | refine wpList_load_row rfl 33 _ rfl w2.heap.size rfl 33 _ (0, 0) _ g4 Tryz.underlying33 rfl (by kernel_rfl) ?_)
  refine h3.mono ?_
  rintro e w3 ⟨rfl, hb3⟩
  have HF : Hid (Below w.heap.size w w3) := HB2.out.trans (hb3.mono HB2.out.size)
  clear h3 hb3 HB2 g3 g4
  go_wp2
  go_ret
  exact ⟨by simp, HF.out⟩
end Go.Proofs.YtdngoicpcocnnaaGreatDoor
