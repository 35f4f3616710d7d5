/- The document's Put, called with any two numbers of type int, tells the bytes putS and the error putE, and changes nothing that was there. · The document's laid, called with two lists of as many numbers (at most 1000, of type int), tells the bytes of the numbers in their widths, or that one has no room, and changes nothing that was there. · The document's Noughts, called with a number from 0 to 4096, tells so many bytes 0, and changes nothing that was there. · The document's widths of a head's numbers. · The document's Head, called with any head, tells the bytes and the error of its numbers in their widths, and changes nothing that was there. -/
import Derived.Test.YtbmjablmmlnieaaGreatDoorMg01
import Derived.Test.YtbmjablmmlnieaaGreatDoorMg00
import Derived.Deep.RegionHeld3
import Derived.Deep.Cut
namespace Go.Proofs.YtbmjablmmlnieaaGreatDoor
set_option maxRecDepth 20000
open Go.RowKit

theorem rput_noWidth (n k : Int) (h : k < 1 ∨ 6 < k) (w : World) :
    Calls Tryz.prog 96 #[.int .i64 n, .int .i64 k] w fun e w' => e = .returned (.tuple #[.string ByteArray.empty, .int .i64 1]) ∧ w' = w := by
  rcases h with h | h
  · go_enter Tryz.func96, Tryz.ntmps96
    go_wp2
    go_ret2
    exact ⟨rfl, rfl⟩
  · have h1 : ¬ k < 1 := by omega
    go_enter Tryz.func96, Tryz.ntmps96
    go_wp2
    go_ret2
    exact ⟨rfl, rfl⟩

theorem rput_below (n : Int) (k : Nat) (h1 : 1 ≤ k) (h2 : k ≤ 6) (h : n < 0) (w : World) :
    Calls Tryz.prog 96 #[.int .i64 n, .int .i64 k] w fun e w' => e = .returned (.tuple #[.string ByteArray.empty, .int .i64 2]) ∧ w' = w := by
  have a1 : ¬ (k : Int) < 1 := by omega
  have a2 : ¬ (6 : Int) < k := by omega
  go_enter Tryz.func96, Tryz.ntmps96
  go_wp2
  go_ret2
  exact ⟨rfl, rfl⟩

set_option maxHeartbeats 400000 in
theorem rput_in (n : Int) (k : Nat) (h1 : 1 ≤ k) (h2 : k ≤ 6) (h0 : 0 ≤ n) (hm : n ≤ 9223372036854775807) (w : World) :
    Calls Tryz.prog 96 #[.int .i64 n, .int .i64 k] w fun e w' => e = .returned (.tuple #[.string (putS n k), .int .i64 (putE n k)]) ∧ Below w.heap.size w w' := by
  have a1 : ¬ (k : Int) < 1 := by omega
  have a2 : ¬ (6 : Int) < k := by omega
  have a3 : ¬ n < 0 := by omega
  obtain ⟨i0, hi, hz0, hz1, hz2⟩ := info_parts info5
  go_enter Tryz.func96, Tryz.ntmps96
  go_wp2
  go_loopw [0, 6, 7] (fun x v i wr => ∃ j : Nat, j ≤ k ∧ i = .int .i64 j ∧ x = .int .i64 (n / 256 ^ j) ∧ wr.ownsRow w.heap.size 5 1 v j ((leI j n).map (Value.int .u8)) ∧ Below w.heap.size w wr) (fun _ _ i _ => k - (intOf i).toNat)
  case atStart => exact ⟨0, Nat.zero_le _, rfl, by simp, World.ownsRow_nil _ _ _ _, Below.refl _ _⟩
  case round =>
    obtain ⟨j, hj, rfl, rfl, hown, hb⟩ := hrel
    obtain ⟨q, hq⟩ : ∃ q, q = n / 256 ^ j := ⟨_, rfl⟩
    have hq0 : 0 ≤ q := by rw [hq]; exact Int.ediv_nonneg h0 (Int.le_of_lt (Int.pow_pos (by decide)))
    have hqm : q ≤ 9223372036854775807 := by rw [hq]; exact Int.le_trans (Int.ediv_le_self _ h0) hm
    rw [← hq]
    have HQ : Hid (q = n / 256 ^ j) := hq
    clear hq
    by_cases hlt : j < k
    · go_wp2_with (at_builtin; refine wpList_append_own _ rfl _ _ 92 rfl w.heap.size 5 i0 (.int .u8 0) 1 1 Tryz.underlying92 hi hz0 hz1 hz2 rfl (by decide) _ _ _ rfl (hown.alloc _) ⟨wr.heap.size, 0, none⟩ 1 1 [.int .u8 (q % 256)] rfl rfl ?c1 ?c2 ?c3 ?c4 ?c5 ?_)
      case c1 => intro i u hi; match i, hi with | 0, hi => simp at hi; subst hi; simp [Addr.add]
      case c2 => intro u hu; simp at hu; subst hu; rfl
      case c3 => unfold maxLen; omega
      case c4 => omega
      case c5 => have := hb.size; simp; omega
      intro v' w2 hown' hgrow _
      have hb2 : Below w.heap.size w w2 := (hb.alloc hb.size _).grown hgrow (by have := hb.size; simp; omega) (fun g hg => by
        rcases hown.2 with ⟨rfl, _⟩ | ⟨g', cap, cur, rfl, hg', _⟩
        · simp [Value.ownBlock] at hg
        · simp [Value.ownBlock] at hg; omega)
      clear hown hgrow hb
      go_wp2
      go_roundw
      case rel =>
        refine ⟨j + 1, by omega, by go_num, ?_, ?_, hb2⟩
        · rw [HQ.out, leI_step]
        · rw [leI_succ, List.map_append, ← HQ.out]; exact hown'
      case measure => simp [intOf]; omega
    · have hjk : j = k := by omega
      subst hjk
      by_cases hz : 0 < q
      · have hge : 256 ^ j ≤ n := by
          rw [HQ.out] at hz
          rcases Int.lt_or_le n (256 ^ j) with h | h
          · rw [Int.ediv_eq_zero_of_lt h0 h] at hz; omega
          · exact h
        have HS : Hid (putS n j = ByteArray.empty ∧ putE n j = 2) := ⟨putS_noRoom (.inr hge), putE_noRoom h1 h2 (.inr hge)⟩
        clear hge
        go_wp2
        go_ret2
        exact ⟨by rw [HS.out.1, HS.out.2]; rfl, hb⟩
      · have hlt' : n < 256 ^ j := by
          rw [HQ.out] at hz
          rcases Int.lt_or_le n (256 ^ j) with h | h
          · exact h
          · exact absurd ((Int.le_ediv_iff_mul_le (c := 256 ^ j) (a := 1) (b := n) (Int.pow_pos (by decide))).2 (by omega)) (by omega)
        have HS : Hid (putS n j = strOfNums (leI j n) ∧ putE n j = 0) := ⟨putS_ok h1 h2 h0 hlt', putE_ok h1 h2 h0 hlt'⟩
        clear hlt'
        have hex : ∃ g cap, u6 = .slice (some ⟨g, 0, none⟩) j cap := by
          rcases hown.2 with ⟨_, h⟩ | ⟨g, cap, cur, h, _⟩
          · omega
          · exact ⟨g, cap, h⟩
        obtain ⟨g, cap, hv⟩ := hex
        rw [hv] at hown ⊢
        have hcv := run_convert_bytes_arg (P := Tryz.prog) wr 92 5 Tryz.underlying92 Tryz.underlying5 g 0 j cap (leI j n) (leI_length j n) (fun i hi => by
          rw [Nat.zero_add, hown.cellAt i (by omega)]
          simp [leI_length, hi, List.getD]) 9 Tryz.underlying9
        clear hv
        go_wp2
        go_ret2
        exact ⟨by rw [HS.out.1, HS.out.2]; rfl, hb⟩

/-- The document's Put, whatever it is handed. -/
theorem rput_any (n k : Int) (hm : n ≤ 9223372036854775807) (w : World) :
    Calls Tryz.prog 96 #[.int .i64 n, .int .i64 k] w fun e w' => e = .returned (.tuple #[.string (putS n k), .int .i64 (putE n k)]) ∧ Below w.heap.size w w' := by
  by_cases hk : k < 1 ∨ 6 < k
  · refine (rput_noWidth n k hk w).mono fun e w' ⟨he, hw⟩ => ?_
    rw [putS_noWidth hk, putE_noWidth hk]
    exact ⟨he, hw ▸ Below.refl _ _⟩
  · obtain ⟨m, rfl⟩ := Int.eq_ofNat_of_zero_le (show 0 ≤ k by omega)
    have h1 : 1 ≤ m := by omega
    have h2 : m ≤ 6 := by omega
    by_cases hn : n < 0
    · refine (rput_below n m h1 h2 hn w).mono fun e w' ⟨he, hw⟩ => ?_
      rw [putS_noRoom (.inl hn), putE_noRoom h1 h2 (.inl hn)]
      exact ⟨he, hw ▸ Below.refl _ _⟩
    · exact rput_in n m h1 h2 (by omega) hm w
end Go.Proofs.YtbmjablmmlnieaaGreatDoor

namespace Go.Proofs.YtbmjablmmlnieaaGreatDoor
set_option maxRecDepth 20000
open Go.RowKit Go.Lib

theorem laidOk_take : ∀ (ps : List (Int × Int)) (j : Nat) (h : j < ps.length), laidOk (ps.take (j + 1)) = (laidOk (ps.take j) && (putE ps[j].1 ps[j].2 == 0))
  | p :: r, 0, _ => by simp [laidOk]
  | p :: r, j + 1, h => by
    have ih := laidOk_take r j (by simpa using h)
    rw [List.take_succ_cons, List.take_succ_cons, laidOk, laidOk, ih]
    simp [Bool.and_assoc]
theorem laidL_take (ps : List (Int × Int)) (j : Nat) (h : j < ps.length) : laidL (ps.take (j + 1)) = laidL (ps.take j) ++ (putS ps[j].1 ps[j].2).data.toList := by
  rw [List.take_succ_eq_append_getElem h, laidL_append]
  simp [laidL]
theorem laidOk_stop : ∀ (ps : List (Int × Int)) (j : Nat) (h : j < ps.length), (putE ps[j].1 ps[j].2 != 0) = true → laidOk ps = false
  | p :: r, 0, _, e => by simp [laidOk] at e ⊢; intro h; exact absurd h e
  | p :: r, j + 1, h, e => by
    have := laidOk_stop r j (by simpa using h) (by simpa using e)
    simp [laidOk, this]

def laidS (ps : List (Int × Int)) : ByteArray := if laidOk ps = true then ⟨(laidL ps).toArray⟩ else ByteArray.empty
theorem laidS_ok {ps : List (Int × Int)} (h : laidOk ps = true) : laidS ps = ⟨(laidL ps).toArray⟩ := by simp [laidS, h]
theorem laidS_no {ps : List (Int × Int)} (h : laidOk ps = false) : laidS ps = ByteArray.empty := by simp [laidS, h]
theorem rec_text (pre : ByteArray) (l : List UInt8) (z : Nat) : pre ++ ⟨l.toArray⟩ ++ noughtsS z = ⟨(pre.data.toList ++ l ++ List.replicate z 0).toArray⟩ := by
  rw [pad_append]
  congr 1

set_option maxHeartbeats 1000000 in
theorem rlaid_any (ps : List (Int × Int)) (n : Nat) (hn : ps.length = n) (hn2 : n ≤ 1000) (ba bb ca cb : Nat) (w : World) (hba : ba < w.heap.size) (hbb : bb < w.heap.size)
    (hca : ∀ i (h : i < ps.length), w.cell? ⟨ba, i, none⟩ = some (.int .i64 ps[i].1)) (hcb : ∀ i (h : i < ps.length), w.cell? ⟨bb, i, none⟩ = some (.int .i64 ps[i].2))
    (hm : ∀ i (h : i < ps.length), ps[i].1 ≤ 9223372036854775807) :
    Calls Tryz.prog 66 #[.slice (some ⟨ba, 0, none⟩) n ca, .slice (some ⟨bb, 0, none⟩) n cb] w fun e w' =>
      e = .returned (.tuple #[.string (laidS ps), .bool (laidOk ps)]) ∧ Below w.heap.size w w' := by
  have HCA : Hid (∀ i (h : i < ps.length), w.cell? ⟨ba, i, none⟩ = some (.int .i64 ps[i].1)) := hca
  have HCB : Hid (∀ i (h : i < ps.length), w.cell? ⟨bb, i, none⟩ = some (.int .i64 ps[i].2)) := hcb
  have HM : Hid (∀ i (h : i < ps.length), ps[i].1 ≤ 9223372036854775807) := hm
  have HN : Hid (ps.length = n) := hn
  clear hca hcb hm hn
  go_enter Tryz.func66, Tryz.ntmps66
  go_wp2
  go_loopw [6, 7] (fun s i wr => ∃ j : Nat, j ≤ n ∧ i = .int .i64 j ∧ s = .string ⟨(laidL (ps.take j)).toArray⟩ ∧ laidOk (ps.take j) = true ∧ Below w.heap.size w wr) (fun _ i _ => n - (Go.RowKit.intOf i).toNat)
  case atStart => exact ⟨0, Nat.zero_le _, rfl, by simp [laidL], rfl, Below.refl _ _⟩
  case round =>
    obtain ⟨j, hj, rfl, rfl, hok, hb⟩ := hrel
    have HK : Hid (laidOk (ps.take j) = true) := hok
    clear hok
    by_cases hlt : j < n
    · have hjl : j < ps.length := by rw [HN.out]; exact hlt
      obtain ⟨x, hx⟩ : ∃ x, x = ps[j].1 := ⟨_, rfl⟩
      obtain ⟨k, hk⟩ : ∃ k, k = ps[j].2 := ⟨_, rfl⟩
      have c1 : wr.cell? ⟨ba, j, none⟩ = some (.int .i64 x) := by rw [hx]; exact (hb.cell (p := ⟨ba, j, none⟩) hba).trans (HCA.out j hjl)
      have c2 : wr.cell? ⟨bb, j, none⟩ = some (.int .i64 k) := by rw [hk]; exact (hb.cell (p := ⟨bb, j, none⟩) hbb).trans (HCB.out j hjl)
      have hxm : x ≤ 9223372036854775807 := by rw [hx]; exact HM.out j hjl
      have HX : Hid (x = ps[j].1 ∧ k = ps[j].2) := ⟨hx, hk⟩
      clear hx hk
      have i1 : (0 : Int) ≤ (j : Int) := by omega
      have i2 : (j : Int) < (n : Int) := by omega
      go_wp2
      have hsz := hb.size
      go_region_held3 (fun w' => w'.cell? ⟨ba, j, none⟩ = some (.int .i64 x) ∧ w'.cell? ⟨bb, j, none⟩ = some (.int .i64 k)) (simp [go_sem, *])
        (first | (go_at_call 96; refine (rput_any x k hxm _).mono ?_; rintro e w1 ⟨rfl, hb1⟩; have k1 := (hb1.cell (p := ⟨ba, j, none⟩) (by simp; omega)).trans (by simpa using c1); have k2 := (hb1.cell (p := ⟨bb, j, none⟩) (by simp; omega)).trans (by simpa using c2)))
      have hb2 : Below w.heap.size w w1 := by
        refine Below.trans ?_ (hb1.mono (by simp; omega))
        repeat (first | exact hb | apply Below.drew)
      clear hb1 k1 k2 c1 c2
      have hadd := fun w2 => run_string_add_sum (P := Tryz.prog) (w := w2) ⟨(laidL (ps.take j)).toArray⟩ (putS x k) (by
        have h1 := laidL_le (ps.take j)
        have h2 : (ps.take j).length ≤ j := List.length_take_le _ _
        have h3 : (putS x k).size ≤ 6 := by have := putS_le x k; simpa using this
        have h4 : (⟨(laidL (ps.take j)).toArray⟩ : ByteArray).size = (laidL (ps.take j)).length := by simp [ByteArray.size]
        omega)
      by_cases hz : putE x k = 0
      · have hzb : (putE x k != 0) = false := by rw [hz]; rfl
        have HZ : Hid (putE x k = 0) := hz
        clear hz
        go_wp2
        go_roundw
        case rel =>
          refine ⟨j + 1, by omega, by go_num, ?_, ?_, hb2⟩
          · rw [laidL_take ps j hjl, ← HX.out.1, ← HX.out.2]
            congr 1
          · rw [laidOk_take ps j hjl, HK.out, ← HX.out.1, ← HX.out.2, HZ.out]; rfl
        case measure => simp [Go.RowKit.intOf]; omega
      · have hzb : (putE x k != 0) = true := by simpa using hz
        have HL : Hid (laidOk ps = false) := laidOk_stop ps j hjl (by rw [← HX.out.1, ← HX.out.2]; exact hzb)
        clear hz
        go_wp2
        go_ret2
        refine ⟨?_, hb2⟩
        unfold laidS
        rw [HL.out]
        rfl
    · have hjn : j = n := by omega
      subst hjn
      have HT : Hid (ps.take j = ps) := List.take_of_length_le (by rw [HN.out]; exact Nat.le_refl _)
      go_wp2
      go_ret2
      refine ⟨?_, hb⟩
      have hok := HK.out
      rw [HT.out] at hok
      unfold laidS
      rw [if_pos hok, hok]
      show Ending.returned (.tuple #[.string ⟨(laidL (ps.take j)).toArray⟩, .bool true]) = _
      rw [HT.out]

theorem cells_of_block {w : World} {b : Nat} {xs : List Int} {t : TypeId} (h : w.heap[b]? = some (.cells (xs.map (Value.int .i64)).toArray t (0, 0))) (i : Nat) (hi : i < xs.length) : w.cell? ⟨b, i, none⟩ = some (.int .i64 xs[i]) := by
  simp [World.cell?, h, hi]
/-- The same, the lists' cells told by their blocks. -/
theorem rlaid_blk (ps : List (Int × Int)) (n : Nat) (hn : ps.length = n) (hn2 : n ≤ 1000) (ba bb ca cb : Nat) (w : World) (ta tb : TypeId)
    (hA : w.heap[ba]? = some (.cells ((ps.map (·.1)).map (Value.int .i64)).toArray ta (0, 0))) (hB : w.heap[bb]? = some (.cells ((ps.map (·.2)).map (Value.int .i64)).toArray tb (0, 0)))
    (hm : ∀ p ∈ ps, p.1 ≤ 9223372036854775807) :
    Calls Tryz.prog 66 #[.slice (some ⟨ba, 0, none⟩) n ca, .slice (some ⟨bb, 0, none⟩) n cb] w fun e w' =>
      e = .returned (.tuple #[.string (laidS ps), .bool (laidOk ps)]) ∧ Below w.heap.size w w' :=
  rlaid_any ps n hn hn2 ba bb ca cb w (lt_of_block hA) (lt_of_block hB)
    (fun i h => by have := cells_of_block hA i (by simpa using h); simpa using this) (fun i h => by have := cells_of_block hB i (by simpa using h); simpa using this) (fun i h => hm _ (List.getElem_mem h))
theorem below1 (w : World) (o1 : Obj) : Below w.heap.size w (w.alloc o1) := (Below.refl _ _).alloc (Nat.le_refl _) _
theorem below2 (w : World) (o1 o2 : Obj) : Below w.heap.size w ((w.alloc o1).alloc o2) := (below1 w o1).alloc (by simp) _
theorem below3 (w : World) (o1 o2 o3 : Obj) : Below w.heap.size w (((w.alloc o1).alloc o2).alloc o3) := (below2 w o1 o2).alloc (by simp; omega) _
theorem heap3_1 (w : World) (o1 o2 o3 : Obj) : (((w.alloc o1).alloc o2).alloc o3).heap[w.heap.size + 1]? = some o2 := by
  rw [Below.heap_alloc _ _ _ (by simp)]
  have := heap_alloc_new (w.alloc o1) o2
  rwa [World.size_alloc] at this
theorem heap3_2 (w : World) (o1 o2 o3 : Obj) : (((w.alloc o1).alloc o2).alloc o3).heap[w.heap.size + 1 + 1]? = some o3 := by
  have := heap_alloc_new ((w.alloc o1).alloc o2) o3
  rwa [World.size_alloc, World.size_alloc] at this
end Go.Proofs.YtbmjablmmlnieaaGreatDoor

namespace Go.Proofs.YtbmjablmmlnieaaGreatDoor
set_option maxRecDepth 20000
open Go.RowKit

/-- The document's Noughts. -/
theorem noughts_any (n : Nat) (h : n ≤ 4096) (w : World) :
    Calls Tryz.prog 64 #[.int .i64 n] w fun e w' => e = .returned (.string (noughtsS n)) ∧ Below w.heap.size w w' := by
  obtain ⟨i0, hi, hz0, hz1, hz2⟩ := info_parts info5
  go_enter Tryz.func64, Tryz.ntmps64
  go_wp2_with (at_make; refine wpList_make_full _ rfl _ _ 92 rfl w.heap.size 5 i0 (.int .u8 0) 1 Tryz.underlying92 hi hz0 hz1 .i64 .i64 _ _ n rfl rfl rfl rfl ?c1 ?c2 (Nat.le_refl _) ?_)
  case c1 => first | omega | (rw [hz2]; omega)
  case c2 => unfold maxLen; omega
  intro w1 hown1 hgrow1
  have hb1 : Below w.heap.size w w1 := (Below.refl _ _).grown hgrow1 (Nat.le_refl _) (fun k hk => by simp at hk)
  have hown2 : w1.ownsRow w.heap.size 5 1 (.slice (some ⟨w.heap.size, 0, none⟩) n n) n (List.replicate n (Value.int .u8 0)) := by
    simpa [toList_madeCells_one, Value.cells] using hown1
  clear hown1 hgrow1
  have hcv := run_convert_bytes_arg (P := Tryz.prog) w1 92 5 Tryz.underlying92 Tryz.underlying5 w.heap.size 0 n n (List.replicate n 0) (by simp) (fun i hi => by
    rw [Nat.zero_add, hown2.cellAt i (by omega)]
    simp [hi, List.getD]) 9 Tryz.underlying9
  rw [show strOfNums (List.replicate n 0) = noughtsS n from rfl] at hcv
  clear hown2
  go_wp2
  go_ret
  exact ⟨rfl, hb1⟩
/-- The same, its argument told by an equation. -/
theorem noughts_z (z : Int) (n : Nat) (hz : z = n) (h : n ≤ 4096) (w : World) :
    Calls Tryz.prog 64 #[.int .i64 z] w fun e w' => e = .returned (.string (noughtsS n)) ∧ Below w.heap.size w w' := by
  subst hz
  exact noughts_any n h w
end Go.Proofs.YtbmjablmmlnieaaGreatDoor

namespace Go.Proofs.YtbmjablmmlnieaaGreatDoor
set_option maxRecDepth 20000
open Go.RowKit

theorem headWidths_any (w : World) :
    Calls Tryz.prog 67 #[] w fun e w' => e = .returned (.slice (some ⟨w.heap.size, 0, none⟩) 8 8) ∧ w' = w.alloc (.cells #[.int .i64 6, .int .i64 4, .int .i64 2, .int .i64 4, .int .i64 4, .int .i64 4, .int .i64 6, .int .i64 6] 3) := by
  go_enter Tryz.func67, Tryz.ntmps67
  go_wp2
  go_ret
  exact ⟨rfl, rfl⟩
end Go.Proofs.YtbmjablmmlnieaaGreatDoor

namespace Go.Proofs.YtbmjablmmlnieaaGreatDoor
set_option maxRecDepth 20000
open Go.RowKit Go.Lib

set_option maxHeartbeats 1000000 in
theorem rhead_any (a0 a1 a2 a3 a4 a5 a6 a7 : Int) (hm : ∀ p ∈ headPs a0 a1 a2 a3 a4 a5 a6 a7, p.1 ≤ 9223372036854775807) (w : World) :
    Calls Tryz.prog 32 #[.agg #[.int .i64 a0, .int .i64 a1, .int .i64 a2, .int .i64 a3, .int .i64 a4, .int .i64 a5, .int .i64 a6, .int .i64 a7]] w fun e w' =>
      e = .returned (.tuple #[.string (recS [71, 82, 80, 78] (headPs a0 a1 a2 a3 a4 a5 a6 a7) 8), .int .i64 (recE (headPs a0 a1 a2 a3 a4 a5 a6 a7))]) ∧ Below w.heap.size w w' := by
  have HM : Hid (∀ p ∈ headPs a0 a1 a2 a3 a4 a5 a6 a7, p.1 ≤ 9223372036854775807) := hm
  clear hm
  have HL : Hid (laidOk (headPs a0 a1 a2 a3 a4 a5 a6 a7) = true → (laidL (headPs a0 a1 a2 a3 a4 a5 a6 a7)).length = 36) := fun h => laidL_length _ h
  obtain ⟨ps, hps⟩ : ∃ ps, ps = headPs a0 a1 a2 a3 a4 a5 a6 a7 := ⟨_, rfl⟩
  have HP : Hid (ps = headPs a0 a1 a2 a3 a4 a5 a6 a7) := hps
  rw [← hps] at HL HM ⊢
  clear hps
  go_enter Tryz.func32, Tryz.ntmps32
  go_wp2_with fail
  go_cut [4, 5] from 6 (fun s b wc => s = .string (laidS ps) ∧ b = .bool (laidOk ps) ∧ Below w.heap.size w wc)
  case first =>
    go_region_held3 (fun w' => w'.cell? ⟨w.heap.size, 0, none⟩ = some (.int .i64 a0) ∧ w'.cell? ⟨w.heap.size, 1, none⟩ = some (.int .i64 a1) ∧ w'.cell? ⟨w.heap.size, 2, none⟩ = some (.int .i64 a2) ∧ w'.cell? ⟨w.heap.size, 3, none⟩ = some (.int .i64 a3) ∧ w'.cell? ⟨w.heap.size, 4, none⟩ = some (.int .i64 a4) ∧ w'.cell? ⟨w.heap.size, 5, none⟩ = some (.int .i64 a5) ∧ w'.cell? ⟨w.heap.size, 6, none⟩ = some (.int .i64 a6) ∧ w'.cell? ⟨w.heap.size, 7, none⟩ = some (.int .i64 a7)) (simp [go_sem, World.cell?_alloc_past, *])
      (first | (go_at_call 67; refine (headWidths_any _).mono ?_; rintro e w1 ⟨rfl, rfl⟩) | (go_at_call 66; refine (rlaid_blk (headPs a0 a1 a2 a3 a4 a5 a6 a7) 8 rfl (by decide) _ _ 8 8 _ 3 3 (by first | exact heap3_1 w _ _ _ | exact heap3_2 w _ _ _) (by first | exact heap3_1 w _ _ _ | exact heap3_2 w _ _ _) (by rw [← HP.out]; exact HM.out)).mono ?_; rintro e w1 ⟨rfl, hbl⟩; have hk : ∀ i, w1.cell? ⟨w.heap.size, i, none⟩ = _ := fun i => hbl.cell (p := ⟨w.heap.size, i, none⟩) (by simp; omega)))
    all_goals
      go_wp2_with fail
      go_meet
      exact ⟨by rw [HP.out], by rw [HP.out], by
        exact (below3 w _ _ _).drew.trans (hbl.mono (by simp; omega))⟩
  case rest =>
    obtain ⟨rfl, rfl, hb⟩ := hcut
    cases ho : laidOk ps with
    | false =>
      have HO : Hid (laidOk ps = false) := ho
      clear ho
      go_wp2
      go_ret2
      exact ⟨by rw [recS_no HO.out, recE_no HO.out]; rfl, hb⟩
    | true =>
      have HO : Hid (laidOk ps = true) := ho
      rw [laidS_ok ho]
      have hsz : (⟨(laidL ps).toArray⟩ : ByteArray).size = 36 := by rw [← HL.out ho]; simp [ByteArray.size]
      clear ho
      have hadd := fun w2 => run_string_add_sum (P := Tryz.prog) (w := w2) ⟨#[71, 82, 80, 78]⟩ ⟨(laidL ps).toArray⟩ (by rw [hsz]; decide)
      have hadd2 := fun w2 => run_string_add_sum (P := Tryz.prog) (w := w2) (⟨#[71, 82, 80, 78]⟩ ++ ⟨(laidL ps).toArray⟩) (noughtsS 8) (by
        rw [noughtsS_size, ByteArray.size_append, hsz]; decide)
      clear hsz
      go_wp2_with fail
      refine (noughts_any 8 (by decide) _).mono ?_
      rintro e w3 ⟨rfl, hb3⟩
      go_wp2
      go_ret2
      refine ⟨?_, hb.trans (hb3.mono hb.size)⟩
      rw [recS_ok HO.out, recE_ok HO.out, ← rec_text ⟨#[71, 82, 80, 78]⟩ (laidL ps) 8]
      rfl
end Go.Proofs.YtbmjablmmlnieaaGreatDoor
